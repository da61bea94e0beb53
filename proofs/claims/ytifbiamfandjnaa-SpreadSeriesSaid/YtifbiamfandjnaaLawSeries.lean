import Derived.Test.YtifbiamfandjnaaPairsFn
import Derived.Test.YtifbiamfandjnaaAwake
import Derived.Test.YtifbiamfandjnaaOpenArgs
import Derived.Deep.RegionHeld3
set_option linter.unusedSimpArgs false
set_option linter.unusedVariables false
namespace Go.Proofs.Ytifbiamfandjnaa
open Go Go.Proofs Go.RowKit
set_option maxHeartbeats 2000000 in
set_option maxRecDepth 100000 in
theorem ser_nn {b dg : Int} {n : Int} {W1 : Nat} {T : Nat → Nat}
    (q40 : ∀ w : World, Calls Try.prog 40 #[.int .i64 b, .int .i64 dg, .int .i64 n] w fun e w' => e = .returned (.tuple #[.slice none 0 0, .int .i64 2]) ∧ w' = w)
    (hc : n < 1 ∨ (1 ≤ n ∧ 60 < n) ∨ (1 ≤ n ∧ n ≤ 60 ∧ (W1 : Int) < n))
    (q41 : ∀ w : World, Calls Try.prog 41 #[.int .i64 b, .int .i64 dg] w fun e w' => e = .returned (.tuple #[.slice none 0 0, .int .i64 2]) ∧ w' = w)
    (q42b : ∀ w : World, Calls Try.prog 42 #[.int .i64 b, .int .i64 dg, .int .i64 60] w fun e w' => e = .returned (.int .i64 0) ∧ w' = w)
    (q42 : ∀ w : World, Calls Try.prog 42 #[.int .i64 b, .int .i64 dg, .int .i64 1000] w fun e w' => e = .returned (.int .i64 W1) ∧ w' = w)
    (w : World) :
    Calls Try.prog 7 #[.int .i64 b, .int .i64 dg, .int .i64 n] w fun e w' => e = .returned (.bool true) ∧ Below w.heap.size w w' := by
  go_enter Try.func7, Try.ntmps7
  rcases hc with hc | ⟨hc, hc'⟩ | ⟨hc, hc', hc''⟩
  all_goals
    go_wp2_with (first
    | (go_at_call 40; (with_reducible refine (q40 _).mono ?_); rintro e w1 ⟨rfl, rfl⟩)
    | (go_at_call 41; (with_reducible refine (q41 _).mono ?_); rintro e w2 ⟨rfl, rfl⟩)
    | (go_at_call 42; (with_reducible refine (q42 _).mono ?_); rintro e w3 ⟨rfl, hw3⟩; subst w3)
    | (go_at_call 42; (with_reducible refine (q42b _).mono ?_); rintro e w3 ⟨rfl, hw3⟩; subst w3)
    | (go_at_call 19; refine (awake_any _).mono ?_; rintro e w9 ⟨rfl, hb9⟩))
    go_ret
    exact ⟨rfl, hb9⟩
set_option maxHeartbeats 2000000 in
set_option maxRecDepth 100000 in
theorem ser_ny {b dg : Int} {n : Int} {W1 m : Nat} {T : Nat → Nat}
    (q40 : ∀ w : World, Calls Try.prog 40 #[.int .i64 b, .int .i64 dg, .int .i64 n] w fun e w' => e = .returned (.tuple #[.slice none 0 0, .int .i64 2]) ∧ w' = w)
    (hc : n < 1 ∨ (1 ≤ n ∧ 60 < n) ∨ (1 ≤ n ∧ n ≤ 60 ∧ (W1 : Int) < n))
    (q41 : ∀ w : World, Calls Try.prog 41 #[.int .i64 b, .int .i64 dg] w fun e w' => ∃ G, e = .returned (.tuple #[.slice (some ⟨G, 0, none⟩) m m, .int .i64 0]) ∧ Keep (∀ j, j < m → w'.cell? ⟨G, j * 2, none⟩ = some (.int .i64 (j : Nat)) ∧ w'.cell? ⟨G, j * 2 + 1, none⟩ = some (.int .i64 (T j : Nat))) ∧ Below w.heap.size w w')
    (m1 : 1 ≤ m) (m2 : m ≤ 60) (q42b : ∀ w : World, Calls Try.prog 42 #[.int .i64 b, .int .i64 dg, .int .i64 60] w fun e w' => e = .returned (.int .i64 m) ∧ w' = w)
    (q42 : ∀ w : World, Calls Try.prog 42 #[.int .i64 b, .int .i64 dg, .int .i64 1000] w fun e w' => e = .returned (.int .i64 W1) ∧ w' = w)
    (q43 : Keep (∀ (k : Nat) (w : World), k ≤ 60 → Calls Try.prog 43 #[.int .i64 b, .int .i64 dg, .int .i64 k] w fun e w' => e = .returned (.int .i64 (T k : Nat)) ∧ w' = w))
    (w : World) :
    Calls Try.prog 7 #[.int .i64 b, .int .i64 dg, .int .i64 n] w fun e w' => e = .returned (.bool true) ∧ Below w.heap.size w w' := by
  have m0 : ((m : Int) == 0) = false := by rw [beq_eq_false_iff_ne]; omega
  go_enter Try.func7, Try.ntmps7
  rcases hc with hc | ⟨hc, hc'⟩ | ⟨hc, hc', hc''⟩
  all_goals
    go_wp2_with (first
    | (go_at_call 40; (with_reducible refine (q40 _).mono ?_); rintro e w1 ⟨rfl, rfl⟩)
    | (go_at_call 41; (with_reducible refine (q41 _).mono ?_); rintro e w2 ⟨G, rfl, hG2, hb2⟩)
    | (go_at_call 42; (with_reducible refine (q42 _).mono ?_); rintro e w3 ⟨rfl, hw3⟩; subst w3)
    | (go_at_call 42; (with_reducible refine (q42b _).mono ?_); rintro e w3 ⟨rfl, hw3⟩; subst w3))
    have hbwr : Below w1.heap.size w1 w2 := hb2
    have hGr := hG2
    clear hG2 hb2 q40 q41 q42
    have hbk : Keep (Below w1.heap.size w1 w2) := ⟨hbwr⟩
    clear hbwr
    go_loopw [13] (fun i wr => ∃ k : Nat, k ≤ m ∧ i = .int .i64 k ∧ Below w2.heap.size w2 wr) (fun i _ => m - (intOf i).toNat)
    case atStart => exact ⟨0, by omega, rfl, Below.refl _ _⟩
    case round =>
      obtain ⟨k, hk, rfl, hbq⟩ := hrel
      by_cases hlt : k < m
      · obtain ⟨hp1, hp2⟩ := hGr.out k hlt
        have hp1 := cell_below hp1 hbq
        have hp2 := cell_below hp2 hbq
        have q43k := fun w => q43.out k w (by omega)
        obtain ⟨t, ht⟩ : ∃ t : Int, ((T k : Nat) : Int) = t := ⟨_, rfl⟩
        rw [ht] at hp2 q43k
        clear ht
        have hbq' : Keep (Below w2.heap.size w2 wr) := ⟨hbq⟩
        clear hbq
        go_wp2
        go_region_held3 (fun w' => w'.cell? ⟨G, k * 2, none⟩ = some (.int .i64 k) ∧ w'.cell? ⟨G, k * 2 + 1, none⟩ = some (.int .i64 t)) (first | exact ⟨hp1, hp2⟩ | go_keep)
          ((first
           | (go_at_call 43; (with_reducible refine (q43k _).mono ?_); rintro e w6 ⟨rfl, rfl⟩)))
        all_goals go_wp2
        all_goals exact ⟨⟨k + 1, by omega, by go_num, below_drewN hbq'.out 1⟩, by simp [intOf]; omega⟩
      · have : k = m := by omega
        subst this
        have hbe : Below w1.heap.size w1 wr := hbk.out.trans (hbq.mono hbk.out.size)
        clear hbq
        go_wp2_with (go_at_call 19; refine (awake_any _).mono ?_; rintro e w9 ⟨rfl, hb9⟩)
        go_ret
        exact ⟨rfl, hbe.trans (hb9.mono hbe.size)⟩
set_option maxHeartbeats 2000000 in
set_option maxRecDepth 100000 in
theorem ser_yn {b dg : Int} {n : Nat} {W1 : Nat} {T : Nat → Nat}
    (q40 : ∀ w : World, Calls Try.prog 40 #[.int .i64 b, .int .i64 dg, .int .i64 n] w fun e w' => ∃ g cap, e = .returned (.tuple #[.slice (some ⟨g, 0, none⟩) n cap, .int .i64 0]) ∧ Keep (∀ k, k < n → w'.cell? ⟨g, k, none⟩ = some (.int .i64 (T k : Nat))) ∧ Below w.heap.size w w')
    (h1 : 1 ≤ n) (h2 : n ≤ 60) (h3 : n ≤ W1)
    (q41 : ∀ w : World, Calls Try.prog 41 #[.int .i64 b, .int .i64 dg] w fun e w' => e = .returned (.tuple #[.slice none 0 0, .int .i64 2]) ∧ w' = w)
    (q42b : ∀ w : World, Calls Try.prog 42 #[.int .i64 b, .int .i64 dg, .int .i64 60] w fun e w' => e = .returned (.int .i64 0) ∧ w' = w)
    (q42 : ∀ w : World, Calls Try.prog 42 #[.int .i64 b, .int .i64 dg, .int .i64 1000] w fun e w' => e = .returned (.int .i64 W1) ∧ w' = w)
    (q43 : Keep (∀ (k : Nat) (w : World), k ≤ 60 → Calls Try.prog 43 #[.int .i64 b, .int .i64 dg, .int .i64 k] w fun e w' => e = .returned (.int .i64 (T k : Nat)) ∧ w' = w))
    (w : World) :
    Calls Try.prog 7 #[.int .i64 b, .int .i64 dg, .int .i64 (n : Int)] w fun e w' => e = .returned (.bool true) ∧ Below w.heap.size w w' := by
  have n1 : ¬ ((n : Int) < 1) := by omega
  have n2 : ¬ ((60 : Int) < (n : Int)) := by omega
  have n3 : ¬ ((W1 : Int) < (n : Int)) := by omega
  have n4 : ¬ (W1 < n) := by omega
  have n5 : decide (W1 < n) = false := decide_eq_false n4
  go_enter Try.func7, Try.ntmps7
  go_wp2_with (first
    | (go_at_call 40; (with_reducible refine (q40 _).mono ?_); rintro e w1 ⟨g, cap, rfl, hg1, hb1⟩)
    | (go_at_call 41; (with_reducible refine (q41 _).mono ?_); rintro e w2 ⟨rfl, rfl⟩)
    | (go_at_call 42; (with_reducible refine (q42 _).mono ?_); rintro e w3 ⟨rfl, hw3⟩; subst w3))
  have hg2 := hg1
  have hbw2 := hb1
  clear hg1 hb1 q40 q41 q42
  go_loopw [12] (fun i wr => ∃ k : Nat, k ≤ n ∧ i = .int .i64 k ∧ Below w2.heap.size w2 wr) (fun i _ => n - (intOf i).toNat)
  case atStart => exact ⟨0, by omega, rfl, Below.refl _ _⟩
  case round =>
    obtain ⟨k, hk, rfl, hbr⟩ := hrel
    by_cases hlt : k < n
    · have hgr : wr.cell? ⟨g, k, none⟩ = some (.int .i64 (T k : Nat)) := cell_below (hg2.out k hlt) hbr
      have q43k := fun w => q43.out k w (by omega)
      obtain ⟨t, ht⟩ : ∃ t : Int, ((T k : Nat) : Int) = t := ⟨_, rfl⟩
      rw [ht] at hgr q43k
      clear ht
      have hbr' : Keep (Below w2.heap.size w2 wr) := ⟨hbr⟩
      clear hbr
      go_wp2
      go_region_held3 (fun w' => w'.cell? ⟨g, k, none⟩ = some (.int .i64 t)) (first | exact hgr | go_keep)
        ((first
         | (go_at_call 43; (with_reducible refine (q43k _).mono ?_); rintro e w6 ⟨rfl, rfl⟩)))
      all_goals go_wp2
      all_goals exact ⟨⟨k + 1, by omega, by go_num, below_drewN hbr'.out 1⟩, by simp [intOf]; omega⟩
    · have : k = n := by omega
      subst this
      have hbwr : Below w.heap.size w wr := hbw2.trans (hbr.mono hbw2.size)
      clear hg2 hbr hbw2
      go_wp2_with (first
    | (go_at_call 42; (with_reducible refine (q42b _).mono ?_); rintro e w3 ⟨rfl, hw3⟩; subst w3)
    | (go_at_call 19; refine (awake_any _).mono ?_; rintro e w9 ⟨rfl, hb9⟩))
      go_ret
      exact ⟨rfl, hbwr.trans (hb9.mono hbwr.size)⟩
set_option maxHeartbeats 2000000 in
set_option maxRecDepth 100000 in
theorem ser_yy {b dg : Int} {n : Nat} {W1 m : Nat} {T : Nat → Nat}
    (q40 : ∀ w : World, Calls Try.prog 40 #[.int .i64 b, .int .i64 dg, .int .i64 n] w fun e w' => ∃ g cap, e = .returned (.tuple #[.slice (some ⟨g, 0, none⟩) n cap, .int .i64 0]) ∧ Keep (∀ k, k < n → w'.cell? ⟨g, k, none⟩ = some (.int .i64 (T k : Nat))) ∧ Below w.heap.size w w')
    (h1 : 1 ≤ n) (h2 : n ≤ 60) (h3 : n ≤ W1)
    (q41 : ∀ w : World, Calls Try.prog 41 #[.int .i64 b, .int .i64 dg] w fun e w' => ∃ G, e = .returned (.tuple #[.slice (some ⟨G, 0, none⟩) m m, .int .i64 0]) ∧ Keep (∀ j, j < m → w'.cell? ⟨G, j * 2, none⟩ = some (.int .i64 (j : Nat)) ∧ w'.cell? ⟨G, j * 2 + 1, none⟩ = some (.int .i64 (T j : Nat))) ∧ Below w.heap.size w w')
    (m1 : 1 ≤ m) (m2 : m ≤ 60) (q42b : ∀ w : World, Calls Try.prog 42 #[.int .i64 b, .int .i64 dg, .int .i64 60] w fun e w' => e = .returned (.int .i64 m) ∧ w' = w)
    (q42 : ∀ w : World, Calls Try.prog 42 #[.int .i64 b, .int .i64 dg, .int .i64 1000] w fun e w' => e = .returned (.int .i64 W1) ∧ w' = w)
    (q43 : Keep (∀ (k : Nat) (w : World), k ≤ 60 → Calls Try.prog 43 #[.int .i64 b, .int .i64 dg, .int .i64 k] w fun e w' => e = .returned (.int .i64 (T k : Nat)) ∧ w' = w))
    (w : World) :
    Calls Try.prog 7 #[.int .i64 b, .int .i64 dg, .int .i64 (n : Int)] w fun e w' => e = .returned (.bool true) ∧ Below w.heap.size w w' := by
  have n1 : ¬ ((n : Int) < 1) := by omega
  have n2 : ¬ ((60 : Int) < (n : Int)) := by omega
  have n3 : ¬ ((W1 : Int) < (n : Int)) := by omega
  have n4 : ¬ (W1 < n) := by omega
  have n5 : decide (W1 < n) = false := decide_eq_false n4
  have m0 : ((m : Int) == 0) = false := by rw [beq_eq_false_iff_ne]; omega
  go_enter Try.func7, Try.ntmps7
  go_wp2_with (first
    | (go_at_call 40; (with_reducible refine (q40 _).mono ?_); rintro e w1 ⟨g, cap, rfl, hg1, hb1⟩)
    | (go_at_call 41; (with_reducible refine (q41 _).mono ?_); rintro e w2 ⟨G, rfl, hG2, hb2⟩)
    | (go_at_call 42; (with_reducible refine (q42 _).mono ?_); rintro e w3 ⟨rfl, hw3⟩; subst w3))
  have hg2 : Keep (∀ k, k < n → w2.cell? ⟨g, k, none⟩ = some (.int .i64 (T k : Nat))) := ⟨fun k hk => cell_below (hg1.out k hk) hb2⟩
  have hbw2 : Below w.heap.size w w2 := hb1.trans (hb2.mono hb1.size)
  clear hg1 hb1 hb2 q40 q41 q42
  go_loopw [12] (fun i wr => ∃ k : Nat, k ≤ n ∧ i = .int .i64 k ∧ Below w2.heap.size w2 wr) (fun i _ => n - (intOf i).toNat)
  case atStart => exact ⟨0, by omega, rfl, Below.refl _ _⟩
  case round =>
    obtain ⟨k, hk, rfl, hbr⟩ := hrel
    by_cases hlt : k < n
    · have hgr : wr.cell? ⟨g, k, none⟩ = some (.int .i64 (T k : Nat)) := cell_below (hg2.out k hlt) hbr
      have q43k := fun w => q43.out k w (by omega)
      obtain ⟨t, ht⟩ : ∃ t : Int, ((T k : Nat) : Int) = t := ⟨_, rfl⟩
      rw [ht] at hgr q43k
      clear ht
      have hbr' : Keep (Below w2.heap.size w2 wr) := ⟨hbr⟩
      clear hbr
      go_wp2
      go_region_held3 (fun w' => w'.cell? ⟨g, k, none⟩ = some (.int .i64 t)) (first | exact hgr | go_keep)
        ((first
         | (go_at_call 43; (with_reducible refine (q43k _).mono ?_); rintro e w6 ⟨rfl, rfl⟩)))
      all_goals go_wp2
      all_goals exact ⟨⟨k + 1, by omega, by go_num, below_drewN hbr'.out 1⟩, by simp [intOf]; omega⟩
    · have : k = n := by omega
      subst this
      have hbwr : Below w.heap.size w wr := hbw2.trans (hbr.mono hbw2.size)
      have hGr : Keep (∀ j, j < m → wr.cell? ⟨G, j * 2, none⟩ = some (.int .i64 (j : Nat)) ∧ wr.cell? ⟨G, j * 2 + 1, none⟩ = some (.int .i64 (T j : Nat))) := ⟨fun j hj => ⟨cell_below (hG2.out j hj).1 hbr, cell_below (hG2.out j hj).2 hbr⟩⟩
      clear hG2
      clear hg2 hbr hbw2
      go_wp2_with (first
    | (go_at_call 42; (with_reducible refine (q42b _).mono ?_); rintro e w3 ⟨rfl, hw3⟩; subst w3))
      obtain ⟨W3, hW3⟩ : ∃ W3, W3 = wr := ⟨_, rfl⟩
      subst hW3
      have hbk : Keep (Below w.heap.size w W3) := ⟨hbwr⟩
      clear hbwr
      go_loopw [13] (fun i wr => ∃ k : Nat, k ≤ m ∧ i = .int .i64 k ∧ Below W3.heap.size W3 wr) (fun i _ => m - (intOf i).toNat)
      case atStart => exact ⟨0, by omega, rfl, Below.refl _ _⟩
      case round =>
        obtain ⟨k, hk, rfl, hbq⟩ := hrel
        by_cases hlt : k < m
        · obtain ⟨hp1, hp2⟩ := hGr.out k hlt
          have hp1 := cell_below hp1 hbq
          have hp2 := cell_below hp2 hbq
          have q43k := fun w => q43.out k w (by omega)
          obtain ⟨t, ht⟩ : ∃ t : Int, ((T k : Nat) : Int) = t := ⟨_, rfl⟩
          rw [ht] at hp2 q43k
          clear ht
          have hbq' : Keep (Below W3.heap.size W3 wr) := ⟨hbq⟩
          clear hbq
          go_wp2
          go_region_held3 (fun w' => w'.cell? ⟨G, k * 2, none⟩ = some (.int .i64 k) ∧ w'.cell? ⟨G, k * 2 + 1, none⟩ = some (.int .i64 t)) (first | exact ⟨hp1, hp2⟩ | go_keep)
            ((first
             | (go_at_call 43; (with_reducible refine (q43k _).mono ?_); rintro e w6 ⟨rfl, rfl⟩)))
          all_goals go_wp2
          all_goals exact ⟨⟨k + 1, by omega, by go_num, below_drewN hbq'.out 1⟩, by simp [intOf]; omega⟩
        · have : k = m := by omega
          subst this
          have hbe : Below w.heap.size w wr := hbk.out.trans (hbq.mono hbk.out.size)
          clear hbq
          go_wp2_with (go_at_call 19; refine (awake_any _).mono ?_; rintro e w9 ⟨rfl, hb9⟩)
          go_ret
          exact ⟨rfl, hbe.trans (hb9.mono hbe.size)⟩
theorem ints_block {w : World} {v : Value} {zs : List Int} (h : IntsAt w v zs) (h0 : 0 < zs.length) : ∃ g cap, v = .slice (some ⟨g, 0, none⟩) zs.length cap ∧ ∀ k, k < zs.length → w.cell? ⟨g, k, none⟩ = some (.int .i64 (zs.getD k 0)) := by
  obtain ⟨A, cap, rfl, hc⟩ := h
  obtain ⟨g, rfl, _⟩ := hc 0 h0
  refine ⟨g, cap, rfl, fun k hk => ?_⟩
  obtain ⟨g', hg', h⟩ := hc k hk
  injection hg' with hg'
  injection hg' with hg'
  rw [hg']; exact h
theorem series_any {b dg n : Int} (w : World) :
    Calls Try.prog 7 #[.int .i64 b, .int .i64 dg, .int .i64 n] w fun e w' => e = .returned (.bool true) ∧ Below w.heap.size w w' := by
  rcases hd : digB b dg with _ | _
  · exact ser_nn (W1 := 0) (T := fun _ => 0) (fun w => series_nb hd w) (by omega) (fun w => pairs_nb hd w) (fun w => whole_no (most := 60) hd w) (fun w => whole_no (most := 1000) hd w) w
  · unfold digB baseB at hd
    rw [Bool.and_eq_true, decide_eq_true_iff, decide_eq_true_iff] at hd
    obtain ⟨⟨hb1, hb2⟩, h1, h2⟩ := hd
    obtain ⟨B, rfl⟩ : ∃ B : Nat, b = (B : Int) := ⟨b.toNat, by omega⟩
    obtain ⟨D, rfl⟩ : ∃ D : Nat, dg = (D : Int) := ⟨dg.toNat, by omega⟩
    have hb1 : 2 ≤ B := by omega
    have hb2 : B ≤ 16 := by omega
    have h1 : 1 ≤ D := by omega
    have h2 : D ≤ 9 := by omega
    have q42 := fun w => whole_yes (most := 1000) hb1 hb2 h1 h2 (by omega) (by omega) w
    have q42b := fun w => whole_yes (most := 60) hb1 hb2 h1 h2 (by omega) (by omega) w
    have hS1 : 1 ≤ B ^ D := Nat.pow_pos (by omega)
    have q43 : B ^ D ≤ 1000 → Keep (∀ (k : Nat) (w : World), k ≤ 60 → Calls Try.prog 43 #[.int .i64 B, .int .i64 D, .int .i64 k] w fun e w' => e = .returned (.int .i64 ((fun k => trn B D k 0) k : Nat)) ∧ w' = w) :=
      fun h => ⟨fun k w hk => turned_any hb1 hb2 h h2 (by omega) w⟩
    have q41 : B ^ D ≤ 60 → ∀ w : World, Calls Try.prog 41 #[.int .i64 B, .int .i64 D] w fun e w' => ∃ G, e = .returned (.tuple #[.slice (some ⟨G, 0, none⟩) (B ^ D : Nat) (B ^ D : Nat), .int .i64 0]) ∧ Keep (∀ j, j < B ^ D → w'.cell? ⟨G, j * 2, none⟩ = some (.int .i64 (j : Nat)) ∧ w'.cell? ⟨G, j * 2 + 1, none⟩ = some (.int .i64 ((fun k => trn B D k 0) j : Nat))) ∧ Below w.heap.size w w' :=
      fun h w => (pairs_yes hb1 hb2 h1 h2 rfl h w).mono fun e w' ⟨v, he, ⟨G, hv, hc⟩, hbl⟩ => ⟨G, by rw [he, hv], ⟨hc⟩, hbl⟩
    by_cases hs : B ^ D ≤ 1000 ∧ 1 ≤ n ∧ n ≤ 60 ∧ n ≤ ((B ^ D : Nat) : Int)
    · obtain ⟨s1, s2, s3, s4⟩ := hs
      obtain ⟨m, rfl⟩ : ∃ m : Nat, n = (m : Int) := ⟨n.toNat, by omega⟩
      rw [if_pos s1] at q42
      have q40 : ∀ w : World, Calls Try.prog 40 #[.int .i64 B, .int .i64 D, .int .i64 m] w fun e w' => ∃ g cap, e = .returned (.tuple #[.slice (some ⟨g, 0, none⟩) m cap, .int .i64 0]) ∧ Keep (∀ k, k < m → w'.cell? ⟨g, k, none⟩ = some (.int .i64 ((fun k => trn B D k 0) k : Nat))) ∧ Below w.heap.size w w' :=
        fun w => (series_yes hb1 hb2 h1 h2 s1 (by omega) (by omega) (by omega) w).mono fun e w' ⟨v, he, hi, hbl⟩ => by
          obtain ⟨g, cap, hv, hc⟩ := ints_block hi (by rw [serL_len]; omega)
          rw [serL_len] at hv hc
          exact ⟨g, cap, by rw [he, hv], ⟨fun k hk => by rw [hc k hk, serL_at hk]⟩, hbl⟩
      by_cases hp : B ^ D ≤ 60
      · rw [if_pos hp] at q42b
        exact ser_yy q40 (by omega) (by omega) (by omega) (q41 hp) hS1 hp q42b q42 (q43 s1) w
      · rw [if_neg hp] at q42b
        exact ser_yn q40 (by omega) (by omega) (by omega) (fun w => pairs_no hb1 hb2 h1 h2 (by omega) w) q42b q42 (q43 s1) w
    · have q40 := fun w => series_no (n := n) hb1 hb2 h1 h2 (by omega) w
      by_cases hp : B ^ D ≤ 60
      · rw [if_pos hp] at q42b
        rw [if_pos (by omega)] at q42
        exact ser_ny q40 (by omega) (q41 hp) hS1 hp q42b q42 (q43 (by omega)) w
      · rw [if_neg hp] at q42b
        exact ser_nn (T := fun _ => 0) q40 (by split <;> omega) (fun w => pairs_no hb1 hb2 h1 h2 (by omega) w) q42b q42 w
end Go.Proofs.Ytifbiamfandjnaa
