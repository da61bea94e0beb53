import Derived.Test.YtifbiamfandjnaaRefLine
import Derived.Test.YtifbiamfandjnaaArgInts
import Derived.OwnWalk
import Derived.Laws.AppendOwn
set_option linter.unusedSimpArgs false
set_option linter.unusedVariables false
namespace Go.Proofs.Ytifbiamfandjnaa
open Go Go.Proofs Go.RowKit
theorem mod_any (x : Int) {m : Nat} (h1 : 1 ≤ m) (h2 : m ≤ 1000000000) (w : World) :
    Calls Try.prog 49 #[.int .i64 x, .int .i64 m] w fun e w' => (∃ r : Nat, r < m ∧ e = .returned (.int .i64 r)) ∧ w' = w := by
  obtain ⟨q, hq⟩ : ∃ q : Nat, IntKind.u64.wrap x = (q : Int) ∧ q < 18446744073709551616 := by
    have : IntKind.u64.wrap x = x % 18446744073709551616 := rfl
    exact ⟨(x % 18446744073709551616).toNat, by rw [this]; omega, by omega⟩
  obtain ⟨hq1, hq2⟩ := hq
  have e2 : IntKind.u64.wrap (m : Int) = (m : Int) := IntWalk.u64_in _ (by omega)
  have hm0 : ((m : Int) == 0) = false := by rw [beq_eq_false_iff_ne]; omega
  have hm : q % m < m := Nat.mod_lt _ (by omega)
  obtain ⟨r, hr⟩ : ∃ r, Keep (q % m = r) := ⟨_, ⟨rfl⟩⟩
  have hw : IntKind.u64.wrap ((q : Int).tmod (m : Int)) = (r : Int) := by
    rw [← hr.out, IntWalk.up_tmod rfl rfl, IntWalk.u64_in _ (by omega)]
  rw [hr.out] at hm
  have e4 : IntKind.i64.wrap (r : Int) = (r : Int) := IntWalk.i64_in _ (by omega)
  have hk : Keep (r < m) := ⟨hm⟩
  have e5 : wrap64 ((q : Int) % (m : Int)) = (r : Int) := by
    have : ((q : Int) % (m : Int)) = (r : Int) := by rw [← hr.out]; rfl
    rw [this]; unfold wrap64; omega
  have hmz : ¬ m = 0 := by omega
  clear hm h1 h2 hq2
  go_enter Try.func49, Try.ntmps49
  go_wp2
  go_ret
  exact ⟨⟨r, hk.out, by simp [e5]⟩, rfl⟩
theorem cell_one_new (w : World) (a : Value) (t : TypeId) : ∀ j u, [a][j]? = some u → (w.alloc (.cells #[a] t)).cell? ((⟨w.heap.size, 0, none⟩ : Addr).add j) = some u := by
  intro j u hj
  match j, hj with
  | 0, hj => simp at hj; subst hj; simp [Addr.add]
  | j + 1, hj => simp at hj
theorem own_one (w : World) (B : Nat) (z : Int) (h : B ≤ w.heap.size) : (w.alloc (.cells #[.int .i64 z] 3)).ownsRow B 3 1 (.slice (some ⟨w.heap.size, 0, none⟩) 1 1) 1 [vz z] :=
  ⟨by simp, .inr ⟨w.heap.size, 1, #[.int .i64 z], rfl, h, World.alloc_heap_new w _, Nat.le_refl _, by unfold maxLen; omega, by simp, by simp [vz]⟩⟩
def inR (N : Nat) (l : List Int) : Prop := l.all (fun z => decide (0 ≤ z ∧ z < (N : Int))) = true
theorem inR_snoc {N r : Nat} {l : List Int} (h : inR N l) (hr : r < N) : inR N (l ++ [(r : Int)]) := by
  unfold inR at *
  rw [List.all_append, h]; simp; omega
theorem ok_of {N : Nat} {l : List Int} (h1 : 1 ≤ N) (h2 : N ≤ 1000) (h3 : 1 ≤ l.length) (h4 : l.length ≤ 60) (h : inR N l) : okLine (N : Int) l = true := by
  unfold okLine inR at *
  rw [h, Bool.and_true, decide_eq_true_eq]; omega
set_option maxHeartbeats 1000000 in
set_option maxRecDepth 100000 in
theorem tame_any {n : Int} {v : Value} {zs : List Int} {w : World} (hv : ArgInts w v zs) :
    Calls Try.prog 48 #[.int .i64 n, v, .int .i64 1000] w fun e w' => ∃ (N : Nat) (v' : Value) (L : List Int), e = .returned (.tuple #[.int .i64 N, v']) ∧ okLine (N : Int) L = true ∧ IntsAt w' v' L ∧ Below w.heap.size w w' := by
  obtain ⟨i0, hi, hz0, hz1, hz2⟩ := info_parts info3
  have qn := fun w => mod_any n (m := 1000) (by omega) (by omega) w
  rcases hv with ⟨rfl, rfl⟩ | ⟨a, cap, rfl, rfl⟩ | ⟨b, o, cap, rfl, hcap, hmax, hb, hc⟩
  · go_enter Try.func48, Try.ntmps48
    go_wp2_with (go_at_call 49; refine (qn _).mono ?_; rintro e w5 ⟨⟨r, hr, rfl⟩, rfl⟩)
    go_loopw [8, 9] (fun v i wr => i = .int .i64 0 ∧ v = .slice (some ⟨w5.heap.size, 0, none⟩) 1 1 ∧ wr = w5.alloc (.cells #[.int .i64 0] 3)) (fun _ _ _ => 0)
    case atStart => exact ⟨rfl, rfl, rfl⟩
    case round =>
      obtain ⟨rfl, rfl, rfl⟩ := hrel
      go_wp2
      go_ret2
      refine ⟨r + 1, _, [0], ?_, ok_of (by omega) (by omega) (by simp) (by simp) (by unfold inR; simp), own_cellz (own_one w5 w5.heap.size 0 (Nat.le_refl _)), (Below.refl _ w5).alloc (Nat.le_refl _) _⟩
      rw [show ((r + 1 : Nat) : Int) = 1 + (r : Int) by omega]; rfl
  · go_enter Try.func48, Try.ntmps48
    go_wp2_with (go_at_call 49; refine (qn _).mono ?_; rintro e w5 ⟨⟨r, hr, rfl⟩, rfl⟩)
    go_loopw [8, 9] (fun v i wr => i = .int .i64 0 ∧ v = .slice (some ⟨w5.heap.size, 0, none⟩) 1 1 ∧ wr = w5.alloc (.cells #[.int .i64 0] 3)) (fun _ _ _ => 0)
    case atStart => exact ⟨rfl, rfl, rfl⟩
    case round =>
      obtain ⟨rfl, rfl, rfl⟩ := hrel
      go_wp2
      go_ret2
      refine ⟨r + 1, _, [0], ?_, ok_of (by omega) (by omega) (by simp) (by simp) (by unfold inR; simp), own_cellz (own_one w5 w5.heap.size 0 (Nat.le_refl _)), (Below.refl _ w5).alloc (Nat.le_refl _) _⟩
      rw [show ((r + 1 : Nat) : Int) = 1 + (r : Int) by omega]; rfl
  · by_cases hz : zs = []
    · subst hz
      go_enter Try.func48, Try.ntmps48
      go_wp2_with (go_at_call 49; refine (qn _).mono ?_; rintro e w5 ⟨⟨r, hr, rfl⟩, rfl⟩)
      go_loopw [8, 9] (fun v i wr => i = .int .i64 0 ∧ v = .slice (some ⟨w5.heap.size, 0, none⟩) 1 1 ∧ wr = w5.alloc (.cells #[.int .i64 0] 3)) (fun _ _ _ => 0)
      case atStart => exact ⟨rfl, rfl, rfl⟩
      case round =>
        obtain ⟨rfl, rfl, rfl⟩ := hrel
        go_wp2
        go_ret2
        refine ⟨r + 1, _, [0], ?_, ok_of (by omega) (by omega) (by simp) (by simp) (by unfold inR; simp), own_cellz (own_one w5 w5.heap.size 0 (Nat.le_refl _)), (Below.refl _ w5).alloc (Nat.le_refl _) _⟩
        rw [show ((r + 1 : Nat) : Int) = 1 + (r : Int) by omega]; rfl
    · have hl : 1 ≤ zs.length := by cases zs with | nil => exact absurd rfl hz | cons => simp
      clear hz
      go_enter Try.func48, Try.ntmps48
      go_wp2_with (go_at_call 49; refine (qn _).mono ?_; rintro e w5 ⟨⟨r, hr, rfl⟩, rfl⟩)
      obtain ⟨N, hN⟩ : ∃ N : Nat, Keep (1 + (r : Int) = (N : Int)) := ⟨r + 1, ⟨by omega⟩⟩
      have hN1 : 1 ≤ N := by have := hN.out; omega
      have hN2 : N ≤ 1000 := by have := hN.out; omega
      rw [hN.out]
      go_loopw [8, 9] (fun v i wr => ∃ (k : Nat) (l : List Int), k ≤ 60 ∧ k ≤ zs.length ∧ i = .int .i64 k ∧ l.length = k ∧ Keep (inR N l) ∧ (k = 0 ∨ wr.ownsRow w5.heap.size 3 1 v l.length (l.map vz)) ∧ Below w5.heap.size w5 wr) (fun _ i _ => 60 - (intOf i).toNat)
      case atStart => exact ⟨0, [], by omega, by omega, rfl, rfl, ⟨rfl⟩, .inl rfl, (Below.refl _ _).alloc (Nat.le_refl _) _⟩
      case round =>
        obtain ⟨k, l, hk60, hkl, rfl, hlk, hin, hor, hbw⟩ := hrel
        have hbz : w5.heap.size ≤ wr.heap.size := hbw.size
        by_cases h1 : k < zs.length
        · by_cases h2 : k < 60
          · have hg : wr.cell? ⟨b, o + k, none⟩ = some (.int .i64 (zs.getD k 0)) := (hbw.cell (p := ⟨b, o + k, none⟩) hb).trans (hc k h1)
            clear hc
            generalize zs.getD k 0 = z at hg
            by_cases hk0 : k = 0
            · subst hk0
              have hl0 : l = [] := List.length_eq_zero_iff.1 hlk
              subst hl0
              have hown : wr.ownsRow w5.heap.size 3 1 (.slice none 0 0) 0 [] := World.ownsRow_nil _ _ _ _
              rw [Nat.add_zero] at hg
              clear hor
              go_wp2_with (first
                | (go_at_call 49; refine (mod_any z hN1 (by omega) _).mono ?_; rintro e w6 ⟨⟨s, hs, rfl⟩, rfl⟩)
                | (at_builtin; go_loud (
                   refine wpList_append_own _ rfl _ _ 22 rfl w5.heap.size 3 i0 (.int .i64 0) 1 8 ty22 hi hz0 hz1 hz2 rfl (by decide) _ 0 [] rfl (hown.alloc _) ⟨w6.heap.size, 0, none⟩ 1 1 [.int .i64 s] rfl rfl (cell_one_new _ _ _) (fun x hx => by simp at hx; subst hx; rfl) (by unfold maxLen; omega) (by omega) (by simp; try omega) ?_
                   intro v' w3 hown' hgrow3 hnil3
                   have hbw3 : Below w5.heap.size w5 w3 := Below.grown (hbw.alloc hbz _) hgrow3 (by simp; omega) (fun j hj => by cases hj)
                   have X : Keep (w3.ownsRow w5.heap.size 3 1 v' 1 [.int .i64 s] ∧ Below w5.heap.size w5 w3 ∧ s < N) := ⟨⟨hown', hbw3, hs⟩⟩
                   clear hown' hgrow3 hnil3 hbw3)))
              obtain ⟨x1, x2, x3⟩ := X.out
              exact ⟨⟨1, [(s : Int)], by omega, by omega, by go_num, rfl, ⟨inR_snoc (l := []) rfl x3⟩, .inr x1, x2⟩, by simp [intOf]⟩
            · have hown := hor.resolve_left hk0
              clear hor
              go_wp2_with (first
                | (go_at_call 49; refine (mod_any z hN1 (by omega) _).mono ?_; rintro e w6 ⟨⟨s, hs, rfl⟩, rfl⟩)
                | (at_builtin; go_loud (
                   refine wpList_append_own _ rfl _ _ 22 rfl w5.heap.size 3 i0 (.int .i64 0) 1 8 ty22 hi hz0 hz1 hz2 rfl (by decide) _ _ _ rfl (hown.alloc _) ⟨w6.heap.size, 0, none⟩ 1 1 [.int .i64 s] rfl rfl (cell_one_new _ _ _) (fun x hx => by simp at hx; subst hx; rfl) (by unfold maxLen; omega) (by omega) (by simp; try omega) ?_
                   intro v' w3 hown' hgrow3 hnil3
                   have hbw3 : Below w5.heap.size w5 w3 := Below.grown (hbw.alloc hbz _) hgrow3 (by simp; omega) (fun j hj => by have := (hown.lt _ hj).1; omega)
                   have X : Keep (w3.ownsRow w5.heap.size 3 1 v' (l.length + 1) (l.map vz ++ [.int .i64 s]) ∧ Below w5.heap.size w5 w3 ∧ s < N) := ⟨⟨hown', hbw3, hs⟩⟩
                   clear hown' hgrow3 hnil3 hbw3)))
              obtain ⟨x1, x2, x3⟩ := X.out
              refine ⟨⟨k + 1, l ++ [(s : Int)], by omega, by omega, by go_num, by simp; omega, ⟨inR_snoc hin.out x3⟩, .inr ?_, x2⟩, by simp [intOf]; omega⟩
              rw [List.length_append, List.map_append]
              exact x1
          · have hown := hor.resolve_left (by omega)
            clear hor hc
            go_wp2
            go_ret2
            exact ⟨N, _, l, rfl, ok_of hN1 hN2 (by omega) (by omega) hin.out, own_cellz hown, hbw⟩
        · have hown := hor.resolve_left (by omega)
          clear hor hc
          go_wp2
          go_ret2
          exact ⟨N, _, l, rfl, ok_of hN1 hN2 (by omega) (by omega) hin.out, own_cellz hown, hbw⟩
end Go.Proofs.Ytifbiamfandjnaa
