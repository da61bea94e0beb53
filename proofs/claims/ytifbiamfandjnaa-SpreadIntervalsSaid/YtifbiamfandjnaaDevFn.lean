import Derived.Test.YtifbiamfandjnaaRefLine3
import Derived.Test.YtifbiamfandjnaaAddFn
set_option linter.unusedSimpArgs false
set_option linter.unusedVariables false
namespace Go.Proofs.Ytifbiamfandjnaa
open Go Go.Proofs Go.RowKit Go.Seq
theorem dev_no {N : Int} {v : Value} {zs : List Int} {t : Int} {w : World} (hv : IntsAt w v zs) (hl : zs.length ≤ 100000) (hN : In64 N) (hno : okLine N zs = false) :
    Calls Try.prog 17 #[.int .i64 N, v, .int .i64 t] w fun e w' => e = .returned (.tuple #[fracV 0 0, .int .i64 2]) ∧ Below w.heap.size w w' := by
  have hv' := ints_below hv ((Below.refl _ w).alloc (Nat.le_refl _) (.cells #[.int .i64 0, .int .i64 0] 25))
  go_enter Try.func17, Try.ntmps17
  go_wp2_with (go_at_call 52; refine (readLine_no hv' hl hN.1 hN.2 hno).mono ?_; rintro e w5 ⟨rfl, rfl⟩)
  refine bodyPost_ret (v := .tuple #[fracV 0 0, .int .i64 2]) (by unfold fracV; simp [results, Try.results17, go_sem]) rfl ?_
  exact ⟨rfl, by first | exact (Below.refl _ w).alloc (Nat.le_refl _) _ | exact (((Below.refl _ w).alloc (Nat.le_refl _) _).setCell (p := ⟨w.heap.size, 0, none⟩) (Nat.le_refl _) _).setCell (p := ⟨w.heap.size, 1, none⟩) (Nat.le_refl _) _⟩
set_option maxHeartbeats 1000000 in
set_option maxRecDepth 100000 in
theorem dev_off {N : Nat} {v : Value} {zs : List Int} {t : Int} {w : World} (hv : IntsAt w v zs) (hok : okLine N zs = true) (ht : In64 t) (hoff : t < 0 ∨ (N : Int) < t) :
    Calls Try.prog 17 #[.int .i64 N, v, .int .i64 t] w fun e w' => e = .returned (.tuple #[fracV 0 0, .int .i64 2]) ∧ Below w.heap.size w w' := by
  have hok1 := hok
  unfold okLine at hok1
  rw [Bool.and_eq_true, decide_eq_true_iff] at hok1
  obtain ⟨⟨k1, k2, k3, k4⟩, _⟩ := hok1
  have hv' := ints_below hv ((Below.refl _ w).alloc (Nat.le_refl _) (.cells #[.int .i64 0, .int .i64 0] 25))
  obtain ⟨ht1, ht2⟩ := ht
  go_enter Try.func17, Try.ntmps17
  rcases hoff with h | h
  case' inr => have h0 : ¬ t < 0 := by omega
  all_goals go_wp2_with (first
    | (go_at_call 52; refine (readLine_any hv' hok).mono ?_; rintro e w5 ⟨rfl, hb5, hL5⟩
       rw [World.size_alloc] at hb5
       have x0 : w5.cell? ⟨w.heap.size, 0, none⟩ = some (.int .i64 0) := (hb5.cell (p := ⟨w.heap.size, 0, none⟩) (by simp)).trans (by go_simp)
       have x1 : w5.cell? ⟨w.heap.size, 1, none⟩ = some (.int .i64 0) := (hb5.cell (p := ⟨w.heap.size, 1, none⟩) (by simp)).trans (by go_simp)
       have y0 : w5.frozen? ⟨w.heap.size, 0, none⟩ = false := (hb5.frozen (p := ⟨w.heap.size, 0, none⟩) (by simp)).trans (by go_simp)
       have y1 : w5.frozen? ⟨w.heap.size, 1, none⟩ = false := (hb5.frozen (p := ⟨w.heap.size, 1, none⟩) (by simp)).trans (by go_simp)
       have hbw5 : Below w.heap.size w w5 := ((Below.refl _ w).alloc (Nat.le_refl _) _).trans (hb5.mono (by omega))
       clear hb5 hL5))
  all_goals refine bodyPost_ret (v := .tuple #[fracV 0 0, .int .i64 2]) (by unfold fracV; simp [results, Try.results17, go_sem]; go_simp) rfl ?_
  all_goals exact ⟨rfl, (hbw5.setCell (p := ⟨w.heap.size, 0, none⟩) (Nat.le_refl _) _).setCell (p := ⟨w.heap.size, 1, none⟩) (Nat.le_refl _) _⟩
set_option maxHeartbeats 1000000 in
set_option maxRecDepth 100000 in
theorem dev_any {N : Nat} {v : Value} {zs : List Int} {t : Nat} {w : World} (hv : IntsAt w v zs) (hok : okLine N zs = true) (ht : t ≤ N) :
    Calls Try.prog 17 #[.int .i64 N, v, .int .i64 t] w fun e w' => e = .returned (.tuple #[fracV (redN ((devOf N zs.length zs t).1 : Nat) ((zs.length : Int) * N)) (redD ((devOf N zs.length zs t).1 : Nat) ((zs.length : Int) * N)), .int .i64 0]) ∧ Below w.heap.size w w' := by
  have hok1 := hok
  unfold okLine at hok1
  rw [Bool.and_eq_true, decide_eq_true_iff] at hok1
  obtain ⟨⟨k1, k2, k3, k4⟩, _⟩ := hok1
  have hN2 : N ≤ 1000 := by omega
  have hv' := ints_below hv ((Below.refl _ w).alloc (Nat.le_refl _) (.cells #[.int .i64 0, .int .i64 0] 25))
  have hbd := wits_le (N := N) (n := zs.length) (g := mid zs N) (by omega) (by omega) (fun k _ => Nat.le_trans (mid_le _ _ _) k4)
  have hbd2 : Keep (∀ x ∈ witsAt N zs.length (mid zs N) t, x.2.2.natAbs ≤ 1000000000) := ⟨fun x hx => by
    have := (hbd x (by unfold allWits upTo; rw [List.mem_flatMap]; exact ⟨t, by rw [List.mem_range]; omega, hx⟩)).1
    omega⟩
  have hkey := worst_at (n := zs.length) (zs := zs) ht
  have hle := dev_le (zs := zs) hN2 k4 k4 ht
  obtain ⟨⟨d, low⟩, hD⟩ : ∃ D, Keep (devOf N zs.length zs t = D) := ⟨_, ⟨rfl⟩⟩
  obtain ⟨⟨⟨t', low', x⟩, d'⟩, hW⟩ : ∃ L, Keep (worstOf (witsAt N zs.length (mid zs N) t) = L) := ⟨_, ⟨rfl⟩⟩
  rw [hW.out, hD.out] at hkey
  rw [hD.out] at hle ⊢
  simp only [key, Prod.mk.injEq] at hkey
  obtain ⟨rfl, rfl, rfl⟩ := hkey
  simp only at hle ⊢
  clear hbd
  go_enter Try.func17, Try.ntmps17
  go_wp2_with (first
    | (go_at_call 52; refine (readLine_any hv' hok).mono ?_; rintro e w5 ⟨rfl, hb5, hL5⟩)
    | (go_at_call 56; refine (at_maker _).mono ?_; rintro e w6 ⟨rfl, rfl⟩)
    | (go_at_call 53
       have hsz5 := hb5.size
       rw [World.size_alloc] at hsz5 hL5
       have hlt5 := hL5.lt
       refine (worst_any (gf := 81) (xs := witsAt N zs.length (mid zs N) t') (R := fun W => AtR W (w5.heap.size + 1) w5.heap.size (w.heap.size + 1) N zs.length (mid zs N) t')
         (enters_of Try.func81 (by kernel_rfl) rfl) hbd2.out (fun W1 => at_gives ht W1)
         (fun W hW => ⟨hL5.below ((((Below.refl w5.heap.size w5).alloc (Nat.le_refl _) _).alloc (by simp) _).trans (hW.mono (by simp; omega))) hlt5, (hW.cell (p := ⟨w5.heap.size + 1, 0, none⟩) (by simp)).trans (by go_simp), (hW.cell (p := ⟨w5.heap.size, 0, none⟩) (by simp; omega)).trans (by go_simp)⟩)).mono ?_
       rintro e w7 ⟨rfl, hb7⟩
       rw [hW.out]
       have hb57 : Below w5.heap.size w5 w7 := (((Below.refl w5.heap.size w5).alloc (Nat.le_refl _) _).alloc (by simp) _).trans (hb7.mono (by simp; omega))
       have hL7 : LineAt w7 (w.heap.size + 1) N zs.length (mid zs N) := hL5.below hb57 hlt5
       have hb17 : Below (w.heap.size + 1) (w.alloc (.cells #[.int .i64 0, .int .i64 0] 25)) w7 := Below.trans (by simpa using hb5) (hb57.mono (by omega))
       have x0 : w7.cell? ⟨w.heap.size, 0, none⟩ = some (.int .i64 0) := (hb17.cell (p := ⟨w.heap.size, 0, none⟩) (by simp)).trans (by go_simp)
       have x1 : w7.cell? ⟨w.heap.size, 1, none⟩ = some (.int .i64 0) := (hb17.cell (p := ⟨w.heap.size, 1, none⟩) (by simp)).trans (by go_simp)
       have y0 : w7.frozen? ⟨w.heap.size, 0, none⟩ = false := (hb17.frozen (p := ⟨w.heap.size, 0, none⟩) (by simp)).trans (by go_simp)
       have y1 : w7.frozen? ⟨w.heap.size, 1, none⟩ = false := (hb17.frozen (p := ⟨w.heap.size, 1, none⟩) (by simp)).trans (by go_simp)
       have hbw7 : Below w.heap.size w w7 := ((Below.refl _ w).alloc (Nat.le_refl _) _).trans (hb17.mono (by omega))
       have hs7 : w.heap.size + 2 ≤ w7.heap.size := by have := hb57.size; omega
       have hlt7 := hL7.lt
       clear hb5 hL5 hb7 hb57 hb17 hsz5 hlt5
       unfold witV
       simp only)
    | (go_at_call 55
       refine (frac_any (hL7.below ((Below.refl w7.heap.size w7).alloc (Nat.le_refl _) _) hlt7) (by omega) k3 (d : Int) (by omega) (by omega)).mono ?_; rintro e w9 ⟨rfl, hb9⟩
       have hb79 : Below w7.heap.size w7 w9 := ((Below.refl w7.heap.size w7).alloc (Nat.le_refl _) _).trans (hb9.mono (by simp))
       have x0 := (hb79.cell (p := ⟨w.heap.size, 0, none⟩) (by show w.heap.size < _; omega)).trans x0
       have x1 := (hb79.cell (p := ⟨w.heap.size, 1, none⟩) (by show w.heap.size < _; omega)).trans x1
       have y0 := (hb79.frozen (p := ⟨w.heap.size, 0, none⟩) (by show w.heap.size < _; omega)).trans y0
       have y1 := (hb79.frozen (p := ⟨w.heap.size, 1, none⟩) (by show w.heap.size < _; omega)).trans y1
       have hbw9 : Below w.heap.size w w9 := hbw7.trans (hb79.mono (by omega))
       clear hb9 hb79 hL7 hbw7
       unfold fracV))
  refine bodyPost_ret (v := .tuple #[fracV (redN (d : Int) ((zs.length : Int) * N)) (redD (d : Int) ((zs.length : Int) * N)), .int .i64 0]) (by unfold fracV; simp [results, Try.results17, go_sem]; go_simp) rfl ?_
  exact ⟨rfl, (hbw9.setCell (p := ⟨w.heap.size, 0, none⟩) (Nat.le_refl _) _).setCell (p := ⟨w.heap.size, 1, none⟩) (Nat.le_refl _) _⟩
end Go.Proofs.Ytifbiamfandjnaa
