import Derived.Test.YtifbiamfandjnaaLineFn
set_option linter.unusedSimpArgs false
set_option linter.unusedVariables false
namespace Go.Proofs.Ytifbiamfandjnaa
open Go Go.Proofs Go.RowKit Go.Seq
theorem ever_maker {b : Nat} (w : World) :
    Calls Try.prog 54 #[.pointer (some ⟨b, 0, none⟩)] w fun e w' => e = .returned (.func (.func 80) #[] #[.pointer (some ⟨w.heap.size, 0, none⟩)]) ∧ w' = w.alloc (.cells #[.pointer (some ⟨b, 0, none⟩)] 82) := by
  go_enter Try.func54, Try.ntmps54
  go_wp2
  go_ret
  exact ⟨rfl, rfl⟩
theorem wits_le {N n : Nat} {g : Nat → Nat} (hN : N ≤ 1000) (hn : n ≤ 60) (hg : ∀ k, k ≤ 1000 → g k ≤ 60) : ∀ x ∈ allWits N n g, x.2.2.natAbs ≤ 60000 ∧ x.1 ≤ N := by
  intro x hx
  unfold allWits upTo at hx
  rw [List.mem_flatMap] at hx
  obtain ⟨t, ht, hx⟩ := hx
  rw [List.mem_range] at ht
  unfold witsAt at hx
  have h1 := exc_le hN hn (hg t (by omega)) (t := t) (by omega)
  by_cases htN : t = N
  · rw [if_pos htN, List.mem_singleton] at hx
    subst hx
    exact ⟨by simp only; omega, by simp only; omega⟩
  · have h2 := exc_le hN hn (hg (t + 1) (by omega)) (t := t) (by omega)
    rw [if_neg htN] at hx
    simp only [List.mem_cons, List.not_mem_nil, or_false] at hx
    rcases hx with rfl | rfl
    · exact ⟨by simp only; omega, by simp only; omega⟩
    · exact ⟨by simp only; omega, by simp only; omega⟩
theorem line_no {N : Int} {v : Value} {zs : List Int} {w : World} (hv : IntsAt w v zs) (hl : zs.length ≤ 100000) (hN1 : -9223372036854775808 ≤ N) (hN2 : N < 9223372036854775808) (hno : okLine N zs = false) :
    Calls Try.prog 16 #[.int .i64 N, v] w fun e w' => e = .returned (.tuple #[fracV 0 0, .int .i64 0, .bool false, .int .i64 2]) ∧ Below w.heap.size w w' := by
  have hv' := ints_below hv ((Below.refl _ w).alloc (Nat.le_refl _) (.cells #[.int .i64 0, .int .i64 0] 25))
  go_enter Try.func16, Try.ntmps16
  go_wp2_with (go_at_call 52; refine (readLine_no hv' hl hN1 hN2 hno).mono ?_; rintro e w5 ⟨rfl, rfl⟩)
  refine bodyPost_ret (v := .tuple #[fracV 0 0, .int .i64 0, .bool false, .int .i64 2]) (by unfold fracV; simp [results, Try.results16, go_sem]) rfl ?_
  exact ⟨rfl, by first | exact (Below.refl _ w).alloc (Nat.le_refl _) _ | exact (((Below.refl _ w).alloc (Nat.le_refl _) _).setCell (p := ⟨w.heap.size, 0, none⟩) (Nat.le_refl _) _).setCell (p := ⟨w.heap.size, 1, none⟩) (Nat.le_refl _) _⟩
def lineW (N : Nat) (zs : List Int) : Wit × Int := worstOf (allWits N zs.length (mid zs N))
set_option maxHeartbeats 1000000 in
set_option maxRecDepth 100000 in
theorem line_any {N : Nat} {v : Value} {zs : List Int} {w : World} (hv : IntsAt w v zs) (hok : okLine N zs = true) :
    Calls Try.prog 16 #[.int .i64 N, v] w fun e w' => e = .returned (.tuple #[fracV (redN (lineW N zs).2 ((zs.length : Int) * N)) (redD (lineW N zs).2 ((zs.length : Int) * N)), .int .i64 ((lineW N zs).1.1 : Nat), .bool (lineW N zs).1.2.1, .int .i64 0]) ∧ Below w.heap.size w w' := by
  have hok1 := hok
  unfold okLine at hok1
  rw [Bool.and_eq_true, decide_eq_true_iff] at hok1
  obtain ⟨⟨k1, k2, k3, k4⟩, _⟩ := hok1
  have hv' := ints_below hv ((Below.refl _ w).alloc (Nat.le_refl _) (.cells #[.int .i64 0, .int .i64 0] 25))
  have hbd := wits_le (N := N) (n := zs.length) (g := mid zs N) (by omega) (by omega) (fun k _ => Nat.le_trans (mid_le _ _ _) k4)
  have hle := worstOf_le (xs := allWits N zs.length (mid zs N)) (B := 60000) (by omega) (fun x hx => by have := (hbd x hx).1; omega)
  have hlw : Keep (worstOf (allWits N zs.length (mid zs N)) = lineW N zs) := ⟨rfl⟩
  rw [hlw.out] at hle
  obtain ⟨⟨⟨t, low, x⟩, d⟩, hW⟩ : ∃ L, Keep (lineW N zs = L) := ⟨_, ⟨rfl⟩⟩
  rw [hW.out] at hle ⊢
  simp only at hle ⊢
  go_enter Try.func16, Try.ntmps16
  go_wp2_with (first
    | (go_at_call 52; refine (readLine_any hv' hok).mono ?_; rintro e w5 ⟨rfl, hb5, hL5⟩)
    | (go_at_call 54; refine (ever_maker _).mono ?_; rintro e w6 ⟨rfl, rfl⟩)
    | (go_at_call 53
       have hsz5 := hb5.size
       rw [World.size_alloc] at hsz5 hL5
       have hlt5 := hL5.lt
       refine (worst_any (gf := 80) (xs := allWits N zs.length (mid zs N)) (R := fun W => LineAt W (w.heap.size + 1) N zs.length (mid zs N) ∧ W.cell? ⟨w5.heap.size, 0, none⟩ = some (.pointer (some ⟨w.heap.size + 1, 0, none⟩)))
         (enters_of Try.func80 (by kernel_rfl) rfl) (fun x hx => by have := (hbd x hx).1; omega) (fun W1 => ever_gives W1)
         (fun W hW => ⟨hL5.below (((Below.refl w5.heap.size w5).alloc (Nat.le_refl _) _).trans (hW.mono (by simp))) hlt5, (hW.cell (p := ⟨w5.heap.size, 0, none⟩) (by simp)).trans (by go_simp)⟩)).mono ?_
       rintro e w7 ⟨rfl, hb7⟩
       rw [hlw.out, hW.out]
       have hb57 : Below w5.heap.size w5 w7 := ((Below.refl w5.heap.size w5).alloc (Nat.le_refl _) _).trans (hb7.mono (by simp))
       have hL7 : LineAt w7 (w.heap.size + 1) N zs.length (mid zs N) := hL5.below hb57 hlt5
       have hb17 : Below (w.heap.size + 1) (w.alloc (.cells #[.int .i64 0, .int .i64 0] 25)) w7 := Below.trans (by simpa using hb5) (hb57.mono (by omega))
       have x0 : w7.cell? ⟨w.heap.size, 0, none⟩ = some (.int .i64 0) := (hb17.cell (p := ⟨w.heap.size, 0, none⟩) (by simp)).trans (by go_simp)
       have x1 : w7.cell? ⟨w.heap.size, 1, none⟩ = some (.int .i64 0) := (hb17.cell (p := ⟨w.heap.size, 1, none⟩) (by simp)).trans (by go_simp)
       have y0 : w7.frozen? ⟨w.heap.size, 0, none⟩ = false := (hb17.frozen (p := ⟨w.heap.size, 0, none⟩) (by simp)).trans (by go_simp)
       have y1 : w7.frozen? ⟨w.heap.size, 1, none⟩ = false := (hb17.frozen (p := ⟨w.heap.size, 1, none⟩) (by simp)).trans (by go_simp)
       have hbw7 : Below w.heap.size w w7 := ((Below.refl _ w).alloc (Nat.le_refl _) _).trans (hb17.mono (by omega))
       have hs7 : w.heap.size + 2 ≤ w7.heap.size := by have := hb57.size; omega
       clear hb5 hL5 hb7 hb57 hb17 hsz5 hlt5
       unfold witV
       simp only))
  have hlt7 := hL7.lt
  have hne : ¬ w.heap.size = w7.heap.size := by omega
  have z0 : (w7.alloc (.cells #[.int .i64 0, .int .i64 t, .bool low] 86)).cell? ⟨w7.heap.size, 1, none⟩ = some (.int .i64 t) := by go_simp
  have z1 : (w7.alloc (.cells #[.int .i64 0, .int .i64 t, .bool low] 86)).cell? ⟨w7.heap.size, 2, none⟩ = some (.bool low) := by go_simp
  obtain ⟨W8, hW8⟩ : ∃ W8, w7.alloc (.cells #[.int .i64 0, .int .i64 t, .bool low] 86) = W8 := ⟨_, rfl⟩
  have hb78 : Below w7.heap.size w7 W8 := by rw [← hW8]; exact (Below.refl _ _).alloc (Nat.le_refl _) _
  have hs8 : W8.heap.size = w7.heap.size + 1 := by rw [← hW8]; simp
  rw [hW8] at z0 z1 ⊢
  clear hW8
  have hL8 := hL7.below hb78 hlt7
  have hbw8 : Below w.heap.size w W8 := hbw7.trans (hb78.mono (by omega))
  have x0 := (hb78.cell (p := ⟨w.heap.size, 0, none⟩) (by show w.heap.size < _; omega)).trans x0
  have x1 := (hb78.cell (p := ⟨w.heap.size, 1, none⟩) (by show w.heap.size < _; omega)).trans x1
  have y0 := (hb78.frozen (p := ⟨w.heap.size, 0, none⟩) (by show w.heap.size < _; omega)).trans y0
  have y1 := (hb78.frozen (p := ⟨w.heap.size, 1, none⟩) (by show w.heap.size < _; omega)).trans y1
  clear hL7 hb78 hbw7
  go_region_held3 (fun w' => w'.cell? ⟨w7.heap.size, 1, none⟩ = some (.int .i64 t) ∧ w'.cell? ⟨w7.heap.size, 2, none⟩ = some (.bool low))
    (first | exact ⟨z0, z1⟩ | exact ⟨z2, z3⟩ | go_keep)
    ((go_at_call 55; refine (frac_any (hL8.drewN 1) (by omega) k3 d (by omega) (by omega)).mono ?_; rintro e w9 ⟨rfl, hb9⟩
      have z2 : w9.cell? ⟨w7.heap.size, 1, none⟩ = some (.int .i64 t) := cell_below (by exact z0) hb9
      have z3 : w9.cell? ⟨w7.heap.size, 2, none⟩ = some (.bool low) := cell_below (by exact z1) hb9
      have u0 : w9.cell? ⟨w.heap.size, 0, none⟩ = some (.int .i64 0) := cell_below (by exact x0) hb9
      have u1 : w9.cell? ⟨w.heap.size, 1, none⟩ = some (.int .i64 0) := cell_below (by exact x1) hb9
      have v0 : w9.frozen? ⟨w.heap.size, 0, none⟩ = false := (hb9.frozen (p := ⟨w.heap.size, 0, none⟩) (by show w.heap.size < W8.heap.size; omega)).trans y0
      have v1 : w9.frozen? ⟨w.heap.size, 1, none⟩ = false := (hb9.frozen (p := ⟨w.heap.size, 1, none⟩) (by show w.heap.size < W8.heap.size; omega)).trans y1
      have hbw9 : Below w.heap.size w w9 := (below_drewN hbw8 1).trans (hb9.mono (by show w.heap.size ≤ W8.heap.size; omega))
      unfold fracV))
  all_goals go_wp2
  refine bodyPost_ret (v := .tuple #[fracV (redN d ((zs.length : Int) * N)) (redD d ((zs.length : Int) * N)), .int .i64 t, .bool low, .int .i64 0]) (by unfold fracV; simp [results, Try.results16, go_sem]; go_simp) rfl ?_
  exact ⟨rfl, (hbw9.setCell (p := ⟨w.heap.size, 0, none⟩) (Nat.le_refl _) _).setCell (p := ⟨w.heap.size, 1, none⟩) (Nat.le_refl _) _⟩
end Go.Proofs.Ytifbiamfandjnaa
