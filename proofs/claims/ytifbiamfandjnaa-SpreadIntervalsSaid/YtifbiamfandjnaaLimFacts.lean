import Derived.Test.YtifbiamfandjnaaIntvWalk
import Derived.Test.YtifbiamfandjnaaDevFn
import Derived.Test.YtifbiamfandjnaaLineAny
set_option linter.unusedSimpArgs false
set_option linter.unusedVariables false
namespace Go.Proofs.Ytifbiamfandjnaa
open Go Go.Proofs Go.RowKit
theorem pair_exists {g : Nat → Int} {N : Nat} (hN : 1 ≤ N) (h0 : g 0 = 0) : ∃ D s t, pairSpec g N D s t := by
  obtain ⟨⟨i, hi, ei, fi⟩, hlo⟩ := lo_spec h0 N
  obtain ⟨⟨j, hj, ej, fj⟩, hhi⟩ := hi_spec h0 N
  by_cases h : g i < g j
  · exact ⟨_, _, _, pair_of (by omega) (by omega) (fun t ht => by rw [ei]; exact hlo t (by omega)) (fun t ht => by rw [ej]; exact hhi t (by omega)) fi fj h⟩
  · refine ⟨0, 0, 1, pair_flat hN fun t ht => ?_⟩
    have := hlo t (by omega); have := hhi t (by omega); have := hlo 0 (by omega); have := hhi 0 (by omega)
    omega
theorem intv_fix {N D s t : Nat} {v : Value} {zs : List Int} {w : World} (hv : IntsAt w v zs) (hok : okLine N zs = true) (h : pairSpec (excT N zs) N D s t) :
    Calls Try.prog 23 #[.int .i64 N, v] w fun e w' => e = .returned (.tuple #[fracV (redN (D : Int) ((zs.length : Int) * N)) (redD (D : Int) ((zs.length : Int) * N)), .agg #[.int .i64 s, .int .i64 t], .int .i64 0]) ∧ Below w.heap.size w w' := by
  refine (intv_any hv hok).mono ?_
  rintro e w' ⟨D', s', t', rfl, h', hb⟩
  obtain ⟨rfl, rfl, rfl⟩ := pair_unique h' h
  exact ⟨rfl, hb⟩
theorem lessR_no {a b c d : Int} (ha : -200000 ≤ a ∧ a ≤ 200000) (hb : 1 ≤ b ∧ b ≤ 200000) (hc : -200000 ≤ c ∧ c ≤ 200000) (hd : 1 ≤ d ∧ d ≤ 200000) (hno : ¬ (a * d < c * b)) (w : World) :
    Calls Try.prog 50 #[.agg #[.int .i64 a, .int .i64 b], .agg #[.int .i64 c, .int .i64 d]] w fun e w' => e = .returned (.bool false) ∧ Below w.heap.size w w' := by
  have hb' : ∀ x y : Int, -200000 ≤ x → x ≤ 200000 → 1 ≤ y → y ≤ 200000 → IntKind.i64.wrap (x * y) = x * y := fun x y h1 h2 h3 h4 => by
    have k1 : x * y ≤ 200000 * 200000 := by
      rcases Int.lt_or_le x 0 with h | h
      · have := Int.mul_nonneg (show (0 : Int) ≤ -x by omega) (show (0 : Int) ≤ y by omega)
        rw [Int.neg_mul] at this; omega
      · exact Int.mul_le_mul h2 h4 (by omega) (by omega)
    have k2 : -(200000 * 200000) ≤ x * y := by
      rcases Int.lt_or_le x 0 with h | h
      · have := Int.mul_le_mul (show -x ≤ 200000 by omega) h4 (by omega) (by omega)
        rw [Int.neg_mul] at this; omega
      · have := Int.mul_nonneg h (show (0 : Int) ≤ y by omega); omega
    exact IntWalk.i64_in _ (by omega)
  have := refLess_any (hb' a d ha.1 ha.2 hd.1 hd.2) (hb' c b hc.1 hc.2 hb.1 hb.2) w
  rwa [show decide (a * d < c * b) = false from decide_eq_false hno] at this
theorem lim_facts {N m t : Nat} {L : List Int} (hok : okLine (N : Int) L = true) (hm : L.length = m) (ht : t ≤ N) : (1 ≤ m ∧ m ≤ 60 ∧ 1 ≤ N ∧ N ≤ 1000) ∧ ∃ (a s t' B : Nat) (l : Bool) (x y x2 y2 u v p q : Int),
    (∀ (w : World) (vv : Value), IntsAt w vv L → Calls Try.prog 16 #[.int .i64 N, vv] w fun e w' => e = .returned (.tuple #[.agg #[.int .i64 x, .int .i64 y], .int .i64 a, .bool l, .int .i64 0]) ∧ Below w.heap.size w w') ∧
    (∀ (w : World) (vv : Value), IntsAt w vv L → Calls Try.prog 17 #[.int .i64 N, vv, .int .i64 a] w fun e w' => e = .returned (.tuple #[.agg #[.int .i64 x, .int .i64 y], .int .i64 0]) ∧ Below w.heap.size w w') ∧
    (∀ (w : World) (vv : Value), IntsAt w vv L → Calls Try.prog 17 #[.int .i64 N, vv, .int .i64 t] w fun e w' => e = .returned (.tuple #[.agg #[.int .i64 x2, .int .i64 y2], .int .i64 0]) ∧ Below w.heap.size w w') ∧
    (∀ (w : World) (vv : Value), IntsAt w vv L → Calls Try.prog 23 #[.int .i64 N, vv] w fun e w' => e = .returned (.tuple #[.agg #[.int .i64 u, .int .i64 v], .agg #[.int .i64 s, .int .i64 t'], .int .i64 0]) ∧ Below w.heap.size w w') ∧
    (t < a → ¬ (x = x2 ∧ y = y2)) ∧ s < t' ∧ IntKind.i64.wrap (2 * x) = 2 * x ∧ B = (excT N L t).natAbs ∧
    (∀ w : World, Calls Try.prog 50 #[.agg #[.int .i64 x, .int .i64 y], .agg #[.int .i64 x2, .int .i64 y2]] w fun e w' => e = .returned (.bool false) ∧ Below w.heap.size w w') ∧
    (∀ w : World, Calls Try.prog 50 #[.agg #[.int .i64 x, .int .i64 y], .agg #[.int .i64 1, .int .i64 (2 * (m : Int))]] w fun e w' => e = .returned (.bool false) ∧ Below w.heap.size w w') ∧
    (∀ w : World, Calls Try.prog 50 #[.agg #[.int .i64 1, .int .i64 1], .agg #[.int .i64 x, .int .i64 y]] w fun e w' => e = .returned (.bool false) ∧ Below w.heap.size w w') ∧
    (∀ w : World, Calls Try.prog 22 #[.int .i64 B, .int .i64 ((N : Int) * m)] w fun e w' => e = .returned (.agg #[.int .i64 p, .int .i64 q]) ∧ Below w.heap.size w w') ∧
    (∀ w : World, Calls Try.prog 50 #[.agg #[.int .i64 u, .int .i64 v], .agg #[.int .i64 p, .int .i64 q]] w fun e w' => e = .returned (.bool false) ∧ Below w.heap.size w w') ∧
    (∀ w : World, Calls Try.prog 50 #[.agg #[.int .i64 (2 * x), .int .i64 y], .agg #[.int .i64 u, .int .i64 v]] w fun e w' => e = .returned (.bool false) ∧ Below w.heap.size w w') := by
  have hok1 := hok
  unfold okLine at hok1
  rw [Bool.and_eq_true, decide_eq_true_iff, hm] at hok1
  obtain ⟨⟨k1, k2, k3, k4⟩, _⟩ := hok1
  have hN1 : 1 ≤ N := by omega
  have hN2 : N ≤ 1000 := by omega
  have hbig := line_big hok
  obtain ⟨f1, f2, f3, f4⟩ := line_facts N L
  obtain ⟨D, s, t', hp⟩ := pair_exists hN1 (exc_zero hok)
  have hDW := pair_le_two hp
  have hBD := pair_ge hok hp ht
  have hab := dev_box N L f1
  rw [hm] at f2 f3 f4 hab
  have h3t := f3 t ht
  obtain ⟨W, hW⟩ : ∃ W : Nat, (lineW N L).2 = (W : Int) := ⟨(lineW N L).2.toNat, by omega⟩
  rw [hW] at hbig f2 f3 f4 hDW h3t
  obtain ⟨a, ha⟩ : ∃ a, (lineW N L).1.1 = a := ⟨_, rfl⟩
  rw [ha] at f1 f2 f4 hab
  obtain ⟨Y, hY⟩ : ∃ Y, (devOf N m L t).1 = Y := ⟨_, rfl⟩
  rw [hY] at h3t
  have hWP : W ≤ m * N := by omega
  obtain ⟨B, hB⟩ : ∃ B, (excT N L t).natAbs = B := ⟨_, rfl⟩
  rw [hB] at hBD
  have hP0 : 0 < m * N := Nat.mul_pos (by omega) (by omega)
  have hP2 : m * N ≤ 60 * 1000 := Nat.mul_le_mul (by omega) hN2
  have ep : (m : Int) * (N : Int) = ((m * N : Nat) : Int) := (Int.natCast_mul _ _).symm
  have r1 := red_parts (W : Int) (P := ((m * N : Nat) : Int)) (by omega)
  have r2 := red_parts (Y : Int) (P := ((m * N : Nat) : Int)) (by omega)
  have r3 := red_parts (D : Int) (P := ((m * N : Nat) : Int)) (by omega)
  have r4 := red_parts (B : Int) (P := ((m * N : Nat) : Int)) (by omega)
  have n1 := red_lt (a := W) (b := Y) hP0 (by omega)
  have n2 := red_less (w := W) (n := m) (N := N) (by omega) hN1 hbig
  have n3 := red_one (a := W) hP0 hWP
  have n4 := red_lt (a := D) (b := B) hP0 (by omega)
  have n5 := red_twice (a := W) (b := D) hP0 (by omega)
  have n6 : t < a → ¬ (redN (W : Int) ((m * N : Nat) : Int) = redN (Y : Int) ((m * N : Nat) : Int) ∧ redD (W : Int) ((m * N : Nat) : Int) = redD (Y : Int) ((m * N : Nat) : Int)) := fun hta h => by
    have := red_inj hP0 h.1 h.2
    have := f4 t hta
    omega
  rw [ep] at n2
  refine ⟨⟨by omega, by omega, hN1, hN2⟩, a, s, t', B, (lineW N L).1.2.1, redN (W : Int) ((m * N : Nat) : Int), redD (W : Int) ((m * N : Nat) : Int), redN (Y : Int) ((m * N : Nat) : Int), redD (Y : Int) ((m * N : Nat) : Int), redN (D : Int) ((m * N : Nat) : Int), redD (D : Int) ((m * N : Nat) : Int), redN (B : Int) ((m * N : Nat) : Int), redD (B : Int) ((m * N : Nat) : Int), ?_, ?_, ?_, ?_, n6, hp.1, IntWalk.i64_in _ (by omega), hB.symm, ?_, ?_, ?_, ?_, ?_, ?_⟩
  · intro w vv h
    have := line_any h hok
    rw [hW, hm, ep, ha] at this
    exact this
  · intro w vv h
    have := dev_any h hok f1
    rw [hm, show (devOf N m L a).1 = W by omega, ep] at this
    exact this
  · intro w vv h
    have := dev_any h hok ht
    rw [hm, hY, ep] at this
    exact this
  · intro w vv h
    have := intv_fix h hok hp
    rw [hm, ep] at this
    exact this
  · intro w; exact lessR_no (by omega) (by omega) (by omega) (by omega) n1 w
  · intro w; exact lessR_no (by omega) (by omega) (by omega) (by omega) n2 w
  · intro w; exact lessR_no (by omega) (by omega) (by omega) (by omega) n3 w
  · intro w
    have := reduced_any (B : Int) ((m * N : Nat) : Int) (by omega) (by omega) (by omega) (by omega) w
    rw [show ((N : Int) * m) = ((m * N : Nat) : Int) by rw [Int.mul_comm]; exact ep]
    exact this
  · intro w; exact lessR_no (by omega) (by omega) (by omega) (by omega) n4 w
  · intro w; exact lessR_no (by omega) (by omega) (by omega) (by omega) n5 w
theorem belowC_push (zs : List Int) (z : Int) (t : Nat) : belowC (zs ++ [z]) t = belowC zs t + if z < (t : Int) then 1 else 0 := by
  unfold belowC
  rw [List.filter_append, List.length_append]
  by_cases h : z < (t : Int)
  · simp [h]
  · simp [h]
end Go.Proofs.Ytifbiamfandjnaa
