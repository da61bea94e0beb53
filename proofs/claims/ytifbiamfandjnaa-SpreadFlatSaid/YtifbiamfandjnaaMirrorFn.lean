import Derived.Test.YtifbiamfandjnaaValid
set_option linter.unusedSimpArgs false
set_option linter.unusedVariables false
namespace Go.Proofs.Ytifbiamfandjnaa
open Go Go.Proofs Go.RowKit
def mir (b : Nat) : Nat → Nat → Nat → Nat → Nat × Nat
  | 0, _, n, d => (n, d)
  | f + 1, k, n, d => if k = 0 then (n, d) else mir b f (k / b) (n * b + k % b) (d * b)
def baseB (b : Int) : Bool := decide (2 ≤ b ∧ b ≤ 16)
theorem isBase_any (b : Int) (w : World) : Calls Try.prog 73 #[.int .i64 b] w fun e w' => e = .returned (.bool (baseB b)) ∧ w' = w := by
  obtain ⟨D, hD⟩ : ∃ D, Keep (baseB b = D) := ⟨_, ⟨rfl⟩⟩
  rw [hD.out]
  have h1 : 2 ≤ b → D = decide (b ≤ 16) := fun h => by rw [← hD.out]; unfold baseB; rw [decide_eq_decide]; omega
  have h2 : ¬ 2 ≤ b → D = false := fun h => by rw [← hD.out]; unfold baseB; rw [decide_eq_false_iff_not]; omega
  go_enter Try.func73, Try.ntmps73
  by_cases h : 2 ≤ b
  · have hk := Keep.mk (h1 h)
    clear h1 h2
    go_wp2
    go_ret
    exact ⟨by rw [hk.out]; rfl, rfl⟩
  · have hk := Keep.mk (h2 h)
    clear h1 h2
    go_wp2
    go_ret
    exact ⟨by rw [hk.out]; rfl, rfl⟩
theorem refBase_any (b : Int) (w : World) : Calls Try.prog 36 #[.int .i64 b] w fun e w' => e = .returned (.bool (baseB b)) ∧ w' = w := by
  obtain ⟨D, hD⟩ : ∃ D, Keep (baseB b = D) := ⟨_, ⟨rfl⟩⟩
  rw [hD.out]
  have h1 : 2 ≤ b → D = decide (b ≤ 16) := fun h => by rw [← hD.out]; unfold baseB; rw [decide_eq_decide]; omega
  have h2 : ¬ 2 ≤ b → D = false := fun h => by rw [← hD.out]; unfold baseB; rw [decide_eq_false_iff_not]; omega
  go_enter Try.func36, Try.ntmps36
  by_cases h : 2 ≤ b
  · have hk := Keep.mk (h1 h)
    clear h1 h2
    go_wp2
    go_ret
    exact ⟨by rw [hk.out]; rfl, rfl⟩
  · have hk := Keep.mk (h2 h)
    clear h1 h2
    go_wp2
    go_ret
    exact ⟨by rw [hk.out]; rfl, rfl⟩
set_option maxHeartbeats 1000000 in
theorem mirror_any {b k X Y : Nat} (hb1 : 2 ≤ b) (hb2 : b ≤ 16) (hk : k ≤ 1000000) (hm : mir b 20 k 0 1 = (X, Y)) (w : World) :
    Calls Try.prog 74 #[.int .i64 b, .int .i64 k] w fun e w' => e = .returned (fracV (redN X Y) (redD X Y)) ∧ Below w.heap.size w w' := by
  have hmk := Keep.mk hm
  have hk0 := Keep.mk hk
  clear hm
  go_enter Try.func74, Try.ntmps74
  go_wp2
  go_loop [1, 5, 6] (fun x y z => ∃ f k' n d : Nat, x = .int .i64 k' ∧ y = .int .i64 n ∧ z = .int .i64 d ∧ Keep (mir b f k' n d = (X, Y)) ∧ k' < 2 ^ f ∧ n < d ∧ d * k' ≤ k ∧ d ≤ 16000000) (fun x _ _ => (intOf x).toNat)
  case atStart => exact ⟨20, k, 0, 1, rfl, rfl, rfl, hmk, by omega, by omega, by omega, by omega⟩
  case round =>
    obtain ⟨f, k', n, d, rfl, rfl, rfl, hr, hf, hnd, hdk, hd⟩ := hrel
    by_cases hz : k' = 0
    · subst hz
      have hxy : Keep (n = X ∧ d = Y) := ⟨by
        have := hr.out
        cases f with
        | zero => simp only [mir, Prod.mk.injEq] at this; exact this
        | succ f => simp only [mir, if_true, Prod.mk.injEq] at this; exact this⟩
      obtain ⟨rfl, rfl⟩ := hxy.out
      clear hdk hf
      have hlow := fun w => lowest_any (n : Int) (d : Int) (by omega) (by omega) (by omega) (by omega) w
      obtain ⟨x, hx⟩ : ∃ x, redN (n : Int) (d : Int) = x := ⟨_, rfl⟩
      obtain ⟨y, hy⟩ : ∃ y, redD (n : Int) (d : Int) = y := ⟨_, rfl⟩
      rw [hx, hy] at hlow
      have hxk := Keep.mk hx
      have hyk := Keep.mk hy
      clear hx hy
      unfold fracV at hlow
      go_wp2_with (go_at_call 61; (with_reducible refine (hlow _).mono ?_); rintro e w5 ⟨rfl, hb⟩
                   have c0 : w5.cell? ⟨w.heap.size, 0, none⟩ = some (.int .i64 0) := (hb.cell (p := ⟨w.heap.size, 0, none⟩) (by simp)).trans (by go_simp)
                   have c1 : w5.cell? ⟨w.heap.size, 1, none⟩ = some (.int .i64 0) := (hb.cell (p := ⟨w.heap.size, 1, none⟩) (by simp)).trans (by go_simp)
                   have f0 : w5.frozen? ⟨w.heap.size, 0, none⟩ = false := (hb.frozen (p := ⟨w.heap.size, 0, none⟩) (by simp)).trans (by go_simp)
                   have f1 : w5.frozen? ⟨w.heap.size, 1, none⟩ = false := (hb.frozen (p := ⟨w.heap.size, 1, none⟩) (by simp)).trans (by go_simp)
                   have hbk : Below w.heap.size w w5 := ((Below.refl _ w).alloc (Nat.le_refl _) _).trans (hb.mono (by simp))
                   clear hb hlow)
      refine bodyPost_ret (v := fracV x y) (by unfold fracV; simp [results, Try.results74, go_sem]; go_simp) rfl ?_
      exact ⟨by rw [← hxk.out, ← hyk.out], (hbk.setCell (p := ⟨w.heap.size, 0, none⟩) (Nat.le_refl _) _).setCell (p := ⟨w.heap.size, 1, none⟩) (Nat.le_refl _) _⟩
    · have hk1 : 1 ≤ k' := by omega
      have hd1 : d ≤ 1000000 := by
        have := Nat.mul_le_mul_left d hk1
        have := hk0.out
        omega
      have hk6 : k' ≤ 1000000 := by
        have h1 := Nat.mul_le_mul_right k' (show 1 ≤ d by omega)
        have := hk0.out
        omega
      have hdb : d * b ≤ 1000000 * 16 := Nat.mul_le_mul hd1 hb2
      have hnb : (n + 1) * b ≤ d * b := Nat.mul_le_mul_right b hnd
      rw [Nat.add_mul, Nat.one_mul] at hnb
      have hmod : k' % b < b := Nat.mod_lt _ (by omega)
      have hdiv : d * b * (k' / b) ≤ k := by
        rw [Nat.mul_assoc]
        exact Nat.le_trans (Nat.mul_le_mul_left d (Nat.mul_div_le k' b)) hdk
      obtain ⟨f', rfl⟩ : ∃ f', f = f' + 1 := by
        cases f with
        | zero => omega
        | succ f' => exact ⟨f', rfl⟩
      have hr2 : Keep (mir b f' (k' / b) (n * b + k' % b) (d * b) = (X, Y)) := ⟨by
        have := hr.out
        simp only [mir, hz, if_false] at this
        exact this⟩
      have hk2 : k' / b < 2 ^ f' := by
        have h1 : k' / b ≤ k' / 2 := Nat.div_le_div_left hb1 (by omega)
        rw [Nat.pow_succ] at hf
        omega
      have hk3 : k' / b < k' := Nat.div_lt_self (by omega) (by omega)
      obtain ⟨N1, hN1⟩ : ∃ N1, Keep (n * b = N1) := ⟨_, ⟨rfl⟩⟩
      obtain ⟨R1, hR1⟩ : ∃ R1, Keep (k' % b = R1) := ⟨_, ⟨rfl⟩⟩
      obtain ⟨Q1, hQ1⟩ : ∃ Q1, Keep (k' / b = Q1) := ⟨_, ⟨rfl⟩⟩
      obtain ⟨D1, hD1⟩ : ∃ D1, Keep (d * b = D1) := ⟨_, ⟨rfl⟩⟩
      rw [hN1.out] at hnb hr2
      rw [hR1.out] at hmod hr2
      rw [hQ1.out] at hk2 hk3 hr2 hdiv
      rw [hD1.out] at hnb hdb hr2 hdiv
      have e1 : IntKind.i64.wrap ((n : Int) * (b : Int)) = (N1 : Int) := by
        rw [← Int.natCast_mul, hN1.out, IntWalk.i64_in _ (by omega)]
      have e2 : IntKind.i64.wrap ((k' : Int).tmod (b : Int)) = (R1 : Int) := by rw [← hR1.out, IntWalk.up_tmod rfl rfl, IntWalk.i64_in _ (by rw [hR1.out]; omega)]
      have e3 : IntKind.i64.wrap ((k' : Int).tdiv (b : Int)) = (Q1 : Int) := by rw [← hQ1.out, IntWalk.up_tdiv rfl rfl, IntWalk.i64_in _ (by rw [hQ1.out]; omega)]
      have e4 : IntKind.i64.wrap ((d : Int) * (b : Int)) = (D1 : Int) := by
        rw [← Int.natCast_mul, hD1.out, IntWalk.i64_in _ (by omega)]
      have hb0 : ((b : Int) == 0) = false := by rw [beq_eq_false_iff_ne]; omega
      have e5 : (k' : Int) % (b : Int) = (R1 : Int) := by rw [← hR1.out]; rfl
      have e6 : IntKind.i64.wrap ((k' : Int) / (b : Int)) = (Q1 : Int) := by
        rw [show (k' : Int) / (b : Int) = (Q1 : Int) from by rw [← hQ1.out]; rfl]; exact IntWalk.i64_in _ (by omega)
      have e7 : IntKind.i64.wrap ((N1 : Int) + (R1 : Int)) = ((N1 + R1 : Nat) : Int) := by rw [IntWalk.i64_in _ (by omega)]; push_cast; rfl
      clear hdk hf
      go_wp2
      refine ⟨⟨f', Q1, N1 + R1, D1, rfl, by push_cast; rfl, rfl, hr2, hk2, by omega, hdiv, by omega⟩, ?_⟩
      simp only [intOf]
      omega
set_option maxHeartbeats 1000000 in
theorem refMirror_any {b k X Y : Nat} (hb1 : 2 ≤ b) (hb2 : b ≤ 16) (hk : k ≤ 1000000) (hm : mir b 20 k 0 1 = (X, Y)) (w : World) :
    Calls Try.prog 37 #[.int .i64 b, .int .i64 k] w fun e w' => e = .returned (fracV (redN X Y) (redD X Y)) ∧ Below w.heap.size w w' := by
  have hmk := Keep.mk hm
  have hk0 := Keep.mk hk
  clear hm
  go_enter Try.func37, Try.ntmps37
  go_wp2
  go_loop [1, 5, 6] (fun x y z => ∃ f k' n d : Nat, x = .int .i64 k' ∧ y = .int .i64 n ∧ z = .int .i64 d ∧ Keep (mir b f k' n d = (X, Y)) ∧ k' < 2 ^ f ∧ n < d ∧ d * k' ≤ k ∧ d ≤ 16000000) (fun x _ _ => (intOf x).toNat)
  case atStart => exact ⟨20, k, 0, 1, rfl, rfl, rfl, hmk, by omega, by omega, by omega, by omega⟩
  case round =>
    obtain ⟨f, k', n, d, rfl, rfl, rfl, hr, hf, hnd, hdk, hd⟩ := hrel
    by_cases hz : k' = 0
    · subst hz
      have hxy : Keep (n = X ∧ d = Y) := ⟨by
        have := hr.out
        cases f with
        | zero => simp only [mir, Prod.mk.injEq] at this; exact this
        | succ f => simp only [mir, if_true, Prod.mk.injEq] at this; exact this⟩
      obtain ⟨rfl, rfl⟩ := hxy.out
      clear hdk hf
      have hlow := fun w => reduced_any (n : Int) (d : Int) (by omega) (by omega) (by omega) (by omega) w
      obtain ⟨x, hx⟩ : ∃ x, redN (n : Int) (d : Int) = x := ⟨_, rfl⟩
      obtain ⟨y, hy⟩ : ∃ y, redD (n : Int) (d : Int) = y := ⟨_, rfl⟩
      rw [hx, hy] at hlow
      have hxk := Keep.mk hx
      have hyk := Keep.mk hy
      clear hx hy
      unfold fracV at hlow
      go_wp2_with (go_at_call 22; (with_reducible refine (hlow _).mono ?_); rintro e w5 ⟨rfl, hb⟩
                   have c0 : w5.cell? ⟨w.heap.size, 0, none⟩ = some (.int .i64 0) := (hb.cell (p := ⟨w.heap.size, 0, none⟩) (by simp)).trans (by go_simp)
                   have c1 : w5.cell? ⟨w.heap.size, 1, none⟩ = some (.int .i64 0) := (hb.cell (p := ⟨w.heap.size, 1, none⟩) (by simp)).trans (by go_simp)
                   have f0 : w5.frozen? ⟨w.heap.size, 0, none⟩ = false := (hb.frozen (p := ⟨w.heap.size, 0, none⟩) (by simp)).trans (by go_simp)
                   have f1 : w5.frozen? ⟨w.heap.size, 1, none⟩ = false := (hb.frozen (p := ⟨w.heap.size, 1, none⟩) (by simp)).trans (by go_simp)
                   have hbk : Below w.heap.size w w5 := ((Below.refl _ w).alloc (Nat.le_refl _) _).trans (hb.mono (by simp))
                   clear hb hlow)
      refine bodyPost_ret (v := fracV x y) (by unfold fracV; simp [results, Try.results37, go_sem]; go_simp) rfl ?_
      exact ⟨by rw [← hxk.out, ← hyk.out], (hbk.setCell (p := ⟨w.heap.size, 0, none⟩) (Nat.le_refl _) _).setCell (p := ⟨w.heap.size, 1, none⟩) (Nat.le_refl _) _⟩
    · have hk1 : 1 ≤ k' := by omega
      have hd1 : d ≤ 1000000 := by
        have := Nat.mul_le_mul_left d hk1
        have := hk0.out
        omega
      have hk6 : k' ≤ 1000000 := by
        have h1 := Nat.mul_le_mul_right k' (show 1 ≤ d by omega)
        have := hk0.out
        omega
      have hdb : d * b ≤ 1000000 * 16 := Nat.mul_le_mul hd1 hb2
      have hnb : (n + 1) * b ≤ d * b := Nat.mul_le_mul_right b hnd
      rw [Nat.add_mul, Nat.one_mul] at hnb
      have hmod : k' % b < b := Nat.mod_lt _ (by omega)
      have hdiv : d * b * (k' / b) ≤ k := by
        rw [Nat.mul_assoc]
        exact Nat.le_trans (Nat.mul_le_mul_left d (Nat.mul_div_le k' b)) hdk
      obtain ⟨f', rfl⟩ : ∃ f', f = f' + 1 := by
        cases f with
        | zero => omega
        | succ f' => exact ⟨f', rfl⟩
      have hr2 : Keep (mir b f' (k' / b) (n * b + k' % b) (d * b) = (X, Y)) := ⟨by
        have := hr.out
        simp only [mir, hz, if_false] at this
        exact this⟩
      have hk2 : k' / b < 2 ^ f' := by
        have h1 : k' / b ≤ k' / 2 := Nat.div_le_div_left hb1 (by omega)
        rw [Nat.pow_succ] at hf
        omega
      have hk3 : k' / b < k' := Nat.div_lt_self (by omega) (by omega)
      obtain ⟨N1, hN1⟩ : ∃ N1, Keep (n * b = N1) := ⟨_, ⟨rfl⟩⟩
      obtain ⟨R1, hR1⟩ : ∃ R1, Keep (k' % b = R1) := ⟨_, ⟨rfl⟩⟩
      obtain ⟨Q1, hQ1⟩ : ∃ Q1, Keep (k' / b = Q1) := ⟨_, ⟨rfl⟩⟩
      obtain ⟨D1, hD1⟩ : ∃ D1, Keep (d * b = D1) := ⟨_, ⟨rfl⟩⟩
      rw [hN1.out] at hnb hr2
      rw [hR1.out] at hmod hr2
      rw [hQ1.out] at hk2 hk3 hr2 hdiv
      rw [hD1.out] at hnb hdb hr2 hdiv
      have e1 : IntKind.i64.wrap ((n : Int) * (b : Int)) = (N1 : Int) := by
        rw [← Int.natCast_mul, hN1.out, IntWalk.i64_in _ (by omega)]
      have e2 : IntKind.i64.wrap ((k' : Int).tmod (b : Int)) = (R1 : Int) := by rw [← hR1.out, IntWalk.up_tmod rfl rfl, IntWalk.i64_in _ (by rw [hR1.out]; omega)]
      have e3 : IntKind.i64.wrap ((k' : Int).tdiv (b : Int)) = (Q1 : Int) := by rw [← hQ1.out, IntWalk.up_tdiv rfl rfl, IntWalk.i64_in _ (by rw [hQ1.out]; omega)]
      have e4 : IntKind.i64.wrap ((d : Int) * (b : Int)) = (D1 : Int) := by
        rw [← Int.natCast_mul, hD1.out, IntWalk.i64_in _ (by omega)]
      have hb0 : ((b : Int) == 0) = false := by rw [beq_eq_false_iff_ne]; omega
      have e5 : (k' : Int) % (b : Int) = (R1 : Int) := by rw [← hR1.out]; rfl
      have e6 : IntKind.i64.wrap ((k' : Int) / (b : Int)) = (Q1 : Int) := by
        rw [show (k' : Int) / (b : Int) = (Q1 : Int) from by rw [← hQ1.out]; rfl]; exact IntWalk.i64_in _ (by omega)
      have e7 : IntKind.i64.wrap ((N1 : Int) + (R1 : Int)) = ((N1 + R1 : Nat) : Int) := by rw [IntWalk.i64_in _ (by omega)]; push_cast; rfl
      clear hdk hf
      go_wp2
      refine ⟨⟨f', Q1, N1 + R1, D1, rfl, by push_cast; rfl, rfl, hr2, hk2, by omega, hdiv, by omega⟩, ?_⟩
      simp only [intOf]
      omega
def mirOK (b k : Int) : Bool := baseB b && decide (0 ≤ k ∧ k ≤ 1000000)
theorem mirrorFn_no {b k : Int} (h : mirOK b k = false) (w : World) :
    Calls Try.prog 34 #[.int .i64 b, .int .i64 k] w fun e w' => e = .returned (.tuple #[fracV 0 0, .int .i64 2]) ∧ Below w.heap.size w w' := by
  unfold mirOK at h
  have hq := fun w => isBase_any b w
  unfold fracV
  go_enter Try.func34, Try.ntmps34
  cases hb : baseB b with
  | false =>
    rw [hb] at hq
    clear h hb
    go_wp2_with (go_at_call 73; refine (hq _).mono ?_; rintro e w5 ⟨rfl, rfl⟩)
    refine bodyPost_ret (v := .tuple #[.agg #[.int .i64 0, .int .i64 0], .int .i64 2]) (by simp [results, Try.results34, go_sem]) rfl ?_
    exact ⟨rfl, (Below.refl _ _).alloc (Nat.le_refl _) _⟩
  | true =>
    rw [hb] at hq h
    rw [Bool.true_and, decide_eq_false_iff_not] at h
    have hk : k < 0 ∨ 1000000 < k := by omega
    clear h hb
    rcases hk with hk | hk
    · go_wp2_with (go_at_call 73; refine (hq _).mono ?_; rintro e w5 ⟨rfl, rfl⟩)
      all_goals refine bodyPost_ret (v := .tuple #[.agg #[.int .i64 0, .int .i64 0], .int .i64 2]) (by simp [results, Try.results34, go_sem]) rfl ?_
      all_goals exact ⟨rfl, (Below.refl _ _).alloc (Nat.le_refl _) _⟩
    · go_wp2_with (go_at_call 73; refine (hq _).mono ?_; rintro e w5 ⟨rfl, rfl⟩)
      all_goals refine bodyPost_ret (v := .tuple #[.agg #[.int .i64 0, .int .i64 0], .int .i64 2]) (by simp [results, Try.results34, go_sem]) rfl ?_
      all_goals exact ⟨rfl, (Below.refl _ _).alloc (Nat.le_refl _) _⟩
theorem mirrorFn_any {b k X Y : Nat} (hb1 : 2 ≤ b) (hb2 : b ≤ 16) (hk : k ≤ 1000000) (hm : mir b 20 k 0 1 = (X, Y)) (w : World) :
    Calls Try.prog 34 #[.int .i64 b, .int .i64 k] w fun e w' => e = .returned (.tuple #[fracV (redN X Y) (redD X Y), .int .i64 0]) ∧ Below w.heap.size w w' := by
  have hq := fun w => isBase_any (b : Int) w
  rw [show baseB (b : Int) = true from decide_eq_true (by omega)] at hq
  have hlow := fun w => mirror_any hb1 hb2 hk hm w
  obtain ⟨x, hx⟩ : ∃ x, redN (X : Int) (Y : Int) = x := ⟨_, rfl⟩
  obtain ⟨y, hy⟩ : ∃ y, redD (X : Int) (Y : Int) = y := ⟨_, rfl⟩
  rw [hx, hy] at hlow ⊢
  clear hx hy hm
  unfold fracV at hlow ⊢
  go_enter Try.func34, Try.ntmps34
  go_wp2_with (first
    | (go_at_call 73; refine (hq _).mono ?_; rintro e w5 ⟨rfl, rfl⟩)
    | (go_at_call 74; (with_reducible refine (hlow _).mono ?_); rintro e w5 ⟨rfl, hb⟩
       have c0 : w5.cell? ⟨w.heap.size, 0, none⟩ = some (.int .i64 0) := (hb.cell (p := ⟨w.heap.size, 0, none⟩) (by simp)).trans (by go_simp)
       have c1 : w5.cell? ⟨w.heap.size, 1, none⟩ = some (.int .i64 0) := (hb.cell (p := ⟨w.heap.size, 1, none⟩) (by simp)).trans (by go_simp)
       have f0 : w5.frozen? ⟨w.heap.size, 0, none⟩ = false := (hb.frozen (p := ⟨w.heap.size, 0, none⟩) (by simp)).trans (by go_simp)
       have f1 : w5.frozen? ⟨w.heap.size, 1, none⟩ = false := (hb.frozen (p := ⟨w.heap.size, 1, none⟩) (by simp)).trans (by go_simp)
       have hbk : Below w.heap.size w w5 := ((Below.refl _ w).alloc (Nat.le_refl _) _).trans (hb.mono (by simp))
       clear hb hlow))
  refine bodyPost_ret (v := .tuple #[.agg #[.int .i64 x, .int .i64 y], .int .i64 0]) (by simp [results, Try.results34, go_sem]; go_simp) rfl ?_
  exact ⟨rfl, (hbk.setCell (p := ⟨w.heap.size, 0, none⟩) (Nat.le_refl _) _).setCell (p := ⟨w.heap.size, 1, none⟩) (Nat.le_refl _) _⟩
end Go.Proofs.Ytifbiamfandjnaa
