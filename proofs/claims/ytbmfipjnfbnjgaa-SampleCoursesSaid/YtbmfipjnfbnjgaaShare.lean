import Derived.Test.YtbmfipjnfbnjgaaLess
import Derived.Test.YtbmfipjnfbnjgaaSingle
import Derived.Laws.StructEq
set_option linter.unusedSimpArgs false
set_option linter.unusedVariables false
namespace Go.Proofs.Ytbmfipjnfbnjgaa
open Go Go.Proofs Go.RowKit Go.Sample
theorem eq27 (a b c d : Int) (w : World) : (Op.equalIn 10000 27 (.agg #[.int .i64 a, .int .i64 b]) (.agg #[.int .i64 c, .int .i64 d])).run Try.prog w = .ok (a == c && b == d) w := by
  have u3 := Try.underlying3
  have a3 := Try.isAgg3
  have z3 := Try.sizeOf3
  have hS : Try.prog.underlying 27 = some (.struct (Try.prog.fieldsOf 27)) := by kernel_rfl
  rw [show (10000 : Nat) = 9999 + 1 from rfl, run_equalIn_agg w 9999 27 _ _ hS (by kernel_rfl)]
  simp only [Program.fieldsOf, Try.underlying27]
  go_simp
  by_cases h1 : a = c <;> by_cases h2 : b = d <;> simp [h1, h2]
theorem eq96 (a b c d : Int) (w : World) : (Op.equalIn 10000 96 (.agg #[.int .i64 a, .int .i64 b]) (.agg #[.int .i64 c, .int .i64 d])).run Try.prog w = .ok (a == c && b == d) w := by
  have u3 := Try.underlying3
  have a3 := Try.isAgg3
  have z3 := Try.sizeOf3
  have hS : Try.prog.underlying 96 = some (.struct (Try.prog.fieldsOf 96)) := by kernel_rfl
  rw [show (10000 : Nat) = 9999 + 1 from rfl, run_equalIn_agg w 9999 96 _ _ hS (by kernel_rfl)]
  simp only [Program.fieldsOf, Try.underlying96]
  go_simp
  by_cases h1 : a = c <;> by_cases h2 : b = d <;> simp [h1, h2]
/-- A fraction that may be asked for as a chance. -/
def ShareOk (n d : Int) : Prop := 0 ≤ n ∧ n ≤ d ∧ 1 ≤ d ∧ d ≤ 1000 ∧ Nat.gcd n.toNat d.toNat = 1
instance (n d : Int) : Decidable (ShareOk n d) := by unfold ShareOk; infer_instance
theorem red_self {a b : Nat} (hb : 1 ≤ b) : (rN a b = a ∧ rD a b = b) ↔ Nat.gcd a b = 1 := by
  unfold rN rD
  have hg : 0 < Nat.gcd a b := Nat.gcd_pos_of_pos_right _ (by omega)
  have hd := Nat.gcd_dvd_right a b
  constructor
  · rintro ⟨_, h⟩
    have := Nat.div_mul_cancel hd
    rw [h] at this
    exact Nat.eq_of_mul_eq_mul_left (show 0 < b by omega) (by rw [this, Nat.mul_one])
  · intro h; rw [h]; simp
set_option maxHeartbeats 1000000 in
set_option maxRecDepth 100000 in
theorem isChance_any {n d : Int} (hn : In64 n) (hd : In64 d) (w : World) :
    Calls Try.prog 67 #[fracV n d] w fun e w' => e = .returned (.bool (decide (ShareOk n d))) ∧ Below w.heap.size w w' := by
  obtain ⟨D, hD⟩ : ∃ D, Keep (decide (ShareOk n d) = D) := ⟨_, ⟨rfl⟩⟩
  rw [hD.out]
  unfold fracV
  by_cases hok : 0 ≤ n ∧ n ≤ d ∧ 1 ≤ d ∧ d ≤ 1000
  · obtain ⟨k1, k2, k3, k4⟩ := hok
    obtain ⟨a, rfl⟩ : ∃ a : Nat, n = (a : Int) := ⟨n.toNat, by omega⟩
    obtain ⟨b, rfl⟩ : ∃ b : Nat, d = (b : Int) := ⟨d.toNat, by omega⟩
    have hb : 1 ≤ b := by omega
    have hDe : Keep (((a : Int) == ((rN a b : Nat) : Int) && (b : Int) == ((rD a b : Nat) : Int)) = D) := ⟨by
      rw [← hD.out]
      have hs := red_self (a := a) hb
      have hdec : decide (ShareOk (a : Int) (b : Int)) = decide (Nat.gcd a b = 1) := by
        apply decide_eq_decide.2
        unfold ShareOk
        constructor
        · intro h; exact h.2.2.2.2
        · intro h; exact ⟨k1, k2, k3, k4, h⟩
      rw [hdec]
      by_cases h : Nat.gcd a b = 1
      · obtain ⟨e1, e2⟩ := hs.2 h
        rw [e1, e2, decide_eq_true h]; simp
      · rw [decide_eq_false h]
        have : ¬ (a = rN a b ∧ b = rD a b) := fun e => h (hs.1 ⟨e.1.symm, e.2.symm⟩)
        rw [Bool.and_eq_false_iff, beq_eq_false_iff_ne, beq_eq_false_iff_ne]
        by_cases h3 : a = rN a b
        · exact .inr (fun e => this ⟨h3, by omega⟩)
        · exact .inl (fun e => h3 (by omega))⟩
    have hl := fun w => lowest_any a b (by omega) hb (by omega) w
    have e1 := fun w => eq27 a b (rN a b : Nat) (rD a b : Nat) w
    rw [hDe.out] at e1
    unfold redV fracV at hl
    have hO := Own2.new w (.int .i64 a) (.int .i64 b) 27
    have hb0 : Below w.heap.size w (w.alloc (.cells #[.int .i64 a, .int .i64 b] 27)) := (Below.refl _ _).alloc (Nat.le_refl _) _
    obtain ⟨w0, hw0⟩ : ∃ w0, w.alloc (.cells #[.int .i64 a, .int .i64 b] 27) = w0 := ⟨_, rfl⟩
    rw [hw0] at hO hb0
    obtain ⟨c0, c1, c2, c3⟩ := hO
    have v1 : ¬ (a : Int) < 0 := by omega
    have v2 : ¬ (b : Int) < (a : Int) := by omega
    have v3 : ¬ (b : Int) < 1 := by omega
    have v4 : ¬ (1000 : Int) < (b : Int) := by omega
    go_enter Try.func67, Try.ntmps67
    go_wp2
    try rw [hw0]
    clear hw0
    go_region_held3 (fun w' => w'.cell? ⟨w.heap.size, 0, none⟩ = some (.int .i64 a) ∧ w'.cell? ⟨w.heap.size, 1, none⟩ = some (.int .i64 b))
      (first | exact ⟨c0, c1⟩ | exact ⟨x0, x1⟩ | go_keep)
      ((go_at_call 73; refine (hl _).mono ?_; rintro e w5 ⟨rfl, hb5⟩
        have x0 : w5.cell? ⟨w.heap.size, 0, none⟩ = some (.int .i64 a) := cell_below (by exact c0) hb5
        have x1 : w5.cell? ⟨w.heap.size, 1, none⟩ = some (.int .i64 b) := cell_below (by exact c1) hb5
        have hbw5 : Below w.heap.size w w5 := (below_drewN hb0 1).trans (hb5.mono (by show w.heap.size ≤ w0.heap.size; exact hb0.size))))
    all_goals go_wp2
    all_goals go_ret
    all_goals exact ⟨rfl, by first | exact hbw5 | exact hbw5.drew | exact below_drewN hbw5 _⟩
  · have hDf : Keep (D = false) := ⟨by rw [← hD.out]; exact decide_eq_false (fun h => hok ⟨h.1, h.2.1, h.2.2.1, h.2.2.2.1⟩)⟩
    by_cases v1 : n < 0
    · go_enter Try.func67, Try.ntmps67
      go_wp2
      all_goals go_ret
      all_goals exact ⟨by rw [hDf.out]; rfl, (Below.refl _ _).alloc (Nat.le_refl _) _⟩
    · by_cases v2 : d < n
      · go_enter Try.func67, Try.ntmps67
        go_wp2
        all_goals go_ret
        all_goals exact ⟨by rw [hDf.out]; rfl, (Below.refl _ _).alloc (Nat.le_refl _) _⟩
      · by_cases v3 : d < 1
        · go_enter Try.func67, Try.ntmps67
          go_wp2
          all_goals go_ret
          all_goals exact ⟨by rw [hDf.out]; rfl, (Below.refl _ _).alloc (Nat.le_refl _) _⟩
        · have v4 : 1000 < d := by omega
          go_enter Try.func67, Try.ntmps67
          go_wp2
          all_goals go_ret
          all_goals exact ⟨by rw [hDf.out]; rfl, (Below.refl _ _).alloc (Nat.le_refl _) _⟩
end Go.Proofs.Ytbmfipjnfbnjgaa
