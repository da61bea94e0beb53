import Derived.Test.YtbmfipjnfbnjgaaAwake
import Derived.Test.YtbmfipjnfbnjgaaArrays
set_option linter.unusedSimpArgs false
set_option linter.unusedVariables false
namespace Go.Proofs.Ytbmfipjnfbnjgaa
open Go Go.Proofs Go.RowKit Go.Sample
theorem red_one {a b : Nat} (hb : 1 ≤ b) : (rN a b = 1 ∧ rD a b = 1) ↔ a = b := by
  have hm := red_mul (a := a) hb
  constructor
  · rintro ⟨h1, h2⟩
    rw [h1, h2] at hm
    omega
  · rintro rfl
    unfold rN rD
    rw [Nat.gcd_self]
    exact ⟨Nat.div_self (by omega), Nat.div_self (by omega)⟩
theorem red_zero {a b : Nat} (hb : 1 ≤ b) : (rN a b = 0 ∧ rD a b = 1) ↔ a = 0 := by
  have hm := red_mul (a := a) hb
  constructor
  · rintro ⟨h1, _⟩
    rw [h1] at hm
    omega
  · rintro rfl
    unfold rN rD
    rw [Nat.gcd_zero_left]
    exact ⟨Nat.zero_div _, Nat.div_self (by omega)⟩
theorem eq_both {a b : Nat} {x y : Int} {p : Prop} [Decidable p] (h : ((a : Int) = x ∧ (b : Int) = y) ↔ p) : (((a : Int) == x) && ((b : Int) == y)) = decide p := by
  by_cases hp : p
  · obtain ⟨h1, h2⟩ := h.2 hp
    rw [decide_eq_true hp, h1, h2]; simp
  · rw [decide_eq_false hp, Bool.and_eq_false_iff, beq_eq_false_iff_ne, beq_eq_false_iff_ne]
    by_cases h1 : (a : Int) = x
    · exact .inr fun h2 => hp (h.1 ⟨h1, h2⟩)
    · exact .inl h1
set_option maxHeartbeats 1000000 in
set_option maxRecDepth 100000 in
theorem sure_any (x y z : Int) (w : World) : Calls Try.prog 9 #[.agg #[.int .i64 x, .int .i64 y, .int .i64 z]] w fun e w' => e = .returned (.bool true) ∧ Below w.heap.size w w' := by
  obtain ⟨N, n, c, ⟨h1, h36, hcn, hnN⟩, hmk⟩ := mkSingle x y z
  have hs := fun (d : Nat) (hd : d ≤ N) (w : World) => single_any (N := N) (d := d) (n := n) (c := c) h1 h36 hcn hnN hd w
  go_enter Try.func9, Try.ntmps9
  go_wp2_with (go_at_call 47; refine (hmk _).mono ?_; rintro e w1 ⟨rfl, hb1⟩
               have hbw1 : Below w.heap.size w w1 := ((Below.refl _ w).alloc (Nat.le_refl _) _).trans (hb1.mono (by simp))
               clear hb1 hmk)
  go_loopw [6] (fun i wr => ∃ d : Nat, d ≤ N + 1 ∧ i = .int .i64 d ∧ Below w.heap.size w wr) (fun i _ => N + 1 - (intOf i).toNat)
  case atStart => exact ⟨0, by omega, rfl, hbw1⟩
  case round =>
    obtain ⟨d, hd, rfl, hbw⟩ := hrel
    have hbz := hbw.size
    by_cases hlt : d ≤ N
    · have hle : (d : Int) ≤ (N : Int) := by omega
      have q := hs d hlt
      have hp := ch_pos hlt
      have hA : acc n (N - n) d (c + 1) ≤ ch N d := by have := acc_le n (N - n) d (c + 1); rwa [show n + (N - n) = N by omega] at this
      have k1 : acc n (N - n) d (c + 1) = ch N d ↔ d ≤ c := by
        constructor
        · intro h
          rcases Nat.lt_or_ge c d with h' | h'
          · have := acc_short (n := n) (m := N - n) (d := d) (c := c + 1) (by omega) (by omega) (by omega)
            rw [show n + (N - n) = N by omega] at this
            omega
          · exact h'
        · intro h
          have := acc_bad n (N - n) d (c + 1) (by omega)
          rwa [show n + (N - n) = N by omega] at this
      have k2 : acc n (N - n) d (c + 1) = 0 ↔ N - n + c < d := by
        constructor
        · intro h
          rcases Nat.lt_or_ge (N - n + c) d with h' | h'
          · exact h'
          · have := acc_some (n := n) (m := N - n) (d := d) (c := c + 1) (by omega) (by omega) (by omega) (by omega)
            omega
        · intro h; exact acc_zero (by omega)
      generalize acc n (N - n) d (c + 1) = A at *
      generalize ch N d = X at *
      have e1 := eq_both (a := rN A X) (b := rD A X) (x := 1) (y := 1) (p := (d : Int) ≤ (c : Int)) (by
        rw [show (((rN A X : Nat) : Int) = 1 ∧ ((rD A X : Nat) : Int) = 1) ↔ (rN A X = 1 ∧ rD A X = 1) by omega, red_one hp, k1]; omega)
      have e2 := eq_both (a := rN A X) (b := rD A X) (x := 0) (y := 1) (p := (N : Int) - (n : Int) + (c : Int) < (d : Int)) (by
        rw [show (((rN A X : Nat) : Int) = 0 ∧ ((rD A X : Nat) : Int) = 1) ↔ (rN A X = 0 ∧ rD A X = 1) by omega, red_zero hp, k2]; omega)
      have f1 := fun w => eq27 (rN A X : Nat) (rD A X : Nat) 1 1 w
      have f2 := fun w => eq27 (rN A X : Nat) (rD A X : Nat) 0 1 w
      simp only [e1] at f1
      simp only [e2] at f2
      have w1' : IntKind.i64.wrap ((N : Int) - (n : Int)) = (N : Int) - (n : Int) := IntWalk.i64_in _ (by omega)
      have w2' : IntKind.i64.wrap ((N : Int) - (n : Int) + (c : Int)) = (N : Int) - (n : Int) + (c : Int) := IntWalk.i64_in _ (by omega)
      unfold redV fracV at q
      clear e1 e2 k1 k2 hs hp hA
      by_cases p1 : (d : Int) ≤ (c : Int)
      · simp only [decide_eq_true p1] at f1
        by_cases p2 : (N : Int) - (n : Int) + (c : Int) < (d : Int)
        · exfalso; omega
        · simp only [decide_eq_false p2] at f2
          go_wp2_with (go_at_call 18; refine (q _).mono ?_; rintro e w2 ⟨rfl, hb2⟩)
          have hbw2 : Below w.heap.size w w2 := hbw.trans (hb2.mono hbz)
          have hbz2 := hbw2.size
          go_quiet (fail)
          go_wp2
          exact ⟨⟨d + 1, by omega, by go_num, below_drewN (hbw2.alloc hbz2 _) _⟩, by simp [intOf]; omega⟩
      · simp only [decide_eq_false p1] at f1
        by_cases p2 : (N : Int) - (n : Int) + (c : Int) < (d : Int)
        · simp only [decide_eq_true p2] at f2
          go_wp2_with (go_at_call 18; refine (q _).mono ?_; rintro e w2 ⟨rfl, hb2⟩)
          have hbw2 : Below w.heap.size w w2 := hbw.trans (hb2.mono hbz)
          have hbz2 := hbw2.size
          go_quiet (fail)
          go_wp2
          exact ⟨⟨d + 1, by omega, by go_num, below_drewN (hbw2.alloc hbz2 _) _⟩, by simp [intOf]; omega⟩
        · simp only [decide_eq_false p2] at f2
          go_wp2_with (go_at_call 18; refine (q _).mono ?_; rintro e w2 ⟨rfl, hb2⟩)
          have hbw2 : Below w.heap.size w w2 := hbw.trans (hb2.mono hbz)
          have hbz2 := hbw2.size
          go_quiet (fail)
          go_wp2
          exact ⟨⟨d + 1, by omega, by go_num, below_drewN (hbw2.alloc hbz2 _) _⟩, by simp [intOf]; omega⟩
    · obtain rfl : d = N + 1 := by omega
      have hle : ¬ ((N + 1 : Nat) : Int) ≤ (N : Int) := by omega
      clear hs
      go_wp2_with (go_at_call 20; refine (awake_any _).mono ?_; rintro e w9 ⟨rfl, hb9⟩)
      go_ret
      exact ⟨rfl, hbw.trans (hb9.mono hbz)⟩
end Go.Proofs.Ytbmfipjnfbnjgaa
