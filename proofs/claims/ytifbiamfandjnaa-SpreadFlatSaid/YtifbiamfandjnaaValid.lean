import Derived.Test.YtifbiamfandjnaaRefFrac
set_option linter.unusedSimpArgs false
set_option linter.unusedVariables false
namespace Go.Proofs.Ytifbiamfandjnaa
open Go Go.Proofs Go.RowKit
def validB (n d : Int) : Bool := decide (1 ≤ d ∧ Int.gcd n d = 1)
theorem size_q (x : Int) (h1 : -9223372036854775808 ≤ x) (h2 : x < 9223372036854775808) (w : World) :
    Calls Try.prog 60 #[.int .i64 x] w fun e w' => e = .returned (.int .u64 (x.natAbs : Nat)) ∧ ∃ n, w' = w.drewN n :=
  (size_any x h1 h2 w).mono fun e w' h => ⟨h.1, 0, h.2⟩
theorem refgcd_q (a b : Nat) (h2 : a < 18446744073709551616) (h4 : b < 18446744073709551616) (w : World) :
    Calls Try.prog 59 #[.int .u64 a, .int .u64 b] w fun e w' => e = .returned (.int .u64 (Nat.gcd a b : Nat)) ∧ ∃ n, w' = w.drewN n :=
  (refgcd_any a b h2 h4 w).mono fun e w' h => ⟨h.1, 0, h.2⟩
theorem isValid_any (n d : Int) (h1 : -9223372036854775808 ≤ n) (h2 : n < 9223372036854775808) (h3 : -9223372036854775808 ≤ d) (h4 : d < 9223372036854775808) (w : World) :
    Calls Try.prog 75 #[fracV n d] w fun e w' => e = .returned (.bool (validB n d)) ∧ Below w.heap.size w w' := by
  obtain ⟨D, hD⟩ : ∃ D, Keep (validB n d = D) := ⟨_, ⟨rfl⟩⟩
  rw [hD.out]
  unfold fracV
  go_enter Try.func75, Try.ntmps75
  by_cases hd : 1 ≤ d
  · obtain ⟨G, hG⟩ : ∃ G : Nat, Keep (Int.gcd n d = G) := ⟨_, ⟨rfl⟩⟩
    have hDG : Keep (((G : Int) == 1) = D) := ⟨by
      rw [← hD.out, ← hG.out]; unfold validB
      by_cases h : Int.gcd n d = 1
      · rw [h, decide_eq_true ⟨hd, rfl⟩]; rfl
      · rw [decide_eq_false (fun hh => h hh.2), beq_eq_false_iff_ne]; omega⟩
    go_wp2_with (go_at_call 82; refine (gcd_any n d h1 h2 hd h4 _).mono ?_; rintro e w5 ⟨rfl, m, rfl⟩; rw [hG.out])
    go_ret
    exact ⟨by rw [← hDG.out]; rfl, below_drewN ((Below.refl _ _).alloc (Nat.le_refl _) _) _⟩
  · have hDf : Keep (D = false) := ⟨by rw [← hD.out]; unfold validB; rw [decide_eq_false (fun h => hd h.1)]⟩
    go_wp2
    go_ret
    exact ⟨by rw [hDf.out]; rfl, (Below.refl _ _).alloc (Nat.le_refl _) _⟩
theorem valid_any (n d : Int) (h1 : -9223372036854775808 ≤ n) (h2 : n < 9223372036854775808) (h3 : -9223372036854775808 ≤ d) (h4 : d < 9223372036854775808) (w : World) :
    Calls Try.prog 38 #[fracV n d] w fun e w' => e = .returned (.bool (validB n d)) ∧ Below w.heap.size w w' := by
  obtain ⟨D, hD⟩ : ∃ D, Keep (validB n d = D) := ⟨_, ⟨rfl⟩⟩
  rw [hD.out]
  unfold fracV
  go_enter Try.func38, Try.ntmps38
  by_cases hd : 1 ≤ d
  · obtain ⟨G, hG⟩ : ∃ G : Nat, Keep (Nat.gcd n.natAbs d.natAbs = G) := ⟨_, ⟨rfl⟩⟩
    have hDG : Keep (((G : Int) == 1) = D) := ⟨by
      rw [← hD.out, ← hG.out, gcd_nat]; unfold validB
      by_cases h : Int.gcd n d = 1
      · rw [h, decide_eq_true ⟨hd, rfl⟩]; rfl
      · rw [decide_eq_false (fun hh => h hh.2), beq_eq_false_iff_ne]; omega⟩
    have hge : decide (1 ≤ d) = true := decide_eq_true hd
    have hwu : IntKind.u64.wrap d = ((d.natAbs : Nat) : Int) := by rw [IntWalk.u64_in _ (by omega)]; omega
    have hq1 : ∀ k, Calls Try.prog 60 #[.int .i64 n] ((w.alloc (.cells #[.int .i64 n, .int .i64 d] 25)).drewN k) fun e w' => e = .returned (.int .u64 (n.natAbs : Nat)) ∧ ∃ m, w' = (w.alloc (.cells #[.int .i64 n, .int .i64 d] 25)).drewN m := fun k => (size_any n h1 h2 _).mono fun e w' h => ⟨h.1, k, h.2⟩
    have hq2 : ∀ k, Calls Try.prog 59 #[.int .u64 (n.natAbs : Nat), .int .u64 (d.natAbs : Nat)] ((w.alloc (.cells #[.int .i64 n, .int .i64 d] 25)).drewN k) fun e w' => e = .returned (.int .u64 G) ∧ ∃ m, w' = (w.alloc (.cells #[.int .i64 n, .int .i64 d] 25)).drewN m := by
      intro k; rw [← hG.out]; exact (refgcd_any _ _ (by omega) (by omega) _).mono fun e w' h => ⟨h.1, k, h.2⟩
    go_wp2
    go_quiet (first | (go_at_call 60; with_reducible exact hq1 _) | (go_at_call 59; with_reducible exact hq2 _))
    go_wp2
    go_ret
    exact ⟨by rw [← hDG.out]; rfl, below_drewN ((Below.refl _ _).alloc (Nat.le_refl _) _) _⟩
  · have hDf : Keep (D = false) := ⟨by rw [← hD.out]; unfold validB; rw [decide_eq_false (fun h => hd h.1)]⟩
    have hge : decide (1 ≤ d) = false := decide_eq_false hd
    go_wp2
    go_quiet (fail)
    go_wp2
    go_ret
    exact ⟨by rw [hDf.out]; rfl, below_drewN ((Below.refl _ _).alloc (Nat.le_refl _) _) _⟩
end Go.Proofs.Ytifbiamfandjnaa
