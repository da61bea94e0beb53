import Derived.Test.YtifbiamfandjnaaProg
import Derived.WalkKit
import Derived.WalkSpells
import Derived.BigQuiet
import Derived.Deep.QuietTactic
set_option linter.unusedSimpArgs false
set_option linter.unusedVariables false
namespace Go.Proofs.Ytifbiamfandjnaa
open Go Go.Proofs Go.RowKit
structure Keep (p : Prop) : Prop where
  out : p
theorem absolute_any (a : Int) (h1 : -9223372036854775808 < a) (h2 : a < 9223372036854775808) (w : World) :
    Calls Try.prog 79 #[.int .i64 a] w fun e w' => e = .returned (.int .i64 (a.natAbs : Nat)) ∧ w' = w := by
  go_enter Try.func79, Try.ntmps79
  go_wp2
  all_goals go_ret
  · exact ⟨by rw [show ((a.natAbs : Nat) : Int) = -a by omega]; rfl, rfl⟩
  · exact ⟨by rw [show ((a.natAbs : Nat) : Int) = a by omega]; rfl, rfl⟩
theorem drewN_add (w : World) (n m : Nat) : (w.drewN n).drewN m = w.drewN (n + m) := by simp [World.drewN, Nat.add_assoc]
theorem below_drewN {B : Nat} {a w : World} (h : Below B a w) (n : Nat) : Below B a (w.drewN n) := h.trans ⟨rfl, rfl, rfl, Nat.le_refl _, fun _ _ => rfl⟩
theorem gcd_any (a b : Int) (h1 : -9223372036854775808 ≤ a) (h2 : a < 9223372036854775808) (h3 : 1 ≤ b) (h4 : b < 9223372036854775808) (w : World) :
    Calls Try.prog 82 #[.int .i64 a, .int .i64 b] w fun e w' => e = .returned (.int .i64 (Int.gcd a b : Nat)) ∧ ∃ n, w' = w.drewN n := by
  obtain ⟨G, hG⟩ : ∃ G : Nat, Keep (Int.gcd a b = G) := ⟨_, ⟨rfl⟩⟩
  rw [hG.out]
  go_enter Try.func82, Try.ntmps82
  go_wp2
  go_loopw [0, 1] (fun x y wr => ∃ a' b' : Int, x = .int .i64 a' ∧ y = .int .i64 b' ∧ Keep (Int.gcd a' b' = G) ∧ -9223372036854775808 ≤ a' ∧ a' < 9223372036854775808 ∧ -9223372036854775808 < b' ∧ b' < 9223372036854775808 ∧ (b' = 0 → -9223372036854775808 < a') ∧ ∃ n, wr = w.drewN n) (fun _ y _ => (intOf y).natAbs)
  case atStart => exact ⟨a, b, rfl, rfl, hG, h1, h2, by omega, h4, by omega, 0, rfl⟩
  case round =>
    obtain ⟨a', b', rfl, rfl, hg, k1, k2, k3, k4, k5, n, rfl⟩ := hrel
    by_cases hb : b' = 0
    · subst hb
      have k6 := k5 rfl
      go_wp2_with (go_at_call 79; refine (absolute_any a' k6 k2 _).mono ?_; rintro e w5 ⟨rfl, rfl⟩)
      go_ret
      refine ⟨?_, n, rfl⟩
      have e := hg.out
      rw [Int.gcd_zero_right] at e
      rw [← e]; rfl
    · have hb0 : (b' == 0) = false := by simpa using hb
      have ht := Int.natAbs_tmod a' b'
      have hm : a'.natAbs % b'.natAbs < b'.natAbs := Nat.mod_lt _ (by omega)
      have hw : IntKind.i64.wrap (a'.tmod b') = a'.tmod b' := by
        apply IntWalk.i64_in; omega
      obtain ⟨r, hr⟩ : ∃ r, Keep (a'.tmod b' = r) := ⟨_, ⟨rfl⟩⟩
      have hk : Keep (Int.gcd b' r = G) := ⟨by
        rw [← hr.out, ← hg.out]
        unfold Int.gcd
        rw [Int.natAbs_tmod, Nat.gcd_comm, ← Nat.gcd_rec, Nat.gcd_comm]⟩
      clear k5
      go_wp2
      go_quiet (fail)
      go_wp2
      have hk2 : Keep (Int.gcd b' (a'.tmod b') = G) := ⟨by rw [hr.out]; exact hk.out⟩
      refine ⟨⟨b', a'.tmod b', rfl, rfl, hk2, by omega, by omega, by omega, by omega, by omega, n + nq, drewN_add _ _ _⟩, ?_⟩
      simp only [intOf]
      omega
end Go.Proofs.Ytifbiamfandjnaa
