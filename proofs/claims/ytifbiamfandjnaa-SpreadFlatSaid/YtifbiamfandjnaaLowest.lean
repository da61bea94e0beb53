import Derived.Test.YtifbiamfandjnaaGcd
import Derived.Deep.RegionWith
import Derived.Deep.RegionHeld3
import Derived.BigRegion
set_option linter.unusedSimpArgs false
set_option linter.unusedVariables false
namespace Go.Proofs.Ytifbiamfandjnaa
open Go Go.Proofs Go.RowKit
def fracV (n d : Int) : Value := .agg #[.int .i64 n, .int .i64 d]
def redN (n d : Int) : Int := n.tdiv (Int.gcd n d : Nat)
def redD (n d : Int) : Int := d / (Int.gcd n d : Nat)
theorem lowest_any (a b : Int) (h1 : -9223372036854775808 ≤ a) (h2 : a < 9223372036854775808) (h3 : 1 ≤ b) (h4 : b < 9223372036854775808) (w : World) :
    Calls Try.prog 61 #[.int .i64 a, .int .i64 b] w fun e w' => e = .returned (fracV (redN a b) (redD a b)) ∧ Below w.heap.size w w' := by
  have hgp : 0 < Int.gcd a b := Int.gcd_pos_of_ne_zero_right _ (by omega)
  obtain ⟨G, hG⟩ : ∃ G : Nat, Keep (Int.gcd a b = G) := ⟨_, ⟨rfl⟩⟩
  unfold redN redD fracV
  rw [hG.out] at hgp ⊢
  have hg1 : (1 : Int) ≤ (G : Int) := by omega
  have hG0 : ((G : Int) == 0) = false := by simp; omega
  have hwa : IntKind.i64.wrap (a.tdiv (G : Int)) = a.tdiv (G : Int) := IntWalk.i64_quo' _ _ ⟨by omega, by omega, hg1⟩
  have hwb : IntKind.i64.wrap (b.tdiv (G : Int)) = b / (G : Int) := IntWalk.i64_quo _ _ ⟨by omega, by omega, hg1⟩
  go_enter Try.func61, Try.ntmps61
  go_wp2_with (go_at_call 82; refine (gcd_any a b h1 h2 h3 h4 _).mono ?_; rintro e w5 ⟨rfl, n, rfl⟩; rw [hG.out])
  go_region_with (fail)
  all_goals go_wp2
  all_goals refine bodyPost_ret (v := .agg #[.int .i64 (a.tdiv (G : Int)), .int .i64 (b / (G : Int))]) (by simp [results, Try.results61, go_sem]; try simp only [hwb]; go_simp) rfl ?_
  all_goals exact ⟨rfl, (below_drewN ((Below.refl _ _).alloc (Nat.le_refl _) _) _).setCell (p := ⟨w.heap.size, 0, none⟩) (Nat.le_refl _) _ |>.setCell (p := ⟨w.heap.size, 1, none⟩) (Nat.le_refl _) _⟩
end Go.Proofs.Ytifbiamfandjnaa
