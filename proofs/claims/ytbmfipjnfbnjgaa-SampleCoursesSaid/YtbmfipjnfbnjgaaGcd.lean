import Derived.Test.YtbmfipjnfbnjgaaProg
import Derived.Test.YtbmfipjnfbnjgaaBinom
import Derived.WalkKit
import Derived.WalkSpells
import Derived.BigQuiet
import Derived.Deep.QuietTactic
import Derived.Deep.RegionWith
import Derived.Deep.RegionHeld3
import Derived.BigRegion
set_option linter.unusedSimpArgs false
set_option linter.unusedVariables false
namespace Go.Proofs.Ytbmfipjnfbnjgaa
open Go Go.Proofs Go.RowKit Go.Sample
structure Keep (p : Prop) : Prop where
  out : p
theorem drewN_add (w : World) (n m : Nat) : (w.drewN n).drewN m = w.drewN (n + m) := by simp [World.drewN, Nat.add_assoc]
theorem below_drewN {B : Nat} {a w : World} (h : Below B a w) (n : Nat) : Below B a (w.drewN n) := h.trans ⟨rfl, rfl, rfl, Nat.le_refl _, fun _ _ => rfl⟩
theorem cell_below {w w' : World} {g k : Nat} {v : Value} (h : w.cell? ⟨g, k, none⟩ = some v) (b : Below w.heap.size w w') : w'.cell? ⟨g, k, none⟩ = some v := by
  have h1 : g < w.heap.size := by
    rcases Nat.lt_or_ge g w.heap.size with h' | h'
    · exact h'
    · simp [World.cell?, Array.getElem?_eq_none h'] at h
  rw [b.cell (p := ⟨g, k, none⟩) h1]; exact h
theorem gcd_any (a b : Nat) (h2 : a < 9223372036854775808) (h3 : 1 ≤ b) (h4 : b < 9223372036854775808) (w : World) :
    Calls Try.prog 75 #[.int .i64 a, .int .i64 b] w fun e w' => e = .returned (.int .i64 (Nat.gcd a b : Nat)) ∧ ∃ n, w' = w.drewN n := by
  obtain ⟨G, hG⟩ : ∃ G : Nat, Keep (Nat.gcd a b = G) := ⟨_, ⟨rfl⟩⟩
  rw [hG.out]
  go_enter Try.func75, Try.ntmps75
  go_wp2
  go_loopw [0, 1] (fun x y wr => ∃ a' b' : Nat, x = .int .i64 a' ∧ y = .int .i64 b' ∧ Keep (Nat.gcd a' b' = G) ∧ a' < 9223372036854775808 ∧ b' < 9223372036854775808 ∧ ∃ n, wr = w.drewN n) (fun _ y _ => (intOf y).toNat)
  case atStart => exact ⟨a, b, rfl, rfl, hG, h2, h4, 0, rfl⟩
  case round =>
    obtain ⟨a', b', rfl, rfl, hg, k1, k2, n, rfl⟩ := hrel
    by_cases hb : b' = 0
    · subst hb
      go_wp2
      go_ret
      refine ⟨?_, n, rfl⟩
      rw [← hg.out, Nat.gcd_zero_right]; rfl
    · have hb1 : 1 ≤ b' := by omega
      have hb0 : ((b' : Int) == 0) = false := by rw [beq_eq_false_iff_ne]; omega
      have hm : a' % b' < b' := Nat.mod_lt _ (by omega)
      obtain ⟨r, hr⟩ : ∃ r, Keep (a' % b' = r) := ⟨_, ⟨rfl⟩⟩
      have hk : Keep (Nat.gcd b' r = G) := ⟨by rw [← hr.out, ← hg.out, Nat.gcd_comm b', ← Nat.gcd_rec, Nat.gcd_comm]⟩
      have hw : IntKind.i64.wrap ((a' : Int).tmod (b' : Int)) = (r : Int) := by
        rw [← hr.out, IntWalk.up_tmod rfl rfl, IntWalk.i64_in _ (by omega)]
      rw [hr.out] at hm
      go_wp2
      go_quiet (fail)
      go_wp2
      refine ⟨⟨b', r, rfl, by rw [← hr.out]; rfl, hk, k2, by omega, n + nq, drewN_add _ _ _⟩, ?_⟩
      have e : ((a' : Int) % (b' : Int)) = (r : Int) := by rw [← hr.out]; rfl
      first | rw [e] | skip
      simp only [intOf]
      omega
theorem refgcd_any (a b : Nat) (h2 : a < 9223372036854775808) (h4 : b < 9223372036854775808) (w : World) :
    Calls Try.prog 56 #[.int .i64 a, .int .i64 b] w fun e w' => e = .returned (.int .i64 (Nat.gcd a b : Nat)) ∧ w' = w := by
  obtain ⟨G, hG⟩ : ∃ G : Nat, Keep (Nat.gcd a b = G) := ⟨_, ⟨rfl⟩⟩
  rw [hG.out]
  go_enter Try.func56, Try.ntmps56
  go_wp2
  go_loop [0, 1] (fun x y => ∃ a' b' : Nat, x = .int .i64 a' ∧ y = .int .i64 b' ∧ Keep (Nat.gcd a' b' = G) ∧ a' < 9223372036854775808 ∧ b' < 9223372036854775808) (fun _ y => (intOf y).toNat)
  case atStart => exact ⟨a, b, rfl, rfl, hG, h2, h4⟩
  case round =>
    obtain ⟨a', b', rfl, rfl, hg, k1, k2⟩ := hrel
    by_cases hb : b' = 0
    · subst hb
      go_wp2
      go_ret
      refine ⟨?_, rfl⟩
      rw [← hg.out, Nat.gcd_zero_right]; rfl
    · have hb1 : 1 ≤ b' := by omega
      have hb0 : ((b' : Int) == 0) = false := by rw [beq_eq_false_iff_ne]; omega
      have hm : a' % b' < b' := Nat.mod_lt _ (by omega)
      obtain ⟨r, hr⟩ : ∃ r, Keep (a' % b' = r) := ⟨_, ⟨rfl⟩⟩
      have hk : Keep (Nat.gcd b' r = G) := ⟨by rw [← hr.out, ← hg.out, Nat.gcd_comm b', ← Nat.gcd_rec, Nat.gcd_comm]⟩
      have hw : IntKind.i64.wrap ((a' : Int).tmod (b' : Int)) = (r : Int) := by
        rw [← hr.out, IntWalk.up_tmod rfl rfl, IntWalk.i64_in _ (by omega)]
      rw [hr.out] at hm
      go_wp2
      refine ⟨⟨b', r, rfl, by rw [← hr.out]; rfl, hk, k2, by omega⟩, ?_⟩
      have e : ((a' : Int) % (b' : Int)) = (r : Int) := by rw [← hr.out]; rfl
      rw [e]
      simp only [intOf]
      omega
def fracV (n d : Int) : Value := .agg #[.int .i64 n, .int .i64 d]
/-- A fraction in lowest terms. -/
def rN (a b : Nat) : Nat := a / Nat.gcd a b
def rD (a b : Nat) : Nat := b / Nat.gcd a b
def redV (a b : Nat) : Value := fracV (rN a b : Nat) (rD a b : Nat)
theorem lowest_any (a b : Nat) (h2 : a < 9223372036854775808) (h3 : 1 ≤ b) (h4 : b < 9223372036854775808) (w : World) :
    Calls Try.prog 73 #[.int .i64 a, .int .i64 b] w fun e w' => e = .returned (redV a b) ∧ Below w.heap.size w w' := by
  have hgp : 0 < Nat.gcd a b := Nat.gcd_pos_of_pos_right _ (by omega)
  obtain ⟨G, hG⟩ : ∃ G : Nat, Keep (Nat.gcd a b = G) := ⟨_, ⟨rfl⟩⟩
  unfold redV rN rD fracV
  rw [hG.out] at hgp ⊢
  have hG0 : ((G : Int) == 0) = false := by rw [beq_eq_false_iff_ne]; omega
  have hla : a / G ≤ a := Nat.div_le_self _ _
  have hlb : b / G ≤ b := Nat.div_le_self _ _
  obtain ⟨x, hx⟩ : ∃ x, Keep (a / G = x) := ⟨_, ⟨rfl⟩⟩
  obtain ⟨y, hy⟩ : ∃ y, Keep (b / G = y) := ⟨_, ⟨rfl⟩⟩
  have hwa : IntKind.i64.wrap ((a : Int).tdiv (G : Int)) = (x : Int) := by rw [IntWalk.up_tdiv rfl rfl, hx.out, IntWalk.i64_in _ (by have := hx.out; omega)]
  have hwb : IntKind.i64.wrap ((b : Int).tdiv (G : Int)) = (y : Int) := by rw [IntWalk.up_tdiv rfl rfl, hy.out, IntWalk.i64_in _ (by have := hy.out; omega)]
  rw [hx.out, hy.out]
  have ga : IntKind.i64.wrap ((a : Int) / (G : Int)) = (x : Int) := hwa
  have gb : IntKind.i64.wrap ((b : Int) / (G : Int)) = (y : Int) := hwb
  have ga2 : wrap64 ((a : Int) / (G : Int)) = (x : Int) := by rw [show (a : Int) / (G : Int) = (x : Int) by rw [← hx.out]; rfl]; unfold wrap64; have := hx.out; omega
  have gb2 : wrap64 ((b : Int) / (G : Int)) = (y : Int) := by rw [show (b : Int) / (G : Int) = (y : Int) by rw [← hy.out]; rfl]; unfold wrap64; have := hy.out; omega
  clear hla hlb
  go_enter Try.func73, Try.ntmps73
  go_wp2_with (go_at_call 75; refine (gcd_any a b h2 h3 h4 _).mono ?_; rintro e w5 ⟨rfl, n, rfl⟩; rw [hG.out])
  go_region_with (fail)
  all_goals go_wp2
  all_goals refine bodyPost_ret (v := .agg #[.int .i64 x, .int .i64 y]) (by simp [results, Try.results73, go_sem]; try simp only [ga, gb, ga2, gb2]; try simp) rfl ?_
  all_goals exact ⟨rfl, (below_drewN ((Below.refl _ _).alloc (Nat.le_refl _) _) _).setCell (p := ⟨w.heap.size, 0, none⟩) (Nat.le_refl _) _ |>.setCell (p := ⟨w.heap.size, 1, none⟩) (Nat.le_refl _) _⟩
theorem reduced_any (a b : Nat) (h2 : a < 9223372036854775808) (h3 : 1 ≤ b) (h4 : b < 9223372036854775808) (w : World) :
    Calls Try.prog 23 #[.int .i64 a, .int .i64 b] w fun e w' => e = .returned (redV a b) ∧ Below w.heap.size w w' := by
  have hgp : 0 < Nat.gcd a b := Nat.gcd_pos_of_pos_right _ (by omega)
  obtain ⟨G, hG⟩ : ∃ G : Nat, Keep (Nat.gcd a b = G) := ⟨_, ⟨rfl⟩⟩
  unfold redV rN rD fracV
  rw [hG.out] at hgp ⊢
  have hG0 : ((G : Int) == 0) = false := by rw [beq_eq_false_iff_ne]; omega
  have hla : a / G ≤ a := Nat.div_le_self _ _
  have hlb : b / G ≤ b := Nat.div_le_self _ _
  obtain ⟨x, hx⟩ : ∃ x, Keep (a / G = x) := ⟨_, ⟨rfl⟩⟩
  obtain ⟨y, hy⟩ : ∃ y, Keep (b / G = y) := ⟨_, ⟨rfl⟩⟩
  have hwa : IntKind.i64.wrap ((a : Int).tdiv (G : Int)) = (x : Int) := by rw [IntWalk.up_tdiv rfl rfl, hx.out, IntWalk.i64_in _ (by have := hx.out; omega)]
  have hwb : IntKind.i64.wrap ((b : Int).tdiv (G : Int)) = (y : Int) := by rw [IntWalk.up_tdiv rfl rfl, hy.out, IntWalk.i64_in _ (by have := hy.out; omega)]
  rw [hx.out, hy.out]
  have ga : IntKind.i64.wrap ((a : Int) / (G : Int)) = (x : Int) := hwa
  have gb : IntKind.i64.wrap ((b : Int) / (G : Int)) = (y : Int) := hwb
  have ga2 : wrap64 ((a : Int) / (G : Int)) = (x : Int) := by rw [show (a : Int) / (G : Int) = (x : Int) by rw [← hx.out]; rfl]; unfold wrap64; have := hx.out; omega
  have gb2 : wrap64 ((b : Int) / (G : Int)) = (y : Int) := by rw [show (b : Int) / (G : Int) = (y : Int) by rw [← hy.out]; rfl]; unfold wrap64; have := hy.out; omega
  clear hla hlb
  go_enter Try.func23, Try.ntmps23
  go_wp2_with (go_at_call 56; refine (refgcd_any a b h2 h4 _).mono ?_; rintro e w5 ⟨rfl, rfl⟩; rw [hG.out])
  go_region_with (fail)
  all_goals go_wp2
  all_goals refine bodyPost_ret (v := .agg #[.int .i64 x, .int .i64 y]) (by simp [results, Try.results23, go_sem]; try simp only [ga, gb, ga2, gb2]; try simp) rfl ?_
  all_goals exact ⟨rfl, ((Below.refl _ _).alloc (Nat.le_refl _) _).drew⟩
end Go.Proofs.Ytbmfipjnfbnjgaa
