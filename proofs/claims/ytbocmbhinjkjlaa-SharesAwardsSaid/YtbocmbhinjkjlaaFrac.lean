/- Fractions of package fraction and of the reference: greatest common divisors, lowest terms, whole numbers. -/
import Derived.Test.YtbocmbhinjkjlaaProg
import Derived.WalkKit
import Derived.WalkSpells
import Derived.BigQuiet
import Derived.Deep.QuietTactic
import Derived.Deep.RegionWith
import Derived.Deep.RegionHeld3
import Derived.BigRegion
set_option linter.unusedSimpArgs false
set_option linter.unusedVariables false
namespace Go.Proofs.Ytbocmbhinjkjlaa
open Go Go.Proofs Go.RowKit
structure Keep (p : Prop) : Prop where
  out : p
abbrev In64 (x : Int) : Prop := -9223372036854775808 ≤ x ∧ x < 9223372036854775808
theorem drewN_add (w : World) (n m : Nat) : (w.drewN n).drewN m = w.drewN (n + m) := by simp [World.drewN, Nat.add_assoc]
theorem below_drewN {B : Nat} {a w : World} (h : Below B a w) (n : Nat) : Below B a (w.drewN n) := h.trans ⟨rfl, rfl, rfl, Nat.le_refl _, fun _ _ => rfl⟩
theorem cell_below {w w' : World} {g k : Nat} {v : Value} (h : w.cell? ⟨g, k, none⟩ = some v) (b : Below w.heap.size w w') : w'.cell? ⟨g, k, none⟩ = some v := by
  have h1 : g < w.heap.size := by
    rcases Nat.lt_or_ge g w.heap.size with h' | h'
    · exact h'
    · simp [World.cell?, Array.getElem?_eq_none h'] at h
  rw [b.cell (p := ⟨g, k, none⟩) h1]; exact h
/-- A block of one's own: a variable, or a row. -/
def BlkAt (W : World) (g : Nat) (c : Array Value) (t : TypeId) : Prop := W.heap[g]? = some (.cells c t (0, 0))
theorem BlkAt.new (W : World) (c : Array Value) (t : TypeId) : BlkAt (W.alloc (.cells c t)) W.heap.size c t := by
  show (W.heap.push _)[W.heap.size]? = _
  simp
theorem BlkAt.lt {W : World} {g : Nat} {c : Array Value} {t : TypeId} (h : BlkAt W g c t) : g < W.heap.size := (Array.getElem?_eq_some_iff.1 h).1
theorem BlkAt.below {W W' : World} {B g : Nat} {c : Array Value} {t : TypeId} (h : BlkAt W g c t) (hb : Below B W W') (hl : g < B) : BlkAt W' g c t := (hb.block _ hl).trans h
theorem BlkAt.after {W W' : World} {g : Nat} {c : Array Value} {t : TypeId} (h : BlkAt W g c t) (hb : Below W.heap.size W W') : BlkAt W' g c t := h.below hb h.lt
theorem BlkAt.cell {W : World} {g : Nat} {c : Array Value} {t : TypeId} (h : BlkAt W g c t) (k : Nat) : W.cell? ⟨g, k, none⟩ = c[k]? := by simp [World.cell?, show W.heap[g]? = some (.cells c t (0, 0)) from h]
theorem BlkAt.free {W : World} {g : Nat} {c : Array Value} {t : TypeId} (h : BlkAt W g c t) (k : Nat) : W.frozen? ⟨g, k, none⟩ = false := by simp [World.frozen?, show W.heap[g]? = some (.cells c t (0, 0)) from h]
/-- A variable of two cells. -/
structure Own2 (W : World) (g : Nat) (x y : Value) : Prop where
  c0 : W.cell? ⟨g, 0, none⟩ = some x
  c1 : W.cell? ⟨g, 1, none⟩ = some y
  f0 : W.frozen? ⟨g, 0, none⟩ = false
  f1 : W.frozen? ⟨g, 1, none⟩ = false
theorem Own2.of {W : World} {g : Nat} {x y : Value} {t : TypeId} (h : BlkAt W g #[x, y] t) : Own2 W g x y := ⟨by rw [h.cell]; rfl, by rw [h.cell]; rfl, h.free 0, h.free 1⟩
theorem Own2.lt {W : World} {g : Nat} {x y : Value} (h : Own2 W g x y) : g < W.heap.size := by
  rcases Nat.lt_or_ge g W.heap.size with h' | h'
  · exact h'
  · have := h.c0; simp [World.cell?, Array.getElem?_eq_none h'] at this
theorem Own2.below {W W' : World} {B g : Nat} {x y : Value} (h : Own2 W g x y) (hb : Below B W W') (hl : g < B) : Own2 W' g x y :=
  ⟨(hb.cell (p := ⟨g, 0, none⟩) hl).trans h.c0, (hb.cell (p := ⟨g, 1, none⟩) hl).trans h.c1, (hb.frozen (p := ⟨g, 0, none⟩) hl).trans h.f0, (hb.frozen (p := ⟨g, 1, none⟩) hl).trans h.f1⟩
theorem Own2.after {W W' : World} {g : Nat} {x y : Value} (h : Own2 W g x y) (hb : Below W.heap.size W W') : Own2 W' g x y := h.below hb h.lt
theorem Own2.new (W : World) (x y : Value) (t : TypeId) : Own2 (W.alloc (.cells #[x, y] t)) W.heap.size x y := Own2.of (BlkAt.new W _ t)
theorem Own2.at {W : World} {g : Nat} (h : W.heap.size = g) (x y : Value) (t : TypeId) : Own2 (W.alloc (.cells #[x, y] t)) g x y := by subst h; exact Own2.new _ _ _ _
theorem BlkAt.at {W : World} {g : Nat} (h : W.heap.size = g) (c : Array Value) (t : TypeId) : BlkAt (W.alloc (.cells c t)) g c t := by subst h; exact BlkAt.new _ _ _
theorem max_abs (a : Int) : (if a < -a then -a else a) = ((a.natAbs : Nat) : Int) := by split <;> omega
theorem gcd_any (a b : Int) (h1 : -9223372036854775808 ≤ a) (h2 : a < 9223372036854775808) (h3 : 1 ≤ b) (h4 : b < 9223372036854775808) (w : World) :
    Calls Try.prog 114 #[.int .i64 a, .int .i64 b] w fun e w' => e = .returned (.int .i64 (Int.gcd a b : Nat)) ∧ ∃ n, w' = w.drewN n := by
  obtain ⟨G, hG⟩ : ∃ G : Nat, Keep (Int.gcd a b = G) := ⟨_, ⟨rfl⟩⟩
  rw [hG.out]
  go_enter Try.func114, Try.ntmps114
  go_wp2
  go_loopw [0, 1] (fun x y wr => ∃ a' b' : Int, x = .int .i64 a' ∧ y = .int .i64 b' ∧ Keep (Int.gcd a' b' = G) ∧ -9223372036854775808 ≤ a' ∧ a' < 9223372036854775808 ∧ -9223372036854775808 < b' ∧ b' < 9223372036854775808 ∧ (b' = 0 → -9223372036854775808 < a') ∧ ∃ n, wr = w.drewN n) (fun _ y _ => (intOf y).natAbs)
  case atStart => exact ⟨a, b, rfl, rfl, hG, h1, h2, by omega, h4, by omega, 0, rfl⟩
  case round =>
    obtain ⟨a', b', rfl, rfl, hg, k1, k2, k3, k4, k5, n, rfl⟩ := hrel
    by_cases hb : b' = 0
    · subst hb
      have k6 := k5 rfl
      have hw : IntKind.i64.wrap (-a') = -a' := IntWalk.i64_in _ (by omega)
      have e := hg.out
      rw [Int.gcd_zero_right] at e
      go_wp2
      all_goals go_ret
      all_goals refine ⟨?_, n, rfl⟩
      all_goals first
        | (rw [show ((G : Nat) : Int) = -a' by omega]; rfl)
        | (rw [show ((G : Nat) : Int) = a' by omega]; rfl)
    · have hb0 : (b' == 0) = false := by simpa using hb
      have ht := Int.natAbs_tmod a' b'
      have hm : a'.natAbs % b'.natAbs < b'.natAbs := Nat.mod_lt _ (by omega)
      have hw : IntKind.i64.wrap (a'.tmod b') = a'.tmod b' := by
        apply IntWalk.i64_in; omega
      obtain ⟨r, hr⟩ : ∃ r, Keep (a'.tmod b' = r) := ⟨_, ⟨rfl⟩⟩
      have hk : Keep (Int.gcd b' r = G) := ⟨by
        rw [← hr.out, ← hg.out]
        unfold Int.gcd
        rw [Int.natAbs_tmod, Nat.gcd_comm, ← Nat.gcd_rec, Nat.gcd_comm]⟩
      clear k5
      go_wp2
      try go_quiet (fail)
      try go_wp2
      have hk2 : Keep (Int.gcd b' (a'.tmod b') = G) := ⟨by rw [hr.out]; exact hk.out⟩
      refine ⟨⟨b', a'.tmod b', rfl, rfl, hk2, by omega, by omega, by omega, by omega, by omega, ?_⟩, ?_⟩
      · first | exact ⟨n, rfl⟩ | exact ⟨_, drewN_add _ _ _⟩
      simp only [intOf]
      omega
def fracV (n d : Int) : Value := .agg #[.int .i64 n, .int .i64 d]
def redN (n d : Int) : Int := n.tdiv (Int.gcd n d : Nat)
def redD (n d : Int) : Int := d / (Int.gcd n d : Nat)
theorem lowest_any (a b : Int) (h1 : -9223372036854775808 ≤ a) (h2 : a < 9223372036854775808) (h3 : 1 ≤ b) (h4 : b < 9223372036854775808) (w : World) :
    Calls Try.prog 96 #[.int .i64 a, .int .i64 b] w fun e w' => e = .returned (fracV (redN a b) (redD a b)) ∧ Below w.heap.size w w' := by
  have hgp : 0 < Int.gcd a b := Int.gcd_pos_of_ne_zero_right _ (by omega)
  obtain ⟨G, hG⟩ : ∃ G : Nat, Keep (Int.gcd a b = G) := ⟨_, ⟨rfl⟩⟩
  unfold redN redD fracV
  rw [hG.out] at hgp ⊢
  have hg1 : (1 : Int) ≤ (G : Int) := by omega
  have hG0 : ((G : Int) == 0) = false := by simp; omega
  have hwa : IntKind.i64.wrap (a.tdiv (G : Int)) = a.tdiv (G : Int) := IntWalk.i64_quo' _ _ ⟨by omega, by omega, hg1⟩
  have hwb : IntKind.i64.wrap (b.tdiv (G : Int)) = b / (G : Int) := IntWalk.i64_quo _ _ ⟨by omega, by omega, hg1⟩
  go_enter Try.func96, Try.ntmps96
  go_wp2_with (go_at_call 114; refine (gcd_any a b h1 h2 h3 h4 _).mono ?_; rintro e w5 ⟨rfl, n, rfl⟩; rw [hG.out])
  go_region_with (fail)
  all_goals go_wp2
  all_goals refine bodyPost_ret (v := .agg #[.int .i64 (a.tdiv (G : Int)), .int .i64 (b / (G : Int))]) (by simp [results, Try.results96, go_sem]; try simp only [hwb]; go_simp) rfl ?_
  all_goals exact ⟨rfl, (below_drewN ((Below.refl _ _).alloc (Nat.le_refl _) _) _).setCell (p := ⟨w.heap.size, 0, none⟩) (Nat.le_refl _) _ |>.setCell (p := ⟨w.heap.size, 1, none⟩) (Nat.le_refl _) _⟩
theorem refgcd_any (a b : Nat) (h2 : a < 9223372036854775808) (h4 : b < 9223372036854775808) (w : World) :
    Calls Try.prog 89 #[.int .i64 a, .int .i64 b] w fun e w' => e = .returned (.int .i64 (Nat.gcd a b : Nat)) ∧ w' = w := by
  obtain ⟨G, hG⟩ : ∃ G : Nat, Keep (Nat.gcd a b = G) := ⟨_, ⟨rfl⟩⟩
  rw [hG.out]
  go_enter Try.func89, Try.ntmps89
  go_wp2
  go_loop [0, 1] (fun x y => ∃ a' b' : Nat, x = .int .i64 a' ∧ y = .int .i64 b' ∧ Keep (Nat.gcd a' b' = G) ∧ a' < 9223372036854775808 ∧ b' < 9223372036854775808) (fun _ y => (intOf y).toNat)
  case atStart => exact ⟨a, b, rfl, rfl, hG, h2, h4⟩
  case round =>
    obtain ⟨a', b', rfl, rfl, hg, k1, k2⟩ := hrel
    by_cases hb : b' = 0
    · subst hb
      go_wp2
      go_ret
      refine ⟨?_, rfl⟩
      rw [← hg.out, Nat.gcd_zero_right]; rfl
    · have hb1 : 1 ≤ b' := by omega
      have hb0 : ((b' : Int) == 0) = false := by rw [beq_eq_false_iff_ne]; omega
      have hm : a' % b' < b' := Nat.mod_lt _ (by omega)
      obtain ⟨r, hr⟩ : ∃ r, Keep (a' % b' = r) := ⟨_, ⟨rfl⟩⟩
      have hk : Keep (Nat.gcd b' r = G) := ⟨by rw [← hr.out, ← hg.out, Nat.gcd_comm b', ← Nat.gcd_rec, Nat.gcd_comm]⟩
      have hw : IntKind.i64.wrap ((a' : Int).tmod (b' : Int)) = (r : Int) := by
        rw [← hr.out, IntWalk.up_tmod rfl rfl, IntWalk.i64_in _ (by omega)]
      rw [hr.out] at hm
      go_wp2
      refine ⟨⟨b', r, rfl, by rw [← hr.out]; rfl, hk, k2, by omega⟩, ?_⟩
      have e : ((a' : Int) % (b' : Int)) = (r : Int) := by rw [← hr.out]; rfl
      rw [e]
      simp only [intOf]
      omega
theorem gcd_nat (a b : Int) : Nat.gcd a.natAbs b.natAbs = Int.gcd a b := rfl
theorem reduced_any (a b : Int) (h1 : -9223372036854775808 < a) (h2 : a < 9223372036854775808) (h3 : 1 ≤ b) (h4 : b < 9223372036854775808) (w : World) :
    Calls Try.prog 60 #[.int .i64 a, .int .i64 b] w fun e w' => e = .returned (fracV (redN a b) (redD a b)) ∧ Below w.heap.size w w' := by
  have hgp : 0 < Int.gcd a b := Int.gcd_pos_of_ne_zero_right _ (by omega)
  have hgle : Int.gcd a b ≤ b.natAbs := Nat.gcd_le_right _ (by omega)
  obtain ⟨G, hG⟩ : ∃ G : Nat, Keep (Int.gcd a b = G) := ⟨_, ⟨rfl⟩⟩
  have hgc := gcd_nat a b
  rw [hG.out] at hgc
  have hgk := Keep.mk hgc
  clear hgc
  unfold redN redD fracV
  rw [hG.out] at hgp hgle ⊢
  have hg1 : (1 : Int) ≤ (G : Int) := by omega
  have hG0 : ((G : Int) == 0) = false := by rw [beq_eq_false_iff_ne]; omega
  have hwa : IntKind.i64.wrap (a.tdiv (G : Int)) = a.tdiv (G : Int) := IntWalk.i64_quo' _ _ ⟨by omega, by omega, hg1⟩
  have hwb : IntKind.i64.wrap (b.tdiv (G : Int)) = b / (G : Int) := IntWalk.i64_quo _ _ ⟨by omega, by omega, hg1⟩
  have hng : IntKind.i64.wrap (-a) = -a := IntWalk.i64_in _ (by omega)
  have hq : ∀ w, Calls Try.prog 89 #[.int .i64 ((a.natAbs : Nat) : Int), .int .i64 ((b.natAbs : Nat) : Int)] w fun e w' => e = .returned (.int .i64 G) ∧ w' = w := by
    intro w; rw [← hgk.out]; exact refgcd_any _ _ (by omega) (by omega) w
  have hbn : ((b.natAbs : Nat) : Int) = b := by omega
  rw [hbn] at hq
  clear hbn
  by_cases hs : a < -a
  · have han : ((a.natAbs : Nat) : Int) = -a := by omega
    rw [han] at hq
    clear han
    go_enter Try.func60, Try.ntmps60
    go_wp2_with (go_at_call 89; refine (hq _).mono ?_; rintro e w5 ⟨rfl, rfl⟩)
    go_region_with (fail)
    all_goals go_wp2
    all_goals refine bodyPost_ret (v := .agg #[.int .i64 (a.tdiv (G : Int)), .int .i64 (b / (G : Int))]) (by simp [results, Try.results60, go_sem]; try simp only [hwb]; go_simp) rfl ?_
    all_goals first
      | exact ⟨rfl, ((Below.refl _ _).alloc (Nat.le_refl _) _).drew⟩
      | exact ⟨rfl, (((Below.refl _ _).alloc (Nat.le_refl _) _).drew).setCell (p := ⟨w.heap.size, 0, none⟩) (Nat.le_refl _) _ |>.setCell (p := ⟨w.heap.size, 1, none⟩) (Nat.le_refl _) _⟩
      | exact ⟨rfl, (below_drewN ((Below.refl _ _).alloc (Nat.le_refl _) _) _).setCell (p := ⟨w.heap.size, 0, none⟩) (Nat.le_refl _) _ |>.setCell (p := ⟨w.heap.size, 1, none⟩) (Nat.le_refl _) _⟩
  · have han : ((a.natAbs : Nat) : Int) = a := by omega
    rw [han] at hq
    clear han
    go_enter Try.func60, Try.ntmps60
    go_wp2_with (go_at_call 89; refine (hq _).mono ?_; rintro e w5 ⟨rfl, rfl⟩)
    go_region_with (fail)
    all_goals go_wp2
    all_goals refine bodyPost_ret (v := .agg #[.int .i64 (a.tdiv (G : Int)), .int .i64 (b / (G : Int))]) (by simp [results, Try.results60, go_sem]; try simp only [hwb]; go_simp) rfl ?_
    all_goals first
      | exact ⟨rfl, ((Below.refl _ _).alloc (Nat.le_refl _) _).drew⟩
      | exact ⟨rfl, (((Below.refl _ _).alloc (Nat.le_refl _) _).drew).setCell (p := ⟨w.heap.size, 0, none⟩) (Nat.le_refl _) _ |>.setCell (p := ⟨w.heap.size, 1, none⟩) (Nat.le_refl _) _⟩
      | exact ⟨rfl, (below_drewN ((Below.refl _ _).alloc (Nat.le_refl _) _) _).setCell (p := ⟨w.heap.size, 0, none⟩) (Nat.le_refl _) _ |>.setCell (p := ⟨w.heap.size, 1, none⟩) (Nat.le_refl _) _⟩
theorem whole_any (z : Int) (w : World) : Calls Try.prog 84 #[.int .i64 z] w fun e w' => e = .returned (fracV z 1) ∧ Below w.heap.size w w' := by
  unfold fracV
  go_enter Try.func84, Try.ntmps84
  go_wp2
  refine bodyPost_ret (v := .agg #[.int .i64 z, .int .i64 1]) (by simp [results, Try.results84, go_sem]; try go_simp) rfl ?_
  first
    | exact ⟨rfl, (Below.refl _ _).alloc (Nat.le_refl _) _⟩
    | exact ⟨rfl, ((Below.refl _ _).alloc (Nat.le_refl _) _).setCell (p := ⟨w.heap.size, 0, none⟩) (Nat.le_refl _) _ |>.setCell (p := ⟨w.heap.size, 1, none⟩) (Nat.le_refl _) _⟩
theorem refWhole_any (z : Int) (w : World) : Calls Try.prog 29 #[.int .i64 z] w fun e w' => e = .returned (fracV z 1) ∧ Below w.heap.size w w' := by
  unfold fracV
  go_enter Try.func29, Try.ntmps29
  go_wp2
  refine bodyPost_ret (v := .agg #[.int .i64 z, .int .i64 1]) (by simp [results, Try.results29, go_sem]; try go_simp) rfl ?_
  first
    | exact ⟨rfl, (Below.refl _ _).alloc (Nat.le_refl _) _⟩
    | exact ⟨rfl, ((Below.refl _ _).alloc (Nat.le_refl _) _).setCell (p := ⟨w.heap.size, 0, none⟩) (Nat.le_refl _) _ |>.setCell (p := ⟨w.heap.size, 1, none⟩) (Nat.le_refl _) _⟩
end Go.Proofs.Ytbocmbhinjkjlaa
