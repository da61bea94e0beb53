/- Sorting fractions: the library's insertion sort, laid at this seat; the stable sort of a short list; a list's copy. -/
import Derived.Test.YtbocmbhinjkjlaaSumFn
import Derived.Shelf.SlSortCmp.InsertionK
set_option linter.unusedSimpArgs false
set_option linter.unusedVariables false
namespace Go.Proofs.Ytbocmbhinjkjlaa
open Go Go.Proofs Go.RowKit Go.Seq Go.Sort
abbrev TT := {z : Int × Int // okT z = true}
instance : Inhabited TT := ⟨⟨(0, 1), by decide⟩⟩
def encT (x : TT) : List Value := [vz x.1.1, vz x.1.2]
def cfT (x y : TT) : Int := cmpI (x.1.1 * y.1.2) (y.1.1 * x.1.2)
def Try.sortR : Go.Shelf.Ren := ⟨fun | 20 => 126 | n => n, fun | 22 => 24 | 24 => 37 | 25 => 118 | 0 => 0 | 3 => 3 | 4 => 4 | n => n, fun | n => n⟩
theorem Try.sortL : Go.Proofs.SlLaysF0.n20 Try.prog Try.sortR := {
  mixed := by kernel_rfl
  f20 := ⟨Try.f126.name, by decide, Try.func126.trans (congrArg some (by kernel_rfl))⟩
  t0 := Try.underlying0
  a0 := Try.isAgg0
  z0 := Try.sizeOf0
  v0 := Try.zeroValue0
  t3 := Try.underlying3
  a3 := Try.isAgg3
  z3 := Try.sizeOf3
  v3 := Try.zeroValue3
  t4 := Try.underlying4
  a4 := Try.isAgg4
  z4 := Try.sizeOf4
  v4 := Try.zeroValue4
  t22 := Try.underlying24
  a22 := Try.isAgg24
  z22 := Try.sizeOf24
  v22 := Try.zeroValue24
  t25 := Try.underlying118
  a25 := Try.isAgg118
  z25 := Try.sizeOf118
  v25 := Try.zeroValue118 }
theorem compare_exact {a b c d : Int} (k1 : In64 (a * d)) (k2 : In64 (c * b)) (w : World) :
    Calls Try.prog 87 #[fracV a b, fracV c d] w fun e w' => e = .returned (.int .i64 (cmpI (a * d) (c * b))) ∧ w' = (w.alloc (.cells #[.int .i64 a, .int .i64 b] 37)).alloc (.cells #[.int .i64 c, .int .i64 d] 37) := by
  have e1 : IntKind.i64.wrap (a * d) = a * d := IntWalk.i64_in _ ⟨k1.1, by have := k1.2; omega⟩
  have e2 : IntKind.i64.wrap (c * b) = c * b := IntWalk.i64_in _ ⟨k2.1, by have := k2.2; omega⟩
  have q := fun w => cmp_any (a * d) (c * b) w
  generalize cmpI (a * d) (c * b) = R at q ⊢
  clear k1 k2
  unfold fracV
  go_enter Try.func87, Try.ntmps87
  go_wp2_with (go_at_call 110; refine (q _).mono ?_; rintro e w5 ⟨rfl, rfl⟩)
  go_ret
  exact ⟨rfl, rfl⟩
theorem okT_mul {x y : Int × Int} (hx : okT x = true) (hy : okT y = true) : In64 (x.1 * y.2) := by
  obtain ⟨h1, h2, h3, h4, _⟩ := okT_bounds hx
  obtain ⟨k1, k2, k3, k4, _⟩ := okT_bounds hy
  have m1 : x.1 * y.2 ≤ 1000000 * y.2 := Int.mul_le_mul_of_nonneg_right h4 (by omega)
  have m2 : -1000000 * y.2 ≤ x.1 * y.2 := Int.mul_le_mul_of_nonneg_right h3 (by omega)
  exact ⟨by omega, by omega⟩
theorem cmpT {g o size : Nat} {w : World} : CmpLays Try.prog 87 #[] encT 2 cfT g o size w := fun m os dk hs x y => by
  refine (compare_exact (okT_mul x.2 y.2) (okT_mul y.2 x.2) (sortWorldK encT 2 w g o m dk os)).mono ?_
  rintro e w' ⟨rfl, rfl⟩
  exact ⟨rfl, 0, #[.cells #[.int .i64 x.1.1, .int .i64 x.1.2] 37, .cells #[.int .i64 y.1.1, .int .i64 y.1.2] 37], rfl⟩
theorem ltT_iff (x y : TT) : ltOf cfT x y = true ↔ x.1.1 * y.1.2 < y.1.1 * x.1.2 := by
  unfold ltOf cfT cmpI
  rw [decide_eq_true_eq]
  split
  · rename_i h; exact ⟨fun _ => h, fun _ => by omega⟩
  · rename_i h
    split <;> exact ⟨fun h' => by omega, fun h' => absurd h' h⟩
theorem cross {a b c d e f : Int} (hd : 0 < d) (h1 : a * d ≤ c * b) (h2 : c * f ≤ e * d) (hb : 0 < b) (hf : 0 < f) : a * f ≤ e * b := by
  have e1 : a * d * f ≤ c * b * f := Int.mul_le_mul_of_nonneg_right h1 (by omega)
  have e2 : c * f * b ≤ e * d * b := Int.mul_le_mul_of_nonneg_right h2 (by omega)
  have e3 : c * b * f = c * f * b := by ac_rfl
  have e4 : (a * f) * d ≤ (e * b) * d := by
    have x1 : (a * f) * d = a * d * f := by ac_rfl
    have x2 : (e * b) * d = e * d * b := by ac_rfl
    omega
  exact Int.le_of_mul_le_mul_right e4 hd
theorem cross_lt {a b c d e f : Int} (hd : 0 < d) (h1 : a * d < c * b) (h2 : c * f ≤ e * d) (hb : 0 < b) (hf : 0 < f) : a * f < e * b := by
  have e1 : a * d * f < c * b * f := Int.mul_lt_mul_of_pos_right h1 hf
  have e2 : c * f * b ≤ e * d * b := Int.mul_le_mul_of_nonneg_right h2 (by omega)
  have e3 : c * b * f = c * f * b := by ac_rfl
  have e4 : (a * f) * d < (e * b) * d := by
    have x1 : (a * f) * d = a * d * f := by ac_rfl
    have x2 : (e * b) * d = e * d * b := by ac_rfl
    omega
  exact Int.lt_of_mul_lt_mul_right e4 (by omega)
theorem dpos (x : TT) : 0 < x.1.2 := by have := (okT_bounds x.2).1; omega
theorem swoT : SWO (ltOf cfT) where
  irrefl := fun x => by rw [Bool.eq_false_iff]; intro h; have := (ltT_iff x x).1 h; omega
  trans := fun x y z h1 h2 => by
    rw [ltT_iff] at *
    exact cross_lt (dpos y) h1 (by omega) (dpos x) (dpos z)
  ntrans := fun x y z h1 h2 => by
    rw [Bool.eq_false_iff, ne_eq, ltT_iff] at *
    have := cross (dpos y) (Int.not_lt.1 h2) (Int.not_lt.1 h1) (dpos z) (dpos x)
    omega
set_option maxRecDepth 100000 in
theorem ins_none (p : Option Addr) (cap : Nat) (f : Value) (w : World) : Calls Try.prog 126 #[.slice p 0 cap, .int .i64 0, .int .i64 0, f] w fun e w' => e = .returned (.tuple #[]) ∧ w' = w := by
  go_enter Try.func126, Try.ntmps126
  go_wp2
  refine wp_loop_rounds 1 ?_
  rw [rounds_succ]
  go_wp2
  (try simp only [Exit.inBlock, Exit.then]); refine bodyPost_end (results_none rfl _ _ _) rfl ?_
  exact ⟨rfl, rfl⟩
theorem ins_any {g cap : Nat} {d : Array TT} {w : World} (hH : HoldsK encT 2 w g 0 d) (hb : g < w.heap.size) (hs : d.size ≤ 10) :
    Calls Try.prog 126 #[.slice (some ⟨g, 0, none⟩) d.size cap, .int .i64 0, .int .i64 d.size, .func (.func 87) #[] #[]] w fun e w' => e = .returned (.tuple #[]) ∧ ∃ n os, w' = sortWorldK encT 2 w g 0 n (insertionSort (ltOf cfT) d 0 d.size) os :=
  AnyQ.insertionSortCmpFunc Try.sortL 2 Try.isAgg37 Try.sizeOf37 encT (fun _ => rfl) (fun x v hv => by
    simp only [encT, List.mem_cons, List.not_mem_nil, or_false] at hv
    rcases hv with rfl | rfl <;> rfl) cfT 87 #[] g 0 cap 0 d.size d w (enters_of Try.func87 (by decide) rfl) cmpT hH hb (Nat.zero_le _) (Nat.le_refl _) (by omega)
theorem grownBy_sortedK {w : World} {g n : Nat} {os : Array Obj} (d : Array TT) : w.grownBy (sortWorldK encT 2 w g 0 n d os) (some g) := by
  unfold sortWorldK putRowK
  refine ⟨rfl, rfl, rfl, by simp, fun k hk hne => ?_⟩
  rw [heap_grow_old _ _ (by simpa using hk)]
  have : g ≠ k := fun e => hne (by rw [e])
  simp [putRow, mapBlock, Sort.ahead, Array.getElem?_modify, this]
set_option maxRecDepth 100000 in
theorem stable_any {g cap : Nat} {d : Array TT} {w : World} (hH : HoldsK encT 2 w g 0 d) (hb : g < w.heap.size) (hs : d.size ≤ 10) :
    Calls Try.prog 109 #[.slice (some ⟨g, 0, none⟩) d.size cap, .func (.func 87) #[] #[]] w fun e w' => e = .returned (.tuple #[]) ∧ HoldsK encT 2 w' g 0 (insertionSort (ltOf cfT) d 0 d.size) ∧ w.grownBy w' (some g) := by
  have q : Calls Try.prog 126 #[.slice (some ⟨g, 0, none⟩) d.size cap, .int .i64 0, .int .i64 d.size, .func (.func 87) #[] #[]] w fun e w' => e = .returned (.tuple #[]) ∧ HoldsK encT 2 w' g 0 (insertionSort (ltOf cfT) d 0 d.size) ∧ w.grownBy w' (some g) := by
    refine (ins_any hH hb hs).mono ?_
    rintro e w' ⟨rfl, n, os, rfl⟩
    have hp := (insertionSort_holds swoT d 0 d.size (Nat.zero_le _) (Nat.le_refl _)).1.1
    exact ⟨rfl, holdsK_sortWorldK_c encT 2 w g 0 d _ n os hH hb hp, grownBy_sortedK _⟩
  generalize insertionSort (ltOf cfT) d 0 d.size = d' at *
  obtain ⟨N, hN⟩ : ∃ N, d.size = N := ⟨_, rfl⟩
  rw [hN] at q hs ⊢
  clear hN hH hb
  have q2 : Calls Try.prog 120 #[.slice (some ⟨g, 0, none⟩) N cap, .int .i64 N, .func (.func 87) #[] #[]] w fun e w' => e = .returned (.tuple #[]) ∧ HoldsK encT 2 w' g 0 d' ∧ w.grownBy w' (some g) := by
    have n1 : ¬ (20 : Int) ≤ (N : Int) := by omega
    have n2 : ¬ (20 : Int) < (N : Int) := by omega
    go_enter Try.func120, Try.ntmps120
    go_wp2
    refine wp_loop_rounds 1 ?_
    rw [rounds_succ]
    go_wp2_with (go_at_call 126; (with_reducible refine q.mono ?_); rintro e w' ⟨rfl, hh, hgr⟩)
    refine wp_loop_rounds 1 ?_
    rw [rounds_succ]
    go_wp2
    (try simp only [Exit.inBlock, Exit.then]); refine bodyPost_end (results_none rfl _ _ _) rfl ?_
    exact ⟨rfl, hh, hgr⟩
  clear q
  go_enter Try.func109, Try.ntmps109
  go_wp2_with (go_at_call 120; (with_reducible refine q2.mono ?_); rintro e w' ⟨rfl, hh, hgr⟩)
  (try simp only [Exit.inBlock, Exit.then]); refine bodyPost_end (results_none rfl _ _ _) rfl ?_
  exact ⟨rfl, hh, hgr⟩
set_option maxRecDepth 100000 in
theorem stable_none (p : Option Addr) (cap : Nat) (f : Value) (w : World) : Calls Try.prog 109 #[.slice p 0 cap, f] w fun e w' => e = .returned (.tuple #[]) ∧ w' = w := by
  have q := ins_none p cap f w
  have q2 : Calls Try.prog 120 #[.slice p 0 cap, .int .i64 0, f] w fun e w' => e = .returned (.tuple #[]) ∧ w' = w := by
    go_enter Try.func120, Try.ntmps120
    go_wp2
    refine wp_loop_rounds 1 ?_
    rw [rounds_succ]
    go_wp2_with (go_at_call 126; (with_reducible refine q.mono ?_); rintro e w' ⟨rfl, rfl⟩)
    refine wp_loop_rounds 1 ?_
    rw [rounds_succ]
    go_wp2
    (try simp only [Exit.inBlock, Exit.then]); refine bodyPost_end (results_none rfl _ _ _) rfl ?_
    exact ⟨rfl, rfl⟩
  clear q
  go_enter Try.func109, Try.ntmps109
  go_wp2_with (go_at_call 120; (with_reducible refine q2.mono ?_); rintro e w' ⟨rfl, rfl⟩)
  (try simp only [Exit.inBlock, Exit.then]); refine bodyPost_end (results_none rfl _ _ _) rfl ?_
  exact ⟨rfl, rfl⟩
end Go.Proofs.Ytbocmbhinjkjlaa
