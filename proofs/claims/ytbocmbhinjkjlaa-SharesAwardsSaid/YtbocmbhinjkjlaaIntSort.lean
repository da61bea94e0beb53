/- Ints in ascending order: the library's insertion sort at ints, laid at this seat; sorted of the program. -/
import Derived.Test.YtbocmbhinjkjlaaSortedFn
set_option linter.unusedSimpArgs false
set_option linter.unusedVariables false
namespace Go.Proofs.Ytbocmbhinjkjlaa
open Go Go.Proofs Go.RowKit Go.Seq Go.Sort Go.ChangeShapes Go.WideShapes Go.ChangeAt Go.Joins
def Try.sortRI : Go.Shelf.Ren := ⟨fun | 20 => 130 | n => n, fun | 22 => 23 | 24 => 3 | 25 => 82 | 0 => 0 | 3 => 3 | 4 => 4 | n => n, fun | n => n⟩
theorem Try.sortLI : Go.Proofs.SlLaysF.n20 Try.prog Try.sortRI := {
  mixed := by kernel_rfl
  f20 := ⟨Try.f130.name, by decide, Try.func130.trans (congrArg some (by kernel_rfl))⟩
  t0 := Try.underlying0
  a0 := Try.isAgg0
  z0 := Try.sizeOf0
  v0 := Try.zeroValue0
  t3 := Try.underlying3
  a3 := Try.isAgg3
  z3 := Try.sizeOf3
  v3 := Try.zeroValue3
  t4 := Try.underlying4
  a4 := Try.isAgg4
  z4 := Try.sizeOf4
  v4 := Try.zeroValue4
  t22 := Try.underlying23
  a22 := Try.isAgg23
  z22 := Try.sizeOf23
  v22 := Try.zeroValue23
  a24 := Try.isAgg3
  z24 := Try.sizeOf3
  t25 := Try.underlying82
  a25 := Try.isAgg82
  z25 := Try.sizeOf82
  v25 := Try.zeroValue82 }
theorem cmpIr {g o size : Nat} {w : World} : CmpReads Try.prog 110 #[] (Value.int .i64) cmpI g o size w := fun m os dk hs x y => by
  refine (cmp_any x y (sortWorld (Value.int .i64) w g o m dk os)).mono ?_
  rintro e w' ⟨rfl, rfl⟩
  exact ⟨rfl, 0, rfl⟩
theorem ltI_iff (x y : Int) : ltOf cmpI x y = true ↔ x < y := by
  unfold ltOf cmpI
  rw [decide_eq_true_eq]
  split
  · rename_i h; exact ⟨fun _ => h, fun _ => by omega⟩
  · rename_i h
    split <;> exact ⟨fun h' => by omega, fun h' => absurd h' h⟩
theorem swoI : SWO (ltOf cmpI) where
  irrefl := fun x => by rw [Bool.eq_false_iff]; intro h; have := (ltI_iff x x).1 h; omega
  trans := fun x y z h1 h2 => by rw [ltI_iff] at *; omega
  ntrans := fun x y z h1 h2 => by rw [Bool.eq_false_iff, ne_eq, ltI_iff] at *; omega
set_option maxRecDepth 100000 in
theorem stableI_any {g cap : Nat} {d : Array Int} {w : World} (hH : Holds (Value.int .i64) w g 0 d) (hs : d.size ≤ 10) :
    Calls Try.prog 125 #[.slice (some ⟨g, 0, none⟩) d.size cap, .func (.func 110) #[] #[]] w fun e w' => e = .returned (.tuple #[]) ∧ Holds (Value.int .i64) w' g 0 (insertionSort (ltOf cmpI) d 0 d.size) ∧ w.grownBy w' (some g) := by
  have q : Calls Try.prog 130 #[.slice (some ⟨g, 0, none⟩) d.size cap, .int .i64 0, .int .i64 d.size, .func (.func 110) #[] #[]] w fun e w' => e = .returned (.tuple #[]) ∧ Holds (Value.int .i64) w' g 0 (insertionSort (ltOf cmpI) d 0 d.size) ∧ w.grownBy w' (some g) := by
    have h := Any.insertionSortCmpFunc_one Try.sortLI (Value.int .i64) (fun _ => rfl) cmpI 110 #[] g 0 cap 0 d.size d w (enters_of Try.func110 (by decide) rfl) cmpIr hH (Nat.zero_le _) (Nat.le_refl _) (by omega)
    refine h.mono ?_
    rintro e w' ⟨rfl, n, rfl⟩
    have hp := (insertionSort_holds swoI d 0 d.size (Nat.zero_le _) (Nat.le_refl _)).1.1
    refine ⟨rfl, fun j hj => holds_putRow (Value.int .i64) w g 0 d _ hH hp j hj, ⟨rfl, rfl, rfl, by simp [World.drewN], fun k hk hne => ?_⟩⟩
    have : g ≠ k := fun e => hne (by rw [e])
    simp [putRow, mapBlock, World.drewN, Array.getElem?_modify, this]
  generalize insertionSort (ltOf cmpI) d 0 d.size = d' at *
  obtain ⟨N, hN⟩ : ∃ N, d.size = N := ⟨_, rfl⟩
  rw [hN] at q hs ⊢
  clear hN hH
  have q2 : Calls Try.prog 128 #[.slice (some ⟨g, 0, none⟩) N cap, .int .i64 N, .func (.func 110) #[] #[]] w fun e w' => e = .returned (.tuple #[]) ∧ Holds (Value.int .i64) w' g 0 d' ∧ w.grownBy w' (some g) := by
    have n1 : ¬ (20 : Int) ≤ (N : Int) := by omega
    have n2 : ¬ (20 : Int) < (N : Int) := by omega
    go_enter Try.func128, Try.ntmps128
    go_wp2
    refine wp_loop_rounds 1 ?_
    rw [rounds_succ]
    go_wp2_with (go_at_call 130; (with_reducible refine q.mono ?_); rintro e w' ⟨rfl, hh, hgr⟩)
    refine wp_loop_rounds 1 ?_
    rw [rounds_succ]
    go_wp2
    (try simp only [Exit.inBlock, Exit.then]); refine bodyPost_end (results_none rfl _ _ _) rfl ?_
    exact ⟨rfl, hh, hgr⟩
  clear q
  go_enter Try.func125, Try.ntmps125
  go_wp2_with (go_at_call 128; (with_reducible refine q2.mono ?_); rintro e w' ⟨rfl, hh, hgr⟩)
  (try simp only [Exit.inBlock, Exit.then]); refine bodyPost_end (results_none rfl _ _ _) rfl ?_
  exact ⟨rfl, hh, hgr⟩
theorem eqNil23 (A : Option Addr) (n c : Nat) (w : World) : (binOp .eql 23 (.slice A n c) (.slice none 0 0)).run Try.prog w = .ok (.bool A.isNone) w := Go.Lib.run_eql_slice_nil w 23 3 A n c 0 0 ty23
theorem own_empty3 {w : World} {B : Nat} (hB : B ≤ w.heap.size) : (w.alloc (.cells #[] 3)).ownsRow B 3 1 (.slice (some ⟨w.heap.size, 0, none⟩) 0 0) 0 [] :=
  ⟨rfl, .inr ⟨w.heap.size, 0, #[], rfl, hB, BlkAt.new w #[] 3, Nat.le_refl _, Nat.zero_le _, rfl, rfl⟩⟩
set_option maxHeartbeats 1000000 in
set_option maxRecDepth 100000 in
theorem cloneI_any {v : Value} {l : List Int} {w : World} (hv : IntsO w v l) (h1l : 1 ≤ l.length) (hl : l.length ≤ 10) :
    Calls Try.prog 124 #[v] w fun e w' => ∃ v', e = .returned v' ∧ w'.ownsRow w.heap.size 3 1 v' l.length (l.map vz) ∧ Below w.heap.size w w' := by
  obtain ⟨i0, hi, hz0, hz1, hz2⟩ := info_parts info3
  obtain ⟨A, cap, rfl, hc⟩ := hv
  obtain ⟨g, o, rfl, _⟩ := hc 0 (by omega)
  obtain ⟨w1, hw1⟩ : ∃ w1, Keep (w.alloc (.cells #[] 3) = w1) := ⟨_, ⟨rfl⟩⟩
  have hb1 : Below w.heap.size w w1 := by rw [← hw1.out]; exact (Below.refl _ _).alloc (Nat.le_refl _) _
  have ho : w1.ownsRow w.heap.size 3 1 (.slice (some ⟨w.heap.size, 0, none⟩) 0 0) 0 [] := by rw [← hw1.out]; exact own_empty3 (Nat.le_refl _)
  have hcs := cells_of_arg (w := w1) (b := g) (o := o) (m := l.length) (Nat.le_refl _) (fun i hi => by
    obtain ⟨g', o', h, h1⟩ := hc i hi
    cases h
    exact cell_below h1 hb1)
  rw [List.take_length] at hcs
  clear hc
  have h1 : ∀ u ∈ l.map vz, u.oneCell' = true := fun u hu => by
    obtain ⟨_, _, rfl⟩ := List.mem_map.1 hu; rfl
  have hel : (l.map vz).length = l.length * 1 := by simp
  generalize l.map vz = E at *
  generalize l.length = N at *
  have en := eqNil23
  go_enter Try.func124, Try.ntmps124
  go_wp2_with (at_builtin; (try rw [hw1.out]); go_loud (
    refine wpList_append_own _ rfl _ _ 23 rfl w.heap.size 3 i0 (.int .i64 0) 1 8 ty23 hi hz0 hz1 hz2 rfl (by decide) _ 0 [] rfl ho ⟨g, o, none⟩ N cap E rfl hel hcs h1 (by unfold maxLen; omega) (by omega) hb1.size ?_
    intro v' w3 hown' hgrow3 hnil3
    have hbw3 : Below w.heap.size w w3 := Below.grown hb1 hgrow3 hb1.size (fun k hk => by cases hk; exact Nat.le_refl _)))
  go_ret
  refine ⟨_, rfl, ?_, hbw3⟩
  simpa using hown'
/-- o is l in ascending order. -/
structure AscI (l o : List Int) : Prop where
  perm : o.Perm l
  ord : ∀ i j, i < j → j < o.length → o.getD i 0 ≤ o.getD j 0
theorem getD_arr (d : Array Int) (k : Nat) (h : k < d.size) : d.toList.getD k 0 = d[k]! := by
  rw [List.getD_eq_getElem?_getD]
  simp [h]
set_option maxHeartbeats 1000000 in
set_option maxRecDepth 100000 in
theorem sortedI_any {v : Value} {l : List Int} {w : World} (hv : IntsO w v l) (h1l : 1 ≤ l.length) (hl : l.length ≤ 10) :
    Calls Try.prog 117 #[v, .func (.func 110) #[] #[]] w fun e w' => ∃ v' o, e = .returned v' ∧ IntsO w' v' o ∧ AscI l o ∧ Below w.heap.size w w' := by
  have q124 := cloneI_any hv h1l hl
  have q125 : ∀ w1 v1, w1.ownsRow w.heap.size 3 1 v1 l.length (l.map vz) → Below w.heap.size w w1 → Calls Try.prog 125 #[v1, .func (.func 110) #[] #[]] w1 fun e w' => e = .returned (.tuple #[]) ∧ ∃ o, IntsO w' v1 o ∧ AscI l o ∧ Below w.heap.size w w' := fun w1 v1 ho hb => by
    rcases ho.2 with ⟨_, h0⟩ | ⟨g, cap, cur, rfl, hg, hh, hn, hcap, hsz, htake⟩
    · omega
    · have hH : Holds (Value.int .i64) w1 g 0 l.toArray := fun j hj => by
        have hj' : j < l.length := by simpa using hj
        obtain ⟨A', c', hv', hc'⟩ := own_ints ho
        injection hv' with e1 e2 e3
        subst e1
        obtain ⟨g', o', e, h1⟩ := hc' j hj'
        cases e
        refine ⟨?_, by simp [World.frozen?, hh]⟩
        rw [h1]
        rw [← getD_arr _ _ hj]
      obtain ⟨⟨p1, _, p3⟩, so⟩ := insertionSort_holds swoI l.toArray 0 l.toArray.size (Nat.zero_le _) (Nat.le_refl _)
      have := stableI_any (cap := cap) hH (by simpa using hl)
      rw [show l.toArray.size = l.length by simp] at this
      refine this.mono ?_
      rintro e w' ⟨rfl, hh2, hgr⟩
      rw [show l.toArray.size = l.length by simp] at p1 p3 so
      generalize insertionSort (ltOf cmpI) l.toArray 0 l.length = d' at *
      refine ⟨rfl, d'.toList, ⟨_, cap, by simp [p1], fun k hk => ⟨g, 0, rfl, ?_⟩⟩, ⟨?_, fun i j hij hj => ?_⟩, hb.grown hgr hb.size (fun j hj => by cases hj; exact hg)⟩
      · have hk' : k < d'.size := by simpa using hk
        rw [(hh2 k hk').1, getD_arr _ _ hk']
      · have e1 : (d'.extract 0 l.length).toList = d'.toList := by rw [← p1]; simp
        have e2 : (l.toArray.extract 0 l.length).toList = l := by simp
        rw [e1, e2] at p3
        exact p3
      · have hj' : j < d'.size := by simpa using hj
        have := so i j (Nat.zero_le _) hij (by rw [← p1]; exact hj')
        rw [getD_arr _ _ hj', getD_arr _ _ (by omega)]
        rw [Bool.eq_false_iff, ne_eq, ltI_iff] at this
        omega
  clear hv hl h1l
  go_enter Try.func117, Try.ntmps117
  go_wp2_with (first
    | (go_at_call 124; (with_reducible refine q124.mono ?_); rintro e w1 ⟨v1, rfl, ho, hb⟩)
    | (go_at_call 125; (with_reducible refine (q125 _ _ ho hb).mono ?_); rintro e w2 ⟨rfl, o, hf, ha, hb2⟩))
  go_ret
  exact ⟨v1, o, rfl, hf, ha, hb2⟩
end Go.Proofs.Ytbocmbhinjkjlaa
