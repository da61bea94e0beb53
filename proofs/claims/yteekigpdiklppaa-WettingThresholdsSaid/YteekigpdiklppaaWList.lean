import Derived.Test.YteekigpdiklppaaWForce
import Derived.OwnWalk
import Derived.Laws.AppendOwn
import Derived.Lib.SmallJoins
import Derived.DataShut
import Derived.ChangeSlices
import Derived.DataReads
import Derived.WideShapes
import Derived.ProofKit
set_option linter.unusedSimpArgs false
set_option linter.unusedVariables false
namespace Go.Proofs.Yteekigpdiklppaa
open Go Go.Proofs Go.RowKit Go.Seq
attribute [local go_sem] Oper.semAt_some
set_option maxHeartbeats 1000000 in
set_option maxRecDepth 100000 in
theorem vertices_givesQ {b : Nat} {s : Nat → Bool} (W1 : World) :
    Qr.GivesQ Try.prog 83 #[.pointer (some ⟨b, 0, none⟩)] encK (vsTo s 12) (fun W => SetAt W b s) W1 := by
  intro l J hJ hR hY h0
  have hS := hR _ _ h0
  obtain ⟨c0, _⟩ := hS.cell (k := 0) (by omega)
  obtain ⟨c1, _⟩ := hS.cell (k := 1) (by omega)
  obtain ⟨c2, _⟩ := hS.cell (k := 2) (by omega)
  obtain ⟨c3, _⟩ := hS.cell (k := 3) (by omega)
  obtain ⟨c4, _⟩ := hS.cell (k := 4) (by omega)
  obtain ⟨c5, _⟩ := hS.cell (k := 5) (by omega)
  obtain ⟨c6, _⟩ := hS.cell (k := 6) (by omega)
  obtain ⟨c7, _⟩ := hS.cell (k := 7) (by omega)
  obtain ⟨c8, _⟩ := hS.cell (k := 8) (by omega)
  obtain ⟨c9, _⟩ := hS.cell (k := 9) (by omega)
  obtain ⟨c10, _⟩ := hS.cell (k := 10) (by omega)
  obtain ⟨c11, _⟩ := hS.cell (k := 11) (by omega)
  refine callsIn_of_wp Try.func83 rfl trivial ?_ rfl
  simp only [Try.ntmps83, List.size_toArray, List.length_cons, List.length_nil, Nat.reduceAdd, Nat.reduceSub, Array.replicate_succ, Array.replicate_zero, List.push_toArray, List.append_toArray, List.nil_append, List.cons_append]
  gi_wp2
  clear c0 c1 c2 c3 c4 c5 c6 c7 c8 c9 c10 c11
  gi_loopw [6] (fun i wr => ∃ k : Nat, k ≤ 12 ∧ i = .int .i64 k ∧ J (vsTo s k) wr ∧ W1.heap.size ≤ wr.heap.size) (fun i _ => 12 - (intOf i).toNat)
  case atStart => exact ⟨0, by omega, rfl, by simpa [vsTo] using h0, by simp⟩
  case round =>
    obtain ⟨k, hk, rfl, hj, hsz⟩ := hrel
    have hw1 : IntKind.i64.wrap ((k : Int) + 1) = (k : Int) + 1 := IntWalk.i64_in _ (by omega)
    by_cases hlt : k < 12
    · have hlt' : (k : Int) < 12 := by omega
      have hidx := fun w => idx49 s k hlt w
      unfold sc at hidx
      cases hs : s k with
      | true =>
        rw [hs] at hidx
        obtain ⟨fn, tmps, assign, body, hy, hRd⟩ := hY (vsTo s k) k wr hj hsz (vsTo_rest s hs hlt)
        unfold encK at hy
        gi_wp2
        refine ⟨rfl, hRd.mono ?_⟩
        rintro e w5 ⟨rfl, hj5, hf5, _⟩
        have hsz5 := Nat.le_trans hsz hf5
        gi_wp2
        exact ⟨⟨k + 1, by omega, by go_num, by rw [vsTo_succ, if_pos hs]; exact hj5, hsz5⟩, by simp [intOf]; omega⟩
      | false =>
        rw [hs] at hidx
        gi_wp2
        refine ⟨fun f hf => (by cases hf), ?_⟩
        gi_wp2
        exact ⟨⟨k + 1, by omega, by go_num, by rw [vsTo_succ, hs]; exact hj, hsz⟩, by simp [intOf]; omega⟩
    · have : k = 12 := by omega
      subst this
      gi_wp2
      go_end0
      exact ⟨⟨_, rfl⟩, hj, hsz⟩
def ik (k : Nat) : Value := .int .i64 k
theorem row_keeps {n B e s k : Nat} {W W' : World} {v : Value} {xs : List Value} (h : W.ownsRow B e s v k xs) (hk : Qr.Keeps n W W') (hB : n + 2 ≤ B) : W'.ownsRow B e s v k xs := by
  obtain ⟨h1, h2⟩ := h
  refine ⟨h1, ?_⟩
  rcases h2 with h2 | ⟨g, cap, cur, rfl, hg, hh, hr⟩
  · exact .inl h2
  · exact .inr ⟨g, cap, cur, rfl, hg, (hk.block g (Array.getElem?_eq_some_iff.1 hh).1 (by omega) (by omega)).trans hh, hr⟩
theorem info3 : (Try.prog.info? 3).map (fun i => (i.zero, i.size, i.bytes)) = some (some (.int .i64 0), 1, 8) := by kernel_rfl
theorem ty24 : Try.prog.underlying 23 = some (.slice 3) := by kernel_rfl
set_option maxHeartbeats 2000000 in
set_option maxRecDepth 100000 in
theorem list_any (s : Nat → Bool) (w : World) : Calls Try.prog 60 #[setV s] w fun e w' => ∃ v, e = .returned v ∧ w'.ownsRow w.heap.size 3 1 v (vsTo s 12).length ((vsTo s 12).map ik) ∧ Below w.heap.size w w' := by
  obtain ⟨i0, hi, hz0, hz1, hz2⟩ : ∃ i, Try.prog.info? 3 = some i ∧ i.zero = some (.int .i64 0) ∧ i.size = 1 ∧ i.bytes = 8 := by
    have h := info3
    cases hI : Try.prog.info? 3 with
    | none => rw [hI] at h; cases h
    | some i =>
      rw [hI] at h
      simp only [Option.map_some, Option.some.injEq, Prod.mk.injEq] at h
      exact ⟨i, rfl, h.1, h.2.1, h.2.2⟩
  obtain ⟨wa, hwa⟩ : ∃ wa, w.alloc (.cells (sc s) 79) = wa := ⟨_, rfl⟩
  have sa : wa.heap.size = w.heap.size + 1 := by rw [← hwa]; simp
  have ba : Below w.heap.size w wa := by rw [← hwa]; exact (Below.refl _ _).alloc (Nat.le_refl _) _
  have fa : SetAt wa w.heap.size s := by rw [← hwa]; exact SetAt.new _ _
  obtain ⟨x0, x1, x2, x3, x4, x5, x6, x7, x8, x9, x10, x11⟩ := fa.c12
  have q39 := fun w => vertices_any s w
  unfold setV sc at q39 ⊢
  unfold sc at hwa
  refine (callsIn_wide (n := 0)).1 ?_
  refine callsIn_of_wp_marks Try.func60 rfl trivial ?_ rfl
  simp only [Try.ntmps60, List.size_toArray, List.length_cons, List.length_nil, Nat.reduceAdd, Nat.reduceSub, Array.replicate_succ, Array.replicate_zero, List.push_toArray, List.append_toArray, List.nil_append, List.cons_append]
  refine wpIn_wide.2 ?_
  go_wp2_with (first
    | (go_at_call 62; (with_reducible refine (q39 _).mono ?_); rintro e w5 ⟨rfl, hw5⟩; rw [hw5]; clear hw5 w5))
  refine (wpIn_wide (n := 0)).1 ?_
  obtain ⟨wb, hwb⟩ : ∃ wb, wa.alloc (.cells #[.slice none 0 0] 23) = wb := ⟨_, rfl⟩
  have sb : wb.heap.size = w.heap.size + 1 + 1 := by rw [← hwb]; simp [sa]
  have bb : Below wa.heap.size wa wb := by rw [← hwb]; exact (Below.refl _ _).alloc (Nat.le_refl _) _
  have t3 : wb.heap[w.heap.size + 1]? = some (.cells #[.slice none 0 0] 23 (0, 0)) := by rw [← sa, ← hwb]; exact World.alloc_heap_new wa _
  obtain ⟨w2, hw2⟩ : ∃ w2, wb.alloc (.cells (sc s) 79) = w2 := ⟨_, rfl⟩
  have bc : Below wb.heap.size wb w2 := by rw [← hw2]; exact (Below.refl _ _).alloc (Nat.le_refl _) _
  have s2 : w2.heap.size = w.heap.size + 3 := by rw [← hw2]; simp [sb]
  have f2 : SetAt w2 (w.heap.size + 1 + 1) s := by rw [← sb, ← hw2]; exact SetAt.new _ _
  have t3 := (bc.block (w.heap.size + 1) (by omega)).trans t3
  have bw : Below w.heap.size w w2 := (ba.trans (bb.mono (by omega))).trans (bc.mono (by omega))
  unfold sc at hw2
  rw [hwb, hw2]
  clear hwa hwb hw2 sb bb bc fa ba sa x0 x1 x2 x3 x4 x5 x6 x7 x8 x9 x10 x11 q39
  refine Qr.range_givesQ (gf := 83) (lb := #[.pointer (some ⟨w.heap.size + 1 + 1, 0, none⟩)]) rfl (enters_of Try.func83 (by kernel_rfl) rfl) (encs := encK) (xs := vsTo s 12)
    (R := fun W => SetAt W (w.heap.size + 1 + 1) s) (fun x => rfl) (fun W1' _ _ => vertices_givesQ W1')
    (fun pre W => SetAt W (w.heap.size + 1 + 1) s ∧ (∃ v, W.cell? ⟨w.heap.size + 1, 0, none⟩ = some v ∧ W.frozen? ⟨w.heap.size + 1, 0, none⟩ = false ∧ W.ownsRow (w.heap.size + 5) 3 1 v pre.length (pre.map ik)) ∧ Below w.heap.size w W ∧ w.heap.size + 3 ≤ W.heap.size)
    ?_ (fun pre W h => h.1) ⟨f2, ⟨_, by simp [World.cell?, t3], by simp [World.frozen?, t3], World.ownsRow_nil _ _ _ _⟩, bw, by omega⟩
    (fun x a' W => a' = { tmps := #[.agg (sc s), .pointer (some ⟨w.heap.size, 0, none⟩), .slice none 0 0, .pointer (some ⟨w.heap.size + 1, 0, none⟩), .int .i64 (x : Nat), .agg (sc s), .func (.func 83) #[] #[.pointer (some ⟨w.heap.size + 1 + 1, 0, none⟩)], .int .i64 (x : Nat), undef, undef, undef, undef, undef], defers := [] })
    ?_ ?assign ?body ?done
  · rintro pre W W' ⟨k1, ⟨v, k2, k3, k4⟩, k5, k6⟩ hk
    have hb : Below w2.heap.size W W' := hk.below (Nat.le_refl _) (by omega)
    refine ⟨k1.below hb (by omega), ⟨v, (hb.cell (p := ⟨w.heap.size + 1, 0, none⟩) (by show w.heap.size + 1 < _; omega)).trans k2, ?_, row_keeps k4 hk (by omega)⟩, k5.trans (hb.mono (by omega)), Nat.le_trans k6 hk.size⟩
    rw [World.frozen?_of_block (a := ⟨w.heap.size + 1, 0, none⟩) (hb.block _ (by show w.heap.size + 1 < _; omega))]; exact k3
  · rintro x a' W W' h _ _
    exact h
  case assign =>
    intro l2 pre x W K hi2 hsz2 hK
    unfold encK
    gi_wp2
    exact hK _ _ (Below.refl W.heap.size W) (by first | rfl | simp [sc])
  case body =>
    rintro l2 pre x a' W ⟨k1, ⟨v, k2, k3, k4⟩, k5, k6⟩ rfl hsz2 ⟨post, hpost⟩
    have hl : pre.length ≤ 12 := by
      have := vsTo_len s 12
      rw [hpost] at this
      simp at this; omega
    gi_wp2_with (gi_at_builtin; refine wpListIn_append_own _ rfl _ _ 23 rfl (w.heap.size + 5) 3 i0 (.int .i64 0) 1 8 ty24 hi hz0 hz1 hz2 rfl (by decide) _ _ _ rfl (k4.alloc _) ⟨W.heap.size, 0, none⟩ 1 1 [.int .i64 x] rfl rfl (cell_one_new _ _ _) (by simp [Value.oneCell']) (by unfold maxLen; omega) (by omega) (by simp; omega) ?_; intro v' w1 hown hgrow _
                 have hb1 : Below (w.heap.size + 5) W w1 := Below.grown ((Below.refl _ W).alloc (by omega) _) hgrow (by simp; omega) (fun j hj => (k4.lt _ hj).1)
                 obtain ⟨g', cap', rfl⟩ := ownsRow_succ hown
                 have c3 := (hb1.cell (p := ⟨w.heap.size + 1, 0, none⟩) (by show w.heap.size + 1 < w.heap.size + 5; omega)).trans k2
                 have f3 := (World.frozen?_of_block (a := ⟨w.heap.size + 1, 0, none⟩) (hb1.block _ (by show w.heap.size + 1 < w.heap.size + 5; omega))).trans k3)
    have hd := ownsRow_setCell_below hown (a := ⟨w.heap.size + 1, 0, none⟩) (by show w.heap.size + 1 < w.heap.size + 5; omega) (.slice (some ⟨g', 0, none⟩) (pre.length + 1) cap')
    have hsz1 : W.heap.size ≤ w1.heap.size := hb1.size
    refine ⟨⟨(k1.below hb1 (by omega)).other (by omega), hd, (k5.trans (hb1.mono (by omega))).setCell (p := ⟨w.heap.size + 1, 0, none⟩) (by show w.heap.size ≤ w.heap.size + 1; omega) _, by omega⟩, ⟨hsz1, ?_, ?_⟩, hb1.os, hb1.tape, hb1.output⟩
    · rw [Below.heap_setCell _ _ _ _ (by show w.heap.size + 3 ≠ w.heap.size + 1; omega)]; exact hb1.block _ (by omega)
    · rw [Below.heap_setCell _ _ _ _ (by show w.heap.size + 3 + 1 ≠ w.heap.size + 1; omega)]; exact hb1.block _ (by omega)
  case done =>
    rintro W ⟨k1, ⟨v, k2, k3, k4⟩, k5, k6⟩ hszW hD
    gi_wp2
    go_wp2
    refine Qr.leaves_mark hD fun w' hk => ⟨v, by simp [results, Try.results60, go_sem], v, rfl, ?_, k5.trans (hk.below (by omega) (by omega))⟩
    have h := row_keeps k4 hk (by omega)
    obtain ⟨h1, h2⟩ := h
    refine ⟨h1, ?_⟩
    rcases h2 with h2 | ⟨g, cap, cur, rfl, hg, hr⟩
    · exact .inl h2
    · exact .inr ⟨g, cap, cur, rfl, by omega, hr⟩
end Go.Proofs.Yteekigpdiklppaa
