import Derived.Test.YteekigpdiklppaaWMinus
set_option linter.unusedSimpArgs false
set_option linter.unusedVariables false
namespace Go.Proofs.Yteekigpdiklppaa
open Go Go.Proofs Go.RowKit Go.Seq
attribute [local go_sem] Oper.semAt_some
theorem vsTo_len (s : Nat → Bool) (k : Nat) : (vsTo s k).length ≤ k := by
  unfold vsTo
  exact Nat.le_trans (List.length_filter_le _ _) (by simp)
set_option maxHeartbeats 2000000 in
set_option maxRecDepth 100000 in
theorem size_any (s : Nat → Bool) (w : World) : Calls Try.prog 74 #[setV s] w fun e w' => e = .returned (.int .i64 (vsTo s 12).length) ∧ Below w.heap.size w w' := by
  obtain ⟨wa, hwa⟩ : ∃ wa, w.alloc (.cells (sc s) 79) = wa := ⟨_, rfl⟩
  have sa : wa.heap.size = w.heap.size + 1 := by rw [← hwa]; simp
  have ba : Below w.heap.size w wa := by rw [← hwa]; exact (Below.refl _ _).alloc (Nat.le_refl _) _
  have fa : SetAt wa w.heap.size s := by rw [← hwa]; exact SetAt.new _ _
  obtain ⟨x0, x1, x2, x3, x4, x5, x6, x7, x8, x9, x10, x11⟩ := fa.c12
  have q39 := fun w => vertices_any s w
  unfold setV sc at q39 ⊢
  unfold sc at hwa
  refine (callsIn_wide (n := 0)).1 ?_
  refine callsIn_of_wp_marks Try.func74 rfl trivial ?_ rfl
  simp only [Try.ntmps74, List.size_toArray, List.length_cons, List.length_nil, Nat.reduceAdd, Nat.reduceSub, Array.replicate_succ, Array.replicate_zero, List.push_toArray, List.append_toArray, List.nil_append, List.cons_append]
  refine wpIn_wide.2 ?_
  go_wp2_with (first
    | (go_at_call 62; (with_reducible refine (q39 _).mono ?_); rintro e w5 ⟨rfl, hw5⟩; rw [hw5]; clear hw5 w5))
  refine (wpIn_wide (n := 0)).1 ?_
  obtain ⟨wb, hwb⟩ : ∃ wb, wa.alloc (.cells #[.int .i64 0] 3) = wb := ⟨_, rfl⟩
  have sb : wb.heap.size = w.heap.size + 1 + 1 := by rw [← hwb]; simp [sa]
  have bb : Below wa.heap.size wa wb := by rw [← hwb]; exact (Below.refl _ _).alloc (Nat.le_refl _) _
  have t3 : wb.heap[w.heap.size + 1]? = some (.cells #[.int .i64 0] 3 (0, 0)) := by rw [← sa, ← hwb]; exact World.alloc_heap_new wa _
  obtain ⟨w2, hw2⟩ : ∃ w2, wb.alloc (.cells (sc s) 79) = w2 := ⟨_, rfl⟩
  have bc : Below wb.heap.size wb w2 := by rw [← hw2]; exact (Below.refl _ _).alloc (Nat.le_refl _) _
  have s2 : w2.heap.size = w.heap.size + 3 := by rw [← hw2]; simp [sb]
  have f2 : SetAt w2 (w.heap.size + 1 + 1) s := by rw [← sb, ← hw2]; exact SetAt.new _ _
  have t3 := (bc.block (w.heap.size + 1) (by omega)).trans t3
  have bw : Below w.heap.size w w2 := (ba.trans (bb.mono (by omega))).trans (bc.mono (by omega))
  unfold sc at hw2
  rw [hwb, hw2]
  clear hwa hwb hw2 sb bb bc fa ba sa x0 x1 x2 x3 x4 x5 x6 x7 x8 x9 x10 x11 q39
  refine range_gives (gf := 83) (lb := #[.pointer (some ⟨w.heap.size + 1 + 1, 0, none⟩)]) rfl (enters_of Try.func83 (by kernel_rfl) rfl) (encs := encK) (xs := vsTo s 12)
    (R := fun W => SetAt W (w.heap.size + 1 + 1) s) (fun x => rfl) (fun W1' _ _ => (vertices_gives W1').gives)
    (fun pre W => SetAt W (w.heap.size + 1 + 1) s ∧ (W.cell? ⟨w.heap.size + 1, 0, none⟩ = some (.int .i64 (pre.length : Nat)) ∧ W.frozen? ⟨w.heap.size + 1, 0, none⟩ = false) ∧ Below w.heap.size w W ∧ w.heap.size + 3 ≤ W.heap.size)
    ?_ (fun pre W h => h.1) ⟨f2, ⟨by simp [World.cell?, t3], by simp [World.frozen?, t3]⟩, bw, by omega⟩
    (fun x a' W => a' = { tmps := #[.agg (sc s), .pointer (some ⟨w.heap.size, 0, none⟩), .int .i64 0, .pointer (some ⟨w.heap.size + 1, 0, none⟩), .agg (sc s), .func (.func 83) #[] #[.pointer (some ⟨w.heap.size + 1 + 1, 0, none⟩)], .int .i64 (x : Nat), undef, undef, undef], defers := [] })
    ?_ ?assign ?body ?done
  · rintro pre W W' ⟨k1, ⟨k2, k3⟩, k4, k5⟩ hb
    have z1 := k1.lt
    refine ⟨k1.below hb (by omega), ⟨(hb.cell (p := ⟨w.heap.size + 1, 0, none⟩) (by show w.heap.size + 1 < _; omega)).trans k2, ?_⟩, k4.trans (hb.mono (by omega)), Nat.le_trans k5 hb.size⟩
    rw [World.frozen?_of_block (a := ⟨w.heap.size + 1, 0, none⟩) (hb.block _ (by show w.heap.size + 1 < _; omega))]; exact k3
  · rintro x a' W W' h hf
    exact h
  case assign =>
    intro l2 pre x W K hi hsz2 hK
    unfold encK
    gi_wp2
    exact hK _ _ (Below.refl W.heap.size W) (by simp [sc])
  case body =>
    rintro l2 pre x a' W ⟨k1, ⟨k2, k3⟩, k4, k5⟩ rfl hsz2 ⟨post, hpost⟩
    have hl : pre.length ≤ 12 := by
      have := vsTo_len s 12
      rw [hpost] at this
      simp at this; omega
    have wl : IntKind.i64.wrap ((pre.length : Int) + 1) = (pre.length : Int) + 1 := IntWalk.i64_in _ (by omega)
    obtain ⟨n, hn⟩ : ∃ n, pre.length = n := ⟨_, rfl⟩
    have hlen : (pre ++ [x]).length = n + 1 := by simp [hn]
    have hfin : From w2.heap.size W (W.setCell ⟨w.heap.size + 1, 0, none⟩ (.int .i64 ((n : Int) + 1))) := (From.refl _ _).setCell (by show w.heap.size + 1 < _; omega) _
    have hS1 : SetAt (W.setCell ⟨w.heap.size + 1, 0, none⟩ (.int .i64 ((n : Int) + 1))) (w.heap.size + 1 + 1) s := k1.other (by omega)
    have hb1 : Below w.heap.size w (W.setCell ⟨w.heap.size + 1, 0, none⟩ (.int .i64 ((n : Int) + 1))) := k4.setCell (p := ⟨w.heap.size + 1, 0, none⟩) (by show w.heap.size ≤ w.heap.size + 1; omega) _
    rw [hn] at k2 wl
    rw [hlen]
    rw [s2] at hfin
    unfold sc
    gi_wp2
    first
      | exact ⟨hfin, rfl, rfl⟩
      | exact ⟨rfl, rfl⟩
  case done =>
    rintro W ⟨k1, ⟨k2, k3⟩, k4, k5⟩ hszW hD
    gi_wp2
    go_wp2
    refine Qr.leaves_mark hD fun w' hk => ⟨.int .i64 ((vsTo s 12).length : Nat), by simp [results, Try.results74, go_sem], rfl, k4.trans (hk.below (by omega) (by omega))⟩
end Go.Proofs.Yteekigpdiklppaa
