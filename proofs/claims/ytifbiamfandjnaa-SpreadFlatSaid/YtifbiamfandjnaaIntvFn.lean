import Derived.Test.YtifbiamfandjnaaKeyMap
import Derived.Test.YtifbiamfandjnaaLess
import Derived.Test.YtifbiamfandjnaaLineFn
import Derived.Test.YtifbiamfandjnaaAwake
import Derived.RangeFuncBox
set_option linter.unusedSimpArgs false
set_option linter.unusedVariables false
namespace Go.Proofs.Ytifbiamfandjnaa
open Go Go.Proofs Go.RowKit Go.Seq Go.Maps
theorem intv_no {N : Int} {v : Value} {zs : List Int} {w : World} (hv : IntsAt w v zs) (hl : zs.length ≤ 100000) (hN : In64 N) (hno : okLine N zs = false) :
    Calls Try.prog 23 #[.int .i64 N, v] w fun e w' => e = .returned (.tuple #[fracV 0 0, .agg #[.int .i64 0, .int .i64 0], .int .i64 2]) ∧ Below w.heap.size w w' := by
  have hv' := ints_below hv (((Below.refl _ w).alloc (Nat.le_refl _) (.cells #[.int .i64 0, .int .i64 0] 25)).alloc (by simp) (.cells #[.int .i64 0, .int .i64 0] 39))
  go_enter Try.func23, Try.ntmps23
  go_wp2_with (go_at_call 52; refine (readLine_no hv' hl hN.1 hN.2 hno).mono ?_; rintro e w5 ⟨rfl, rfl⟩)
  refine bodyPost_ret (v := .tuple #[fracV 0 0, .agg #[.int .i64 0, .int .i64 0], .int .i64 2]) (by unfold fracV; simp [results, Try.results23, go_sem]; try go_simp) rfl ?_
  exact ⟨rfl, by first | exact (((Below.refl _ w).alloc (Nat.le_refl _) _).alloc (by simp) _) | exact (((((((Below.refl _ w).alloc (Nat.le_refl _) _).alloc (by simp) _).setCell (p := ⟨w.heap.size, 0, none⟩) (Nat.le_refl _) _).setCell (p := ⟨w.heap.size, 1, none⟩) (Nat.le_refl _) _).setCell (p := ⟨w.heap.size + 1, 0, none⟩) (by simp) _).setCell (p := ⟨w.heap.size + 1, 1, none⟩) (by simp) _)⟩
/-- What the walk of Interval holds: the line read, the map of first places, the least and the greatest fraction. -/
structure IvAt (W : World) (b M L N n : Nat) (c : Nat → Nat) (k : Nat) (D : DU) (x y p q : Int) : Prop where
  line : LineAt W b N n c
  map : W.ownsMap Try.prog 25 (plainElem Try.prog 3) M k D
  lo : W.heap[L]? = some (.cells #[.int .i64 x, .int .i64 y] 25 (0, 0))
  hi : W.heap[L + 1]? = some (.cells #[.int .i64 p, .int .i64 q] 25 (0, 0))
  ord : b < M ∧ M < L
theorem map_same {W W' : World} {M k : Nat} {D : DU} (h : W.ownsMap Try.prog 25 (plainElem Try.prog 3) M k D) (e : W'.heap[M]? = W.heap[M]?) : W'.ownsMap Try.prog 25 (plainElem Try.prog 3) M k D := by
  obtain ⟨es, clock, hb, F, hs, hD⟩ := h
  exact ⟨es, clock, e.trans hb, F, hs, hD⟩
theorem IvAt.lt {W : World} {b M L N n : Nat} {c : Nat → Nat} {k : Nat} {D : DU} {x y p q : Int} (h : IvAt W b M L N n c k D x y p q) : L + 1 < W.heap.size := (Array.getElem?_eq_some_iff.1 h.hi).1
theorem IvAt.same {W W' : World} {b M L N n : Nat} {c : Nat → Nat} {k : Nat} {D : DU} {x y p q : Int} (h : IvAt W b M L N n c k D x y p q) (e : ∀ j, j < L + 2 → W'.heap[j]? = W.heap[j]?) : IvAt W' b M L N n c k D x y p q := by
  have := h.ord
  exact ⟨h.line.same (e _ (by omega)), map_same h.map (e _ (by omega)), (e _ (by omega)).trans h.lo, (e _ (by omega)).trans h.hi, h.ord⟩
theorem IvAt.below {W W' : World} {b M L N n : Nat} {c : Nat → Nat} {k : Nat} {D : DU} {x y p q : Int} (h : IvAt W b M L N n c k D x y p q) (hb : Below W.heap.size W W') : IvAt W' b M L N n c k D x y p q := by
  have := h.lt
  exact h.same fun j hj => hb.block j (by omega)
theorem IvAt.facts {W : World} {b M L N n : Nat} {c : Nat → Nat} {k : Nat} {D : DU} {x y p q : Int} (h : IvAt W b M L N n c k D x y p q) :
    (W.cell? ⟨L, 0, none⟩ = some (.int .i64 x) ∧ W.cell? ⟨L, 1, none⟩ = some (.int .i64 y) ∧ W.cell? ⟨L + 1, 0, none⟩ = some (.int .i64 p) ∧ W.cell? ⟨L + 1, 1, none⟩ = some (.int .i64 q)) ∧
    (W.frozen? ⟨L, 0, none⟩ = false ∧ W.frozen? ⟨L, 1, none⟩ = false ∧ W.frozen? ⟨L + 1, 0, none⟩ = false ∧ W.frozen? ⟨L + 1, 1, none⟩ = false) := by
  have h1 := h.lo
  have h2 := h.hi
  simp [World.cell?, World.frozen?, h1, h2]
theorem IvAt.setLo {W : World} {b M L N n : Nat} {c : Nat → Nat} {k : Nat} {D : DU} {x y p q : Int} (h : IvAt W b M L N n c k D x y p q) (x' y' : Int) : IvAt ((W.setCell ⟨L, 0, none⟩ (.int .i64 x')).setCell ⟨L, 1, none⟩ (.int .i64 y')) b M L N n c k D x' y' p q := by
  have := h.ord
  refine ⟨h.line.same (put_other (put_other rfl (by omega) _) (by omega) _), map_same h.map (put_other (put_other rfl (by omega) _) (by omega) _), ?_, put_other (put_other h.hi (by omega) _) (by omega) _, h.ord⟩
  exact heap_set (heap_set h.lo _) _
theorem IvAt.setHi {W : World} {b M L N n : Nat} {c : Nat → Nat} {k : Nat} {D : DU} {x y p q : Int} (h : IvAt W b M L N n c k D x y p q) (x' y' : Int) : IvAt ((W.setCell ⟨L + 1, 0, none⟩ (.int .i64 x')).setCell ⟨L + 1, 1, none⟩ (.int .i64 y')) b M L N n c k D x y x' y' := by
  have := h.ord
  refine ⟨h.line.same (put_other (put_other rfl (by omega) _) (by omega) _), map_same h.map (put_other (put_other rfl (by omega) _) (by omega) _), put_other (put_other h.lo (by omega) _) (by omega) _, ?_, h.ord⟩
  exact heap_set (heap_set h.hi _) _
theorem IvAt.put {W W' : World} {b M L N n : Nat} {c : Nat → Nat} {k k' : Nat} {D D' : DU} {x y p q : Int} (h : IvAt W b M L N n c k D x y p q) (ho : W'.ownsMap Try.prog 25 (plainElem Try.prog 3) M k' D') (hg : W.grownBy W' (some M)) : IvAt W' b M L N n c k' D' x y p q := by
  have h1 := h.ord
  have h2 := h.lt
  exact ⟨h.line.same (hg.block _ (by omega) (by simp; omega)), ho, (hg.block _ (by omega) (by simp; omega)).trans h.lo, (hg.block _ (by omega) (by simp; omega)).trans h.hi, h.ord⟩
theorem IvAt.mono {W : World} {b M L N n : Nat} {c : Nat → Nat} {k : Nat} {D : DU} {x y p q : Int} (h : IvAt W b M L N n c k D x y p q) : IvAt W b M L N n c (k + 1) D x y p q := ⟨h.line, h.map.mono (Nat.le_succ _), h.lo, h.hi, h.ord⟩
theorem excT_le {N : Nat} {zs : List Int} (hN : N ≤ 1000) (hn : zs.length ≤ 60) {t : Nat} (ht : t ≤ N) : -60000 ≤ excT N zs t ∧ excT N zs t ≤ 60000 := exc_le hN hn (Nat.le_trans (belowC_le zs t) hn) (by omega)
end Go.Proofs.Ytifbiamfandjnaa
