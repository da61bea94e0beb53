import Derived.Test.YteekigpdiklppaaWMap
import Derived.Test.YteekigpdiklppaaWFort
import Derived.Test.YteekigpdiklppaaWSets
import Derived.Test.YteekigpdiklppaaWWets
import Derived.Test.YteekigpdiklppaaSeqM
import Derived.Test.YteekigpdiklppaaWList
import Derived.WalkMore
set_option linter.unusedSimpArgs false
set_option linter.unusedVariables false
namespace Go.Proofs.Yteekigpdiklppaa
open Go Go.Proofs Go.RowKit Go.Seq
attribute [local go_sem] Oper.semAt_some
def woS (s : Nat → Bool) (v : Nat) : Nat → Bool := fun j => if j = v then false else s j
def dryS (n : Nat) (s : Nat → Bool) : Nat → Bool := fun j => decide (j < n) && !s j
def isF (n : Nat) (adj : Nat → Nat → Bool) (s : Nat → Bool) : Bool := !(eqb s fun _ => false) && eqb (fround adj (dryS n s)) (dryS n s)
abbrev Hst := ((Nat → Bool) → Bool) × List (Nat → Bool)
/-- What the search for the least forts does with a set. -/
def stepF (n : Nat) (adj : Nat → Nat → Bool) (st : Hst) (s : Nat → Bool) : Hst :=
  if ((vsTo s 12).any fun v => st.1 (woS s v)) = true then (addH st.1 s, st.2) else if isF n adj s = true then (addH st.1 s, st.2 ++ [s]) else st
def stF (n : Nat) (adj : Nat → Nat → Bool) (pre : List (Nat → Bool)) : Hst := pre.foldl (stepF n adj) (fun _ => false, [])
theorem stF_snoc (n : Nat) (adj : Nat → Nat → Bool) (pre : List (Nat → Bool)) (s : Nat → Bool) : stF n adj (pre ++ [s]) = stepF n adj (stF n adj pre) s := by simp [stF]
def fortsOf (n : Nat) (adj : Nat → Nat → Bool) : List (Nat → Bool) := (stF n adj (setsTo n n)).2
def encs12 (L : List (Nat → Bool)) : List Value := L.flatMap fun s => (sc s).toList
theorem stepF_len (n : Nat) (adj : Nat → Nat → Bool) (st : Hst) (s : Nat → Bool) : (stepF n adj st s).2.length ≤ st.2.length + 1 := by
  unfold stepF
  split
  · exact Nat.le_succ _
  · split
    · simp
    · exact Nat.le_succ _
/-- How many sets there are. -/
def lenF (n : Nat) : Nat → Nat → Nat
  | 0, _ => 1
  | m + 1, v => ((List.range' v (n - v)).map fun u => lenF n m (u + 1)).sum
theorem fillL_len (n : Nat) : ∀ m s v, (fillL n m s v).length = lenF n m v
  | 0, s, v => rfl
  | m + 1, s, v => by
    unfold fillL lenF
    rw [List.length_flatMap]
    congr 1
    apply List.map_congr_left
    intro u _
    exact fillL_len n m _ _
theorem setsTo_len (n k : Nat) : (setsTo n k).length = ((List.range k).map fun i => lenF n (i + 1) 0).sum := by
  unfold setsTo
  rw [List.length_flatMap]
  congr 1
  apply List.map_congr_left
  intro u _
  exact fillL_len n _ _ _
def lenAll : Bool := (List.range 13).all fun n => decide (((List.range n).map fun i => lenF n (i + 1) 0).sum ≤ 4095)
theorem lenAll_yes : lenAll = true := by kernel_rfl
theorem setsTo_le {n : Nat} (hn : n ≤ 12) : (setsTo n n).length ≤ 4095 := by
  rw [setsTo_len]
  have h := List.all_eq_true.1 (show (List.range 13).all _ = true from lenAll_yes) n (by simp; omega)
  simpa using h
structure LfI (w : World) (b n : Nat) (adj : Nat → Nat → Bool) (h : (Nat → Bool) → Bool) (L : List (Nat → Bool)) (k : Nat) (v : Value) (W : World) : Prop where
  g : GraphAt W b n adj
  t1 : W.heap[w.heap.size]? = some (.cells #[.pointer (some ⟨b, 0, none⟩)] 77 (0, 0))
  t3 : W.heap[w.heap.size + 1]? = some (.cells #[v] 99 (0, 0))
  row : W.ownsRow (w.heap.size + 7) 79 12 v L.length (encs12 L)
  t4 : W.heap[w.heap.size + 3]? = some (.cells #[.map (some (w.heap.size + 2))] 119 (0, 0))
  m : HoldsAt W (w.heap.size + 2) k h
  t9 : W.heap[w.heap.size + 4]? = some (.cells #[.pointer (some ⟨b, 0, none⟩)] 77 (0, 0))
  bw : Below w.heap.size w W
  sz : w.heap.size + 5 ≤ W.heap.size
theorem row_same {W W' : World} {B e s k : Nat} {v : Value} {xs : List Value} (h : W.ownsRow B e s v k xs) (hk : ∀ g, v.ownBlock = some g → W'.heap[g]? = W.heap[g]?) : W'.ownsRow B e s v k xs := by
  obtain ⟨h1, h2⟩ := h
  refine ⟨h1, ?_⟩
  rcases h2 with h2 | ⟨g, cap, cur, rfl, hg, hh, hr⟩
  · exact .inl h2
  · exact .inr ⟨g, cap, cur, rfl, hg, (hk g rfl).trans hh, hr⟩
/-- Wherever all that it speaks of lies as it lay. -/
theorem LfI.same {w W W' : World} {b n : Nat} {adj : Nat → Nat → Bool} {h : (Nat → Bool) → Bool} {L : List (Nat → Bool)} {k : Nat} {v : Value} (hI : LfI w b n adj h L k v W) (hgl : b < w.heap.size)
    (hb : Below w.heap.size W W') (ho : ∀ i, w.heap.size ≤ i → i < w.heap.size + 5 → W'.heap[i]? = W.heap[i]?) (hr : ∀ g, v.ownBlock = some g → W'.heap[g]? = W.heap[g]?) : LfI w b n adj h L k v W' :=
  ⟨hI.g.below hb hgl, (ho _ (by omega) (by omega)).trans hI.t1, (ho _ (by omega) (by omega)).trans hI.t3, row_same hI.row hr, (ho _ (by omega) (by omega)).trans hI.t4, hI.m.same (ho _ (by omega) (by omega)), (ho _ (by omega) (by omega)).trans hI.t9, hI.bw.trans hb, Nat.le_trans hI.sz hb.size⟩
theorem LfI.after {w W W' : World} {b n : Nat} {adj : Nat → Nat → Bool} {h : (Nat → Bool) → Bool} {L : List (Nat → Bool)} {k : Nat} {v : Value} (hI : LfI w b n adj h L k v W) (hgl : b < w.heap.size) (hb : Below W.heap.size W W') : LfI w b n adj h L k v W' :=
  hI.same hgl (hb.mono hI.bw.size) (fun i _ h2 => hb.block i (by have := hI.sz; omega)) (fun g hg => hb.block g (hI.row.lt g hg).2)
theorem LfI.keepsL {w W W' : World} {b n : Nat} {adj : Nat → Nat → Bool} {h : (Nat → Bool) → Bool} {L : List (Nat → Bool)} {k : Nat} {v : Value} (hI : LfI w b n adj h L k v W) (hgl : b < w.heap.size) (hk : Pv.KeepsL (w.heap.size + 5) Pq.none' W W') : LfI w b n adj h L k v W' := by
  have hsz := hI.sz
  have hn : ∀ k, k ≠ w.heap.size + 5 → k ≠ w.heap.size + 5 + 1 → ¬ (k = w.heap.size + 5 ∨ k = w.heap.size + 5 + 1 ∨ Pq.none' k) := fun k h1 h2 h => by
    rcases h with h | h | h
    · exact h1 h
    · exact h2 h
    · exact h
  refine hI.same hgl (Pv.KeepsV.below hk (fun k hk => by (rcases hk with h | h | h); (· omega); (· omega); (· exact h.elim)) (by omega)) (fun i h1 h2 => hk.block i (by omega) (hn _ (by omega) (by omega))) (fun g hg => ?_)
  have := hI.row.lt g hg
  exact hk.block g this.2 (hn _ (by omega) (by omega))
theorem LfI.mapped {w W W' : World} {b n : Nat} {adj : Nat → Nat → Bool} {h h' : (Nat → Bool) → Bool} {L : List (Nat → Bool)} {k k' : Nat} {v : Value} (hI : LfI w b n adj h L k v W) (hgl : b < w.heap.size) (hm : HoldsAt W' (w.heap.size + 2) k' h') (hg : W.grownBy W' (some (w.heap.size + 2))) : LfI w b n adj h' L k' v W' := by
  have hz := hI.sz
  have ho : ∀ i, i ≠ w.heap.size + 2 → i < W.heap.size → W'.heap[i]? = W.heap[i]? := fun i h1 h2 => hg.block i h2 (by simp; omega)
  have hb : Below w.heap.size W W' := ⟨hg.os, hg.tape, hg.output, hg.size, fun i hi => ho i (by omega) (by omega)⟩
  refine ⟨hI.g.below hb hgl, (ho _ (by omega) (by omega)).trans hI.t1, (ho _ (by omega) (by omega)).trans hI.t3, row_same hI.row (fun g hg' => ?_), (ho _ (by omega) (by omega)).trans hI.t4, hm, (ho _ (by omega) (by omega)).trans hI.t9, hI.bw.trans hb, Nat.le_trans hz hg.size⟩
  have := hI.row.lt g hg'
  exact ho g (by omega) this.2
theorem encs12_push (L : List (Nat → Bool)) (x : Nat → Bool) : encs12 (L ++ [x]) = encs12 L ++ (sc x).toList := by simp [encs12]
theorem LfI.push {w W W1 : World} {b n : Nat} {adj : Nat → Nat → Bool} {h : (Nat → Bool) → Bool} {L : List (Nat → Bool)} {k : Nat} {v v' : Value} {x : Nat → Bool} {o : Obj} (hI : LfI w b n adj h L k v W) (hgl : b < w.heap.size) (h7 : w.heap.size + 7 ≤ W.heap.size)
    (hrow : W1.ownsRow (w.heap.size + 7) 79 12 v' (L.length + 1) (encs12 L ++ (sc x).toList)) (hg : (W.alloc o).grownBy W1 v.ownBlock) : LfI w b n adj h (L ++ [x]) k v' (W1.setCell ⟨w.heap.size + 1, 0, none⟩ v') := by
  have hz := hI.sz
  have hgs := hg.size
  rw [World.size_alloc] at hgs
  have ho : ∀ i, i < w.heap.size + 7 → W1.heap[i]? = W.heap[i]? := fun i h2 => (hg.block i (by rw [World.size_alloc]; omega) (by
    intro e
    have := hI.row.lt i e.symm
    omega)).trans (Below.heap_alloc _ _ _ (by omega))
  have hs : ∀ i, i ≠ w.heap.size + 1 → (W1.setCell ⟨w.heap.size + 1, 0, none⟩ v').heap[i]? = W1.heap[i]? := fun i hi => Below.heap_setCell W1 ⟨w.heap.size + 1, 0, none⟩ v' i hi
  have hb : Below w.heap.size W (W1.setCell ⟨w.heap.size + 1, 0, none⟩ v') := ⟨hg.os, hg.tape, hg.output, by simp [World.setCell]; omega, fun i hi => (hs i (by omega)).trans (ho i (by omega))⟩
  refine ⟨hI.g.below hb hgl, (hs _ (by omega)).trans ((ho _ (by omega)).trans hI.t1), ?_, ?_, (hs _ (by omega)).trans ((ho _ (by omega)).trans hI.t4), hI.m.same ((hs _ (by omega)).trans (ho _ (by omega))), (hs _ (by omega)).trans ((ho _ (by omega)).trans hI.t9), hI.bw.trans hb, by simp [World.setCell]; omega⟩
  · have h3 := (ho (w.heap.size + 1) (by omega)).trans hI.t3
    rw [heap_set h3]; rfl
  · rw [encs12_push, List.length_append]
    refine row_same hrow (fun g hg' => hs g ?_)
    have := hrow.lt g hg'
    omega
theorem rdC {P : Program} {md : Region.Mode} {ops : Array Oper} {k : Nat} {o : Oper} {a : Act} {v : Value} {C : World → Prop} (h : ∀ W, C W → (execOp a.eval o).run P W = .ok (.value v) W) : Manyd.Tr P md ops (fun _ W => C W) k o a v := fun s W _ _ hC => by
  rw [h W hC]; exact ⟨rfl, hC⟩
theorem callC {P : Program} {md : Region.Mode} {ops : Array Oper} {k : Nat} {o : Oper} {a : Act} {v : Value} {C : World → Prop} {f : FuncId} {args : Array Value} (hc : ∀ W, C W → Calls P f args W fun e w' => e = .returned v ∧ C w') (h : ∀ W, C W → (execOp a.eval o).run P W = .ok (.enter f args) W) : Manyd.Tr P md ops (fun _ W => C W) k o a v := fun s W _ _ hC => by
  rw [h W hC]; exact hc W hC
theorem ty99 : Try.prog.underlying 99 = some (.slice 79) := by kernel_rfl
theorem info79 : (Try.prog.info? 79).map (fun i => (i.zero, i.size, i.bytes)) = some (some (.agg #[.bool false, .bool false, .bool false, .bool false, .bool false, .bool false, .bool false, .bool false, .bool false, .bool false, .bool false, .bool false]), 12, 12) := by kernel_rfl
theorem cell_set_new (w : World) (x : Nat → Bool) : ∀ j u, (sc x).toList[j]? = some u → (w.alloc (.cells (sc x) 79)).cell? ((⟨w.heap.size, 0, none⟩ : Addr).add j) = some u := by
  intro j u hj
  have hj2 : (sc x)[j]? = some u := by rw [← Array.getElem?_toList]; exact hj
  have h1 := World.alloc_heap_new w (.cells (sc x) 79)
  by_cases e : j = 0
  · subst e
    have e2 : (⟨w.heap.size, 0, none⟩ : Addr).add 0 = ⟨w.heap.size, 0, none⟩ := by simp [Addr.add]
    rw [e2]; simp only [World.cell?, h1]; exact hj2
  · have e2 : (⟨w.heap.size, 0, none⟩ : Addr).add j = ⟨w.heap.size, j, none⟩ := by simp [Addr.add, e]
    rw [e2]; simp only [World.cell?, h1]; exact hj2
theorem set_one (x : Nat → Bool) : ∀ u ∈ (sc x).toList, u.oneCell' = true := by
  intro u hu
  simp only [sc, List.mem_cons, List.not_mem_nil, or_false] at hu
  rcases hu with rfl | rfl | rfl | rfl | rfl | rfl | rfl | rfl | rfl | rfl | rfl | rfl <;> rfl
theorem stF_len0 (n : Nat) (adj : Nat → Nat → Bool) : ∀ (pre : List (Nat → Bool)) (st : Hst), (pre.foldl (stepF n adj) st).2.length ≤ st.2.length + pre.length
  | [], st => by simp
  | x :: l, st => by
    have h1 := stF_len0 n adj l (stepF n adj st x)
    have h2 := stepF_len n adj st x
    simp only [List.foldl_cons, List.length_cons]
    omega
theorem stF_len (n : Nat) (adj : Nat → Nat → Bool) (pre : List (Nat → Bool)) : (stF n adj pre).2.length ≤ pre.length := by
  have := stF_len0 n adj pre (fun _ => false, [])
  simpa [stF] using this
set_option maxHeartbeats 1000000 in
set_option maxRecDepth 100000 in
theorem leastForts_any {b n : Nat} {adj : Nat → Nat → Bool} {w : World} (hg : GraphAt w b n adj) (hn : n ≤ 12) :
    Calls Try.prog 71 #[.pointer (some ⟨b, 0, none⟩)] w fun e w' => ∃ v, e = .returned v ∧ w'.ownsRow w.heap.size 79 12 v (fortsOf n adj).length (encs12 (fortsOf n adj)) ∧ Below w.heap.size w w' := by
  have hmx : Try.prog.follows .mixedOrders = true := by kernel_rfl
  have hgl := hg.lt
  obtain ⟨wa, hwa⟩ : ∃ wa, w.alloc (.cells #[.pointer (some ⟨b, 0, none⟩)] 77) = wa := ⟨_, rfl⟩
  obtain ⟨wb, hwb⟩ : ∃ wb, wa.alloc (.cells #[.slice none 0 0] 99) = wb := ⟨_, rfl⟩
  obtain ⟨wm, hwm⟩ : ∃ wm, wb.alloc (.map #[] 0) = wm := ⟨_, rfl⟩
  obtain ⟨wc, hwc⟩ : ∃ wc, wm.alloc (.cells #[.map (some (w.heap.size + 1 + 1))] 119) = wc := ⟨_, rfl⟩
  obtain ⟨wd, hwd⟩ : ∃ wd, wc.alloc (.cells #[.pointer (some ⟨b, 0, none⟩)] 77) = wd := ⟨_, rfl⟩
  have sa : wa.heap.size = w.heap.size + 1 := by rw [← hwa]; simp
  have sb : wb.heap.size = w.heap.size + 1 + 1 := by rw [← hwb]; simp [sa]
  have sm : wm.heap.size = w.heap.size + 1 + 1 + 1 := by rw [← hwm]; simp [sb]
  have ss : wc.heap.size = w.heap.size + 4 := by rw [← hwc]; simp [sm]
  have sd : wd.heap.size = w.heap.size + 5 := by rw [← hwd]; simp [ss]
  have ba : Below w.heap.size w wa := by rw [← hwa]; exact (Below.refl _ _).alloc (Nat.le_refl _) _
  have bb : Below wa.heap.size wa wb := by rw [← hwb]; exact (Below.refl _ _).alloc (Nat.le_refl _) _
  have bm : Below wb.heap.size wb wm := by rw [← hwm]; exact (Below.refl _ _).alloc (Nat.le_refl _) _
  have bc : Below wm.heap.size wm wc := by rw [← hwc]; exact (Below.refl _ _).alloc (Nat.le_refl _) _
  have be : Below wc.heap.size wc wd := by rw [← hwd]; exact (Below.refl _ _).alloc (Nat.le_refl _) _
  have fa : wa.heap[w.heap.size]? = some (.cells #[.pointer (some ⟨b, 0, none⟩)] 77 (0, 0)) := by rw [← hwa]; exact World.alloc_heap_new w _
  have fb : wb.heap[w.heap.size + 1]? = some (.cells #[.slice none 0 0] 99 (0, 0)) := by rw [← sa, ← hwb]; exact World.alloc_heap_new wa _
  have fm : HoldsAt wm (w.heap.size + 2) 0 (fun _ => false) := by rw [show w.heap.size + 2 = wb.heap.size from sb.symm, ← hwm]; exact HoldsAt.made wb
  have fc : wc.heap[w.heap.size + 3]? = some (.cells #[.map (some (w.heap.size + 2))] 119 (0, 0)) := by rw [show w.heap.size + 3 = wm.heap.size from sm.symm, ← hwc]; exact World.alloc_heap_new wm _
  have fd : wd.heap[w.heap.size + 4]? = some (.cells #[.pointer (some ⟨b, 0, none⟩)] 77 (0, 0)) := by rw [← ss, ← hwd]; exact World.alloc_heap_new wc _
  have bce := bc.trans (be.mono bc.size)
  have bme := bm.trans (bce.mono bm.size)
  have bbe := bb.trans (bme.mono bb.size)
  have bw := ba.trans (bbe.mono ba.size)
  have hI : Keep (LfI w b n adj (stF n adj []).1 (stF n adj []).2 0 (.slice none 0 0) wd) := ⟨hg.below bw hgl, (bbe.block _ (by omega)).trans fa, (bme.block _ (by omega)).trans fb, World.ownsRow_nil _ _ _ _, (be.block _ (by omega)).trans fc, fm.same (bce.block _ (by omega)), fd, bw, by omega⟩
  have c1 : wc.cell? ⟨w.heap.size, 0, none⟩ = some (.pointer (some ⟨b, 0, none⟩)) := by simp [World.cell?, ((bb.trans ((bm.trans (bc.mono bm.size)).mono bb.size)).block _ (by omega)).trans fa]
  have q73 := fun w => sets_any (b := b) w
  have hwk := Keep.mk hwd
  have hmm := @run_makeMap Try.prog
  clear hwd ba bb bm bc be fa fb fm fc fd bce bme bbe bw hg
  refine (callsIn_wide (n := 0)).1 ?_
  refine callsIn_of_wp_marks Try.func71 rfl trivial ?_ rfl
  simp only [Try.ntmps71, List.size_toArray, List.length_cons, List.length_nil, Nat.reduceAdd, Nat.reduceSub, Array.replicate_succ, Array.replicate_zero, List.push_toArray, List.append_toArray, List.nil_append, List.cons_append]
  refine wpIn_wide.2 ?_
  go_wp2
  go_step3
  go_wp2
  try go_step3
  go_wp2_with (first
    | (go_at_call 73; (with_reducible refine (q73 _).mono ?_); rintro e w5 ⟨rfl, hw5⟩; rw [hw5]; clear hw5 w5))
  refine (wpIn_wide (n := 0)).1 ?_
  rw [hwk.out]
  clear hwk hwa hwb hwm hwc sa sb sm ss c1 q73 hmm
  obtain ⟨i0, hi0, hz0, hz1, hz2⟩ : ∃ i, Try.prog.info? 79 = some i ∧ i.zero = some (.agg #[.bool false, .bool false, .bool false, .bool false, .bool false, .bool false, .bool false, .bool false, .bool false, .bool false, .bool false, .bool false]) ∧ i.size = 12 ∧ i.bytes = 12 := by
    have h := info79
    cases hI : Try.prog.info? 79 with
    | none => rw [hI] at h; cases h
    | some i =>
      rw [hI] at h
      simp only [Option.map_some, Option.some.injEq, Prod.mk.injEq] at h
      exact ⟨i, rfl, h.1, h.2.1, h.2.2⟩
  have q62 := Keep.mk (fun (s : Nat → Bool) (W : World) => vertices_any s W)
  have q87 := Keep.mk (fun (s : Nat → Bool) (u : Nat) (hu : u < 12) (W : World) => without_any s u hu W)
  have q78 := Keep.mk (fun (s : Nat → Bool) (W : World) (h : GraphAt W b n adj) => isFort_any s h hn (Wt := dryS n s) (Fc := fround adj (dryS n s)) rfl rfl rfl rfl)
  refine Pq.range_givesW (gf := 88) (lb := #[.pointer (some ⟨w.heap.size + 4, 0, none⟩)]) rfl (enters_of Try.func88 (by kernel_rfl) rfl) (encs := encW) (xs := setsTo n n)
    (R := fun V => GraphAt V b n adj ∧ V.cell? ⟨w.heap.size + 4, 0, none⟩ = some (.pointer (some ⟨b, 0, none⟩))) (fun x => rfl) (fun W1' h1 hb1 => sets_gives hn W1')
    (fun _ _ => true) .ret .ret (.inl ⟨rfl, rfl⟩)
    (fun q pre V => ∃ k v, k ≤ pre.length ∧ (∀ g, v.ownBlock = some g → ¬ q g) ∧ LfI w b n adj (stF n adj pre).1 (stF n adj pre).2 k v V) (fun q pre V => ∃ k v, k ≤ pre.length ∧ (∀ g, v.ownBlock = some g → ¬ q g) ∧ LfI w b n adj (stF n adj pre).1 (stF n adj pre).2 k v V) ?_ ?_ ?_ ?_ ⟨0, _, Nat.le_refl _, fun g hg => (by cases hg), hI.out⟩
    (fun x a' V => ∃ g, a' = { tmps := #[.pointer (some ⟨b, 0, none⟩), .pointer (some ⟨w.heap.size, 0, none⟩), .slice none 0 0, .pointer (some ⟨w.heap.size + 1, 0, none⟩), .pointer (some ⟨w.heap.size + 1 + 1 + 1, 0, none⟩), .pointer (some ⟨g, 0, none⟩), undef, .map (some (w.heap.size + 1 + 1)), .pointer (some ⟨b, 0, none⟩), .func (.func 88) #[] #[.pointer (some ⟨w.heap.size + 4, 0, none⟩)], .agg #[.bool (x 0), .bool (x 1), .bool (x 2), .bool (x 3), .bool (x 4), .bool (x 5), .bool (x 6), .bool (x 7), .bool (x 8), .bool (x 9), .bool (x 10), .bool (x 11)], undef, undef, undef, undef, undef, undef, undef, undef, undef, undef, undef, undef, undef, undef, undef, undef, undef, undef, undef, undef], defers := [] } ∧ SetAt V g x ∧ w.heap.size + 7 ≤ g)
    ?_ ?assign ?body ?done ?stop
  · rintro q q' pre V V' ⟨k, v, h1, h2, h3⟩ hk hm
    rw [sd] at hk
    exact ⟨k, v, h1, fun g hg hq => (hm g hq).elim (h2 g hg) (fun h => by have := (h3.row.lt g hg).2; omega), h3.keepsL hgl hk⟩
  · rintro q q' pre V V' ⟨k, v, h1, h2, h3⟩ hk hm
    rw [sd] at hk
    exact ⟨k, v, h1, fun g hg hq => (hm g hq).elim (h2 g hg) (fun h => by have := (h3.row.lt g hg).2; omega), h3.keepsL hgl hk⟩
  · rintro q pre V ⟨k, v, h1, h2, h3⟩; exact ⟨h3.g, by simp [World.cell?, h3.t9]⟩
  · rintro q pre V ⟨k, v, h1, h2, h3⟩; exact ⟨h3.g, by simp [World.cell?, h3.t9]⟩
  · rintro x a' V V' ⟨g, rfl, h1, h2⟩ hs hk
    rw [sd] at hk
    exact ⟨g, rfl, (hk.block g h1.lt (by rintro (h | h | h); (· omega); (· omega); (· exact h))).trans h1, h2⟩
  case assign =>
    intro l2 q pre x V K hi hsz2 hK
    obtain ⟨V1, hV1⟩ : ∃ V1, V.alloc (.cells (sc x) 79) = V1 := ⟨_, rfl⟩
    have hb1 : Below V.heap.size V V1 := by rw [← hV1]; exact (Below.refl _ _).alloc (Nat.le_refl _) _
    have hn1 : SetAt V1 V.heap.size x := by rw [← hV1]; exact SetAt.new _ _
    unfold encW setV
    unfold sc at hV1 ⊢
    gi_wp2
    try rw [hV1]
    exact hK _ _ hb1 ⟨V.heap.size, rfl, hn1, by omega⟩
  case body =>
    rintro l2 qs pre x a' V ⟨k, v, hk, hvq, hi⟩ hqb ⟨g, rfl, hg', hg6⟩ hsz2 ⟨post, hpost⟩ hl2 ⟨rl, hrl⟩
    have hkl : k ≤ 4095 := by
      have h1 := setsTo_le hn
      rw [hpost] at h1
      simp at h1; omega
    have hLl := stF_len n adj pre
    rw [stF_snoc]
    obtain ⟨h, hh⟩ : ∃ h, (stF n adj pre).1 = h := ⟨_, rfl⟩
    obtain ⟨L, hL⟩ : ∃ L, (stF n adj pre).2 = L := ⟨_, rfl⟩
    rw [hh, hL] at hi
    rw [hL] at hLl
    obtain ⟨N, hN⟩ : ∃ N, pre.length = N := ⟨_, rfl⟩
    have hN1 : (pre ++ [x]).length = N + 1 := by simp [hN]
    rw [hN1]
    rw [hN] at hk hLl
    have hN2 : N ≤ 4095 := by
      have h1 := setsTo_le hn
      rw [hpost] at h1
      simp at h1; omega
    obtain ⟨st', hst'⟩ : ∃ st', stepF n adj (stF n adj pre) x = st' := ⟨_, rfl⟩
    rw [hst']
    unfold stepF at hst'
    rw [hh, hL] at hst'
    clear hpost hI
    obtain ⟨c0, c1, c2, c3, c4, c5, c6, c7, c8, c9, c10, c11⟩ := hg'.c12
    obtain ⟨V1, hV1⟩ : ∃ V1, V.alloc (.cells (sc x) 79) = V1 := ⟨_, rfl⟩
    have hb1 : Below V.heap.size V V1 := by rw [← hV1]; exact (Below.refl _ _).alloc (Nat.le_refl _) _
    have hs1 : V1.heap.size = V.heap.size + 1 := by rw [← hV1]; simp
    have hn1 : SetAt V1 V.heap.size x := by rw [← hV1]; exact SetAt.new _ _
    have q := q62.out x V
    rw [hV1] at q
    have hk1 := Keep.mk (And.intro hb1 (And.intro hs1 (And.intro hn1 (And.intro hi hg'))))
    clear hb1 hs1 hn1 hi hg' hV1
    unfold setV sc at q
    gi_wp2_with (first
      | (refine ⟨trivial, rfl, ?_⟩; gi_at_call 62; refine (CallsIn.inRound l2 (callsIn_wide.2 q)).mono ?_; rintro e V5 ⟨rfl, hV5⟩; rw [hV5]; clear hV5 V5))
    obtain ⟨hb1, hs1, hn1, hi, hg'⟩ := hk1.out
    have hi1 := hi.after hgl hb1
    have hg1 := hg'.after hb1
    have hzz := hi.sz
    refine Nst.range_givesN (l₀ := l2) (r₀ := rl) ((hb1.block _ (by omega)).trans hrl) (gf := 83) (lb := #[.pointer (some ⟨V.heap.size, 0, none⟩)]) rfl (enters_of Try.func83 (by kernel_rfl) rfl) (encs := encK) (xs := vsTo x 12)
      (R := fun U => SetAt U V.heap.size x) (fun u => rfl) (fun W1' _ _ => vertices_gives W1')
      (fun _ u => !(h (woS x u))) (.exit 1) (.exit 1) (.inr ⟨1, rfl, rfl⟩)
      (fun us U => Below V1.heap.size V1 U) (fun us U => SetAt U V.heap.size x ∧ LfI w b n adj (addH h x) L (k + 1) v U ∧ V1.heap.size ≤ U.heap.size ∧ (∀ i, i < V1.heap.size → i ≠ w.heap.size + 2 → U.heap[i]? = V1.heap[i]?) ∧ U.os = V1.os ∧ U.tape = V1.tape ∧ U.output = V1.output)
      ?_ ?olds (fun us U hU => hn1.below hU hn1.lt) (fun us U hU => hU.1) (Below.refl _ _)
      (fun u a' U => a' = { tmps := #[.pointer (some ⟨b, 0, none⟩), .pointer (some ⟨w.heap.size, 0, none⟩), .slice none 0 0, .pointer (some ⟨w.heap.size + 1, 0, none⟩), .pointer (some ⟨w.heap.size + 1 + 1 + 1, 0, none⟩), .pointer (some ⟨g, 0, none⟩), .int .i64 (u : Nat), .map (some (w.heap.size + 1 + 1)), .pointer (some ⟨b, 0, none⟩), .func (.func 88) #[] #[.pointer (some ⟨w.heap.size + 4, 0, none⟩)], .agg #[.bool (x 0), .bool (x 1), .bool (x 2), .bool (x 3), .bool (x 4), .bool (x 5), .bool (x 6), .bool (x 7), .bool (x 8), .bool (x 9), .bool (x 10), .bool (x 11)], .agg #[.bool (x 0), .bool (x 1), .bool (x 2), .bool (x 3), .bool (x 4), .bool (x 5), .bool (x 6), .bool (x 7), .bool (x 8), .bool (x 9), .bool (x 10), .bool (x 11)], .func (.func 83) #[] #[.pointer (some ⟨V.heap.size, 0, none⟩)], .int .i64 (u : Nat), undef, undef, undef, undef, undef, undef, undef, undef, undef, undef, undef, undef, undef, undef, undef, undef, undef], defers := [] })
      ?_ ?assign2 ?body2 ?done2 ?stop2
    · intro us U U' hU hb; exact hU.trans hb
    case olds =>
      rintro us U U' ⟨u1, u2, u3, u4, u5, u6, u7⟩ hb
      have hb' : Below w.heap.size U U' := hb.mono (by omega)
      refine ⟨u1.below hb hn1.lt, u2.same hgl hb' (fun i _ h2 => hb.block i (by omega)) (fun g2 hg2 => hb.block g2 (by have := (hi1.row.lt g2 hg2).2; omega)), Nat.le_trans u3 hb.size, fun i h1 h2 => (hb.block i h1).trans (u4 i h1 h2), hb.os.trans u5, hb.tape.trans u6, hb.output.trans u7⟩
    · rintro u a' U U' hU _; exact hU
    case assign2 =>
      intro l3 us u U K hU hsz3 hK
      unfold encK
      gi_wp2
      exact hK _ _ (Below.refl U.heap.size U) (by first | rfl | simp)
    case body2 =>
      rintro l3 us u a' U hU rfl hsz3 ⟨post2, hpost2⟩
      have hu : u < 12 := (vsTo_lt (s := x) (k := 12) (by rw [hpost2]; simp)).1
      have hiU := hi1.after hgl hU
      have hgU := hg1.after hU
      have qw := q87.out x u hu
      rw [show (fun j => if j = u then false else x j) = woS x u from rfl] at qw
      obtain ⟨D, hD⟩ : ∃ D, woS x u = D := ⟨_, rfl⟩
      rw [hD] at qw ⊢
      obtain ⟨z, hz⟩ : ∃ z, h D = z := ⟨_, rfl⟩
      rw [hz]
      obtain ⟨CX, hCX⟩ : ∃ CX : World → Prop, CX = fun W => Below U.heap.size U W := ⟨_, rfl⟩
      have hCa : ∀ W W', CX W → Below W.heap.size W W' → CX W' := fun W W' h1 hb => by rw [hCX] at h1 ⊢; exact h1.trans (hb.mono h1.size)
      have hC0 : CX U.drew := by rw [hCX]; exact (Below.refl _ _).drew
      have hC4 : ∀ W, CX W → W.cell? ⟨w.heap.size + 1 + 1 + 1, 0, none⟩ = some (.map (some (w.heap.size + 1 + 1))) := fun W h1 => by rw [hCX] at h1; simp [World.cell?, (hiU.after hgl h1).t4]
      have hC5 : ∀ W, CX W → Cells12 W g x := fun W h1 => by rw [hCX] at h1; exact (hgU.after h1).c12
      have hCl : ∀ W, CX W → (Instr.lookup 119 (.map (some (w.heap.size + 1 + 1))) (setV D) false).run Try.prog W = .ok (.bool z) W := fun W h1 => by rw [hCX] at h1; rw [← hz]; exact (hiU.after hgl h1).m.look D
      have hCf : ∀ W, CX W → Keep (Below U.heap.size U W) := fun W h1 => by rw [hCX] at h1; exact ⟨h1⟩
      have hkk := Keep.mk (And.intro hiU (And.intro hgU (And.intro hU hn1)))
      have hk5 := Keep.mk (And.intro hi1 (And.intro hg1 hzz))
      clear hiU hgU hU hn1 hi1 hg1 hzz hi hg' hb1 hCX hk1
      unfold setV sc at qw hCl
      gi_wp2
      refine Manyd.region_round (fun _ W => CX W) hmx (by kernel_rfl) (by kernel_rfl) (fun s s' W h1 hc => hc) (fun s hs => hC0) ?_
      refine Manyd.lex_want (by rfl) (rdC (v := .map (some (w.heap.size + 1 + 1))) (fun W h1 => by have c4 := hC4 W h1; clear h1; go_simp; (try rfl))) ?_
      simp only [Act.put, List.setIfInBounds_toArray, List.set_cons_succ, List.set_cons_zero, Nat.reduceAdd]
      refine Manyd.lex_want (by rfl) (rdC (v := .agg #[.bool (x 0), .bool (x 1), .bool (x 2), .bool (x 3), .bool (x 4), .bool (x 5), .bool (x 6), .bool (x 7), .bool (x 8), .bool (x 9), .bool (x 10), .bool (x 11)]) (fun W h1 => by
        obtain ⟨e0, e1, e2, e3, e4, e5, e6, e7, e8, e9, e10, e11⟩ := hC5 W h1
        clear h1; go_simp; (try rfl))) ?_
      simp only [Act.put, List.setIfInBounds_toArray, List.set_cons_succ, List.set_cons_zero, Nat.reduceAdd]
      refine Manyd.lex_want (by rfl) (rdC (v := .int .i64 (u : Nat)) (fun W h1 => by clear h1; go_simp; (try rfl))) ?_
      simp only [Act.put, List.setIfInBounds_toArray, List.set_cons_succ, List.set_cons_zero, Nat.reduceAdd]
      refine Manyd.lex_want (by rfl) (callC (v := .agg #[.bool (D 0), .bool (D 1), .bool (D 2), .bool (D 3), .bool (D 4), .bool (D 5), .bool (D 6), .bool (D 7), .bool (D 8), .bool (D 9), .bool (D 10), .bool (D 11)]) (f := 87) (args := #[.agg #[.bool (x 0), .bool (x 1), .bool (x 2), .bool (x 3), .bool (x 4), .bool (x 5), .bool (x 6), .bool (x 7), .bool (x 8), .bool (x 9), .bool (x 10), .bool (x 11)], .int .i64 (u : Nat)]) (fun W h1 => (qw W).mono fun e W' hw => ⟨hw.1, hCa _ _ h1 hw.2⟩) (fun W h1 => by clear h1; go_simp; try rfl)) ?_
      simp only [Act.put, List.setIfInBounds_toArray, List.set_cons_succ, List.set_cons_zero, Nat.reduceAdd]
      refine Manyd.lex_want (by rfl) (rdC (v := .bool z) (fun W h1 => by have cl := hCl W h1; clear h1; go_simp; (try rfl))) ?_
      simp only [Act.put, List.setIfInBounds_toArray, List.set_cons_succ, List.set_cons_zero, Nat.reduceAdd]
      refine Manyd.lex_nil fun s9 W4 hs9 hS4 => ?_
      have hf4 := hCf _ hS4
      clear hCf
      cases z with
      | false =>
        clear hS4
        gi_wp2
        obtain ⟨hiU, hgU, hU, hn1⟩ := hkk.out
        exact ⟨by rw [← hs1]; exact hU.trans (hf4.out.mono hU.size), From.of_below hf4.out (Nat.le_refl _), hf4.out.os, hf4.out.tape, hf4.out.output⟩
      | true =>
        have c4 := hC4 W4 hS4
        obtain ⟨e0, e1, e2, e3, e4, e5, e6, e7, e8, e9, e10, e11⟩ := hC5 W4 hS4
        clear hS4 hCl hC5 hC4 hCa hC0 qw
        have hi4 := hkk.out.1.after hgl hf4.out
        have hi4k := Keep.mk hi4
        have hm4 := hi4.m
        clear hi4
        gi_wp2_with (gi_at_mapUpdate; refine HoldsAt.put (k := k) (h := h) hm4 (by omega) x rfl _ _ _ rfl rfl rfl rfl ?_; intro W9 hm9 hgr9)
        obtain ⟨hiU, hgU, hU, hn1⟩ := hkk.out
        have hzU := hU.size
        have hz4 := hf4.out.size
        have hz9 := hgr9.size
        have hzw := hk5.out.2.2
        have e9 : ∀ i, i < U.heap.size → i ≠ w.heap.size + 2 → W9.heap[i]? = U.heap[i]? := fun i h1 h2 => (hgr9.block i (by omega) (by simp; omega)).trans (hf4.out.block i h1)
        refine ⟨⟨(e9 _ (by omega) (by omega)).trans (hn1.below hU (by omega)), hi4k.out.mapped hgl hm9 hgr9, by omega, fun i h1 h2 => (e9 i (by omega) h2).trans (hU.block i (by omega)), hgr9.os.trans (hf4.out.os.trans hU.os), hgr9.tape.trans (hf4.out.tape.trans hU.tape), hgr9.output.trans (hf4.out.output.trans hU.output)⟩, ⟨by omega, fun i h1 h2 => e9 i h2 (by omega)⟩, hgr9.os.trans hf4.out.os, hgr9.tape.trans hf4.out.tape, hgr9.output.trans hf4.out.output⟩
    case done2 =>
      intro U hU hgo hsz3
      have hany : ((vsTo x 12).any fun u => h (woS x u)) = false := by
        rw [List.any_eq_false]
        intro u hu
        obtain ⟨a, c, e⟩ := List.append_of_mem hu
        have := hgo a u c e
        simpa using this
      rw [hany] at hst'
      simp only [Bool.false_eq_true, if_false] at hst'
      have hiU := hi1.after hgl hU
      have hgU := hg1.after hU
      have q7 := q78.out x U hiU.g
      rw [show (!(eqb x fun _ => false) && eqb (fround adj (dryS n x)) (dryS n x)) = isF n adj x from rfl] at q7
      obtain ⟨z, hz⟩ : ∃ z, isF n adj x = z := ⟨_, rfl⟩
      rw [hz] at q7 hst'
      have c1 : U.cell? ⟨w.heap.size, 0, none⟩ = some (.pointer (some ⟨b, 0, none⟩)) := by simp [World.cell?, hiU.t1]
      obtain ⟨d0, d1, d2, d3, d4, d5, d6, d7, d8, d9, d10, d11⟩ := hgU.c12
      have hkk := Keep.mk (And.intro hiU (And.intro hgU hU))
      have hbV := hb1
      have hzV : w.heap.size + 7 ≤ V.heap.size := by omega
      have hbk := Keep.mk (And.intro hb1 (And.intro hzV hsz2))
      unfold setV sc at q7
      clear hiU hgU hU hi1 hg1 hi hg' hb1 hbV hn1 hk1 hgo hany hz
      cases z with
      | false =>
        simp only [Bool.false_eq_true, if_false] at hst'
        gi_wp2_with (first
          | (refine ⟨trivial, rfl, ?_⟩; gi_at_call 78; refine (CallsIn.inRound l2 (callsIn_wide.2 q7)).mono ?_; rintro e V5 ⟨rfl, hb5⟩; have hb5k := Keep.mk hb5; clear hb5))
        obtain ⟨hiU, hgU, hU⟩ := hkk.out
        have hb5 := hb5k.out
        have hbA := (hbk.out.1.trans (hU.mono (by omega))).trans (hb5.mono (by have := hU.size; omega))
        subst hst'
        rw [hh, hL]
        exact ⟨⟨k, by omega, v, hvq, hiU.after hgl hb5⟩, ⟨hbA.size, hbA.block _ (by omega), hbA.block _ (by omega), fun j hj => hbA.block j (hqb j hj).2⟩, hbA.os, hbA.tape, hbA.output⟩
      | true =>
        simp only [if_true] at hst'
        gi_wp2_with (first
          | (refine ⟨trivial, rfl, ?_⟩; gi_at_call 78; refine (CallsIn.inRound l2 (callsIn_wide.2 q7)).mono ?_; rintro e V5 ⟨rfl, hb5⟩
             have hi5 := hkk.out.1.after hgl hb5
             have hg5 := hkk.out.2.1.after hb5
             have c4 : V5.cell? ⟨w.heap.size + 1 + 1 + 1, 0, none⟩ = some (.map (some (w.heap.size + 1 + 1))) := by simp [World.cell?, hi5.t4]
             obtain ⟨e0, e1, e2, e3, e4, e5, e6, e7, e8, e9, e10, e11⟩ := hg5.c12
             have hm5 := hi5.m
             have hb5k := Keep.mk (And.intro hb5 (And.intro hi5 hg5))
             clear hb5 hi5 hg5)
          | (gi_at_mapUpdate; refine HoldsAt.put (k := k) (h := h) hm5 (by omega) x rfl _ _ _ rfl rfl rfl rfl ?_; intro W9 hm9 hgr9
             have hi9 := hb5k.out.2.1.mapped hgl hm9 hgr9
             have hg9 : SetAt W9 g x := (hgr9.block g hb5k.out.2.2.lt (by simp; omega)).trans hb5k.out.2.2
             have c3 : W9.cell? ⟨w.heap.size + 1, 0, none⟩ = some v := by simp [World.cell?, hi9.t3]
             have f3 : W9.frozen? ⟨w.heap.size + 1, 0, none⟩ = false := by simp [World.frozen?, hi9.t3]
             obtain ⟨y0, y1, y2, y3, y4, y5, y6, y7, y8, y9, y10, y11⟩ := hg9.c12
             have h9k := Keep.mk (And.intro hi9 (And.intro hg9 hgr9))
             clear hi9 hg9 hgr9 hm9)
          | (gi_at_builtin; refine wpListIn_append_own_at _ rfl _ _ 99 rfl (w.heap.size + 7) 79 i0 (.agg #[.bool false, .bool false, .bool false, .bool false, .bool false, .bool false, .bool false, .bool false, .bool false, .bool false, .bool false, .bool false]) 12 12 ty99 hi0 hz0 hz1 hz2 rfl (by decide) v L.length (encs12 L) rfl (h9k.out.1.row.alloc _) ⟨W9.heap.size, 0, none⟩ 1 1 (sc x).toList rfl rfl (cell_set_new W9 x) (set_one x) (by unfold maxLen; omega) (by omega) (by have := h9k.out.1.row; have := h9k.out.2.2.size; have := hb5k.out.1.size; have := hkk.out.2.2.size; simp; omega) ?_; intro v' w1 hown hgrow _ hblk
             have hpu := h9k.out.1.push hgl (by have := h9k.out.2.2.size; have := hb5k.out.1.size; have := hkk.out.2.2.size; omega) hown hgrow
             have hv' := hown.lt
             have hst3 : w1.heap[w.heap.size + 1]? = some (.cells #[v] 99 (0, 0)) := (hgrow.block _ (by have := h9k.out.1.sz; simp; omega) (by intro e; have := (h9k.out.1.row.lt _ e.symm).1; omega)).trans ((Below.heap_alloc _ _ _ (by have := h9k.out.1.sz; omega)).trans h9k.out.1.t3)
             have c10 : w1.cell? ⟨w.heap.size + 1, 0, none⟩ = some v := by simp [World.cell?, hst3]
             have f10 : w1.frozen? ⟨w.heap.size + 1, 0, none⟩ = false := by simp [World.frozen?, hst3]
             obtain ⟨g', cap', rfl⟩ := ownsRow_succ hown
             have h10k := Keep.mk (And.intro hpu (And.intro hblk (And.intro hgrow hv')))
             clear hst3 hpu hown hgrow hblk hv'))
        obtain ⟨hpu, hblk, hgrow, hv'⟩ := h10k.out
        obtain ⟨hi9, hg9, hgr9⟩ := h9k.out
        obtain ⟨hb5, hi5, hg5⟩ := hb5k.out
        obtain ⟨hiU, hgU, hU⟩ := hkk.out
        obtain ⟨hb1, hzV, -⟩ := hbk.out
        have z1 := hb1.size
        have z2 := hU.size
        have z3 := hb5.size
        have z4 := hgr9.size
        have z5 := hgrow.size
        rw [World.size_alloc] at z5
        have hrw : ∀ i, i < V.heap.size → i ≠ w.heap.size + 2 → i ≠ w.heap.size + 1 → v.ownBlock ≠ some i → (w1.setCell ⟨w.heap.size + 1, 0, none⟩ (.slice (some ⟨g', 0, none⟩) (L.length + 1) cap')).heap[i]? = V.heap[i]? := fun i h1 h2 h3 h4 =>
          (Below.heap_setCell w1 ⟨w.heap.size + 1, 0, none⟩ _ i h3).trans ((hgrow.block i (by rw [World.size_alloc]; omega) (fun e => h4 e.symm)).trans ((Below.heap_alloc _ _ _ (by omega)).trans ((hgr9.block i (by omega) (by simp; omega)).trans ((hb5.block i (by omega)).trans ((hU.block i (by omega)).trans (hb1.block i h1))))))
        have hrow := hi9.row
        have hlo : ∀ i, i < w.heap.size + 7 → v.ownBlock ≠ some i := fun i hi e => by have := (hrow.lt i e).1; omega
        subst hst'
        refine ⟨⟨k + 1, by omega, _, ?_, hpu⟩, ⟨by omega, hrw _ (by omega) (by omega) (by omega) (hlo _ (by omega)), hrw _ (by omega) (by omega) (by omega) (hlo _ (by omega)), fun j hj => hrw j (hqb j hj).2 (by have := (hqb j hj).1; omega) (by have := (hqb j hj).1; omega) (fun e => hvq j e hj)⟩, hgrow.os.trans (hgr9.os.trans (hb5.os.trans (hU.os.trans hb1.os))), hgrow.tape.trans (hgr9.tape.trans (hb5.tape.trans (hU.tape.trans hb1.tape))), hgrow.output.trans (hgr9.output.trans (hb5.output.trans (hU.output.trans hb1.output)))⟩
        intro j hj hq
        rcases hblk with e | e
        · rw [e] at hj; exact hvq j hj hq
        · rw [e] at hj
          simp at hj
          have := (hqb j hq).2
          omega
    case stop2 =>
      rintro U p u post2 hx hgo hf ⟨hU1, hiU, hzU, hoU, o1, o2, o3⟩ hsz3
      have hany : ((vsTo x 12).any fun u => h (woS x u)) = true := by
        rw [hx, List.any_append]
        simp at hf
        simp [hf]
      rw [hany] at hst'
      simp only [if_true] at hst'
      subst hst'
      have hok := Keep.mk (And.intro o1 (And.intro o2 o3))
      clear o1 o2 o3
      gi_wp2
      obtain ⟨o1, o2, o3⟩ := hok.out
      have hrw : ∀ i, i < V.heap.size → i ≠ w.heap.size + 2 → U.heap[i]? = V.heap[i]? := fun i h1 h2 => (hoU i (by omega) h2).trans (hb1.block i h1)
      exact ⟨⟨k + 1, by omega, v, hvq, hiU⟩, ⟨by omega, hrw _ (by omega) (by omega), hrw _ (by omega) (by omega), fun j hj => hrw j (hqb j hj).2 (by have := (hqb j hj).1; omega)⟩, o1.trans hb1.os, o2.trans hb1.tape, o3.trans hb1.output⟩
  case done =>
    rintro q V ⟨k, v, h1, h2, h3⟩ hgo hsz2 hD
    have c3 : V.cell? ⟨w.heap.size + 1, 0, none⟩ = some v := by simp [World.cell?, h3.t3]
    have hik := Keep.mk (And.intro h3 hD)
    clear h3 hD hI
    gi_wp2
    go_wp2
    obtain ⟨h3, hD⟩ := hik.out
    have hz := h3.sz
    rw [Exit.noGoto_ret]
    show bodyPostM Fence.wide 0 Try.prog Try.f71 _ Exit.ret _ _
    refine Qr.leaves_mark hD fun w' hk => ⟨v, by simp [results, Try.results71, go_sem], v, rfl, ?_, h3.bw.trans (hk.below (by omega) (by omega))⟩
    have h := row_same h3.row (W' := w') (fun g hg => hk.block g (h3.row.lt g hg).2 (by have := (h3.row.lt g hg).1; omega) (by have := (h3.row.lt g hg).1; omega))
    obtain ⟨h1, h2⟩ := h
    unfold fortsOf
    refine ⟨h1, ?_⟩
    rcases h2 with h2 | ⟨g, cap, cur, rfl, hg, hr⟩
    · exact .inl h2
    · exact .inr ⟨g, cap, cur, rfl, by omega, hr⟩
  case stop =>
    intro q V p x post _ _ h
    cases h
end Go.Proofs.Yteekigpdiklppaa
