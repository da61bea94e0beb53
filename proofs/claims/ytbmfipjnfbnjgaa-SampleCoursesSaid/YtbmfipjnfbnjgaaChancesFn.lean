import Derived.Test.YtbmfipjnfbnjgaaCourseFn
import Derived.Test.YtbmfipjnfbnjgaaCurve
import Derived.Test.YtbmfipjnfbnjgaaCutMath
import Derived.Test.YtbmfipjnfbnjgaaSeqI
set_option linter.unusedSimpArgs false
set_option linter.unusedVariables false
namespace Go.Proofs.Ytbmfipjnfbnjgaa
open Go Go.Proofs Go.RowKit Go.Sample Go.Seq
set_option maxRecDepth 100000 in
theorem bounds_givesQ {b : Nat} {c : Crs} (hL : c.L ≤ 1000) (W1 : World) :
    Qr.GivesQ Try.prog 72 #[.pointer (some ⟨b, 0, none⟩)] encB (bnds c) (fun W => CrsBox W b c) W1 := by
  intro l J hJ hR hY h0
  have hmx : Try.prog.follows .mixedOrders = true := by kernel_rfl
  obtain ⟨⟨k0, k1, _, _⟩, hin⟩ := hR _ _ h0
  unfold Crs.sa at k0
  unfold Crs.sr at k1
  refine callsIn_of_wp Try.func72 rfl trivial ?_ rfl
  simp only [Try.ntmps72, List.size_toArray, List.length_cons, List.length_nil, Nat.reduceAdd, Nat.reduceSub, Array.replicate_succ, Array.replicate_zero, List.push_toArray, List.append_toArray, List.nil_append, List.cons_append]
  gi_wp2
  gi_loopw [7] (fun i wr => ∃ k : Nat, k ≤ c.L ∧ i = .int .i64 k ∧ J (bndTo c k) wr ∧ W1.heap.size ≤ wr.heap.size) (fun i _ => c.L - (intOf i).toNat)
  case atStart => exact ⟨0, by omega, rfl, by simpa [bndTo] using h0, by simp⟩
  case round =>
    obtain ⟨k, hk, rfl, hj, hsz⟩ := hrel
    have hw1 : IntKind.i64.wrap ((k : Int) + 1) = (k : Int) + 1 := IntWalk.i64_in _ (by omega)
    by_cases hlt : k < c.L
    · have hlt' : (k : Int) < (c.L : Int) := by omega
      gi_wp2
      refine region_pivot 14 (fun b' w => J (if b' then bndTo c (k + 1) else bndTo c k) w ∧ W1.heap.size ≤ w.heap.size) hmx (by kernel_rfl) (by simp) ?_ ?_
      · exact ⟨hJ _ _ _ (by simpa using hj) ((Below.refl _ _).drew), hsz⟩
      have hCR : ∀ b' w, (J (if b' = true then bndTo c (k + 1) else bndTo c k) w ∧ W1.heap.size ≤ w.heap.size) → CrsBox w b c := fun b' w h => hR _ _ h.1
      have step : ∀ {i : Nat} {o : Oper} {a : Act} {v : Value}, (i == 14) = false → (∀ w, CrsBox w b c → (execOp a.eval o).run Try.prog w = .ok (.value v) w) → Tr Try.prog (fun b' w => J (if b' then bndTo c (k + 1) else bndTo c k) w ∧ W1.heap.size ≤ w.heap.size) 14 i o a v :=
        fun hi h => tr_read (fun W => CrsBox W b c) hi hCR h
      iterate 14
        (refine lex_want (by rfl) (step (by rfl) (fun w ⟨⟨k0, k1, _, _⟩, hin⟩ => (by
            have a1 := hin.las k hlt
            have r1 := hin.lrs k hlt
            unfold Crs.sa at k0
            unfold Crs.sr at k1
            go_simp
            try first | rfl | (rw [if_pos (by omega)])))) ?_
         simp only [Act.put, List.setIfInBounds_toArray, List.set_cons_succ, List.set_cons_zero, Nat.reduceAdd])
      refine lex_want (by rfl) (tr_yield (v := .bool true) (l := l) (args := encB (bndAt c k)) (by rfl) (fun w hC => ?_) (fun w => (by unfold encB bndAt; go_simp))) ?_
      · refine (hY (bndTo c k) (bndAt c k) w (by simpa using hC.1) hC.2 (bndTo_rest c hlt)).mono fun e w' h => ⟨h.1, by rw [if_pos rfl, bndTo_succ]; exact h.2.1, Nat.le_trans hC.2 h.2.2.1⟩
      simp only [Act.put, List.setIfInBounds_toArray, List.set_cons_succ, List.set_cons_zero, Nat.reduceAdd]
      refine lex_want (by rfl) (step (by rfl) (fun w _ => (by go_simp; try rfl))) ?_
      simp only [Act.put, List.setIfInBounds_toArray, List.set_cons_succ, List.set_cons_zero, Nat.reduceAdd]
      refine lex_nil fun w' ⟨hJ', hs'⟩ => ?_
      have hJ' : J (bndTo c (k + 1)) w' := by simpa using hJ'
      gi_wp2
      exact ⟨⟨k + 1, by omega, by go_num, hJ', hs'⟩, by simp [intOf]; omega⟩
    · have : k = c.L := by omega
      subst this
      gi_wp2
      go_end0
      exact ⟨⟨_, rfl⟩, hj, hsz⟩
/-- A row of fractions. -/
def frL (f : Nat → Nat) (X : Nat) : Nat → List Value
  | 0 => []
  | k + 1 => frL f X k ++ [.int .i64 (rN (f k) X : Nat), .int .i64 (rD (f k) X : Nat)]
theorem frL_len (f : Nat → Nat) (X : Nat) : ∀ k, (frL f X k).length = k * 2
  | 0 => rfl
  | k + 1 => by simp [frL, frL_len f X k]; omega
/-- GEN: what Chances works with. -/
structure Ctx where
  w : World
  N : Nat
  d : Nat
  b : Nat
  t9 : Nat
  t11 : Nat
  tb : Nat
  n : Nat
  c : Crs
def Ctx.X (x : Ctx) : Nat := ch x.N x.d
structure ChF (x : Ctx) (W : World) : Prop where
  P : Pieces W x.b x.N
  c4 : W.cell? ⟨x.w.heap.size, 0, none⟩ = some (.int .i64 x.d)
  c9 : W.cell? ⟨x.t9, 0, none⟩ = some (.pointer (some ⟨x.b, 0, none⟩))
  e : NumsAt W x.t11 74 114 (tabE x.N x.d x.c.A x.c.R x.c.L 0)
  ib : CrsBox W x.tb x.c
  bw : Below x.w.heap.size x.w W
structure ChLt (x : Ctx) (q : Nat) : Prop where
  b : x.b < x.n ∧ x.b ≠ q
  w : x.w.heap.size < x.n ∧ x.w.heap.size ≤ q ∧ x.w.heap.size ≠ q
  t9 : x.t9 < x.n ∧ x.t9 ≠ q
  t11 : x.t11 < x.n ∧ x.t11 ≠ q
  tb : x.tb < x.n ∧ x.tb ≠ q
  ga : x.c.ga < x.n ∧ x.c.ga ≠ q
  gr : x.c.gr < x.n ∧ x.c.gr ≠ q
structure Kp (n q : Nat) (W W' : World) : Prop where
  os : W'.os = W.os
  tape : W'.tape = W.tape
  output : W'.output = W.output
  size : W.heap.size ≤ W'.heap.size
  block : ∀ k, k < n → k ≠ q → W'.heap[k]? = W.heap[k]?
theorem ChF.kp {x : Ctx} {q : Nat} {W W' : World} (h : ChF x W) (L : ChLt x q) (k : Kp x.n q W W') : ChF x W' := by
  obtain ⟨h1, h2, h3, h4, h5, h6⟩ := h
  obtain ⟨l1, l2, l3, l4, l5, l6, l7⟩ := L
  refine ⟨h1.same (k.block _ l1.1 l1.2), (World.cell?_of_block (a := ⟨_, 0, none⟩) (k.block _ l2.1 l2.2.2)).trans h2, (World.cell?_of_block (a := ⟨_, 0, none⟩) (k.block _ l3.1 l3.2)).trans h3, h4.same (k.block _ l4.1 l4.2), h5.same (k.block _ l5.1 l5.2) (k.block _ l6.1 l6.2) (k.block _ l7.1 l7.2), h6.trans ⟨k.os, k.tape, k.output, k.size, fun i hi => k.block i (by omega) (by omega)⟩⟩
theorem ownsRow_same {W W' : World} {B e s n : Nat} {v : Value} {xs : List Value} (h : W.ownsRow B e s v n xs) (hs : ∀ j, v.ownBlock = some j → W'.heap[j]? = W.heap[j]?) : W'.ownsRow B e s v n xs := by
  obtain ⟨h1, h2⟩ := h
  refine ⟨h1, ?_⟩
  rcases h2 with h2 | ⟨g, cap, cur, rfl, hg, hh, hr⟩
  · exact .inl h2
  · exact .inr ⟨g, cap, cur, rfl, hg, (hs g rfl).trans hh, hr⟩
theorem own_mono {W : World} {B B' e s n : Nat} {v : Value} {xs : List Value} (h : W.ownsRow B' e s v n xs) (hB : B ≤ B') : W.ownsRow B e s v n xs := by
  obtain ⟨h1, h2⟩ := h
  refine ⟨h1, ?_⟩
  rcases h2 with h2 | ⟨g, cap, cur, rfl, hg, hr⟩
  · exact .inl h2
  · exact .inr ⟨g, cap, cur, rfl, by omega, hr⟩
/-- One row grows by one fraction. -/
structure ChT (x : Ctx) (V : World) (tT tO k : Nat) (f fO : Nat → Nat) (kO : Nat) (va vO v' : Value) (gB : Nat) (s8 s9 s10 : Bool) (W : World) : Prop where
  F : ChF x W
  t : W.heap[tT]? = some (.cells #[if s10 = true then v' else va] 54 (0, 0))
  o : W.heap[tO]? = some (.cells #[vO] 54 (0, 0))
  ro : W.ownsRow (x.n + 2) 27 2 vO kO (frL fO x.X kO)
  row0 : s9 = false → W.ownsRow (x.n + 2) 27 2 va k (frL f x.X k)
  row1 : s9 = true → W.ownsRow (x.n + 2) 27 2 v' (k + 1) (frL f x.X (k + 1)) ∧ (∀ j, v'.ownBlock = some j → vO.ownBlock ≠ some j)
  ap : ∀ j, va.ownBlock = some j → vO.ownBlock ≠ some j
  sl : s8 = true → s9 = false → W.cell? ⟨gB, 0, none⟩ = some (.int .i64 (rN (f k) x.X : Nat)) ∧ W.cell? ⟨gB, 1, none⟩ = some (.int .i64 (rD (f k) x.X : Nat))
  vs : V.heap.size ≤ W.heap.size
  vn : W.heap[x.n]? = V.heap[x.n]? ∧ W.heap[x.n + 1]? = V.heap[x.n + 1]?
  vo : W.os = V.os ∧ W.tape = V.tape ∧ W.output = V.output
  sz : x.n + 2 ≤ W.heap.size
section
variable {x : Ctx} {V : World} {tT tO k : Nat} {f fO : Nat → Nat} {kO : Nat} {va vO v' : Value} {gB : Nat} {s8 s9 s10 : Bool} {W W' : World}
theorem ChT.after (h : ChT x V tT tO k f fO kO va vO v' gB s8 s9 s10 W) (L : ChLt x tT) (hb : Below W.heap.size W W') : ChT x V tT tO k f fO kO va vO v' gB s8 s9 s10 W' := by
  obtain ⟨h1, h2, h3, h4, h5, h6, h7, h8, h9, h10, h11, h12⟩ := h
  have hrow : ∀ {v : Value} {n : Nat} {xs : List Value}, W.ownsRow (x.n + 2) 27 2 v n xs → W'.ownsRow (x.n + 2) 27 2 v n xs := fun h => ownsRow_same h (fun j hj => hb.block j (h.lt j hj).2)
  refine ⟨h1.kp L ⟨hb.os, hb.tape, hb.output, hb.size, fun i hi _ => hb.block i (by omega)⟩, (hb.block _ (Array.getElem?_eq_some_iff.1 h2).1).trans h2, (hb.block _ (Array.getElem?_eq_some_iff.1 h3).1).trans h3, hrow h4, fun a => hrow (h5 a), fun a => ⟨hrow (h6 a).1, (h6 a).2⟩, h7, fun a b => ⟨cell_below (h8 a b).1 hb, cell_below (h8 a b).2 hb⟩, Nat.le_trans h9 hb.size, ⟨(hb.block _ (by omega)).trans h10.1, (hb.block _ (by omega)).trans h10.2⟩, ⟨hb.os.trans h11.1, hb.tape.trans h11.2.1, hb.output.trans h11.2.2⟩, Nat.le_trans h12 hb.size⟩
/-- The slice of one fraction is laid. -/
theorem ChT.laid (h : ChT x V tT tO k f fO kO va vO v' gB false false false W) (L : ChLt x tT) : ChT x V tT tO k f fO kO va vO v' W.heap.size true false false (W.alloc (.cells #[.int .i64 (rN (f k) x.X : Nat), .int .i64 (rD (f k) x.X : Nat)] 27)) := by
  have hb : Below W.heap.size W (W.alloc (.cells #[.int .i64 (rN (f k) x.X : Nat), .int .i64 (rD (f k) x.X : Nat)] 27)) := (Below.refl _ _).alloc (Nat.le_refl _) _
  obtain ⟨h1, h2, h3, h4, h5, h6, h7, h8, h9, h10, h11, h12⟩ := h.after L hb
  have hn : (W.alloc (.cells #[.int .i64 (rN (f k) x.X : Nat), .int .i64 (rD (f k) x.X : Nat)] 27)).heap[W.heap.size]? = some (.cells #[.int .i64 (rN (f k) x.X : Nat), .int .i64 (rD (f k) x.X : Nat)] 27 (0, 0)) := World.alloc_heap_new W _
  exact ⟨h1, h2, h3, h4, h5, h6, h7, fun _ _ => ⟨(Own2.new W _ _ 27).c0, (Own2.new W _ _ 27).c1⟩, h9, h10, h11, h12⟩
theorem info27s : ∃ i, Try.prog.info? 27 = some i ∧ i.zero = some (.agg #[.int .i64 0, .int .i64 0]) ∧ i.size = 2 ∧ i.bytes = 16 := by
  have h := info27
  cases hI : Try.prog.info? 27 with
  | none => rw [hI] at h; cases h
  | some i =>
    rw [hI] at h
    simp only [Option.map_some, Option.some.injEq, Prod.mk.injEq] at h
    exact ⟨i, rfl, h.1, h.2.1, h.2.2⟩
/-- The append. -/
theorem ChT.grow (h : ChT x V tT tO k f fO kO va vO v' gB true false false W) (L : ChLt x tT) (hk : k ≤ 100) (htT : tT < x.n) (htO : tO < x.n) :
    ∃ v2 W2, (Builtin.append_ #[54, 54] 54 #[va, .slice (some ⟨gB, 0, none⟩) 1 1]).run Try.prog W = .ok v2 W2 ∧ ChT x V tT tO k f fO kO va vO v2 gB true true false W2 := by
  obtain ⟨h1, h2, h3, h4, h5, h6, h7, h8, h9, h10, h11, h12⟩ := h
  obtain ⟨i0, hi, hz0, hz1, hz2⟩ := info27s
  obtain ⟨s0, s1⟩ := h8 rfl rfl
  have hcs : ∀ j u, ([.int .i64 (rN (f k) x.X : Nat), .int .i64 (rD (f k) x.X : Nat)] : List Value)[j]? = some u → W.cell? ((⟨gB, 0, none⟩ : Addr).add j) = some u := by
    intro j u hj
    match j, hj with
    | 0, hj => simp at hj; subst hj; simpa [Addr.add] using s0
    | 1, hj => simp at hj; subst hj; simpa [Addr.add] using s1
    | j + 2, hj => simp at hj
  obtain ⟨v2, W2, hrun, hrow, hgrow, _, hblk⟩ := run_append_own_at (P := Try.prog) W (x.n + 2) 54 54 27 i0 (.agg #[.int .i64 0, .int .i64 0]) 2 16 und54 hi hz0 hz1 hz2 rfl (by decide) va k _ (h5 rfl) ⟨gB, 0, none⟩ 1 1 [.int .i64 (rN (f k) x.X : Nat), .int .i64 (rD (f k) x.X : Nat)] rfl hcs (fun u hu => by simp at hu; rcases hu with rfl | rfl <;> rfl) (by unfold maxLen; omega) (by omega) h12
  have hlt := (h5 rfl).lt
  have hne : ∀ i, i < x.n + 2 → i < W.heap.size → W2.heap[i]? = W.heap[i]? := fun i hi hl => hgrow.block i hl (fun e => by have := hlt i e.symm; omega)
  refine ⟨v2, W2, hrun, h1.kp L ⟨hgrow.os, hgrow.tape, hgrow.output, hgrow.size, fun i hi _ => hne i (by omega) (by omega)⟩, (hne _ (by omega) (by omega)).trans h2, (hne _ (by omega) (by omega)).trans h3, ?_, fun a => (by cases a), fun _ => ⟨hrow, ?_⟩, h7, fun _ a => (by cases a), Nat.le_trans h9 hgrow.size, ⟨(hne _ (by omega) (by omega)).trans h10.1, (hne _ (by omega) (by omega)).trans h10.2⟩, ⟨hgrow.os.trans h11.1, hgrow.tape.trans h11.2.1, hgrow.output.trans h11.2.2⟩, Nat.le_trans h12 hgrow.size⟩
  · exact ownsRow_same h4 (fun j hj => hgrow.block j (h4.lt j hj).2 (fun e => h7 j e.symm hj))
  · intro j hj
    rcases hblk with e | e
    · exact h7 j (e ▸ hj)
    · intro hj2
      rw [e] at hj
      have := (h4.lt j hj2).2
      injection hj with hj
      omega
/-- The store. -/
theorem ChT.stored (h : ChT x V tT tO k f fO kO va vO v' gB true true false W) (L : ChLt x tT) (htT : tT < x.n) (htO : tO < x.n) (hne : tO ≠ tT) : ChT x V tT tO k f fO kO va vO v' gB true true true (W.setCell ⟨tT, 0, none⟩ v') := by
  obtain ⟨h1, h2, h3, h4, h5, h6, h7, h8, h9, h10, h11, h12⟩ := h
  have e := fun i (hi : i ≠ tT) => Below.heap_setCell W ⟨tT, 0, none⟩ v' i hi
  have hrow : ∀ {v : Value} {n : Nat} {xs : List Value}, W.ownsRow (x.n + 2) 27 2 v n xs → (W.setCell ⟨tT, 0, none⟩ v').ownsRow (x.n + 2) 27 2 v n xs := fun h => ownsRow_same h (fun j hj => e j (by have := (h.lt j hj).1; omega))
  refine ⟨h1.kp L ⟨rfl, rfl, rfl, by simp [World.setCell], fun i _ hi => e i hi⟩, ?_, (e _ hne).trans h3, hrow h4, fun a => (by cases a), fun a => ⟨hrow (h6 a).1, (h6 a).2⟩, h7, fun _ a => (by cases a), by simpa [World.setCell] using h9, ⟨(e _ (by omega)).trans h10.1, (e _ (by omega)).trans h10.2⟩, h11, by simpa [World.setCell] using h12⟩
  rw [heap_set h2]; simp
end
/-- Both rows, between the rounds. -/
structure ChR (x : Ctx) (t12 t13 m : Nat) (va vr : Value) (W : World) : Prop where
  F : ChF x W
  t : W.heap[t12]? = some (.cells #[va] 54 (0, 0))
  o : W.heap[t13]? = some (.cells #[vr] 54 (0, 0))
  ra : W.ownsRow (x.n + 2) 27 2 va m (frL (fun k => yes x.N x.d x.c.A x.c.R k) x.X m)
  rr : W.ownsRow (x.n + 2) 27 2 vr m (frL (fun k => no x.N x.d x.c.A x.c.R k) x.X m)
  ap : ∀ j, va.ownBlock = some j → vr.ownBlock ≠ some j
  sz : x.n ≤ W.heap.size
theorem ChR.keeps {x : Ctx} {t12 t13 m : Nat} {va vr : Value} {W W' : World} (h : ChR x t12 t13 m va vr W) (L : ChLt x t12) (h12 : t12 < x.n) (h13 : t13 < x.n) (k : Qr.Keeps x.n W W') : ChR x t12 t13 m va vr W' := by
  obtain ⟨h1, h2, h3, h4, h5, h6, h7⟩ := h
  have hlt := fun {i : Nat} {o : Obj} (h : W.heap[i]? = some o) => (Array.getElem?_eq_some_iff.1 h).1
  have hl12 := hlt h2
  have hl13 := hlt h3
  have hrow : ∀ {v : Value} {n : Nat} {xs : List Value}, W.ownsRow (x.n + 2) 27 2 v n xs → W'.ownsRow (x.n + 2) 27 2 v n xs := fun h => ownsRow_same h (fun j hj => k.block j (h.lt j hj).2 (by have := (h.lt j hj).1; omega) (by have := (h.lt j hj).1; omega))
  refine ⟨?_, (k.block _ hl12 (by omega) (by omega)).trans h2, (k.block _ hl13 (by omega) (by omega)).trans h3, hrow h4, hrow h5, h6, Nat.le_trans h7 k.size⟩
  refine h1.kp L ⟨k.os, k.tape, k.output, k.size, fun i hi _ => ?_⟩
  exact k.block i (by omega) (by omega) (by omega)

set_option maxHeartbeats 4000000 in
set_option maxRecDepth 100000 in
theorem chances_any {N d : Nat} {c : Crs} {w : World} (h1 : 1 ≤ N) (h36 : N ≤ 36) (hd : d ≤ N) (hc : CrsIn w c) (hok : CrsOk c N) :
    Calls Try.prog 34 #[.int .i64 N, .int .i64 d, c.val] w fun e w' => ∃ va vr, e = .returned (.tuple #[va, vr, .int .i64 0]) ∧
      w'.ownsRow w.heap.size 27 2 va c.L (frL (fun k => yes N d c.A c.R k) (ch N d) c.L) ∧ w'.ownsRow w.heap.size 27 2 vr c.L (frL (fun k => no N d c.A c.R k) (ch N d) c.L) ∧ Below w.heap.size w w' := by
  have l1 := hok.l1
  have l2 := hok.l2
  have hr := fun w => readBad_any (z := (d : Int)) h1 h36 ⟨by omega, by omega⟩ w
  rw [decide_eq_true (by omega)] at hr
  have hga : c.ga < w.heap.size := cell_lt (hc.las 0 (by omega))
  have hgr : c.gr < w.heap.size := cell_lt (hc.lrs 0 (by omega))
  obtain ⟨wa, hwa⟩ : ∃ wa, w.alloc (.cells #[.int .i64 d] 3) = wa := ⟨_, rfl⟩
  obtain ⟨wb, hwb⟩ : ∃ wb, wa.alloc (.cells #[c.sa, c.sr] 42) = wb := ⟨_, rfl⟩
  have sa : wa.heap.size = w.heap.size + 1 := by rw [← hwa]; simp
  have sb : wb.heap.size = w.heap.size + 1 + 1 := by rw [← hwb]; simp [sa]
  have ba : Below w.heap.size w wa := by rw [← hwa]; exact (Below.refl _ _).alloc (Nat.le_refl _) _
  have bb : Below wa.heap.size wa wb := by rw [← hwb]; exact (Below.refl _ _).alloc (Nat.le_refl _) _
  have bw0 : Below w.heap.size w wb := ba.trans (bb.mono (by omega))
  have hwab : (w.alloc (.cells #[.int .i64 d] 3)).alloc (.cells #[c.sa, c.sr] 42) = wb := by rw [hwa, hwb]
  have c4 : wb.cell? ⟨w.heap.size, 0, none⟩ = some (.int .i64 d) := by
    have : wb.heap[w.heap.size]? = some (.cells #[.int .i64 d] 3 (0, 0)) := by rw [bb.block _ (by omega), ← hwa]; exact World.alloc_heap_new w _
    simp [World.cell?, this]
  have hB0 : CrsBox wb (w.heap.size + 1) c := by
    have := CrsBox.new (hc.after ba) 42
    rw [hwb, sa] at this
    exact this
  obtain ⟨EC, hEC⟩ : ∃ EC, Keep (endsCells N d c.A c.R c.L = EC) := ⟨_, ⟨rfl⟩⟩
  have hECs : EC.size = 74 := by rw [← hEC.out]; simp [endsCells]
  have hECa : Keep (∀ j, j < 74 → EC[j]? = some (.int .i64 (tabE N d c.A c.R c.L 0 j : Nat))) := ⟨fun j hj => by rw [← hEC.out]; simp [endsCells, hj]⟩
  have hone : EC.all (·.oneCell') = true := by
    rw [← hEC.out, Array.all_eq_true]
    intro j hj
    simp [endsCells, Value.oneCell']
  have hi114 : (Try.prog.info? 114).map (·.size) = some EC.size := by rw [hECs]; kernel_rfl
  have hsz : Try.zeroCells114.size = EC.size := by rw [hECs]; kernel_rfl
  have his := fun (W : World) (b : Nat) (h : Pieces W b N) (hc : CrsIn W c) => isCourse_yes h hc hok
  have hen := fun (W : World) (b : Nat) (h : Pieces W b N) (hc : CrsIn W c) => ends_any h hd hc l1 l2
  simp only [hEC.out] at hen
  unfold Crs.sa Crs.sr at hwab
  unfold Crs.val Crs.sa Crs.sr at his hen
  clear hwa hwb ba bb sa
  obtain ⟨⟨d0, d1, _, _⟩, hin0⟩ := id hB0
  unfold Crs.sa at d0
  unfold Crs.sr at d1
  unfold Crs.val Crs.sa Crs.sr
  refine (callsIn_wide (n := 0)).1 ?_
  refine callsIn_of_wp_marks Try.func34 rfl trivial ?_ rfl
  simp only [Try.ntmps34, List.size_toArray, List.length_cons, List.length_nil, Nat.reduceAdd, Nat.reduceSub, Array.replicate_succ, Array.replicate_zero, List.push_toArray, List.append_toArray, List.nil_append, List.cons_append]
  refine wpIn_wide.2 ?_
  go_wp2_with (first
    | (go_at_call 52; (with_reducible refine (hr _).mono ?_); rintro e w5 ⟨rfl, hb5, hP5⟩
       rw [sb] at hP5
       have hB5 := hB0.after hb5
       have c4 := cell_below c4 hb5
       have bw5 := bw0.trans (hb5.mono bw0.size)
       obtain ⟨w6, hw6⟩ : ∃ w6, w5.alloc (.cells #[.pointer (some ⟨w.heap.size + 1 + 1, 0, none⟩)] 88) = w6 := ⟨_, rfl⟩
       have b6 : Below w5.heap.size w5 w6 := by rw [← hw6]; exact (Below.refl _ _).alloc (Nat.le_refl _) _
       have c9 : w6.cell? ⟨w5.heap.size, 0, none⟩ = some (.pointer (some ⟨w.heap.size + 1 + 1, 0, none⟩)) := by
         have : w6.heap[w5.heap.size]? = some (.cells #[.pointer (some ⟨w.heap.size + 1 + 1, 0, none⟩)] 88 (0, 0)) := by rw [← hw6]; exact World.alloc_heap_new w5 _
         simp [World.cell?, this]
       have hB6 := hB5.after b6
       have c4 := cell_below c4 b6
       have hP6 := hP5.below b6 hP5.lt
       have bw6 := bw5.trans (b6.mono bw5.size)
       obtain ⟨⟨d0, d1, _, _⟩, hin6⟩ := id hB6
       unfold Crs.sa at d0
       unfold Crs.sr at d1
       have l5 : w.heap.size + 1 + 1 < w5.heap.size := hP5.lt
       clear hb5 b6 hr hB5 hP5 bw5 hB0 bw0)
    | (go_at_call 63; refine (his _ _ hP6 hin6).mono ?_; rintro e w7 ⟨rfl, hb7⟩
       have hB7 := hB6.after hb7
       have c4 := cell_below c4 hb7
       have c9 := cell_below c9 hb7
       have hP7 := hP6.below hb7 hP6.lt
       have bw7 := bw6.trans (hb7.mono bw6.size)
       obtain ⟨⟨d0, d1, _, _⟩, hin7⟩ := id hB7
       unfold Crs.sa at d0
       unfold Crs.sr at d1
       clear hb7 his hP6 hB6 bw6 hin6)
    | (go_at_call 64; refine (hen _ _ hP7 hin7).mono ?_; rintro e w8 ⟨rfl, hb8⟩
       have hB8 := hB7.after hb8
       have c4 := cell_below c4 hb8
       have c9 := cell_below c9 hb8
       have hP8 := hP7.below hb8 hP7.lt
       have bw8 := bw7.trans (hb8.mono bw7.size)
       have l9 : w5.heap.size < w8.heap.size := cell_lt c9
       have hr8 : (w8.alloc (.cells Try.zeroCells114 114)).heap[w8.heap.size]? = some (.cells Try.zeroCells114 114 (0, 0)) := World.alloc_heap_new w8 _
       clear hb8 hen hP7 hB7 bw7 hin7)
    | (refine wpList_store_row rfl 114 _ _ rfl w8.heap.size EC rfl rfl 114 _ hr8 hi114 hsz hone ?_
       obtain ⟨w9, hw9⟩ : ∃ w9, (w8.alloc (.cells Try.zeroCells114 114)).setRow w8.heap.size EC = w9 := ⟨_, rfl⟩
       have b9 : Below w8.heap.size w8 w9 := by rw [← hw9]; exact below_setRow ((Below.refl _ w8).alloc (Nat.le_refl _) _) (Nat.le_refl _) _
       have hE9 : NumsAt w9 w8.heap.size 74 114 (tabE N d c.A c.R c.L 0) := by rw [← hw9]; exact ⟨EC, setRow_heap _ _ _ EC 114 (0, 0) hr8, hECs, hECa.out⟩
       rw [hw9]
       obtain ⟨wA, hwA⟩ : ∃ wA, w9.alloc (.cells #[.slice none 0 0] 54) = wA := ⟨_, rfl⟩
       obtain ⟨wB, hwB⟩ : ∃ wB, wA.alloc (.cells #[.slice none 0 0] 54) = wB := ⟨_, rfl⟩
       have sA : wA.heap.size = w9.heap.size + 1 := by rw [← hwA]; simp
       have sB : wB.heap.size = w9.heap.size + 1 + 1 := by rw [← hwB]; simp [sA]
       have bA : Below w9.heap.size w9 wA := by rw [← hwA]; exact (Below.refl _ _).alloc (Nat.le_refl _) _
       have bB : Below wA.heap.size wA wB := by rw [← hwB]; exact (Below.refl _ _).alloc (Nat.le_refl _) _
       have b9B := (b9.trans (bA.mono b9.size)).trans (bB.mono (b9.trans (bA.mono b9.size)).size)
       have v12 : wB.heap[w9.heap.size]? = some (.cells #[.slice none 0 0] 54 (0, 0)) := by rw [bB.block _ (by omega), ← hwA]; exact World.alloc_heap_new w9 _
       have v13 : wB.heap[w9.heap.size + 1]? = some (.cells #[.slice none 0 0] 54 (0, 0)) := by rw [← sA, ← hwB]; exact World.alloc_heap_new wA _
       have hE := (hE9.below bA hE9.lt).below bB (by have := hE9.lt; omega)
       have hBB := hB8.after b9B
       have c4 := cell_below c4 b9B
       have c9 := cell_below c9 b9B
       have hPB := hP8.below b9B hP8.lt
       have bwB := bw8.trans (b9B.mono bw8.size)
       have l89 : w8.heap.size < w9.heap.size := hE9.lt
       have q65 := bounds_any hBB.inn
       unfold Crs.val Crs.sa Crs.sr at q65
       obtain ⟨⟨d0, d1, _, _⟩, hinB⟩ := id hBB
       unfold Crs.sa at d0
       unfold Crs.sr at d1
       clear hw9 b9 hr8 hP8 hB8 bw8 bA bB b9B hE9)
    | (go_at_call 65; refine q65.mono ?_; rintro e wD ⟨rfl, hwD⟩
       have bD : Below wB.heap.size wB wD := by rw [hwD]; exact (Below.refl _ _).alloc (Nat.le_refl _) _
       have sD : wD.heap.size = wB.heap.size + 1 := by rw [hwD]; simp
       have hXD : CrsBox wD wB.heap.size c := by rw [hwD]; exact CrsBox.new hBB.inn 42
       clear hwD))
  have hmx : Try.prog.follows .mixedOrders = true := by kernel_rfl
  have nD : wD.heap.size = w9.heap.size + 3 := by omega
  have hF0 : ChF ⟨w, N, d, w.heap.size + 1 + 1, w5.heap.size, w8.heap.size, w9.heap.size + 1 + 1, wD.heap.size, c⟩ wD := ⟨hPB.below bD hPB.lt, cell_below c4 bD, cell_below c9 bD, hE.below bD hE.lt, by show CrsBox wD (w9.heap.size + 1 + 1) c; rw [← sB]; exact hXD, bwB.trans (bD.mono bwB.size)⟩
  have v12 := (bD.block _ (by omega)).trans v12
  have v13 := (bD.block _ (by omega)).trans v13
  clear hPB hE hXD bwB bD hBB d0 d1 hinB c4 c9 q65 hi114 hsz hone
  revert hF0 v12 v13 l5 l9 l89 nD
  generalize w5.heap.size = t9
  generalize w8.heap.size = t11
  generalize w9.heap.size = t12
  intro l5 l9 l89 nD hF0 v12 v13
  have hL12 : ChLt ⟨w, N, d, w.heap.size + 1 + 1, t9, t11, t12 + 1 + 1, wD.heap.size, c⟩ t12 := ⟨by show _ ∧ _; constructor <;> dsimp only <;> omega, by refine ⟨?_, ?_, ?_⟩ <;> dsimp only <;> omega, by constructor <;> dsimp only <;> omega, by constructor <;> dsimp only <;> omega, by constructor <;> dsimp only <;> omega, by constructor <;> dsimp only <;> omega, by constructor <;> dsimp only <;> omega⟩
  have hL13 : ChLt ⟨w, N, d, w.heap.size + 1 + 1, t9, t11, t12 + 1 + 1, wD.heap.size, c⟩ (t12 + 1) := ⟨by constructor <;> dsimp only <;> omega, by refine ⟨?_, ?_, ?_⟩ <;> dsimp only <;> omega, by constructor <;> dsimp only <;> omega, by constructor <;> dsimp only <;> omega, by constructor <;> dsimp only <;> omega, by constructor <;> dsimp only <;> omega, by constructor <;> dsimp only <;> omega⟩
  have hR0 : ChR ⟨w, N, d, w.heap.size + 1 + 1, t9, t11, t12 + 1 + 1, wD.heap.size, c⟩ t12 (t12 + 1) 0 (.slice none 0 0) (.slice none 0 0) wD := ⟨hF0, v12, v13, World.ownsRow_nil _ _ _ _, World.ownsRow_nil _ _ _ _, fun j hj => by (cases hj), Nat.le_refl _⟩
  have hECk := Keep.mk hECs
  have n1 : t12 + 1 + 1 < wD.heap.size := by omega
  have n2 : t12 < wD.heap.size ∧ t12 + 1 < wD.heap.size := by omega
  have n3 : w.heap.size + 1 + 1 < wD.heap.size := by omega
  clear hECs hF0 v12 v13 nD sD sB sA sb hwab hwA hwB
  obtain ⟨X, hX⟩ : ∃ X, Keep (ch N d = X) := ⟨_, ⟨rfl⟩⟩
  refine (wpIn_wide (n := 0)).1 ?_
  refine Qr.range_givesQ (gf := 72) (lb := #[.pointer (some ⟨t12 + 1 + 1, 0, none⟩)]) rfl (enters_of Try.func72 (by kernel_rfl) rfl) (encs := encB) (xs := bnds c)
    (R := fun W => CrsBox W (t12 + 1 + 1) c) (fun x => rfl) (fun W1' _ _ => bounds_givesQ (by omega) W1')
    (fun pre W => ∃ m va vr, m ≤ c.L ∧ pre = bndTo c m ∧ ChR ⟨w, N, d, w.heap.size + 1 + 1, t9, t11, t12 + 1 + 1, wD.heap.size, c⟩ t12 (t12 + 1) m va vr W)
    ?_ (fun pre W ⟨m, va, vr, _, _, h⟩ => h.F.ib) ⟨0, _, _, by omega, rfl, hR0⟩
    (fun y a' W => Keep (a' = { tmps := #[.int .i64 N, .int .i64 d, .agg #[.slice (some ⟨c.ga, c.oa, none⟩) c.L c.ca, .slice (some ⟨c.gr, c.ro, none⟩) c.L c.cr], undef, .pointer (some ⟨w.heap.size, 0, none⟩), .pointer (some ⟨w.heap.size + 1, 0, none⟩), .slice none 0 0, .slice none 0 0, .int .i64 0, .pointer (some ⟨t9, 0, none⟩), .bool true, .pointer (some ⟨t11, 0, none⟩), .pointer (some ⟨t12, 0, none⟩), .pointer (some ⟨t12 + 1, 0, none⟩), .int .i64 (y.1 : Nat), .tuple #[.pointer (some ⟨w.heap.size + 1 + 1, 0, none⟩), .bool true], .int .i64 N, .int .i64 d, .tuple #[.pointer (some ⟨w.heap.size + 1 + 1, 0, none⟩), .bool true], .pointer (some ⟨w.heap.size + 1 + 1, 0, none⟩), .bool true, .bool true, .bool false, .bool false, .pointer (some ⟨w.heap.size + 1 + 1, 0, none⟩), .agg #[.slice (some ⟨c.ga, c.oa, none⟩) c.L c.ca, .slice (some ⟨c.gr, c.ro, none⟩) c.L c.cr], .bool true, .bool false, .bool false, .pointer (some ⟨w.heap.size + 1 + 1, 0, none⟩), .int .i64 d, .agg #[.slice (some ⟨c.ga, c.oa, none⟩) c.L c.ca, .slice (some ⟨c.gr, c.ro, none⟩) c.L c.cr], .agg EC, .agg #[.slice (some ⟨c.ga, c.oa, none⟩) c.L c.ca, .slice (some ⟨c.gr, c.ro, none⟩) c.L c.cr], .func (.func 72) #[] #[.pointer (some ⟨t12 + 1 + 1, 0, none⟩)], .int .i64 (y.1 : Nat), .agg #[.int .i64 y.2.1, .int .i64 y.2.2], undef, undef, undef, undef, undef, undef, undef, undef, undef, undef, undef, undef, undef, undef, undef, undef, undef, undef, undef, undef, undef, undef], defers := [] }))
    ?_ ?assign ?body ?done
  · rintro pre W W' ⟨m, va, vr, k1, k2, k3⟩ hk
    exact ⟨m, va, vr, k1, k2, k3.keeps hL12 (by dsimp only; omega) (by dsimp only; omega) hk⟩
  · rintro y a' W W' h _ _
    exact h
  case assign =>
    intro l pre y W K hi hsz2 hK
    simp only [encB]
    gi_wp2
    simp only [Oper.semAt, execOp]
    simp [go_sem]
    rename_i K2 hK2
    refine hK2 _ _ ?_
    gi_wp2
    exact hK _ _ (Below.refl _ W) ⟨rfl⟩
  case body =>
    rintro l pre y a' V ⟨m, va, vr, k1, k2, k3⟩ ⟨rfl⟩ hsz2 ⟨post, hpost⟩
    have hmL : m < c.L ∧ y = bndAt c m := by
      subst k2
      rcases Nat.lt_or_ge m c.L with h | h
      · obtain ⟨rest, hr⟩ := bndTo_rest c h
        unfold bnds at hpost
        rw [hr] at hpost
        have := List.append_cancel_left hpost
        injection this with e1 e2
        exact ⟨h, e1.symm⟩
      · obtain rfl : m = c.L := by omega
        exfalso
        unfold bnds at hpost
        have := congrArg List.length hpost
        simp at this
    obtain ⟨hmL, hy⟩ := hmL
    subst hy
    simp only [bndAt]
    clear hpost
    have yle : yes N d c.A c.R m ≤ 9075135300 := Nat.le_trans (Nat.le_trans (Nat.le_add_right _ _) (both_ch N d c.A c.R (i := m) (by omega) (m + 2))) (ch_le h36 d)
    have nle : no N d c.A c.R m ≤ 9075135300 := Nat.le_trans (Nat.le_trans (Nat.le_add_left _ _) (both_ch N d c.A c.R (i := m) (by omega) (m + 2))) (ch_le h36 d)
    have ta := tabE_low (N := N) (d := d) (A := c.A) (R := c.R) (L := c.L) (j := m + 1) (by omega)
    have tb := tabE_high (N := N) (d := d) (A := c.A) (R := c.R) (L := c.L) (j := m + 1)
    rw [if_pos (by omega), Nat.add_sub_cancel] at ta tb
    have hm37 : m + 1 < 37 := by omega
    have hm37i : ((m + 1 : Nat) : Int) < 37 := by omega
    have hm37j : (m : Int) + 1 < 37 := by omega
    have hT0 : ChT ⟨w, N, d, w.heap.size + 1 + 1, t9, t11, t12 + 1 + 1, wD.heap.size, c⟩ V t12 (t12 + 1) m (fun k => yes N d c.A c.R k) (fun k => no N d c.A c.R k) m va vr undef 0 false false false V.drew :=
      ⟨k3.F.kp hL12 ⟨rfl, rfl, rfl, Nat.le_refl _, fun _ _ _ => rfl⟩, by (simp only [Bool.false_eq_true, if_false]; exact k3.t), k3.o, k3.rr, fun _ => k3.ra, fun a => (by cases a), k3.ap, fun a => (by cases a), Nat.le_refl _, ⟨rfl, rfl⟩, ⟨rfl, rfl, rfl⟩, hsz2⟩
    have k2' := Keep.mk k2
    clear k2 k3
    gi_wp2
    refine Inv.region_invR (fun s a W => ∃ gB v2, a = { tmps := #[.int .i64 N, .int .i64 d, .agg #[.slice (some ⟨c.ga, c.oa, none⟩) c.L c.ca, .slice (some ⟨c.gr, c.ro, none⟩) c.L c.cr], undef, .pointer (some ⟨w.heap.size, 0, none⟩), .pointer (some ⟨w.heap.size + 1, 0, none⟩), .slice none 0 0, .slice none 0 0, .int .i64 0, .pointer (some ⟨t9, 0, none⟩), .bool true, .pointer (some ⟨t11, 0, none⟩), .pointer (some ⟨t12, 0, none⟩), .pointer (some ⟨t12 + 1, 0, none⟩), .int .i64 (m + 1 : Nat), .tuple #[.pointer (some ⟨w.heap.size + 1 + 1, 0, none⟩), .bool true], .int .i64 N, .int .i64 d, .tuple #[.pointer (some ⟨w.heap.size + 1 + 1, 0, none⟩), .bool true], .pointer (some ⟨w.heap.size + 1 + 1, 0, none⟩), .bool true, .bool true, .bool false, .bool false, .pointer (some ⟨w.heap.size + 1 + 1, 0, none⟩), .agg #[.slice (some ⟨c.ga, c.oa, none⟩) c.L c.ca, .slice (some ⟨c.gr, c.ro, none⟩) c.L c.cr], .bool true, .bool false, .bool false, .pointer (some ⟨w.heap.size + 1 + 1, 0, none⟩), .int .i64 d, .agg #[.slice (some ⟨c.ga, c.oa, none⟩) c.L c.ca, .slice (some ⟨c.gr, c.ro, none⟩) c.L c.cr], .agg EC, .agg #[.slice (some ⟨c.ga, c.oa, none⟩) c.L c.ca, .slice (some ⟨c.gr, c.ro, none⟩) c.L c.cr], .func (.func 72) #[] #[.pointer (some ⟨t12 + 1 + 1, 0, none⟩)], .int .i64 (m + 1 : Nat), .agg #[.int .i64 (c.A m), .int .i64 (c.R m)], if s 0 = true then va else undef, if s 1 = true then .pointer (some ⟨w.heap.size + 1 + 1, 0, none⟩) else undef, if s 2 = true then .int .i64 (m + 1 : Nat) else undef, if s 3 = true then .pointer (some ⟨t11, 0, none⟩) else undef, if s 4 = true then .pointer (some ⟨t11, m + 1, none⟩) else undef, if s 5 = true then .int .i64 (yes N d c.A c.R m : Nat) else undef, if s 6 = true then .int .i64 d else undef, if s 7 = true then .agg #[.int .i64 (rN (yes N d c.A c.R m) X : Nat), .int .i64 (rD (yes N d c.A c.R m) X : Nat)] else undef, if s 8 = true then .slice (some ⟨gB, 0, none⟩) 1 1 else undef, if s 9 = true then v2 else undef, undef, undef, undef, undef, undef, undef, undef, undef, undef, undef, undef, undef], defers := [] } ∧ ChT ⟨w, N, d, w.heap.size + 1 + 1, t9, t11, t12 + 1 + 1, wD.heap.size, c⟩ V t12 (t12 + 1) m (fun k => yes N d c.A c.R k) (fun k => no N d c.A c.R k) (m) va vr v2 gB (s 8) (s 9) (s 10) W) hmx (by kernel_rfl) (by kernel_rfl) ?_ ?_ ?_
    · intro s hs
      refine ⟨0, undef, ?_, ?_⟩
      · simp only [hs 0 (by decide), hs 1 (by decide), hs 2 (by decide), hs 3 (by decide), hs 4 (by decide), hs 5 (by decide), hs 6 (by decide), hs 7 (by decide), hs 8 (by decide), hs 9 (by decide), hs 10 (by decide), Bool.false_eq_true, if_false]
      · rw [hs 8 (by decide), hs 9 (by decide), hs 10 (by decide)]; exact hT0
    · refine ⟨?_, ?_, ?_, ?_, ?_, ?_, ?_, ?_, ?_, ?_, ?_, trivial⟩
      · rintro s a W hun hdep hbeh ⟨gB, v2, rfl, hT⟩
        (try simp only [Nat.reduceAdd] at hun)
        have n10 : s 10 = false := hbeh 10 (by kernel_rfl)
        have ht := hT.t
        simp only [n10, Bool.false_eq_true, if_false] at ht
        have hc : W.cell? ⟨t12, 0, none⟩ = some va := by simp [World.cell?, ht]
        skip
        refine .inl ⟨by rfl, ?_⟩
        refine Inv.comesV_val (va) W (by (go_simp; (try rfl); try (intro hneg; omega))) ⟨gB, v2, by (simp only [Act.put, List.setIfInBounds_toArray, List.set_cons_succ, List.set_cons_zero, Manyd.upd, Nat.reduceAdd, Nat.reduceBEq, Bool.or_false, Bool.or_true, if_true]), by simpa [Manyd.upd] using hT⟩
      · rintro s a W hun hdep hbeh ⟨gB, v2, rfl, hT⟩
        (try simp only [Nat.reduceAdd] at hun)
        have hc := hT.F.c9
        dsimp only at hc
        refine .inl ⟨by rfl, ?_⟩
        refine Inv.comesV_val (.pointer (some ⟨w.heap.size + 1 + 1, 0, none⟩)) W (by (go_simp; (try rfl); try (intro hneg; omega))) ⟨gB, v2, by (simp only [Act.put, List.setIfInBounds_toArray, List.set_cons_succ, List.set_cons_zero, Manyd.upd, Nat.reduceAdd, Nat.reduceBEq, Bool.or_false, Bool.or_true, if_true]), by simpa [Manyd.upd] using hT⟩
      · rintro s a W hun hdep hbeh ⟨gB, v2, rfl, hT⟩
        (try simp only [Nat.reduceAdd] at hun)
        refine .inl ⟨by rfl, ?_⟩
        refine Inv.comesV_val (.int .i64 (m + 1 : Nat)) W (by (go_simp; (try rfl); try (intro hneg; omega))) ⟨gB, v2, by (simp only [Act.put, List.setIfInBounds_toArray, List.set_cons_succ, List.set_cons_zero, Manyd.upd, Nat.reduceAdd, Nat.reduceBEq, Bool.or_false, Bool.or_true, if_true]), by simpa [Manyd.upd] using hT⟩
      · rintro s a W hun hdep hbeh ⟨gB, v2, rfl, hT⟩
        (try simp only [Nat.reduceAdd] at hun)
        refine .inl ⟨by rfl, ?_⟩
        refine Inv.comesV_val (.pointer (some ⟨t11, 0, none⟩)) W (by (go_simp; (try rfl); try (intro hneg; omega))) ⟨gB, v2, by (simp only [Act.put, List.setIfInBounds_toArray, List.set_cons_succ, List.set_cons_zero, Manyd.upd, Nat.reduceAdd, Nat.reduceBEq, Bool.or_false, Bool.or_true, if_true]), by simpa [Manyd.upd] using hT⟩
      · rintro s a W hun hdep hbeh ⟨gB, v2, rfl, hT⟩
        (try simp only [Nat.reduceAdd] at hun)
        have h3 : s 3 = true := Inv.depB_mem 3 hdep (by rfl)
        have h2 : s 2 = true := Inv.depB_mem 2 hdep (by rfl)
        refine .inl ⟨by rfl, ?_⟩
        refine Inv.comesV_val (.pointer (some ⟨t11, m + 1, none⟩)) W (by (simp only [h3, h2, if_true]; go_simp; (try rfl); try (intro hneg; omega))) ⟨gB, v2, by (simp only [Act.put, List.setIfInBounds_toArray, List.set_cons_succ, List.set_cons_zero, Manyd.upd, Nat.reduceAdd, Nat.reduceBEq, Bool.or_false, Bool.or_true, if_true]), by simpa [Manyd.upd] using hT⟩
      · rintro s a W hun hdep hbeh ⟨gB, v2, rfl, hT⟩
        (try simp only [Nat.reduceAdd] at hun)
        have h4 : s 4 = true := Inv.depB_mem 4 hdep (by rfl)
        obtain ⟨hc, _⟩ := hT.F.e.cell (j := (m + 1)) (by omega)
        dsimp only at hc
        rw [ta] at hc
        refine .inl ⟨by rfl, ?_⟩
        refine Inv.comesV_val (.int .i64 (yes N d c.A c.R m : Nat)) W (by (simp only [h4, if_true]; go_simp; (try rfl); try (intro hneg; omega))) ⟨gB, v2, by (simp only [Act.put, List.setIfInBounds_toArray, List.set_cons_succ, List.set_cons_zero, Manyd.upd, Nat.reduceAdd, Nat.reduceBEq, Bool.or_false, Bool.or_true, if_true]), by simpa [Manyd.upd] using hT⟩
      · rintro s a W hun hdep hbeh ⟨gB, v2, rfl, hT⟩
        (try simp only [Nat.reduceAdd] at hun)
        have hc := hT.F.c4
        dsimp only at hc
        refine .inl ⟨by rfl, ?_⟩
        refine Inv.comesV_val (.int .i64 d) W (by (go_simp; (try rfl); try (intro hneg; omega))) ⟨gB, v2, by (simp only [Act.put, List.setIfInBounds_toArray, List.set_cons_succ, List.set_cons_zero, Manyd.upd, Nat.reduceAdd, Nat.reduceBEq, Bool.or_false, Bool.or_true, if_true]), by simpa [Manyd.upd] using hT⟩
      · rintro s a W hun hdep hbeh ⟨gB, v2, rfl, hT⟩
        (try simp only [Nat.reduceAdd] at hun)
        have h1 : s 1 = true := Inv.depB_mem 1 hdep (by rfl)
        have h5 : s 5 = true := Inv.depB_mem 5 hdep (by rfl)
        have h6 : s 6 = true := Inv.depB_mem 6 hdep (by rfl)
        have hq := share_any hT.F.P (x := yes N d c.A c.R m) hd (by omega)
        refine .inl ⟨by rfl, Inv.comesV_call 66 #[.pointer (some ⟨w.heap.size + 1 + 1, 0, none⟩), .int .i64 (yes N d c.A c.R m : Nat), .int .i64 d] W (by (simp only [h1, h5, h6, if_true]; go_simp; try rfl)) (hq.mono fun e w5 hw5 => ⟨.agg #[.int .i64 (rN (yes N d c.A c.R m) X : Nat), .int .i64 (rD (yes N d c.A c.R m) X : Nat)], ?_, gB, v2, ?_, ?_⟩)⟩
        · rw [hw5.1, hX.out]; rfl
        · simp only [Act.put, List.setIfInBounds_toArray, List.set_cons_succ, List.set_cons_zero, Manyd.upd, Nat.reduceAdd, Nat.reduceBEq, Bool.or_false, Bool.or_true, if_true]
        · simpa [Manyd.upd] using hT.after hL12 hw5.2
      · rintro s a W hun hdep hbeh ⟨gB, v2, rfl, hT⟩
        (try simp only [Nat.reduceAdd] at hun)
        have h7 : s 7 = true := Inv.depB_mem 7 hdep (by rfl)
        have n9 : s 9 = false := hbeh 9 (by kernel_rfl)
        have n10 : s 10 = false := hbeh 10 (by kernel_rfl)
        rw [hun, n9, n10] at hT
        have hT2 := hT.laid hL12
        simp only [Ctx.X, hX.out] at hT2
        refine .inl ⟨by rfl, Inv.comesV_val (.slice (some ⟨W.heap.size, 0, none⟩) 1 1) (W.alloc (.cells #[.int .i64 (rN (yes N d c.A c.R m) X : Nat), .int .i64 (rD (yes N d c.A c.R m) X : Nat)] 27)) (by (simp only [h7, if_true]; go_simp; try rfl)) ⟨W.heap.size, v2, ?_, ?_⟩⟩
        · simp only [Act.put, List.setIfInBounds_toArray, List.set_cons_succ, List.set_cons_zero, Manyd.upd, Nat.reduceAdd, Nat.reduceBEq, Bool.or_false, Bool.or_true, if_true]
        · simpa [Manyd.upd, n9, n10] using hT2
      · rintro s a W hun hdep hbeh ⟨gB, v2, rfl, hT⟩
        (try simp only [Nat.reduceAdd] at hun)
        have h0 : s 0 = true := Inv.depB_mem 0 hdep (by rfl)
        have h8 : s 8 = true := Inv.depB_mem 8 hdep (by rfl)
        have n10 : s 10 = false := hbeh 10 (by kernel_rfl)
        rw [hun, h8, n10] at hT
        obtain ⟨v3, W3, hrun, hT3⟩ := hT.grow hL12 (by omega) (by dsimp only; omega) (by dsimp only; omega)
        refine .inl ⟨by rfl, Inv.comesV_val v3 W3 (Inv.exec_append (t := 54) (s := .tmp 37) (x := .tmp 45) rfl (by (simp only [h0, if_true]; go_simp; try rfl)) (by (simp only [h8, if_true]; go_simp; try rfl)) hrun) ⟨gB, v3, ?_, ?_⟩⟩
        · simp only [Act.put, List.setIfInBounds_toArray, List.set_cons_succ, List.set_cons_zero, Manyd.upd, Nat.reduceAdd, Nat.reduceBEq, Bool.or_false, Bool.or_true, if_true]
        · simpa [Manyd.upd, h8, n10] using hT3
      · rintro s a W hun hdep hbeh ⟨gB, v2, rfl, hT⟩
        (try simp only [Nat.reduceAdd] at hun)
        have h8 : s 8 = true := Inv.depB_mem 8 hdep (by rfl)
        have h9 : s 9 = true := Inv.depB_mem 9 hdep (by rfl)
        rw [hun, h8, h9] at hT
        have ht := hT.t
        simp only [Bool.false_eq_true, if_false] at ht
        have hc : W.cell? ⟨t12, 0, none⟩ = some va := by simp [World.cell?, ht]
        have hz : W.frozen? ⟨t12, 0, none⟩ = false := by simp [World.frozen?, ht]
        rcases (hT.row1 rfl).1.2 with ⟨_, h0⟩ | ⟨gg, gc, gcur, rfl, _⟩
        · omega
        have hT3 := hT.stored hL12 (by dsimp only; omega) (by dsimp only; omega) (by omega)
        refine .inl ⟨by rfl, Inv.comesV_skip (W.setCell ⟨t12, 0, none⟩ (.slice (some ⟨gg, 0, none⟩) (m + 1) gc)) (by (simp only [h9, if_true]; go_simp; try rfl)) ⟨gB, .slice (some ⟨gg, 0, none⟩) (m + 1) gc, ?_, ?_⟩⟩
        · simp only [Act.put, List.setIfInBounds_toArray, List.set_cons_succ, List.set_cons_zero, Manyd.upd, Nat.reduceAdd, Nat.reduceBEq, Bool.or_false, Bool.or_true, if_true]
        · simpa [Manyd.upd, h8, h9] using hT3
    rintro s a1 W8 hs ⟨g37, v37, rfl, hT37⟩
    rw [hs 8 (by decide), hs 9 (by decide), hs 10 (by decide)] at hT37
    simp only [hs 0 (by decide), hs 1 (by decide), hs 2 (by decide), hs 3 (by decide), hs 4 (by decide), hs 5 (by decide), hs 6 (by decide), hs 7 (by decide), hs 8 (by decide), hs 9 (by decide), hs 10 (by decide), if_true]
    clear hs
    have hT9 : ChT ⟨w, N, d, w.heap.size + 1 + 1, t9, t11, t12 + 1 + 1, wD.heap.size, c⟩ V (t12 + 1) t12 m (fun k => no N d c.A c.R k) (fun k => yes N d c.A c.R k) (m + 1) vr v37 undef 0 false false false W8.drew := by
      have h := hT37.after hL12 ((Below.refl W8.heap.size W8).drew)
      exact ⟨h.F, by simpa using h.o, by simpa using h.t, (h.row1 rfl).1, fun _ => h.ro, fun a => (by cases a), fun j hj e => (h.row1 rfl).2 j e hj, fun a => (by cases a), h.vs, h.vn, h.vo, h.sz⟩
    gi_wp2
    refine Inv.region_invR (fun s a W => ∃ gB v2, a = { tmps := #[.int .i64 N, .int .i64 d, .agg #[.slice (some ⟨c.ga, c.oa, none⟩) c.L c.ca, .slice (some ⟨c.gr, c.ro, none⟩) c.L c.cr], undef, .pointer (some ⟨w.heap.size, 0, none⟩), .pointer (some ⟨w.heap.size + 1, 0, none⟩), .slice none 0 0, .slice none 0 0, .int .i64 0, .pointer (some ⟨t9, 0, none⟩), .bool true, .pointer (some ⟨t11, 0, none⟩), .pointer (some ⟨t12, 0, none⟩), .pointer (some ⟨t12 + 1, 0, none⟩), .int .i64 (m + 1 : Nat), .tuple #[.pointer (some ⟨w.heap.size + 1 + 1, 0, none⟩), .bool true], .int .i64 N, .int .i64 d, .tuple #[.pointer (some ⟨w.heap.size + 1 + 1, 0, none⟩), .bool true], .pointer (some ⟨w.heap.size + 1 + 1, 0, none⟩), .bool true, .bool true, .bool false, .bool false, .pointer (some ⟨w.heap.size + 1 + 1, 0, none⟩), .agg #[.slice (some ⟨c.ga, c.oa, none⟩) c.L c.ca, .slice (some ⟨c.gr, c.ro, none⟩) c.L c.cr], .bool true, .bool false, .bool false, .pointer (some ⟨w.heap.size + 1 + 1, 0, none⟩), .int .i64 d, .agg #[.slice (some ⟨c.ga, c.oa, none⟩) c.L c.ca, .slice (some ⟨c.gr, c.ro, none⟩) c.L c.cr], .agg EC, .agg #[.slice (some ⟨c.ga, c.oa, none⟩) c.L c.ca, .slice (some ⟨c.gr, c.ro, none⟩) c.L c.cr], .func (.func 72) #[] #[.pointer (some ⟨t12 + 1 + 1, 0, none⟩)], .int .i64 (m + 1 : Nat), .agg #[.int .i64 (c.A m), .int .i64 (c.R m)], va, .pointer (some ⟨w.heap.size + 1 + 1, 0, none⟩), .int .i64 (m + 1 : Nat), .pointer (some ⟨t11, 0, none⟩), .pointer (some ⟨t11, m + 1, none⟩), .int .i64 (yes N d c.A c.R m : Nat), .int .i64 d, .agg #[.int .i64 (rN (yes N d c.A c.R m) X : Nat), .int .i64 (rD (yes N d c.A c.R m) X : Nat)], .slice (some ⟨g37, 0, none⟩) 1 1, v37, if s 0 = true then vr else undef, if s 1 = true then .pointer (some ⟨w.heap.size + 1 + 1, 0, none⟩) else undef, if s 2 = true then .int .i64 (m + 1 : Nat) else undef, if s 3 = true then .pointer (some ⟨t11, 37, none⟩) else undef, if s 4 = true then .pointer (some ⟨t11, 37 + (m + 1), none⟩) else undef, if s 5 = true then .int .i64 (no N d c.A c.R m : Nat) else undef, if s 6 = true then .int .i64 d else undef, if s 7 = true then .agg #[.int .i64 (rN (no N d c.A c.R m) X : Nat), .int .i64 (rD (no N d c.A c.R m) X : Nat)] else undef, if s 8 = true then .slice (some ⟨gB, 0, none⟩) 1 1 else undef, if s 9 = true then v2 else undef, undef, undef], defers := [] } ∧ ChT ⟨w, N, d, w.heap.size + 1 + 1, t9, t11, t12 + 1 + 1, wD.heap.size, c⟩ V (t12 + 1) t12 m (fun k => no N d c.A c.R k) (fun k => yes N d c.A c.R k) (m + 1) vr v37 v2 gB (s 8) (s 9) (s 10) W) hmx (by kernel_rfl) (by kernel_rfl) ?_ ?_ ?_
    · intro s hs
      refine ⟨0, undef, ?_, ?_⟩
      · simp only [hs 0 (by decide), hs 1 (by decide), hs 2 (by decide), hs 3 (by decide), hs 4 (by decide), hs 5 (by decide), hs 6 (by decide), hs 7 (by decide), hs 8 (by decide), hs 9 (by decide), hs 10 (by decide), Bool.false_eq_true, if_false]
      · rw [hs 8 (by decide), hs 9 (by decide), hs 10 (by decide)]; exact hT9
    · refine ⟨?_, ?_, ?_, ?_, ?_, ?_, ?_, ?_, ?_, ?_, ?_, trivial⟩
      · rintro s a W hun hdep hbeh ⟨gB, v2, rfl, hT⟩
        (try simp only [Nat.reduceAdd] at hun)
        have n10 : s 10 = false := hbeh 10 (by kernel_rfl)
        have ht := hT.t
        simp only [n10, Bool.false_eq_true, if_false] at ht
        have hc : W.cell? ⟨(t12 + 1), 0, none⟩ = some vr := by simp [World.cell?, ht]
        skip
        refine .inl ⟨by rfl, ?_⟩
        refine Inv.comesV_val (vr) W (by (go_simp; (try rfl); try (intro hneg; omega))) ⟨gB, v2, by (simp only [Act.put, List.setIfInBounds_toArray, List.set_cons_succ, List.set_cons_zero, Manyd.upd, Nat.reduceAdd, Nat.reduceBEq, Bool.or_false, Bool.or_true, if_true]), by simpa [Manyd.upd] using hT⟩
      · rintro s a W hun hdep hbeh ⟨gB, v2, rfl, hT⟩
        (try simp only [Nat.reduceAdd] at hun)
        have hc := hT.F.c9
        dsimp only at hc
        refine .inl ⟨by rfl, ?_⟩
        refine Inv.comesV_val (.pointer (some ⟨w.heap.size + 1 + 1, 0, none⟩)) W (by (go_simp; (try rfl); try (intro hneg; omega))) ⟨gB, v2, by (simp only [Act.put, List.setIfInBounds_toArray, List.set_cons_succ, List.set_cons_zero, Manyd.upd, Nat.reduceAdd, Nat.reduceBEq, Bool.or_false, Bool.or_true, if_true]), by simpa [Manyd.upd] using hT⟩
      · rintro s a W hun hdep hbeh ⟨gB, v2, rfl, hT⟩
        (try simp only [Nat.reduceAdd] at hun)
        refine .inl ⟨by rfl, ?_⟩
        refine Inv.comesV_val (.int .i64 (m + 1 : Nat)) W (by (go_simp; (try rfl); try (intro hneg; omega))) ⟨gB, v2, by (simp only [Act.put, List.setIfInBounds_toArray, List.set_cons_succ, List.set_cons_zero, Manyd.upd, Nat.reduceAdd, Nat.reduceBEq, Bool.or_false, Bool.or_true, if_true]), by simpa [Manyd.upd] using hT⟩
      · rintro s a W hun hdep hbeh ⟨gB, v2, rfl, hT⟩
        (try simp only [Nat.reduceAdd] at hun)
        refine .inl ⟨by rfl, ?_⟩
        refine Inv.comesV_val (.pointer (some ⟨t11, 37, none⟩)) W (by (go_simp; (try rfl); try (intro hneg; omega))) ⟨gB, v2, by (simp only [Act.put, List.setIfInBounds_toArray, List.set_cons_succ, List.set_cons_zero, Manyd.upd, Nat.reduceAdd, Nat.reduceBEq, Bool.or_false, Bool.or_true, if_true]), by simpa [Manyd.upd] using hT⟩
      · rintro s a W hun hdep hbeh ⟨gB, v2, rfl, hT⟩
        (try simp only [Nat.reduceAdd] at hun)
        have h3 : s 3 = true := Inv.depB_mem 3 hdep (by rfl)
        have h2 : s 2 = true := Inv.depB_mem 2 hdep (by rfl)
        refine .inl ⟨by rfl, ?_⟩
        refine Inv.comesV_val (.pointer (some ⟨t11, 37 + (m + 1), none⟩)) W (by (simp only [h3, h2, if_true]; go_simp; (try rfl); try (intro hneg; omega))) ⟨gB, v2, by (simp only [Act.put, List.setIfInBounds_toArray, List.set_cons_succ, List.set_cons_zero, Manyd.upd, Nat.reduceAdd, Nat.reduceBEq, Bool.or_false, Bool.or_true, if_true]), by simpa [Manyd.upd] using hT⟩
      · rintro s a W hun hdep hbeh ⟨gB, v2, rfl, hT⟩
        (try simp only [Nat.reduceAdd] at hun)
        have h4 : s 4 = true := Inv.depB_mem 4 hdep (by rfl)
        obtain ⟨hc, _⟩ := hT.F.e.cell (j := 37 + (m + 1)) (by omega)
        dsimp only at hc
        rw [tb] at hc
        refine .inl ⟨by rfl, ?_⟩
        refine Inv.comesV_val (.int .i64 (no N d c.A c.R m : Nat)) W (by (simp only [h4, if_true]; go_simp; (try rfl); try (intro hneg; omega))) ⟨gB, v2, by (simp only [Act.put, List.setIfInBounds_toArray, List.set_cons_succ, List.set_cons_zero, Manyd.upd, Nat.reduceAdd, Nat.reduceBEq, Bool.or_false, Bool.or_true, if_true]), by simpa [Manyd.upd] using hT⟩
      · rintro s a W hun hdep hbeh ⟨gB, v2, rfl, hT⟩
        (try simp only [Nat.reduceAdd] at hun)
        have hc := hT.F.c4
        dsimp only at hc
        refine .inl ⟨by rfl, ?_⟩
        refine Inv.comesV_val (.int .i64 d) W (by (go_simp; (try rfl); try (intro hneg; omega))) ⟨gB, v2, by (simp only [Act.put, List.setIfInBounds_toArray, List.set_cons_succ, List.set_cons_zero, Manyd.upd, Nat.reduceAdd, Nat.reduceBEq, Bool.or_false, Bool.or_true, if_true]), by simpa [Manyd.upd] using hT⟩
      · rintro s a W hun hdep hbeh ⟨gB, v2, rfl, hT⟩
        (try simp only [Nat.reduceAdd] at hun)
        have h1 : s 1 = true := Inv.depB_mem 1 hdep (by rfl)
        have h5 : s 5 = true := Inv.depB_mem 5 hdep (by rfl)
        have h6 : s 6 = true := Inv.depB_mem 6 hdep (by rfl)
        have hq := share_any hT.F.P (x := no N d c.A c.R m) hd (by omega)
        refine .inl ⟨by rfl, Inv.comesV_call 66 #[.pointer (some ⟨w.heap.size + 1 + 1, 0, none⟩), .int .i64 (no N d c.A c.R m : Nat), .int .i64 d] W (by (simp only [h1, h5, h6, if_true]; go_simp; try rfl)) (hq.mono fun e w5 hw5 => ⟨.agg #[.int .i64 (rN (no N d c.A c.R m) X : Nat), .int .i64 (rD (no N d c.A c.R m) X : Nat)], ?_, gB, v2, ?_, ?_⟩)⟩
        · rw [hw5.1, hX.out]; rfl
        · simp only [Act.put, List.setIfInBounds_toArray, List.set_cons_succ, List.set_cons_zero, Manyd.upd, Nat.reduceAdd, Nat.reduceBEq, Bool.or_false, Bool.or_true, if_true]
        · simpa [Manyd.upd] using hT.after hL13 hw5.2
      · rintro s a W hun hdep hbeh ⟨gB, v2, rfl, hT⟩
        (try simp only [Nat.reduceAdd] at hun)
        have h7 : s 7 = true := Inv.depB_mem 7 hdep (by rfl)
        have n9 : s 9 = false := hbeh 9 (by kernel_rfl)
        have n10 : s 10 = false := hbeh 10 (by kernel_rfl)
        rw [hun, n9, n10] at hT
        have hT2 := hT.laid hL13
        simp only [Ctx.X, hX.out] at hT2
        refine .inl ⟨by rfl, Inv.comesV_val (.slice (some ⟨W.heap.size, 0, none⟩) 1 1) (W.alloc (.cells #[.int .i64 (rN (no N d c.A c.R m) X : Nat), .int .i64 (rD (no N d c.A c.R m) X : Nat)] 27)) (by (simp only [h7, if_true]; go_simp; try rfl)) ⟨W.heap.size, v2, ?_, ?_⟩⟩
        · simp only [Act.put, List.setIfInBounds_toArray, List.set_cons_succ, List.set_cons_zero, Manyd.upd, Nat.reduceAdd, Nat.reduceBEq, Bool.or_false, Bool.or_true, if_true]
        · simpa [Manyd.upd, n9, n10] using hT2
      · rintro s a W hun hdep hbeh ⟨gB, v2, rfl, hT⟩
        (try simp only [Nat.reduceAdd] at hun)
        have h0 : s 0 = true := Inv.depB_mem 0 hdep (by rfl)
        have h8 : s 8 = true := Inv.depB_mem 8 hdep (by rfl)
        have n10 : s 10 = false := hbeh 10 (by kernel_rfl)
        rw [hun, h8, n10] at hT
        obtain ⟨v3, W3, hrun, hT3⟩ := hT.grow hL13 (by omega) (by dsimp only; omega) (by dsimp only; omega)
        refine .inl ⟨by rfl, Inv.comesV_val v3 W3 (Inv.exec_append (t := 54) (s := .tmp 47) (x := .tmp 55) rfl (by (simp only [h0, if_true]; go_simp; try rfl)) (by (simp only [h8, if_true]; go_simp; try rfl)) hrun) ⟨gB, v3, ?_, ?_⟩⟩
        · simp only [Act.put, List.setIfInBounds_toArray, List.set_cons_succ, List.set_cons_zero, Manyd.upd, Nat.reduceAdd, Nat.reduceBEq, Bool.or_false, Bool.or_true, if_true]
        · simpa [Manyd.upd, h8, n10] using hT3
      · rintro s a W hun hdep hbeh ⟨gB, v2, rfl, hT⟩
        (try simp only [Nat.reduceAdd] at hun)
        have h8 : s 8 = true := Inv.depB_mem 8 hdep (by rfl)
        have h9 : s 9 = true := Inv.depB_mem 9 hdep (by rfl)
        rw [hun, h8, h9] at hT
        have ht := hT.t
        simp only [Bool.false_eq_true, if_false] at ht
        have hc : W.cell? ⟨(t12 + 1), 0, none⟩ = some vr := by simp [World.cell?, ht]
        have hz : W.frozen? ⟨(t12 + 1), 0, none⟩ = false := by simp [World.frozen?, ht]
        rcases (hT.row1 rfl).1.2 with ⟨_, h0⟩ | ⟨gg, gc, gcur, rfl, _⟩
        · omega
        have hT3 := hT.stored hL13 (by dsimp only; omega) (by dsimp only; omega) (by omega)
        refine .inl ⟨by rfl, Inv.comesV_skip (W.setCell ⟨(t12 + 1), 0, none⟩ (.slice (some ⟨gg, 0, none⟩) (m + 1) gc)) (by (simp only [h9, if_true]; go_simp; try rfl)) ⟨gB, .slice (some ⟨gg, 0, none⟩) (m + 1) gc, ?_, ?_⟩⟩
        · simp only [Act.put, List.setIfInBounds_toArray, List.set_cons_succ, List.set_cons_zero, Manyd.upd, Nat.reduceAdd, Nat.reduceBEq, Bool.or_false, Bool.or_true, if_true]
        · simpa [Manyd.upd, h8, h9] using hT3
    rintro s a1 W9 hs ⟨g47, v47, rfl, hT47⟩
    rw [hs 8 (by decide), hs 9 (by decide), hs 10 (by decide)] at hT47
    simp only [hs 0 (by decide), hs 1 (by decide), hs 2 (by decide), hs 3 (by decide), hs 4 (by decide), hs 5 (by decide), hs 6 (by decide), hs 7 (by decide), hs 8 (by decide), hs 9 (by decide), hs 10 (by decide), if_true]
    clear hs
    gi_wp2
    refine ⟨⟨m + 1, by omega, by rw [k2'.out, bndTo_succ]; rfl, v37, v47, ⟨hT47.F, hT47.o, by simpa using hT47.t, hT47.ro, (hT47.row1 rfl).1, fun j hj e => (hT47.row1 rfl).2 j e hj, Nat.le_of_succ_le (Nat.le_of_succ_le hT47.sz)⟩⟩, ⟨hT47.vs, hT47.vn⟩, hT47.vo⟩
  case done =>
    rintro W ⟨m, va, vr, k1, k2, k3⟩ hszW hD
    have hmL : m = c.L := by
      have := congrArg List.length k2
      simp [bnds, bndTo] at this
      omega
    subst hmL
    have kt := k3.t
    have ko := k3.o
    have c12 : W.cell? ⟨t12, 0, none⟩ = some va := by simp [World.cell?, kt]
    have c13 : W.cell? ⟨t12 + 1, 0, none⟩ = some vr := by simp [World.cell?, ko]
    have k3k := Keep.mk k3
    clear k2 k3 kt ko
    go_wp2
    go_quiet (fail)
    go_wp2
    refine Qr.leaves_mark hD fun w' hk => ⟨.tuple #[va, vr, .int .i64 0], by simp [results, Try.results34, go_sem]; try go_simp, va, vr, rfl, ?_⟩
    have k4 := k3k.out.keeps hL12 n2.1 n2.2 ⟨hk.os, hk.tape, hk.output, hk.size, hk.block⟩
    exact ⟨own_mono k4.ra (by dsimp only; omega), own_mono k4.rr (by dsimp only; omega), k4.F.bw⟩
end Go.Proofs.Ytbmfipjnfbnjgaa
