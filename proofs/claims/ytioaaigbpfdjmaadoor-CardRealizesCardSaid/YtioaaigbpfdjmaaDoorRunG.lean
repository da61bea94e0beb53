/-
  CRUN, part G: what reads only, the last operations, and all of it together.
-/
import Derived.Test.YtioaaigbpfdjmaaDoorRunF
set_option linter.unusedSimpArgs false
set_option linter.unusedVariables false
namespace Go.CRun
open Go Go.RowKit
section
variable {P : Program} {G : Globs} {N : Nat} {ρ : Ren} {h : Hp} {w : World} {tm : TM} {a : Act}

theorem run_getObj_any {r : Nat} {o : Obj} (hh : w.heap[r]? = some o) (ho : ∀ c e f, o ≠ .cells c e f) : (getObj r).run P w = .ok o w := by
  cases o <;> first | exact absurd rfl (ho _ _ _) | simp [getObj, Sem.run, hh]

def MiterAt (ρ : Ren) (m m' : Option Nat) : Prop := match m with | none => m' = none | some r => base ≤ r ∧ ∃ q, ρ (r - base) = some q ∧ m' = some q.blk
theorem miter_ok (I : Inv G N ρ h w) {b o : Nat} {s : Option Nat} {v' : Value} (hv : VR ρ (.pointer (some ⟨b, o, s⟩)) v') (hb : Nat.blt b base = false) {m : Option Nat} {since last : Nat} {seen : List Nat}
    (hg : h.get (b - base) = some (.miter m since seen last)) :
    ∃ p m', ρ (b - base) = some p ∧ p.off = 0 ∧ v' = .pointer (some ⟨p.blk, o, s⟩) ∧ w.heap[p.blk]? = some (.mapIter m' since seen.toArray last) ∧ MiterAt ρ m m' := by
  rcases hv.ptr_inv with ⟨g, _⟩ | ⟨g, p, h2, h3⟩
  · have := blt_false.1 hb; simp at g; omega
  · obtain ⟨p', hp', _, hok⟩ := I.dom _ _ hg (by simp)
    simp only at h2 h3
    rw [h2] at hp'; cases hp'
    obtain ⟨m', h4, h5, h6⟩ := hok
    exact ⟨p, m', h2, h5, by rw [h3, h5]; simp, h4, h6⟩

theorem entryE_ok (I : Inv G N ρ h w) {x x' v : Value} (hx : VR ρ x x') (he : entryE h x = some v) : (Instr.entry x').run P w = .ok v w ∧ VR ρ v v := by
  unfold entryE at he
  split at he
  · rename_i b s
    split at he
    · rename_i m since seen last hb hg
      split at he
      · rename_i es clock stamp hmb hgm hst
        split at he
        · rename_i hcl
          have hcl := beq_true.1 hcl
          split at he
          · rename_i e hf
            split at he
            · rename_i hk hv
              cases he
              obtain ⟨p, m', h1, h2, rfl, h4, h5⟩ := miter_ok I hx hb hg
              obtain ⟨h6, q, h7, rfl⟩ := h5
              obtain ⟨q', hq', _, hok⟩ := I.dom _ _ hgm (by simp)
              rw [h7] at hq'; cases hq'
              refine ⟨?_, .flat (n := 7) (by simp [flatN, hk, hv])⟩
              have g1 := run_getObj_any (P := P) h4 (by intro _ _ _ h; cases h)
              have g2 := run_getObj_any (P := P) hok (by intro _ _ _ h; cases h)
              have hf' : es.find? (fun e => e.born == stamp) = some e := by
                rw [← hf]; congr 1; funext e; rw [Bool.eq_iff_iff, beq_true]; simp
              subst hcl
              simp [Instr.entry, g1, g2, hst, hf']
            · cases he
          · cases he
        · cases he
      · cases he
    · cases he
  · cases he

theorem bytesE_spec : ∀ (l : List Value) (acc s : ByteArray), bytesE l acc = some s → ∃ ns : List Int, l = ns.map (Value.int .u8) ∧ s = ns.foldl (fun r n => r.push (UInt8.ofNat n.toNat)) acc
  | [], acc, s, h => by simp [bytesE] at h; exact ⟨[], rfl, h.symm⟩
  | v :: r, acc, s, h => by
    unfold bytesE at h
    split at h
    · rename_i e; cases e
    · rename_i e; cases e
      obtain ⟨ns, h1, h2⟩ := bytesE_spec _ _ _ h
      exact ⟨_ :: ns, by rw [h1]; rfl, by rw [h2]; rfl⟩
    · cases h
theorem LR.ints {l' : List Value} {k : IntKind} {ns : List Int} (hl : LR ρ (ns.map (Value.int k)) l') : l' = ns.map (Value.int k) := by
  induction ns generalizing l' with
  | nil => exact hl.nil_inv
  | cons n ns ih => obtain ⟨v', t, rfl, h1, h2⟩ := hl.cons_inv; rw [h1.int, ih h2]; rfl

theorem convE_ok (I : Inv G N ρ h w) {src dst : TypeId} {b : Option Addr} {l c : Nat} {x' v : Value} (hx : VR ρ (.slice b l c) x') (he : convE P G h src dst (.slice b l c) = some v) :
    (convert src dst x').run P w = .ok v w ∧ VR ρ v v := by
  unfold convE at he
  split at he
  · rename_i e l0 c0 hs hd hx0
    split at he
    · rename_i hu
      cases he
      cases hx0
      rw [hx.nilSlice]
      refine ⟨?_, .flat (n := 0) rfl⟩
      simp [convert, underlying, hs, hd, hu, Conv.bytesToString]
    · cases he
  · rename_i e ad n c0 hs hd hx0
    cases hx0
    split at he
    · rename_i lst hu hl
      split at he
      · rename_i s hb
        cases he
        obtain ⟨ns, rfl, rfl⟩ := bytesE_spec _ _ _ hb
        obtain ⟨ad', c', rfl, _, hv⟩ := hx.slice_some
        refine ⟨?_, .flat (n := 0) rfl⟩
        have hload : (loadCells ad' l).run P w = .ok (ns.map (Value.int .u8)).toArray w := by
          split at hl
          · rename_i hn
            have := beq_true.1 hn
            subst this
            injection hl with hl
            rw [← hl]
            rfl
          · obtain ⟨l', h1, h2, h3, _⟩ := cellsAt_ok (P := P) I hv hl
            rw [h1.ints] at h3
            exact h3
        have := run_bytesToString (P := P) w ad' l c' ns hload
        simp [convert, underlying, hs, hd, hu, this]
      · cases he
    · cases he
  · cases he

theorem lenK_ok (I : Inv G N ρ h w) (T : TMR ρ tm a) {o : Oper} {c : Call} (ho : o.op = .call c) (hc : c.callee = .builtin .len) {v : Value} (hl : lenK P tm h o c = some v) :
    (execOp a.eval o).run P w = .ok (.value v) w ∧ VR ρ v v := by
  have hex : ∀ (u : Value), (Builtin.len_ c.argTypes o.type (c.args.map a.eval)).run P w = .ok u w → (execOp a.eval o).run P w = .ok (.value u) w := by
    intro u hu
    simp [execOp, ho, resolve, hc, invoke, builtin, hu]
  have hat : ∀ {l : List Value}, LR ρ l (c.args.toList.map a.eval) → ∀ x r, l = x :: r → ∃ x', (c.args.map a.eval)[0]? = some x' ∧ VR ρ x x' := by
    intro l hl x r e
    subst e
    obtain ⟨x', t, h1, h2, _⟩ := hl.cons_inv
    refine ⟨x', ?_, h2⟩
    have : (c.args.map a.eval).toList = x' :: t := by simpa using h1
    rw [← Array.getElem?_toList, this]; rfl
  have hty : ∀ t r, c.argTypes.toList = t :: r → c.argTypes[0]? = some t := by
    intro t r e; rw [← Array.getElem?_toList, e]; rfl
  unfold lenK at hl
  split at hl
  · rename_i b n cap r t rt h1 h2
    split at hl
    · rename_i e hd
      cases hl
      obtain ⟨x', hx, hv⟩ := hat (evL_ok T h1) _ _ rfl
      have : ∃ b' c', x' = .slice b' n c' := by
        cases b with
        | none => exact ⟨_, _, hv.nilSlice⟩
        | some ad => obtain ⟨ad', c', h, _⟩ := hv.slice_some; exact ⟨_, _, h⟩
      obtain ⟨b', c', rfl⟩ := this
      refine ⟨hex _ ?_, .flat (n := 0) rfl⟩
      simp [Builtin.len_, hty t rt h2, hx, underlying, hd, goInt]
    · cases hl
  · rename_i m r t rt h1 h2
    split at hl
    · rename_i kt et es hd hm
      cases hl
      obtain ⟨x', hx, hv⟩ := hat (evL_ok T h1) _ _ rfl
      refine ⟨hex _ ?_, .flat (n := 0) rfl⟩
      rcases mapOf_ok I hv hm with ⟨rfl, rfl⟩ | ⟨r, clock, rfl, hh⟩
      · simp [Builtin.len_, hty t rt h2, hx, underlying, hd, goInt]
      · simp [Builtin.len_, hty t rt h2, hx, underlying, hd, goInt, run_getObj_map hh]
    · cases hl
  · exact pureE_ok T hl w

/-! composite literals -/
theorem foldl_set_ok {off : Nat} : ∀ (l l' : List (Value × Nat)) (cs cs' : Array Value), LR ρ (l.map (·.1)) (l'.map (·.1)) → l.map (·.2) = l'.map (·.2) → LR ρ cs.toList cs'.toList →
    LR ρ (l.foldl (fun cs (c, j) => cs.setIfInBounds (off + j) c) cs).toList (l'.foldl (fun cs (c, j) => cs.setIfInBounds (off + j) c) cs').toList ∧
      (l.foldl (fun cs (c, j) => cs.setIfInBounds (off + j) c) cs).size = cs.size
  | [], l', cs, cs', h1, h2, h3 => by
    have : l' = [] := by simpa using h1.nil_inv
    subst this; exact ⟨h3, rfl⟩
  | (c, j) :: l, l', cs, cs', h1, h2, h3 => by
    cases l' with
    | nil => simp at h2
    | cons x l' =>
      obtain ⟨c', j'⟩ := x
      simp at h2
      obtain ⟨rfl, h2⟩ := h2
      obtain ⟨v', t, e, h4, h5⟩ := h1.cons_inv
      simp at e
      obtain ⟨rfl, rfl⟩ := e
      have := foldl_set_ok (off := off) l l' (cs.setIfInBounds (off + j) c) (cs'.setIfInBounds (off + j) c') h5 h2 (by simpa using h3.set (off + j) h4)
      exact ⟨this.1, this.2.trans (by simp)⟩

theorem fill_ok (place : Nat → Option (Nat × Nat)) : ∀ (ps ps' : List (Nat × Value)) (cs cs' r : Array Value), ps.map (·.1) = ps'.map (·.1) → LR ρ (ps.map (·.2)) (ps'.map (·.2)) → LR ρ cs.toList cs'.toList →
    Instr.fill place cs ps = some r → ∃ r', Instr.fill place cs' ps' = some r' ∧ LR ρ r.toList r'.toList
  | [], ps', cs, cs', r, h1, h2, h3, h => by
    have : ps' = [] := by simpa using h2.nil_inv
    subst this
    simp [Instr.fill] at h; subst h
    exact ⟨cs', rfl, h3⟩
  | (i, v) :: ps, ps', cs, cs', r, h1, h2, h3, h => by
    cases ps' with
    | nil => simp at h1
    | cons x ps' =>
      obtain ⟨i', v'⟩ := x
      simp at h1
      obtain ⟨rfl, h1⟩ := h1
      obtain ⟨u, t, e, h4, h5⟩ := h2.cons_inv
      simp at e
      obtain ⟨rfl, rfl⟩ := e
      simp only [Instr.fill] at h ⊢
      split at h
      · cases h
      · rename_i off size hp
        have hc := h4.cells
        have hsz : v'.cells.size = v.cells.size := by simpa using hc.1.symm
        have hsz2 : cs'.size = cs.size := by simpa using h3.1.symm
        simp only [hsz, hsz2]
        split at h
        · cases h
        · rename_i hcond
          rw [if_neg hcond]
          have hf := foldl_set_ok (ρ := ρ) (off := off) v.cells.zipIdx.toList v'.cells.zipIdx.toList cs cs' (by simpa using hc)
            (by simp [hsz]) h3
          simp only [← Array.foldl_toList] at h ⊢
          exact fill_ok place ps ps' _ _ r h1 h5 hf.1 h

theorem mapM_fields {fields : List Field} {places : List (Nat × Nat)} (hm : fields.mapM (fun f => (P.info? f.type).map fun i => (f.offset, i.size)) = some places) (w : World) :
    (fields.mapM (m := Sem) fun f => do pure (f.offset, ← sizeOf f.type)).run P w = .ok places w := by
  induction fields generalizing places with
  | nil => simp at hm; subst hm; rfl
  | cons f r ih =>
    simp only [List.mapM_cons] at hm ⊢
    cases hi : P.info? f.type with
    | none => simp [hi] at hm
    | some i =>
      cases hr : r.mapM (fun f => (P.info? f.type).map fun i => (f.offset, i.size)) with
      | none => simp [hi, hr] at hm
      | some ps =>
        simp [hi, hr] at hm
        subst hm
        have := ih hr
        have hs : (sizeOf f.type).run P w = .ok i.size w := by simp [sizeOf, typeInfo, hi]
        simp only [Sem.run_bind, hs, Result.andThen_ok, Sem.run_pure, this]

theorem parts_eq (T : TMR ρ tm a) (parts : Array (Nat × Operand)) : (parts.map fun (i, x) => (i, a.eval x)).toList = parts.toList.map fun (i, x) => (i, a.eval x) := by simp

/-- What has been computed is what the operation yields, in any world that the abstract one speaks of. -/
theorem readE_ok (I : Inv G N ρ h w) (T : TMR ρ tm a) {o : Oper} {v : Value} (hr : readE P G tm h o = some v) :
    ∃ v', (execOp a.eval o).run P w = .ok (.value v') w ∧ VR ρ v v' := by
  have lift : ∀ {s : Sem Value} {v' : Value}, s.run P w = .ok v' w → ((do pure (.value (← s))) : Sem Next).run P w = .ok (.value v') w := by
    intro s v' hs; simp [hs]
  unfold readE at hr
  split at hr
  case h_1 x ho => exact ⟨a.eval x, by simp [execOp, ho], evO_ok T hr⟩
  case h_2 x ho => exact ⟨a.eval x, by simp [execOp, ho], evO_ok T hr⟩
  case h_3 c x y ho =>
    split at hr
    · rename_i hc
      have := (evO_ok T hc).bool
      exact ⟨a.eval x, by simp [execOp, ho, this, asBool], evO_ok T hr⟩
    · rename_i hc
      have := (evO_ok T hc).bool
      exact ⟨a.eval y, by simp [execOp, ho, this, asBool], evO_ok T hr⟩
    · cases hr
  case h_4 t parts ho =>
    split at hr
    · rename_i ps z fields hp hz hd
      split at hr
      · rename_i places hm
        split at hr
        · rename_i cs hf
          cases hr
          obtain ⟨⟨i, hi, hzz⟩, hfz⟩ := zeroE_ok hz
          obtain ⟨e1, e2⟩ := evP_ok T hp
          obtain ⟨r', h1, h2⟩ := fill_ok (ρ := ρ) _ ps (parts.toList.map fun (i, x) => (i, a.eval x)) z.cells z.cells cs e1 e2 (VR.flat (ρ := ρ) hfz).cells hf
          refine ⟨.agg r', ?_, by simpa using VR.agg_mk h2⟩
          have hmm := mapM_fields hm w
          have hpl : (fields.mapM (m := Sem) fun f => do pure (f.offset, ← sizeOf f.type)).run P w = .ok places.toArray w := by
            rw [Array.mapM_eq_mapM_toList]; simp only [Sem.run_map, hmm, Result.andThen_ok]
          have hb : (Instr.build t (parts.map fun (i, x) => (i, a.eval x))).run P w = .ok (.agg r') w := by
            simp only [Instr.build, zeroValue, typeInfo, underlying, Sem.run_bind, run_program, Result.andThen_ok, hi, hzz, hd, Sem.run_pure, hpl]
            have : Instr.fill (fun x => places.toArray[x]?) z.cells (parts.map fun (i, x) => (i, a.eval x)).toList = some r' := by
              rw [parts_eq T]; simpa using h1
            rw [this]; rfl
          simp only [execOp, ho]; exact lift hb
        · cases hr
      · cases hr
    · rename_i ps z len e hp hz hd
      split at hr
      · rename_i ie hie
        split at hr
        · rename_i cs hf
          cases hr
          obtain ⟨⟨i, hi, hzz⟩, hfz⟩ := zeroE_ok hz
          obtain ⟨e1, e2⟩ := evP_ok T hp
          obtain ⟨r', h1, h2⟩ := fill_ok (ρ := ρ) _ ps (parts.toList.map fun (i, x) => (i, a.eval x)) z.cells z.cells cs e1 e2 (VR.flat (ρ := ρ) hfz).cells hf
          refine ⟨.agg r', ?_, by simpa using VR.agg_mk h2⟩
          have hs : (sizeOf e).run P w = .ok ie.size w := by simp [sizeOf, typeInfo, hie]
          have hb : (Instr.build t (parts.map fun (i, x) => (i, a.eval x))).run P w = .ok (.agg r') w := by
            simp only [Instr.build, zeroValue, typeInfo, underlying, Sem.run_bind, run_program, Result.andThen_ok, hi, hzz, hd, Sem.run_pure, hs]
            have : Instr.fill (fun i => some (i * ie.size, ie.size)) z.cells (parts.map fun (i, x) => (i, a.eval x)).toList = some r' := by
              rw [parts_eq T]; exact h1
            rw [this]; rfl
          simp only [execOp, ho]; exact lift hb
        · cases hr
      · cases hr
    · cases hr
  case h_5 t x ho =>
    split at hr
    · rename_i ad hx
      obtain ⟨ad', e⟩ := (evO_ok T hx).ptr_some
      have hv := evO_ok T hx
      rw [e] at hv
      obtain ⟨v', h1, h2⟩ := loadE_ok (P := P) I hv hr
      refine ⟨v', ?_, h2⟩
      simp only [execOp, ho]; exact lift (by simp [Instr.loadAt, Instr.sureAddr, e, h1])
    · cases hr
  case h_6 x ho =>
    split at hr
    · rename_i ad hx
      cases hr
      obtain ⟨ad', e⟩ := (evO_ok T hx).ptr_some
      have hv := evO_ok T hx
      refine ⟨_, ?_, hv⟩
      simp [execOp, ho, e]
    · rename_i f fa fb hx
      cases hr
      have hv := evO_ok T hx
      obtain ⟨fa', fb', e, _⟩ := hv.func_inv
      refine ⟨_, ?_, hv⟩
      simp [execOp, ho, e]
    · cases hr
  case h_7 fn first captured ho =>
    split at hr
    · rename_i l1 l2 h1 h2
      cases hr
      have e1 := evL_ok T h1
      have e2 := evL_ok T h2
      refine ⟨.func fn (first.map a.eval) (captured.map a.eval), by simp [execOp, ho, Instr.makeFunc], ?_⟩
      exact .func (by simpa using e1.1) (fun i v v' a1 a2 => e1.2 i v v' (by simpa using a1) (by rw [← Array.getElem?_toList] at a2; simpa using a2))
        (by simpa using e2.1) (fun i v v' a1 a2 => e2.2 i v v' (by simpa using a1) (by rw [← Array.getElem?_toList] at a2; simpa using a2))
    · cases hr
  case h_8 t x lo hi ho =>
    split at hr
    · obtain ⟨h1, h2⟩ := pureE_ok T hr w
      exact ⟨v, h1, h2⟩
    · rename_i u ulo uhi hns hx hlo hhi
      have hb : ∀ {x : Option Operand} {u : Option Value}, evOp tm x = some u → OR ρ u (x.map a.eval) := by
        intro x u hu
        cases x with
        | none => simp [evOp] at hu; subst hu; trivial
        | some x =>
          simp only [evOp, Option.map_eq_some_iff] at hu
          obtain ⟨y, hy, rfl⟩ := hu
          exact evO_ok T hy
      obtain ⟨v', h1, h2⟩ := sliceE_ok (P := P) I (evO_ok T hx) (hb hlo) (hb hhi) hr
      refine ⟨v', ?_, h2⟩
      simp only [execOp, ho]; exact lift (by simpa using h1)
    · cases hr
  case h_9 t x f ho =>
    split at hr
    · rename_i u hx
      obtain ⟨v', h1, h2⟩ := fieldAddrE_ok (evO_ok T hx) hr w
      refine ⟨v', ?_, h2⟩
      simp only [execOp, ho]; exact lift h1
    · cases hr
  case h_10 t x f ho =>
    split at hr
    · rename_i u hx
      obtain ⟨v', h1, h2⟩ := fieldE_ok (evO_ok T hx) hr w
      refine ⟨v', ?_, h2⟩
      simp only [execOp, ho]; exact lift h1
    · cases hr
  case h_11 t x i ho =>
    split at hr
    · rename_i u ui hx hi
      obtain ⟨v', h1, h2⟩ := indexAddrE_ok (evO_ok T hx) (evO_ok T hi) hr w
      refine ⟨v', ?_, h2⟩
      simp only [execOp, ho]; exact lift h1
    · cases hr
  case h_12 x i ho =>
    split at hr
    · rename_i vs hx
      obtain ⟨vs', e, hl⟩ := (evO_ok T hx).tuple_inv
      obtain ⟨v', h1, h2⟩ := hl.get (i := i) (by simpa using hr)
      refine ⟨v', ?_, h2⟩
      have h1' : vs'[i]? = some v' := by simpa using h1
      simp only [execOp, ho]; exact lift (by simp [Instr.extract, e, h1'])
    · cases hr
  case h_13 i ho =>
    split at hr
    · rename_i u hx
      obtain ⟨h1, h2⟩ := entryE_ok (P := P) I (evO_ok T hx) hr
      refine ⟨v, ?_, h2⟩
      simp only [execOp, ho]; exact lift h1
    · cases hr
  case h_14 t x i ok ho =>
    split at hr
    · rename_i u k hx hi
      obtain ⟨h1, h2⟩ := lookupE_ok (P := P) I (evO_ok T hx) (evO_ok T hi) hr
      refine ⟨v, ?_, h2⟩
      simp only [execOp, ho]; exact lift h1
    · cases hr
  case h_15 op t x y yt ho =>
    split at hr
    · rename_i j u k u2 hx hy
      split at hr
      · rename_i v2 hi
        cases hr
        have ex := (evO_ok T hx).int
        have ey := (evO_ok T hy).int
        obtain ⟨h1, h2⟩ := intE_ok (ρ := ρ) hi t w
        refine ⟨v, ?_, h2⟩
        simp only [execOp, ho, ex, ey]
        refine lift ?_
        have hg : (eqGuard op t x y (.int j u) (.int k u2)).run P w = .ok () w := by unfold eqGuard; split <;> rfl
        simp only [Sem.run_bind, hg, Result.andThen_ok]; exact h1
      · obtain ⟨h1, h2⟩ := pureE_ok T hr w
        exact ⟨v, h1, h2⟩
    · rename_i u u2 hni hx hy
      split at hr
      · split at hr
        · rename_i r hn
          cases hr
          obtain ⟨h1, h2, _, h4⟩ := nilEq_ok (P := P) (evO_ok T hx) (evO_ok T hy) hn w
          refine ⟨_, ?_, .flat (n := 0) rfl⟩
          simp only [execOp, ho]
          exact lift (by simp [h4, h2, h1])
        · obtain ⟨h1, h2⟩ := pureE_ok T hr w
          exact ⟨v, h1, h2⟩
      · split at hr
        · rename_i r hn
          cases hr
          obtain ⟨h1, _, h3, h4⟩ := nilEq_ok (P := P) (evO_ok T hx) (evO_ok T hy) hn w
          refine ⟨_, ?_, .flat (n := 0) rfl⟩
          simp only [execOp, ho]
          exact lift (by simp [h4, h3, h1, notB_eq])
        · obtain ⟨h1, h2⟩ := pureE_ok T hr w
          exact ⟨v, h1, h2⟩
      · obtain ⟨h1, h2⟩ := pureE_ok T hr w
        exact ⟨v, h1, h2⟩
    · cases hr
  case h_16 => obtain ⟨h1, h2⟩ := pureE_ok T hr w; exact ⟨v, h1, h2⟩
  case h_17 => obtain ⟨h1, h2⟩ := pureE_ok T hr w; exact ⟨v, h1, h2⟩
  case h_18 src dst x ho =>
    split at hr
    · rename_i b l c hx
      obtain ⟨h1, h2⟩ := convE_ok (P := P) I (evO_ok T hx) hr
      refine ⟨v, ?_, h2⟩
      simp only [execOp, ho]; exact lift h1
    · obtain ⟨h1, h2⟩ := pureE_ok T hr w
      exact ⟨v, h1, h2⟩
  case h_19 c ho =>
    split at hr
    · rename_i hc
      obtain ⟨h1, h2⟩ := lenK_ok (P := P) I T ho hc hr
      exact ⟨v, h1, h2⟩
    · obtain ⟨h1, h2⟩ := pureE_ok T hr w
      exact ⟨v, h1, h2⟩
    · obtain ⟨h1, h2⟩ := pureE_ok T hr w
      exact ⟨v, h1, h2⟩
    · cases hr
  case h_20 => cases hr
end
end Go.CRun
