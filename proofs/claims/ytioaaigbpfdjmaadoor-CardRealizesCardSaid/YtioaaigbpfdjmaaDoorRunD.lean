/-
  CRUN, part D: what reads only (readE) is what the model's operation yields.
-/
import Derived.Test.YtioaaigbpfdjmaaDoorRunC
set_option linter.unusedSimpArgs false
set_option linter.unusedVariables false
namespace Go.CRun
open Go Go.RowKit

theorem pureOf_run {α : Type} {P : Program} {s : Sem α} {x : α} (h : pureOf P s = some x) (w : World) : s.run P w = .ok x w := by
  induction s with
  | pure a => simp [pureOf] at h; subst h; rfl
  | program k ih => exact ih P h
  | mark m k ih => exact ih h
  | choose q k ih =>
    simp only [pureOf] at h
    split at h
    · rename_i hq; simp only [Sem.run, hq, if_true]; exact ih 0 h
    · cases h
  | _ => simp [pureOf] at h

structure TMR (ρ : Ren) (tm : TM) (a : Act) : Prop where
  size : tm.n = a.tmps.size
  val : ∀ i, VR ρ (tm.get i) (a.tmps.getD i undef)
  defers : a.defers = []
theorem TMR.mono {ρ ρ' : Ren} (he : Extends ρ ρ') {tm : TM} {a : Act} (h : TMR ρ tm a) : TMR ρ' tm a := ⟨h.size, fun i => (h.val i).mono he, h.defers⟩

section
variable {P : Program} {G : Globs} {N : Nat} {ρ : Ren} {h : Hp} {w : World} {tm : TM} {a : Act}

theorem evO_ok (T : TMR ρ tm a) {x : Operand} {v : Value} (hx : evO tm x = some v) : VR ρ v (a.eval x) := by
  cases x with
  | tmp t => simp [evO] at hx; subst hx; exact T.val t
  | const c =>
    simp only [evO] at hx
    split at hx
    · rename_i hf; cases hx; exact .flat hf
    · cases hx
  | global g =>
    simp only [evO] at hx
    split at hx
    · rename_i hf; cases hx; exact .flat (n := 0) (by simpa [flatN] using hf)
    · cases hx
  | func f => simp [evO] at hx; subst hx; exact .flat (n := 0) (by simp [flatN])
theorem evL_ok (T : TMR ρ tm a) : ∀ {xs : List Operand} {l : List Value}, evL tm xs = some l → LR ρ l (xs.map a.eval)
  | [], l, h => by simp [evL] at h; subst h; exact LR.nil _
  | x :: r, l, h => by
    simp only [evL] at h
    split at h
    · rename_i v l' h1 h2; cases h; exact LR.cons (evO_ok T h1) (evL_ok T h2)
    · cases h
theorem evL_mem {xs : List Operand} {l : List Value} (h : evL tm xs = some l) : ∀ x ∈ xs, ∃ v ∈ l, evO tm x = some v := by
  induction xs generalizing l with
  | nil => simp
  | cons x r ih =>
    simp only [evL] at h
    split at h
    · rename_i v l' h1 h2
      cases h
      intro y hy
      rcases List.mem_cons.1 hy with rfl | hy
      · exact ⟨v, by simp, h1⟩
      · obtain ⟨u, hu, he⟩ := ih h2 y hy; exact ⟨u, by simp [hu], he⟩
    · cases h
theorem evP_ok (T : TMR ρ tm a) : ∀ {xs : List (Nat × Operand)} {l : List (Nat × Value)}, evP tm xs = some l →
    l.map (·.1) = (xs.map fun (i, x) => (i, a.eval x)).map (·.1) ∧ LR ρ (l.map (·.2)) ((xs.map fun (i, x) => (i, a.eval x)).map (·.2))
  | [], l, h => by simp [evP] at h; subst h; exact ⟨rfl, LR.nil _⟩
  | (i, x) :: r, l, h => by
    simp only [evP] at h
    split at h
    · rename_i v l' h1 h2
      cases h
      obtain ⟨e1, e2⟩ := evP_ok T h2
      exact ⟨by simpa using e1, LR.cons (evO_ok T h1) e2⟩
    · cases h
theorem allFlat_mem : ∀ {l : List Value}, allFlat l = true → ∀ v ∈ l, flatN 6 v = true
  | [], _ => by simp
  | v :: r, h => by
    simp only [allFlat] at h
    split at h
    · rename_i hv; intro u hu; rcases List.mem_cons.1 hu with rfl | hu
      · exact hv
      · exact allFlat_mem h u hu
    · cases h

theorem pureE_ok (T : TMR ρ tm a) {o : Oper} {v : Value} (hp : pureE P tm o = some v) (w : World) : (execOp a.eval o).run P w = .ok (.value v) w ∧ VR ρ v v := by
  unfold pureE at hp
  split at hp
  · rename_i l hl
    split at hp
    · rename_i hf
      have hsel : ∀ cs b, o.op ≠ .select cs b := by
        intro cs b e; rw [e] at hp; simp at hp
      have hcong : execOp (fun x => (evO tm x).getD undef) o = execOp a.eval o := by
        refine execOp_congr o hsel fun x hx => ?_
        obtain ⟨u, hu, he⟩ := evL_mem hl x (by simpa using hx)
        simp only [he, Option.getD_some]
        exact ((evO_ok T he).flat_eq (allFlat_mem hf u hu)).symm
      rw [hcong] at hp
      have : ∃ u, pureOf P (execOp a.eval o) = some (.value u) ∧ flatN 6 u = true ∧ u = v := by
        split at hp
        · cases hp
        · split at hp
          · rename_i u hu
            split at hp
            · rename_i hfu; cases hp; exact ⟨_, hu, hfu, rfl⟩
            · cases hp
          · cases hp
      obtain ⟨u, h1, h2, rfl⟩ := this
      exact ⟨pureOf_run h1 w, .flat h2⟩
    · cases hp
  · cases hp

/-! cells -/
theorem lookG_mem : ∀ {G : Globs} {i : Nat} {vs : List Value}, lookG G i = some vs → (i, vs) ∈ G
  | [], i, vs, h => by simp [lookG] at h
  | (g, us) :: r, i, vs, h => by
    simp only [lookG] at h
    split at h
    · rename_i e; have := beq_true.1 e; subst this; cases h; simp
    · exact List.mem_cons_of_mem _ (lookG_mem h)

theorem blt_true {a b : Nat} : Nat.blt a b = true ↔ a < b := ⟨fun h => Nat.le_of_ble_eq_true h, fun h => Nat.ble_eq_true_of_le h⟩
theorem blt_false {a b : Nat} : Nat.blt a b = false ↔ b ≤ a := by
  cases h : Nat.blt a b with
  | true => have := blt_true.1 h; simp; omega
  | false => simp; exact Nat.not_lt.1 fun h' => by simp [blt_true.2 h'] at h
theorem ble_true {a b : Nat} : Nat.ble a b = true ↔ a ≤ b := ⟨Nat.le_of_ble_eq_true, Nat.ble_eq_true_of_le⟩

/-- The cell behind an address. -/
theorem cells_ok (I : Inv G N ρ h w) {ad ad' : Addr} (hv : VR ρ (.pointer (some ad)) (.pointer (some ad'))) (hs : ad.spot = none) {c : List Value} (hc : cellsOf G h ad.block = some c) :
    ad'.spot = none ∧ ∀ (j : Nat) v, c[ad.off + j]? = some v → ∃ v', w.cell? ⟨ad'.block, ad'.off + j, none⟩ = some v' ∧ VR ρ v v' := by
  unfold cellsOf at hc
  rcases hv.ptr_inv with ⟨h1, h2⟩ | ⟨h1, p, h2, h3⟩
  · cases h2
    rw [blt_true.2 h1] at hc
    simp only at hc
    obtain ⟨_, hf, hcell⟩ := I.glob _ _ (lookG_mem hc)
    refine ⟨hs, fun j v hj => ⟨v, hcell _ v hj, .flat (List.all_eq_true.1 hf _ (List.mem_of_getElem? hj))⟩⟩
  · cases h3
    rw [blt_false.2 h1] at hc
    simp only at hc
    split at hc
    · rename_i c' e sz g hg
      cases hc
      obtain ⟨p', hp', _, hok⟩ := I.dom _ _ hg (by simp)
      rw [h2] at hp'; cases hp'
      obtain ⟨_, C, lo, hi, hh, _, _, hcell⟩ := hok
      refine ⟨hs, fun j v hj => ?_⟩
      obtain ⟨v', hv', hr⟩ := hcell _ v hj
      refine ⟨v', ?_, hr⟩
      simp only [World.cell?, hh, Option.isSome_none, Bool.false_eq_true, if_false]
      rw [show p.off + ad.off + j = p.off + (ad.off + j) by omega]
      exact hv'
    · cases hc

theorem add_eq (ad : Addr) (hs : ad.spot = none) (j : Nat) : ad.add j = ⟨ad.block, ad.off + j, none⟩ := by
  obtain ⟨b, o, s⟩ := ad
  simp only at hs; subst hs
  unfold Addr.add
  split
  · rename_i e; subst e; rfl
  · rfl

theorem cellsAt_ok (I : Inv G N ρ h w) {ad ad' : Addr} (hv : VR ρ (.pointer (some ad)) (.pointer (some ad'))) {n : Nat} {l : List Value} (hc : cellsAt G h ad n = some l) :
    ∃ l', LR ρ l l' ∧ l'.length = n ∧ (loadCells ad' n).run P w = .ok l'.toArray w ∧ (∀ v r, l' = v :: r → w.cell? ad' = some v) := by
  unfold cellsAt at hc
  split at hc
  · cases hc
  · rename_i hs
    split at hc
    · cases hc
    · rename_i c hcell
      simp only at hc
      split at hc
      · rename_i hn
        have hn := beq_true.1 hn
        cases hc
        obtain ⟨hs', hk⟩ := cells_ok I hv hs hcell
        have hget : ∀ j, j < n → ∃ v v', ((c.drop ad.off).take n)[j]? = some v ∧ w.cell? ⟨ad'.block, ad'.off + j, none⟩ = some v' ∧ VR ρ v v' := by
          intro j hj
          have hlt : j < ((c.drop ad.off).take n).length := by omega
          have e := List.getElem?_eq_getElem hlt
          have e2 : c[ad.off + j]? = some ((c.drop ad.off).take n)[j] := by
            have := e
            rw [List.getElem?_take_of_lt hj, List.getElem?_drop] at this
            exact this
          obtain ⟨v', h1, h2⟩ := hk j _ e2
          exact ⟨_, v', e, h1, h2⟩
        refine ⟨(List.range n).map fun j => (w.cell? ⟨ad'.block, ad'.off + j, none⟩).getD undef, ⟨by simp [hn], ?_⟩, by simp, ?_, ?_⟩
        · intro j v v' hv1 hv2
          have hj : j < n := by have := (List.getElem?_eq_some_iff.1 hv2).1; simpa using this
          obtain ⟨u, u', h1, h2, h3⟩ := hget j hj
          rw [h1] at hv1; cases hv1
          simp [hj, h2] at hv2; subst hv2; exact h3
        · rw [run_loadCells w ad' n (fun j => (w.cell? ⟨ad'.block, ad'.off + j, none⟩).getD undef)]
          intro j hj
          obtain ⟨u, u', h1, h2, h3⟩ := hget j hj
          rw [add_eq ad' hs' j, h2]; rfl
        · intro v r hl
          have hn0 : 0 < n := by
            cases n with
            | zero => simp at hl
            | succ n => omega
          obtain ⟨u, u', h1, h2, h3⟩ := hget 0 hn0
          have : v = u' := by
            have h2' : w.cell? ⟨ad'.block, ad'.off, none⟩ = some u' := by simpa using h2
            have := congrArg (·[0]?) hl
            simp [hn0, h2'] at this
            simpa using this.symm
          subst this
          have e : ad' = ⟨ad'.block, ad'.off + 0, none⟩ := by cases ad'; simp at hs' ⊢; exact hs'
          rw [e]; exact h2
      · cases hc

theorem loadE_ok (I : Inv G N ρ h w) {ad ad' : Addr} (hv : VR ρ (.pointer (some ad)) (.pointer (some ad'))) {t : TypeId} {v : Value} (hl : loadE P G h t ad = some v) :
    ∃ v', (loadVar t ad').run P w = .ok v' w ∧ VR ρ v v' := by
  unfold loadE at hl
  split at hl
  · rename_i d i hd hi
    have hagg : (isAgg t).run P w = .ok (isAggD d) w := by
      unfold isAgg underlying
      simp [hd]
      cases d <;> rfl
    split at hl
    · rename_i hA
      split at hl
      · rename_i l hc
        cases hl
        obtain ⟨l', h1, h2, h3, h4⟩ := cellsAt_ok (P := P) I hv hc
        refine ⟨.agg l'.toArray, ?_, VR.agg_mk h1⟩
        simp [loadVar, hagg, hA, sizeOf, typeInfo, hi, h3]
      · cases hl
    · rename_i hA
      split at hl
      · rename_i u r hc
        cases hl
        obtain ⟨l', h1, h2, h3, h4⟩ := cellsAt_ok (P := P) I hv hc
        obtain ⟨u', r', rfl, h5, _⟩ := h1.cons_inv
        refine ⟨u', ?_, h5⟩
        simp [loadVar, hagg, hA, h4 u' r' rfl]
      · cases hl
  · cases hl

theorem VR.ptr_some {ad : Addr} {v' : Value} (hv : VR ρ (.pointer (some ad)) v') : ∃ ad', v' = .pointer (some ad') := by
  rcases hv.ptr_inv with ⟨_, h2⟩ | ⟨_, p, _, h3⟩
  · exact ⟨_, h2⟩
  · exact ⟨_, h3⟩
theorem VR.slice_some {ad : Addr} {l c : Nat} {v' : Value} (hv : VR ρ (.slice (some ad) l c) v') : ∃ ad' c', v' = .slice (some ad') l c' ∧ c ≤ c' ∧ VR ρ (.pointer (some ad)) (.pointer (some ad')) := by
  rcases hv.slice_inv with ⟨h1, h2⟩ | ⟨h1, p, h2, h3⟩
  · exact ⟨_, _, h2, Nat.le_refl _, .flat (n := 0) (by simp [flatN, blt_true.2 h1])⟩
  · exact ⟨_, _, h3, by omega, .ptr h1 h2⟩
/-- The address of a place behind another one. -/
theorem VR.add {ad ad' : Addr} (hv : VR ρ (.pointer (some ad)) (.pointer (some ad'))) (n : Nat) : VR ρ (.pointer (some (ad.add n))) (.pointer (some (ad'.add n))) := by
  unfold Addr.add
  split
  · exact hv
  · rcases hv.ptr_inv with ⟨h1, h2⟩ | ⟨h1, p, h2, h3⟩
    · cases h2; exact .flat (n := 0) (by simp [flatN, blt_true.2 h1])
    · cases h3
      have := VR.ptr (ρ := ρ) (b := ad.block) (o := ad.off + n) (s := none) h1 h2
      simpa [Nat.add_assoc] using this

theorem fieldAddrE_ok {t : TypeId} {x x' v : Value} {f : Nat} (hx : VR ρ x x') (hf : fieldAddrE P t x f = some v) (w : World) :
    ∃ v', (Instr.fieldAt t x' f).run P w = .ok v' w ∧ VR ρ v v' := by
  unfold fieldAddrE at hf
  split at hf
  · rename_i fields ad hd
    split at hf
    · rename_i fd hfd
      split at hf
      · rename_i i hi
        split at hf
        · cases hf
        · rename_i hn
          cases hf
          obtain ⟨ad', rfl⟩ := hx.ptr_some
          refine ⟨.pointer (some (ad'.add fd.offset)), ?_, hx.add _⟩
          simp [Instr.fieldAt, underlying, hd, hfd, Instr.sureAddr, fieldPlace, sizeOf, typeInfo, hi, beq_false.1 hn]
      · cases hf
    · cases hf
  · cases hf

theorem indexAddrE_ok {t : TypeId} {x x' ix v : Value} (hx : VR ρ x x') {ix' : Value} (hix : VR ρ ix ix') (hf : indexAddrE P t x ix = some v) (w : World) :
    ∃ v', (Instr.indexAt t x' ix').run P w = .ok v' w ∧ VR ρ v v' := by
  unfold indexAddrE at hf
  split at hf
  · rename_i len e ad k i hd
    split at hf
    · rename_i ie hlt hi
      cases hf
      obtain ⟨ad', rfl⟩ := hx.ptr_some
      rw [hix.int]
      have hlt := blt_true.1 hlt
      refine ⟨.pointer (some (ad'.add (i * ie.size))), ?_, hx.add _⟩
      simp [Instr.indexAt, asIntOf, underlying, hd, Instr.sureAddr, sizeOf, typeInfo, hi, hlt]
    · cases hf
  · rename_i e ad len cap k i hd
    split at hf
    · rename_i ie hlt hi
      cases hf
      obtain ⟨ad', c', rfl, _, hv⟩ := hx.slice_some
      rw [hix.int]
      have hlt := blt_true.1 hlt
      refine ⟨.pointer (some (ad'.add (i * ie.size))), ?_, hv.add _⟩
      simp [Instr.indexAt, asIntOf, underlying, hd, Instr.sureAddr, sizeOf, typeInfo, hi, hlt]
    · cases hf
  · cases hf

theorem partE_ok {t : TypeId} {cs cs' : List Value} (hc : LR ρ cs cs') {off : Nat} {v : Value} (hp : partE P t cs off = some v) (w : World) :
    ∃ v', (part t cs'.toArray off).run P w = .ok v' w ∧ VR ρ v v' := by
  unfold partE at hp
  split at hp
  · rename_i d i hd hi
    have hagg : (isAgg t).run P w = .ok (isAggD d) w := by
      unfold isAgg underlying
      simp [hd]
      cases d <;> rfl
    split at hp
    · rename_i hA
      cases hp
      refine ⟨.agg ((cs'.drop off).take i.size).toArray, ?_, VR.agg_mk ((hc.drop off).take i.size)⟩
      simp [part, hagg, hA, sizeOf, typeInfo, hi, List.extract_eq_take_drop]
    · rename_i hA
      have hv : cs[off]? = some v := by simpa [List.head?_drop] using hp
      obtain ⟨v', h1, h2⟩ := hc.get hv
      refine ⟨v', ?_, h2⟩
      simp [part, hagg, hA, h1]
  · cases hp

theorem fieldE_ok {t : TypeId} {x x' v : Value} {f : Nat} (hx : VR ρ x x') (hf : fieldE P t x f = some v) (w : World) :
    ∃ v', (Instr.field t x' f).run P w = .ok v' w ∧ VR ρ v v' := by
  unfold fieldE at hf
  split at hf
  · rename_i fields cs hd
    split at hf
    · rename_i fd hfd
      obtain ⟨cs', rfl, hc⟩ := hx.agg_inv
      obtain ⟨v', h1, h2⟩ := partE_ok hc hf w
      refine ⟨v', ?_, h2⟩
      simp only [Array.toArray_toList] at h1
      simp [Instr.field, underlying, hd, hfd, asAgg, h1]
    · cases hf
  · cases hf

/-- Two bounds that may be left out. -/
def OR (ρ : Ren) (x x' : Option Value) : Prop := match x, x' with | none, none => True | some u, some u' => VR ρ u u' | _, _ => False
theorem boundE_ok {x x' : Option Value} (hx : OR ρ x x') {d y y' n : Nat} (hb : boundE x d y = some n) (hy : y ≤ y') (code : BoundsCode) (w : World) :
    (match x' with | some v => Instr.sliceBound v y' code | none => pure d).run P w = .ok n w ∧ (n = d ∧ x = none ∨ n ≤ y) := by
  unfold boundE at hb
  split at hb
  · cases hb
    cases x' with
    | none => exact ⟨rfl, .inl ⟨rfl, rfl⟩⟩
    | some _ => exact (show False from hx).elim
  · rename_i k i
    split at hb
    · rename_i hle
      cases hb
      cases x' with
      | none => exact (show False from hx).elim
      | some v =>
        have := VR.int (show VR ρ _ _ from hx)
        subst this
        have hle := ble_true.1 hle
        refine ⟨?_, .inr hle⟩
        have : (n : Int) ≤ y' := by omega
        simp [Instr.sliceBound, asIntOf, this]
    · cases hb
  · cases hb
end
end Go.CRun
