/-
  SEQ, part F: as part E; beside it an operation knows that nothing that has to come behind it has been taken: so a cell may be read, and stored behind that.
-/
import Derived.Test.YtbocmbhinjkjlaaSeqE
set_option linter.unusedSimpArgs false
set_option linter.unusedVariables false
namespace Go.Seq.Manyd
open Go Go.RowKit Go.Seq
section
variable {P : Program} {ops : Array Oper} {md : Region.Mode} {C : (Nat → Bool) → World → Prop}
def upd (s : Nat → Bool) (i : Nat) : Nat → Bool := fun j => s j || i == j
def dep (md : Region.Mode) (ops : Array Oper) (i p : Nat) : Bool := match ops[p]? with | some o => o.after.any (fun e => Region.binds md e && e.on == i) | none => false
def Tr (P : Program) (md : Region.Mode) (ops : Array Oper) (C : (Nat → Bool) → World → Prop) (i : Nat) (o : Oper) (a : Act) (v : Value) : Prop :=
  ∀ s w, s i = false → (∀ p, dep md ops i p = true → s p = false) → C s w → Comes P (C (upd s i)) v ((execOp a.eval o).run P w)
def YT (P : Program) (md : Region.Mode) (ops : Array Oper) (C : (Nat → Bool) → World → Prop) (i : Nat) (o : Oper) (a : Act) (v : Value) : Prop :=
  (Region.wanted o (yielded ops a.tmps) = true ∧ Tr P md ops C i o a v) ∨ (Region.wanted o (yielded ops a.tmps) = false ∧ (∀ s w, C s w → C (upd s i) w) ∧ v = undef)
def opT (P : Program) (md : Region.Mode) (ops : Array Oper) (C : (Nat → Bool) → World → Prop) (i : Nat) (K : Act → Prop) (a : Act) : Prop :=
  ∃ o v, ops[i]? = some o ∧ YT P md ops C i o a v ∧ K (a.put o.dst v)
def anyT (P : Program) (md : Region.Mode) (ops : Array Oper) (C : (Nat → Bool) → World → Prop) (Q : Act → Prop) : Nat → Array Bool → Act → Prop
  | 0, listed, a => Region.ready md ops listed = [] ∧ (∀ j, j < ops.size → listed.getD j true = true) ∧ Q a
  | fuel + 1, listed, a => (Region.ready md ops listed = [] → (∀ j, j < ops.size → listed.getD j true = true) ∧ Q a) ∧
    ∀ i ∈ Region.ready md ops listed, opT P md ops C i (anyT P md ops C Q fuel (listed.setIfInBounds i true)) a
def lexT (P : Program) (md : Region.Mode) (ops : Array Oper) (C : (Nat → Bool) → World → Prop) (Q : Act → Prop) : Nat → List Oper → Act → Prop
  | _, [], a => Q a
  | k, o :: rest, a => ∃ v, YT P md ops C k o a v ∧ lexT P md ops C Q (k + 1) rest (a.put o.dst v)
theorem opT_mono {i : Nat} {a : Act} {K K' : Act → Prop} (h : ∀ a, K a → K' a) (hh : opT P md ops C i K a) : opT P md ops C i K' a :=
  let ⟨o, v, h1, h2, h3⟩ := hh; ⟨o, v, h1, h2, h _ h3⟩
theorem YT.same {i : Nat} {o : Oper} {v : Value} {a a' : Act} (hy : YT P md ops C i o a v) (he : execOp a'.eval o = execOp a.eval o)
    (hw : Region.wanted o (yielded ops a'.tmps) = Region.wanted o (yielded ops a.tmps)) : YT P md ops C i o a' v := by
  unfold YT Tr at *
  rw [he, hw]; exact hy
theorem opT_put {i j : Nat} {oi oj : Oper} {v : Value} (hj : ops[j]? = some oj) (hap : oi.apart ops oj = true)
    (hsi : ∀ cs b, oi.op ≠ .select cs b) (hsj : ∀ cs b, oj.op ≠ .select cs b) {K : Act → Prop} {a : Act}
    (hy : YT P md ops C i oi a v) (h : opT P md ops C j K (a.put oi.dst v)) :
    opT P md ops C j (fun a' => YT P md ops C i oi a' v ∧ K (a'.put oi.dst v)) a := by
  obtain ⟨h1, h2, h3⟩ := Oper.apart_spec hap
  obtain ⟨o, u, ho, hu, hK⟩ := h
  obtain rfl : oj = o := Option.some.inj (hj.symm.trans ho)
  refine ⟨oj, u, hj, hu.same (execOp_put oj hsj a oi.dst v h1).symm (wanted_put oj a oi.dst v h1).symm, ?_, ?_⟩
  · exact hy.same (execOp_put oi hsi a oj.dst u h3) (wanted_put oi a oj.dst u h3)
  · rw [← Act.put_comm a v u h2]; exact hK
theorem anyT_first {Q : Act → Prop} {i : Nat} {oi : Oper} {v : Value} (hi : ops[i]? = some oi) (hsel : ∀ (j : Nat) (o : Oper) cs b, ops[j]? = some o → o.op ≠ .select cs b) :
    ∀ (fuel : Nat) (listed : Array Bool) (a : Act),
      (∀ j oj, ops[j]? = some oj → j ≠ i → listed.getD j true = false → (∀ e ∈ oj.after, Region.binds md e = true → e.on ≠ i) → oi.apart ops oj = true) →
      i ∈ Region.ready md ops listed → YT P md ops C i oi a v →
      anyT P md ops C Q fuel (listed.setIfInBounds i true) (a.put oi.dst v) → anyT P md ops C Q (fuel + 1) listed a
  | 0, listed, a, _, hr, hy, H => by
    refine ⟨fun h => (by rw [h] at hr; cases hr), fun j hj => ?_⟩
    by_cases hji : j = i
    · subst hji; exact ⟨oi, v, hi, hy, H⟩
    · have := ready_mono hj hji
      rw [H.1] at this; cases this
  | fuel + 1, listed, a, hfree, hr, hy, H => by
    refine ⟨fun h => (by rw [h] at hr; cases hr), fun j hj => ?_⟩
    by_cases hji : j = i
    · subst hji; exact ⟨oi, v, hi, hy, H⟩
    · have h1 := H.2 j (ready_mono hj hji)
      obtain ⟨hjun, oj, hoj, hall⟩ := mem_ready.1 hj
      have hni := (mem_ready.1 hr).1
      have hnot : ∀ e ∈ oj.after, Region.binds md e = true → e.on ≠ i := fun e he hb heq => by
        have h2 := hall e he hb
        rw [heq] at h2
        by_cases h' : i < listed.size
        · simp [h'] at h2 hni; rw [hni] at h2; cases h2
        · simp [Array.getElem?_eq_none (Nat.le_of_not_lt h')] at h2
      refine opT_mono (fun a' h3 => anyT_first hi hsel fuel (listed.setIfInBounds j true) a' ?_ (ready_mono hr (Ne.symm hji)) h3.1 ?_)
        (opT_put hoj (hfree j oj hoj hji hjun hnot) (fun cs b => hsel i oi cs b hi) (fun cs b => hsel j oj cs b hoj) hy h1)
      · intro k ok hk hki hun hno
        refine hfree k ok hk hki ?_ hno
        by_cases hjk : j = k
        · subst hjk; exact hjun
        · rw [getD_set_ne true hjk] at hun; exact hun
      · rw [Array.setIfInBounds_comm _ _ hji]; exact h3.2
theorem anyT_lex {Q : Act → Prop} (hs : Region.noSelect ops = true) : ∀ (l : List Oper) (k : Nat) (listed : Array Bool) (a : Act), (∀ j, l[j]? = ops[k + j]?) →
    (∀ j, j < k → listed.getD j true = true) → Region.lexFrom md ops l.length k listed = true → lexT P md ops C Q k l a → anyT P md ops C Q l.length listed a
  | [], k, listed, a, hl, hd, hB, h => by
    refine ⟨by simpa [Region.lexFrom] using hB, fun j hj => hd j ?_, h⟩
    have h0 : ops[k]? = none := by simpa using (hl 0).symm
    rw [Array.getElem?_eq_none_iff] at h0
    omega
  | o :: l, k, listed, a, hl, hd, hB, h => by
    have h0 : ops[k]? = some o := by simpa using (hl 0).symm
    simp only [List.length_cons, Region.lexFrom, Bool.and_eq_true] at hB
    obtain ⟨⟨hr, hf⟩, hB'⟩ := hB
    obtain ⟨v, hy, hK⟩ := h
    refine anyT_first h0 (Region.noSelect_spec hs) l.length listed a (Region.free_spec h0 hf) (by simpa using hr) hy
      (anyT_lex hs l (k + 1) _ _ (fun j => by have := hl (j + 1); simpa [Nat.add_assoc, Nat.add_comm 1 j] using this) ?_ hB' hK)
    intro j hj
    by_cases hjk : k = j
    · subst hjk
      by_cases h' : k < listed.size
      · simp [h']
      · simp [Array.getElem?_eq_none, Nat.le_of_not_lt h']
    · rw [getD_set_ne true hjk]; exact hd j (by omega)
theorem wpAnyIn_of_T {n : Nat} {Q : Act → Prop} {Q' : Exit → Act → World → Prop} (hQ : ∀ s a w, (∀ j, j < ops.size → s j = true) → C s w → Q a → Q' .normal a w) (hext : ∀ s s' w, (∀ j, s j = s' j) → C s w → C s' w) :
    ∀ (fuel : Nat) (listed : Array Bool) (a : Act) (w : World), (∀ j oj, ops[j]? = some oj → listed.getD j true = true → ∀ e ∈ oj.after, Region.binds md e = true → listed.getD e.on true = true) → C (fun j => listed.getD j true) w →
    anyT P md ops C Q fuel listed a → wpAnyIn Fence.wide n P md ops Q' fuel listed a w
  | 0, listed, a, w, hinv, hw, h => ⟨h.1, hQ _ _ _ h.2.1 hw h.2.2⟩
  | fuel + 1, listed, a, w, hinv, hw, h => by
    refine ⟨fun h0 => hQ _ _ _ (h.1 h0).1 hw (h.1 h0).2, fun i hi => ?_⟩
    obtain ⟨o, v, ho, hy, hK⟩ := h.2 i hi
    have hun := (mem_ready.1 hi).1
    have hinv' : ∀ j oj, ops[j]? = some oj → (listed.setIfInBounds i true).getD j true = true → ∀ e ∈ oj.after, Region.binds md e = true → (listed.setIfInBounds i true).getD e.on true = true := by
      intro j oj hoj hl e he hb
      by_cases hei : i = e.on
      · rw [← hei]
        by_cases h' : i < listed.size
        · simp [h']
        · simp [Array.getElem?_eq_none, Nat.le_of_not_lt h']
      · rw [getD_set_ne true hei]
        by_cases hij : i = j
        · subst hij
          obtain ⟨_, oi, hoi, hall⟩ := mem_ready.1 hi
          obtain rfl : oi = oj := Option.some.inj (hoi.symm.trans hoj)
          have h2 := hall e he hb
          by_cases h' : e.on < listed.size
          · simp [h'] at h2 ⊢; exact h2
          · simp [Array.getElem?_eq_none, Nat.le_of_not_lt h']
        · rw [getD_set_ne true hij] at hl
          exact hinv j oj hoj hl e he hb
    have hdep : ∀ p, dep md ops i p = true → listed.getD p true = false := by
      intro p hp
      unfold dep at hp
      cases hop : ops[p]? with
      | none => rw [hop] at hp; cases hp
      | some op =>
        rw [hop] at hp
        simp only [Array.any_eq_true'] at hp
        obtain ⟨e, he, hbe⟩ := hp
        rw [Bool.and_eq_true, beq_iff_eq] at hbe
        cases hl : listed.getD p true with
        | false => rfl
        | true =>
          have := hinv p op hop hl e he hbe.1
          rw [hbe.2, hun] at this
          cases this
    have hset : ∀ j, upd (fun j => listed.getD j true) i j = (listed.setIfInBounds i true).getD j true := fun j => by
      unfold upd
      by_cases hip : i = j
      · subst hip
        by_cases h' : i < listed.size
        · simp [h']
        · simp [Array.getElem?_eq_none, Nat.le_of_not_lt h']
      · rw [getD_set_ne true hip]; simp [hip]
    unfold wpOpIn
    simp only [ho]
    rcases hy with ⟨hwt, ht⟩ | ⟨hwt, hne, rfl⟩
    · simp only [hwt, if_true]
      refine wpIn_of_comes (ht _ w hun hdep hw) fun w' hd => wpAnyIn_of_T hQ hext fuel _ _ w' hinv' (hext _ _ _ hset hd) hK
    · simp only [hwt, Bool.false_eq_true, if_false]
      refine ⟨fun _ _ => trivial, wpAnyIn_of_T hQ hext fuel _ _ w hinv' (hext _ _ _ hset (hne _ _ hw)) hK⟩
/-- THE REGION: the walk of the text's order serves every order. -/
theorem region_many {id n : Nat} {Q : Exit → Act → World → Prop} {a : Act} {w : World} {l : List Oper} (C : (Nat → Bool) → World → Prop) (hm : P.follows .mixedOrders = true) (hB : Region.lexB .any l.toArray = true)
    (hext : ∀ s s' w, (∀ j, s j = s' j) → C s w → C s' w) (hC : ∀ s, (∀ j, j < l.length → s j = false) → C s w.drew)
    (h : lexT P .any l.toArray C (fun a' => ∀ s w', (∀ j, j < l.length → s j = true) → C s w' → Q .normal a' w') 0 l a) : (Code.region id l.toArray true).wpIn Fence.wide n P Q a w := by
  simp only [Region.lexB, Bool.and_eq_true] at hB
  refine wpIn_region_any hm (wpAnyIn_of_T (C := C) (Q := fun a' => ∀ s w', (∀ j, j < l.length → s j = true) → C s w' → Q .normal a' w') (fun s _ w' hs hw' h => h s w' (fun j hj => hs j (by simpa using hj)) hw') hext _ _ _ _ ?_ ?_ ?_)
  · intro j oj hoj hl e he hb
    obtain ⟨hlt, _⟩ := Array.getElem?_eq_some_iff.1 hoj
    rw [Array.getD_eq_getD_getElem?, Array.getElem?_eq_getElem (by simpa using hlt)] at hl
    simp at hl
  · exact hC _ fun j hj => by simp [hj]
  · have := anyT_lex (P := P) (C := C) (md := .any) hB.1 l 0 (Array.replicate l.toArray.size false) a (by simp) (by simp) (by simpa using hB.2) h
    simpa using this
variable {k : Nat} {Q : Act → Prop} {o : Oper} {rest : List Oper} {a : Act} {v : Value}
theorem lex_want (hw : Region.wanted o (yielded ops a.tmps) = true) (ht : Tr P md ops C k o a v) (h : lexT P md ops C Q (k + 1) rest (a.put o.dst v)) : lexT P md ops C Q k (o :: rest) a := ⟨v, .inl ⟨hw, ht⟩, h⟩
theorem lex_nil (h : Q a) : lexT P md ops C Q k [] a := h
theorem lex_skip (hw : Region.wanted o (yielded ops a.tmps) = false) (hk : ∀ s w, C s w → C (upd s k) w) (h : lexT P md ops C Q (k + 1) rest (a.put o.dst undef)) : lexT P md ops C Q k (o :: rest) a := ⟨undef, .inr ⟨hw, hk, rfl⟩, h⟩
/-- An operation that only reads, ahead of operation p. -/
theorem tr_read (p : Nat) (R : World → Prop) (hp : dep md ops k p = true) (hCR : ∀ s w, s p = false → C s w → R w) (hk : ∀ s w, C s w → C (upd s k) w) (h : ∀ w, R w → (execOp a.eval o).run P w = .ok (.value v) w) : Tr P md ops C k o a v := by
  intro s w _ hd hC
  rw [h w (hCR s w (hd p hp) hC)]
  exact ⟨rfl, hk s w hC⟩
/-- Whatever turns the world. -/
theorem tr_step (h : ∀ s w, s k = false → (∀ p, dep md ops k p = true → s p = false) → C s w → Comes P (C (upd s k)) v ((execOp a.eval o).run P w)) : Tr P md ops C k o a v := h
end
end Go.Seq.Manyd
