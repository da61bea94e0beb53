/-
  SEQ, part G: part F's region inside a round of a range over a function (its operations are no defer statements), and the words for a region with one store that all reads come ahead of.
-/
import Derived.Test.YtbocmbhinjkjlaaSeqF
import Derived.RangeFuncCalls
set_option linter.unusedSimpArgs false
set_option linter.unusedVariables false
namespace Go.Seq.Manyd
open Go Go.RowKit Go.Seq
def notDefer (o : Oper) : Bool := match o.op with | .defer _ => false | _ => true
theorem notDefer_spec {o : Oper} (h : notDefer o = true) : ∀ c, o.op ≠ .defer c := by
  intro c e
  unfold notDefer at h
  rw [e] at h
  cases h
theorem wpIn_of_comesR {P : Program} {n lr : Nat} {o : Oper} {a : Act} {v : Value} {w : World} {D : World → Prop} {K : Act → World → Prop} {Q : Exit → Act → World → Prop} (hnd : ∀ c, o.op ≠ .defer c)
    (h : Comes P D v ((execOp a.eval o).run P w)) (hK : ∀ w', D w' → K (a.put o.dst v) w') : o.wpIn (Fence.wide.inRound lr) n P a w K Q := by
  refine ⟨fun _ _ => trivial, ?_⟩
  show o.uponIn (Fence.wide.inRound lr) n P a K Q ((Oper.semAt (some lr) a.eval o).run P w)
  rw [Oper.semAt_eq (some lr) _ o hnd]
  generalize (execOp a.eval o).run P w = r at *
  cases r with
  | ok x w' =>
    cases x <;> simp only [Comes] at h <;> simp only [Oper.uponIn]
    case value u => obtain ⟨rfl, hd⟩ := h; exact hK _ hd
    case skip => obtain ⟨rfl, hd⟩ := h; exact hK _ hd
    case enter f args => exact ⟨fun hd => by simp [Fence.wide] at hd, (CallsIn.inRound lr (callsIn_wide.2 h)).mono fun e w'' ⟨he, hd⟩ => by subst he; exact hK _ hd⟩
    case round l f tmps assign body =>
      refine ⟨fun hd => by simp [Fence.wide] at hd, RoundIn.mono (R := fun e w'' => e = .returned v ∧ D w'') ⟨h.1, fun c cs _ => h.2 c cs (room_wide _)⟩ fun e w'' ⟨he, hd⟩ => by subst he; exact hK _ hd⟩
  | halt x w' => simp only [Comes] at h
section
variable {P : Program} {ops : Array Oper} {md : Region.Mode} {C : (Nat → Bool) → World → Prop}
theorem wpAnyIn_of_TR {n lr : Nat} {Q : Act → Prop} {Q' : Exit → Act → World → Prop} (hnd : ∀ (j : Nat) (o : Oper), ops[j]? = some o → ∀ c, o.op ≠ .defer c) (hQ : ∀ s a w, (∀ j, j < ops.size → s j = true) → C s w → Q a → Q' .normal a w) (hext : ∀ s s' w, (∀ j, s j = s' j) → C s w → C s' w) :
    ∀ (fuel : Nat) (listed : Array Bool) (a : Act) (w : World), (∀ j oj, ops[j]? = some oj → listed.getD j true = true → ∀ e ∈ oj.after, Region.binds md e = true → listed.getD e.on true = true) → C (fun j => listed.getD j true) w →
    anyT P md ops C Q fuel listed a → wpAnyIn (Fence.wide.inRound lr) n P md ops Q' fuel listed a w
  | 0, listed, a, w, hinv, hw, h => ⟨h.1, hQ _ _ _ h.2.1 hw h.2.2⟩
  | fuel + 1, listed, a, w, hinv, hw, h => by
    refine ⟨fun h0 => hQ _ _ _ (h.1 h0).1 hw (h.1 h0).2, fun i hi => ?_⟩
    obtain ⟨o, v, ho, hy, hK⟩ := h.2 i hi
    have hun := (mem_ready.1 hi).1
    have hinv' : ∀ j oj, ops[j]? = some oj → (listed.setIfInBounds i true).getD j true = true → ∀ e ∈ oj.after, Region.binds md e = true → (listed.setIfInBounds i true).getD e.on true = true := by
      intro j oj hoj hl e he hb
      by_cases hei : i = e.on
      · rw [← hei]
        by_cases h' : i < listed.size
        · simp [h']
        · simp [Array.getElem?_eq_none, Nat.le_of_not_lt h']
      · rw [getD_set_ne true hei]
        by_cases hij : i = j
        · subst hij
          obtain ⟨_, oi, hoi, hall⟩ := mem_ready.1 hi
          obtain rfl : oi = oj := Option.some.inj (hoi.symm.trans hoj)
          have h2 := hall e he hb
          by_cases h' : e.on < listed.size
          · simp [h'] at h2 ⊢; exact h2
          · simp [Array.getElem?_eq_none, Nat.le_of_not_lt h']
        · rw [getD_set_ne true hij] at hl
          exact hinv j oj hoj hl e he hb
    have hdep : ∀ p, dep md ops i p = true → listed.getD p true = false := by
      intro p hp
      unfold dep at hp
      cases hop : ops[p]? with
      | none => rw [hop] at hp; cases hp
      | some op =>
        rw [hop] at hp
        simp only [Array.any_eq_true'] at hp
        obtain ⟨e, he, hbe⟩ := hp
        rw [Bool.and_eq_true, beq_iff_eq] at hbe
        cases hl : listed.getD p true with
        | false => rfl
        | true =>
          have := hinv p op hop hl e he hbe.1
          rw [hbe.2, hun] at this
          cases this
    have hset : ∀ j, upd (fun j => listed.getD j true) i j = (listed.setIfInBounds i true).getD j true := fun j => by
      unfold upd
      by_cases hip : i = j
      · subst hip
        by_cases h' : i < listed.size
        · simp [h']
        · simp [Array.getElem?_eq_none, Nat.le_of_not_lt h']
      · rw [getD_set_ne true hip]; simp [hip]
    unfold wpOpIn
    simp only [ho]
    rcases hy with ⟨hwt, ht⟩ | ⟨hwt, hne, rfl⟩
    · simp only [hwt, if_true]
      refine wpIn_of_comesR (hnd i o ho) (ht _ w hun hdep hw) fun w' hd => wpAnyIn_of_TR hnd hQ hext fuel _ _ w' hinv' (hext _ _ _ hset hd) hK
    · simp only [hwt, Bool.false_eq_true, if_false]
      refine ⟨fun _ _ => trivial, wpAnyIn_of_TR hnd hQ hext fuel _ _ w hinv' (hext _ _ _ hset (hne _ _ hw)) hK⟩
/-- THE REGION, in a round. -/
theorem region_round {id n lr : Nat} {Q : Exit → Act → World → Prop} {a : Act} {w : World} {l : List Oper} (C : (Nat → Bool) → World → Prop) (hm : P.follows .mixedOrders = true) (hB : Region.lexB .any l.toArray = true) (hD : l.all notDefer = true)
    (hext : ∀ s s' w, (∀ j, s j = s' j) → C s w → C s' w) (hC : ∀ s, (∀ j, j < l.length → s j = false) → C s w.drew)
    (h : lexT P .any l.toArray C (fun a' => ∀ s w', (∀ j, j < l.length → s j = true) → C s w' → Q .normal a' w') 0 l a) : (Code.region id l.toArray true).wpIn (Fence.wide.inRound lr) n P Q a w := by
  simp only [Region.lexB, Bool.and_eq_true] at hB
  have hnd : ∀ (j : Nat) (o : Oper), l.toArray[j]? = some o → ∀ c, o.op ≠ .defer c := fun j o ho => notDefer_spec (List.all_eq_true.1 hD o (by
    have : l[j]? = some o := by simpa using ho
    exact List.mem_of_getElem? this))
  refine wpIn_region_any hm (wpAnyIn_of_TR hnd (C := C) (Q := fun a' => ∀ s w', (∀ j, j < l.length → s j = true) → C s w' → Q .normal a' w') (fun s _ w' hs hw' h => h s w' (fun j hj => hs j (by simpa using hj)) hw') hext _ _ _ _ ?_ ?_ ?_)
  · intro j oj hoj hl e he hb
    obtain ⟨hlt, _⟩ := Array.getElem?_eq_some_iff.1 hoj
    rw [Array.getD_eq_getD_getElem?, Array.getElem?_eq_getElem (by simpa using hlt)] at hl
    simp at hl
  · exact hC _ fun j hj => by simp [hj]
  · have := anyT_lex (P := P) (C := C) (md := .any) hB.1 l 0 (Array.replicate l.toArray.size false) a (by simp) (by simp) (by simpa using hB.2) h
    simpa using this
end
/-- The world V until the operation p is taken, V' behind it. -/
def One (V V' : World) (p : Nat) (s : Nat → Bool) (W : World) : Prop := if s p = true then W = V' else W = V
theorem One.keep {V V' W : World} {p k : Nat} {s : Nat → Bool} (h : One V V' p s W) (hk : k ≠ p) : One V V' p (upd s k) W := by
  have e : upd s k p = s p := by simp [upd, hk]
  unfold One at *; rw [e]; exact h
theorem one_ext {V V' : World} {p : Nat} : ∀ s s' w, (∀ j, s j = s' j) → One V V' p s w → One V V' p s' w := fun s s' W' h hc => by rw [← show s = s' from funext h]; exact hc
theorem one_start {V V' : World} {p n : Nat} (hp : p < n) : ∀ s : Nat → Bool, (∀ j, j < n → s j = false) → One V V' p s V := fun s hs => by unfold One; rw [hs p hp]; rfl
theorem one_end {V V' W : World} {p n : Nat} {s : Nat → Bool} (hp : p < n) (hs : ∀ j, j < n → s j = true) (h : One V V' p s W) : W = V' := by unfold One at h; rw [hs p hp] at h; simpa using h
/-- A read ahead of the store. -/
theorem one_rd {P : Program} {md : Region.Mode} {ops : Array Oper} {V V' : World} {p k : Nat} {o : Oper} {a : Act} {v : Value} (hp : dep md ops k p = true) (hk : k ≠ p) (h : (execOp a.eval o).run P V = .ok (.value v) V) : Tr P md ops (One V V' p) k o a v :=
  tr_read p (fun W => W = V) hp (fun s w hs hC => by unfold One at hC; rw [hs] at hC; simpa using hC) (fun s w hC => hC.keep hk) (fun w hw => by rw [hw]; exact h)
/-- Whatever asks no memory. -/
theorem one_pu {P : Program} {md : Region.Mode} {ops : Array Oper} {V V' : World} {p k : Nat} {o : Oper} {a : Act} {v : Value} (hk : k ≠ p) (h : ∀ w, (execOp a.eval o).run P w = .ok (.value v) w) : Tr P md ops (One V V' p) k o a v := by
  intro s w _ _ hC
  rw [h w]
  exact ⟨rfl, hC.keep hk⟩
/-- The store. -/
theorem one_st {P : Program} {md : Region.Mode} {ops : Array Oper} {V V' : World} {p : Nat} {o : Oper} {a : Act} {v : Value} (h : Comes P (fun W => W = V') v ((execOp a.eval o).run P V)) : Tr P md ops (One V V' p) p o a v := by
  intro s W hs _ hC
  unfold One at hC
  rw [hs] at hC
  obtain rfl : W = V := by simpa using hC
  have e : (fun W' => W' = V') = One W V' p (upd s p) := by funext W'; simp [One, upd]
  rw [← e]; exact h
/-- A quiet region: all operations read, all callees draw at most. -/
def Qt (V : World) (_ : Nat → Bool) (W : World) : Prop := ∃ n, W = V.drewN n
theorem qt_ext {V : World} : ∀ s s' w, (∀ j, s j = s' j) → Qt V s w → Qt V s' w := fun _ _ _ _ h => h
theorem qt_start {V : World} {n : Nat} : ∀ s : Nat → Bool, (∀ j, j < n → s j = false) → Qt V s V.drew := fun _ _ => ⟨1, rfl⟩
theorem qt_rd {P : Program} {md : Region.Mode} {ops : Array Oper} {V : World} {k : Nat} {o : Oper} {a : Act} {v : Value} (h : ∀ n, (execOp a.eval o).run P (V.drewN n) = .ok (.value v) (V.drewN n)) : Tr P md ops (Qt V) k o a v := by
  rintro s w _ _ ⟨n, rfl⟩
  rw [h n]
  exact ⟨rfl, n, rfl⟩
theorem qt_call {P : Program} {md : Region.Mode} {ops : Array Oper} {V : World} {k : Nat} {o : Oper} {a : Act} {v : Value} {f : FuncId} {args : Array Value} (h : ∀ n, (execOp a.eval o).run P (V.drewN n) = .ok (.enter f args) (V.drewN n))
    (hc : ∀ n, Calls P f args (V.drewN n) fun e w' => e = .returned v ∧ ∃ m, w' = V.drewN m) : Tr P md ops (Qt V) k o a v := by
  rintro s w _ _ ⟨n, rfl⟩
  rw [h n]
  exact hc n
end Go.Seq.Manyd
