/-
  SEQ, part H: a region that draws its order, by an invariant of the act and the world over which operations have been taken: for regions whose values hang on the order (an address that floats among calls which allocate).
-/
import Derived.Test.YtbocmbhinjkjlaaSeqG
set_option linter.unusedSimpArgs false
set_option linter.unusedVariables false
namespace Go.Seq.Inv
open Go Go.RowKit Go.Seq
open Go.Seq.Manyd (upd dep notDefer notDefer_spec)
def ComesV (P : Program) (D : Value → World → Prop) : Result Next → Prop
  | .ok (.value u) w' => D u w'
  | .ok .skip w' => D undef w'
  | .ok (.enter f args) w' => Calls P f args w' fun e w'' => ∃ u, e = .returned u ∧ D u w''
  | _ => False
def depB (o : Oper) (s : Nat → Bool) : Bool := o.after.toList.all fun e => !(Region.binds .any e) || s e.on
def Step (P : Program) (ops : Array Oper) (I : (Nat → Bool) → Act → World → Prop) (k : Nat) (o : Oper) : Prop :=
  ∀ s a w, s k = false → depB o s = true → (∀ p, dep .any ops k p = true → s p = false) → I s a w →
    (Region.wanted o (yielded ops a.tmps) = true ∧ ComesV P (fun v w' => I (upd s k) (a.put o.dst v) w') ((execOp a.eval o).run P w)) ∨ (Region.wanted o (yielded ops a.tmps) = false ∧ I (upd s k) (a.put o.dst undef) w)
def Steps (P : Program) (ops : Array Oper) (I : (Nat → Bool) → Act → World → Prop) : Nat → List Oper → Prop
  | _, [] => True
  | k, o :: rest => Step P ops I k o ∧ Steps P ops I (k + 1) rest
def backOK : Nat → List Oper → Bool
  | _, [] => true
  | k, o :: rest => (o.after.toList.all fun e => !(Region.binds .any e) || decide (e.on < k)) && backOK (k + 1) rest
theorem steps_at {P : Program} {ops : Array Oper} {I : (Nat → Bool) → Act → World → Prop} : ∀ (l : List Oper) (k : Nat), Steps P ops I k l → ∀ j o, l[j]? = some o → Step P ops I (k + j) o
  | [], _, _, j, o, h => by simp at h
  | x :: rest, k, hs, j, o, h => by
    cases j with
    | zero => simp at h; subst h; exact hs.1
    | succ j => have := steps_at rest (k + 1) hs.2 j o (by simpa using h); rwa [show k + 1 + j = k + (j + 1) by omega] at this
theorem back_at : ∀ (l : List Oper) (k : Nat), backOK k l = true → ∀ j o, l[j]? = some o → ∀ e ∈ o.after, Region.binds .any e = true → e.on < k + j
  | [], _, _, j, o, h, e, he, hb => by simp at h
  | x :: rest, k, hs, j, o, h, e, he, hb => by
    simp only [backOK, Bool.and_eq_true] at hs
    cases j with
    | zero =>
      simp at h; subst h
      have := List.all_eq_true.1 hs.1 e (by simpa using he)
      simp only [hb, Bool.not_true, Bool.false_or, decide_eq_true_eq] at this
      omega
    | succ j => have := back_at rest (k + 1) hs.2 j o (by simpa using h) e he hb; omega
def cnt (listed : Array Bool) (n : Nat) : Nat := (List.range n).countP fun j => !listed.getD j true
theorem cnt_succ (listed : Array Bool) (n : Nat) : cnt listed (n + 1) = cnt listed n + (if listed.getD n true = false then 1 else 0) := by
  unfold cnt
  rw [List.range_succ, List.countP_append]
  congr 1
  rw [List.countP_cons, List.countP_nil]
  cases h : listed.getD n true <;> rfl
theorem getD_self {listed : Array Bool} {i : Nat} : (listed.setIfInBounds i true).getD i true = true := by
  by_cases h' : i < listed.size
  · simp [h']
  · simp [Array.getElem?_eq_none, Nat.le_of_not_lt h']
theorem cnt_set {listed : Array Bool} {i : Nat} : ∀ n, (i < n → listed.getD i true = false → cnt (listed.setIfInBounds i true) n + 1 = cnt listed n) ∧ (n ≤ i → cnt (listed.setIfInBounds i true) n = cnt listed n)
  | 0 => ⟨fun h => by omega, fun _ => rfl⟩
  | n + 1 => by
    obtain ⟨h1, h2⟩ := cnt_set (listed := listed) (i := i) n
    rw [cnt_succ, cnt_succ]
    refine ⟨fun h hu => ?_, fun h => ?_⟩
    · by_cases e : i = n
      · subst e
        rw [h2 (Nat.le_refl _), getD_self, hu]; simp
      · rw [getD_set_ne true e, ← h1 (by omega) hu]; omega
    · rw [getD_set_ne true (by omega), h2 (by omega)]
theorem cnt_zero {listed : Array Bool} : ∀ {n}, cnt listed n = 0 → ∀ j, j < n → listed.getD j true = true
  | 0, _, j, hj => by omega
  | n + 1, h, j, hj => by
    rw [cnt_succ] at h
    by_cases e : j = n
    · subst e
      cases hl : listed.getD j true with
      | true => rfl
      | false => rw [hl] at h; simp at h
    · have h' : cnt listed n = 0 := by omega
      exact cnt_zero h' j (by omega)
section
variable {P : Program} {ops : Array Oper} {I : (Nat → Bool) → Act → World → Prop} {F : Fence} {n : Nat} {Q' : Exit → Act → World → Prop}
theorem all_of_ready (hback : ∀ k o, ops[k]? = some o → ∀ e ∈ o.after, Region.binds .any e = true → e.on < k) {listed : Array Bool} (hsz : listed.size = ops.size) (h0 : Region.ready .any ops listed = []) : ∀ j, j < ops.size → listed.getD j true = true := by
  intro j
  induction j using Nat.strongRecOn with
  | _ j ih =>
    intro hj
    cases hl : listed.getD j true with
    | true => rfl
    | false =>
      have : j ∈ Region.ready .any ops listed := mem_ready.2 ⟨hl, ops[j], by simp [hj], fun e he hb => by
        have hlt := hback j ops[j] (by simp [hj]) e he hb
        have h2 := ih e.on hlt (by omega)
        have h3 : e.on < listed.size := by omega
        simp [h3] at h2 ⊢; exact h2⟩
      rw [h0] at this; cases this
theorem wpAnyIn_of_inv (hback : ∀ k o, ops[k]? = some o → ∀ e ∈ o.after, Region.binds .any e = true → e.on < k) (hst : ∀ k o, ops[k]? = some o → Step P ops I k o) (hfn : ∀ f, F.fn f)
    (hwp : ∀ (j : Nat) (o : Oper), ops[j]? = some o → ∀ (a : Act) (w : World) (D : Value → World → Prop) (K : Act → World → Prop), ComesV P D ((execOp a.eval o).run P w) → (∀ v w', D v w' → K (a.put o.dst v) w') → o.wpIn F n P a w K Q')
    (hQ : ∀ s a w, (∀ j, j < ops.size → s j = true) → I s a w → Q' .normal a w) :
    ∀ (fuel : Nat) (listed : Array Bool) (a : Act) (w : World), listed.size = ops.size → cnt listed ops.size ≤ fuel → (∀ j oj, ops[j]? = some oj → listed.getD j true = true → ∀ e ∈ oj.after, Region.binds .any e = true → listed.getD e.on true = true) → I (fun j => listed.getD j true) a w → wpAnyIn F n P .any ops Q' fuel listed a w
  | 0, listed, a, w, hsz, hc, hinv, hw => by
    have hall := cnt_zero (listed := listed) (n := ops.size) (by omega)
    refine ⟨?_, hQ _ _ _ hall hw⟩
    cases hr : Region.ready .any ops listed with
    | nil => rfl
    | cons x xs =>
      have hx : x ∈ Region.ready .any ops listed := by rw [hr]; simp
      obtain ⟨h1, o, h2, _⟩ := mem_ready.1 hx
      rw [hall x (Array.getElem?_eq_some_iff.1 h2).1] at h1; cases h1
  | fuel + 1, listed, a, w, hsz, hc, hinv, hw => by
    refine ⟨fun h0 => hQ _ _ _ (all_of_ready hback hsz h0) hw, fun i hi => ?_⟩
    obtain ⟨hun, o, ho, hall⟩ := mem_ready.1 hi
    have hi' : i < ops.size := (Array.getElem?_eq_some_iff.1 ho).1
    have hinv' : ∀ j oj, ops[j]? = some oj → (listed.setIfInBounds i true).getD j true = true → ∀ e ∈ oj.after, Region.binds .any e = true → (listed.setIfInBounds i true).getD e.on true = true := by
      intro j oj hoj hl e he hb
      by_cases hei : i = e.on
      · rw [← hei]; exact getD_self
      · rw [getD_set_ne true hei]
        by_cases hij : i = j
        · subst hij
          obtain rfl : o = oj := Option.some.inj (ho.symm.trans hoj)
          have h2 := hall e he hb
          by_cases h' : e.on < listed.size
          · simp [h'] at h2 ⊢; exact h2
          · simp [Array.getElem?_eq_none, Nat.le_of_not_lt h']
        · rw [getD_set_ne true hij] at hl
          exact hinv j oj hoj hl e he hb
    have hbeh : ∀ p, dep .any ops i p = true → listed.getD p true = false := by
      intro p hp
      unfold dep at hp
      cases hop : ops[p]? with
      | none => rw [hop] at hp; cases hp
      | some op =>
        rw [hop] at hp
        simp only [Array.any_eq_true'] at hp
        obtain ⟨e, he, hbe⟩ := hp
        rw [Bool.and_eq_true, beq_iff_eq] at hbe
        cases hl : listed.getD p true with
        | false => rfl
        | true =>
          have := hinv p op hop hl e he hbe.1
          rw [hbe.2, hun] at this
          cases this
    have hdep : depB o (fun j => listed.getD j true) = true := by
      unfold depB
      rw [List.all_eq_true]
      intro e he
      cases hb : Region.binds .any e with
      | false => rfl
      | true =>
        have h2 := hall e (by simpa using he) hb
        have h3 : listed.getD e.on true = true := by
          by_cases h' : e.on < listed.size
          · simp [h'] at h2 ⊢; exact h2
          · simp [Array.getElem?_eq_none, Nat.le_of_not_lt h']
        show (!true || listed.getD e.on true) = true
        rw [h3]; rfl
    have hset : upd (fun j => listed.getD j true) i = fun j => (listed.setIfInBounds i true).getD j true := by
      funext j
      unfold upd
      by_cases hip : i = j
      · subst hip; rw [getD_self]; simp
      · rw [getD_set_ne true hip]; simp [hip]
    have hcnt : cnt (listed.setIfInBounds i true) ops.size ≤ fuel := by have := (cnt_set (listed := listed) (i := i) ops.size).1 hi' hun; omega
    have hsz' : (listed.setIfInBounds i true).size = ops.size := by simpa using hsz
    unfold wpOpIn
    simp only [ho]
    rcases hst i o ho _ a w hun hdep hbeh hw with ⟨hwt, ht⟩ | ⟨hwt, ht⟩
    · simp only [hwt, if_true]
      exact hwp i o ho a w _ _ ht fun v w' hd => wpAnyIn_of_inv hback hst hfn hwp hQ fuel _ _ w' hsz' hcnt hinv' (hset ▸ hd)
    · simp only [hwt, Bool.false_eq_true, if_false]
      exact ⟨fun f _ => hfn f, wpAnyIn_of_inv hback hst hfn hwp hQ fuel _ _ w hsz' hcnt hinv' (hset ▸ ht)⟩
end
theorem wpIn_of_comesV {P : Program} {n : Nat} {o : Oper} {a : Act} {w : World} {D : Value → World → Prop} {K : Act → World → Prop} {Q : Exit → Act → World → Prop}
    (h : ComesV P D ((execOp a.eval o).run P w)) (hK : ∀ v w', D v w' → K (a.put o.dst v) w') : o.wpIn Fence.wide n P a w K Q := by
  refine ⟨fun _ _ => trivial, ?_⟩
  show o.uponIn Fence.wide n P a K Q ((Oper.semAt none a.eval o).run P w)
  rw [Oper.semAt_none]
  generalize (execOp a.eval o).run P w = r at *
  cases r with
  | ok x w' =>
    cases x <;> simp only [ComesV] at h <;> simp only [Oper.uponIn]
    case value u => exact hK _ _ h
    case skip => exact hK _ _ h
    case enter f args => exact ⟨fun hd => by simp [Fence.wide] at hd, (callsIn_wide.2 h).mono fun e w'' ⟨u, he, hd⟩ => by subst he; exact hK _ _ hd⟩
  | halt x w' => simp only [ComesV] at h
theorem wpIn_of_comesVR {P : Program} {n lr : Nat} {o : Oper} {a : Act} {w : World} {D : Value → World → Prop} {K : Act → World → Prop} {Q : Exit → Act → World → Prop} (hnd : ∀ c, o.op ≠ .defer c)
    (h : ComesV P D ((execOp a.eval o).run P w)) (hK : ∀ v w', D v w' → K (a.put o.dst v) w') : o.wpIn (Fence.wide.inRound lr) n P a w K Q := by
  refine ⟨fun _ _ => trivial, ?_⟩
  show o.uponIn (Fence.wide.inRound lr) n P a K Q ((Oper.semAt (some lr) a.eval o).run P w)
  rw [Oper.semAt_eq (some lr) _ o hnd]
  generalize (execOp a.eval o).run P w = r at *
  cases r with
  | ok x w' =>
    cases x <;> simp only [ComesV] at h <;> simp only [Oper.uponIn]
    case value u => exact hK _ _ h
    case skip => exact hK _ _ h
    case enter f args => exact ⟨fun hd => by simp [Fence.wide] at hd, (CallsIn.inRound lr (callsIn_wide.2 h)).mono fun e w'' ⟨u, he, hd⟩ => by subst he; exact hK _ _ hd⟩
  | halt x w' => simp only [ComesV] at h
section
variable {P : Program} {id n : Nat} {Q : Exit → Act → World → Prop} {a : Act} {w : World} {l : List Oper}
theorem start_cnt (m : Nat) : ∀ n, cnt (Array.replicate m false) n ≤ n
  | 0 => Nat.le_refl _
  | n + 1 => by rw [cnt_succ]; have := start_cnt m n; split <;> omega
theorem start_inv (l : List Oper) : ∀ j oj, l.toArray[j]? = some oj → (Array.replicate l.toArray.size false).getD j true = true → ∀ e ∈ oj.after, Region.binds .any e = true → (Array.replicate l.toArray.size false).getD e.on true = true := by
  intro j oj hoj hl e he hb
  obtain ⟨hlt, _⟩ := Array.getElem?_eq_some_iff.1 hoj
  rw [Array.getD_eq_getD_getElem?, Array.getElem?_eq_getElem (by simpa using hlt)] at hl
  simp at hl
/-- THE REGION, by an invariant. -/
theorem region_inv (I : (Nat → Bool) → Act → World → Prop) (hm : P.follows .mixedOrders = true) (hB : backOK 0 l = true)
    (hC : ∀ s : Nat → Bool, (∀ j, j < l.length → s j = false) → I s a w.drew) (hS : Steps P l.toArray I 0 l)
    (hQ : ∀ s a' w', (∀ j, j < l.length → s j = true) → I s a' w' → Q .normal a' w') : (Code.region id l.toArray true).wpIn Fence.wide n P Q a w := by
  refine wpIn_region_any hm (wpAnyIn_of_inv (I := I) (fun k o ho e he hb => by have := back_at l 0 hB k o (by simpa using ho) e he hb; omega) (fun k o ho => by have := steps_at l 0 hS k o (by simpa using ho); rwa [Nat.zero_add] at this) (fun _ => trivial) (fun j o ho a w D K h hK => wpIn_of_comesV h hK) (fun s a' w' hs h => hQ s a' w' (fun j hj => hs j (by simpa using hj)) h) _ _ _ _ (by simp) (start_cnt _ _) (start_inv l) ?_)
  exact hC _ fun j hj => by simp [hj]
/-- The same in a round of a range over a function. -/
theorem region_invR {lr : Nat} (I : (Nat → Bool) → Act → World → Prop) (hm : P.follows .mixedOrders = true) (hB : backOK 0 l = true) (hD : l.all notDefer = true)
    (hC : ∀ s : Nat → Bool, (∀ j, j < l.length → s j = false) → I s a w.drew) (hS : Steps P l.toArray I 0 l)
    (hQ : ∀ s a' w', (∀ j, j < l.length → s j = true) → I s a' w' → Q .normal a' w') : (Code.region id l.toArray true).wpIn (Fence.wide.inRound lr) n P Q a w := by
  have hnd : ∀ (j : Nat) (o : Oper), l.toArray[j]? = some o → ∀ c, o.op ≠ .defer c := fun j o ho => notDefer_spec (List.all_eq_true.1 hD o (by
    have : l[j]? = some o := by simpa using ho
    exact List.mem_of_getElem? this))
  refine wpIn_region_any hm (wpAnyIn_of_inv (I := I) (fun k o ho e he hb => by have := back_at l 0 hB k o (by simpa using ho) e he hb; omega) (fun k o ho => by have := steps_at l 0 hS k o (by simpa using ho); rwa [Nat.zero_add] at this) (fun _ => trivial) (fun j o ho a w D K h hK => wpIn_of_comesVR (hnd j o ho) h hK) (fun s a' w' hs h => hQ s a' w' (fun j hj => hs j (by simpa using hj)) h) _ _ _ _ (by simp) (start_cnt _ _) (start_inv l) ?_)
  exact hC _ fun j hj => by simp [hj]
end
theorem depB_mem {o : Oper} {s : Nat → Bool} (i : Nat) (h : depB o s = true) (hi : (o.after.toList.any fun e => Region.binds .any e && e.on == i) = true) : s i = true := by
  obtain ⟨e, he, hb⟩ := List.any_eq_true.1 hi
  rw [Bool.and_eq_true, beq_iff_eq] at hb
  have := List.all_eq_true.1 h e he
  rw [hb.1, hb.2] at this
  simpa using this
theorem comesV_val {P : Program} {D : Value → World → Prop} {r : Result Next} (v : Value) (w : World) (h : r = .ok (.value v) w) (hD : D v w) : ComesV P D r := by rw [h]; exact hD
theorem comesV_skip {P : Program} {D : Value → World → Prop} {r : Result Next} (w : World) (h : r = .ok .skip w) (hD : D undef w) : ComesV P D r := by rw [h]; exact hD
theorem comesV_call {P : Program} {D : Value → World → Prop} {r : Result Next} (f : FuncId) (args : Array Value) (w : World) (h : r = .ok (.enter f args) w) (hD : Calls P f args w fun e w' => ∃ u, e = .returned u ∧ D u w') : ComesV P D r := by rw [h]; exact hD
open Go.Builtin in
theorem exec_append {P : Program} {o : Oper} {a : Act} {s x : Operand} {t : TypeId} {v u v2 : Value} {w w2 : World} (ho : o.op = .call { callee := .builtin .append, args := #[s, x], argTypes := #[t, t] })
    (hs : a.eval s = v) (hx : a.eval x = u) (hr : (Builtin.append_ #[t, t] o.type #[v, u]).run P w = .ok v2 w2) : (execOp a.eval o).run P w = .ok (.value v2) w2 := by
  unfold execOp
  simp only [ho, resolve, invoke, builtin, Sem.run_bind, Sem.run_pure, Result.andThen_ok, List.map_toArray, List.map_cons, List.map_nil, hs, hx, hr]
end Go.Seq.Inv
