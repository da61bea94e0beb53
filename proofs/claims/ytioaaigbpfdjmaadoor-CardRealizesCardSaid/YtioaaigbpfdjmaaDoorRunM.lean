/-
  CRUN, part M: what an operation comes to hangs on the slots that it looks at alone.
-/
import Derived.Test.YtioaaigbpfdjmaaDoorRunL
set_option linter.unusedSimpArgs false
set_option linter.unusedVariables false
namespace Go.CRun
open Go Go.RowKit
section
variable {P : Program} {G : Globs} {N : Nat} {ρ : Ren} {h : Hp} {w : World} {t1 t2 : TM} {a : Act}

theorem evL_congr : ∀ {xs : List Operand}, (∀ x ∈ xs, evO t1 x = evO t2 x) → evL t1 xs = evL t2 xs
  | [], _ => rfl
  | x :: r, hh => by
    simp only [evL]
    rw [hh x (by simp), evL_congr (xs := r) fun y hy => hh y (by simp [hy])]
theorem evP_congr : ∀ {xs : List (Nat × Operand)}, (∀ x ∈ xs.map (·.2), evO t1 x = evO t2 x) → evP t1 xs = evP t2 xs
  | [], _ => rfl
  | (i, x) :: r, hh => by
    simp only [evP]
    rw [hh x (by simp), evP_congr (xs := r) fun y hy => hh y (by simp only [List.map_cons, List.mem_cons]; exact .inr hy)]
theorem evOp_congr {x : Option Operand} (hh : ∀ y, x = some y → evO t1 y = evO t2 y) : evOp t1 x = evOp t2 x := by
  cases x with
  | none => rfl
  | some y => simp only [evOp]; rw [hh y rfl]
theorem pureE_congr {o : Oper} (hh : ∀ x ∈ o.op.operands, evO t1 x = evO t2 x) : pureE P t1 o = pureE P t2 o := by
  unfold pureE
  rw [evL_congr (t1 := t1) (t2 := t2) (xs := o.op.operands.toList) fun x hx => hh x (by simpa using hx)]
  split
  · split
    · split
      · rfl
      · rename_i hsel
        rw [execOp_congr (ρ := fun x => (evO t1 x).getD undef) (ρ' := fun x => (evO t2 x).getD undef) o (fun cs b e => hsel cs b e) fun x hx => by show (evO t1 x).getD undef = (evO t2 x).getD undef; rw [hh x hx]]
    · rfl
  · rfl

theorem readE_congr {o : Oper} (hh : ∀ x ∈ o.op.operands, evO t1 x = evO t2 x) : readE P G t1 h o = readE P G t2 h o := by
  unfold readE
  split
  case h_1 x ho => exact hh x (by simp [ho, Op.operands])
  case h_2 x ho => exact hh x (by simp [ho, Op.operands])
  case h_3 c x y ho => rw [hh c (by simp [ho, Op.operands]), hh x (by simp [ho, Op.operands]), hh y (by simp [ho, Op.operands])]
  case h_4 t parts ho => rw [evP_congr (t1 := t1) (t2 := t2) (xs := parts.toList) fun x hx => hh x (by rw [ho]; simpa [Op.operands] using hx)]
  case h_5 t x ho => rw [hh x (by simp [ho, Op.operands])]
  case h_6 x ho => rw [hh x (by simp [ho, Op.operands])]
  case h_7 fn first captured ho =>
    rw [evL_congr (t1 := t1) (t2 := t2) (xs := first.toList) fun x hx => hh x (by rw [ho]; simp [Op.operands]; left; simpa using hx),
      evL_congr (t1 := t1) (t2 := t2) (xs := captured.toList) fun x hx => hh x (by rw [ho]; simp [Op.operands]; right; simpa using hx)]
  case h_8 t x lo hi ho =>
    rw [hh x (by simp [ho, Op.operands]), evOp_congr (t1 := t1) (t2 := t2) (x := lo) fun y e => hh y (by simp [ho, Op.operands, e]), evOp_congr (t1 := t1) (t2 := t2) (x := hi) fun y e => hh y (by simp [ho, Op.operands, e]), pureE_congr hh]
  case h_9 t x f ho => rw [hh x (by simp [ho, Op.operands])]
  case h_10 t x f ho => rw [hh x (by simp [ho, Op.operands])]
  case h_11 t x i ho => rw [hh x (by simp [ho, Op.operands]), hh i (by simp [ho, Op.operands])]
  case h_12 x i ho => rw [hh x (by simp [ho, Op.operands])]
  case h_13 i ho => rw [hh i (by simp [ho, Op.operands])]
  case h_14 t x i ok ho => rw [hh x (by simp [ho, Op.operands]), hh i (by simp [ho, Op.operands])]
  case h_15 op t x y yt ho => rw [hh x (by simp [ho, Op.operands]), hh y (by simp [ho, Op.operands]), pureE_congr hh]
  case h_16 => exact pureE_congr hh
  case h_17 => exact pureE_congr hh
  case h_18 src dst x ho => rw [hh x (by simp [ho, Op.operands]), pureE_congr hh]
  case h_19 c ho =>
    have hargs : evL t1 c.args.toList = evL t2 c.args.toList := evL_congr fun x hx => hh x (by rw [ho]; simp [Op.operands, Call.operands]; right; simpa using hx)
    split
    · unfold lenK; rw [hargs, pureE_congr hh]
    · exact pureE_congr hh
    · exact pureE_congr hh
    · rfl
  case h_20 => rfl

theorem effK_congr {call : CallK} {o : Oper} (hh : ∀ x ∈ o.op.operands, evO t1 x = evO t2 x) (K : Value → Hp → Bool) : effK P G call t1 h o K = effK P G call t2 h o K := by
  unfold effK
  split
  case h_1 => rfl
  case h_2 e x ho => rw [hh x (by simp [ho, Op.operands])]
  case h_3 t len parts ho => rw [evP_congr (t1 := t1) (t2 := t2) (xs := parts.toList) fun x hx => hh x (by rw [ho]; simpa [Op.operands] using hx)]
  case h_4 t x y ho => rw [hh x (by simp [ho, Op.operands]), hh y (by simp [ho, Op.operands])]
  case h_5 => rfl
  case h_6 t x y ho => rw [hh x (by simp [ho, Op.operands]), hh y (by simp [ho, Op.operands])]
  case h_7 t x lo hi ho =>
    rw [hh x (by simp [ho, Op.operands]), evOp_congr (t1 := t1) (t2 := t2) (x := lo) fun y e => hh y (by simp [ho, Op.operands, e]), evOp_congr (t1 := t1) (t2 := t2) (x := hi) fun y e => hh y (by simp [ho, Op.operands, e])]
  case h_8 t m k x ho => rw [hh m (by simp [ho, Op.operands]), hh k (by simp [ho, Op.operands]), hh x (by simp [ho, Op.operands])]
  case h_9 t x ho => rw [hh x (by simp [ho, Op.operands])]
  case h_10 x s ho => rw [hh x (by simp [ho, Op.operands])]
  case h_11 c ho =>
    have hargs : evL t1 c.args.toList = evL t2 c.args.toList := evL_congr fun x hx => hh x (by rw [ho]; simp [Op.operands, Call.operands]; right; simpa using hx)
    unfold callK
    rw [hargs]
    split
    · rename_i f args hcal _
      rw [hh f (by rw [ho]; simp [Op.operands, Call.operands, hcal])]
    · rfl
    · rfl
    · rfl
  case h_12 => rfl

theorem wantE_congr {ops : Array Oper} {o : Oper} (hh : ∀ d ∈ o.looksAt ops, t1.get d = t2.get d) : wantE ops.toList t1 o = wantE ops.toList t2 o := by
  unfold wantE
  cases hg : o.guard with
  | none => rfl
  | some g =>
    obtain ⟨j, want⟩ := g
    simp only
    have : yieldE ops.toList t1 j = yieldE ops.toList t2 j := by
      unfold yieldE
      cases ho : ops.toList[j]? with
      | none => rfl
      | some oj =>
        cases hd : oj.dst with
        | none => simp [hd]
        | some d =>
          simp only [hd]
          rw [hh d]
          simp only [Oper.looksAt, hg, List.mem_append]
          right
          have : ops[j]? = some oj := by simpa using ho
          simp [this, hd]
    rw [this]
theorem evO_congr {ops : Array Oper} {o : Oper} (hh : ∀ d ∈ o.looksAt ops, t1.get d = t2.get d) : ∀ x ∈ o.op.operands, evO t1 x = evO t2 x := by
  intro x hx
  cases x with
  | tmp t =>
    simp only [evO]
    rw [hh t]
    simp only [Oper.looksAt, List.mem_append, List.mem_filterMap]
    exact .inl ⟨.tmp t, by simpa using hx, rfl⟩
  | _ => rfl

theorem eqF_eq (x y : Value) (hh : eqF x y = true) : x = y := by
  unfold eqF at hh
  split at hh
  · rw [of_decide_eq_true hh]
  · simp only [Bool.and_eq_true] at hh
    rw [kindEq_true hh.1]
    have := hh.2
    rw [eqI_eq] at this
    rw [eq_of_beq this]
  · rename_i a b
    have := of_decide_eq_true hh
    obtain ⟨⟨l1⟩⟩ := a
    obtain ⟨⟨l2⟩⟩ := b
    simp only at this
    rw [this]
  · rw [of_decide_eq_true hh]
  · simp only [Bool.and_eq_true] at hh
    rw [of_decide_eq_true hh.1.1, beq_true.1 hh.1.2, beq_true.1 hh.2]
  · rw [of_decide_eq_true hh]
  · cases hh
theorem eqFL_eq : ∀ (l m : List Value), eqFL l m = true → l = m
  | [], [], _ => rfl
  | x :: xs, y :: ys, hh => by
    simp only [eqFL, Bool.and_eq_true] at hh
    rw [eqF_eq _ _ hh.1, eqFL_eq xs ys hh.2]
  | [], _ :: _, hh => by simp [eqFL] at hh
  | _ :: _, [], hh => by simp [eqFL] at hh
theorem eqA_eq (x y : Value) (hh : eqA x y = true) : x = y := by
  unfold eqA at hh
  split at hh
  · rw [Array.ext' (eqFL_eq _ _ hh)]
  · exact eqF_eq _ _ hh
theorem eqAL_eq : ∀ (l m : List Value), eqAL l m = true → l = m
  | [], [], _ => rfl
  | x :: xs, y :: ys, hh => by
    simp only [eqAL, Bool.and_eq_true] at hh
    rw [eqA_eq _ _ hh.1, eqAL_eq xs ys hh.2]
  | [], _ :: _, hh => by simp [eqAL] at hh
  | _ :: _, [], hh => by simp [eqAL] at hh
theorem eqV_eq (x y : Value) (hh : eqV x y = true) : x = y := by
  unfold eqV at hh
  split at hh
  · rw [Array.ext' (eqAL_eq _ _ hh)]
  · exact eqA_eq _ _ hh
end
end Go.CRun
