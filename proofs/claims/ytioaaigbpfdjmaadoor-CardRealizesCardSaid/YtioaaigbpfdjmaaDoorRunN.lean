/-
  CRUN, part N: a region whose order is drawn: whatever the order, the end is that of the run that reads as early as it can.
-/
import Derived.Test.YtioaaigbpfdjmaaDoorRunM
set_option linter.unusedSimpArgs false
set_option linter.unusedVariables false
namespace Go.CRun
open Go Go.RowKit

theorem bit_eq (m i : Nat) : bit m i = m.testBit i := by
  unfold bit
  rw [Bool.eq_iff_iff, beq_true, Nat.testBit]
  show (m >>> i) &&& 1 = 1 ↔ _
  rw [Nat.and_comm, Nat.one_and_eq_mod_two]
  simp
theorem bit_lor (a b i : Nat) : bit (Nat.lor a b) i = (bit a i || bit b i) := by
  rw [bit_eq, bit_eq, bit_eq]
  exact Nat.testBit_or a b i
theorem bit_pow (j i : Nat) : bit (Nat.pow 2 j) i = decide (j = i) := by
  rw [bit_eq]
  exact Nat.testBit_two_pow
theorem bit_zero (i : Nat) : bit 0 i = false := by rw [bit_eq]; simp
theorem within_bit {a m i : Nat} (h : within a m = true) (hi : bit a i = true) : bit m i = true := by
  unfold within at h
  have h := beq_true.1 h
  rw [bit_eq] at *
  have : (Nat.land a m).testBit i = (a.testBit i && m.testBit i) := Nat.testBit_and a m i
  rw [h, hi] at this
  simpa using this.symm

def itsOf : Nat → List Nat → List Oper → List It
  | _, _, [] => []
  | i, ancs, o :: r => ⟨i, o, maskOf i ancs o.after.toList 0⟩ :: itsOf (i + 1) (maskOf i ancs o.after.toList 0 :: ancs) r
theorem mkIts_eq : ∀ (i : Nat) (ancs : List Nat) (l : List Oper) (K : List It → Bool), mkIts i ancs l K = K (itsOf i ancs l)
  | _, _, [], _ => rfl
  | i, ancs, o :: r, K => by simp only [mkIts, fNat_eq, mkIts_eq, itsOf]

/-- What is asked of the operations of such a region, as a test. -/
def edgesBack : Nat → List Oper → Bool
  | _, [] => true
  | i, o :: r => (o.after.toList.all fun e => !Region.binds .any e || Nat.blt e.on i) && edgesBack (i + 1) r
def pairsOK (ops : Array Oper) (its : List It) : Bool :=
  its.all fun x => its.all fun y => Nat.beq x.i y.i || (match y.o.dst with
    | none => true
    | some d => (match x.o.dst with | some e => !Nat.beq d e | none => true) && (!(x.o.looksAt ops).contains d || bit x.m y.i || bit y.m x.i))
def okDraw (ops : List Oper) : Bool := edgesBack 0 ops && pairsOK ops.toArray (itsOf 0 [] ops)

structure Stat (ops : Array Oper) (m : Nat → Nat) : Prop where
  edge : ∀ (i : Nat) o, ops[i]? = some o → ∀ e ∈ o.after.toList, Region.binds .any e = true → e.on < i
  anc : ∀ (i : Nat) o j, ops[i]? = some o → bit (m i) j = true → ∃ e ∈ o.after.toList, Region.binds .any e = true ∧ (j = e.on ∨ bit (m e.on) j = true)
  dst : ∀ (i j : Nat) oi oj d, ops[i]? = some oi → ops[j]? = some oj → oi.dst = some d → oj.dst = some d → i = j
  war : ∀ (i j : Nat) oi oj d, ops[i]? = some oi → ops[j]? = some oj → i ≠ j → oj.dst = some d → d ∈ oi.looksAt ops → bit (m i) j = true ∨ bit (m j) i = true

theorem maskOf_bit {i : Nat} {ancs : List Nat} (m : Nat → Nat) (ha : ∀ j, j < i → ancs.getD (i - 1 - j) 0 = m j) : ∀ (es : List Edge) (acc : Nat), (∀ e ∈ es, Region.binds .any e = true → e.on < i) → ∀ j,
    bit (maskOf i ancs es acc) j = true ↔ bit acc j = true ∨ ∃ e ∈ es, Region.binds .any e = true ∧ (j = e.on ∨ bit (m e.on) j = true)
  | [], acc, _, j => by simp [maskOf]
  | e :: r, acc, he, j => by
    simp only [maskOf]
    cases hb : Region.binds .any e with
    | true =>
      simp only
      rw [maskOf_bit m ha r _ (fun x hx => he x (by simp [hx])) j, bit_lor, bit_lor, bit_pow, ha e.on (he e (by simp) hb)]
      simp only [Bool.or_eq_true, decide_eq_true_eq, List.mem_cons]
      constructor
      · rintro (((h | h) | h) | ⟨x, h1, h2⟩)
        · exact .inl h
        · exact .inr ⟨e, .inl rfl, hb, .inl h.symm⟩
        · exact .inr ⟨e, .inl rfl, hb, .inr h⟩
        · exact .inr ⟨x, .inr h1, h2⟩
      · rintro (h | ⟨x, rfl | h1, h2, h3⟩)
        · exact .inl (.inl (.inl h))
        · rcases h3 with h3 | h3
          · exact .inl (.inl (.inr h3.symm))
          · exact .inl (.inr h3)
        · exact .inr ⟨x, h1, h2, h3⟩
    | false =>
      simp only
      rw [maskOf_bit m ha r _ (fun x hx => he x (by simp [hx])) j]
      simp only [List.mem_cons]
      constructor
      · rintro (h | ⟨x, h1, h2⟩)
        · exact .inl h
        · exact .inr ⟨x, .inr h1, h2⟩
      · rintro (h | ⟨x, rfl | h1, h2, h3⟩)
        · exact .inl h
        · rw [hb] at h2; cases h2
        · exact .inr ⟨x, h1, h2, h3⟩

/-- The masks as a function of the number. -/
def maskAt (ops : List Oper) (i : Nat) : Nat := match (itsOf 0 [] ops)[i]? with | some x => x.m | none => 0

theorem itsOf_get : ∀ (l : List Oper) (i : Nat) (ancs : List Nat) (k : Nat) (x : It), (itsOf i ancs l)[k]? = some x → x.i = i + k ∧ l[k]? = some x.o
  | [], i, ancs, k, x, h => by simp [itsOf] at h
  | o :: r, i, ancs, k, x, h => by
    cases k with
    | zero => simp [itsOf] at h; subst h; simp
    | succ k =>
      simp only [itsOf, List.getElem?_cons_succ] at h
      obtain ⟨h1, h2⟩ := itsOf_get r _ _ k x h
      exact ⟨by omega, by simpa using h2⟩
theorem itsOf_length : ∀ (l : List Oper) (i : Nat) (ancs : List Nat), (itsOf i ancs l).length = l.length
  | [], _, _ => rfl
  | o :: r, i, ancs => by simp [itsOf, itsOf_length r]
theorem itsOf_mask : ∀ (l : List Oper) (i : Nat) (ancs : List Nat) (m : Nat → Nat), (∀ j, j < i → ancs.getD (i - 1 - j) 0 = m j) → (∀ (k : Nat) x, (itsOf i ancs l)[k]? = some x → m (i + k) = x.m) →
    edgesBack i l = true → ∀ (k : Nat) x j, (itsOf i ancs l)[k]? = some x → (bit x.m j = true ↔ ∃ e ∈ x.o.after.toList, Region.binds .any e = true ∧ (j = e.on ∨ bit (m e.on) j = true)) ∧ (∀ e ∈ x.o.after.toList, Region.binds .any e = true → e.on < i + k)
  | [], i, ancs, m, _, _, _, k, x, j, h => by simp [itsOf] at h
  | o :: r, i, ancs, m, ha, hm, he, k, x, j, h => by
    simp only [edgesBack, Bool.and_eq_true] at he
    have hed : ∀ e ∈ o.after.toList, Region.binds .any e = true → e.on < i := by
      intro e h1 h2
      have := List.all_eq_true.1 he.1 e h1
      rw [h2] at this
      simpa [blt_true] using this
    cases k with
    | zero =>
      simp [itsOf] at h
      subst h
      refine ⟨?_, by simpa using hed⟩
      rw [maskOf_bit m ha _ _ hed]
      simp [bit_zero]
    | succ k =>
      have := itsOf_mask r (i + 1) (maskOf i ancs o.after.toList 0 :: ancs) m (by
        intro q hq
        by_cases hqi : q = i
        · subst hqi
          have := hm 0 ⟨q, o, maskOf q ancs o.after.toList 0⟩ (by simp [itsOf])
          simp at this
          rw [this]; simp
        · have h1 : i + 1 - 1 - q = (i - 1 - q) + 1 := by omega
          rw [h1]
          simpa using ha q (by omega)) (by
        intro q y hy
        have := hm (q + 1) y (by simpa [itsOf] using hy)
        rw [← this]; congr 1; omega) he.2 k x j (by simpa [itsOf] using h)
      refine ⟨this.1, fun e h1 h2 => ?_⟩
      have := this.2 e h1 h2
      omega

theorem okDraw_stat {ops : Array Oper} (h : okDraw ops.toList = true) : Stat ops (maskAt ops.toList) := by
  unfold okDraw at h
  simp only [Bool.and_eq_true] at h
  obtain ⟨h1, h2⟩ := h
  have hget : ∀ (i : Nat) o, ops[i]? = some o → (itsOf 0 [] ops.toList)[i]? = some ⟨i, o, maskAt ops.toList i⟩ := by
    intro i o ho
    have hl : i < (itsOf 0 [] ops.toList).length := by
      rw [itsOf_length]
      have := (Array.getElem?_eq_some_iff.1 ho).1
      simpa using this
    have e := List.getElem?_eq_getElem hl
    obtain ⟨a1, a2⟩ := itsOf_get _ _ _ _ _ e
    rw [e]
    have : maskAt ops.toList i = (itsOf 0 [] ops.toList)[i].m := by unfold maskAt; rw [e]
    have ho' : ops.toList[i]? = some o := by simpa using ho
    rw [ho'] at a2
    cases hx : (itsOf 0 [] ops.toList)[i] with
    | mk xi xo xm =>
      rw [hx] at a1 a2 this
      simp at a1 a2
      subst a1; subst a2
      simp only at this
      rw [this]
  have hmask := itsOf_mask ops.toList 0 [] (maskAt ops.toList) (fun j hj => by omega) (fun k x hx => by unfold maskAt; rw [Nat.zero_add, hx]) h1
  have hpair : ∀ (i j : Nat) oi oj, ops[i]? = some oi → ops[j]? = some oj → i ≠ j → ∀ d, oj.dst = some d → (∀ e, oi.dst = some e → d ≠ e) ∧ (d ∈ oi.looksAt ops → bit (maskAt ops.toList i) j = true ∨ bit (maskAt ops.toList j) i = true) := by
    intro i j oi oj hi hj hne d hd
    have hx := List.mem_of_getElem? (hget i oi hi)
    have hy := List.mem_of_getElem? (hget j oj hj)
    have := List.all_eq_true.1 (List.all_eq_true.1 h2 _ hx) _ hy
    simp only [hd] at this
    have hb : Nat.beq i j = false := beq_false.2 hne
    rw [hb] at this
    simp only [Bool.false_or, Bool.and_eq_true] at this
    refine ⟨fun e he hde => ?_, fun hm => ?_⟩
    · rw [he] at this
      subst hde
      simp [Nat.beq_refl] at this
    · have t2 := this.2
      have hc : (oi.looksAt (ops.toList.toArray)).contains d = true := by simpa using hm
      rw [hc] at t2
      simpa using t2
  refine ⟨?_, ?_, ?_, ?_⟩
  · intro i o ho e he hb
    have := (hmask i _ 0 (hget i o ho)).2 e he hb
    omega
  · intro i o j ho hb
    exact ((hmask i _ j (hget i o ho)).1).1 hb
  · intro i j oi oj d hi hj hdi hdj
    by_cases hne : i = j
    · exact hne
    · exact absurd rfl ((hpair i j oi oj hi hj hne d hdj).1 d hdi)
  · intro i j oi oj d hi hj hne hd hm
    exact (hpair i j oi oj hi hj hne d hd).2 hm
end Go.CRun
