/-
  SEQ, part B: a region that draws its order, in which one operation (a call of yield, say) turns the world from one class into another, and all others say the same in both.
-/
import Derived.Test.YtbocmbhinjkjlaaSeqA
import Derived.Still
import Derived.OrdersIn
set_option linter.unusedSimpArgs false
set_option linter.unusedVariables false
namespace Go.Seq
open Go Go.RowKit

/-- What an operation's run comes to: the value v, and a world of class D. -/
def Comes (P : Program) (D : World → Prop) (v : Value) : Result Next → Prop
  | .ok (.value u) w' => u = v ∧ D w'
  | .ok .skip w' => v = undef ∧ D w'
  | .ok (.enter f args) w' => Calls P f args w' fun e w'' => e = .returned v ∧ D w''
  | .ok (.round l f tmps assign body) w' => RoundIn Fence.wide 0 P l f tmps assign body w' fun e w'' => e = .returned v ∧ D w''
  | _ => False

section
variable {P : Program} {ops : Array Oper} {md : Region.Mode} {C : Bool → World → Prop} {p : Nat}

def Tr (P : Program) (C : Bool → World → Prop) (p i : Nat) (o : Oper) (a : Act) (v : Value) : Prop :=
  ∀ b w, (i = p → b = false) → C b w → Comes P (C (b || i == p)) v ((execOp a.eval o).run P w)
def YT (P : Program) (ops : Array Oper) (C : Bool → World → Prop) (p i : Nat) (o : Oper) (a : Act) (v : Value) : Prop :=
  (Region.wanted o (yielded ops a.tmps) = true ∧ Tr P C p i o a v) ∨ (Region.wanted o (yielded ops a.tmps) = false ∧ i ≠ p ∧ v = undef)
def opT (P : Program) (ops : Array Oper) (C : Bool → World → Prop) (p i : Nat) (K : Act → Prop) (a : Act) : Prop :=
  ∃ o v, ops[i]? = some o ∧ YT P ops C p i o a v ∧ K (a.put o.dst v)
def anyT (P : Program) (md : Region.Mode) (ops : Array Oper) (C : Bool → World → Prop) (p : Nat) (Q : Act → Prop) : Nat → Array Bool → Act → Prop
  | 0, listed, a => Region.ready md ops listed = [] ∧ listed.getD p true = true ∧ Q a
  | fuel + 1, listed, a => (Region.ready md ops listed = [] → listed.getD p true = true ∧ Q a) ∧
    ∀ i ∈ Region.ready md ops listed, opT P ops C p i (anyT P md ops C p Q fuel (listed.setIfInBounds i true)) a
def lexT (P : Program) (ops : Array Oper) (C : Bool → World → Prop) (p : Nat) (Q : Act → Prop) : Nat → List Oper → Act → Prop
  | _, [], a => Q a
  | k, o :: rest, a => ∃ v, YT P ops C p k o a v ∧ lexT P ops C p Q (k + 1) rest (a.put o.dst v)

theorem opT_mono {i : Nat} {a : Act} {K K' : Act → Prop} (h : ∀ a, K a → K' a) (hh : opT P ops C p i K a) : opT P ops C p i K' a :=
  let ⟨o, v, h1, h2, h3⟩ := hh; ⟨o, v, h1, h2, h _ h3⟩

theorem YT.same {i : Nat} {o : Oper} {v : Value} {a a' : Act} (hy : YT P ops C p i o a v) (he : execOp a'.eval o = execOp a.eval o)
    (hw : Region.wanted o (yielded ops a'.tmps) = Region.wanted o (yielded ops a.tmps)) : YT P ops C p i o a' v := by
  unfold YT Tr at *
  rw [he, hw]; exact hy

/-- Where the value of one operation lies already, another that is apart from it says the same, and the other way about. -/
theorem opT_put {i j : Nat} {oi oj : Oper} {v : Value} (hj : ops[j]? = some oj) (hap : oi.apart ops oj = true)
    (hsi : ∀ cs b, oi.op ≠ .select cs b) (hsj : ∀ cs b, oj.op ≠ .select cs b) {K : Act → Prop} {a : Act}
    (hy : YT P ops C p i oi a v) (h : opT P ops C p j K (a.put oi.dst v)) :
    opT P ops C p j (fun a' => YT P ops C p i oi a' v ∧ K (a'.put oi.dst v)) a := by
  obtain ⟨h1, h2, h3⟩ := Oper.apart_spec hap
  obtain ⟨o, u, ho, hu, hK⟩ := h
  obtain rfl : oj = o := Option.some.inj (hj.symm.trans ho)
  refine ⟨oj, u, hj, hu.same (execOp_put oj hsj a oi.dst v h1).symm (wanted_put oj a oi.dst v h1).symm, ?_, ?_⟩
  · exact hy.same (execOp_put oi hsi a oj.dst u h3) (wanted_put oi a oj.dst u h3)
  · rw [← Act.put_comm a v u h2]; exact hK

theorem anyT_first {Q : Act → Prop} {i : Nat} {oi : Oper} {v : Value} (hi : ops[i]? = some oi) (hsel : ∀ (j : Nat) (o : Oper) cs b, ops[j]? = some o → o.op ≠ .select cs b) :
    ∀ (fuel : Nat) (listed : Array Bool) (a : Act),
      (∀ j oj, ops[j]? = some oj → j ≠ i → listed.getD j true = false → (∀ e ∈ oj.after, Region.binds md e = true → e.on ≠ i) → oi.apart ops oj = true) →
      i ∈ Region.ready md ops listed → YT P ops C p i oi a v →
      anyT P md ops C p Q fuel (listed.setIfInBounds i true) (a.put oi.dst v) → anyT P md ops C p Q (fuel + 1) listed a
  | 0, listed, a, _, hr, hy, H => by
    refine ⟨fun h => (by rw [h] at hr; cases hr), fun j hj => ?_⟩
    by_cases hji : j = i
    · subst hji; exact ⟨oi, v, hi, hy, H⟩
    · have := ready_mono hj hji
      rw [H.1] at this; cases this
  | fuel + 1, listed, a, hfree, hr, hy, H => by
    refine ⟨fun h => (by rw [h] at hr; cases hr), fun j hj => ?_⟩
    by_cases hji : j = i
    · subst hji; exact ⟨oi, v, hi, hy, H⟩
    · have h1 := H.2 j (ready_mono hj hji)
      obtain ⟨hjun, oj, hoj, hall⟩ := mem_ready.1 hj
      have hni := (mem_ready.1 hr).1
      have hnot : ∀ e ∈ oj.after, Region.binds md e = true → e.on ≠ i := fun e he hb heq => by
        have h2 := hall e he hb
        rw [heq] at h2
        by_cases h' : i < listed.size
        · simp [h'] at h2 hni; rw [hni] at h2; cases h2
        · simp [Array.getElem?_eq_none (Nat.le_of_not_lt h')] at h2
      refine opT_mono (fun a' h3 => anyT_first hi hsel fuel (listed.setIfInBounds j true) a' ?_ (ready_mono hr (Ne.symm hji)) h3.1 ?_)
        (opT_put hoj (hfree j oj hoj hji hjun hnot) (fun cs b => hsel i oi cs b hi) (fun cs b => hsel j oj cs b hoj) hy h1)
      · intro k ok hk hki hun hno
        refine hfree k ok hk hki ?_ hno
        by_cases hjk : j = k
        · subst hjk; exact hjun
        · rw [getD_set_ne true hjk] at hun; exact hun
      · rw [Array.setIfInBounds_comm _ _ hji]; exact h3.2

theorem anyT_lex {Q : Act → Prop} (hs : Region.noSelect ops = true) (hp : p < ops.size) : ∀ (l : List Oper) (k : Nat) (listed : Array Bool) (a : Act), (∀ j, l[j]? = ops[k + j]?) →
    (∀ j, j < k → listed.getD j true = true) → Region.lexFrom md ops l.length k listed = true → lexT P ops C p Q k l a → anyT P md ops C p Q l.length listed a
  | [], k, listed, a, hl, hd, hB, h => by
    refine ⟨by simpa [Region.lexFrom] using hB, hd p ?_, h⟩
    have h0 : ops[k]? = none := by simpa using (hl 0).symm
    rw [Array.getElem?_eq_none_iff] at h0
    omega
  | o :: l, k, listed, a, hl, hd, hB, h => by
    have h0 : ops[k]? = some o := by simpa using (hl 0).symm
    simp only [List.length_cons, Region.lexFrom, Bool.and_eq_true] at hB
    obtain ⟨⟨hr, hf⟩, hB'⟩ := hB
    obtain ⟨v, hy, hK⟩ := h
    refine anyT_first h0 (Region.noSelect_spec hs) l.length listed a (Region.free_spec h0 hf) (by simpa using hr) hy
      (anyT_lex hs hp l (k + 1) _ _ (fun j => by have := hl (j + 1); simpa [Nat.add_assoc, Nat.add_comm 1 j] using this) ?_ hB' hK)
    intro j hj
    by_cases hjk : k = j
    · subst hjk
      by_cases h' : k < listed.size
      · simp [h']
      · simp [Array.getElem?_eq_none, Nat.le_of_not_lt h']
    · rw [getD_set_ne true hjk]; exact hd j (by omega)

theorem wpIn_of_comes {n : Nat} {o : Oper} {a : Act} {v : Value} {w : World} {D : World → Prop} {K : Act → World → Prop} {Q : Exit → Act → World → Prop}
    (h : Comes P D v ((execOp a.eval o).run P w)) (hK : ∀ w', D w' → K (a.put o.dst v) w') : o.wpIn Fence.wide n P a w K Q := by
  refine ⟨fun _ _ => trivial, ?_⟩
  show o.uponIn Fence.wide n P a K Q ((Oper.semAt none a.eval o).run P w)
  rw [Oper.semAt_none]
  generalize (execOp a.eval o).run P w = r at *
  cases r with
  | ok x w' =>
    cases x <;> simp only [Comes] at h <;> simp only [Oper.uponIn]
    case value u => obtain ⟨rfl, hd⟩ := h; exact hK _ hd
    case skip => obtain ⟨rfl, hd⟩ := h; exact hK _ hd
    case enter f args => exact ⟨fun hd => by simp [Fence.wide] at hd, (callsIn_wide.2 h).mono fun e w'' ⟨he, hd⟩ => by subst he; exact hK _ hd⟩
    case round l f tmps assign body =>
      refine ⟨fun hd => by simp [Fence.wide] at hd, RoundIn.mono (R := fun e w'' => e = .returned v ∧ D w'') ⟨h.1, fun c cs _ => h.2 c cs (room_wide _)⟩ fun e w'' ⟨he, hd⟩ => by subst he; exact hK _ hd⟩
  | halt x w' => simp only [Comes] at h

theorem wpAnyIn_of_T {n : Nat} {Q : Act → Prop} {Q' : Exit → Act → World → Prop} (hQ : ∀ a w, C true w → Q a → Q' .normal a w) : ∀ (fuel : Nat) (listed : Array Bool) (a : Act) (w : World), C (listed.getD p true) w →
    anyT P md ops C p Q fuel listed a → wpAnyIn Fence.wide n P md ops Q' fuel listed a w
  | 0, listed, a, w, hw, h => ⟨h.1, hQ _ _ (h.2.1 ▸ hw) h.2.2⟩
  | fuel + 1, listed, a, w, hw, h => by
    refine ⟨fun h0 => hQ _ _ ((h.1 h0).1 ▸ hw) (h.1 h0).2, fun i hi => ?_⟩
    obtain ⟨o, v, ho, hy, hK⟩ := h.2 i hi
    have hun := (mem_ready.1 hi).1
    have hset : (listed.setIfInBounds i true).getD p true = (listed.getD p true || i == p) := by
      by_cases hip : i = p
      · subst hip
        by_cases h' : i < listed.size
        · simp [h']
        · simp [Array.getElem?_eq_none, Nat.le_of_not_lt h']
      · rw [getD_set_ne true hip]; simp [hip]
    unfold wpOpIn
    simp only [ho]
    rcases hy with ⟨hwt, ht⟩ | ⟨hwt, hne, rfl⟩
    · simp only [hwt, if_true]
      refine wpIn_of_comes (ht _ w (fun e => by subst e; exact hun) hw) fun w' hd => wpAnyIn_of_T hQ fuel _ _ w' (by rw [hset]; exact hd) hK
    · simp only [hwt, Bool.false_eq_true, if_false]
      refine ⟨fun _ _ => trivial, wpAnyIn_of_T hQ fuel _ _ w (by rw [hset, show (i == p) = false by simpa using hne, Bool.or_false]; exact hw) hK⟩

/-- THE REGION: the walk of the text's order serves every order. -/
theorem region_pivot {id n : Nat} {Q : Exit → Act → World → Prop} {a : Act} {w : World} {l : List Oper} (p : Nat) (C : Bool → World → Prop) (hm : P.follows .mixedOrders = true) (hB : Region.lexB .any l.toArray = true)
    (hp : p < l.length) (hC : C false w.drew) (h : lexT P l.toArray C p (fun a' => ∀ w', C true w' → Q .normal a' w') 0 l a) : (Code.region id l.toArray true).wpIn Fence.wide n P Q a w := by
  simp only [Region.lexB, Bool.and_eq_true] at hB
  refine wpIn_region_any hm (wpAnyIn_of_T (p := p) (C := C) (Q := fun a' => ∀ w', C true w' → Q .normal a' w') (fun _ w' hw' h => h w' hw') _ _ _ _ ?_ ?_)
  · have : (Array.replicate l.toArray.size false).getD p true = false := by simp [hp]
    rw [this]; exact hC
  · have := anyT_lex (P := P) (C := C) (p := p) (md := .any) hB.1 (by simpa using hp) l 0 (Array.replicate l.toArray.size false) a (by simp) (by simp) (by simpa using hB.2) h
    simpa using this
end
end Go.Seq
