/-
  CRUN, part A: values, blocks and worlds of a run that the kernel computes, and how they stand to a world of the model.
  An abstract world is a list of blocks, newest first; a block's number in a value is 'base' plus its place from the start. 'ρ' says at which block (and from which cell on, with how many elements behind) it lies in the model's world.
-/
import Derived.Below
import Derived.Orders
import Derived.Tactics
import Derived.KernelRfl
set_option linter.unusedSimpArgs false
set_option linter.unusedVariables false
namespace Go.CRun
open Go Go.RowKit

def base : Nat := 1000000

structure Place where
  blk : Nat
  off : Nat
  extra : Nat

abbrev Ren := Nat → Option Place

/-- A value that names no block from 'base' on. -/
def flatN : Nat → Value → Bool
  | _, .bool _ | _, .int _ _ | _, .float _ _ | _, .complex _ _ _ | _, .string _ | _, .nilFunc | _, .nilIface => true
  | _, .pointer none | _, .slice none _ _ | _, .map none | _, .chan none => true
  | _, .pointer (some a) | _, .slice (some a) _ _ => Nat.blt a.block base
  | _, .map (some r) => Nat.blt r base
  | _, .chan (some _) => false
  | 0, .func _ f c => f.toList.isEmpty && c.toList.isEmpty
  | 0, .iface _ _ => false
  | 0, .agg cs | 0, .tuple cs => cs.toList.isEmpty
  | n + 1, .func _ f c => f.toList.all (flatN n) && c.toList.all (flatN n)
  | n + 1, .iface _ v => flatN n v
  | n + 1, .agg cs | n + 1, .tuple cs => cs.toList.all (flatN n)

inductive VR (ρ : Ren) : Value → Value → Prop
  | flat {n v} : flatN n v = true → VR ρ v v
  | ptr {b o s p} : base ≤ b → ρ (b - base) = some p → VR ρ (.pointer (some ⟨b, o, s⟩)) (.pointer (some ⟨p.blk, p.off + o, s⟩))
  | slice {b o s l c p} : base ≤ b → ρ (b - base) = some p → VR ρ (.slice (some ⟨b, o, s⟩) l c) (.slice (some ⟨p.blk, p.off + o, s⟩) l (c + p.extra))
  | map {r p} : base ≤ r → ρ (r - base) = some p → VR ρ (.map (some r)) (.map (some p.blk))
  | func {fn f f' c c'} : f.size = f'.size → (∀ (i : Nat) v v', f[i]? = some v → f'[i]? = some v' → VR ρ v v') →
      c.size = c'.size → (∀ (i : Nat) v v', c[i]? = some v → c'[i]? = some v' → VR ρ v v') → VR ρ (.func fn f c) (.func fn f' c')
  | iface {t v v'} : VR ρ v v' → VR ρ (.iface t v) (.iface t v')
  | agg {c c'} : c.size = c'.size → (∀ (i : Nat) v v', c[i]? = some v → c'[i]? = some v' → VR ρ v v') → VR ρ (.agg c) (.agg c')
  | tuple {c c'} : c.size = c'.size → (∀ (i : Nat) v v', c[i]? = some v → c'[i]? = some v' → VR ρ v v') → VR ρ (.tuple c) (.tuple c')

/-- Two lists of values, place by place. -/
def LR (ρ : Ren) (l l' : List Value) : Prop := l.length = l'.length ∧ ∀ (i : Nat) v v', l[i]? = some v → l'[i]? = some v' → VR ρ v v'

def Extends (ρ ρ' : Ren) : Prop := ∀ i p, ρ i = some p → ρ' i = some p
theorem Extends.refl (ρ : Ren) : Extends ρ ρ := fun _ _ h => h
theorem Extends.trans {a b c : Ren} (h : Extends a b) (k : Extends b c) : Extends a c := fun i p hp => k i p (h i p hp)

theorem VR.mono {ρ ρ' : Ren} (he : Extends ρ ρ') {v v' : Value} (h : VR ρ v v') : VR ρ' v v' := by
  induction h with
  | flat h => exact .flat h
  | ptr h1 h2 => exact .ptr h1 (he _ _ h2)
  | slice h1 h2 => exact .slice h1 (he _ _ h2)
  | map h1 h2 => exact .map h1 (he _ _ h2)
  | func h1 _ h3 _ ih1 ih2 => exact .func h1 ih1 h3 ih2
  | iface _ ih => exact .iface ih
  | agg h1 _ ih => exact .agg h1 ih
  | tuple h1 _ ih => exact .tuple h1 ih
theorem LR.mono {ρ ρ' : Ren} (he : Extends ρ ρ') {l l' : List Value} (h : LR ρ l l') : LR ρ' l l' := ⟨h.1, fun i v v' a b => (h.2 i v v' a b).mono he⟩

theorem LR.nil (ρ : Ren) : LR ρ [] [] := ⟨rfl, by simp⟩
theorem LR.cons {ρ : Ren} {v v' : Value} {l l' : List Value} (h : VR ρ v v') (t : LR ρ l l') : LR ρ (v :: l) (v' :: l') :=
  ⟨by simp [t.1], fun i a b => by cases i with
    | zero => intro h1 h2; simp at h1 h2; subst h1; subst h2; exact h
    | succ i => simpa using t.2 i a b⟩
theorem LR.cons_inv {ρ : Ren} {v : Value} {l l' : List Value} (h : LR ρ (v :: l) l') : ∃ v' t, l' = v' :: t ∧ VR ρ v v' ∧ LR ρ l t := by
  cases l' with
  | nil => exact absurd h.1 (by simp)
  | cons v' t => exact ⟨v', t, rfl, h.2 0 v v' rfl rfl, by simpa using h.1, fun i a b ha hb => h.2 (i + 1) a b (by simpa using ha) (by simpa using hb)⟩
theorem LR.nil_inv {ρ : Ren} {l' : List Value} (h : LR ρ [] l') : l' = [] := by
  have := h.1; cases l' <;> simp_all
theorem LR.append {ρ : Ren} {a a' b b' : List Value} (h : LR ρ a a') (k : LR ρ b b') : LR ρ (a ++ b) (a' ++ b') := by
  induction a generalizing a' with
  | nil => rw [h.nil_inv]; exact k
  | cons v l ih => obtain ⟨v', t, rfl, h1, h2⟩ := h.cons_inv; exact LR.cons h1 (ih h2)
theorem LR.get {ρ : Ren} {l l' : List Value} (h : LR ρ l l') {i : Nat} {v : Value} (hv : l[i]? = some v) : ∃ v', l'[i]? = some v' ∧ VR ρ v v' := by
  have hi : i < l.length := (List.getElem?_eq_some_iff.1 hv).1
  have hi' : i < l'.length := h.1 ▸ hi
  exact ⟨l'[i], List.getElem?_eq_getElem hi', h.2 i _ _ hv (List.getElem?_eq_getElem hi')⟩
theorem LR.getD {ρ : Ren} {l l' : List Value} (h : LR ρ l l') (i : Nat) : VR ρ (l.getD i undef) (l'.getD i undef) := by
  cases hv : l[i]? with
  | some v => obtain ⟨v', h1, h2⟩ := h.get hv; simpa [List.getD, hv, h1] using h2
  | none =>
    have hi : l.length ≤ i := by simpa using hv
    have : l'[i]? = none := by simp; rw [← h.1]; exact hi
    simp only [List.getD, hv, this, Option.getD_none]
    exact .flat (n := 0) rfl
theorem LR.set {ρ : Ren} {l l' : List Value} (h : LR ρ l l') (i : Nat) {v v' : Value} (hv : VR ρ v v') : LR ρ (l.set i v) (l'.set i v') := by
  refine ⟨by simp [h.1], fun j a b ha hb => ?_⟩
  by_cases hij : i = j
  · subst hij
    simp only [List.getElem?_set] at ha hb
    split at ha <;> split at hb <;> simp_all
  · rw [List.getElem?_set_ne hij] at ha hb
    exact h.2 j a b ha hb
theorem LR.flat {ρ : Ren} {n : Nat} {l : List Value} (h : l.all (flatN n) = true) : LR ρ l l :=
  ⟨rfl, fun i a b ha hb => by
    rw [ha] at hb; cases hb
    exact .flat (List.all_eq_true.1 h _ (List.mem_of_getElem? ha))⟩
theorem LR.take {ρ : Ren} {l l' : List Value} (h : LR ρ l l') (n : Nat) : LR ρ (l.take n) (l'.take n) :=
  ⟨by simp [h.1], fun i a b ha hb => by
    simp only [List.getElem?_take] at ha hb
    split at ha <;> simp_all
    exact h.2 i a b ha hb⟩
theorem LR.drop {ρ : Ren} {l l' : List Value} (h : LR ρ l l') (n : Nat) : LR ρ (l.drop n) (l'.drop n) :=
  ⟨by simp [h.1], fun i a b ha hb => by
    simp only [List.getElem?_drop] at ha hb
    exact h.2 _ a b ha hb⟩

/-! what a related value looks like -/
section inv
variable {ρ : Ren} {w : Value}
theorem VR.bool {b : Bool} (h : VR ρ (.bool b) w) : w = .bool b := by cases h; rfl
theorem VR.int {k : IntKind} {n : Int} (h : VR ρ (.int k n) w) : w = .int k n := by cases h; rfl
theorem VR.string {s : ByteArray} (h : VR ρ (.string s) w) : w = .string s := by cases h; rfl
theorem VR.nilPtr (h : VR ρ (.pointer none) w) : w = .pointer none := by cases h; rfl
theorem VR.nilSlice {l c : Nat} (h : VR ρ (.slice none l c) w) : w = .slice none l c := by cases h; rfl
theorem VR.nilMap (h : VR ρ (.map none) w) : w = .map none := by cases h; rfl
theorem VR.nilFunc (h : VR ρ .nilFunc w) : w = .nilFunc := by cases h; rfl
theorem VR.nilIface (h : VR ρ .nilIface w) : w = .nilIface := by cases h; rfl
theorem VR.flat_eq {n : Nat} {v : Value} (hf : flatN n v = true) (h : VR ρ v w) : w = v := by
  induction h generalizing n with
  | flat _ => rfl
  | ptr h1 _ => simp [flatN, Nat.blt] at hf; omega
  | slice h1 _ => simp [flatN, Nat.blt] at hf; omega
  | map h1 _ => simp [flatN, Nat.blt] at hf; omega
  | func h1 h2 h3 h4 ih1 ih2 =>
    rename_i fn f f' c c'
    have key : ∀ (m : Nat) (x x' : Array Value), x.size = x'.size → (∀ (i : Nat) v v', x[i]? = some v → x'[i]? = some v' → ∀ {n}, flatN n v = true → v' = v) →
        (∀ v ∈ x.toList, flatN m v = true) → x' = x := by
      intro m x x' hs hk hm
      apply Array.ext hs.symm
      intro i hi hi'
      exact hk i x[i] x'[i] (Array.getElem?_eq_getElem hi') (Array.getElem?_eq_getElem hi) (hm _ (by simp))
    cases n with
    | zero =>
      simp [flatN] at hf
      obtain ⟨rfl, rfl⟩ := hf
      have e1 : f' = #[] := Array.eq_empty_of_size_eq_zero (by simpa using h1.symm)
      have e2 : c' = #[] := Array.eq_empty_of_size_eq_zero (by simpa using h3.symm)
      rw [e1, e2]
    | succ n =>
      simp only [flatN, Bool.and_eq_true, List.all_eq_true] at hf
      rw [key n f f' h1 (fun i v v' a b n hn => ih1 i v v' a b hn) hf.1, key n c c' h3 (fun i v v' a b n hn => ih2 i v v' a b hn) hf.2]
  | iface _ ih =>
    cases n with
    | zero => simp [flatN] at hf
    | succ n => rw [ih (n := n) (by simpa [flatN] using hf)]
  | agg h1 h2 ih =>
    rename_i c c'
    cases n with
    | zero =>
      simp [flatN] at hf
      subst hf
      have e2 : c' = #[] := Array.eq_empty_of_size_eq_zero (by simpa using h1.symm)
      rw [e2]
    | succ n =>
      simp only [flatN, List.all_eq_true] at hf
      have : c' = c := by
        apply Array.ext h1.symm
        intro i hi hi'
        exact ih i c[i] c'[i] (Array.getElem?_eq_getElem hi') (Array.getElem?_eq_getElem hi) (hf _ (by simp))
      rw [this]
  | tuple h1 h2 ih =>
    rename_i c c'
    cases n with
    | zero =>
      simp [flatN] at hf
      subst hf
      have e2 : c' = #[] := Array.eq_empty_of_size_eq_zero (by simpa using h1.symm)
      rw [e2]
    | succ n =>
      simp only [flatN, List.all_eq_true] at hf
      have : c' = c := by
        apply Array.ext h1.symm
        intro i hi hi'
        exact ih i c[i] c'[i] (Array.getElem?_eq_getElem hi') (Array.getElem?_eq_getElem hi) (hf _ (by simp))
      rw [this]
theorem VR.agg_inv {cs : Array Value} (h : VR ρ (.agg cs) w) : ∃ cs', w = .agg cs' ∧ LR ρ cs.toList cs'.toList := by
  cases h with
  | flat hf =>
    rename_i n
    refine ⟨cs, rfl, ?_⟩
    cases n with
    | zero => simp [flatN] at hf; subst hf; exact LR.nil _
    | succ n => exact LR.flat (by simpa [flatN] using hf)
  | agg h1 h2 => exact ⟨_, rfl, by simpa using h1, fun i a b ha hb => h2 i a b (by simpa using ha) (by simpa using hb)⟩
theorem VR.tuple_inv {cs : Array Value} (h : VR ρ (.tuple cs) w) : ∃ cs', w = .tuple cs' ∧ LR ρ cs.toList cs'.toList := by
  cases h with
  | flat hf =>
    rename_i n
    refine ⟨cs, rfl, ?_⟩
    cases n with
    | zero => simp [flatN] at hf; subst hf; exact LR.nil _
    | succ n => exact LR.flat (by simpa [flatN] using hf)
  | tuple h1 h2 => exact ⟨_, rfl, by simpa using h1, fun i a b ha hb => h2 i a b (by simpa using ha) (by simpa using hb)⟩
theorem VR.func_inv {fn : Fn} {f c : Array Value} (h : VR ρ (.func fn f c) w) : ∃ f' c', w = .func fn f' c' ∧ LR ρ f.toList f'.toList ∧ LR ρ c.toList c'.toList := by
  cases h with
  | flat hf =>
    rename_i n
    refine ⟨f, c, rfl, ?_⟩
    cases n with
    | zero => simp [flatN] at hf; obtain ⟨rfl, rfl⟩ := hf; exact ⟨LR.nil _, LR.nil _⟩
    | succ n => simp only [flatN, Bool.and_eq_true] at hf; exact ⟨LR.flat hf.1, LR.flat hf.2⟩
  | func h1 h2 h3 h4 => exact ⟨_, _, rfl, ⟨by simpa using h1, fun i a b ha hb => h2 i a b (by simpa using ha) (by simpa using hb)⟩, by simpa using h3, fun i a b ha hb => h4 i a b (by simpa using ha) (by simpa using hb)⟩
theorem VR.iface_inv {t : TypeId} {v : Value} (h : VR ρ (.iface t v) w) : ∃ v', w = .iface t v' ∧ VR ρ v v' := by
  cases h with
  | flat hf =>
    rename_i n
    cases n with
    | zero => simp [flatN] at hf
    | succ n => exact ⟨v, rfl, .flat (n := n) (by simpa [flatN] using hf)⟩
  | iface h => exact ⟨_, rfl, h⟩
theorem VR.ptr_inv {a : Addr} (h : VR ρ (.pointer (some a)) w) :
    (a.block < base ∧ w = .pointer (some a)) ∨ (base ≤ a.block ∧ ∃ p, ρ (a.block - base) = some p ∧ w = .pointer (some ⟨p.blk, p.off + a.off, a.spot⟩)) := by
  cases h with
  | flat hf => left; simp [flatN, Nat.blt] at hf; exact ⟨by omega, rfl⟩
  | ptr h1 h2 => exact .inr ⟨h1, _, h2, rfl⟩
theorem VR.slice_inv {a : Addr} {l c : Nat} (h : VR ρ (.slice (some a) l c) w) :
    (a.block < base ∧ w = .slice (some a) l c) ∨ (base ≤ a.block ∧ ∃ p, ρ (a.block - base) = some p ∧ w = .slice (some ⟨p.blk, p.off + a.off, a.spot⟩) l (c + p.extra)) := by
  cases h with
  | flat hf => left; simp [flatN, Nat.blt] at hf; exact ⟨by omega, rfl⟩
  | slice h1 h2 => exact .inr ⟨h1, _, h2, rfl⟩
theorem VR.map_inv {r : Nat} (h : VR ρ (.map (some r)) w) :
    (r < base ∧ w = .map (some r)) ∨ (base ≤ r ∧ ∃ p, ρ (r - base) = some p ∧ w = .map (some p.blk)) := by
  cases h with
  | flat hf => left; simp [flatN, Nat.blt] at hf; exact ⟨by omega, rfl⟩
  | map h1 h2 => exact .inr ⟨h1, _, h2, rfl⟩
end inv
theorem VR.agg_mk {ρ : Ren} {l l' : List Value} (h : LR ρ l l') : VR ρ (.agg l.toArray) (.agg l'.toArray) :=
  .agg (by simpa using h.1) fun i a b ha hb => h.2 i a b (by simpa using ha) (by simpa using hb)
theorem VR.tuple_mk {ρ : Ren} {l l' : List Value} (h : LR ρ l l') : VR ρ (.tuple l.toArray) (.tuple l'.toArray) :=
  .tuple (by simpa using h.1) fun i a b ha hb => h.2 i a b (by simpa using ha) (by simpa using hb)
theorem VR.oneCell {ρ : Ren} {v v' : Value} (h : VR ρ v v') : v'.oneCell' = v.oneCell' := by cases h <;> rfl
theorem VR.cells {ρ : Ren} {v v' : Value} (h : VR ρ v v') : LR ρ v.cells.toList v'.cells.toList := by
  cases v with
  | agg cs => obtain ⟨cs', rfl, h'⟩ := h.agg_inv; exact h'
  | _ => cases h <;> exact LR.cons (by first | exact .flat (n := _) ‹_› | constructor <;> assumption) (LR.nil _)
end Go.CRun
