/-
  CRUN, part R: tables of known results, and the three facts of a program.
-/
import Derived.Test.YtioaaigbpfdjmaaDoorRunQ
set_option linter.unusedSimpArgs false
set_option linter.unusedVariables false
namespace Go.CRun
open Go Go.RowKit

/-- a library function without a body, its arguments, its value -/
abbrev EL := Nat × List Value × Value
noncomputable def findExt (f : Nat) (args : List Value) : List EL → Option Value
  | [] => none
  | e :: r => match Nat.beq e.1 f, eqAL e.2.1 args with | true, true => some e.2.2 | _, _ => findExt f args r
structure KR where
  f : Nat
  args : List Value
  res : Res
noncomputable def findRes (f : Nat) (args : List Value) : List KR → Option Res
  | [] => none
  | e :: r => match Nat.beq e.f f, eqAL e.args args with | true, true => some e.res | _, _ => findRes f args r
noncomputable def tabs (E : List EL) (R : List KR) : Known := ⟨fun f a => findExt f a E, fun f a => findRes f a R⟩

theorem findExt_mem {f : Nat} {args : List Value} {v : Value} : ∀ {T : List EL}, findExt f args T = some v → (f, args, v) ∈ T
  | [], h => by simp [findExt] at h
  | (g, a, x) :: r, h => by
    unfold findExt at h
    split at h
    · rename_i h1 h2
      cases beq_true.1 h1
      cases eqAL_eq _ _ h2
      cases h
      exact List.mem_cons_self
    · exact List.mem_cons_of_mem _ (findExt_mem h)
theorem findRes_mem {f : Nat} {args : List Value} {v : Res} : ∀ {T : List KR}, findRes f args T = some v → ⟨f, args, v⟩ ∈ T
  | [], h => by simp [findRes] at h
  | ⟨g, a, x⟩ :: r, h => by
    unfold findRes at h
    split at h
    · rename_i h1 h2
      cases beq_true.1 h1
      cases eqAL_eq _ _ h2
      cases h
      exact List.mem_cons_self
    · exact List.mem_cons_of_mem _ (findRes_mem h)

def extOK (P : Program) (T : List EL) : Bool :=
  T.all fun e => allFlat e.2.1 && flatN 6 e.2.2 && (match pureOf P (callFunc e.1 e.2.1.toArray) with | some (.value v) => eqV v e.2.2 | _ => false)

structure LineOK (P : Program) (G : Globs) (N : Nat) (k : KR) : Prop where
  flat : allFlat k.args = true
  enter : ∃ fn c, P.funcs[k.f]? = some fn ∧ fn.body = some c
  sum : SumOK P G N k.f k.args k.res

theorem knownOK_of {P : Program} {G : Globs} {N : Nat} (hP : ProgOK P) {E : List EL} {R : List KR} (hE : extOK P E = true) (hR : ∀ k ∈ R, LineOK P G N k) : KnownOK P G N (tabs E R) := by
  constructor
  · intro f args v hv
    have hm := findExt_mem hv
    have := List.all_eq_true.1 hE _ hm
    simp only [Bool.and_eq_true] at this
    obtain ⟨⟨h1, h2⟩, h3⟩ := this
    refine ⟨h1, h2, fun w => ?_⟩
    split at h3
    · rename_i v' hp
      have := eqV_eq _ _ h3
      subst this
      exact pureOf_run hp w
    · cases h3
  · intro f args r hr
    obtain ⟨h1, ⟨fn, c, h2, h3⟩, h4⟩ := hR _ (findRes_mem hr)
    exact ⟨h1, run_enter h2 h3 (hP.names _ _ h2), h4⟩

theorem enter_of_run {P : Program} {G : Globs} {X : Known} {n : Nat} {f : FuncId} {args : List Value} {K : Value → Hp → Bool} (hr : runF P G X n f args K = true) : ∃ fn c, P.funcs[f]? = some fn ∧ fn.body = some c := by
  unfold runF at hr
  split at hr
  · rename_i fn hfn
    split at hr
    · rename_i c hb; exact ⟨fn, c, hfn, hb⟩
    · cases hr
  · cases hr

theorem line_of_run {P : Program} {G : Globs} {N : Nat} (hP : ProgOK P) {X : Known} (hX : KnownOK P G N X) {n : Nat} {k : KR} (hr : runF P G X n k.f k.args (isRes k.res) = true) (hf : allFlat k.args = true) : LineOK P G N k :=
  ⟨hf, enter_of_run hr, sum_of_run hP hX hr hf⟩

def namesOK (P : Program) : Bool := P.funcs.toList.all fun fn => !(fn.name == "runtime.NumGoroutine")
def codesOK (P : Program) : Bool := P.funcs.toList.all fun fn => match fn.body with | some c => okCode okDraw c | none => true
theorem progOK_of {P : Program} (h1 : namesOK P = true) (h2 : P.follows .mixedOrders = true) (h3 : codesOK P = true) : ProgOK P := by
  have mem : ∀ (f : Nat) fn, P.funcs[f]? = some fn → fn ∈ P.funcs.toList := fun f fn h => by
    rw [← Array.getElem?_toList] at h; exact List.mem_of_getElem? h
  refine ⟨h2, fun f fn h => ?_, fun f fn c h hb => ?_⟩
  · have := List.all_eq_true.1 h1 _ (mem f fn h)
    simpa using this
  · have := List.all_eq_true.1 h3 _ (mem f fn h)
    rw [hb] at this; exact this

/-- A run that answers true: so does every call. -/
theorem true_of_sum {P : Program} {G : Globs} {N : Nat} {f : FuncId} (h : SumOK P G N f [] ⟨false, [.flat (.bool true)]⟩) {w : World} (hg : GlobOK G N w) (hN : N ≤ w.heap.size) :
    Calls P f #[] w fun e w' => e = .returned (.bool true) ∧ Below w.heap.size w w' := by
  refine (h w hg hN).mono ?_
  rintro e w' ⟨vs, rfl, hb, hp⟩
  refine ⟨?_, hb⟩
  cases vs with
  | nil => exact hp.elim
  | cons x xs => obtain ⟨rfl, _, _⟩ := hp; rfl
end Go.CRun
