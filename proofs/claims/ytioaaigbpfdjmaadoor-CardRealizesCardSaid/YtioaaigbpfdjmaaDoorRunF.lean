/-
  CRUN, part F: what reads only, the rest, and all of it together.
-/
import Derived.Test.YtioaaigbpfdjmaaDoorRunE
set_option linter.unusedSimpArgs false
set_option linter.unusedVariables false
namespace Go.CRun
open Go Go.RowKit
section
variable {P : Program} {G : Globs} {N : Nat} {ρ : Ren} {h : Hp} {w : World} {tm : TM} {a : Act}

theorem equal_succ (t : TypeId) (x y : Value) : Op.equal t x y = Op.equalIn (9999 + 1) t x y := rfl

theorem nilEq_ok {t : TypeId} {x x' y y' : Value} (hx : VR ρ x x') (hy : VR ρ y y') {r : Bool} (hn : nilEq P t x y = some r) (w : World) :
    (Op.equal t x' y').run P w = .ok r w ∧ (binOp .eql t x' y' = do pure (.bool (← Op.equal t x' y'))) ∧ (binOp .neq t x' y' = do pure (.bool (!(← Op.equal t x' y')))) ∧
      (∀ op o1 o2, (eqGuard op t o1 o2 x' y').run P w = .ok () w) := by
  have noneOf : ∀ {b : Option Addr} {v' : Value}, VR ρ (.pointer b) v' → ∃ b' : Option Addr, v' = .pointer b' ∧ b'.isNone = b.isNone := by
    intro b v' hv
    cases b with
    | none => exact ⟨none, hv.nilPtr, rfl⟩
    | some ad => obtain ⟨ad', rfl⟩ := hv.ptr_some; exact ⟨some ad', rfl, rfl⟩
  have noneOfS : ∀ {b : Option Addr} {l c : Nat} {v' : Value}, VR ρ (.slice b l c) v' → ∃ (b' : Option Addr) (l' c' : Nat), v' = .slice b' l' c' ∧ b'.isNone = b.isNone := by
    intro b l c v' hv
    cases b with
    | none => exact ⟨none, _, _, hv.nilSlice, rfl⟩
    | some ad => obtain ⟨ad', c', rfl, _⟩ := hv.slice_some; exact ⟨some ad', _, _, rfl, rfl⟩
  have noneOfM : ∀ {b : Option Nat} {v' : Value}, VR ρ (.map b) v' → ∃ b' : Option Nat, v' = .map b' ∧ b'.isNone = b.isNone := by
    intro b v' hv
    cases b with
    | none => exact ⟨none, hv.nilMap, rfl⟩
    | some r =>
      rcases hv.map_inv with ⟨_, h2⟩ | ⟨_, p, _, h3⟩
      · exact ⟨_, h2, rfl⟩
      · exact ⟨_, h3, rfl⟩
  unfold nilEq at hn
  split at hn
  · rename_i d b hd
    cases hn
    rw [hx.nilPtr]
    obtain ⟨b', rfl, hb⟩ := noneOf hy
    refine ⟨?_, rfl, rfl, fun op o1 o2 => ?_⟩
    · rw [equal_succ, Op.equalIn]; simp [underlying, hd, hb]
    · unfold eqGuard; split <;> rfl
  · rename_i d b hne hd
    cases hn
    rw [hy.nilPtr]
    obtain ⟨b', rfl, hb⟩ := noneOf hx
    refine ⟨?_, rfl, rfl, fun op o1 o2 => ?_⟩
    · cases b' with
      | none => rw [equal_succ, Op.equalIn]; simp [underlying, hd, ← hb]
      | some _ => rw [equal_succ, Op.equalIn]; simp [underlying, hd, ← hb]
    · unfold eqGuard; split <;> rfl
  · rename_i d l c b l2 c2 hd
    cases hn
    rw [hx.nilSlice]
    obtain ⟨b', l', c', rfl, hb⟩ := noneOfS hy
    refine ⟨?_, rfl, rfl, fun op o1 o2 => ?_⟩
    · rw [equal_succ, Op.equalIn]; simp [underlying, hd, hb]
    · unfold eqGuard; split <;> rfl
  · rename_i d l c b l2 c2 hne hd
    cases hn
    rw [hy.nilSlice]
    obtain ⟨b', l', c', rfl, hb⟩ := noneOfS hx
    refine ⟨?_, rfl, rfl, fun op o1 o2 => ?_⟩
    · cases b' with
      | none => rw [equal_succ, Op.equalIn]; simp [underlying, hd, ← hb]
      | some _ => rw [equal_succ, Op.equalIn]; simp [underlying, hd, ← hb]
    · unfold eqGuard; split <;> rfl
  · rename_i kt et b hd
    cases hn
    rw [hx.nilMap]
    obtain ⟨b', rfl, hb⟩ := noneOfM hy
    refine ⟨?_, rfl, rfl, fun op o1 o2 => ?_⟩
    · rw [equal_succ, Op.equalIn]; simp [underlying, hd, hb]
    · unfold eqGuard; split <;> rfl
  · rename_i kt et b hne hd
    cases hn
    rw [hy.nilMap]
    obtain ⟨b', rfl, hb⟩ := noneOfM hx
    refine ⟨?_, rfl, rfl, fun op o1 o2 => ?_⟩
    · cases b' with
      | none => rw [equal_succ, Op.equalIn]; simp [underlying, hd, ← hb]
      | some _ => rw [equal_succ, Op.equalIn]; simp [underlying, hd, ← hb]
    · unfold eqGuard; split <;> rfl
  · rename_i hd
    cases hn
    rw [hx.nilFunc]
    obtain ⟨f', c', rfl, _⟩ := hy.func_inv
    refine ⟨?_, rfl, rfl, fun op o1 o2 => ?_⟩
    · rw [equal_succ, Op.equalIn]; simp [underlying, hd]
    · unfold eqGuard; split <;> rfl
  · rename_i hd
    cases hn
    rw [hy.nilFunc]
    obtain ⟨f', c', rfl, _⟩ := hx.func_inv
    refine ⟨?_, rfl, rfl, fun op o1 o2 => ?_⟩
    · rw [equal_succ, Op.equalIn]; simp [underlying, hd]
    · unfold eqGuard; split <;> rfl
  · cases hn

/-! maps -/
theorem flatEntries_mem : ∀ {es : List MapEntry}, flatEntries es = true → ∀ e ∈ es, flatN 6 e.key = true ∧ flatN 6 e.val = true
  | [], _ => by simp
  | e :: r, h => by
    simp only [flatEntries] at h
    split at h
    · rename_i h1 h2
      intro x hx
      rcases List.mem_cons.1 hx with rfl | hx
      · exact ⟨h1, h2⟩
      · exact flatEntries_mem h x hx
    · cases h

theorem mapAt_ok (I : Inv G N ρ h w) {r : Nat} {v' : Value} (hv : VR ρ (.map (some r)) v') (hr : Nat.blt r base = false) {es : List MapEntry} {clock : Nat} (hg : h.get (r - base) = some (.map es clock)) :
    ∃ p, ρ (r - base) = some p ∧ v' = .map (some p.blk) ∧ w.heap[p.blk]? = some (.map es.toArray clock) := by
  rcases hv.map_inv with ⟨g, _⟩ | ⟨g, p, h2, h3⟩
  · have := blt_false.1 hr; omega
  · obtain ⟨p', hp', _, hok⟩ := I.dom _ _ hg (by simp)
    rw [h2] at hp'; cases hp'
    exact ⟨p, h2, h3, hok⟩
theorem mapOf_ok (I : Inv G N ρ h w) {x x' : Value} (hx : VR ρ x x') {es : List MapEntry} (hm : mapOf h x = some es) :
    (x' = .map none ∧ es = []) ∨ ∃ r clock, x' = .map (some r) ∧ w.heap[r]? = some (.map es.toArray clock) := by
  unfold mapOf at hm
  split at hm
  · cases hm; exact .inl ⟨hx.nilMap, rfl⟩
  · rename_i r
    split at hm
    · rename_i es' clock hr hg
      cases hm
      obtain ⟨p, _, h2, h3⟩ := mapAt_ok I hx hr hg
      exact .inr ⟨_, _, h2, h3⟩
    · cases hm
  · cases hm

theorem run_getObj_map {r : Nat} {es : Array MapEntry} {clock : Nat} (hh : w.heap[r]? = some (.map es clock)) : (getObj r).run P w = .ok (.map es clock) w := by
  simp [getObj, Sem.run, hh]

theorem findNow_mem (kind : TypeDesc) (k : Value) : ∀ (es : List MapEntry) (i : Nat) (r : Nat × Value), Instr.findNow kind k es i = some (some r) → ∃ e ∈ es, r.2 = e.val
  | [], i, r, h => by simp [Instr.findNow] at h
  | e :: es, i, r, h => by
    simp only [Instr.findNow] at h
    split at h
    · cases h; exact ⟨e, by simp, rfl⟩
    · obtain ⟨x, hx, hv⟩ := findNow_mem kind k es (i + 1) r h; exact ⟨x, by simp [hx], hv⟩
    · cases h
theorem pureOf_bind {α β : Type} (s : Sem α) (f : α → Sem β) : pureOf P (s.bind f) = (pureOf P s).bind fun x => pureOf P (f x) := by
  induction s with
  | pure a => rfl
  | program k ih => exact ih P
  | mark m k ih => exact ih
  | choose q k ih =>
    simp only [Sem.bind, pureOf]
    split
    · exact ih 0
    · rfl
  | _ => rfl
theorem findAsking_mem (kt : TypeId) (k : Value) : ∀ (es : List MapEntry) (i : Nat) (r : Nat × Value), pureOf P (Instr.findAsking kt k es i) = some (some r) → ∃ e ∈ es, r.2 = e.val
  | [], i, r, h => by
    have : pureOf P (Instr.findAsking kt k [] i) = some none := rfl
    rw [this] at h; cases h
  | e :: es, i, r, h => by
    have hb : Instr.findAsking kt k (e :: es) i = (Op.equal kt k e.key).bind fun b => if b then Sem.pure (some (i, e.val)) else Instr.findAsking kt k es (i + 1) := rfl
    rw [hb, pureOf_bind] at h
    cases hq : pureOf P (Op.equal kt k e.key) with
    | none => simp [hq] at h
    | some b =>
      simp only [hq, Option.bind_some] at h
      cases b with
      | true => simp [pureOf] at h; subst h; exact ⟨e, by simp, rfl⟩
      | false =>
        simp only [Bool.false_eq_true, if_false] at h
        obtain ⟨x, hx, hv⟩ := findAsking_mem kt k es (i + 1) r h; exact ⟨x, by simp [hx], hv⟩
theorem findKey_mem {kt : TypeId} {k : Value} {es : List MapEntry} {r : Nat × Value} (h : pureOf P (Instr.findKey kt k es) = some (some r)) : ∃ e ∈ es, r.2 = e.val := by
  have hb : Instr.findKey kt k es = (underlying kt).bind fun d => match Instr.findNow d k es 0 with | some r => Sem.pure r | none => Instr.findAsking kt k es := rfl
  rw [hb, pureOf_bind] at h
  cases hq : pureOf P (underlying kt) with
  | none => simp [hq] at h
  | some d =>
    simp only [hq, Option.bind_some] at h
    cases hf : Instr.findNow d k es 0 with
    | none => simp only [hf] at h; exact findAsking_mem kt k es 0 r h
    | some o =>
      simp only [hf, pureOf, Option.some.injEq] at h
      subst h
      exact findNow_mem d k es 0 r hf

theorem zeroE_ok {t : TypeId} {z : Value} (hz : zeroE P t = some z) : (∃ i, P.info? t = some i ∧ i.zero = some z) ∧ flatN 6 z = true := by
  unfold zeroE at hz
  split at hz
  · rename_i i hi
    split at hz
    · rename_i u hu
      split at hz
      · rename_i hf; cases hz; exact ⟨⟨i, hi, hu⟩, hf⟩
      · cases hz
    · cases hz
  · cases hz

theorem lookupE_ok (I : Inv G N ρ h w) {t : TypeId} {x x' k k' : Value} (hx : VR ρ x x') (hk : VR ρ k k') {ok : Bool} {v : Value} (hl : lookupE P h t x k ok = some v) :
    (Instr.lookup t x' k' ok).run P w = .ok v w ∧ VR ρ v v := by
  unfold lookupE at hl
  split at hl
  · rename_i kt et es hd hm hfk
    have := hk.flat_eq hfk
    subst this
    split at hl
    · rename_i hfe
      split at hl
      · rename_i r hck hfind
        have e1 := pureOf_run hck w
        have e2 := pureOf_run hfind w
        have hes : (x' = .map none ∧ es = []) ∨ ∃ r clock, x' = .map (some r) ∧ w.heap[r]? = some (.map es.toArray clock) := mapOf_ok I hx hm
        have e1' : (Instr.checkKey es.toArray.isEmpty 10000 kt k').run P w = .ok () w := by simpa using e1
        have e1n : es = [] → (Instr.checkKey (#[] : Array MapEntry).isEmpty 10000 kt k').run P w = .ok () w := by intro h; subst h; simpa using e1
        split at hl
        · rename_i i u
          cases hl
          obtain ⟨e, he, hv⟩ := findKey_mem hfind
          have hfu : flatN 6 u = true := by have := (flatEntries_mem hfe e he).2; simp only at hv; rw [hv]; exact this
          refine ⟨?_, ?_⟩
          · rcases hes with ⟨rfl, rfl⟩ | ⟨r, clock, rfl, hh⟩
            · cases he
            · simp only [Instr.lookup, underlying, Sem.run_bind, run_program, Result.andThen_ok, hd, Sem.run_pure, run_getObj_map hh, e1', e2]
              cases ok <;> rfl
          · cases ok
            · exact .flat hfu
            · exact .flat (n := 7) (by simp [flatN, hfu])
        · split at hl
          · rename_i z hz
            cases hl
            obtain ⟨⟨i, hi, hzz⟩, hfz⟩ := zeroE_ok hz
            refine ⟨?_, ?_⟩
            · rcases hes with ⟨rfl, rfl⟩ | ⟨r, clock, rfl, hh⟩
              · simp only [Instr.lookup, underlying, Sem.run_bind, run_program, Result.andThen_ok, hd, Sem.run_pure, e1n rfl, e2, zeroValue, typeInfo, hi, hzz]
                cases ok <;> rfl
              · simp only [Instr.lookup, underlying, Sem.run_bind, run_program, Result.andThen_ok, hd, Sem.run_pure, run_getObj_map hh, e1', e2, zeroValue, typeInfo, hi, hzz]
                cases ok <;> rfl
            · cases ok
              · exact .flat hfz
              · exact .flat (n := 7) (by simp [flatN, hfz])
          · cases hl
      · cases hl
    · cases hl
  · cases hl
end
end Go.CRun
