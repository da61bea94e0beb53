/-
  CRUN, part L: the operations of a region in the order of the text; a piece of code; a function.
-/
import Derived.Test.YtioaaigbpfdjmaaDoorRunK
import Derived.LoopN
set_option linter.unusedSimpArgs false
set_option linter.unusedVariables false
namespace Go.CRun
open Go Go.RowKit
section
variable {P : Program} {G : Globs} {N : Nat} {ρ : Ren} {h : Hp} {w : World} {tm : TM} {a : Act}

theorem putT_ok (T : TMR ρ tm a) {d : Option Tmp} {v v' : Value} (hv : VR ρ v v') {K : TM → Bool} (hk : putT tm d v K = true) : ∃ tm', K tm' = true ∧ TMR ρ tm' (a.put d v') := by
  unfold putT at hk
  split at hk
  · rename_i i
    obtain ⟨h1, tm', h2, h3, h4⟩ := TM.setK_true hk
    refine ⟨tm', h2, by rw [h3, T.size]; simp [Act.put], fun j => ?_, T.defers⟩
    rw [h4]
    have hi : i < a.tmps.size := by rw [← T.size]; exact h1
    by_cases hj : j = i
    · subst hj
      rw [if_pos rfl]
      simpa [Act.put, Array.getD, hi] using hv
    · rw [if_neg hj]
      have := T.val j
      simpa [Act.put, Array.getD_eq_getD_getElem?, Array.getElem?_setIfInBounds_ne (fun e => hj e.symm)] using this
  · exact ⟨tm, hk, T⟩

theorem VR.bool_iff {v v' : Value} (hv : VR ρ v v') (b : Bool) : v = .bool b ↔ v' = .bool b := by
  constructor
  · intro e; subst e; exact hv.bool
  · intro e; subst e; cases hv <;> rfl

theorem yieldE_ok (T : TMR ρ tm a) (ops : Array Oper) (j : Nat) : yieldE ops.toList tm j = yielded ops a.tmps j := by
  unfold yieldE yielded
  simp only [Array.getElem?_toList]
  cases ho : ops[j]? with
  | none => simp
  | some o =>
    cases hd : o.dst with
    | none => simp [hd]
    | some d =>
      simp only [hd, Option.bind_some]
      have hv := T.val d
      by_cases hs : d < a.tmps.size
      · have e : a.tmps.getD d undef = a.tmps[d] := by simp [Array.getD, hs]
        rw [e] at hv
        rw [Array.getElem?_eq_getElem hs]
        have := fun b => hv.bool_iff b
        split
        · rename_i b hb
          have := (this b).1 hb
          rw [this]
        · rename_i hn
          split
          · rename_i b hb
            simp at hb
            exact absurd ((this b).2 hb) (hn b)
          · rfl
      · have e : a.tmps.getD d undef = undef := by simp [Array.getD, hs]
        rw [e] at hv
        rw [Array.getElem?_eq_none (Nat.le_of_not_lt hs)]
        have := fun b => hv.bool_iff b
        split
        · rename_i b hb
          have := (this b).1 hb
          cases this
        · rfl
theorem wantE_ok (T : TMR ρ tm a) (ops : Array Oper) (o : Oper) : wantE ops.toList tm o = Region.wanted o (yielded ops a.tmps) := by
  unfold wantE Region.wanted
  cases o.guard with
  | none => rfl
  | some g =>
    obtain ⟨j, want⟩ := g
    simp only [yieldE_ok T ops j]
    cases yielded ops a.tmps j with
    | none => rfl
    | some b => cases b <;> cases want <;> rfl

theorem opsK_ok {call : CallK} (S : CallSound P G N call) (ops : Array Oper) {Q : Exit → Act → World → Prop} {K : TM → Hp → Bool} : ∀ (l : List Oper) {tm : TM} {h : Hp} {a : Act} {w : World} {ρ : Ren},
    opsK P G call ops.toList l tm h K = true → Inv G N ρ h w → TMR ρ tm a →
    (∀ ρ' tm' h' a' w', K tm' h' = true → Inv G N ρ' h' w' → TMR ρ' tm' a' → Ext ρ h w ρ' h' w' → Q .normal a' w') → wpList P ops Q l a w
  | [], tm, h, a, w, ρ, hk, I, T, hq => hq ρ tm h a w hk I T (.refl _ _ _)
  | o :: r, tm, h, a, w, ρ, hk, I, T, hq => by
    simp only [opsK] at hk
    unfold wpList
    split at hk
    · rename_i hw
      rw [if_pos (by rw [← wantE_ok T]; exact hw)]
      refine .inl ((opK_ok S I T hk).wp ?_)
      rintro v' w' ⟨ρ', h', v, hK, hv, I', E'⟩
      simp only [fV_eq] at hK
      obtain ⟨tm', hK', T'⟩ := putT_ok (T.mono E'.ext) hv hK
      exact opsK_ok S ops r hK' I' T' fun ρ2 tm2 h2 a2 w2 k1 k2 k3 k4 => hq ρ2 tm2 h2 a2 w2 k1 k2 k3 (E'.trans k4)
    · rename_i hw
      rw [if_neg (by rw [← wantE_ok T, hw]; simp)]
      obtain ⟨tm', hK', T'⟩ := putT_ok T (.flat (n := 0) rfl) hk
      exact opsK_ok S ops r hK' I T' hq

/-- What is asked of a region whose order is drawn. -/
def DrawSound (P : Program) (G : Globs) (N : Nat) (call : CallK) (ops : Array Oper) : Prop :=
  ∀ {id : Nat} {Q : Exit → Act → World → Prop} {K : TM → Hp → Bool} {tm : TM} {h : Hp} {a : Act} {w : World} {ρ : Ren}, drawK P G call ops.toList tm h K = true → Inv G N ρ h w → TMR ρ tm a →
    (∀ ρ' tm' h' a' w', K tm' h' = true → Inv G N ρ' h' w' → TMR ρ' tm' a' → Ext ρ h w ρ' h' w' → Q .normal a' w') → (Code.region id ops true).wp P Q a w

/-- Every region of a piece of code whose order is drawn is of a kind that is told. -/
def okCode (ok : List Oper → Bool) : Code → Bool
  | .region _ ops true => ok ops.toList
  | .seq a b => okCode ok a && okCode ok b
  | .cond _ a b => okCode ok a && okCode ok b
  | .block _ b => okCode ok b
  | .loop b => okCode ok b
  | .rangeFunc _ _ a b => okCode ok a && okCode ok b
  | .scope b => okCode ok b
  | _ => true

def PostOK (G : Globs) (N : Nat) (ρ : Ren) (h : Hp) (w : World) (Q : PostK) (e : Exit) (a' : Act) (w' : World) : Prop :=
  ∃ ρ' tm' h', Q e tm' h' = true ∧ Inv G N ρ' h' w' ∧ TMR ρ' tm' a' ∧ Ext ρ h w ρ' h' w'
theorem PostOK.trans {ρ1 : Ren} {h1 : Hp} {w1 : World} (E : Ext ρ h w ρ1 h1 w1) {Q : PostK} {e : Exit} {a' : Act} {w' : World} (p : PostOK G N ρ1 h1 w1 Q e a' w') : PostOK G N ρ h w Q e a' w' :=
  let ⟨ρ', tm', h', k1, k2, k3, k4⟩ := p; ⟨ρ', tm', h', k1, k2, k3, E.trans k4⟩

theorem rounds_mono {c : Code} {Q Q' : Exit → Act → World → Prop} (hq : ∀ e a w, Q e a w → Q' e a w) : ∀ (n : Nat) (a : Act) (w : World), Code.rounds P c Q n a w → Code.rounds P c Q' n a w
  | 0, _, _, hr => hr
  | n + 1, a, w, hr => wp_mono (show c.wp P (Exit.then (Code.rounds P c Q n) Q) a w from hr) fun e a w p => by
    cases e with
    | normal => exact rounds_mono hq n a w p
    | _ => exact hq _ _ _ p

/-- That a way to run code is sound; a loop is run by at most so many rounds. -/
structure CodeSound (P : Program) (G : Globs) (N : Nat) (ok : List Oper → Bool) (k : Nat) (run : Code → TM → Hp → PostK → Bool) : Prop where
  code : ∀ c tm h Q, okCode ok c = true → run c tm h Q = true → ∀ ρ a w, Inv G N ρ h w → TMR ρ tm a → c.wp P (PostOK G N ρ h w Q) a w
  loop : ∀ b tm h Q, okCode ok b = true → run (.loop b) tm h Q = true → ∀ ρ a w, Inv G N ρ h w → TMR ρ tm a → Code.rounds P b (PostOK G N ρ h w Q) k a w

theorem stepK_loop {ok : List Oper → Bool} {call : CallK} {k : Nat} {run : Code → TM → Hp → PostK → Bool} (C : CodeSound P G N ok k run) {b : Code} {tm : TM} {h : Hp} {Q : PostK} (hb : okCode ok b = true)
    (hs : stepK P G call run (.loop b) tm h Q = true) (I : Inv G N ρ h w) (T : TMR ρ tm a) : Code.rounds P b (PostOK G N ρ h w Q) (k + 1) a w := by
  simp only [stepK] at hs
  rw [rounds_succ]
  refine wp_mono (C.code b tm h _ hb hs ρ a w I T) ?_
  rintro e a' w' ⟨ρ', tm', h', k1, k2, k3, k4⟩
  cases e with
  | normal => exact rounds_mono (fun e a w p => p.trans k4) _ _ _ (C.loop b tm' h' Q hb k1 ρ' a' w' k2 k3)
  | _ => exact ⟨ρ', tm', h', k1, k2, k3, k4⟩

theorem stepK_ok {ok : List Oper → Bool} {call : CallK} (S : CallSound P G N call) (D : ∀ ops : Array Oper, ok ops.toList = true → DrawSound P G N call ops) {k : Nat} {run : Code → TM → Hp → PostK → Bool}
    (C : CodeSound P G N ok k run) : CodeSound P G N ok (k + 1) (stepK P G call run) := by
  refine ⟨?_, fun b tm h Q hb hs ρ a w I T => stepK_loop C hb hs I T⟩
  intro c tm h Q hc hs ρ a w I T
  have hs0 := hs
  unfold stepK at hs
  split at hs
  case h_1 => exact wp_skip ⟨ρ, tm, h, hs, I, T, .refl _ _ _⟩
  case h_2 id ops => exact wp_region_list (opsK_ok S ops _ hs I T fun ρ' tm' h' a' w' k1 k2 k3 k4 => ⟨ρ', tm', h', k1, k2, k3, k4⟩)
  case h_3 id ops => exact D ops (by simpa [okCode] using hc) hs I T fun ρ' tm' h' a' w' k1 k2 k3 k4 => ⟨ρ', tm', h', k1, k2, k3, k4⟩
  case h_4 x y =>
    simp only [okCode, Bool.and_eq_true] at hc
    refine wp_seq (wp_mono (C.code x tm h _ hc.1 hs ρ a w I T) ?_)
    rintro e a' w' ⟨ρ', tm', h', k1, k2, k3, k4⟩
    cases e with
    | normal => exact wp_mono (C.code y tm' h' Q hc.2 k1 ρ' a' w' k2 k3) fun e a2 w2 p => p.trans k4
    | _ => exact ⟨ρ', tm', h', k1, k2, k3, k4⟩
  case h_5 x y z =>
    simp only [okCode, Bool.and_eq_true] at hc
    split at hs
    · rename_i he
      exact wp_cond_true (evO_ok T he).bool (C.code y tm h Q hc.1 hs ρ a w I T)
    · rename_i he
      exact wp_cond_false (evO_ok T he).bool (C.code z tm h Q hc.2 hs ρ a w I T)
    · cases hs
  case h_6 id b =>
    refine wp_block (wp_mono (C.code b tm h _ (by simpa [okCode] using hc) hs ρ a w I T) ?_)
    rintro e a' w' ⟨ρ', tm', h', k1, k2, k3, k4⟩
    cases e with
    | exit j =>
      simp only at k1
      simp only [Exit.inBlock]
      split at k1
      · rename_i hj; rw [if_pos (beq_true.1 hj)]; exact ⟨ρ', tm', h', k1, k2, k3, k4⟩
      · rename_i hj; rw [if_neg (beq_false.1 hj)]; exact ⟨ρ', tm', h', k1, k2, k3, k4⟩
    | _ => exact ⟨ρ', tm', h', k1, k2, k3, k4⟩
  case h_7 b => exact wp_loop_rounds (k + 1) (stepK_loop C (by simpa [okCode] using hc) hs0 I T)
  case h_8 id => exact wp_exit ⟨ρ, tm, h, hs, I, T, .refl _ _ _⟩
  case h_9 => exact wp_ret ⟨ρ, tm, h, hs, I, T, .refl _ _ _⟩
  case h_10 => cases hs

/-! functions -/
theorem nthV_u8 (j : Nat) : nthV u8 j = undef := by
  rw [nthV_eq]
  have : u8 = List.replicate 8 undef := rfl
  rw [this, List.getD_eq_getElem?_getD, List.getElem?_replicate]
  split <;> rfl
theorem nth2_cons (x : List Value) (l : List (List Value)) (i : Nat) : nthV (nthC (x :: l) ((i + 8) / 8)) ((i + 8) % 8) = nthV (nthC l (i / 8)) (i % 8) := by
  have h1 : (i + 8) / 8 = i / 8 + 1 := by omega
  have h2 : (i + 8) % 8 = i % 8 := by omega
  rw [h1, h2]; rfl
theorem short_get (l : List Value) (hl : l.length < 8) (k i : Nat) : nthV (nthC ([l ++ List.replicate (8 - l.length) undef] ++ List.replicate k u8) (i / 8)) (i % 8) = l.getD i undef := by
  by_cases hi : i < 8
  · have h1 : i / 8 = 0 := by omega
    have h2 : i % 8 = i := by omega
    rw [h1, h2]
    show nthV (l ++ List.replicate (8 - l.length) undef) i = _
    rw [nthV_eq, List.getD_eq_getElem?_getD, List.getD_eq_getElem?_getD]
    by_cases hil : i < l.length
    · rw [List.getElem?_append_left hil]
    · rw [List.getElem?_append_right (by omega), List.getElem?_replicate, List.getElem?_eq_none (l := l) (by omega)]
      split <;> rfl
  · obtain ⟨j, rfl⟩ : ∃ j, i = j + 8 := ⟨i - 8, by omega⟩
    rw [List.singleton_append, nth2_cons]
    have e1 : l.getD (j + 8) undef = undef := by rw [List.getD_eq_getElem?_getD, List.getElem?_eq_none (by omega)]; rfl
    rw [e1, nthC_eq, List.getD_eq_getElem?_getD, List.getElem?_replicate]
    split
    · exact nthV_u8 _
    · rw [nthV_eq]; rfl
theorem chunks_get : ∀ (l : List Value) (k i : Nat), nthV (nthC (chunks l ++ List.replicate k u8) (i / 8)) (i % 8) = l.getD i undef
  | [], k, i => short_get [] (by simp) k i
  | [a], k, i => short_get [a] (by simp) k i
  | [a, b], k, i => short_get [a, b] (by simp) k i
  | [a, b, c], k, i => short_get [a, b, c] (by simp) k i
  | [a, b, c, d], k, i => short_get [a, b, c, d] (by simp) k i
  | [a, b, c, d, e], k, i => short_get [a, b, c, d, e] (by simp) k i
  | [a, b, c, d, e, f], k, i => short_get [a, b, c, d, e, f] (by simp) k i
  | [a, b, c, d, e, f, g], k, i => short_get [a, b, c, d, e, f, g] (by simp) k i
  | a :: b :: c :: d :: e :: f :: g :: h :: r, k, i => by
    show nthV (nthC ([a, b, c, d, e, f, g, h] :: (chunks r ++ List.replicate k u8)) (i / 8)) (i % 8) = _
    by_cases hi : i < 8
    · have h1 : i / 8 = 0 := by omega
      have h2 : i % 8 = i := by omega
      rw [h1, h2]
      show nthV [a, b, c, d, e, f, g, h] i = _
      rw [nthV_eq]
      match i, hi with
      | 0, _ | 1, _ | 2, _ | 3, _ | 4, _ | 5, _ | 6, _ | 7, _ => rfl
    · obtain ⟨j, rfl⟩ : ∃ j, i = j + 8 := ⟨i - 8, by omega⟩
      rw [nth2_cons, chunks_get r k j]
      rfl

theorem mkTM_ok {args : List Value} {args' : Array Value} (hl : LR ρ args args'.toList) {n : Nat} (hn : args.length ≤ n) :
    TMR ρ (mkTM n args) { tmps := args' ++ Array.replicate (n - args'.size) undef, defers := [] } := by
  have hs : args'.size = args.length := by simpa using hl.1.symm
  refine ⟨by simp [mkTM]; omega, fun i => ?_, rfl⟩
  have : (mkTM n args).get i = args.getD i undef := chunks_get args (n / 8) i
  rw [this]
  have hv := hl.getD i
  have e : (args' ++ Array.replicate (n - args'.size) undef).getD i undef = args'.toList.getD i undef := by
    rw [Array.getD_eq_getD_getElem?, List.getD_eq_getElem?_getD, Array.getElem?_append, Array.getElem?_toList]
    split
    · rfl
    · rename_i h1
      rw [Array.getElem?_replicate, Array.getElem?_eq_none (by omega)]
      split <;> rfl
  rw [e]; exact hv

/-- What one result variable holds. -/
def resOf (tmps : Array Value) : ResultVar → Sem Value
  | .tmp t => pure (tmps.getD t undef)
  | .cell ad t => do loadVar t (← asAddr (tmps.getD ad undef))
theorem results_eq (fn : Func) (tmps : Array Value) : results fn tmps = (do
    let vs ← fn.results.mapM (resOf tmps)
    pure (if h : vs.size = 1 then vs[0] else .tuple vs)) := by
  unfold results
  rfl
theorem resultsK_ok (I : Inv G N ρ h w) (T : TMR ρ tm a) : ∀ (rs : List ResultVar) {l : List Value}, resultsK P G tm h rs = some l →
    ∃ l', LR ρ l l' ∧ (rs.mapM (resOf a.tmps)).run P w = .ok l' w
  | [], l, hr => by
    simp [resultsK] at hr; subst hr
    exact ⟨[], LR.nil _, rfl⟩
  | .tmp t :: r, l, hr => by
    simp only [resultsK] at hr
    split at hr
    · rename_i l2 h2
      cases hr
      obtain ⟨l', k1, k2⟩ := resultsK_ok I T r h2
      exact ⟨_, LR.cons (T.val t) k1, by simp only [List.mapM_cons, resOf, Sem.run_bind, Sem.run_pure, Result.andThen_ok, k2]⟩
    · cases hr
  | .cell ad t :: r, l, hr => by
    simp only [resultsK] at hr
    split at hr
    · rename_i adr he
      split at hr
      · rename_i v l2 hv h2
        cases hr
        have hvr := T.val ad
        rw [he] at hvr
        obtain ⟨adr', e⟩ := hvr.ptr_some
        rw [e] at hvr
        obtain ⟨v', q1, q2⟩ := loadE_ok (P := P) I hvr hv
        obtain ⟨l', k1, k2⟩ := resultsK_ok I T r h2
        exact ⟨_, LR.cons q2 k1, by simp only [List.mapM_cons, resOf, Sem.run_bind, e, asAddr, q1, Sem.run_pure, Result.andThen_ok, k2]⟩
      · cases hr
    · cases hr

theorem endK_ok {fn : Func} {K : Value → Hp → Bool} {e : Exit} {tm : TM} {h : Hp} (hk : endK P G fn K e tm h = true) (I : Inv G N ρ h w) (T : TMR ρ tm a) :
    (e = .normal ∨ e = .ret) ∧ ∃ v v', K v h = true ∧ VR ρ v v' ∧ (results fn a.tmps).run P w = .ok v' w := by
  unfold endK at hk
  have main : ∀ {l : List Value}, resultsK P G tm h fn.results.toList = some l → ∀ v, (v = if hl : l.length = 1 then l[0] else .tuple l.toArray) → K v h = true →
      ∃ v v', K v h = true ∧ VR ρ v v' ∧ (results fn a.tmps).run P w = .ok v' w := by
    intro l hl v hv hK
    obtain ⟨l', k1, k2⟩ := resultsK_ok I T _ hl
    have hr : (results fn a.tmps).run P w = .ok (if hs : l'.toArray.size = 1 then l'.toArray[0] else .tuple l'.toArray) w := by
      rw [results_eq, Array.mapM_eq_mapM_toList]
      simp only [Sem.run_bind, Sem.run_map, k2, Result.andThen_ok, Sem.run_pure]
    refine ⟨v, _, hK, ?_, hr⟩
    subst hv
    by_cases h1 : l.length = 1
    · have h2 : l'.length = 1 := by rw [← k1.1]; exact h1
      rw [dif_pos h1, dif_pos (by simpa using h2)]
      exact k1.2 0 _ _ (List.getElem?_eq_getElem (by omega)) (by simp)
    · have h2 : ¬ l'.length = 1 := by rw [← k1.1]; exact h1
      rw [dif_neg h1, dif_neg (by simpa using h2)]
      exact VR.tuple_mk k1
  split at hk
  case h_3 => cases hk
  all_goals
    refine ⟨by simp, ?_⟩
    split at hk
    · rename_i v hl
      rw [fV_eq] at hk
      exact main hl v (by simp) hk
    · rename_i l hne hl
      refine main hl (.tuple l.toArray) ?_ hk
      rw [dif_neg]
      intro h1
      match l, h1 with
      | [v], _ => exact hne v rfl
    · cases hk
end
end Go.CRun
