/- CRUN, parts L to R in one text. -/
import Derived.Test.YtbocmbhinjkjlaaRunQ
import Derived.LoopN
set_option linter.unusedSimpArgs false
set_option linter.unusedVariables false
namespace Go.CRun
open Go Go.RowKit
section
variable {P : Program} {G : Globs} {N : Nat} {ρ : Ren} {h : Hp} {w : World} {tm : TM} {a : Act}

theorem putT_ok (T : TMR ρ tm a) {d : Option Tmp} {v v' : Value} (hv : VR ρ v v') {K : TM → Bool} (hk : putT tm d v K = true) : ∃ tm', K tm' = true ∧ TMR ρ tm' (a.put d v') := by
  unfold putT at hk
  split at hk
  · rename_i i
    obtain ⟨h1, tm', h2, h3, h4⟩ := TM.setK_true hk
    refine ⟨tm', h2, by rw [h3, T.size]; simp [Act.put], fun j => ?_, T.defers⟩
    rw [h4]
    have hi : i < a.tmps.size := by rw [← T.size]; exact h1
    by_cases hj : j = i
    · subst hj
      rw [if_pos rfl]
      simpa [Act.put, Array.getD, hi] using hv
    · rw [if_neg hj]
      have := T.val j
      simpa [Act.put, Array.getD_eq_getD_getElem?, Array.getElem?_setIfInBounds_ne (fun e => hj e.symm)] using this
  · exact ⟨tm, hk, T⟩

theorem VR.bool_iff {v v' : Value} (hv : VR ρ v v') (b : Bool) : v = .bool b ↔ v' = .bool b := by
  constructor
  · intro e; subst e; exact hv.bool
  · intro e; subst e; cases hv <;> rfl

theorem yieldE_ok (T : TMR ρ tm a) (ops : Array Oper) (j : Nat) : yieldE ops.toList tm j = yielded ops a.tmps j := by
  unfold yieldE yielded
  simp only [Array.getElem?_toList]
  cases ho : ops[j]? with
  | none => simp
  | some o =>
    cases hd : o.dst with
    | none => simp [hd]
    | some d =>
      simp only [hd, Option.bind_some]
      have hv := T.val d
      by_cases hs : d < a.tmps.size
      · have e : a.tmps.getD d undef = a.tmps[d] := by simp [Array.getD, hs]
        rw [e] at hv
        rw [Array.getElem?_eq_getElem hs]
        have := fun b => hv.bool_iff b
        split
        · rename_i b hb
          have := (this b).1 hb
          rw [this]
        · rename_i hn
          split
          · rename_i b hb
            simp at hb
            exact absurd ((this b).2 hb) (hn b)
          · rfl
      · have e : a.tmps.getD d undef = undef := by simp [Array.getD, hs]
        rw [e] at hv
        rw [Array.getElem?_eq_none (Nat.le_of_not_lt hs)]
        have := fun b => hv.bool_iff b
        split
        · rename_i b hb
          have := (this b).1 hb
          cases this
        · rfl
theorem wantE_ok (T : TMR ρ tm a) (ops : Array Oper) (o : Oper) : wantE ops.toList tm o = Region.wanted o (yielded ops a.tmps) := by
  unfold wantE Region.wanted
  cases o.guard with
  | none => rfl
  | some g =>
    obtain ⟨j, want⟩ := g
    simp only [yieldE_ok T ops j]
    cases yielded ops a.tmps j with
    | none => rfl
    | some b => cases b <;> cases want <;> rfl

theorem opsK_ok {call : CallK} (S : CallSound P G N call) (ops : Array Oper) {Q : Exit → Act → World → Prop} {K : TM → Hp → Bool} : ∀ (l : List Oper) {tm : TM} {h : Hp} {a : Act} {w : World} {ρ : Ren},
    opsK P G call ops.toList l tm h K = true → Inv G N ρ h w → TMR ρ tm a →
    (∀ ρ' tm' h' a' w', K tm' h' = true → Inv G N ρ' h' w' → TMR ρ' tm' a' → Ext ρ h w ρ' h' w' → Q .normal a' w') → wpList P ops Q l a w
  | [], tm, h, a, w, ρ, hk, I, T, hq => hq ρ tm h a w hk I T (.refl _ _ _)
  | o :: r, tm, h, a, w, ρ, hk, I, T, hq => by
    simp only [opsK] at hk
    unfold wpList
    split at hk
    · rename_i hw
      rw [if_pos (by rw [← wantE_ok T]; exact hw)]
      refine .inl ((opK_ok S I T hk).wp ?_)
      rintro v' w' ⟨ρ', h', v, hK, hv, I', E'⟩
      simp only [fV_eq] at hK
      obtain ⟨tm', hK', T'⟩ := putT_ok (T.mono E'.ext) hv hK
      exact opsK_ok S ops r hK' I' T' fun ρ2 tm2 h2 a2 w2 k1 k2 k3 k4 => hq ρ2 tm2 h2 a2 w2 k1 k2 k3 (E'.trans k4)
    · rename_i hw
      rw [if_neg (by rw [← wantE_ok T, hw]; simp)]
      obtain ⟨tm', hK', T'⟩ := putT_ok T (.flat (n := 0) rfl) hk
      exact opsK_ok S ops r hK' I T' hq

/-- What is asked of a region whose order is drawn. -/
def DrawSound (P : Program) (G : Globs) (N : Nat) (call : CallK) (ops : Array Oper) : Prop :=
  ∀ {id : Nat} {Q : Exit → Act → World → Prop} {K : TM → Hp → Bool} {tm : TM} {h : Hp} {a : Act} {w : World} {ρ : Ren}, drawK P G call ops.toList tm h K = true → Inv G N ρ h w → TMR ρ tm a →
    (∀ ρ' tm' h' a' w', K tm' h' = true → Inv G N ρ' h' w' → TMR ρ' tm' a' → Ext ρ h w ρ' h' w' → Q .normal a' w') → (Code.region id ops true).wp P Q a w

/-- Every region of a piece of code whose order is drawn is of a kind that is told. -/
def okCode (ok : List Oper → Bool) : Code → Bool
  | .region _ ops true => ok ops.toList
  | .seq a b => okCode ok a && okCode ok b
  | .cond _ a b => okCode ok a && okCode ok b
  | .block _ b => okCode ok b
  | .loop b => okCode ok b
  | .rangeFunc _ _ a b => okCode ok a && okCode ok b
  | .scope b => okCode ok b
  | _ => true

def PostOK (G : Globs) (N : Nat) (ρ : Ren) (h : Hp) (w : World) (Q : PostK) (e : Exit) (a' : Act) (w' : World) : Prop :=
  ∃ ρ' tm' h', Q e tm' h' = true ∧ Inv G N ρ' h' w' ∧ TMR ρ' tm' a' ∧ Ext ρ h w ρ' h' w'
theorem PostOK.trans {ρ1 : Ren} {h1 : Hp} {w1 : World} (E : Ext ρ h w ρ1 h1 w1) {Q : PostK} {e : Exit} {a' : Act} {w' : World} (p : PostOK G N ρ1 h1 w1 Q e a' w') : PostOK G N ρ h w Q e a' w' :=
  let ⟨ρ', tm', h', k1, k2, k3, k4⟩ := p; ⟨ρ', tm', h', k1, k2, k3, E.trans k4⟩

theorem rounds_mono {c : Code} {Q Q' : Exit → Act → World → Prop} (hq : ∀ e a w, Q e a w → Q' e a w) : ∀ (n : Nat) (a : Act) (w : World), Code.rounds P c Q n a w → Code.rounds P c Q' n a w
  | 0, _, _, hr => hr
  | n + 1, a, w, hr => wp_mono (show c.wp P (Exit.then (Code.rounds P c Q n) Q) a w from hr) fun e a w p => by
    cases e with
    | normal => exact rounds_mono hq n a w p
    | _ => exact hq _ _ _ p

/-- That a way to run code is sound; a loop is run by at most so many rounds. -/
structure CodeSound (P : Program) (G : Globs) (N : Nat) (ok : List Oper → Bool) (k : Nat) (run : Code → TM → Hp → PostK → Bool) : Prop where
  code : ∀ c tm h Q, okCode ok c = true → run c tm h Q = true → ∀ ρ a w, Inv G N ρ h w → TMR ρ tm a → c.wp P (PostOK G N ρ h w Q) a w
  loop : ∀ b tm h Q, okCode ok b = true → run (.loop b) tm h Q = true → ∀ ρ a w, Inv G N ρ h w → TMR ρ tm a → Code.rounds P b (PostOK G N ρ h w Q) k a w

theorem stepK_loop {ok : List Oper → Bool} {call : CallK} {k : Nat} {run : Code → TM → Hp → PostK → Bool} (C : CodeSound P G N ok k run) {b : Code} {tm : TM} {h : Hp} {Q : PostK} (hb : okCode ok b = true)
    (hs : stepK P G call run (.loop b) tm h Q = true) (I : Inv G N ρ h w) (T : TMR ρ tm a) : Code.rounds P b (PostOK G N ρ h w Q) (k + 1) a w := by
  simp only [stepK] at hs
  rw [rounds_succ]
  refine wp_mono (C.code b tm h _ hb hs ρ a w I T) ?_
  rintro e a' w' ⟨ρ', tm', h', k1, k2, k3, k4⟩
  cases e with
  | normal => exact rounds_mono (fun e a w p => p.trans k4) _ _ _ (C.loop b tm' h' Q hb k1 ρ' a' w' k2 k3)
  | _ => exact ⟨ρ', tm', h', k1, k2, k3, k4⟩

theorem stepK_ok {ok : List Oper → Bool} {call : CallK} (S : CallSound P G N call) (D : ∀ ops : Array Oper, ok ops.toList = true → DrawSound P G N call ops) {k : Nat} {run : Code → TM → Hp → PostK → Bool}
    (C : CodeSound P G N ok k run) : CodeSound P G N ok (k + 1) (stepK P G call run) := by
  refine ⟨?_, fun b tm h Q hb hs ρ a w I T => stepK_loop C hb hs I T⟩
  intro c tm h Q hc hs ρ a w I T
  have hs0 := hs
  unfold stepK at hs
  split at hs
  case h_1 => exact wp_skip ⟨ρ, tm, h, hs, I, T, .refl _ _ _⟩
  case h_2 id ops => exact wp_region_list (opsK_ok S ops _ hs I T fun ρ' tm' h' a' w' k1 k2 k3 k4 => ⟨ρ', tm', h', k1, k2, k3, k4⟩)
  case h_3 id ops => exact D ops (by simpa [okCode] using hc) hs I T fun ρ' tm' h' a' w' k1 k2 k3 k4 => ⟨ρ', tm', h', k1, k2, k3, k4⟩
  case h_4 x y =>
    simp only [okCode, Bool.and_eq_true] at hc
    refine wp_seq (wp_mono (C.code x tm h _ hc.1 hs ρ a w I T) ?_)
    rintro e a' w' ⟨ρ', tm', h', k1, k2, k3, k4⟩
    cases e with
    | normal => exact wp_mono (C.code y tm' h' Q hc.2 k1 ρ' a' w' k2 k3) fun e a2 w2 p => p.trans k4
    | _ => exact ⟨ρ', tm', h', k1, k2, k3, k4⟩
  case h_5 x y z =>
    simp only [okCode, Bool.and_eq_true] at hc
    split at hs
    · rename_i he
      exact wp_cond_true (evO_ok T he).bool (C.code y tm h Q hc.1 hs ρ a w I T)
    · rename_i he
      exact wp_cond_false (evO_ok T he).bool (C.code z tm h Q hc.2 hs ρ a w I T)
    · cases hs
  case h_6 id b =>
    refine wp_block (wp_mono (C.code b tm h _ (by simpa [okCode] using hc) hs ρ a w I T) ?_)
    rintro e a' w' ⟨ρ', tm', h', k1, k2, k3, k4⟩
    cases e with
    | exit j =>
      simp only at k1
      simp only [Exit.inBlock]
      split at k1
      · rename_i hj; rw [if_pos (beq_true.1 hj)]; exact ⟨ρ', tm', h', k1, k2, k3, k4⟩
      · rename_i hj; rw [if_neg (beq_false.1 hj)]; exact ⟨ρ', tm', h', k1, k2, k3, k4⟩
    | _ => exact ⟨ρ', tm', h', k1, k2, k3, k4⟩
  case h_7 b => exact wp_loop_rounds (k + 1) (stepK_loop C (by simpa [okCode] using hc) hs0 I T)
  case h_8 id => exact wp_exit ⟨ρ, tm, h, hs, I, T, .refl _ _ _⟩
  case h_9 => exact wp_ret ⟨ρ, tm, h, hs, I, T, .refl _ _ _⟩
  case h_10 => cases hs

/-! functions -/
theorem nthV_u8 (j : Nat) : nthV u8 j = undef := by
  rw [nthV_eq]
  have : u8 = List.replicate 8 undef := rfl
  rw [this, List.getD_eq_getElem?_getD, List.getElem?_replicate]
  split <;> rfl
theorem nth2_cons (x : List Value) (l : List (List Value)) (i : Nat) : nthV (nthC (x :: l) ((i + 8) / 8)) ((i + 8) % 8) = nthV (nthC l (i / 8)) (i % 8) := by
  have h1 : (i + 8) / 8 = i / 8 + 1 := by omega
  have h2 : (i + 8) % 8 = i % 8 := by omega
  rw [h1, h2]; rfl
theorem short_get (l : List Value) (hl : l.length < 8) (k i : Nat) : nthV (nthC ([l ++ List.replicate (8 - l.length) undef] ++ List.replicate k u8) (i / 8)) (i % 8) = l.getD i undef := by
  by_cases hi : i < 8
  · have h1 : i / 8 = 0 := by omega
    have h2 : i % 8 = i := by omega
    rw [h1, h2]
    show nthV (l ++ List.replicate (8 - l.length) undef) i = _
    rw [nthV_eq, List.getD_eq_getElem?_getD, List.getD_eq_getElem?_getD]
    by_cases hil : i < l.length
    · rw [List.getElem?_append_left hil]
    · rw [List.getElem?_append_right (by omega), List.getElem?_replicate, List.getElem?_eq_none (l := l) (by omega)]
      split <;> rfl
  · obtain ⟨j, rfl⟩ : ∃ j, i = j + 8 := ⟨i - 8, by omega⟩
    rw [List.singleton_append, nth2_cons]
    have e1 : l.getD (j + 8) undef = undef := by rw [List.getD_eq_getElem?_getD, List.getElem?_eq_none (by omega)]; rfl
    rw [e1, nthC_eq, List.getD_eq_getElem?_getD, List.getElem?_replicate]
    split
    · exact nthV_u8 _
    · rw [nthV_eq]; rfl
theorem chunks_get : ∀ (l : List Value) (k i : Nat), nthV (nthC (chunks l ++ List.replicate k u8) (i / 8)) (i % 8) = l.getD i undef
  | [], k, i => short_get [] (by simp) k i
  | [a], k, i => short_get [a] (by simp) k i
  | [a, b], k, i => short_get [a, b] (by simp) k i
  | [a, b, c], k, i => short_get [a, b, c] (by simp) k i
  | [a, b, c, d], k, i => short_get [a, b, c, d] (by simp) k i
  | [a, b, c, d, e], k, i => short_get [a, b, c, d, e] (by simp) k i
  | [a, b, c, d, e, f], k, i => short_get [a, b, c, d, e, f] (by simp) k i
  | [a, b, c, d, e, f, g], k, i => short_get [a, b, c, d, e, f, g] (by simp) k i
  | a :: b :: c :: d :: e :: f :: g :: h :: r, k, i => by
    show nthV (nthC ([a, b, c, d, e, f, g, h] :: (chunks r ++ List.replicate k u8)) (i / 8)) (i % 8) = _
    by_cases hi : i < 8
    · have h1 : i / 8 = 0 := by omega
      have h2 : i % 8 = i := by omega
      rw [h1, h2]
      show nthV [a, b, c, d, e, f, g, h] i = _
      rw [nthV_eq]
      match i, hi with
      | 0, _ | 1, _ | 2, _ | 3, _ | 4, _ | 5, _ | 6, _ | 7, _ => rfl
    · obtain ⟨j, rfl⟩ : ∃ j, i = j + 8 := ⟨i - 8, by omega⟩
      rw [nth2_cons, chunks_get r k j]
      rfl

theorem mkTM_ok {args : List Value} {args' : Array Value} (hl : LR ρ args args'.toList) {n : Nat} (hn : args.length ≤ n) :
    TMR ρ (mkTM n args) { tmps := args' ++ Array.replicate (n - args'.size) undef, defers := [] } := by
  have hs : args'.size = args.length := by simpa using hl.1.symm
  refine ⟨by simp [mkTM]; omega, fun i => ?_, rfl⟩
  have : (mkTM n args).get i = args.getD i undef := chunks_get args (n / 8) i
  rw [this]
  have hv := hl.getD i
  have e : (args' ++ Array.replicate (n - args'.size) undef).getD i undef = args'.toList.getD i undef := by
    rw [Array.getD_eq_getD_getElem?, List.getD_eq_getElem?_getD, Array.getElem?_append, Array.getElem?_toList]
    split
    · rfl
    · rename_i h1
      rw [Array.getElem?_replicate, Array.getElem?_eq_none (by omega)]
      split <;> rfl
  rw [e]; exact hv

/-- What one result variable holds. -/
def resOf (tmps : Array Value) : ResultVar → Sem Value
  | .tmp t => pure (tmps.getD t undef)
  | .cell ad t => do loadVar t (← asAddr (tmps.getD ad undef))
theorem results_eq (fn : Func) (tmps : Array Value) : results fn tmps = (do
    let vs ← fn.results.mapM (resOf tmps)
    pure (if h : vs.size = 1 then vs[0] else .tuple vs)) := by
  unfold results
  rfl
theorem resultsK_ok (I : Inv G N ρ h w) (T : TMR ρ tm a) : ∀ (rs : List ResultVar) {l : List Value}, resultsK P G tm h rs = some l →
    ∃ l', LR ρ l l' ∧ (rs.mapM (resOf a.tmps)).run P w = .ok l' w
  | [], l, hr => by
    simp [resultsK] at hr; subst hr
    exact ⟨[], LR.nil _, rfl⟩
  | .tmp t :: r, l, hr => by
    simp only [resultsK] at hr
    split at hr
    · rename_i l2 h2
      cases hr
      obtain ⟨l', k1, k2⟩ := resultsK_ok I T r h2
      exact ⟨_, LR.cons (T.val t) k1, by simp only [List.mapM_cons, resOf, Sem.run_bind, Sem.run_pure, Result.andThen_ok, k2]⟩
    · cases hr
  | .cell ad t :: r, l, hr => by
    simp only [resultsK] at hr
    split at hr
    · rename_i adr he
      split at hr
      · rename_i v l2 hv h2
        cases hr
        have hvr := T.val ad
        rw [he] at hvr
        obtain ⟨adr', e⟩ := hvr.ptr_some
        rw [e] at hvr
        obtain ⟨v', q1, q2⟩ := loadE_ok (P := P) I hvr hv
        obtain ⟨l', k1, k2⟩ := resultsK_ok I T r h2
        exact ⟨_, LR.cons q2 k1, by simp only [List.mapM_cons, resOf, Sem.run_bind, e, asAddr, q1, Sem.run_pure, Result.andThen_ok, k2]⟩
      · cases hr
    · cases hr

theorem endK_ok {fn : Func} {K : Value → Hp → Bool} {e : Exit} {tm : TM} {h : Hp} (hk : endK P G fn K e tm h = true) (I : Inv G N ρ h w) (T : TMR ρ tm a) :
    (e = .normal ∨ e = .ret) ∧ ∃ v v', K v h = true ∧ VR ρ v v' ∧ (results fn a.tmps).run P w = .ok v' w := by
  unfold endK at hk
  have main : ∀ {l : List Value}, resultsK P G tm h fn.results.toList = some l → ∀ v, (v = if hl : l.length = 1 then l[0] else .tuple l.toArray) → K v h = true →
      ∃ v v', K v h = true ∧ VR ρ v v' ∧ (results fn a.tmps).run P w = .ok v' w := by
    intro l hl v hv hK
    obtain ⟨l', k1, k2⟩ := resultsK_ok I T _ hl
    have hr : (results fn a.tmps).run P w = .ok (if hs : l'.toArray.size = 1 then l'.toArray[0] else .tuple l'.toArray) w := by
      rw [results_eq, Array.mapM_eq_mapM_toList]
      simp only [Sem.run_bind, Sem.run_map, k2, Result.andThen_ok, Sem.run_pure]
    refine ⟨v, _, hK, ?_, hr⟩
    subst hv
    by_cases h1 : l.length = 1
    · have h2 : l'.length = 1 := by rw [← k1.1]; exact h1
      rw [dif_pos h1, dif_pos (by simpa using h2)]
      exact k1.2 0 _ _ (List.getElem?_eq_getElem (by omega)) (by simp)
    · have h2 : ¬ l'.length = 1 := by rw [← k1.1]; exact h1
      rw [dif_neg h1, dif_neg (by simpa using h2)]
      exact VR.tuple_mk k1
  split at hk
  case h_3 => cases hk
  all_goals
    refine ⟨by simp, ?_⟩
    split at hk
    · rename_i v hl
      rw [fV_eq] at hk
      exact main hl v (by simp) hk
    · rename_i l hne hl
      refine main hl (.tuple l.toArray) ?_ hk
      rw [dif_neg]
      intro h1
      match l, h1 with
      | [v], _ => exact hne v rfl
    · cases hk
end
end Go.CRun
namespace Go.CRun
open Go Go.RowKit
section
variable {P : Program} {G : Globs} {N : Nat} {ρ : Ren} {h : Hp} {w : World} {t1 t2 : TM} {a : Act}

theorem evL_congr : ∀ {xs : List Operand}, (∀ x ∈ xs, evO t1 x = evO t2 x) → evL t1 xs = evL t2 xs
  | [], _ => rfl
  | x :: r, hh => by
    simp only [evL]
    rw [hh x (by simp), evL_congr (xs := r) fun y hy => hh y (by simp [hy])]
theorem evP_congr : ∀ {xs : List (Nat × Operand)}, (∀ x ∈ xs.map (·.2), evO t1 x = evO t2 x) → evP t1 xs = evP t2 xs
  | [], _ => rfl
  | (i, x) :: r, hh => by
    simp only [evP]
    rw [hh x (by simp), evP_congr (xs := r) fun y hy => hh y (by simp only [List.map_cons, List.mem_cons]; exact .inr hy)]
theorem evOp_congr {x : Option Operand} (hh : ∀ y, x = some y → evO t1 y = evO t2 y) : evOp t1 x = evOp t2 x := by
  cases x with
  | none => rfl
  | some y => simp only [evOp]; rw [hh y rfl]
theorem pureE_congr {o : Oper} (hh : ∀ x ∈ o.op.operands, evO t1 x = evO t2 x) : pureE P t1 o = pureE P t2 o := by
  unfold pureE
  rw [evL_congr (t1 := t1) (t2 := t2) (xs := o.op.operands.toList) fun x hx => hh x (by simpa using hx)]
  split
  · split
    · split
      · rfl
      · rename_i hsel
        rw [execOp_congr (ρ := fun x => (evO t1 x).getD undef) (ρ' := fun x => (evO t2 x).getD undef) o (fun cs b e => hsel cs b e) fun x hx => by show (evO t1 x).getD undef = (evO t2 x).getD undef; rw [hh x hx]]
    · rfl
  · rfl

theorem readE_congr {o : Oper} (hh : ∀ x ∈ o.op.operands, evO t1 x = evO t2 x) : readE P G t1 h o = readE P G t2 h o := by
  unfold readE
  split
  case h_1 x ho => exact hh x (by simp [ho, Op.operands])
  case h_2 x ho => exact hh x (by simp [ho, Op.operands])
  case h_3 c x y ho => rw [hh c (by simp [ho, Op.operands]), hh x (by simp [ho, Op.operands]), hh y (by simp [ho, Op.operands])]
  case h_4 t parts ho => rw [evP_congr (t1 := t1) (t2 := t2) (xs := parts.toList) fun x hx => hh x (by rw [ho]; simpa [Op.operands] using hx)]
  case h_5 t x ho => rw [hh x (by simp [ho, Op.operands])]
  case h_6 x ho => rw [hh x (by simp [ho, Op.operands])]
  case h_7 fn first captured ho =>
    rw [evL_congr (t1 := t1) (t2 := t2) (xs := first.toList) fun x hx => hh x (by rw [ho]; simp [Op.operands]; left; simpa using hx),
      evL_congr (t1 := t1) (t2 := t2) (xs := captured.toList) fun x hx => hh x (by rw [ho]; simp [Op.operands]; right; simpa using hx)]
  case h_8 t x lo hi ho =>
    rw [hh x (by simp [ho, Op.operands]), evOp_congr (t1 := t1) (t2 := t2) (x := lo) fun y e => hh y (by simp [ho, Op.operands, e]), evOp_congr (t1 := t1) (t2 := t2) (x := hi) fun y e => hh y (by simp [ho, Op.operands, e]), pureE_congr hh]
  case h_9 t x f ho => rw [hh x (by simp [ho, Op.operands])]
  case h_10 t x f ho => rw [hh x (by simp [ho, Op.operands])]
  case h_11 t x i ho => rw [hh x (by simp [ho, Op.operands]), hh i (by simp [ho, Op.operands])]
  case h_12 x i ho => rw [hh x (by simp [ho, Op.operands])]
  case h_13 i ho => rw [hh i (by simp [ho, Op.operands])]
  case h_14 t x i ok ho => rw [hh x (by simp [ho, Op.operands]), hh i (by simp [ho, Op.operands])]
  case h_15 op t x y yt ho => rw [hh x (by simp [ho, Op.operands]), hh y (by simp [ho, Op.operands]), pureE_congr hh]
  case h_16 => exact pureE_congr hh
  case h_17 => exact pureE_congr hh
  case h_18 src dst x ho => rw [hh x (by simp [ho, Op.operands]), pureE_congr hh]
  case h_19 c ho =>
    have hargs : evL t1 c.args.toList = evL t2 c.args.toList := evL_congr fun x hx => hh x (by rw [ho]; simp [Op.operands, Call.operands]; right; simpa using hx)
    split
    · unfold lenK; rw [hargs, pureE_congr hh]
    · exact pureE_congr hh
    · exact pureE_congr hh
    · rfl
  case h_20 => rfl

theorem effK_congr {call : CallK} {o : Oper} (hh : ∀ x ∈ o.op.operands, evO t1 x = evO t2 x) (K : Value → Hp → Bool) : effK P G call t1 h o K = effK P G call t2 h o K := by
  unfold effK
  split
  case h_1 => rfl
  case h_2 e x ho => rw [hh x (by simp [ho, Op.operands])]
  case h_3 t len parts ho => rw [evP_congr (t1 := t1) (t2 := t2) (xs := parts.toList) fun x hx => hh x (by rw [ho]; simpa [Op.operands] using hx)]
  case h_4 t x y ho => rw [hh x (by simp [ho, Op.operands]), hh y (by simp [ho, Op.operands])]
  case h_5 => rfl
  case h_6 t x y ho => rw [hh x (by simp [ho, Op.operands]), hh y (by simp [ho, Op.operands])]
  case h_7 t x lo hi ho =>
    rw [hh x (by simp [ho, Op.operands]), evOp_congr (t1 := t1) (t2 := t2) (x := lo) fun y e => hh y (by simp [ho, Op.operands, e]), evOp_congr (t1 := t1) (t2 := t2) (x := hi) fun y e => hh y (by simp [ho, Op.operands, e])]
  case h_8 t m k x ho => rw [hh m (by simp [ho, Op.operands]), hh k (by simp [ho, Op.operands]), hh x (by simp [ho, Op.operands])]
  case h_9 t x ho => rw [hh x (by simp [ho, Op.operands])]
  case h_10 x s ho => rw [hh x (by simp [ho, Op.operands])]
  case h_11 c ho =>
    have hargs : evL t1 c.args.toList = evL t2 c.args.toList := evL_congr fun x hx => hh x (by rw [ho]; simp [Op.operands, Call.operands]; right; simpa using hx)
    unfold callK
    rw [hargs]
    split
    · rename_i f args hcal _
      rw [hh f (by rw [ho]; simp [Op.operands, Call.operands, hcal])]
    · rfl
    · rfl
    · rfl
  case h_12 t m k x ho => rw [hh m (by simp [ho, Op.operands]), hh k (by simp [ho, Op.operands]), hh x (by simp [ho, Op.operands])]
  case h_13 => rfl

theorem wantE_congr {ops : Array Oper} {o : Oper} (hh : ∀ d ∈ o.looksAt ops, t1.get d = t2.get d) : wantE ops.toList t1 o = wantE ops.toList t2 o := by
  unfold wantE
  cases hg : o.guard with
  | none => rfl
  | some g =>
    obtain ⟨j, want⟩ := g
    simp only
    have : yieldE ops.toList t1 j = yieldE ops.toList t2 j := by
      unfold yieldE
      cases ho : ops.toList[j]? with
      | none => rfl
      | some oj =>
        cases hd : oj.dst with
        | none => simp [hd]
        | some d =>
          simp only [hd]
          rw [hh d]
          simp only [Oper.looksAt, hg, List.mem_append]
          right
          have : ops[j]? = some oj := by simpa using ho
          simp [this, hd]
    rw [this]
theorem evO_congr {ops : Array Oper} {o : Oper} (hh : ∀ d ∈ o.looksAt ops, t1.get d = t2.get d) : ∀ x ∈ o.op.operands, evO t1 x = evO t2 x := by
  intro x hx
  cases x with
  | tmp t =>
    simp only [evO]
    rw [hh t]
    simp only [Oper.looksAt, List.mem_append, List.mem_filterMap]
    exact .inl ⟨.tmp t, by simpa using hx, rfl⟩
  | _ => rfl

theorem eqF_eq (x y : Value) (hh : eqF x y = true) : x = y := by
  unfold eqF at hh
  split at hh
  · rw [of_decide_eq_true hh]
  · simp only [Bool.and_eq_true] at hh
    rw [kindEq_true hh.1]
    have := hh.2
    rw [eqI_eq] at this
    rw [eq_of_beq this]
  · rename_i a b
    have := of_decide_eq_true hh
    obtain ⟨⟨l1⟩⟩ := a
    obtain ⟨⟨l2⟩⟩ := b
    simp only at this
    rw [this]
  · rw [of_decide_eq_true hh]
  · simp only [Bool.and_eq_true] at hh
    rw [of_decide_eq_true hh.1.1, beq_true.1 hh.1.2, beq_true.1 hh.2]
  · rw [of_decide_eq_true hh]
  · cases hh
theorem eqFL_eq : ∀ (l m : List Value), eqFL l m = true → l = m
  | [], [], _ => rfl
  | x :: xs, y :: ys, hh => by
    simp only [eqFL, Bool.and_eq_true] at hh
    rw [eqF_eq _ _ hh.1, eqFL_eq xs ys hh.2]
  | [], _ :: _, hh => by simp [eqFL] at hh
  | _ :: _, [], hh => by simp [eqFL] at hh
theorem eqA_eq (x y : Value) (hh : eqA x y = true) : x = y := by
  unfold eqA at hh
  split at hh
  · rw [Array.ext' (eqFL_eq _ _ hh)]
  · exact eqF_eq _ _ hh
theorem eqAL_eq : ∀ (l m : List Value), eqAL l m = true → l = m
  | [], [], _ => rfl
  | x :: xs, y :: ys, hh => by
    simp only [eqAL, Bool.and_eq_true] at hh
    rw [eqA_eq _ _ hh.1, eqAL_eq xs ys hh.2]
  | [], _ :: _, hh => by simp [eqAL] at hh
  | _ :: _, [], hh => by simp [eqAL] at hh
theorem eqV_eq (x y : Value) (hh : eqV x y = true) : x = y := by
  unfold eqV at hh
  split at hh
  · rw [Array.ext' (eqAL_eq _ _ hh)]
  · exact eqA_eq _ _ hh
end
end Go.CRun
namespace Go.CRun
open Go Go.RowKit

theorem bit_eq (m i : Nat) : bit m i = m.testBit i := by
  unfold bit
  rw [Bool.eq_iff_iff, beq_true, Nat.testBit]
  show (m >>> i) &&& 1 = 1 ↔ _
  rw [Nat.and_comm, Nat.one_and_eq_mod_two]
  simp
theorem bit_lor (a b i : Nat) : bit (Nat.lor a b) i = (bit a i || bit b i) := by
  rw [bit_eq, bit_eq, bit_eq]
  exact Nat.testBit_or a b i
theorem bit_pow (j i : Nat) : bit (Nat.pow 2 j) i = decide (j = i) := by
  rw [bit_eq]
  exact Nat.testBit_two_pow
theorem bit_zero (i : Nat) : bit 0 i = false := by rw [bit_eq]; simp
theorem within_bit {a m i : Nat} (h : within a m = true) (hi : bit a i = true) : bit m i = true := by
  unfold within at h
  have h := beq_true.1 h
  rw [bit_eq] at *
  have : (Nat.land a m).testBit i = (a.testBit i && m.testBit i) := Nat.testBit_and a m i
  rw [h, hi] at this
  simpa using this.symm

def itsOf : Nat → List Nat → List Oper → List It
  | _, _, [] => []
  | i, ancs, o :: r => ⟨i, o, maskOf i ancs o.after.toList 0⟩ :: itsOf (i + 1) (maskOf i ancs o.after.toList 0 :: ancs) r
theorem mkIts_eq : ∀ (i : Nat) (ancs : List Nat) (l : List Oper) (K : List It → Bool), mkIts i ancs l K = K (itsOf i ancs l)
  | _, _, [], _ => rfl
  | i, ancs, o :: r, K => by simp only [mkIts, fNat_eq, mkIts_eq, itsOf]

/-- What is asked of the operations of such a region, as a test. -/
def edgesBack : Nat → List Oper → Bool
  | _, [] => true
  | i, o :: r => (o.after.toList.all fun e => !Region.binds .any e || Nat.blt e.on i) && edgesBack (i + 1) r
def pairsOK (ops : Array Oper) (its : List It) : Bool :=
  its.all fun x => its.all fun y => Nat.beq x.i y.i || (match y.o.dst with
    | none => true
    | some d => (match x.o.dst with | some e => !Nat.beq d e | none => true) && (!(x.o.looksAt ops).contains d || bit x.m y.i || bit y.m x.i))
def okDraw (ops : List Oper) : Bool := edgesBack 0 ops && pairsOK ops.toArray (itsOf 0 [] ops)

structure Stat (ops : Array Oper) (m : Nat → Nat) : Prop where
  edge : ∀ (i : Nat) o, ops[i]? = some o → ∀ e ∈ o.after.toList, Region.binds .any e = true → e.on < i
  anc : ∀ (i : Nat) o j, ops[i]? = some o → bit (m i) j = true → ∃ e ∈ o.after.toList, Region.binds .any e = true ∧ (j = e.on ∨ bit (m e.on) j = true)
  dst : ∀ (i j : Nat) oi oj d, ops[i]? = some oi → ops[j]? = some oj → oi.dst = some d → oj.dst = some d → i = j
  war : ∀ (i j : Nat) oi oj d, ops[i]? = some oi → ops[j]? = some oj → i ≠ j → oj.dst = some d → d ∈ oi.looksAt ops → bit (m i) j = true ∨ bit (m j) i = true

theorem maskOf_bit {i : Nat} {ancs : List Nat} (m : Nat → Nat) (ha : ∀ j, j < i → ancs.getD (i - 1 - j) 0 = m j) : ∀ (es : List Edge) (acc : Nat), (∀ e ∈ es, Region.binds .any e = true → e.on < i) → ∀ j,
    bit (maskOf i ancs es acc) j = true ↔ bit acc j = true ∨ ∃ e ∈ es, Region.binds .any e = true ∧ (j = e.on ∨ bit (m e.on) j = true)
  | [], acc, _, j => by simp [maskOf]
  | e :: r, acc, he, j => by
    simp only [maskOf]
    cases hb : Region.binds .any e with
    | true =>
      simp only
      rw [maskOf_bit m ha r _ (fun x hx => he x (by simp [hx])) j, bit_lor, bit_lor, bit_pow, ha e.on (he e (by simp) hb)]
      simp only [Bool.or_eq_true, decide_eq_true_eq, List.mem_cons]
      constructor
      · rintro (((h | h) | h) | ⟨x, h1, h2⟩)
        · exact .inl h
        · exact .inr ⟨e, .inl rfl, hb, .inl h.symm⟩
        · exact .inr ⟨e, .inl rfl, hb, .inr h⟩
        · exact .inr ⟨x, .inr h1, h2⟩
      · rintro (h | ⟨x, rfl | h1, h2, h3⟩)
        · exact .inl (.inl (.inl h))
        · rcases h3 with h3 | h3
          · exact .inl (.inl (.inr h3.symm))
          · exact .inl (.inr h3)
        · exact .inr ⟨x, h1, h2, h3⟩
    | false =>
      simp only
      rw [maskOf_bit m ha r _ (fun x hx => he x (by simp [hx])) j]
      simp only [List.mem_cons]
      constructor
      · rintro (h | ⟨x, h1, h2⟩)
        · exact .inl h
        · exact .inr ⟨x, .inr h1, h2⟩
      · rintro (h | ⟨x, rfl | h1, h2, h3⟩)
        · exact .inl h
        · rw [hb] at h2; cases h2
        · exact .inr ⟨x, h1, h2, h3⟩

/-- The masks as a function of the number. -/
def maskAt (ops : List Oper) (i : Nat) : Nat := match (itsOf 0 [] ops)[i]? with | some x => x.m | none => 0

theorem itsOf_get : ∀ (l : List Oper) (i : Nat) (ancs : List Nat) (k : Nat) (x : It), (itsOf i ancs l)[k]? = some x → x.i = i + k ∧ l[k]? = some x.o
  | [], i, ancs, k, x, h => by simp [itsOf] at h
  | o :: r, i, ancs, k, x, h => by
    cases k with
    | zero => simp [itsOf] at h; subst h; simp
    | succ k =>
      simp only [itsOf, List.getElem?_cons_succ] at h
      obtain ⟨h1, h2⟩ := itsOf_get r _ _ k x h
      exact ⟨by omega, by simpa using h2⟩
theorem itsOf_length : ∀ (l : List Oper) (i : Nat) (ancs : List Nat), (itsOf i ancs l).length = l.length
  | [], _, _ => rfl
  | o :: r, i, ancs => by simp [itsOf, itsOf_length r]
theorem itsOf_mask : ∀ (l : List Oper) (i : Nat) (ancs : List Nat) (m : Nat → Nat), (∀ j, j < i → ancs.getD (i - 1 - j) 0 = m j) → (∀ (k : Nat) x, (itsOf i ancs l)[k]? = some x → m (i + k) = x.m) →
    edgesBack i l = true → ∀ (k : Nat) x j, (itsOf i ancs l)[k]? = some x → (bit x.m j = true ↔ ∃ e ∈ x.o.after.toList, Region.binds .any e = true ∧ (j = e.on ∨ bit (m e.on) j = true)) ∧ (∀ e ∈ x.o.after.toList, Region.binds .any e = true → e.on < i + k)
  | [], i, ancs, m, _, _, _, k, x, j, h => by simp [itsOf] at h
  | o :: r, i, ancs, m, ha, hm, he, k, x, j, h => by
    simp only [edgesBack, Bool.and_eq_true] at he
    have hed : ∀ e ∈ o.after.toList, Region.binds .any e = true → e.on < i := by
      intro e h1 h2
      have := List.all_eq_true.1 he.1 e h1
      rw [h2] at this
      simpa [blt_true] using this
    cases k with
    | zero =>
      simp [itsOf] at h
      subst h
      refine ⟨?_, by simpa using hed⟩
      rw [maskOf_bit m ha _ _ hed]
      simp [bit_zero]
    | succ k =>
      have := itsOf_mask r (i + 1) (maskOf i ancs o.after.toList 0 :: ancs) m (by
        intro q hq
        by_cases hqi : q = i
        · subst hqi
          have := hm 0 ⟨q, o, maskOf q ancs o.after.toList 0⟩ (by simp [itsOf])
          simp at this
          rw [this]; simp
        · have h1 : i + 1 - 1 - q = (i - 1 - q) + 1 := by omega
          rw [h1]
          simpa using ha q (by omega)) (by
        intro q y hy
        have := hm (q + 1) y (by simpa [itsOf] using hy)
        rw [← this]; congr 1; omega) he.2 k x j (by simpa [itsOf] using h)
      refine ⟨this.1, fun e h1 h2 => ?_⟩
      have := this.2 e h1 h2
      omega

theorem okDraw_stat {ops : Array Oper} (h : okDraw ops.toList = true) : Stat ops (maskAt ops.toList) := by
  unfold okDraw at h
  simp only [Bool.and_eq_true] at h
  obtain ⟨h1, h2⟩ := h
  have hget : ∀ (i : Nat) o, ops[i]? = some o → (itsOf 0 [] ops.toList)[i]? = some ⟨i, o, maskAt ops.toList i⟩ := by
    intro i o ho
    have hl : i < (itsOf 0 [] ops.toList).length := by
      rw [itsOf_length]
      have := (Array.getElem?_eq_some_iff.1 ho).1
      simpa using this
    have e := List.getElem?_eq_getElem hl
    obtain ⟨a1, a2⟩ := itsOf_get _ _ _ _ _ e
    rw [e]
    have : maskAt ops.toList i = (itsOf 0 [] ops.toList)[i].m := by unfold maskAt; rw [e]
    have ho' : ops.toList[i]? = some o := by simpa using ho
    rw [ho'] at a2
    cases hx : (itsOf 0 [] ops.toList)[i] with
    | mk xi xo xm =>
      rw [hx] at a1 a2 this
      simp at a1 a2
      subst a1; subst a2
      simp only at this
      rw [this]
  have hmask := itsOf_mask ops.toList 0 [] (maskAt ops.toList) (fun j hj => by omega) (fun k x hx => by unfold maskAt; rw [Nat.zero_add, hx]) h1
  have hpair : ∀ (i j : Nat) oi oj, ops[i]? = some oi → ops[j]? = some oj → i ≠ j → ∀ d, oj.dst = some d → (∀ e, oi.dst = some e → d ≠ e) ∧ (d ∈ oi.looksAt ops → bit (maskAt ops.toList i) j = true ∨ bit (maskAt ops.toList j) i = true) := by
    intro i j oi oj hi hj hne d hd
    have hx := List.mem_of_getElem? (hget i oi hi)
    have hy := List.mem_of_getElem? (hget j oj hj)
    have := List.all_eq_true.1 (List.all_eq_true.1 h2 _ hx) _ hy
    simp only [hd] at this
    have hb : Nat.beq i j = false := beq_false.2 hne
    rw [hb] at this
    simp only [Bool.false_or, Bool.and_eq_true] at this
    refine ⟨fun e he hde => ?_, fun hm => ?_⟩
    · rw [he] at this
      subst hde
      simp [Nat.beq_refl] at this
    · have t2 := this.2
      have hc : (oi.looksAt (ops.toList.toArray)).contains d = true := by simpa using hm
      rw [hc] at t2
      simpa using t2
  refine ⟨?_, ?_, ?_, ?_⟩
  · intro i o ho e he hb
    have := (hmask i _ 0 (hget i o ho)).2 e he hb
    omega
  · intro i o j ho hb
    exact ((hmask i _ j (hget i o ho)).1).1 hb
  · intro i j oi oj d hi hj hdi hdj
    by_cases hne : i = j
    · exact hne
    · exact absurd rfl ((hpair i j oi oj hi hj hne d hdj).1 d hdi)
  · intro i j oi oj d hi hj hne hd hm
    exact (hpair i j oi oj hi hj hne d hd).2 hm
end Go.CRun
namespace Go.CRun
open Go Go.RowKit
section
variable {P : Program} {G : Globs} {N : Nat}

def dstOf (ops : Array Oper) (i : Nat) : Option Tmp := (ops[i]?).bind (·.dst)

/-- An operation that has been run ahead of its time: what it will yield. -/
def Pend (P : Program) (G : Globs) (ops : Array Oper) (m : Nat → Nat) (tm0 : TM) (val : Nat → Value) (h : Hp) (reads : List Rd) (i : Nat) (o : Oper) : Prop :=
  ∃ T : TM, (∀ j d, bit (m i) j = true → dstOf ops j = some d → d ∈ o.looksAt ops → T.get d = val j) ∧
    (∀ d ∈ o.looksAt ops, (∀ j, bit (m i) j = true → dstOf ops j ≠ some d) → T.get d = tm0.get d) ∧
    ((wantE ops.toList T o = false ∧ val i = undef) ∨
     (wantE ops.toList T o = true ∧ isRead o.op = true ∧ readE P G T h o = some (val i) ∧ (isSilent o.op = true ∨ (⟨i, o, T, val i⟩ : Rd) ∈ reads)))

structure DI (P : Program) (G : Globs) (ops : Array Oper) (m : Nat → Nat) (tm0 : TM) (val : Nat → Value) (ρ : Ren) (h : Hp) (a : Act) (L : Nat → Prop) (E : Nat → Prop) (done : Nat) (reads : List Rd) (tm : TM) (rem : List It) : Prop where
  bnd : ∀ j d, bit done j = true → dstOf ops j = some d → d < tm.n
  closedL : ∀ i, L i → ∀ j, bit (m i) j = true → L j
  closedD : ∀ i, bit done i = true → ∀ j, bit (m i) j = true → bit done j = true
  sub : ∀ i, L i → bit done i = true
  lt : ∀ i, bit done i = true → i < ops.size
  remOK : ∀ x ∈ rem, ops[x.i]? = some x.o ∧ x.m = m x.i ∧ bit done x.i = false
  remAll : ∀ i, i < ops.size → bit done i = true ∨ ∃ x ∈ rem, x.i = i
  remNodup : (rem.map (·.i)).Nodup
  absW : ∀ j d, bit done j = true → dstOf ops j = some d → tm.get d = val j
  absO : ∀ d, (∀ j, bit done j = true → dstOf ops j ≠ some d) → tm.get d = tm0.get d
  conW : ∀ j d, L j → dstOf ops j = some d → VR ρ (val j) (a.tmps.getD d undef)
  conO : ∀ d, (∀ j, L j → dstOf ops j ≠ some d) → VR ρ (tm0.get d) (a.tmps.getD d undef)
  size : tm.n = a.tmps.size
  defers : a.defers = []
  pend : ∀ i o, bit done i = true → ¬ L i → ¬ E i → ops[i]? = some o → Pend P G ops m tm0 val h reads i o

theorem Pend.upd {ops : Array Oper} {m : Nat → Nat} {tm0 : TM} {val val' : Nat → Value} {h : Hp} {reads reads' : List Rd} {i : Nat} {o : Oper} (hp : Pend P G ops m tm0 val h reads i o) (hi : val' i = val i)
    (hj : ∀ j, bit (m i) j = true → val' j = val j) (hr : ∀ r ∈ reads, r ∈ reads') : Pend P G ops m tm0 val' h reads' i o := by
  obtain ⟨T, h1, h2, h3⟩ := hp
  refine ⟨T, fun j d hb hd hl => by rw [hj j hb]; exact h1 j d hb hd hl, h2, ?_⟩
  rw [hi]
  rcases h3 with h3 | ⟨h4, h5, h6, h7⟩
  · exact .inl h3
  · exact .inr ⟨h4, h5, h6, h7.imp id fun h => hr _ h⟩

/-- One operation more has been run ahead. -/
theorem DI.ahead {ops : Array Oper} {m : Nat → Nat} (St : Stat ops m) {tm0 : TM} {val : Nat → Value} {ρ : Ren} {h : Hp} {a : Act} {L E : Nat → Prop} {done : Nat} {reads reads' : List Rd} {tm tm' : TM} {r1 r2 : List It} {x : It}
    (I : DI P G ops m tm0 val ρ h a L E done reads tm (r1 ++ x :: r2)) (hw : within x.m done = true) (v : Value) (hn : tm'.n = tm.n)
    (hput : ∀ d, tm'.get d = if x.o.dst = some d then v else tm.get d) (hr : ∀ r ∈ reads, r ∈ reads')
    (hb : ∀ d, x.o.dst = some d → d < tm.n) (hv : ¬ E x.i → (wantE ops.toList tm x.o = false ∧ v = undef) ∨ (wantE ops.toList tm x.o = true ∧ isRead x.o.op = true ∧ readE P G tm h x.o = some v ∧ (isSilent x.o.op = true ∨ (⟨x.i, x.o, tm, v⟩ : Rd) ∈ reads'))) :
    DI P G ops m tm0 (fun i => if i = x.i then v else val i) ρ h a L E (Nat.lor done (Nat.pow 2 x.i)) reads' tm' (r1 ++ r2) := by
  obtain ⟨ho, hm, hnd⟩ := I.remOK x (by simp)
  have hbit : ∀ i, bit (Nat.lor done (Nat.pow 2 x.i)) i = true ↔ bit done i = true ∨ i = x.i := by
    intro i; rw [bit_lor, bit_pow]; simp only [Bool.or_eq_true, decide_eq_true_eq]
    exact ⟨fun h => h.imp id Eq.symm, fun h => h.imp id Eq.symm⟩
  have hanc : ∀ j, bit (m x.i) j = true → bit done j = true := fun j hj => within_bit (hm ▸ hw) (by rw [hm] at *; exact hj) |> fun h => by
    exact h
  have hne : ∀ i, bit done i = true → i ≠ x.i := fun i hi e => by rw [e, hnd] at hi; cases hi
  have hdx : dstOf ops x.i = x.o.dst := by simp [dstOf, ho]
  have hmem : ∀ y, y ∈ r1 ++ r2 → y ∈ r1 ++ x :: r2 := by
    intro y hy
    simp only [List.mem_append, List.mem_cons] at hy ⊢
    rcases hy with hy | hy
    · exact .inl hy
    · exact .inr (.inr hy)
  have hnod := I.remNodup
  simp only [List.map_append, List.map_cons] at hnod
  have hxn : ∀ y ∈ r1 ++ r2, y.i ≠ x.i := by
    intro y hy e
    have h1 := List.nodup_append.1 hnod
    have h2 := List.nodup_cons.1 h1.2.1
    rcases List.mem_append.1 hy with hy | hy
    · exact h1.2.2 y.i (List.mem_map_of_mem hy) x.i (by simp) e
    · exact h2.1 (e ▸ List.mem_map_of_mem hy)
  refine ⟨?_, I.closedL, ?_, fun i hi => (hbit i).2 (.inl (I.sub i hi)), ?_, ?_, ?_, ?_, ?_, ?_, ?_, I.conO, by rw [hn]; exact I.size, I.defers, ?_⟩
  · intro j d hj hd
    rw [hn]
    rcases (hbit j).1 hj with hj | rfl
    · exact I.bnd j d hj hd
    · exact hb d (by rw [← hdx]; exact hd)
  · intro i hi j hj
    rcases (hbit i).1 hi with hi | rfl
    · exact (hbit j).2 (.inl (I.closedD i hi j hj))
    · exact (hbit j).2 (.inl (hanc j hj))
  · intro i hi
    rcases (hbit i).1 hi with hi | rfl
    · exact I.lt i hi
    · exact (Array.getElem?_eq_some_iff.1 ho).1
  · intro y hy
    obtain ⟨h1, h2, h3⟩ := I.remOK y (hmem y hy)
    refine ⟨h1, h2, ?_⟩
    cases hb : bit (Nat.lor done (Nat.pow 2 x.i)) y.i with
    | false => rfl
    | true =>
      rcases (hbit y.i).1 hb with hb | hb
      · rw [h3] at hb; cases hb
      · exact absurd hb (hxn y hy)
  · intro i hi
    rcases I.remAll i hi with hb | ⟨y, hy, rfl⟩
    · exact .inl ((hbit i).2 (.inl hb))
    · simp only [List.mem_append, List.mem_cons] at hy
      rcases hy with hy | rfl | hy
      · exact .inr ⟨y, by simp [hy], rfl⟩
      · exact .inl ((hbit y.i).2 (.inr rfl))
      · exact .inr ⟨y, by simp [hy], rfl⟩
  · simp only [List.map_append]
    have h1 := List.nodup_append.1 hnod
    have h2 := List.nodup_cons.1 h1.2.1
    refine List.nodup_append.2 ⟨h1.1, h2.2, fun p hp q hq => h1.2.2 p hp q (by simp [hq])⟩
  · intro j d hj hd
    rw [hput]
    rcases (hbit j).1 hj with hj | rfl
    · have hjn := hne j hj
      have : x.o.dst ≠ some d := by
        intro e
        cases hoj : ops[j]? with
        | none => simp [dstOf, hoj] at hd
        | some oj =>
          simp [dstOf, hoj] at hd
          exact hjn (St.dst j x.i oj x.o d hoj ho hd e)
      rw [if_neg this]
      simp only [hjn, if_false]
      exact I.absW j d hj hd
    · rw [hdx] at hd
      rw [if_pos hd]
      simp
  · intro d hd
    have h1 : x.o.dst ≠ some d := by rw [← hdx]; exact hd x.i ((hbit x.i).2 (.inr rfl))
    rw [hput, if_neg h1]
    exact I.absO d fun j hj => hd j ((hbit j).2 (.inl hj))
  · intro j d hj hd
    simp only [hne j (I.sub j hj), if_false]
    exact I.conW j d hj hd
  · intro i o hi hL hE hoi
    rcases (hbit i).1 hi with hi | rfl
    · refine (I.pend i o hi hL hE hoi).upd (by simp [hne i hi]) (fun j hj => by simp [hne j (I.closedD i hi j hj)]) hr
    · rw [ho] at hoi; cases hoi
      refine ⟨tm, ?_, ?_, ?_⟩
      · intro j d hb hd hl
        simp only [hne j (hanc j hb), if_false]
        exact I.absW j d (hanc j hb) hd
      · intro d hl hno
        refine I.absO d fun j hj hd => ?_
        cases hoj : ops[j]? with
        | none => simp [dstOf, hoj] at hd
        | some oj =>
          have hd2 : oj.dst = some d := by simpa [dstOf, hoj] using hd
          rcases St.war x.i j x.o oj d ho hoj (fun e => hne j hj e.symm) hd2 hl with hb | hb
          · exact hno j hb hd
          · have := I.closedD j hj x.i hb
            rw [hnd] at this; cases this
      · simpa using hv hE

theorem passK_ok {ops : Array Oper} {m : Nat → Nat} (St : Stat ops m) {tm0 : TM} {ρ : Ren} {h : Hp} {a : Act} {L E : Nat → Prop} {K : Nat → List Rd → TM → List It → Bool} : ∀ (its : List It) {val : Nat → Value} {done : Nat} {reads : List Rd} {tm : TM} {acc : List It},
    passK P G ops.toList h its done reads tm acc K = true → DI P G ops m tm0 val ρ h a L E done reads tm (acc.reverse ++ its) →
    ∃ val' done' reads' tm' rem', K done' reads' tm' rem' = true ∧ DI P G ops m tm0 val' ρ h a L E done' reads' tm' rem' ∧ ∀ i, bit done i = true → bit done' i = true ∧ val' i = val i
  | [], val, done, reads, tm, acc, hk, I => ⟨val, done, reads, tm, acc.reverse, hk, by simpa using I, fun i hi => ⟨hi, rfl⟩⟩
  | x :: r, val, done, reads, tm, acc, hk, I => by
    simp only [passK] at hk
    have put : ∀ {v : Value} {K2 : TM → Bool}, putT tm x.o.dst v K2 = true → ∃ tm', K2 tm' = true ∧ tm'.n = tm.n ∧ (∀ d, x.o.dst = some d → d < tm.n) ∧ ∀ d, tm'.get d = if x.o.dst = some d then v else tm.get d := by
      intro v K2 hp
      unfold putT at hp
      split at hp
      · rename_i i hd
        obtain ⟨h1, tm', h2, h3, h4⟩ := TM.setK_true hp
        refine ⟨tm', h2, h3, (fun d e => by rw [hd] at e; cases e; exact h1), fun d => ?_⟩
        rw [h4]
        by_cases e : d = i
        · subst e; simp [hd]
        · rw [if_neg e, if_neg (by rw [hd]; intro h; cases h; exact e rfl)]
      · rename_i hd
        exact ⟨tm, hp, rfl, (fun d e => by rw [hd] at e; cases e), fun d => by rw [hd]; simp⟩
    have hnd : bit done x.i = false := (I.remOK x (by simp)).2.2
    have keep : ∀ {v : Value} {K3 : Nat → List Rd → TM → List It → Bool}, (∃ val' done' reads' tm' rem', K3 done' reads' tm' rem' = true ∧ DI P G ops m tm0 val' ρ h a L E done' reads' tm' rem' ∧ ∀ i, bit (Nat.lor done (Nat.pow 2 x.i)) i = true → bit done' i = true ∧ val' i = (fun i => if i = x.i then v else val i) i) →
        ∃ val' done' reads' tm' rem', K3 done' reads' tm' rem' = true ∧ DI P G ops m tm0 val' ρ h a L E done' reads' tm' rem' ∧ ∀ i, bit done i = true → bit done' i = true ∧ val' i = val i := by
      rintro v K3 ⟨val', done', reads', tm', rem', h1, h2, h3⟩
      refine ⟨val', done', reads', tm', rem', h1, h2, fun i hi => ?_⟩
      have := h3 i (by rw [bit_lor, hi]; rfl)
      refine ⟨this.1, ?_⟩
      rw [this.2]
      simp only
      rw [if_neg (fun e => by rw [e, hnd] at hi; cases hi)]
    split at hk
    · exact passK_ok St r hk (by simpa using I)
    · rename_i hw
      split at hk
      · rename_i hwant
        obtain ⟨tm', k1, k2, k4, k3⟩ := put hk
        rw [fNat_eq] at k1
        exact keep (passK_ok St r k1 (I.ahead St hw undef k2 k3 (fun _ h => h) k4 fun _ => .inl ⟨hwant, rfl⟩))
      · rename_i hwant
        split at hk
        · exact passK_ok St r hk (by simpa using I)
        · rename_i hread
          split at hk
          · cases hk
          · rename_i v hv
            rw [fV_eq] at hk
            obtain ⟨tm', k1, k2, k4, k3⟩ := put hk
            rw [fNat_eq] at k1
            refine keep (passK_ok St r k1 (I.ahead St hw v k2 k3 ?_ k4 fun _ => .inr ⟨hwant, hread, hv, ?_⟩))
            · intro rd hrd; split
              · exact hrd
              · exact List.mem_cons_of_mem _ hrd
            · cases hs : isSilent x.o.op with
              | true => exact .inl rfl
              | false => right; simp

/-- One operation more has been run by the model. -/
theorem DI.list {ops : Array Oper} {m : Nat → Nat} (St : Stat ops m) {tm0 : TM} {val : Nat → Value} {ρ : Ren} {h : Hp} {a : Act} {L E E' : Nat → Prop} {done : Nat} {reads : List Rd} {tm : TM} {rem : List It}
    (I : DI P G ops m tm0 val ρ h a L E done reads tm rem) {i : Nat} {o : Oper} (ho : ops[i]? = some o) (hi : bit done i = true) (hanc : ∀ j, bit (m i) j = true → L j) (hE : ∀ j, E j → E' j ∨ j = i) {v' : Value} (hv : VR ρ (val i) v') :
    DI P G ops m tm0 val ρ h (a.put o.dst v') (fun j => L j ∨ j = i) E' done reads tm rem := by
  have hd : dstOf ops i = o.dst := by simp [dstOf, ho]
  have hget : ∀ d, (a.put o.dst v').tmps.getD d undef = if o.dst = some d ∧ d < a.tmps.size then v' else a.tmps.getD d undef := by
    intro d
    cases hod : o.dst with
    | none => simp [Act.put]
    | some e =>
      simp only [Act.put, Array.getD_eq_getD_getElem?, Array.getElem?_setIfInBounds, Option.some.injEq]
      by_cases hed : e = d
      · subst hed
        by_cases hlt : e < a.tmps.size
        · simp [hlt]
        · simp [hlt]
      · simp [hed]
  have hsz : (a.put o.dst v').tmps.size = a.tmps.size := by cases o.dst <;> simp [Act.put]
  have hdf : (a.put o.dst v').defers = a.defers := by cases o.dst <;> rfl
  refine ⟨I.bnd, ?_, I.closedD, ?_, I.lt, I.remOK, I.remAll, I.remNodup, I.absW, I.absO, ?_, ?_, by rw [hsz]; exact I.size, by rw [hdf]; exact I.defers, ?_⟩
  · intro j hj q hq
    rcases hj with hj | rfl
    · exact .inl (I.closedL j hj q hq)
    · exact .inl (hanc q hq)
  · intro j hj
    rcases hj with hj | rfl
    · exact I.sub j hj
    · exact hi
  · intro j d hj hjd
    rw [hget]
    rcases hj with hj | rfl
    · by_cases hji : j = i
      · subst hji
        rw [hd] at hjd
        rw [if_pos ⟨hjd, by rw [← I.size]; exact I.bnd j d hi (by rw [hd]; exact hjd)⟩]
        exact hv
      · have : o.dst ≠ some d := by
          intro e
          cases hoj : ops[j]? with
          | none => simp [dstOf, hoj] at hjd
          | some oj =>
            simp [dstOf, hoj] at hjd
            exact hji (St.dst j i oj o d hoj ho hjd e)
        rw [if_neg (fun h => this h.1)]
        exact I.conW j d hj hjd
    · rw [hd] at hjd
      rw [if_pos ⟨hjd, by rw [← I.size]; exact I.bnd j d hi (by rw [hd]; exact hjd)⟩]
      exact hv
  · intro d hno
    rw [hget, if_neg (fun h => hno i (.inr rfl) (by rw [hd]; exact h.1))]
    exact I.conO d fun j hj => hno j (.inl hj)
  · intro j oj hj hL hE2 hoj
    exact I.pend j oj hj (fun h => hL (.inl h)) (fun h => (hE j h).elim hE2 fun e => hL (.inr e)) hoj
/-- The same with other exceptions. -/
theorem DI.but {ops : Array Oper} {m : Nat → Nat} {tm0 : TM} {val : Nat → Value} {ρ : Ren} {h : Hp} {a : Act} {L E E' : Nat → Prop} {done : Nat} {reads : List Rd} {tm : TM} {rem : List It}
    (I : DI P G ops m tm0 val ρ h a L E done reads tm rem) (hE : ∀ i, bit done i = true → ¬ L i → E i → E' i) : DI P G ops m tm0 val ρ h a L E' done reads tm rem :=
  ⟨I.bnd, I.closedL, I.closedD, I.sub, I.lt, I.remOK, I.remAll, I.remNodup, I.absW, I.absO, I.conW, I.conO, I.size, I.defers, fun i o h1 h2 h3 h4 => I.pend i o h1 h2 (fun e => h3 (hE i h1 h2 e)) h4⟩

/-- The same in a later world. -/
theorem DI.later {ops : Array Oper} {m : Nat → Nat} {tm0 : TM} {val : Nat → Value} {ρ ρ' : Ren} (he : Extends ρ ρ') {h h' : Hp} {a : Act} {L E : Nat → Prop} {done : Nat} {reads : List Rd} {tm : TM} {rem : List It}
    (I : DI P G ops m tm0 val ρ h a L E done reads tm rem) (hp : ∀ i o, bit done i = true → ¬ L i → ¬ E i → ops[i]? = some o → Pend P G ops m tm0 val h reads i o → Pend P G ops m tm0 val h' reads i o) :
    DI P G ops m tm0 val ρ' h' a L E done reads tm rem :=
  ⟨I.bnd, I.closedL, I.closedD, I.sub, I.lt, I.remOK, I.remAll, I.remNodup, I.absW, I.absO, fun j d h1 h2 => (I.conW j d h1 h2).mono he, fun d h1 => (I.conO d h1).mono he, I.size, I.defers,
    fun i o h1 h2 h3 h4 => hp i o h1 h2 h3 h4 (I.pend i o h1 h2 h3 h4)⟩

theorem readE_silent {o : Oper} (hs : isSilent o.op = true) (T : TM) (h h' : Hp) : readE P G T h o = readE P G T h' o := by
  unfold readE
  split
  case h_5 t x ho => rw [ho] at hs; simp [isSilent] at hs
  case h_8 t x lo hi ho => rw [ho] at hs; simp [isSilent] at hs
  case h_13 i ho => rw [ho] at hs; simp [isSilent] at hs
  case h_14 t x i ok ho => rw [ho] at hs; simp [isSilent] at hs
  case h_18 src dst x ho => rw [ho] at hs; simp [isSilent] at hs
  case h_19 c ho =>
    rw [ho] at hs
    split
    · rename_i hc; simp [isSilent, hc] at hs
    · rfl
    · rfl
    · rfl
  all_goals rfl

theorem readsAgain_mem {h : Hp} {mask : Nat} : ∀ {rs : List Rd}, readsAgain P G h mask rs = true → ∀ r ∈ rs, bit mask r.idx = true ∨ readE P G r.tm h r.o = some r.v
  | [], _ => by simp
  | r :: rs, hk => by
    simp only [readsAgain] at hk
    intro x hx
    split at hk
    · rename_i hb
      rcases List.mem_cons.1 hx with rfl | hx
      · exact .inl hb
      · exact readsAgain_mem hk x hx
    · split at hk
      · rename_i v hv
        split at hk
        · rename_i he
          rcases List.mem_cons.1 hx with rfl | hx
          · right; rw [hv, eqV_eq _ _ he]
          · exact readsAgain_mem hk x hx
        · cases hk
      · cases hk
end
end Go.CRun
namespace Go.CRun
open Go Go.RowKit
section
variable {P : Program} {G : Globs} {N : Nat}

/-- What is left behind the reading ahead. -/
noncomputable def restK (P : Program) (G : Globs) (call : CallK) (ops : List Oper) (n : Nat) (done : Nat) (reads : List Rd) (fls : List Fl) (tm : TM) (h : Hp) (rem : List It) (K : TM → Hp → Bool) : Bool :=
  match rem with
  | [] => reviveK done fls h [] fun h _ => K tm h
  | x :: rs => match within x.m done, wantE ops tm x.o, isRead x.o.op, allAfter x.i rs with
    | true, true, false, true => reviveK x.m fls h [] fun h fls => effK P G call tm h x.o fun v h' => fV v fun v => match readsAgain P G h' x.m reads with
      | false => false
      | true => putT tm x.o.dst v fun tm' => fNat (Nat.lor done (Nat.pow 2 x.i)) fun d => drawGo P G call ops n d reads fls tm' h' rs K
    | _, _, _, _ => false
theorem drawGo_succ (call : CallK) (ops : List Oper) (n done : Nat) (reads : List Rd) (fls : List Fl) (tm : TM) (h : Hp) (its : List It) (K : TM → Hp → Bool) :
    drawGo P G call ops (n + 1) done reads fls tm h its K = passK P G ops h its done reads tm [] fun done reads tm rem => match splitFloat P done rem rem [] with
    | some (acc, y, b, r) => h.pushK .dead fun h' => match readsAgain P G h' 0 reads with
      | false => false
      | true => fV (floatV h.n y.o.op) fun v => putT tm y.o.dst v fun tm' => fNat (Nat.lor done (Nat.pow 2 y.i)) fun d => fNat h.n fun k => drawGo P G call ops n d reads (⟨y.i, k, y.o.op, b⟩ :: fls) tm' h' (acc.reverse ++ r) K
    | none => restK P G call ops n done reads fls tm h rem K := rfl

/-! blocks whose time in the order is open -/
theorem floatE_ok {op : Op} {b : Blk} (hf : floatE P op = some b) : b ≠ .dead ∧ ∃ obj : Obj, (∀ (ρ : Ren) (w : World) (k : Nat), w.heap[k]? = some obj → BlkOK ρ w ⟨k, 0, 0⟩ b) ∧
    ∀ (o : Oper) (ev : Operand → Value) (w : World), o.op = op → ∃ v', (execOp ev o).run P w = .ok (.value v') { w with heap := w.heap.push obj } ∧ ∀ (ρ : Ren) (idx : Nat), ρ idx = some ⟨w.heap.size, 0, 0⟩ → VR ρ (floatV idx op) v' := by
  unfold floatE at hf
  split at hf
  · rename_i e
    split at hf
    · rename_i z hz
      cases hf
      obtain ⟨⟨i, hi, hzz⟩, hfz⟩ := zeroE_ok hz
      refine ⟨by simp, .cells z.cells e, fun ρ w k hk => ⟨fun _ => rfl, z.cells, 0, 0, hk, fun k _ _ => by simp, by simp, fun j v hv => ⟨v, by simpa using hv, ?_⟩⟩, ?_⟩
      · have hc := (VR.flat (ρ := ρ) hfz).cells
        exact hc.2 j v v hv hv
      · intro o ev w ho
        refine ⟨.pointer (some ⟨w.heap.size, 0, none⟩), ?_, fun ρ idx hp => ?_⟩
        · simp only [execOp, ho, Instr.alloc, zeroValue, typeInfo, Sem.run_bind, run_program, Result.andThen_ok, hi, hzz, Sem.run_pure, newVar, newRow, run_newObj]
        · exact VR.ptr (o := 0) (s := none) (p := ⟨w.heap.size, 0, 0⟩) (by omega) (by rw [Nat.add_sub_cancel_left]; exact hp)
    · cases hf
  · cases hf
    refine ⟨by simp, .map #[] 0, fun ρ w k hk => hk, ?_⟩
    intro o ev w ho
    refine ⟨.map (some w.heap.size), ?_, fun ρ idx hp => ?_⟩
    · simp only [execOp, ho, Instr.makeMap, Option.map_none, Sem.run_bind, run_newObj, Result.andThen_ok, Sem.run_pure]
    · exact VR.map (p := ⟨w.heap.size, 0, 0⟩) (by omega) (by rw [Nat.add_sub_cancel_left]; exact hp)
  · cases hf

structure FlOK (P : Program) (N : Nat) (ops : Array Oper) (val : Nat → Value) (ρ : Ren) (h : Hp) (w : World) (L : Nat → Prop) (done n0 s0 : Nat) (f : Fl) : Prop where
  op : ∃ o, ops[f.i]? = some o ∧ o.op = f.op ∧ o.guard = none
  fe : floatE P f.op = some f.b
  val : val f.i = floatV f.idx f.op
  dn : bit done f.i = true
  dead : h.get f.idx = some .dead
  old : n0 ≤ f.idx
  no : ¬ L f.i → ρ f.idx = none
  yes : L f.i → ∃ k, ρ f.idx = some ⟨k, 0, 0⟩ ∧ N ≤ k ∧ s0 ≤ k ∧ (∀ ρ', BlkOK ρ' w ⟨k, 0, 0⟩ f.b) ∧ ¬ Owned ρ h k
structure FI (P : Program) (N : Nat) (ops : Array Oper) (val : Nat → Value) (ρ : Ren) (h : Hp) (w : World) (L : Nat → Prop) (done n0 s0 : Nat) (S : Fl → Prop) : Prop where
  ok : ∀ f, S f → FlOK P N ops val ρ h w L done n0 s0 f
  idx : ∀ f g, S f → S g → f.idx = g.idx → f = g
  num : ∀ f g, S f → S g → f.i = g.i → f = g
  inj : ∀ f g p q, S f → S g → ρ f.idx = some p → ρ g.idx = some q → p.blk = q.blk → f = g
theorem FI.sub {ops : Array Oper} {val : Nat → Value} {ρ : Ren} {h : Hp} {w : World} {L : Nat → Prop} {done n0 s0 : Nat} {S S' : Fl → Prop} (F : FI P N ops val ρ h w L done n0 s0 S) (hs : ∀ f, S' f → S f) : FI P N ops val ρ h w L done n0 s0 S' :=
  ⟨fun f hf => F.ok f (hs f hf), fun f g hf hg => F.idx f g (hs f hf) (hs g hg), fun f g hf hg => F.num f g (hs f hf) (hs g hg), fun f g p q hf hg => F.inj f g p q (hs f hf) (hs g hg)⟩
def isF (fls : List Fl) (i : Nat) : Prop := ∃ f, f ∈ fls ∧ f.i = i

theorem Inv.revive {ρ : Ren} {h : Hp} {w : World} (I : Inv G N ρ h w) {i k : Nat} (hg : h.get i = some .dead) (hp : ρ i = some ⟨k, 0, 0⟩) (hN : N ≤ k) {b : Blk} (hb : b ≠ .dead) (hok : BlkOK ρ w ⟨k, 0, 0⟩ b) (hno : ¬ Owned ρ h k) :
    Inv G N ρ (h.put i b) w ∧ ∀ k', Owned ρ (h.put i b) k' → Owned ρ h k' ∨ k' = k := by
  have hcase : ∀ j c, (h.put i b).get j = some c → c ≠ .dead → (j = i ∧ c = b) ∨ (j ≠ i ∧ h.get j = some c) := by
    intro j c hj _
    rw [Hp.get_put] at hj
    split at hj
    · rename_i e; subst e; rw [hg] at hj; simp at hj; exact .inl ⟨rfl, hj.symm⟩
    · rename_i e; exact .inr ⟨fun h => e h.symm, hj⟩
  refine ⟨⟨I.fresh, ?_, ?_, I.glob, I.big⟩, ?_⟩
  · intro j c hj hc
    rcases hcase j c hj hc with ⟨rfl, rfl⟩ | ⟨hne, hj'⟩
    · exact ⟨_, hp, hN, hok⟩
    · exact I.dom j c hj' hc
  · intro j l bj bl q r hj hbj hl hbl hq hr hqr
    rcases hcase j bj hj hbj with ⟨rfl, rfl⟩ | ⟨h1, h2⟩ <;> rcases hcase l bl hl hbl with ⟨rfl, rfl⟩ | ⟨k1, k2⟩
    · rfl
    · rw [hp] at hq; cases hq
      exact absurd ⟨l, bl, r, k2, hbl, hr, hqr.symm⟩ hno
    · rw [hp] at hr; cases hr
      exact absurd ⟨j, bj, q, h2, hbj, hq, hqr⟩ hno
    · exact I.inj j l bj bl q r h2 hbj k2 hbl hq hr hqr
  · rintro k' ⟨j, c, q, hj, hc, hq, rfl⟩
    rcases hcase j c hj hc with ⟨rfl, rfl⟩ | ⟨h1, h2⟩
    · rw [hp] at hq; cases hq; exact .inr rfl
    · exact .inl ⟨j, c, q, h2, hc, hq, rfl⟩
theorem Inv.pushNone {ρ : Ren} {h : Hp} {w : World} (I : Inv G N ρ h w) : Inv G N ρ (h.push .dead) w ∧ ∀ k, Owned ρ (h.push .dead) k → Owned ρ h k := by
  have hcase : ∀ j c, (h.push .dead).get j = some c → c ≠ .dead → h.get j = some c := by
    intro j c hj hc
    rw [Hp.get_push] at hj
    split at hj
    · simp at hj; exact absurd hj.symm hc
    · exact hj
  refine ⟨⟨fun i hi => I.fresh i (by rw [Hp.push_n] at hi; omega), fun j c hj hc => I.dom j c (hcase j c hj hc) hc, fun j k bj bk q r hj hbj hk hbk => I.inj j k bj bk q r (hcase j bj hj hbj) hbj (hcase k bk hk hbk) hbk, I.glob, I.big⟩, ?_⟩
  rintro k ⟨j, c, q, hj, hc, hq, rfl⟩
  exact ⟨j, c, q, hcase j c hj hc, hc, hq, rfl⟩
/-- The block is there in the model's world. -/
theorem Inv.float {ρ : Ren} {h : Hp} {w : World} (I : Inv G N ρ h w) {i : Nat} (hg : h.get i = some .dead) (hp : ρ i = none) (obj : Obj) :
    Inv G N (ρ.upd i ⟨w.heap.size, 0, 0⟩) h { w with heap := w.heap.push obj } ∧ ∀ k, Owned (ρ.upd i ⟨w.heap.size, 0, 0⟩) h k → Owned ρ h k := by
  have he : Extends ρ (ρ.upd i ⟨w.heap.size, 0, 0⟩) := Ren.upd_ext hp
  have hold : ∀ k, k < w.heap.size → (w.heap.push obj)[k]? = w.heap[k]? := fun k hk => by rw [Array.getElem?_push, if_neg (by omega)]
  have hlt := Hp.get_lt hg
  have hback : ∀ j c q, h.get j = some c → c ≠ .dead → (ρ.upd i ⟨w.heap.size, 0, 0⟩) j = some q → ρ j = some q := by
    intro j c q hj hc hq
    unfold Ren.upd at hq
    split at hq
    · rename_i e; subst e; rw [hg] at hj; simp at hj; exact absurd hj.symm hc
    · exact hq
  refine ⟨⟨?_, ?_, ?_, I.glob.frame I.big fun k hk => hold k (Nat.lt_of_lt_of_le hk I.big), by have := I.big; simp; omega⟩, ?_⟩
  · intro j hj
    simp only [Ren.upd]
    rw [if_neg (by omega)]
    exact I.fresh j hj
  · intro j c hj hc
    obtain ⟨p, h1, h2, h3⟩ := I.dom j c hj hc
    exact ⟨p, he _ _ h1, h2, h3.mono he (hold _ (h3.lt hc))⟩
  · intro j l bj bl q r hj hbj hl hbl hq hr hqr
    exact I.inj j l bj bl q r hj hbj hl hbl (hback j bj q hj hbj hq) (hback l bl r hl hbl hr) hqr
  · rintro k ⟨j, c, q, hj, hc, hq, rfl⟩
    exact ⟨j, c, q, hj, hc, hback j c q hj hc hq, rfl⟩

theorem reviveK_ok {ops : Array Oper} {val : Nat → Value} {ρ ρ0 : Ren} {h0 : Hp} {w w0 : World} {L : Nat → Prop} {done mask : Nat} {K : Hp → List Fl → Bool} : ∀ (F : List Fl) {h : Hp} {keep : List Fl}, reviveK mask F h keep K = true → Inv G N ρ h w → Ext ρ0 h0 w0 ρ h w →
    (F ++ keep).Nodup → FI P N ops val ρ h w L done h0.n w0.heap.size (fun f => f ∈ F ∨ f ∈ keep) → (∀ f ∈ F, bit mask f.i = true → L f.i) →
    ∃ h1 keep1, K h1 keep1 = true ∧ Inv G N ρ h1 w ∧ Ext ρ0 h0 w0 ρ h1 w ∧ keep1.Nodup ∧ FI P N ops val ρ h1 w L done h0.n w0.heap.size (fun f => f ∈ keep1) ∧ (∀ f, f ∈ F → bit mask f.i = false → f ∈ keep1) ∧ (∀ f, f ∈ keep → f ∈ keep1)
  | [], h, keep, hk, I, E, hn, F, _ => ⟨h, keep, hk, I, E, by simpa using hn, F.sub fun f hf => .inr hf, fun f hf => by simp at hf, fun f hf => hf⟩
  | f :: r, h, keep, hk, I, E, hn, F, hL => by
    simp only [reviveK] at hk
    cases hb : bit mask f.i with
    | true =>
      simp only [hb, Hp.putK_eq] at hk
      have hf := F.ok f (.inl List.mem_cons_self)
      obtain ⟨k, k1, k2, k3, k4, k5⟩ := hf.yes (hL f List.mem_cons_self hb)
      have hbd := (floatE_ok hf.fe).1
      obtain ⟨I1, o1⟩ := I.revive hf.dead k1 k2 hbd (k4 ρ) k5
      have E1 : Ext ρ0 h0 w0 ρ (h.put f.idx f.b) w := ⟨E.ext, E.os, E.tape, E.output, E.size, E.frame, fun k' hO => (o1 k' hO).elim (E.own k') (fun e => .inr (e ▸ k3)), by rw [Hp.put_n]; exact E.nle, E.stay, fun j hj => by
        rw [Hp.get_put, if_neg (by have := Hp.get_lt hj; have := hf.old; omega)]; exact E.dead j hj⟩
      have hfr : f ∉ r ∧ f ∉ keep := by
        have := (List.nodup_cons.1 (by simpa using hn : (f :: (r ++ keep)).Nodup)).1
        simpa using this
      have hnr : (r ++ keep).Nodup := (List.nodup_cons.1 (by simpa using hn : (f :: (r ++ keep)).Nodup)).2
      have F1 : FI P N ops val ρ (h.put f.idx f.b) w L done h0.n w0.heap.size (fun g => g ∈ r ∨ g ∈ keep) := by
        have hS : ∀ g, (g ∈ r ∨ g ∈ keep) → (g ∈ f :: r ∨ g ∈ keep) := fun g hg => hg.imp (List.mem_cons_of_mem _) id
        have hne : ∀ g, (g ∈ r ∨ g ∈ keep) → f ≠ g := fun g hg e => by subst e; exact hg.elim hfr.1 hfr.2
        have F0 := F.sub hS
        refine ⟨fun g hg => ?_, F0.idx, F0.num, F0.inj⟩
        have og := F0.ok g hg
        refine ⟨og.op, og.fe, og.val, og.dn, ?_, og.old, og.no, fun hLg => ?_⟩
        · rw [Hp.get_put, if_neg (fun e => hne g hg (F.idx f g (.inl List.mem_cons_self) (hS g hg) e))]; exact og.dead
        · obtain ⟨kg, g1, g2, g3, g4, g5⟩ := og.yes hLg
          refine ⟨kg, g1, g2, g3, g4, fun hO => (o1 kg hO).elim g5 fun e => ?_⟩
          exact hne g hg (F.inj f g _ _ (.inl List.mem_cons_self) (hS g hg) k1 g1 e.symm)
      obtain ⟨h1, keep1, q1, q2, q3, q4, q5, q6, q7⟩ := reviveK_ok r hk I1 E1 hnr F1 (fun g hg => hL g (List.mem_cons_of_mem _ hg))
      refine ⟨h1, keep1, q1, q2, q3, q4, q5, fun g hg hgb => ?_, q7⟩
      rcases List.mem_cons.1 hg with rfl | hg
      · rw [hb] at hgb; cases hgb
      · exact q6 g hg hgb
    | false =>
      simp only [hb] at hk
      have hperm : (r ++ f :: keep).Nodup := by
        have := (List.perm_middle (a := f) (l₁ := r) (l₂ := keep)).nodup_iff
        exact this.2 (by simpa using hn)
      obtain ⟨h1, keep1, q1, q2, q3, q4, q5, q6, q7⟩ := reviveK_ok r hk I E hperm (F.sub fun g hg => by
        rcases hg with hg | hg
        · exact .inl (List.mem_cons_of_mem _ hg)
        · rcases List.mem_cons.1 hg with rfl | hg
          · exact .inl List.mem_cons_self
          · exact .inr hg) (fun g hg => hL g (List.mem_cons_of_mem _ hg))
      refine ⟨h1, keep1, q1, q2, q3, q4, q5, fun g hg hgb => ?_, fun g hg => q7 g (List.mem_cons_of_mem _ hg)⟩
      rcases List.mem_cons.1 hg with rfl | hg
      · exact q7 g List.mem_cons_self
      · exact q6 g hg hgb

theorem splitFloat_spec {done : Nat} {all : List It} : ∀ (l acc : List It) {acc' : List It} {y : It} {b : Blk} {r : List It}, splitFloat P done all l acc = some (acc', y, b, r) →
    ∃ mid, l = mid ++ y :: r ∧ acc' = mid.reverse ++ acc ∧ y.o.guard = none ∧ within y.m done = true ∧ floatE P y.o.op = some b
  | [], acc, acc', y, b, r, h => by simp [splitFloat] at h
  | x :: l, acc, acc', y, b, r, h => by
    have go : ∀ {acc2}, splitFloat P done all l acc2 = some (acc', y, b, r) → acc2 = x :: acc → ∃ mid, x :: l = mid ++ y :: r ∧ acc' = mid.reverse ++ acc ∧ y.o.guard = none ∧ within y.m done = true ∧ floatE P y.o.op = some b := by
      intro acc2 h2 e
      subst e
      obtain ⟨mid, h1, h2, h3⟩ := splitFloat_spec l _ h2
      exact ⟨x :: mid, by rw [h1]; rfl, by rw [h2]; simp, h3⟩
    simp only [splitFloat] at h
    split at h
    · rename_i h1 h2 h3
      split at h
      · rename_i b' hb
        cases h
        exact ⟨[], rfl, rfl, h1, h2, hb⟩
      · exact go h rfl
    · exact go h rfl

theorem allAfter_mem {i : Nat} : ∀ {l : List It}, allAfter i l = true → ∀ y ∈ l, bit y.m i = true
  | [], _ => by simp
  | y :: r, hk => by
    simp only [allAfter] at hk
    split at hk
    · rename_i hb
      intro z hz
      rcases List.mem_cons.1 hz with rfl | hz
      · exact hb
      · exact allAfter_mem hk z hz
    · cases hk

/-- A frame that looks, at some slots, as a given one, and otherwise as the model's. -/
theorem view {ρ : Ren} {a : Act} (T : TM) (looks : List Nat) (h1 : ∀ d ∈ looks, VR ρ (T.get d) (a.tmps.getD d undef)) (h2 : ∀ d, ∃ v, VR ρ v (a.tmps.getD d undef)) (hd : a.defers = []) :
    ∃ T' : TM, TMR ρ T' a ∧ ∀ d ∈ looks, T'.get d = T.get d := by
  classical
  have hf : ∃ f : Nat → Value, ∀ d, VR ρ (f d) (a.tmps.getD d undef) ∧ (d ∈ looks → f d = T.get d) := by
    refine ⟨fun d => if d ∈ looks then T.get d else Classical.choose (h2 d), fun d => ?_⟩
    by_cases hm : d ∈ looks
    · simp only [hm, if_true]; exact ⟨h1 d hm, fun _ => trivial⟩
    · simp only [hm, if_false]; exact ⟨Classical.choose_spec (h2 d), fun h => h.elim⟩
  obtain ⟨f, hf⟩ := hf
  have hsum : ∀ (l : List Nat) (d : Nat), d ∈ l → d ≤ l.sum := by
    intro l
    induction l with
    | nil => simp
    | cons x l ih =>
      intro d hd
      simp only [List.sum_cons]
      rcases List.mem_cons.1 hd with rfl | hd
      · omega
      · have := ih d hd; omega
  let M := a.tmps.size + looks.sum + 1
  have hget : ∀ d, (⟨a.tmps.size, chunks ((List.range M).map f)⟩ : TM).get d = ((List.range M).map f).getD d undef := by
    intro d
    have := chunks_get ((List.range M).map f) 0 d
    rw [List.replicate_zero, List.append_nil] at this
    exact this
  have hget2 : ∀ d, d < M → (⟨a.tmps.size, chunks ((List.range M).map f)⟩ : TM).get d = f d := by
    intro d hd
    rw [hget, List.getD_eq_getElem?_getD]
    simp [hd]
  refine ⟨⟨a.tmps.size, chunks ((List.range M).map f)⟩, ⟨rfl, fun d => ?_, hd⟩, fun d hm => ?_⟩
  · by_cases hlt : d < M
    · rw [hget2 d hlt]; exact (hf d).1
    · rw [hget, List.getD_eq_getElem?_getD, List.getElem?_eq_none (by simp; omega)]
      have : a.tmps.getD d undef = undef := by
        simp only [Array.getD_eq_getD_getElem?]
        rw [Array.getElem?_eq_none (by simp only [M] at hlt; omega)]; rfl
      rw [this]
      exact .flat (n := 0) rfl
  · rw [hget2 d (by have := hsum looks d hm; simp only [M]; omega)]
    exact (hf d).2 hm

section
variable {ops : Array Oper} {m : Nat → Nat} {tm0 : TM} {val : Nat → Value} {ρ : Ren} {h : Hp} {a : Act} {w : World} {L E : Nat → Prop} {done : Nat} {reads : List Rd} {tm : TM} {rem : List It}

theorem DI.all (I : DI P G ops m tm0 val ρ h a L E done reads tm rem) : ∀ d, ∃ v, VR ρ v (a.tmps.getD d undef) := by
  intro d
  by_cases hw : ∃ j, L j ∧ dstOf ops j = some d
  · obtain ⟨j, h1, h2⟩ := hw; exact ⟨_, I.conW j d h1 h2⟩
  · exact ⟨_, I.conO d fun j hj hd => hw ⟨j, hj, hd⟩⟩

/-- The slots that an operation looks at, when its time has come. -/
theorem DI.looks (St : Stat ops m) (I : DI P G ops m tm0 val ρ h a L E done reads tm rem) {i : Nat} {o : Oper} (ho : ops[i]? = some o) (hL : ¬ L i) (hanc : ∀ j, bit (m i) j = true → L j) {T : TM}
    (h1 : ∀ j d, bit (m i) j = true → dstOf ops j = some d → d ∈ o.looksAt ops → T.get d = val j) (h2 : ∀ d ∈ o.looksAt ops, (∀ j, bit (m i) j = true → dstOf ops j ≠ some d) → T.get d = tm0.get d) :
    ∃ T' : TM, TMR ρ T' a ∧ ∀ d ∈ o.looksAt ops, T'.get d = T.get d := by
  refine view T (o.looksAt ops) (fun d hd => ?_) I.all I.defers
  by_cases hw : ∃ j, bit (m i) j = true ∧ dstOf ops j = some d
  · obtain ⟨j, k1, k2⟩ := hw
    rw [h1 j d k1 k2 hd]
    exact I.conW j d (hanc j k1) k2
  · rw [h2 d hd fun j k1 k2 => hw ⟨j, k1, k2⟩]
    refine I.conO d fun j hj hjd => ?_
    by_cases hji : j = i
    · subst hji; exact hL hj
    · cases hoj : ops[j]? with
      | none => simp [dstOf, hoj] at hjd
      | some oj =>
        have hjd2 : oj.dst = some d := by simpa [dstOf, hoj] using hjd
        rcases St.war i j o oj d ho hoj (fun e => hji e.symm) hjd2 hd with hb | hb
        · exact hw ⟨j, hb, hjd⟩
        · exact hL (I.closedL j hj i hb)

theorem DI.over (I : DI P G ops m tm0 val ρ h a L E done reads tm rem) (hall : ∀ i, i < ops.size → L i) : rem = [] ∧ TMR ρ tm a := by
  constructor
  · cases hr : rem with
    | nil => rfl
    | cons x rs =>
      obtain ⟨h1, _, h3⟩ := I.remOK x (by rw [hr]; simp)
      have := I.sub x.i (hall x.i (Array.getElem?_eq_some_iff.1 h1).1)
      rw [h3] at this; cases this
  · refine ⟨I.size, fun d => ?_, I.defers⟩
    by_cases hw : ∃ j, L j ∧ dstOf ops j = some d
    · obtain ⟨j, k1, k2⟩ := hw
      rw [I.absW j d (I.sub j k1) k2]
      exact I.conW j d k1 k2
    · rw [I.absO d fun j hj hd => hw ⟨j, hall j (I.lt j hj), hd⟩]
      exact I.conO d fun j hj hd => hw ⟨j, hj, hd⟩
end

theorem putT_spec {tm : TM} {d : Option Tmp} {v : Value} {K2 : TM → Bool} (hp : putT tm d v K2 = true) : ∃ tm', K2 tm' = true ∧ tm'.n = tm.n ∧ (∀ e, d = some e → e < tm.n) ∧ ∀ e, tm'.get e = if d = some e then v else tm.get e := by
  unfold putT at hp
  split at hp
  · rename_i i
    obtain ⟨h1, tm', h2, h3, h4⟩ := TM.setK_true hp
    refine ⟨tm', h2, h3, (fun d e => by cases e; exact h1), fun d => ?_⟩
    rw [h4]
    by_cases e : d = i
    · subst e; simp
    · rw [if_neg e, if_neg (by intro h; cases h; exact e rfl)]
  · exact ⟨tm, hp, rfl, (fun d e => by cases e), fun d => by simp⟩

theorem drawGo_ok {call : CallK} {ops : Array Oper} {m : Nat → Nat} (St : Stat ops m) {tm0 : TM} {ρ ρ0 : Ren} {h0 : Hp} {a : Act} {w w0 : World} {L : Nat → Prop} {K : TM → Hp → Bool} : ∀ (n : Nat) {val : Nat → Value} {done : Nat} {reads : List Rd} {fls : List Fl} {tm : TM} {h : Hp} {its : List It},
    drawGo P G call ops.toList n done reads fls tm h its K = true → DI P G ops m tm0 val ρ h a L (isF fls) done reads tm its → Inv G N ρ h w → Ext ρ0 h0 w0 ρ h w → fls.Nodup → FI P N ops val ρ h w L done h0.n w0.heap.size (fun f => f ∈ fls) →
    ∃ n' val' done' reads' fls' tm' h' rem', restK P G call ops.toList n' done' reads' fls' tm' h' rem' K = true ∧ DI P G ops m tm0 val' ρ h' a L (isF fls') done' reads' tm' rem' ∧ Inv G N ρ h' w ∧ Ext ρ0 h0 w0 ρ h' w ∧ fls'.Nodup ∧
      FI P N ops val' ρ h' w L done' h0.n w0.heap.size (fun f => f ∈ fls')
  | 0, _, _, _, _, _, _, _, hk, _, _, _, _, _ => by cases hk
  | n + 1, val, done, reads, fls, tm, h, its, hk, D, I, E, hn, F => by
    rw [drawGo_succ] at hk
    obtain ⟨val1, done1, reads1, tm1, rem1, k1, D1, hv1⟩ := passK_ok St its hk (by simpa only [List.reverse_nil, List.nil_append] using D)
    have F1 : FI P N ops val1 ρ h w L done1 h0.n w0.heap.size (fun f => f ∈ fls) := ⟨fun f hf => by
      have o := F.ok f hf
      exact ⟨o.op, o.fe, by rw [(hv1 f.i o.dn).2]; exact o.val, (hv1 f.i o.dn).1, o.dead, o.old, o.no, o.yes⟩, F.idx, F.num, F.inj⟩
    split at k1
    · rename_i acc y b r hsp
      obtain ⟨mid, e1, e2, hgd, hwi, hfe⟩ := splitFloat_spec _ _ hsp
      simp only [List.append_nil] at e2
      subst e1
      simp only [Hp.pushK_eq] at k1
      split at k1
      case h_1 => cases k1
      rename_i hag
      simp only [fV_eq] at k1
      obtain ⟨tm2, g1, g2, g3, g4⟩ := putT_spec k1
      simp only [fNat_eq] at g1
      obtain ⟨hy1, hy2, hy3⟩ := D1.remOK y (by simp)
      obtain ⟨I2, o2⟩ := I.pushNone
      have hne : ∀ f ∈ fls, f.i ≠ y.i := fun f hf e => by have := (F1.ok f hf).dn; rw [e, hy3] at this; cases this
      have hlt : ∀ f ∈ fls, f.idx < h.n := fun f hf => Hp.get_lt (F1.ok f hf).dead
      have hρ : ρ h.n = none := I.fresh _ (Nat.le_refl _)
      have E2 : Ext ρ0 h0 w0 ρ (h.push .dead) w := ⟨E.ext, E.os, E.tape, E.output, E.size, E.frame, fun k hO => E.own k (o2 k hO), by have := E.nle; rw [Hp.push_n]; omega, E.stay, fun j hj => by
        rw [Hp.get_push, if_neg (by have := Hp.get_lt hj; have := E.nle; omega)]; exact E.dead j hj⟩
      have D2 : DI P G ops m tm0 val1 ρ (h.push .dead) a L (isF (⟨y.i, h.n, y.o.op, b⟩ :: fls)) done1 reads1 tm1 (mid ++ y :: r) := by
        refine (DI.later (Extends.refl ρ) (h' := h.push .dead) D1 (fun j oj _ _ _ _ hp => ?_)).but ?_
        · obtain ⟨T, p1, p2, p3⟩ := hp
          refine ⟨T, p1, p2, ?_⟩
          rcases p3 with p3 | ⟨p3, p4, p5, p6⟩
          · exact .inl p3
          · refine .inr ⟨p3, p4, ?_, p6⟩
            rcases p6 with p6 | p6
            · rw [← readE_silent p6 T h (h.push .dead)]; exact p5
            · rcases readsAgain_mem hag _ p6 with q | q
              · rw [bit_zero] at q; cases q
              · exact q
        · rintro j _ _ ⟨f, hf, e⟩
          exact ⟨f, List.mem_cons_of_mem _ hf, e⟩
      have D3 := DI.ahead St D2 hwi (floatV h.n y.o.op) g2 g4 (fun _ h => h) g3 (fun hno => absurd ⟨_, List.mem_cons_self, rfl⟩ hno)
      have hbit : ∀ i, bit done1 i = true → bit (Nat.lor done1 (Nat.pow 2 y.i)) i = true := fun i hi => by rw [bit_lor, hi]; rfl
      have F2 : FI P N ops (fun i => if i = y.i then floatV h.n y.o.op else val1 i) ρ (h.push .dead) w L (Nat.lor done1 (Nat.pow 2 y.i)) h0.n w0.heap.size (fun f => f ∈ (⟨y.i, h.n, y.o.op, b⟩ :: fls : List Fl)) := by
        refine ⟨fun f hf => ?_, fun f g hf hg e => ?_, fun f g hf hg e => ?_, fun f g p q hf hg hp hq e => ?_⟩
        · rcases List.mem_cons.1 hf with rfl | hf
          · refine ⟨⟨y.o, hy1, rfl, hgd⟩, hfe, by simp, by rw [bit_lor, bit_pow]; simp, by rw [Hp.get_push]; simp, E.nle, fun _ => hρ, fun hL => ?_⟩
            have := D1.sub y.i hL
            rw [hy3] at this; cases this
          · have o := F1.ok f hf
            refine ⟨o.op, o.fe, by simp only [hne f hf, if_false]; exact o.val, hbit _ o.dn, by rw [Hp.get_push, if_neg (by have := hlt f hf; omega)]; exact o.dead, o.old, o.no, fun hL => ?_⟩
            obtain ⟨k, k1, k2, k3, k4, k5⟩ := o.yes hL
            exact ⟨k, k1, k2, k3, k4, fun hO => k5 (o2 k hO)⟩
        · rcases List.mem_cons.1 hf with rfl | hf <;> rcases List.mem_cons.1 hg with rfl | hg
          · rfl
          · have := hlt g hg; simp only at e; omega
          · have := hlt f hf; simp only at e; omega
          · exact F1.idx f g hf hg e
        · rcases List.mem_cons.1 hf with rfl | hf <;> rcases List.mem_cons.1 hg with rfl | hg
          · rfl
          · exact absurd e.symm (hne g hg)
          · exact absurd e (hne f hf)
          · exact F1.num f g hf hg e
        · rcases List.mem_cons.1 hf with rfl | hf
          · simp only at hp; rw [hρ] at hp; cases hp
          · rcases List.mem_cons.1 hg with rfl | hg
            · simp only at hq; rw [hρ] at hq; cases hq
            · exact F1.inj f g p q hf hg hp hq e
      have hn2 : (⟨y.i, h.n, y.o.op, b⟩ :: fls : List Fl).Nodup := List.nodup_cons.2 ⟨fun hm => by have := hlt _ hm; simp only at this; omega, hn⟩
      have hr : acc.reverse = mid := by rw [e2]; simp
      rw [hr] at g1
      exact drawGo_ok St n g1 D3 I2 E2 hn2 F2
    · exact ⟨n, val1, done1, reads1, fls, tm1, h, rem1, k1, D1, I, E, hn, F1⟩

theorem wpAny_ok {call : CallK} (S : CallSound P G N call) {ops : Array Oper} {m : Nat → Nat} (St : Stat ops m) {tm0 : TM} {Q : Exit → Act → World → Prop} {K : TM → Hp → Bool} {ρ0 : Ren} {h0 : Hp} {w0 : World} : ∀ (fuel : Nat) {val : Nat → Value} {ρ : Ren} {h : Hp} {a : Act} {w : World} {listed : Array Bool}
    {done : Nat} {reads : List Rd} {fls : List Fl} {tm : TM} {rem : List It} {n : Nat}, DI P G ops m tm0 val ρ h a (fun i => listed.getD i false = true) (isF fls) done reads tm rem → restK P G call ops.toList n done reads fls tm h rem K = true → Inv G N ρ h w →
    Ext ρ0 h0 w0 ρ h w → fls.Nodup → FI P N ops val ρ h w (fun i => listed.getD i false = true) done h0.n w0.heap.size (fun f => f ∈ fls) →
    listed.size = ops.size → ((List.range ops.size).filter fun i => !listed.getD i false).length ≤ fuel →
    (∀ ρ' tm' h' a' w', K tm' h' = true → Inv G N ρ' h' w' → TMR ρ' tm' a' → Ext ρ0 h0 w0 ρ' h' w' → Q .normal a' w') → wpAny P .any ops Q fuel listed a w := by
  intro fuel
  induction fuel with
  | zero =>
    intro val ρ h a w listed done reads fls tm rem n D hk I E hn F hsz hcnt hq
    have hall : ∀ i, i < ops.size → listed.getD i false = true := by
      intro i hi
      cases hb : listed.getD i false with
      | true => rfl
      | false =>
        have hm : i ∈ (List.range ops.size).filter fun i => !listed.getD i false := by simp [hi]; simpa using hb
        have := List.length_pos_of_mem hm
        omega
    obtain ⟨hr, T⟩ := D.over hall
    subst hr
    obtain ⟨h1, _, q1, q2, q3, _⟩ := reviveK_ok fls hk I E (by simpa using hn) (F.sub fun f hf => by simpa using hf) (fun f hf _ => hall f.i (by obtain ⟨o, ho, _⟩ := (F.ok f hf).op; exact (Array.getElem?_eq_some_iff.1 ho).1))
    refine ⟨?_, hq ρ tm h1 a w q1 q2 T q3⟩
    unfold Region.ready
    rw [List.filter_eq_nil_iff]
    intro i hi
    have := hall i (by simpa using hi)
    have hi2 : i < listed.size := by rw [hsz]; simpa using hi
    have : listed.getD i true = true := by simpa [Array.getD, hi2] using this
    simp [this]
  | succ fuel ih =>
    intro val ρ h a w listed done reads fls tm rem n D hk I E hn F hsz hcnt hq
    have hgetD : ∀ i, i < ops.size → listed.getD i true = listed.getD i false := by
      intro i hi
      have hi2 : i < listed.size := by rw [hsz]; exact hi
      simp [Array.getD, hi2]
    refine ⟨fun hready => ?_, fun i hi => ?_⟩
    · have hall : ∀ i, i < ops.size → listed.getD i false = true := by
        intro i
        induction i using Nat.strongRecOn with
        | _ i ihi =>
          intro hi
          cases hb : listed.getD i false with
          | true => rfl
          | false =>
            have ho : ops[i]? = some ops[i] := Array.getElem?_eq_getElem hi
            have : i ∈ Region.ready .any ops listed := by
              unfold Region.ready
              simp only [List.mem_filter, List.mem_range, hi, true_and, hgetD i hi, hb, Bool.not_false, Bool.true_and, ho, Option.map_some, Option.getD_some]
              rw [Array.all_eq_true_iff_forall_mem]
              intro e he
              cases hbd : Region.binds .any e with
              | false => simp
              | true =>
                have hlt := St.edge i _ ho e (by simpa using he) hbd
                simp [ihi e.on hlt (by omega)]
            rw [hready] at this; cases this
      obtain ⟨hr, T⟩ := D.over hall
      subst hr
      obtain ⟨h1, _, q1, q2, q3, _⟩ := reviveK_ok fls hk I E (by simpa using hn) (F.sub fun f hf => by simpa using hf) (fun f hf _ => hall f.i (by obtain ⟨o, ho, _⟩ := (F.ok f hf).op; exact (Array.getElem?_eq_some_iff.1 ho).1))
      exact hq ρ tm h1 a w q1 q2 T q3
    · -- an operation whose time may have come
      have hi0 : i < ops.size ∧ listed.getD i true = false ∧ ((ops[i]?).map (·.after.all fun e => !Region.binds .any e || listed.getD e.on false)).getD false = true := by
        unfold Region.ready at hi
        simp only [List.mem_filter, List.mem_range, Bool.and_eq_true, Bool.not_eq_true'] at hi
        exact hi
      obtain ⟨hlt, hnl, hpre⟩ := hi0
      have ho : ops[i]? = some ops[i] := Array.getElem?_eq_getElem hlt
      generalize hoo : ops[i] = o at ho
      rw [ho] at hpre
      simp only [Option.map_some, Option.getD_some, Array.all_eq_true_iff_forall_mem] at hpre
      have hL : ¬ (listed.getD i false = true) := by rw [← hgetD i hlt, hnl]; simp
      have hanc : ∀ j, bit (m i) j = true → listed.getD j false = true := by
        intro j hj
        obtain ⟨e, he, hb, hor⟩ := St.anc i o j ho hj
        have := hpre e (by simpa using he)
        rw [hb] at this
        simp only [Bool.not_true, Bool.false_or] at this
        rcases hor with rfl | hor
        · exact this
        · exact D.closedL e.on this j hor
      have hi2 : i < listed.size := by rw [hsz]; exact hlt
      have hset : ∀ j, ((listed.setIfInBounds i true).getD j false = true) = (listed.getD j false = true ∨ j = i) := by
        intro j
        simp only [Array.getD_eq_getD_getElem?, Array.getElem?_setIfInBounds]
        by_cases hji : i = j
        · subst hji; simp [hi2]
        · rw [if_neg hji]
          have : ¬ j = i := fun e => hji e.symm
          simp [this]
      have hcnt2 : ((List.range ops.size).filter fun j => !(listed.setIfInBounds i true).getD j false).length ≤ fuel := by
        have hsub : ((List.range ops.size).filter fun j => !(listed.setIfInBounds i true).getD j false) = ((List.range ops.size).filter fun j => !listed.getD j false).filter (· != i) := by
          rw [List.filter_filter]
          apply List.filter_congr
          intro j _
          have := hset j
          cases h1 : (listed.setIfInBounds i true).getD j false <;> cases h2 : listed.getD j false <;> simp [h1, h2] at this ⊢ <;> simp [this]
        rw [hsub]
        have hmem : i ∈ (List.range ops.size).filter fun j => !listed.getD j false := by
          simp only [List.mem_filter, List.mem_range, hlt, true_and]
          simpa using hL
        have : (((List.range ops.size).filter fun j => !listed.getD j false).filter (· != i)).length < ((List.range ops.size).filter fun j => !listed.getD j false).length := by
          rcases Nat.lt_or_ge (((List.range ops.size).filter fun j => !listed.getD j false).filter (· != i)).length ((List.range ops.size).filter fun j => !listed.getD j false).length with h | h
          · exact h
          · have := (List.length_filter_eq_length_iff).1 (Nat.le_antisymm (List.length_filter_le _ _) h) i hmem
            simp at this
        omega
      have hfn : (fun j => (listed.setIfInBounds i true).getD j false = true) = fun j => listed.getD j false = true ∨ j = i := funext hset
      unfold wpOp
      rw [ho]
      simp only
      rcases D.remAll i hlt with hdone | ⟨x, hx, hxi⟩
      · -- it has been run ahead
        by_cases hF : isF fls i
        · -- a block whose time is open
          obtain ⟨f, hf, rfl⟩ := hF
          have of := F.ok f hf
          obtain ⟨o', ho', hop, hgd⟩ := of.op
          rw [ho] at ho'; cases ho'
          obtain ⟨hbd, obj, hobj, hrun⟩ := floatE_ok of.fe
          obtain ⟨v', r1, r2⟩ := hrun o a.eval w hop
          have hρ := of.no hL
          obtain ⟨I', o2⟩ := I.float of.dead hρ obj
          have hwant : Region.wanted o (yielded ops a.tmps) = true := by unfold Region.wanted; simp [hgd]
          rw [if_pos hwant]
          refine .inl ?_
          unfold Oper.wp
          rw [r1]
          have he := Ren.upd_ext (p := ⟨w.heap.size, 0, 0⟩) hρ
          have hold : ∀ k, k < w.heap.size → (w.heap.push obj)[k]? = w.heap[k]? := fun k hk => by rw [Array.getElem?_push, if_neg (by omega)]
          have D' := (DI.later he (h' := h) D (fun _ _ _ _ _ _ hp => hp)).list St ho hdone hanc (E' := isF fls) (fun j h => .inl h) (v' := v') (by rw [of.val]; exact r2 _ _ (Ren.upd_at _ _ _))
          rw [← hfn] at D'
          have E' : Ext ρ0 h0 w0 (ρ.upd f.idx ⟨w.heap.size, 0, 0⟩) h { w with heap := w.heap.push obj } := ⟨E.ext.trans he, E.os, E.tape, E.output, by have := E.size; simp; omega, fun k hk hO => by
              rw [← E.frame k hk hO]; exact hold k (Nat.lt_of_lt_of_le hk E.size), fun k hO => E.own k (o2 k hO), E.nle, fun j hj hn0 => by
              simp only [Ren.upd]; rw [if_neg (by have := of.old; omega)]; exact E.stay j hj hn0, E.dead⟩
          have F' : FI P N ops val (ρ.upd f.idx ⟨w.heap.size, 0, 0⟩) h { w with heap := w.heap.push obj } (fun i => (listed.setIfInBounds f.i true).getD i false = true) done h0.n w0.heap.size (fun f => f ∈ fls) := by
            have hup : ∀ g ∈ fls, g ≠ f → (ρ.upd f.idx ⟨w.heap.size, 0, 0⟩) g.idx = ρ g.idx := fun g hg hne => by
              simp only [Ren.upd]; rw [if_neg (fun e => hne (F.idx g f hg hf e))]
            have hkl : ∀ g ∈ fls, ∀ p, ρ g.idx = some p → p.blk < w.heap.size := fun g hg p hp => by
              by_cases hLg : listed.getD g.i false = true
              · obtain ⟨k, k1, _, _, k4, _⟩ := (F.ok g hg).yes hLg
                rw [hp] at k1; cases k1
                exact (k4 ρ).lt (floatE_ok (F.ok g hg).fe).1
              · rw [(F.ok g hg).no hLg] at hp; cases hp
            refine ⟨fun g hg => ?_, F.idx, F.num, fun g g' p q hg hg' hp hq e => ?_⟩
            · have og := F.ok g hg
              by_cases hgf : g = f
              · subst hgf
                refine ⟨og.op, og.fe, og.val, og.dn, og.dead, og.old, fun hno => absurd ((hset g.i).mpr (.inr rfl)) hno, fun _ => ?_⟩
                refine ⟨w.heap.size, Ren.upd_at _ _ _, I.big, E.size, fun ρ' => hobj ρ' _ _ (by simp), fun hO => ?_⟩
                obtain ⟨j, c, q, h1, h2, h3, h4⟩ := o2 _ hO
                obtain ⟨q', m1, _, m3⟩ := I.dom j c h1 h2
                rw [h3] at m1; cases m1
                have := m3.lt h2
                omega
              · refine ⟨og.op, og.fe, og.val, og.dn, og.dead, og.old, fun hno => ?_, fun hyes => ?_⟩
                · rw [hup g hg hgf]; exact og.no fun h => hno ((hset g.i).mpr (.inl h))
                · have hyes' : listed.getD g.i false = true := by
                    rcases (hset g.i).mp hyes with h | h
                    · exact h
                    · exact absurd (F.num g f hg hf h) hgf
                  obtain ⟨k, k1, k2, k3, k4, k5⟩ := og.yes hyes'
                  refine ⟨k, by rw [hup g hg hgf]; exact k1, k2, k3, fun ρ' => (k4 ρ').mono (.refl _) (hold k (hkl g hg _ k1)), fun hO => k5 (o2 k hO)⟩
            · by_cases h1 : g = f
              · by_cases h2 : g' = f
                · rw [h1, h2]
                · rw [hup g' hg' h2] at hq
                  subst h1
                  rw [Ren.upd_at] at hp; cases hp
                  have := hkl g' hg' _ hq
                  simp only at e; omega
              · rw [hup g hg h1] at hp
                by_cases h2 : g' = f
                · subst h2
                  rw [Ren.upd_at] at hq; cases hq
                  have := hkl g hg _ hp
                  simp only at e; omega
                · rw [hup g' hg' h2] at hq
                  exact F.inj g g' p q hg hg' hp hq e
          exact ih D' hk I' E' hn F' (by simpa using hsz) hcnt2 hq
        obtain ⟨T, t1, t2, t3⟩ := D.pend i o hdone hL hF ho
        obtain ⟨T', TR, hag⟩ := D.looks St ho hL hanc t1 t2
        have F' : FI P N ops val ρ h w (fun j => (listed.setIfInBounds i true).getD j false = true) done h0.n w0.heap.size (fun f => f ∈ fls) := by
          refine ⟨fun g hg => ?_, F.idx, F.num, F.inj⟩
          have og := F.ok g hg
          refine ⟨og.op, og.fe, og.val, og.dn, og.dead, og.old, fun hno => og.no fun h => hno ((hset g.i).mpr (.inl h)), fun hyes => og.yes ?_⟩
          rcases (hset g.i).mp hyes with h | h
          · exact h
          · exact absurd ⟨g, hg, h⟩ hF
        have hwant : Region.wanted o (yielded ops a.tmps) = wantE ops.toList T o := by rw [← wantE_ok TR ops o, wantE_congr hag]
        rcases t3 with ⟨hw, hv⟩ | ⟨hw, hr, hv, _⟩
        · rw [if_neg (by rw [hwant, hw]; simp)]
          have D' := D.list St ho hdone hanc (E' := isF fls) (fun _ h => .inl h) (v' := undef) (by rw [hv]; exact .flat (n := 0) rfl)
          rw [← hfn] at D'
          exact ih D' hk I E hn F' (by simpa using hsz) hcnt2 hq
        · rw [if_pos (by rw [hwant, hw])]
          have hv' : readE P G T' h o = some (val i) := by rw [readE_congr (evO_congr hag)]; exact hv
          obtain ⟨v', r1, r2⟩ := readE_ok (P := P) I TR hv'
          refine .inl ?_
          unfold Oper.wp
          rw [r1]
          have D' := D.list St ho hdone hanc (E' := isF fls) (fun _ h => .inl h) r2
          rw [← hfn] at D'
          exact ih D' hk I E hn F' (by simpa using hsz) hcnt2 hq
      · -- it is the one on which the rest hangs
        cases hrem : rem with
        | nil => rw [hrem] at hx; cases hx
        | cons y rs =>
          subst hrem
          unfold restK at hk
          simp only at hk
          split at hk
          case h_2 => cases hk
          rename_i hwi hwa hrd haf
          obtain ⟨hy1, hy2, hy3⟩ := D.remOK y (by simp)
          have hxy : x = y := by
            rcases List.mem_cons.1 hx with e | hm
            · exact e
            · obtain ⟨hx1, hx2, hx3⟩ := D.remOK x hx
              have hb := allAfter_mem haf x hm
              rw [hx2, hxi] at hb
              have := D.sub y.i (hanc y.i hb)
              rw [hy3] at this; cases this
          subst hxy
          subst hxi
          rw [hy1] at ho
          cases ho
          -- what it looks at
          have t1 : ∀ j d, bit (m x.i) j = true → dstOf ops j = some d → d ∈ x.o.looksAt ops → tm.get d = val j := fun j d hb hd _ => D.absW j d (D.sub j (hanc j hb)) hd
          have t2 : ∀ d ∈ x.o.looksAt ops, (∀ j, bit (m x.i) j = true → dstOf ops j ≠ some d) → tm.get d = tm0.get d := by
            intro d hl hno
            refine D.absO d fun j hj hd => ?_
            cases hoj : ops[j]? with
            | none => simp [dstOf, hoj] at hd
            | some oj =>
              have hd2 : oj.dst = some d := by simpa [dstOf, hoj] using hd
              rcases St.war x.i j x.o oj d hy1 hoj (fun e => by rw [← e, hy3] at hj; cases hj) hd2 hl with hb | hb
              · exact hno j hb hd
              · have := D.closedD j hj x.i hb
                rw [hy3] at this; cases this
          obtain ⟨T', TR, hag⟩ := D.looks St hy1 hL hanc t1 t2
          rw [if_pos (by rw [← wantE_ok TR ops x.o, wantE_congr hag]; exact hwa)]
          obtain ⟨hA, fls1, hk, IA, EA, hn1, FA, keepA, _⟩ := reviveK_ok fls hk I E (by simpa using hn) (F.sub fun f hf => by simpa using hf) (fun f _ hb => hanc f.i (by rw [← hy2]; exact hb))
          rw [← effK_congr (t1 := T') (evO_congr hag)] at hk
          refine .inl ((effK_ok S IA TR hk).wp ?_)
          rintro v' w' ⟨ρ', h', v, hK, hv, I', E'⟩
          simp only [fV_eq] at hK
          split at hK
          case h_1 => cases hK
          rename_i hag2
          unfold putT at hK
          have hput : ∃ tm' : TM, drawGo P G call ops.toList n (Nat.lor done (Nat.pow 2 x.i)) reads fls1 tm' h' rs K = true ∧ tm'.n = tm.n ∧ (∀ d, x.o.dst = some d → d < tm.n) ∧ ∀ d, tm'.get d = if x.o.dst = some d then v else tm.get d := by
            split at hK
            · rename_i e hd
              obtain ⟨h1, tm', h2, h3, h4⟩ := TM.setK_true hK
              simp only [fNat_eq] at h2
              refine ⟨tm', h2, h3, (fun d q => by rw [hd] at q; cases q; exact h1), fun d => ?_⟩
              rw [h4]
              by_cases q : d = e
              · subst q; simp [hd]
              · rw [if_neg q, if_neg (by rw [hd]; intro h; cases h; exact q rfl)]
            · rename_i hd
              simp only [fNat_eq] at hK
              exact ⟨tm, hK, rfl, (fun d q => by rw [hd] at q; cases q), fun d => by rw [hd]; simp⟩
          obtain ⟨tm', g1, g2, g3, g4⟩ := hput
          -- the later world, then the operation itself
          have DA := D.but (E' := isF fls1) (fun j _ hLj hj => by
            obtain ⟨f, hf, rfl⟩ := hj
            cases hb : bit x.m f.i with
            | true => exact absurd (hanc f.i (by rw [← hy2]; exact hb)) hLj
            | false => exact ⟨f, keepA f hf hb, rfl⟩)
          have D1 : DI P G ops m tm0 val ρ' h' a (fun i => listed.getD i false = true) (fun j => isF fls1 j ∨ j = x.i) done reads tm (x :: rs) := by
            have D0 := DA.later E'.ext (h' := h') (fun j oj hj hLj _ hoj hp => by
              obtain ⟨T, p1, p2, p3⟩ := hp
              refine ⟨T, p1, p2, ?_⟩
              rcases p3 with p3 | ⟨p3, p4, p5, p6⟩
              · exact .inl p3
              · refine .inr ⟨p3, p4, ?_, p6⟩
                rcases p6 with p6 | p6
                · rw [← readE_silent p6 T h h']; exact p5
                · rcases readsAgain_mem hag2 _ p6 with q | q
                  · simp only at q
                    rw [hy2] at q
                    exact absurd (hanc j q) hLj
                  · exact q)
            exact D0.but fun _ _ _ h => .inl h
          have D2 := DI.ahead St (r1 := []) D1 hwi v g2 g4 (fun _ h => h) g3 (fun hne => (hne (.inr rfl)).elim)
          have D3 := D2.list St hy1 (by rw [bit_lor, bit_pow]; simp) hanc (E' := isF fls1) (fun _ h => h) (v' := v') (by simpa using hv)
          rw [← hfn] at D3
          have F3 : FI P N ops (fun i => if i = x.i then v else val i) ρ' h' w' (fun j => (listed.setIfInBounds x.i true).getD j false = true) (Nat.lor done (Nat.pow 2 x.i)) h0.n w0.heap.size (fun f => f ∈ fls1) := by
            have hne : ∀ f ∈ fls1, f.i ≠ x.i := fun f hf e => by have := (FA.ok f hf).dn; rw [e, hy3] at this; cases this
            have hyes : ∀ f ∈ fls1, (listed.setIfInBounds x.i true).getD f.i false = true → listed.getD f.i false = true := fun f hf h => by
              rcases (hset f.i).mp h with h | h
              · exact h
              · exact absurd h (hne f hf)
            have hback : ∀ f ∈ fls1, ∀ p, ρ' f.idx = some p → ρ f.idx = some p := fun f hf p hp => by
              by_cases hLf : listed.getD f.i false = true
              · obtain ⟨k, k1, _⟩ := (FA.ok f hf).yes hLf
                have := E'.ext _ _ k1
                rw [hp] at this; cases this; exact k1
              · have := E'.stay _ (Hp.get_lt (FA.ok f hf).dead) ((FA.ok f hf).no hLf)
                rw [hp] at this; cases this
            refine ⟨fun f hf => ?_, FA.idx, FA.num, fun f g p q hf hg hp hq e => FA.inj f g p q hf hg (hback f hf p hp) (hback g hg q hq) e⟩
            have of := FA.ok f hf
            refine ⟨of.op, of.fe, by simp only [hne f hf, if_false]; exact of.val, by rw [bit_lor, of.dn]; rfl, E'.dead _ of.dead, of.old, fun hno => E'.stay _ (Hp.get_lt of.dead) (of.no fun h => hno ((hset f.i).mpr (.inl h))), fun h => ?_⟩
            obtain ⟨k, k1, k2, k3, k4, k5⟩ := of.yes (hyes f hf h)
            have hkw : k < w.heap.size := (k4 ρ).lt (floatE_ok of.fe).1
            exact ⟨k, E'.ext _ _ k1, k2, k3, fun ρ2 => (k4 ρ2).mono (.refl _) (E'.frame k hkw k5), fun hO => (E'.own k hO).elim k5 fun h => by omega⟩
          obtain ⟨n2, val2, done2, reads2, fls2, tm2, h2, rem2, k1, k2, k3, k4, k5, k6⟩ := drawGo_ok St n g1 (by simpa only [List.nil_append] using D3) I' (EA.trans E') hn1 F3
          exact ih k2 k1 k3 k4 k5 k6 (by simpa using hsz) hcnt2 hq

/-- A region whose order is drawn. -/
theorem draw_ok {call : CallK} (S : CallSound P G N call) (hm : P.follows .mixedOrders = true) {ops : Array Oper} (hok : okDraw ops.toList = true) : DrawSound P G N call ops := by
  intro id Q K tm h a w ρ hk I T hq
  have St := okDraw_stat hok
  refine wp_region_any hm ?_
  unfold drawK at hk
  rw [mkIts_eq] at hk
  have hits : ∀ x ∈ itsOf 0 [] ops.toList, ops[x.i]? = some x.o ∧ x.m = maskAt ops.toList x.i := by
    intro x hx
    obtain ⟨k, hkl, he⟩ := List.mem_iff_getElem.1 hx
    have he2 : (itsOf 0 [] ops.toList)[k]? = some x := by rw [List.getElem?_eq_getElem hkl, he]
    obtain ⟨h1, h2⟩ := itsOf_get _ _ _ _ _ he2
    simp at h1
    subst h1
    exact ⟨by simpa using h2, by unfold maskAt; rw [he2]⟩
  have hidx : (itsOf 0 [] ops.toList).map (·.i) = List.range ops.size := by
    apply List.ext_getElem?
    intro k
    rw [List.getElem?_map]
    cases he : (itsOf 0 [] ops.toList)[k]? with
    | none =>
      have : ops.size ≤ k := by
        have := List.getElem?_eq_none_iff.1 he
        rw [itsOf_length] at this
        simpa using this
      simp [this]
    | some x =>
      obtain ⟨h1, _⟩ := itsOf_get _ _ _ _ _ he
      have : k < ops.size := by
        have := (List.getElem?_eq_some_iff.1 he).1
        rw [itsOf_length] at this
        simpa using this
      simp [this]; omega
  have D0 : DI P G ops (maskAt ops.toList) tm (fun _ => undef) ρ h a (fun i => (Array.replicate ops.size false).getD i false = true) (isF []) 0 [] tm ([].reverse ++ itsOf 0 [] ops.toList) := by
    have hno : ∀ i, ¬ ((Array.replicate ops.size false).getD i false = true) := by
      intro i; simp [Array.getD_eq_getD_getElem?, Array.getElem?_replicate]; split <;> simp
    refine ⟨(fun j d hj => by rw [bit_zero] at hj; cases hj), fun i hi => absurd hi (hno i), (fun i hi => by rw [bit_zero] at hi; cases hi), fun i hi => absurd hi (hno i), (fun i hi => by rw [bit_zero] at hi; cases hi),
      fun x hx => ?_, fun i hi => ?_, ?_, (fun j d hj => by rw [bit_zero] at hj; cases hj), fun d _ => rfl, fun j d hj => absurd hj (hno j), fun d _ => T.val d, T.size, T.defers, (fun i o hi => by rw [bit_zero] at hi; cases hi)⟩
    · obtain ⟨h1, h2⟩ := hits x (by simpa using hx); exact ⟨h1, h2, bit_zero _⟩
    · right
      have : i ∈ (itsOf 0 [] ops.toList).map (·.i) := by rw [hidx]; simpa using hi
      obtain ⟨x, hx, he⟩ := List.mem_map.1 this
      exact ⟨x, by simpa using hx, he⟩
    · simp only [List.reverse_nil, List.nil_append]
      rw [hidx]; exact List.nodup_range
  obtain ⟨n2, val2, done2, reads2, fls2, tm2, h2, rem2, k1, k2, k3, k4, k5, k6⟩ := drawGo_ok (w := { w with drawn := w.drawn + 1 }) (ρ0 := ρ) (h0 := h) (w0 := w) St _ hk (by simpa only [List.reverse_nil, List.nil_append] using D0) I.drew (Ext.drew ρ h w) List.nodup_nil
    ⟨fun f hf => by simp at hf, fun f g hf => by simp at hf, fun f g hf => by simp at hf, fun f g p q hf => by simp at hf⟩
  refine wpAny_ok S St ops.size k2 k1 k3 k4 k5 k6 (by simp) ?_ fun ρ' tm' h' a' w' q1 q2 q3 q4 => hq ρ' tm' h' a' w' q1 q2 q3 q4
  exact Nat.le_trans (List.length_filter_le _ _) (by simp)
end
end Go.CRun
namespace Go.CRun
open Go Go.RowKit
section
variable {P : Program} {G : Globs} {N : Nat} {ρ : Ren} {h : Hp} {w : World}

/-- The parts of a known result, as they lie in a world: the blocks are new and each its own. -/
def PartsOK (B : Nat) (w' : World) : List Nat → List RC → List Value → Prop
  | _, [], [] => True
  | used, .flat v :: r, x :: xs => x = v ∧ flatN 6 v = true ∧ PartsOK B w' used r xs
  | used, .sl c e sz len cap :: r, x :: xs => c.all (flatN 6) = true ∧ (∃ blk off extra, x = .slice (some ⟨blk, off, none⟩) len (cap + extra) ∧ B ≤ blk ∧ blk ∉ used ∧ BlkOK (fun _ => none) w' ⟨blk, off, extra⟩ (.cells c e sz true) ∧
      PartsOK B w' (blk :: used) r xs)
  | _, _, _ => False
def resVal (tup : Bool) (vs : List Value) : Value := if tup then .tuple vs.toArray else vs.headD undef
/-- What is claimed of a known result. -/
def SumOK (P : Program) (G : Globs) (N : Nat) (f : FuncId) (args : List Value) (r : Res) : Prop :=
  ∀ w, GlobOK G N w → N ≤ w.heap.size → Calls P f args.toArray w fun e w' => ∃ vs, e = .returned (resVal r.tup vs) ∧ Below w.heap.size w w' ∧ PartsOK w.heap.size w' [] r.parts vs
structure KnownOK (P : Program) (G : Globs) (N : Nat) (X : Known) : Prop where
  ext : ∀ f args v, X.ext f args = some v → allFlat args = true ∧ flatN 6 v = true ∧ ∀ w, (callFunc f args.toArray).run P w = .ok (.value v) w
  res : ∀ f args r, X.res f args = some r → allFlat args = true ∧ (∀ w, (callFunc f args.toArray).run P w = .ok (.enter f args.toArray) w) ∧ SumOK P G N f args r

theorem Inv.below (I : Inv G N ρ h w) {w' : World} (b : Below w.heap.size w w') : Inv G N ρ h w' := by
  have hb : ∀ k, k < w.heap.size → w'.heap[k]? = w.heap[k]? := b.block
  refine ⟨I.fresh, fun i c hg hc => ?_, I.inj, I.glob.frame I.big fun k hk => hb k (Nat.lt_of_lt_of_le hk I.big), Nat.le_trans I.big b.size⟩
  obtain ⟨p, h1, h2, h3⟩ := I.dom i c hg hc
  exact ⟨p, h1, h2, h3.mono (.refl _) (hb _ (h3.lt hc))⟩

/-- A block that lies there and is nobody's becomes one's own. -/
theorem Inv.claim (I : Inv G N ρ h w) {b : Blk} (hb : b ≠ .dead) {p : Place} (hN : N ≤ p.blk) (hno : ¬ Owned ρ h p.blk) (hok : BlkOK (ρ.upd h.n p) w p b) : Inv G N (ρ.upd h.n p) (h.push b) w := by
  have hn : ρ h.n = none := I.fresh _ (Nat.le_refl _)
  have he : Extends ρ (ρ.upd h.n p) := Ren.upd_ext hn
  have hcase : ∀ j c, (h.push b).get j = some c → c ≠ .dead → (j = h.n ∧ c = b) ∨ (j ≠ h.n ∧ h.get j = some c) := by
    intro j c hj _
    rw [Hp.get_push] at hj
    split at hj
    · rename_i e; exact .inl ⟨e, by simpa using hj.symm⟩
    · rename_i e; exact .inr ⟨e, hj⟩
  refine ⟨?_, ?_, ?_, I.glob, I.big⟩
  · intro j hj
    rw [Hp.push_n] at hj
    simp only [Ren.upd]
    rw [if_neg (by omega)]
    exact I.fresh j (by omega)
  · intro j c hj hc
    rcases hcase j c hj hc with ⟨rfl, rfl⟩ | ⟨_, hj'⟩
    · exact ⟨_, Ren.upd_at _ _ _, hN, hok⟩
    · obtain ⟨q, k1, k2, k3⟩ := I.dom j c hj' hc
      exact ⟨q, he _ _ k1, k2, k3.mono he rfl⟩
  · intro j k bj bk q r hj hbj hk hbk hq hr hqr
    rcases hcase j bj hj hbj with ⟨rfl, rfl⟩ | ⟨_, hj'⟩ <;> rcases hcase k bk hk hbk with ⟨rfl, rfl⟩ | ⟨_, hk'⟩
    · rfl
    · obtain ⟨r', m1, _, _⟩ := I.dom k bk hk' hbk
      rw [he _ _ m1] at hr; cases hr
      rw [Ren.upd_at] at hq; cases hq
      exact absurd ⟨k, bk, _, hk', hbk, m1, hqr.symm⟩ hno
    · obtain ⟨q', m1, _, _⟩ := I.dom j bj hj' hbj
      rw [he _ _ m1] at hq; cases hq
      rw [Ren.upd_at] at hr; cases hr
      exact absurd ⟨j, bj, _, hj', hbj, m1, hqr⟩ hno
    · obtain ⟨q', m1, _, _⟩ := I.dom j bj hj' hbj
      obtain ⟨r', m2, _, _⟩ := I.dom k bk hk' hbk
      rw [he _ _ m1] at hq; cases hq
      rw [he _ _ m2] at hr; cases hr
      exact I.inj j k bj bk _ _ hj' hbj hk' hbk m1 m2 hqr

theorem BlkOK.ren {ρ' : Ren} {p : Place} {c : List Value} {e sz : Nat} {g : Bool} (hc : c.all (flatN 6) = true) (hb : BlkOK ρ w p (.cells c e sz g)) : BlkOK ρ' w p (.cells c e sz true) := by
  obtain ⟨_, C, lo, hi, h1, h2, h3, h4⟩ := hb
  refine ⟨by simp, C, lo, hi, h1, h2, h3, fun j v hj => ?_⟩
  obtain ⟨v', k1, k2⟩ := h4 j v hj
  have hf := List.all_eq_true.1 hc v (List.mem_of_getElem? hj)
  have := k2.flat_eq hf
  subst this
  exact ⟨v', k1, .flat hf⟩

theorem giveK_ok {B : Nat} {w' : World} {K : List Value → Hp → Bool} : ∀ (parts : List RC) {acc acc' vs : List Value} {ρ : Ren} {h : Hp} {used : List Nat}, giveK h acc K parts = true → LR ρ acc acc' → Inv G N ρ h w' →
    (∀ k, Owned ρ h k → k < B ∨ k ∈ used) → N ≤ B → PartsOK B w' used parts vs →
    ∃ ρ' h' l, K l h' = true ∧ LR ρ' l (acc' ++ vs) ∧ Inv G N ρ' h' w' ∧ Extends ρ ρ' ∧ (∀ k, Owned ρ' h' k → Owned ρ h k ∨ B ≤ k) ∧ h.n ≤ h'.n ∧ (∀ i, i < h.n → ρ i = none → ρ' i = none) ∧ ∀ i, h.get i = some .dead → h'.get i = some .dead
  | [], acc, acc', vs, ρ, h, used, hk, hl, I, ho, hB, hp => by
    cases vs with
    | nil => exact ⟨ρ, h, acc, hk, by simpa using hl, I, .refl _, fun k hk => .inl hk, Nat.le_refl _, fun _ _ h => h, fun _ h => h⟩
    | cons x xs => exact hp.elim
  | .flat v :: r, acc, acc', vs, ρ, h, used, hk, hl, I, ho, hB, hp => by
    cases vs with
    | nil => exact hp.elim
    | cons x xs =>
      obtain ⟨rfl, h2, h3⟩ := hp
      simp only [giveK] at hk
      obtain ⟨ρ', h', l, k1, k2, k3, k4, k5⟩ := giveK_ok r hk (hl.append (LR.cons (.flat h2) (LR.nil _))) I ho hB h3
      exact ⟨ρ', h', l, k1, by simpa using k2, k3, k4, k5⟩
  | .sl c e sz len cap :: r, acc, acc', vs, ρ, h, used, hk, hl, I, ho, hB, hp => by
    cases vs with
    | nil => exact hp.elim
    | cons x xs =>
      obtain ⟨hf, blk, off, extra, rfl, h2, h3, h4, h5⟩ := hp
      simp only [giveK, Hp.pushK_eq] at hk
      have hno : ¬ Owned ρ h blk := fun hO => by
        rcases ho blk hO with hlt | hm
        · omega
        · exact h3 hm
      have he := Ren.upd_ext (ρ := ρ) (i := h.n) (p := ⟨blk, off, extra⟩) (I.fresh _ (Nat.le_refl _))
      have I2 := I.claim (b := .cells c e sz true) (by simp) (p := ⟨blk, off, extra⟩) (by simp only; omega) hno (h4.ren hf)
      have hown : ∀ k, Owned (ρ.upd h.n ⟨blk, off, extra⟩) (h.push (.cells c e sz true)) k → Owned ρ h k ∨ k = blk := by
        rintro k ⟨j, b, q, hj, hb, hq, rfl⟩
        rw [Hp.get_push] at hj
        split at hj
        · rename_i e; subst e; rw [Ren.upd_at] at hq; cases hq; exact .inr rfl
        · rename_i e
          obtain ⟨q', m1, _, _⟩ := I.dom j b hj hb
          rw [he _ _ m1] at hq; cases hq
          exact .inl ⟨j, b, _, hj, hb, m1, rfl⟩
      obtain ⟨ρ', h', l, k1, k2, k3, k4, k5⟩ := giveK_ok r hk ((hl.mono he).append (LR.cons (newSlice_ok ⟨blk, off, extra⟩ len cap) (LR.nil _))) I2 (used := blk :: used) (fun k hO => by
        rcases hown k hO with hO | rfl
        · exact (ho k hO).imp id (List.mem_cons_of_mem _)
        · exact .inr (by simp)) hB h5
      refine ⟨ρ', h', l, k1, by simpa using k2, k3, he.trans k4, fun k hO => ?_, Nat.le_trans (by rw [Hp.push_n]; omega) k5.2.1, fun i hi hn => k5.2.2.1 i (by rw [Hp.push_n]; omega) (by simp only [Ren.upd]; rw [if_neg (by omega)]; exact hn), fun i hi => k5.2.2.2 i (by rw [Hp.get_push, if_neg (by have := Hp.get_lt hi; omega)]; exact hi)⟩
      rcases k5.1 k hO with hO | hO
      · rcases hown k hO with hO | rfl
        · exact .inl hO
        · exact .inr h2
      · exact .inr hO

theorem run_enter {f : FuncId} {args : Array Value} {fn : Func} {c : Code} (hf : P.funcs[f]? = some fn) (hb : fn.body = some c) (hn : (fn.name == "runtime.NumGoroutine") = false) (w : World) :
    (callFunc f args).run P w = .ok (.enter f args) w := by
  unfold callFunc
  simp only [Sem.run_bind, run_program, Result.andThen_ok, hf, hn, hb, Option.isNone_some, Bool.false_eq_true, if_false, Sem.run_pure]

/-- What is asked of a program, once. -/
structure ProgOK (P : Program) : Prop where
  mixed : P.follows .mixedOrders = true
  names : ∀ (f : Nat) fn, P.funcs[f]? = some fn → (fn.name == "runtime.NumGoroutine") = false
  code : ∀ (f : Nat) fn c, P.funcs[f]? = some fn → fn.body = some c → okCode okDraw c = true

theorem flat_args {args : List Value} {args' : Array Value} (hf : allFlat args = true) (hl : LR ρ args args'.toList) : args' = args.toArray := by
  have : args'.toList = args := by
    apply List.ext_getElem?
    intro i
    cases ha : args[i]? with
    | none =>
      have : args.length ≤ i := by simpa using ha
      rw [List.getElem?_eq_none (by rw [← hl.1]; exact this)]
    | some v =>
      obtain ⟨v', h1, h2⟩ := hl.get ha
      rw [h1, h2.flat_eq (allFlat_mem hf v (List.mem_of_getElem? ha))]
  rw [← this]

theorem enterK_ok (hP : ProgOK P) {X : Known} (hX : KnownOK P G N X) {k : Nat} {run : Code → TM → Hp → PostK → Bool} (C : CodeSound P G N okDraw k run) : CallSound P G N (enterK P G X run) := by
  intro f args h K hk ρ w args' I hl
  unfold enterK at hk
  split at hk
  · rename_i r hr
    obtain ⟨hf, hent, hsum⟩ := hX.res f args r hr
    have := flat_args hf hl
    subst this
    rw [hent w]
    refine (hsum w I.glob I.big).mono ?_
    rintro e w' ⟨vs, rfl, hb, hp⟩
    refine ⟨_, rfl, ?_⟩
    have hO : ∀ k, Owned ρ h k → k < w.heap.size ∨ k ∈ ([] : List Nat) := by
      rintro k ⟨i, b, p, h1, h2, h3, rfl⟩
      obtain ⟨p', m1, _, m3⟩ := I.dom i b h1 h2
      rw [h3] at m1; cases m1
      exact .inl (m3.lt h2)
    obtain ⟨ρ', h', l, k1, k2, k3, k4, k5⟩ := giveK_ok r.parts hk (LR.nil _) (I.below hb) hO I.big hp
    simp only [List.nil_append] at k2
    have E : Ext ρ h w ρ' h' w' := ⟨k4, hb.os, hb.tape, hb.output, hb.size, fun k hk _ => hb.block k hk, k5.1, k5.2.1, k5.2.2.1, k5.2.2.2⟩
    split at k1
    · rename_i l2 htup
      exact ⟨ρ', h', _, k1, by rw [resVal, htup]; exact VR.tuple_mk k2, k3, E⟩
    · rename_i l2 v htup
      obtain ⟨v', t, e, q1, q2⟩ := k2.cons_inv
      subst e
      exact ⟨ρ', h', _, k1, by rw [resVal, htup]; exact q1, k3, E⟩
    · cases k1
  · split at hk
    · rename_i fn hfn
      split at hk
      · rename_i c hb
        split at hk
        · rename_i hle
          rw [fNat_eq] at hk
          have hle := ble_true.1 hle
          rw [run_enter hfn hb (hP.names f fn hfn) w]
          refine calls_of_wp hfn hb (wp_mono (C.code c _ h _ (hP.code f fn c hfn hb) hk ρ _ w I (mkTM_ok hl hle)) ?_)
          rintro e a' w' ⟨ρ', tm', h', k1, k2, k3, k4⟩
          obtain ⟨he, v, v', q1, q2, q3⟩ := endK_ok (P := P) k1 k2 k3
          rcases he with rfl | rfl
          · exact ⟨k3.defers, v', q3, v', rfl, ρ', h', v, q1, q2, k2, k4⟩
          · exact ⟨k3.defers, v', q3, v', rfl, ρ', h', v, q1, q2, k2, k4⟩
        · cases hk
      · split at hk
        · rename_i v hv
          obtain ⟨hf, hfv, hrun⟩ := hX.ext f args v hv
          have := flat_args hf hl
          subst this
          rw [hrun w]
          exact ⟨ρ, h, v, hk, .flat hfv, I, .refl _ _ _⟩
        · cases hk
    · cases hk

theorem runC_ok (hP : ProgOK P) {X : Known} (hX : KnownOK P G N X) : ∀ n, CodeSound P G N okDraw n (runC P G X n)
  | 0 => ⟨fun c tm h Q _ hs => by simp [runC] at hs, fun b tm h Q _ hs => by simp [runC] at hs⟩
  | n + 1 => stepK_ok (enterK_ok hP hX (runC_ok hP hX n)) (fun ops hok => draw_ok (enterK_ok hP hX (runC_ok hP hX n)) hP.mixed hok) (runC_ok hP hX n)

def emptyRen : Ren := fun _ => none
theorem Inv.start (hg : GlobOK G N w) (hN : N ≤ w.heap.size) : Inv G N emptyRen ⟨0, []⟩ w :=
  ⟨fun _ _ => rfl, fun i b hg _ => by simp [Hp.get, findB] at hg, fun i j bi bj p q hg _ => by simp [Hp.get, findB] at hg, hg, hN⟩

/-- THE WHOLE: what the kernel has computed of a call, every call comes to. -/
theorem runF_ok (hP : ProgOK P) {X : Known} (hX : KnownOK P G N X) {n : Nat} {f : FuncId} {args : List Value} {K : Value → Hp → Bool} (hr : runF P G X n f args K = true) (hf : allFlat args = true) (hg : GlobOK G N w) (hN : N ≤ w.heap.size) :
    Calls P f args.toArray w fun e w' => ∃ ρ h v v', e = .returned v' ∧ K v h = true ∧ VR ρ v v' ∧ Inv G N ρ h w' ∧ Ext emptyRen ⟨0, []⟩ w ρ h w' := by
  unfold runF at hr
  split at hr
  · rename_i fn hfn
    split at hr
    · rename_i c hb
      split at hr
      · rename_i hle
        have hle := ble_true.1 hle
        have hl : LR emptyRen args args.toArray.toList := by
          refine ⟨by simp, fun i a b ha hb => ?_⟩
          rw [ha] at hb; cases hb
          exact .flat (allFlat_mem hf _ (List.mem_of_getElem? ha))
        refine calls_of_wp hfn hb (wp_mono ((runC_ok hP hX n).code c _ _ _ (hP.code f fn c hfn hb) hr emptyRen _ w (Inv.start hg hN) (mkTM_ok hl hle)) ?_)
        rintro e a' w' ⟨ρ', tm', h', k1, k2, k3, k4⟩
        obtain ⟨he, v, v', q1, q2, q3⟩ := endK_ok (P := P) k1 k2 k3
        rcases he with rfl | rfl
        · exact ⟨k3.defers, v', q3, ρ', h', v, v', rfl, q1, q2, k2, k4⟩
        · exact ⟨k3.defers, v', q3, ρ', h', v, v', rfl, q1, q2, k2, k4⟩
      · cases hr
    · cases hr
  · cases hr

/-! from a run to a known result -/
def matchParts (h : Hp) : List Nat → List RC → List Value → Bool
  | _, [], [] => true
  | used, .flat v :: r, x :: xs => flatN 6 v && eqV v x && matchParts h used r xs
  | used, .sl c e sz len cap :: r, .slice (some ⟨b, 0, none⟩) l k :: xs => match Nat.blt b base, h.get (b - base) with
    | false, some (.cells c' e' sz' _) => c.all (flatN 6) && eqFL c c' && Nat.beq e e' && Nat.beq sz sz' && Nat.beq len l && Nat.beq cap k && !(used.contains b) && matchParts h (b :: used) r xs
    | _, _ => false
  | _, _, _ => false
def isRes (r : Res) (v : Value) (h : Hp) : Bool :=
  match r.tup, v with
  | true, .tuple vs => matchParts h [] r.parts vs.toList
  | false, v => match r.parts with | [_] => matchParts h [] r.parts [v] | _ => false
  | _, _ => false

theorem matchParts_ok {w' : World} {B : Nat} (I : Inv G N ρ h w') (hB : ∀ k, Owned ρ h k → B ≤ k) : ∀ (parts : List RC) {vs vs' : List Value} {used : List Nat} {used' : List Nat}, matchParts h used parts vs = true → LR ρ vs vs' →
    (∀ k ∈ used', ∃ b ∈ used, ∃ p, base ≤ b ∧ (∃ bl, h.get (b - base) = some bl ∧ bl ≠ .dead) ∧ ρ (b - base) = some p ∧ p.blk = k) → PartsOK B w' used' parts vs'
  | [], vs, vs', used, used', hm, hl, hu => by
    cases vs with
    | nil => rw [hl.nil_inv]; trivial
    | cons x xs => simp [matchParts] at hm
  | .flat v :: r, vs, vs', used, used', hm, hl, hu => by
    cases vs with
    | nil => simp [matchParts] at hm
    | cons x xs =>
      simp only [matchParts, Bool.and_eq_true] at hm
      obtain ⟨⟨h1, h2⟩, h3⟩ := hm
      obtain ⟨x', t, rfl, q1, q2⟩ := hl.cons_inv
      have := eqV_eq _ _ h2
      subst this
      exact ⟨q1.flat_eq h1, h1, matchParts_ok I hB r h3 q2 hu⟩
  | .sl c e sz len cap :: r, vs, vs', used, used', hm, hl, hu => by
    unfold matchParts at hm
    split at hm
    · rename_i heq; cases heq
    · rename_i heq; cases heq
    · rename_i b l k xs heq
      cases heq
      split at hm
      · rename_i c' e' sz' g hblk hget
        simp only [Bool.and_eq_true] at hm
        obtain ⟨⟨⟨⟨⟨⟨⟨h1, h2⟩, h3⟩, h4⟩, h5⟩, h6⟩, h7⟩, h8⟩ := hm
        have e1 := eqFL_eq _ _ h2
        have e2 := beq_true.1 h3
        have e3 := beq_true.1 h4
        have e4 := beq_true.1 h5
        have e5 := beq_true.1 h6
        subst e1; subst e2; subst e3; subst e4; subst e5
        obtain ⟨x', t, rfl, q1, q2⟩ := hl.cons_inv
        have g1 := blt_false.1 hblk
        rcases q1.slice_inv with ⟨q, _⟩ | ⟨_, p, m1, m2⟩
        · simp at q; omega
        · simp only at m1 m2
          subst m2
          obtain ⟨p', hp', _, hok⟩ := I.dom _ _ hget (by simp)
          rw [m1] at hp'; cases hp'
          refine ⟨h1, p.blk, p.off + 0, p.extra, rfl, hB _ ⟨b - base, _, p, hget, by simp, m1, rfl⟩, ?_, hok.ren h1, matchParts_ok I hB r h8 q2 ?_⟩
          · intro hin
            obtain ⟨b2, hb2, p2, z1, ⟨bl, z2, z3⟩, z4, z5⟩ := hu p.blk hin
            have := I.inj (b2 - base) (b - base) bl _ p2 p z2 z3 hget (by simp) z4 m1 z5
            have hbb : b2 = b := by omega
            subst hbb
            simp at h7
            exact h7 hb2
          · intro k hk
            rcases List.mem_cons.1 hk with rfl | hk
            · exact ⟨b, by simp, p, g1, ⟨_, hget, by simp⟩, m1, rfl⟩
            · obtain ⟨b2, hb2, rest⟩ := hu k hk; exact ⟨b2, by simp [hb2], rest⟩
      · cases hm
    · cases hm

theorem Ext.below {w' : World} (E : Ext emptyRen ⟨0, []⟩ w ρ h w') : Below w.heap.size w w' :=
  ⟨E.os, E.tape, E.output, E.size, fun k hk => E.frame k hk (by rintro ⟨i, b, p, h1, _⟩; simp [Hp.get, findB] at h1)⟩
theorem Ext.new {w' : World} (E : Ext emptyRen ⟨0, []⟩ w ρ h w') : ∀ k, Owned ρ h k → w.heap.size ≤ k := fun k hO => (E.own k hO).elim (by rintro ⟨i, b, p, h1, _⟩; simp [Hp.get, findB] at h1) id

/-- A run that ends in a known result proves it. -/
theorem sum_of_run (hP : ProgOK P) {X : Known} (hX : KnownOK P G N X) {n : Nat} {f : FuncId} {args : List Value} {r : Res} (hr : runF P G X n f args (isRes r) = true) (hf : allFlat args = true) : SumOK P G N f args r := by
  intro w hg hN
  refine (runF_ok hP hX hr hf hg hN).mono ?_
  rintro e w' ⟨ρ, h, v, v', rfl, hK, hv, I, E⟩
  unfold isRes at hK
  split at hK
  · rename_i vs htup
    obtain ⟨vs', rfl, hl⟩ := hv.tuple_inv
    exact ⟨vs'.toList, by rw [resVal, htup]; simp, E.below, matchParts_ok I E.new _ hK hl (by simp)⟩
  · rename_i htup
    split at hK
    · rename_i p hp
      exact ⟨[v'], by rw [resVal, htup]; simp, E.below, matchParts_ok I E.new _ hK (LR.cons hv (LR.nil _)) (by simp)⟩
    · cases hK
  · cases hK
end
end Go.CRun
namespace Go.CRun
open Go Go.RowKit

/-- a library function without a body, its arguments, its value -/
abbrev EL := Nat × List Value × Value
noncomputable def findExt (f : Nat) (args : List Value) : List EL → Option Value
  | [] => none
  | e :: r => match Nat.beq e.1 f, eqAL e.2.1 args with | true, true => some e.2.2 | _, _ => findExt f args r
structure KR where
  f : Nat
  args : List Value
  res : Res
noncomputable def findRes (f : Nat) (args : List Value) : List KR → Option Res
  | [] => none
  | e :: r => match Nat.beq e.f f, eqAL e.args args with | true, true => some e.res | _, _ => findRes f args r
noncomputable def tabs (E : List EL) (R : List KR) : Known := ⟨fun f a => findExt f a E, fun f a => findRes f a R⟩

theorem findExt_mem {f : Nat} {args : List Value} {v : Value} : ∀ {T : List EL}, findExt f args T = some v → (f, args, v) ∈ T
  | [], h => by simp [findExt] at h
  | (g, a, x) :: r, h => by
    unfold findExt at h
    split at h
    · rename_i h1 h2
      cases beq_true.1 h1
      cases eqAL_eq _ _ h2
      cases h
      exact List.mem_cons_self
    · exact List.mem_cons_of_mem _ (findExt_mem h)
theorem findRes_mem {f : Nat} {args : List Value} {v : Res} : ∀ {T : List KR}, findRes f args T = some v → ⟨f, args, v⟩ ∈ T
  | [], h => by simp [findRes] at h
  | ⟨g, a, x⟩ :: r, h => by
    unfold findRes at h
    split at h
    · rename_i h1 h2
      cases beq_true.1 h1
      cases eqAL_eq _ _ h2
      cases h
      exact List.mem_cons_self
    · exact List.mem_cons_of_mem _ (findRes_mem h)

def extOK (P : Program) (T : List EL) : Bool :=
  T.all fun e => allFlat e.2.1 && flatN 6 e.2.2 && (match pureOf P (callFunc e.1 e.2.1.toArray) with | some (.value v) => eqV v e.2.2 | _ => false)

structure LineOK (P : Program) (G : Globs) (N : Nat) (k : KR) : Prop where
  flat : allFlat k.args = true
  enter : ∃ fn c, P.funcs[k.f]? = some fn ∧ fn.body = some c
  sum : SumOK P G N k.f k.args k.res

theorem knownOK_of {P : Program} {G : Globs} {N : Nat} (hP : ProgOK P) {E : List EL} {R : List KR} (hE : extOK P E = true) (hR : ∀ k ∈ R, LineOK P G N k) : KnownOK P G N (tabs E R) := by
  constructor
  · intro f args v hv
    have hm := findExt_mem hv
    have := List.all_eq_true.1 hE _ hm
    simp only [Bool.and_eq_true] at this
    obtain ⟨⟨h1, h2⟩, h3⟩ := this
    refine ⟨h1, h2, fun w => ?_⟩
    split at h3
    · rename_i v' hp
      have := eqV_eq _ _ h3
      subst this
      exact pureOf_run hp w
    · cases h3
  · intro f args r hr
    obtain ⟨h1, ⟨fn, c, h2, h3⟩, h4⟩ := hR _ (findRes_mem hr)
    exact ⟨h1, run_enter h2 h3 (hP.names _ _ h2), h4⟩

theorem enter_of_run {P : Program} {G : Globs} {X : Known} {n : Nat} {f : FuncId} {args : List Value} {K : Value → Hp → Bool} (hr : runF P G X n f args K = true) : ∃ fn c, P.funcs[f]? = some fn ∧ fn.body = some c := by
  unfold runF at hr
  split at hr
  · rename_i fn hfn
    split at hr
    · rename_i c hb; exact ⟨fn, c, hfn, hb⟩
    · cases hr
  · cases hr

theorem line_of_run {P : Program} {G : Globs} {N : Nat} (hP : ProgOK P) {X : Known} (hX : KnownOK P G N X) {n : Nat} {k : KR} (hr : runF P G X n k.f k.args (isRes k.res) = true) (hf : allFlat k.args = true) : LineOK P G N k :=
  ⟨hf, enter_of_run hr, sum_of_run hP hX hr hf⟩

def namesOK (P : Program) : Bool := P.funcs.toList.all fun fn => !(fn.name == "runtime.NumGoroutine")
def codesOK (P : Program) : Bool := P.funcs.toList.all fun fn => match fn.body with | some c => okCode okDraw c | none => true
theorem progOK_of {P : Program} (h1 : namesOK P = true) (h2 : P.follows .mixedOrders = true) (h3 : codesOK P = true) : ProgOK P := by
  have mem : ∀ (f : Nat) fn, P.funcs[f]? = some fn → fn ∈ P.funcs.toList := fun f fn h => by
    rw [← Array.getElem?_toList] at h; exact List.mem_of_getElem? h
  refine ⟨h2, fun f fn h => ?_, fun f fn c h hb => ?_⟩
  · have := List.all_eq_true.1 h1 _ (mem f fn h)
    simpa using this
  · have := List.all_eq_true.1 h3 _ (mem f fn h)
    rw [hb] at this; exact this

/-- A run that answers true: so does every call. -/
theorem true_of_sum {P : Program} {G : Globs} {N : Nat} {f : FuncId} (h : SumOK P G N f [] ⟨false, [.flat (.bool true)]⟩) {w : World} (hg : GlobOK G N w) (hN : N ≤ w.heap.size) :
    Calls P f #[] w fun e w' => e = .returned (.bool true) ∧ Below w.heap.size w w' := by
  refine (h w hg hN).mono ?_
  rintro e w' ⟨vs, rfl, hb, hp⟩
  refine ⟨?_, hb⟩
  cases vs with
  | nil => exact hp.elim
  | cons x xs => obtain ⟨rfl, _, _⟩ := hp; rfl
end Go.CRun
