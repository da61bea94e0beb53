/-
  CRUN, part Q: functions, known results, and the whole: what the kernel has computed is what every call comes to.
-/
import Derived.Test.YtioaaigbpfdjmaaDoorRunP
set_option linter.unusedSimpArgs false
set_option linter.unusedVariables false
namespace Go.CRun
open Go Go.RowKit
section
variable {P : Program} {G : Globs} {N : Nat} {ρ : Ren} {h : Hp} {w : World}

/-- The parts of a known result, as they lie in a world: the blocks are new and each its own. -/
def PartsOK (B : Nat) (w' : World) : List Nat → List RC → List Value → Prop
  | _, [], [] => True
  | used, .flat v :: r, x :: xs => x = v ∧ flatN 6 v = true ∧ PartsOK B w' used r xs
  | used, .sl c e sz len cap :: r, x :: xs => c.all (flatN 6) = true ∧ (∃ blk off extra, x = .slice (some ⟨blk, off, none⟩) len (cap + extra) ∧ B ≤ blk ∧ blk ∉ used ∧ BlkOK (fun _ => none) w' ⟨blk, off, extra⟩ (.cells c e sz true) ∧
      PartsOK B w' (blk :: used) r xs)
  | _, _, _ => False
def resVal (tup : Bool) (vs : List Value) : Value := if tup then .tuple vs.toArray else vs.headD undef
/-- What is claimed of a known result. -/
def SumOK (P : Program) (G : Globs) (N : Nat) (f : FuncId) (args : List Value) (r : Res) : Prop :=
  ∀ w, GlobOK G N w → N ≤ w.heap.size → Calls P f args.toArray w fun e w' => ∃ vs, e = .returned (resVal r.tup vs) ∧ Below w.heap.size w w' ∧ PartsOK w.heap.size w' [] r.parts vs
structure KnownOK (P : Program) (G : Globs) (N : Nat) (X : Known) : Prop where
  ext : ∀ f args v, X.ext f args = some v → allFlat args = true ∧ flatN 6 v = true ∧ ∀ w, (callFunc f args.toArray).run P w = .ok (.value v) w
  res : ∀ f args r, X.res f args = some r → allFlat args = true ∧ (∀ w, (callFunc f args.toArray).run P w = .ok (.enter f args.toArray) w) ∧ SumOK P G N f args r

theorem Inv.below (I : Inv G N ρ h w) {w' : World} (b : Below w.heap.size w w') : Inv G N ρ h w' := by
  have hb : ∀ k, k < w.heap.size → w'.heap[k]? = w.heap[k]? := b.block
  refine ⟨I.fresh, fun i c hg hc => ?_, I.inj, I.glob.frame I.big fun k hk => hb k (Nat.lt_of_lt_of_le hk I.big), Nat.le_trans I.big b.size⟩
  obtain ⟨p, h1, h2, h3⟩ := I.dom i c hg hc
  exact ⟨p, h1, h2, h3.mono (.refl _) (hb _ (h3.lt hc))⟩

/-- A block that lies there and is nobody's becomes one's own. -/
theorem Inv.claim (I : Inv G N ρ h w) {b : Blk} (hb : b ≠ .dead) {p : Place} (hN : N ≤ p.blk) (hno : ¬ Owned ρ h p.blk) (hok : BlkOK (ρ.upd h.n p) w p b) : Inv G N (ρ.upd h.n p) (h.push b) w := by
  have hn : ρ h.n = none := I.fresh _ (Nat.le_refl _)
  have he : Extends ρ (ρ.upd h.n p) := Ren.upd_ext hn
  have hcase : ∀ j c, (h.push b).get j = some c → c ≠ .dead → (j = h.n ∧ c = b) ∨ (j ≠ h.n ∧ h.get j = some c) := by
    intro j c hj _
    rw [Hp.get_push] at hj
    split at hj
    · rename_i e; exact .inl ⟨e, by simpa using hj.symm⟩
    · rename_i e; exact .inr ⟨e, hj⟩
  refine ⟨?_, ?_, ?_, I.glob, I.big⟩
  · intro j hj
    rw [Hp.push_n] at hj
    simp only [Ren.upd]
    rw [if_neg (by omega)]
    exact I.fresh j (by omega)
  · intro j c hj hc
    rcases hcase j c hj hc with ⟨rfl, rfl⟩ | ⟨_, hj'⟩
    · exact ⟨_, Ren.upd_at _ _ _, hN, hok⟩
    · obtain ⟨q, k1, k2, k3⟩ := I.dom j c hj' hc
      exact ⟨q, he _ _ k1, k2, k3.mono he rfl⟩
  · intro j k bj bk q r hj hbj hk hbk hq hr hqr
    rcases hcase j bj hj hbj with ⟨rfl, rfl⟩ | ⟨_, hj'⟩ <;> rcases hcase k bk hk hbk with ⟨rfl, rfl⟩ | ⟨_, hk'⟩
    · rfl
    · obtain ⟨r', m1, _, _⟩ := I.dom k bk hk' hbk
      rw [he _ _ m1] at hr; cases hr
      rw [Ren.upd_at] at hq; cases hq
      exact absurd ⟨k, bk, _, hk', hbk, m1, hqr.symm⟩ hno
    · obtain ⟨q', m1, _, _⟩ := I.dom j bj hj' hbj
      rw [he _ _ m1] at hq; cases hq
      rw [Ren.upd_at] at hr; cases hr
      exact absurd ⟨j, bj, _, hj', hbj, m1, hqr⟩ hno
    · obtain ⟨q', m1, _, _⟩ := I.dom j bj hj' hbj
      obtain ⟨r', m2, _, _⟩ := I.dom k bk hk' hbk
      rw [he _ _ m1] at hq; cases hq
      rw [he _ _ m2] at hr; cases hr
      exact I.inj j k bj bk _ _ hj' hbj hk' hbk m1 m2 hqr

theorem BlkOK.ren {ρ' : Ren} {p : Place} {c : List Value} {e sz : Nat} {g : Bool} (hc : c.all (flatN 6) = true) (hb : BlkOK ρ w p (.cells c e sz g)) : BlkOK ρ' w p (.cells c e sz true) := by
  obtain ⟨_, C, lo, hi, h1, h2, h3, h4⟩ := hb
  refine ⟨by simp, C, lo, hi, h1, h2, h3, fun j v hj => ?_⟩
  obtain ⟨v', k1, k2⟩ := h4 j v hj
  have hf := List.all_eq_true.1 hc v (List.mem_of_getElem? hj)
  have := k2.flat_eq hf
  subst this
  exact ⟨v', k1, .flat hf⟩

theorem giveK_ok {B : Nat} {w' : World} {K : List Value → Hp → Bool} : ∀ (parts : List RC) {acc acc' vs : List Value} {ρ : Ren} {h : Hp} {used : List Nat}, giveK h acc K parts = true → LR ρ acc acc' → Inv G N ρ h w' →
    (∀ k, Owned ρ h k → k < B ∨ k ∈ used) → N ≤ B → PartsOK B w' used parts vs →
    ∃ ρ' h' l, K l h' = true ∧ LR ρ' l (acc' ++ vs) ∧ Inv G N ρ' h' w' ∧ Extends ρ ρ' ∧ ∀ k, Owned ρ' h' k → Owned ρ h k ∨ B ≤ k
  | [], acc, acc', vs, ρ, h, used, hk, hl, I, ho, hB, hp => by
    cases vs with
    | nil => exact ⟨ρ, h, acc, hk, by simpa using hl, I, .refl _, fun k hk => .inl hk⟩
    | cons x xs => exact hp.elim
  | .flat v :: r, acc, acc', vs, ρ, h, used, hk, hl, I, ho, hB, hp => by
    cases vs with
    | nil => exact hp.elim
    | cons x xs =>
      obtain ⟨rfl, h2, h3⟩ := hp
      simp only [giveK] at hk
      obtain ⟨ρ', h', l, k1, k2, k3, k4, k5⟩ := giveK_ok r hk (hl.append (LR.cons (.flat h2) (LR.nil _))) I ho hB h3
      exact ⟨ρ', h', l, k1, by simpa using k2, k3, k4, k5⟩
  | .sl c e sz len cap :: r, acc, acc', vs, ρ, h, used, hk, hl, I, ho, hB, hp => by
    cases vs with
    | nil => exact hp.elim
    | cons x xs =>
      obtain ⟨hf, blk, off, extra, rfl, h2, h3, h4, h5⟩ := hp
      simp only [giveK, Hp.pushK_eq] at hk
      have hno : ¬ Owned ρ h blk := fun hO => by
        rcases ho blk hO with hlt | hm
        · omega
        · exact h3 hm
      have he := Ren.upd_ext (ρ := ρ) (i := h.n) (p := ⟨blk, off, extra⟩) (I.fresh _ (Nat.le_refl _))
      have I2 := I.claim (b := .cells c e sz true) (by simp) (p := ⟨blk, off, extra⟩) (by simp only; omega) hno (h4.ren hf)
      have hown : ∀ k, Owned (ρ.upd h.n ⟨blk, off, extra⟩) (h.push (.cells c e sz true)) k → Owned ρ h k ∨ k = blk := by
        rintro k ⟨j, b, q, hj, hb, hq, rfl⟩
        rw [Hp.get_push] at hj
        split at hj
        · rename_i e; subst e; rw [Ren.upd_at] at hq; cases hq; exact .inr rfl
        · rename_i e
          obtain ⟨q', m1, _, _⟩ := I.dom j b hj hb
          rw [he _ _ m1] at hq; cases hq
          exact .inl ⟨j, b, _, hj, hb, m1, rfl⟩
      obtain ⟨ρ', h', l, k1, k2, k3, k4, k5⟩ := giveK_ok r hk ((hl.mono he).append (LR.cons (newSlice_ok ⟨blk, off, extra⟩ len cap) (LR.nil _))) I2 (used := blk :: used) (fun k hO => by
        rcases hown k hO with hO | rfl
        · exact (ho k hO).imp id (List.mem_cons_of_mem _)
        · exact .inr (by simp)) hB h5
      refine ⟨ρ', h', l, k1, by simpa using k2, k3, he.trans k4, fun k hO => ?_⟩
      rcases k5 k hO with hO | hO
      · rcases hown k hO with hO | rfl
        · exact .inl hO
        · exact .inr h2
      · exact .inr hO

theorem run_enter {f : FuncId} {args : Array Value} {fn : Func} {c : Code} (hf : P.funcs[f]? = some fn) (hb : fn.body = some c) (hn : (fn.name == "runtime.NumGoroutine") = false) (w : World) :
    (callFunc f args).run P w = .ok (.enter f args) w := by
  unfold callFunc
  simp only [Sem.run_bind, run_program, Result.andThen_ok, hf, hn, hb, Option.isNone_some, Bool.false_eq_true, if_false, Sem.run_pure]

/-- What is asked of a program, once. -/
structure ProgOK (P : Program) : Prop where
  mixed : P.follows .mixedOrders = true
  names : ∀ (f : Nat) fn, P.funcs[f]? = some fn → (fn.name == "runtime.NumGoroutine") = false
  code : ∀ (f : Nat) fn c, P.funcs[f]? = some fn → fn.body = some c → okCode okDraw c = true

theorem flat_args {args : List Value} {args' : Array Value} (hf : allFlat args = true) (hl : LR ρ args args'.toList) : args' = args.toArray := by
  have : args'.toList = args := by
    apply List.ext_getElem?
    intro i
    cases ha : args[i]? with
    | none =>
      have : args.length ≤ i := by simpa using ha
      rw [List.getElem?_eq_none (by rw [← hl.1]; exact this)]
    | some v =>
      obtain ⟨v', h1, h2⟩ := hl.get ha
      rw [h1, h2.flat_eq (allFlat_mem hf v (List.mem_of_getElem? ha))]
  rw [← this]

theorem enterK_ok (hP : ProgOK P) {X : Known} (hX : KnownOK P G N X) {k : Nat} {run : Code → TM → Hp → PostK → Bool} (C : CodeSound P G N okDraw k run) : CallSound P G N (enterK P G X run) := by
  intro f args h K hk ρ w args' I hl
  unfold enterK at hk
  split at hk
  · rename_i r hr
    obtain ⟨hf, hent, hsum⟩ := hX.res f args r hr
    have := flat_args hf hl
    subst this
    rw [hent w]
    refine (hsum w I.glob I.big).mono ?_
    rintro e w' ⟨vs, rfl, hb, hp⟩
    refine ⟨_, rfl, ?_⟩
    have hO : ∀ k, Owned ρ h k → k < w.heap.size ∨ k ∈ ([] : List Nat) := by
      rintro k ⟨i, b, p, h1, h2, h3, rfl⟩
      obtain ⟨p', m1, _, m3⟩ := I.dom i b h1 h2
      rw [h3] at m1; cases m1
      exact .inl (m3.lt h2)
    obtain ⟨ρ', h', l, k1, k2, k3, k4, k5⟩ := giveK_ok r.parts hk (LR.nil _) (I.below hb) hO I.big hp
    simp only [List.nil_append] at k2
    have E : Ext ρ h w ρ' h' w' := ⟨k4, hb.os, hb.tape, hb.output, hb.size, fun k hk _ => hb.block k hk, k5⟩
    split at k1
    · rename_i l2 htup
      exact ⟨ρ', h', _, k1, by rw [resVal, htup]; exact VR.tuple_mk k2, k3, E⟩
    · rename_i l2 v htup
      obtain ⟨v', t, e, q1, q2⟩ := k2.cons_inv
      subst e
      exact ⟨ρ', h', _, k1, by rw [resVal, htup]; exact q1, k3, E⟩
    · cases k1
  · split at hk
    · rename_i fn hfn
      split at hk
      · rename_i c hb
        split at hk
        · rename_i hle
          rw [fNat_eq] at hk
          have hle := ble_true.1 hle
          rw [run_enter hfn hb (hP.names f fn hfn) w]
          refine calls_of_wp hfn hb (wp_mono (C.code c _ h _ (hP.code f fn c hfn hb) hk ρ _ w I (mkTM_ok hl hle)) ?_)
          rintro e a' w' ⟨ρ', tm', h', k1, k2, k3, k4⟩
          obtain ⟨he, v, v', q1, q2, q3⟩ := endK_ok (P := P) k1 k2 k3
          rcases he with rfl | rfl
          · exact ⟨k3.defers, v', q3, v', rfl, ρ', h', v, q1, q2, k2, k4⟩
          · exact ⟨k3.defers, v', q3, v', rfl, ρ', h', v, q1, q2, k2, k4⟩
        · cases hk
      · split at hk
        · rename_i v hv
          obtain ⟨hf, hfv, hrun⟩ := hX.ext f args v hv
          have := flat_args hf hl
          subst this
          rw [hrun w]
          exact ⟨ρ, h, v, hk, .flat hfv, I, .refl _ _ _⟩
        · cases hk
    · cases hk

theorem runC_ok (hP : ProgOK P) {X : Known} (hX : KnownOK P G N X) : ∀ n, CodeSound P G N okDraw n (runC P G X n)
  | 0 => ⟨fun c tm h Q _ hs => by simp [runC] at hs, fun b tm h Q _ hs => by simp [runC] at hs⟩
  | n + 1 => stepK_ok (enterK_ok hP hX (runC_ok hP hX n)) (fun ops hok => draw_ok (enterK_ok hP hX (runC_ok hP hX n)) hP.mixed hok) (runC_ok hP hX n)

def emptyRen : Ren := fun _ => none
theorem Inv.start (hg : GlobOK G N w) (hN : N ≤ w.heap.size) : Inv G N emptyRen ⟨0, []⟩ w :=
  ⟨fun _ _ => rfl, fun i b hg _ => by simp [Hp.get, findB] at hg, fun i j bi bj p q hg _ => by simp [Hp.get, findB] at hg, hg, hN⟩

/-- THE WHOLE: what the kernel has computed of a call, every call comes to. -/
theorem runF_ok (hP : ProgOK P) {X : Known} (hX : KnownOK P G N X) {n : Nat} {f : FuncId} {args : List Value} {K : Value → Hp → Bool} (hr : runF P G X n f args K = true) (hf : allFlat args = true) (hg : GlobOK G N w) (hN : N ≤ w.heap.size) :
    Calls P f args.toArray w fun e w' => ∃ ρ h v v', e = .returned v' ∧ K v h = true ∧ VR ρ v v' ∧ Inv G N ρ h w' ∧ Ext emptyRen ⟨0, []⟩ w ρ h w' := by
  unfold runF at hr
  split at hr
  · rename_i fn hfn
    split at hr
    · rename_i c hb
      split at hr
      · rename_i hle
        have hle := ble_true.1 hle
        have hl : LR emptyRen args args.toArray.toList := by
          refine ⟨by simp, fun i a b ha hb => ?_⟩
          rw [ha] at hb; cases hb
          exact .flat (allFlat_mem hf _ (List.mem_of_getElem? ha))
        refine calls_of_wp hfn hb (wp_mono ((runC_ok hP hX n).code c _ _ _ (hP.code f fn c hfn hb) hr emptyRen _ w (Inv.start hg hN) (mkTM_ok hl hle)) ?_)
        rintro e a' w' ⟨ρ', tm', h', k1, k2, k3, k4⟩
        obtain ⟨he, v, v', q1, q2, q3⟩ := endK_ok (P := P) k1 k2 k3
        rcases he with rfl | rfl
        · exact ⟨k3.defers, v', q3, ρ', h', v, v', rfl, q1, q2, k2, k4⟩
        · exact ⟨k3.defers, v', q3, ρ', h', v, v', rfl, q1, q2, k2, k4⟩
      · cases hr
    · cases hr
  · cases hr

/-! from a run to a known result -/
def matchParts (h : Hp) : List Nat → List RC → List Value → Bool
  | _, [], [] => true
  | used, .flat v :: r, x :: xs => flatN 6 v && eqV v x && matchParts h used r xs
  | used, .sl c e sz len cap :: r, .slice (some ⟨b, 0, none⟩) l k :: xs => match Nat.blt b base, h.get (b - base) with
    | false, some (.cells c' e' sz' _) => c.all (flatN 6) && eqFL c c' && Nat.beq e e' && Nat.beq sz sz' && Nat.beq len l && Nat.beq cap k && !(used.contains b) && matchParts h (b :: used) r xs
    | _, _ => false
  | _, _, _ => false
def isRes (r : Res) (v : Value) (h : Hp) : Bool :=
  match r.tup, v with
  | true, .tuple vs => matchParts h [] r.parts vs.toList
  | false, v => match r.parts with | [_] => matchParts h [] r.parts [v] | _ => false
  | _, _ => false

theorem matchParts_ok {w' : World} {B : Nat} (I : Inv G N ρ h w') (hB : ∀ k, Owned ρ h k → B ≤ k) : ∀ (parts : List RC) {vs vs' : List Value} {used : List Nat} {used' : List Nat}, matchParts h used parts vs = true → LR ρ vs vs' →
    (∀ k ∈ used', ∃ b ∈ used, ∃ p, base ≤ b ∧ (∃ bl, h.get (b - base) = some bl ∧ bl ≠ .dead) ∧ ρ (b - base) = some p ∧ p.blk = k) → PartsOK B w' used' parts vs'
  | [], vs, vs', used, used', hm, hl, hu => by
    cases vs with
    | nil => rw [hl.nil_inv]; trivial
    | cons x xs => simp [matchParts] at hm
  | .flat v :: r, vs, vs', used, used', hm, hl, hu => by
    cases vs with
    | nil => simp [matchParts] at hm
    | cons x xs =>
      simp only [matchParts, Bool.and_eq_true] at hm
      obtain ⟨⟨h1, h2⟩, h3⟩ := hm
      obtain ⟨x', t, rfl, q1, q2⟩ := hl.cons_inv
      have := eqV_eq _ _ h2
      subst this
      exact ⟨q1.flat_eq h1, h1, matchParts_ok I hB r h3 q2 hu⟩
  | .sl c e sz len cap :: r, vs, vs', used, used', hm, hl, hu => by
    unfold matchParts at hm
    split at hm
    · rename_i heq; cases heq
    · rename_i heq; cases heq
    · rename_i b l k xs heq
      cases heq
      split at hm
      · rename_i c' e' sz' g hblk hget
        simp only [Bool.and_eq_true] at hm
        obtain ⟨⟨⟨⟨⟨⟨⟨h1, h2⟩, h3⟩, h4⟩, h5⟩, h6⟩, h7⟩, h8⟩ := hm
        have e1 := eqFL_eq _ _ h2
        have e2 := beq_true.1 h3
        have e3 := beq_true.1 h4
        have e4 := beq_true.1 h5
        have e5 := beq_true.1 h6
        subst e1; subst e2; subst e3; subst e4; subst e5
        obtain ⟨x', t, rfl, q1, q2⟩ := hl.cons_inv
        have g1 := blt_false.1 hblk
        rcases q1.slice_inv with ⟨q, _⟩ | ⟨_, p, m1, m2⟩
        · simp at q; omega
        · simp only at m1 m2
          subst m2
          obtain ⟨p', hp', _, hok⟩ := I.dom _ _ hget (by simp)
          rw [m1] at hp'; cases hp'
          refine ⟨h1, p.blk, p.off + 0, p.extra, rfl, hB _ ⟨b - base, _, p, hget, by simp, m1, rfl⟩, ?_, hok.ren h1, matchParts_ok I hB r h8 q2 ?_⟩
          · intro hin
            obtain ⟨b2, hb2, p2, z1, ⟨bl, z2, z3⟩, z4, z5⟩ := hu p.blk hin
            have := I.inj (b2 - base) (b - base) bl _ p2 p z2 z3 hget (by simp) z4 m1 z5
            have hbb : b2 = b := by omega
            subst hbb
            simp at h7
            exact h7 hb2
          · intro k hk
            rcases List.mem_cons.1 hk with rfl | hk
            · exact ⟨b, by simp, p, g1, ⟨_, hget, by simp⟩, m1, rfl⟩
            · obtain ⟨b2, hb2, rest⟩ := hu k hk; exact ⟨b2, by simp [hb2], rest⟩
      · cases hm
    · cases hm

theorem Ext.below {w' : World} (E : Ext emptyRen ⟨0, []⟩ w ρ h w') : Below w.heap.size w w' :=
  ⟨E.os, E.tape, E.output, E.size, fun k hk => E.frame k hk (by rintro ⟨i, b, p, h1, _⟩; simp [Hp.get, findB] at h1)⟩
theorem Ext.new {w' : World} (E : Ext emptyRen ⟨0, []⟩ w ρ h w') : ∀ k, Owned ρ h k → w.heap.size ≤ k := fun k hO => (E.own k hO).elim (by rintro ⟨i, b, p, h1, _⟩; simp [Hp.get, findB] at h1) id

/-- A run that ends in a known result proves it. -/
theorem sum_of_run (hP : ProgOK P) {X : Known} (hX : KnownOK P G N X) {n : Nat} {f : FuncId} {args : List Value} {r : Res} (hr : runF P G X n f args (isRes r) = true) (hf : allFlat args = true) : SumOK P G N f args r := by
  intro w hg hN
  refine (runF_ok hP hX hr hf hg hN).mono ?_
  rintro e w' ⟨ρ, h, v, v', rfl, hK, hv, I, E⟩
  unfold isRes at hK
  split at hK
  · rename_i vs htup
    obtain ⟨vs', rfl, hl⟩ := hv.tuple_inv
    exact ⟨vs'.toList, by rw [resVal, htup]; simp, E.below, matchParts_ok I E.new _ hK hl (by simp)⟩
  · rename_i htup
    split at hK
    · rename_i p hp
      exact ⟨[v'], by rw [resVal, htup]; simp, E.below, matchParts_ok I E.new _ hK (LR.cons hv (LR.nil _)) (by simp)⟩
    · cases hK
  · cases hK
end
end Go.CRun
