/-
  CRUN, part O: the drawn region, walked in whatever order.
-/
import Derived.Test.YtioaaigbpfdjmaaDoorRunN
set_option linter.unusedSimpArgs false
set_option linter.unusedVariables false
namespace Go.CRun
open Go Go.RowKit
section
variable {P : Program} {G : Globs} {N : Nat}

def dstOf (ops : Array Oper) (i : Nat) : Option Tmp := (ops[i]?).bind (·.dst)

/-- An operation that has been run ahead of its time: what it will yield. -/
def Pend (P : Program) (G : Globs) (ops : Array Oper) (m : Nat → Nat) (tm0 : TM) (val : Nat → Value) (h : Hp) (reads : List Rd) (i : Nat) (o : Oper) : Prop :=
  ∃ T : TM, (∀ j d, bit (m i) j = true → dstOf ops j = some d → d ∈ o.looksAt ops → T.get d = val j) ∧
    (∀ d ∈ o.looksAt ops, (∀ j, bit (m i) j = true → dstOf ops j ≠ some d) → T.get d = tm0.get d) ∧
    ((wantE ops.toList T o = false ∧ val i = undef) ∨
     (wantE ops.toList T o = true ∧ isRead o.op = true ∧ readE P G T h o = some (val i) ∧ (isSilent o.op = true ∨ (⟨i, o, T, val i⟩ : Rd) ∈ reads)))

structure DI (P : Program) (G : Globs) (ops : Array Oper) (m : Nat → Nat) (tm0 : TM) (val : Nat → Value) (ρ : Ren) (h : Hp) (a : Act) (L : Nat → Prop) (E : Nat → Prop) (done : Nat) (reads : List Rd) (tm : TM) (rem : List It) : Prop where
  bnd : ∀ j d, bit done j = true → dstOf ops j = some d → d < tm.n
  closedL : ∀ i, L i → ∀ j, bit (m i) j = true → L j
  closedD : ∀ i, bit done i = true → ∀ j, bit (m i) j = true → bit done j = true
  sub : ∀ i, L i → bit done i = true
  lt : ∀ i, bit done i = true → i < ops.size
  remOK : ∀ x ∈ rem, ops[x.i]? = some x.o ∧ x.m = m x.i ∧ bit done x.i = false
  remAll : ∀ i, i < ops.size → bit done i = true ∨ ∃ x ∈ rem, x.i = i
  remNodup : (rem.map (·.i)).Nodup
  absW : ∀ j d, bit done j = true → dstOf ops j = some d → tm.get d = val j
  absO : ∀ d, (∀ j, bit done j = true → dstOf ops j ≠ some d) → tm.get d = tm0.get d
  conW : ∀ j d, L j → dstOf ops j = some d → VR ρ (val j) (a.tmps.getD d undef)
  conO : ∀ d, (∀ j, L j → dstOf ops j ≠ some d) → VR ρ (tm0.get d) (a.tmps.getD d undef)
  size : tm.n = a.tmps.size
  defers : a.defers = []
  pend : ∀ i o, bit done i = true → ¬ L i → ¬ E i → ops[i]? = some o → Pend P G ops m tm0 val h reads i o

theorem Pend.upd {ops : Array Oper} {m : Nat → Nat} {tm0 : TM} {val val' : Nat → Value} {h : Hp} {reads reads' : List Rd} {i : Nat} {o : Oper} (hp : Pend P G ops m tm0 val h reads i o) (hi : val' i = val i)
    (hj : ∀ j, bit (m i) j = true → val' j = val j) (hr : ∀ r ∈ reads, r ∈ reads') : Pend P G ops m tm0 val' h reads' i o := by
  obtain ⟨T, h1, h2, h3⟩ := hp
  refine ⟨T, fun j d hb hd hl => by rw [hj j hb]; exact h1 j d hb hd hl, h2, ?_⟩
  rw [hi]
  rcases h3 with h3 | ⟨h4, h5, h6, h7⟩
  · exact .inl h3
  · exact .inr ⟨h4, h5, h6, h7.imp id fun h => hr _ h⟩

/-- One operation more has been run ahead. -/
theorem DI.ahead {ops : Array Oper} {m : Nat → Nat} (St : Stat ops m) {tm0 : TM} {val : Nat → Value} {ρ : Ren} {h : Hp} {a : Act} {L E : Nat → Prop} {done : Nat} {reads reads' : List Rd} {tm tm' : TM} {r1 r2 : List It} {x : It}
    (I : DI P G ops m tm0 val ρ h a L E done reads tm (r1 ++ x :: r2)) (hw : within x.m done = true) (v : Value) (hn : tm'.n = tm.n)
    (hput : ∀ d, tm'.get d = if x.o.dst = some d then v else tm.get d) (hr : ∀ r ∈ reads, r ∈ reads')
    (hb : ∀ d, x.o.dst = some d → d < tm.n) (hv : ¬ E x.i → (wantE ops.toList tm x.o = false ∧ v = undef) ∨ (wantE ops.toList tm x.o = true ∧ isRead x.o.op = true ∧ readE P G tm h x.o = some v ∧ (isSilent x.o.op = true ∨ (⟨x.i, x.o, tm, v⟩ : Rd) ∈ reads'))) :
    DI P G ops m tm0 (fun i => if i = x.i then v else val i) ρ h a L E (Nat.lor done (Nat.pow 2 x.i)) reads' tm' (r1 ++ r2) := by
  obtain ⟨ho, hm, hnd⟩ := I.remOK x (by simp)
  have hbit : ∀ i, bit (Nat.lor done (Nat.pow 2 x.i)) i = true ↔ bit done i = true ∨ i = x.i := by
    intro i; rw [bit_lor, bit_pow]; simp only [Bool.or_eq_true, decide_eq_true_eq]
    exact ⟨fun h => h.imp id Eq.symm, fun h => h.imp id Eq.symm⟩
  have hanc : ∀ j, bit (m x.i) j = true → bit done j = true := fun j hj => within_bit (hm ▸ hw) (by rw [hm] at *; exact hj) |> fun h => by
    exact h
  have hne : ∀ i, bit done i = true → i ≠ x.i := fun i hi e => by rw [e, hnd] at hi; cases hi
  have hdx : dstOf ops x.i = x.o.dst := by simp [dstOf, ho]
  have hmem : ∀ y, y ∈ r1 ++ r2 → y ∈ r1 ++ x :: r2 := by
    intro y hy
    simp only [List.mem_append, List.mem_cons] at hy ⊢
    rcases hy with hy | hy
    · exact .inl hy
    · exact .inr (.inr hy)
  have hnod := I.remNodup
  simp only [List.map_append, List.map_cons] at hnod
  have hxn : ∀ y ∈ r1 ++ r2, y.i ≠ x.i := by
    intro y hy e
    have h1 := List.nodup_append.1 hnod
    have h2 := List.nodup_cons.1 h1.2.1
    rcases List.mem_append.1 hy with hy | hy
    · exact h1.2.2 y.i (List.mem_map_of_mem hy) x.i (by simp) e
    · exact h2.1 (e ▸ List.mem_map_of_mem hy)
  refine ⟨?_, I.closedL, ?_, fun i hi => (hbit i).2 (.inl (I.sub i hi)), ?_, ?_, ?_, ?_, ?_, ?_, ?_, I.conO, by rw [hn]; exact I.size, I.defers, ?_⟩
  · intro j d hj hd
    rw [hn]
    rcases (hbit j).1 hj with hj | rfl
    · exact I.bnd j d hj hd
    · exact hb d (by rw [← hdx]; exact hd)
  · intro i hi j hj
    rcases (hbit i).1 hi with hi | rfl
    · exact (hbit j).2 (.inl (I.closedD i hi j hj))
    · exact (hbit j).2 (.inl (hanc j hj))
  · intro i hi
    rcases (hbit i).1 hi with hi | rfl
    · exact I.lt i hi
    · exact (Array.getElem?_eq_some_iff.1 ho).1
  · intro y hy
    obtain ⟨h1, h2, h3⟩ := I.remOK y (hmem y hy)
    refine ⟨h1, h2, ?_⟩
    cases hb : bit (Nat.lor done (Nat.pow 2 x.i)) y.i with
    | false => rfl
    | true =>
      rcases (hbit y.i).1 hb with hb | hb
      · rw [h3] at hb; cases hb
      · exact absurd hb (hxn y hy)
  · intro i hi
    rcases I.remAll i hi with hb | ⟨y, hy, rfl⟩
    · exact .inl ((hbit i).2 (.inl hb))
    · simp only [List.mem_append, List.mem_cons] at hy
      rcases hy with hy | rfl | hy
      · exact .inr ⟨y, by simp [hy], rfl⟩
      · exact .inl ((hbit y.i).2 (.inr rfl))
      · exact .inr ⟨y, by simp [hy], rfl⟩
  · simp only [List.map_append]
    have h1 := List.nodup_append.1 hnod
    have h2 := List.nodup_cons.1 h1.2.1
    refine List.nodup_append.2 ⟨h1.1, h2.2, fun p hp q hq => h1.2.2 p hp q (by simp [hq])⟩
  · intro j d hj hd
    rw [hput]
    rcases (hbit j).1 hj with hj | rfl
    · have hjn := hne j hj
      have : x.o.dst ≠ some d := by
        intro e
        cases hoj : ops[j]? with
        | none => simp [dstOf, hoj] at hd
        | some oj =>
          simp [dstOf, hoj] at hd
          exact hjn (St.dst j x.i oj x.o d hoj ho hd e)
      rw [if_neg this]
      simp only [hjn, if_false]
      exact I.absW j d hj hd
    · rw [hdx] at hd
      rw [if_pos hd]
      simp
  · intro d hd
    have h1 : x.o.dst ≠ some d := by rw [← hdx]; exact hd x.i ((hbit x.i).2 (.inr rfl))
    rw [hput, if_neg h1]
    exact I.absO d fun j hj => hd j ((hbit j).2 (.inl hj))
  · intro j d hj hd
    simp only [hne j (I.sub j hj), if_false]
    exact I.conW j d hj hd
  · intro i o hi hL hE hoi
    rcases (hbit i).1 hi with hi | rfl
    · refine (I.pend i o hi hL hE hoi).upd (by simp [hne i hi]) (fun j hj => by simp [hne j (I.closedD i hi j hj)]) hr
    · rw [ho] at hoi; cases hoi
      refine ⟨tm, ?_, ?_, ?_⟩
      · intro j d hb hd hl
        simp only [hne j (hanc j hb), if_false]
        exact I.absW j d (hanc j hb) hd
      · intro d hl hno
        refine I.absO d fun j hj hd => ?_
        cases hoj : ops[j]? with
        | none => simp [dstOf, hoj] at hd
        | some oj =>
          have hd2 : oj.dst = some d := by simpa [dstOf, hoj] using hd
          rcases St.war x.i j x.o oj d ho hoj (fun e => hne j hj e.symm) hd2 hl with hb | hb
          · exact hno j hb hd
          · have := I.closedD j hj x.i hb
            rw [hnd] at this; cases this
      · simpa using hv hE

theorem passK_ok {ops : Array Oper} {m : Nat → Nat} (St : Stat ops m) {tm0 : TM} {ρ : Ren} {h : Hp} {a : Act} {L E : Nat → Prop} {K : Nat → List Rd → TM → List It → Bool} : ∀ (its : List It) {val : Nat → Value} {done : Nat} {reads : List Rd} {tm : TM} {acc : List It},
    passK P G ops.toList h its done reads tm acc K = true → DI P G ops m tm0 val ρ h a L E done reads tm (acc.reverse ++ its) →
    ∃ val' done' reads' tm' rem', K done' reads' tm' rem' = true ∧ DI P G ops m tm0 val' ρ h a L E done' reads' tm' rem'
  | [], val, done, reads, tm, acc, hk, I => ⟨val, done, reads, tm, acc.reverse, hk, by simpa using I⟩
  | x :: r, val, done, reads, tm, acc, hk, I => by
    simp only [passK] at hk
    have put : ∀ {v : Value} {K2 : TM → Bool}, putT tm x.o.dst v K2 = true → ∃ tm', K2 tm' = true ∧ tm'.n = tm.n ∧ (∀ d, x.o.dst = some d → d < tm.n) ∧ ∀ d, tm'.get d = if x.o.dst = some d then v else tm.get d := by
      intro v K2 hp
      unfold putT at hp
      split at hp
      · rename_i i hd
        obtain ⟨h1, tm', h2, h3, h4⟩ := TM.setK_true hp
        refine ⟨tm', h2, h3, (fun d e => by rw [hd] at e; cases e; exact h1), fun d => ?_⟩
        rw [h4]
        by_cases e : d = i
        · subst e; simp [hd]
        · rw [if_neg e, if_neg (by rw [hd]; intro h; cases h; exact e rfl)]
      · rename_i hd
        exact ⟨tm, hp, rfl, (fun d e => by rw [hd] at e; cases e), fun d => by rw [hd]; simp⟩
    split at hk
    · exact passK_ok St r hk (by simpa using I)
    · rename_i hw
      split at hk
      · rename_i hwant
        obtain ⟨tm', k1, k2, k4, k3⟩ := put hk
        rw [fNat_eq] at k1
        exact passK_ok St r k1 (I.ahead St hw undef k2 k3 (fun _ h => h) k4 fun _ => .inl ⟨hwant, rfl⟩)
      · rename_i hwant
        split at hk
        · exact passK_ok St r hk (by simpa using I)
        · rename_i hread
          split at hk
          · cases hk
          · rename_i v hv
            rw [fV_eq] at hk
            obtain ⟨tm', k1, k2, k4, k3⟩ := put hk
            rw [fNat_eq] at k1
            refine passK_ok St r k1 (I.ahead St hw v k2 k3 ?_ k4 fun _ => .inr ⟨hwant, hread, hv, ?_⟩)
            · intro rd hrd; split
              · exact hrd
              · exact List.mem_cons_of_mem _ hrd
            · cases hs : isSilent x.o.op with
              | true => exact .inl rfl
              | false => right; simp

/-- One operation more has been run by the model. -/
theorem DI.list {ops : Array Oper} {m : Nat → Nat} (St : Stat ops m) {tm0 : TM} {val : Nat → Value} {ρ : Ren} {h : Hp} {a : Act} {L E : Nat → Prop} {done : Nat} {reads : List Rd} {tm : TM} {rem : List It}
    (I : DI P G ops m tm0 val ρ h a L E done reads tm rem) {i : Nat} {o : Oper} (ho : ops[i]? = some o) (hi : bit done i = true) (hanc : ∀ j, bit (m i) j = true → L j) (hE : ∀ j, E j → j = i) {v' : Value} (hv : VR ρ (val i) v') :
    DI P G ops m tm0 val ρ h (a.put o.dst v') (fun j => L j ∨ j = i) (fun _ => False) done reads tm rem := by
  have hd : dstOf ops i = o.dst := by simp [dstOf, ho]
  have hget : ∀ d, (a.put o.dst v').tmps.getD d undef = if o.dst = some d ∧ d < a.tmps.size then v' else a.tmps.getD d undef := by
    intro d
    cases hod : o.dst with
    | none => simp [Act.put]
    | some e =>
      simp only [Act.put, Array.getD_eq_getD_getElem?, Array.getElem?_setIfInBounds, Option.some.injEq]
      by_cases hed : e = d
      · subst hed
        by_cases hlt : e < a.tmps.size
        · simp [hlt]
        · simp [hlt]
      · simp [hed]
  have hsz : (a.put o.dst v').tmps.size = a.tmps.size := by cases o.dst <;> simp [Act.put]
  have hdf : (a.put o.dst v').defers = a.defers := by cases o.dst <;> rfl
  refine ⟨I.bnd, ?_, I.closedD, ?_, I.lt, I.remOK, I.remAll, I.remNodup, I.absW, I.absO, ?_, ?_, by rw [hsz]; exact I.size, by rw [hdf]; exact I.defers, ?_⟩
  · intro j hj q hq
    rcases hj with hj | rfl
    · exact .inl (I.closedL j hj q hq)
    · exact .inl (hanc q hq)
  · intro j hj
    rcases hj with hj | rfl
    · exact I.sub j hj
    · exact hi
  · intro j d hj hjd
    rw [hget]
    rcases hj with hj | rfl
    · by_cases hji : j = i
      · subst hji
        rw [hd] at hjd
        rw [if_pos ⟨hjd, by rw [← I.size]; exact I.bnd j d hi (by rw [hd]; exact hjd)⟩]
        exact hv
      · have : o.dst ≠ some d := by
          intro e
          cases hoj : ops[j]? with
          | none => simp [dstOf, hoj] at hjd
          | some oj =>
            simp [dstOf, hoj] at hjd
            exact hji (St.dst j i oj o d hoj ho hjd e)
        rw [if_neg (fun h => this h.1)]
        exact I.conW j d hj hjd
    · rw [hd] at hjd
      rw [if_pos ⟨hjd, by rw [← I.size]; exact I.bnd j d hi (by rw [hd]; exact hjd)⟩]
      exact hv
  · intro d hno
    rw [hget, if_neg (fun h => hno i (.inr rfl) (by rw [hd]; exact h.1))]
    exact I.conO d fun j hj => hno j (.inl hj)
  · intro j oj hj hL _ hoj
    exact I.pend j oj hj (fun h => hL (.inl h)) (fun h => hL (.inr (hE j h))) hoj

/-- The same in a later world. -/
theorem DI.later {ops : Array Oper} {m : Nat → Nat} {tm0 : TM} {val : Nat → Value} {ρ ρ' : Ren} (he : Extends ρ ρ') {h h' : Hp} {a : Act} {L E : Nat → Prop} {done : Nat} {reads : List Rd} {tm : TM} {rem : List It}
    (I : DI P G ops m tm0 val ρ h a L E done reads tm rem) (hp : ∀ i o, bit done i = true → ¬ L i → ¬ E i → ops[i]? = some o → Pend P G ops m tm0 val h reads i o → Pend P G ops m tm0 val h' reads i o) :
    DI P G ops m tm0 val ρ' h' a L E done reads tm rem :=
  ⟨I.bnd, I.closedL, I.closedD, I.sub, I.lt, I.remOK, I.remAll, I.remNodup, I.absW, I.absO, fun j d h1 h2 => (I.conW j d h1 h2).mono he, fun d h1 => (I.conO d h1).mono he, I.size, I.defers,
    fun i o h1 h2 h3 h4 => hp i o h1 h2 h3 h4 (I.pend i o h1 h2 h3 h4)⟩

theorem readE_silent {o : Oper} (hs : isSilent o.op = true) (T : TM) (h h' : Hp) : readE P G T h o = readE P G T h' o := by
  unfold readE
  split
  case h_5 t x ho => rw [ho] at hs; simp [isSilent] at hs
  case h_8 t x lo hi ho => rw [ho] at hs; simp [isSilent] at hs
  case h_13 i ho => rw [ho] at hs; simp [isSilent] at hs
  case h_14 t x i ok ho => rw [ho] at hs; simp [isSilent] at hs
  case h_18 src dst x ho => rw [ho] at hs; simp [isSilent] at hs
  case h_19 c ho =>
    rw [ho] at hs
    split
    · rename_i hc; simp [isSilent, hc] at hs
    · rfl
    · rfl
    · rfl
  all_goals rfl

theorem readsAgain_mem {h : Hp} {mask : Nat} : ∀ {rs : List Rd}, readsAgain P G h mask rs = true → ∀ r ∈ rs, bit mask r.idx = true ∨ readE P G r.tm h r.o = some r.v
  | [], _ => by simp
  | r :: rs, hk => by
    simp only [readsAgain] at hk
    intro x hx
    split at hk
    · rename_i hb
      rcases List.mem_cons.1 hx with rfl | hx
      · exact .inl hb
      · exact readsAgain_mem hk x hx
    · split at hk
      · rename_i v hv
        split at hk
        · rename_i he
          rcases List.mem_cons.1 hx with rfl | hx
          · right; rw [hv, eqV_eq _ _ he]
          · exact readsAgain_mem hk x hx
        · cases hk
      · cases hk
end
end Go.CRun
