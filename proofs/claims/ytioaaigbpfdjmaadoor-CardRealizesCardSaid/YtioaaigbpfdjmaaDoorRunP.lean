/-
  CRUN, part P: the drawn region is sound.
-/
import Derived.Test.YtioaaigbpfdjmaaDoorRunO
set_option linter.unusedSimpArgs false
set_option linter.unusedVariables false
namespace Go.CRun
open Go Go.RowKit
section
variable {P : Program} {G : Globs} {N : Nat}

/-- What is left behind the reading ahead. -/
noncomputable def restK (P : Program) (G : Globs) (call : CallK) (ops : List Oper) (n : Nat) (done : Nat) (reads : List Rd) (tm : TM) (h : Hp) (rem : List It) (K : TM → Hp → Bool) : Bool :=
  match rem with
  | [] => K tm h
  | x :: rs => match within x.m done, wantE ops tm x.o, isRead x.o.op, allAfter x.i rs with
    | true, true, false, true => effK P G call tm h x.o fun v h' => fV v fun v => match readsAgain P G h' x.m reads with
      | false => false
      | true => putT tm x.o.dst v fun tm' => fNat (Nat.lor done (Nat.pow 2 x.i)) fun d => drawGo P G call ops n d reads tm' h' rs K
    | _, _, _, _ => false
theorem drawGo_succ (call : CallK) (ops : List Oper) (n done : Nat) (reads : List Rd) (tm : TM) (h : Hp) (its : List It) (K : TM → Hp → Bool) :
    drawGo P G call ops (n + 1) done reads tm h its K = passK P G ops h its done reads tm [] fun done reads tm rem => restK P G call ops n done reads tm h rem K := rfl

theorem allAfter_mem {i : Nat} : ∀ {l : List It}, allAfter i l = true → ∀ y ∈ l, bit y.m i = true
  | [], _ => by simp
  | y :: r, hk => by
    simp only [allAfter] at hk
    split at hk
    · rename_i hb
      intro z hz
      rcases List.mem_cons.1 hz with rfl | hz
      · exact hb
      · exact allAfter_mem hk z hz
    · cases hk

/-- A frame that looks, at some slots, as a given one, and otherwise as the model's. -/
theorem view {ρ : Ren} {a : Act} (T : TM) (looks : List Nat) (h1 : ∀ d ∈ looks, VR ρ (T.get d) (a.tmps.getD d undef)) (h2 : ∀ d, ∃ v, VR ρ v (a.tmps.getD d undef)) (hd : a.defers = []) :
    ∃ T' : TM, TMR ρ T' a ∧ ∀ d ∈ looks, T'.get d = T.get d := by
  classical
  have hf : ∃ f : Nat → Value, ∀ d, VR ρ (f d) (a.tmps.getD d undef) ∧ (d ∈ looks → f d = T.get d) := by
    refine ⟨fun d => if d ∈ looks then T.get d else Classical.choose (h2 d), fun d => ?_⟩
    by_cases hm : d ∈ looks
    · simp only [hm, if_true]; exact ⟨h1 d hm, fun _ => trivial⟩
    · simp only [hm, if_false]; exact ⟨Classical.choose_spec (h2 d), fun h => h.elim⟩
  obtain ⟨f, hf⟩ := hf
  have hsum : ∀ (l : List Nat) (d : Nat), d ∈ l → d ≤ l.sum := by
    intro l
    induction l with
    | nil => simp
    | cons x l ih =>
      intro d hd
      simp only [List.sum_cons]
      rcases List.mem_cons.1 hd with rfl | hd
      · omega
      · have := ih d hd; omega
  let M := a.tmps.size + looks.sum + 1
  have hget : ∀ d, (⟨a.tmps.size, chunks ((List.range M).map f)⟩ : TM).get d = ((List.range M).map f).getD d undef := by
    intro d
    have := chunks_get ((List.range M).map f) 0 d
    rw [List.replicate_zero, List.append_nil] at this
    exact this
  have hget2 : ∀ d, d < M → (⟨a.tmps.size, chunks ((List.range M).map f)⟩ : TM).get d = f d := by
    intro d hd
    rw [hget, List.getD_eq_getElem?_getD]
    simp [hd]
  refine ⟨⟨a.tmps.size, chunks ((List.range M).map f)⟩, ⟨rfl, fun d => ?_, hd⟩, fun d hm => ?_⟩
  · by_cases hlt : d < M
    · rw [hget2 d hlt]; exact (hf d).1
    · rw [hget, List.getD_eq_getElem?_getD, List.getElem?_eq_none (by simp; omega)]
      have : a.tmps.getD d undef = undef := by
        simp only [Array.getD_eq_getD_getElem?]
        rw [Array.getElem?_eq_none (by simp only [M] at hlt; omega)]; rfl
      rw [this]
      exact .flat (n := 0) rfl
  · rw [hget2 d (by have := hsum looks d hm; simp only [M]; omega)]
    exact (hf d).2 hm

section
variable {ops : Array Oper} {m : Nat → Nat} {tm0 : TM} {val : Nat → Value} {ρ : Ren} {h : Hp} {a : Act} {w : World} {L E : Nat → Prop} {done : Nat} {reads : List Rd} {tm : TM} {rem : List It}

theorem DI.all (I : DI P G ops m tm0 val ρ h a L E done reads tm rem) : ∀ d, ∃ v, VR ρ v (a.tmps.getD d undef) := by
  intro d
  by_cases hw : ∃ j, L j ∧ dstOf ops j = some d
  · obtain ⟨j, h1, h2⟩ := hw; exact ⟨_, I.conW j d h1 h2⟩
  · exact ⟨_, I.conO d fun j hj hd => hw ⟨j, hj, hd⟩⟩

/-- The slots that an operation looks at, when its time has come. -/
theorem DI.looks (St : Stat ops m) (I : DI P G ops m tm0 val ρ h a L E done reads tm rem) {i : Nat} {o : Oper} (ho : ops[i]? = some o) (hL : ¬ L i) (hanc : ∀ j, bit (m i) j = true → L j) {T : TM}
    (h1 : ∀ j d, bit (m i) j = true → dstOf ops j = some d → d ∈ o.looksAt ops → T.get d = val j) (h2 : ∀ d ∈ o.looksAt ops, (∀ j, bit (m i) j = true → dstOf ops j ≠ some d) → T.get d = tm0.get d) :
    ∃ T' : TM, TMR ρ T' a ∧ ∀ d ∈ o.looksAt ops, T'.get d = T.get d := by
  refine view T (o.looksAt ops) (fun d hd => ?_) I.all I.defers
  by_cases hw : ∃ j, bit (m i) j = true ∧ dstOf ops j = some d
  · obtain ⟨j, k1, k2⟩ := hw
    rw [h1 j d k1 k2 hd]
    exact I.conW j d (hanc j k1) k2
  · rw [h2 d hd fun j k1 k2 => hw ⟨j, k1, k2⟩]
    refine I.conO d fun j hj hjd => ?_
    by_cases hji : j = i
    · subst hji; exact hL hj
    · cases hoj : ops[j]? with
      | none => simp [dstOf, hoj] at hjd
      | some oj =>
        have hjd2 : oj.dst = some d := by simpa [dstOf, hoj] using hjd
        rcases St.war i j o oj d ho hoj (fun e => hji e.symm) hjd2 hd with hb | hb
        · exact hw ⟨j, hb, hjd⟩
        · exact hL (I.closedL j hj i hb)

theorem DI.over (I : DI P G ops m tm0 val ρ h a L E done reads tm rem) (hall : ∀ i, i < ops.size → L i) : rem = [] ∧ TMR ρ tm a := by
  constructor
  · cases hr : rem with
    | nil => rfl
    | cons x rs =>
      obtain ⟨h1, _, h3⟩ := I.remOK x (by rw [hr]; simp)
      have := I.sub x.i (hall x.i (Array.getElem?_eq_some_iff.1 h1).1)
      rw [h3] at this; cases this
  · refine ⟨I.size, fun d => ?_, I.defers⟩
    by_cases hw : ∃ j, L j ∧ dstOf ops j = some d
    · obtain ⟨j, k1, k2⟩ := hw
      rw [I.absW j d (I.sub j k1) k2]
      exact I.conW j d k1 k2
    · rw [I.absO d fun j hj hd => hw ⟨j, hall j (I.lt j hj), hd⟩]
      exact I.conO d fun j hj hd => hw ⟨j, hj, hd⟩
end

theorem wpAny_ok {call : CallK} (S : CallSound P G N call) {ops : Array Oper} {m : Nat → Nat} (St : Stat ops m) {tm0 : TM} {Q : Exit → Act → World → Prop} {K : TM → Hp → Bool} : ∀ (fuel : Nat) {val : Nat → Value} {ρ : Ren} {h : Hp} {a : Act} {w : World} {listed : Array Bool}
    {done : Nat} {reads : List Rd} {tm : TM} {rem : List It} {n : Nat}, DI P G ops m tm0 val ρ h a (fun i => listed.getD i false = true) (fun _ => False) done reads tm rem → restK P G call ops.toList n done reads tm h rem K = true → Inv G N ρ h w →
    listed.size = ops.size → ((List.range ops.size).filter fun i => !listed.getD i false).length ≤ fuel →
    (∀ ρ' tm' h' a' w', K tm' h' = true → Inv G N ρ' h' w' → TMR ρ' tm' a' → Ext ρ h w ρ' h' w' → Q .normal a' w') → wpAny P .any ops Q fuel listed a w := by
  intro fuel
  induction fuel with
  | zero =>
    intro val ρ h a w listed done reads tm rem n D hk I hsz hcnt hq
    have hall : ∀ i, i < ops.size → listed.getD i false = true := by
      intro i hi
      cases hb : listed.getD i false with
      | true => rfl
      | false =>
        have hm : i ∈ (List.range ops.size).filter fun i => !listed.getD i false := by simp [hi]; simpa using hb
        have := List.length_pos_of_mem hm
        omega
    obtain ⟨hr, T⟩ := D.over hall
    subst hr
    refine ⟨?_, hq ρ tm h a w hk I T (.refl _ _ _)⟩
    unfold Region.ready
    rw [List.filter_eq_nil_iff]
    intro i hi
    have := hall i (by simpa using hi)
    have hi2 : i < listed.size := by rw [hsz]; simpa using hi
    have : listed.getD i true = true := by simpa [Array.getD, hi2] using this
    simp [this]
  | succ fuel ih =>
    intro val ρ h a w listed done reads tm rem n D hk I hsz hcnt hq
    have hgetD : ∀ i, i < ops.size → listed.getD i true = listed.getD i false := by
      intro i hi
      have hi2 : i < listed.size := by rw [hsz]; exact hi
      simp [Array.getD, hi2]
    refine ⟨fun hready => ?_, fun i hi => ?_⟩
    · have hall : ∀ i, i < ops.size → listed.getD i false = true := by
        intro i
        induction i using Nat.strongRecOn with
        | _ i ihi =>
          intro hi
          cases hb : listed.getD i false with
          | true => rfl
          | false =>
            have ho : ops[i]? = some ops[i] := Array.getElem?_eq_getElem hi
            have : i ∈ Region.ready .any ops listed := by
              unfold Region.ready
              simp only [List.mem_filter, List.mem_range, hi, true_and, hgetD i hi, hb, Bool.not_false, Bool.true_and, ho, Option.map_some, Option.getD_some]
              rw [Array.all_eq_true_iff_forall_mem]
              intro e he
              cases hbd : Region.binds .any e with
              | false => simp
              | true =>
                have hlt := St.edge i _ ho e (by simpa using he) hbd
                simp [ihi e.on hlt (by omega)]
            rw [hready] at this; cases this
      obtain ⟨hr, T⟩ := D.over hall
      subst hr
      exact hq ρ tm h a w hk I T (.refl _ _ _)
    · -- an operation whose time may have come
      have hi0 : i < ops.size ∧ listed.getD i true = false ∧ ((ops[i]?).map (·.after.all fun e => !Region.binds .any e || listed.getD e.on false)).getD false = true := by
        unfold Region.ready at hi
        simp only [List.mem_filter, List.mem_range, Bool.and_eq_true, Bool.not_eq_true'] at hi
        exact hi
      obtain ⟨hlt, hnl, hpre⟩ := hi0
      have ho : ops[i]? = some ops[i] := Array.getElem?_eq_getElem hlt
      generalize hoo : ops[i] = o at ho
      rw [ho] at hpre
      simp only [Option.map_some, Option.getD_some, Array.all_eq_true_iff_forall_mem] at hpre
      have hL : ¬ (listed.getD i false = true) := by rw [← hgetD i hlt, hnl]; simp
      have hanc : ∀ j, bit (m i) j = true → listed.getD j false = true := by
        intro j hj
        obtain ⟨e, he, hb, hor⟩ := St.anc i o j ho hj
        have := hpre e (by simpa using he)
        rw [hb] at this
        simp only [Bool.not_true, Bool.false_or] at this
        rcases hor with rfl | hor
        · exact this
        · exact D.closedL e.on this j hor
      have hi2 : i < listed.size := by rw [hsz]; exact hlt
      have hset : ∀ j, ((listed.setIfInBounds i true).getD j false = true) = (listed.getD j false = true ∨ j = i) := by
        intro j
        simp only [Array.getD_eq_getD_getElem?, Array.getElem?_setIfInBounds]
        by_cases hji : i = j
        · subst hji; simp [hi2]
        · rw [if_neg hji]
          have : ¬ j = i := fun e => hji e.symm
          simp [this]
      have hcnt2 : ((List.range ops.size).filter fun j => !(listed.setIfInBounds i true).getD j false).length ≤ fuel := by
        have hsub : ((List.range ops.size).filter fun j => !(listed.setIfInBounds i true).getD j false) = ((List.range ops.size).filter fun j => !listed.getD j false).filter (· != i) := by
          rw [List.filter_filter]
          apply List.filter_congr
          intro j _
          have := hset j
          cases h1 : (listed.setIfInBounds i true).getD j false <;> cases h2 : listed.getD j false <;> simp [h1, h2] at this ⊢ <;> simp [this]
        rw [hsub]
        have hmem : i ∈ (List.range ops.size).filter fun j => !listed.getD j false := by
          simp only [List.mem_filter, List.mem_range, hlt, true_and]
          simpa using hL
        have : (((List.range ops.size).filter fun j => !listed.getD j false).filter (· != i)).length < ((List.range ops.size).filter fun j => !listed.getD j false).length := by
          rcases Nat.lt_or_ge (((List.range ops.size).filter fun j => !listed.getD j false).filter (· != i)).length ((List.range ops.size).filter fun j => !listed.getD j false).length with h | h
          · exact h
          · have := (List.length_filter_eq_length_iff).1 (Nat.le_antisymm (List.length_filter_le _ _) h) i hmem
            simp at this
        omega
      have hfn : (fun j => (listed.setIfInBounds i true).getD j false = true) = fun j => listed.getD j false = true ∨ j = i := funext hset
      unfold wpOp
      rw [ho]
      simp only
      rcases D.remAll i hlt with hdone | ⟨x, hx, hxi⟩
      · -- it has been run ahead
        obtain ⟨T, t1, t2, t3⟩ := D.pend i o hdone hL (by simp) ho
        obtain ⟨T', TR, hag⟩ := D.looks St ho hL hanc t1 t2
        have hwant : Region.wanted o (yielded ops a.tmps) = wantE ops.toList T o := by rw [← wantE_ok TR ops o, wantE_congr hag]
        rcases t3 with ⟨hw, hv⟩ | ⟨hw, hr, hv, _⟩
        · rw [if_neg (by rw [hwant, hw]; simp)]
          have D' := D.list St ho hdone hanc (fun _ h => h.elim) (v' := undef) (by rw [hv]; exact .flat (n := 0) rfl)
          rw [← hfn] at D'
          exact ih D' hk I (by simpa using hsz) hcnt2 hq
        · rw [if_pos (by rw [hwant, hw])]
          have hv' : readE P G T' h o = some (val i) := by rw [readE_congr (evO_congr hag)]; exact hv
          obtain ⟨v', r1, r2⟩ := readE_ok (P := P) I TR hv'
          refine .inl ?_
          unfold Oper.wp
          rw [r1]
          have D' := D.list St ho hdone hanc (fun _ h => h.elim) r2
          rw [← hfn] at D'
          exact ih D' hk I (by simpa using hsz) hcnt2 hq
      · -- it is the one on which the rest hangs
        cases hrem : rem with
        | nil => rw [hrem] at hx; cases hx
        | cons y rs =>
          subst hrem
          unfold restK at hk
          simp only at hk
          split at hk
          case h_2 => cases hk
          rename_i hwi hwa hrd haf
          obtain ⟨hy1, hy2, hy3⟩ := D.remOK y (by simp)
          have hxy : x = y := by
            rcases List.mem_cons.1 hx with e | hm
            · exact e
            · obtain ⟨hx1, hx2, hx3⟩ := D.remOK x hx
              have hb := allAfter_mem haf x hm
              rw [hx2, hxi] at hb
              have := D.sub y.i (hanc y.i hb)
              rw [hy3] at this; cases this
          subst hxy
          subst hxi
          rw [hy1] at ho
          cases ho
          -- what it looks at
          have t1 : ∀ j d, bit (m x.i) j = true → dstOf ops j = some d → d ∈ x.o.looksAt ops → tm.get d = val j := fun j d hb hd _ => D.absW j d (D.sub j (hanc j hb)) hd
          have t2 : ∀ d ∈ x.o.looksAt ops, (∀ j, bit (m x.i) j = true → dstOf ops j ≠ some d) → tm.get d = tm0.get d := by
            intro d hl hno
            refine D.absO d fun j hj hd => ?_
            cases hoj : ops[j]? with
            | none => simp [dstOf, hoj] at hd
            | some oj =>
              have hd2 : oj.dst = some d := by simpa [dstOf, hoj] using hd
              rcases St.war x.i j x.o oj d hy1 hoj (fun e => by rw [← e, hy3] at hj; cases hj) hd2 hl with hb | hb
              · exact hno j hb hd
              · have := D.closedD j hj x.i hb
                rw [hy3] at this; cases this
          obtain ⟨T', TR, hag⟩ := D.looks St hy1 hL hanc t1 t2
          rw [if_pos (by rw [← wantE_ok TR ops x.o, wantE_congr hag]; exact hwa)]
          rw [← effK_congr (t1 := T') (evO_congr hag)] at hk
          refine .inl ((effK_ok S I TR hk).wp ?_)
          rintro v' w' ⟨ρ', h', v, hK, hv, I', E'⟩
          simp only [fV_eq] at hK
          split at hK
          case h_1 => cases hK
          rename_i hag2
          unfold putT at hK
          have hput : ∃ tm' : TM, drawGo P G call ops.toList n (Nat.lor done (Nat.pow 2 x.i)) reads tm' h' rs K = true ∧ tm'.n = tm.n ∧ (∀ d, x.o.dst = some d → d < tm.n) ∧ ∀ d, tm'.get d = if x.o.dst = some d then v else tm.get d := by
            split at hK
            · rename_i e hd
              obtain ⟨h1, tm', h2, h3, h4⟩ := TM.setK_true hK
              simp only [fNat_eq] at h2
              refine ⟨tm', h2, h3, (fun d q => by rw [hd] at q; cases q; exact h1), fun d => ?_⟩
              rw [h4]
              by_cases q : d = e
              · subst q; simp [hd]
              · rw [if_neg q, if_neg (by rw [hd]; intro h; cases h; exact q rfl)]
            · rename_i hd
              simp only [fNat_eq] at hK
              exact ⟨tm, hK, rfl, (fun d q => by rw [hd] at q; cases q), fun d => by rw [hd]; simp⟩
          obtain ⟨tm', g1, g2, g3, g4⟩ := hput
          -- the later world, then the operation itself
          have D1 : DI P G ops m tm0 val ρ' h' a (fun i => listed.getD i false = true) (fun j => j = x.i) done reads tm (x :: rs) := by
            have D0 := D.later E'.ext (h' := h') (fun j oj hj hLj _ hoj hp => by
              obtain ⟨T, p1, p2, p3⟩ := hp
              refine ⟨T, p1, p2, ?_⟩
              rcases p3 with p3 | ⟨p3, p4, p5, p6⟩
              · exact .inl p3
              · refine .inr ⟨p3, p4, ?_, p6⟩
                rcases p6 with p6 | p6
                · rw [← readE_silent p6 T h h']; exact p5
                · rcases readsAgain_mem hag2 _ p6 with q | q
                  · simp only at q
                    rw [hy2] at q
                    exact absurd (hanc j q) hLj
                  · exact q)
            exact ⟨D0.bnd, D0.closedL, D0.closedD, D0.sub, D0.lt, D0.remOK, D0.remAll, D0.remNodup, D0.absW, D0.absO, D0.conW, D0.conO, D0.size, D0.defers, fun i o h1 h2 _ h4 => D0.pend i o h1 h2 (by simp) h4⟩
          have D2 := DI.ahead St (r1 := []) D1 hwi v g2 g4 (fun _ h => h) g3 (fun hne => (hne rfl).elim)
          have D3 := D2.list St hy1 (by rw [bit_lor, bit_pow]; simp) hanc (fun _ h => h) (v' := v') (by simpa using hv)
          rw [← hfn] at D3
          cases n with
          | zero => cases g1
          | succ n =>
            rw [drawGo_succ] at g1
            obtain ⟨val2, done2, reads2, tm2, rem2, k1, k2⟩ := passK_ok St rs g1 (by simpa only [List.reverse_nil, List.nil_append] using D3)
            exact ih k2 k1 I' (by simpa using hsz) hcnt2 fun ρ2 tm2 h2 a2 w2 q1 q2 q3 q4 => hq ρ2 tm2 h2 a2 w2 q1 q2 q3 (E'.trans q4)

/-- A region whose order is drawn. -/
theorem draw_ok {call : CallK} (S : CallSound P G N call) (hm : P.follows .mixedOrders = true) {ops : Array Oper} (hok : okDraw ops.toList = true) : DrawSound P G N call ops := by
  intro id Q K tm h a w ρ hk I T hq
  have St := okDraw_stat hok
  refine wp_region_any hm ?_
  unfold drawK at hk
  rw [mkIts_eq, drawGo_succ] at hk
  have hits : ∀ x ∈ itsOf 0 [] ops.toList, ops[x.i]? = some x.o ∧ x.m = maskAt ops.toList x.i := by
    intro x hx
    obtain ⟨k, hkl, he⟩ := List.mem_iff_getElem.1 hx
    have he2 : (itsOf 0 [] ops.toList)[k]? = some x := by rw [List.getElem?_eq_getElem hkl, he]
    obtain ⟨h1, h2⟩ := itsOf_get _ _ _ _ _ he2
    simp at h1
    subst h1
    exact ⟨by simpa using h2, by unfold maskAt; rw [he2]⟩
  have hidx : (itsOf 0 [] ops.toList).map (·.i) = List.range ops.size := by
    apply List.ext_getElem?
    intro k
    rw [List.getElem?_map]
    cases he : (itsOf 0 [] ops.toList)[k]? with
    | none =>
      have : ops.size ≤ k := by
        have := List.getElem?_eq_none_iff.1 he
        rw [itsOf_length] at this
        simpa using this
      simp [this]
    | some x =>
      obtain ⟨h1, _⟩ := itsOf_get _ _ _ _ _ he
      have : k < ops.size := by
        have := (List.getElem?_eq_some_iff.1 he).1
        rw [itsOf_length] at this
        simpa using this
      simp [this]; omega
  have D0 : DI P G ops (maskAt ops.toList) tm (fun _ => undef) ρ h a (fun i => (Array.replicate ops.size false).getD i false = true) (fun _ => False) 0 [] tm ([].reverse ++ itsOf 0 [] ops.toList) := by
    have hno : ∀ i, ¬ ((Array.replicate ops.size false).getD i false = true) := by
      intro i; simp [Array.getD_eq_getD_getElem?, Array.getElem?_replicate]; split <;> simp
    refine ⟨(fun j d hj => by rw [bit_zero] at hj; cases hj), fun i hi => absurd hi (hno i), (fun i hi => by rw [bit_zero] at hi; cases hi), fun i hi => absurd hi (hno i), (fun i hi => by rw [bit_zero] at hi; cases hi),
      fun x hx => ?_, fun i hi => ?_, ?_, (fun j d hj => by rw [bit_zero] at hj; cases hj), fun d _ => rfl, fun j d hj => absurd hj (hno j), fun d _ => T.val d, T.size, T.defers, (fun i o hi => by rw [bit_zero] at hi; cases hi)⟩
    · obtain ⟨h1, h2⟩ := hits x (by simpa using hx); exact ⟨h1, h2, bit_zero _⟩
    · right
      have : i ∈ (itsOf 0 [] ops.toList).map (·.i) := by rw [hidx]; simpa using hi
      obtain ⟨x, hx, he⟩ := List.mem_map.1 this
      exact ⟨x, by simpa using hx, he⟩
    · simp only [List.reverse_nil, List.nil_append]
      rw [hidx]; exact List.nodup_range
  obtain ⟨val2, done2, reads2, tm2, rem2, k1, k2⟩ := passK_ok St _ hk D0
  refine wpAny_ok S St ops.size k2 k1 I.drew (by simp) ?_ fun ρ' tm' h' a' w' q1 q2 q3 q4 => hq ρ' tm' h' a' w' q1 q2 q3 ((Ext.drew ρ h w).trans q4)
  exact Nat.le_trans (List.length_filter_le _ _) (by simp)
end
end Go.CRun
