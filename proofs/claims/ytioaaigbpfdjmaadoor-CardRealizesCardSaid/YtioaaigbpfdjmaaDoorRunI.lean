/-
  CRUN, part I: 'append', 'copy', maps, iterators, calls: all that makes or writes memory, together.
-/
import Derived.Test.YtioaaigbpfdjmaaDoorRunH
set_option linter.unusedSimpArgs false
set_option linter.unusedVariables false
namespace Go.CRun
open Go Go.RowKit
section
variable {P : Program} {G : Globs} {N : Nat} {ρ : Ren} {h : Hp} {w : World} {tm : TM} {a : Act}

theorem isIntD_false {d : TypeDesc} (h : isIntD d = false) : (∃ e, d = .slice e) ∨ d = .string := by
  cases d <;> first | (exact .inl ⟨_, rfl⟩) | (exact .inr rfl) | (simp [isIntD] at h)

/-- append, where there is room. -/
theorem run_append_in {argTypes args : Array _} {ty sT xT e : Nat} {xd : TypeDesc} {ie : TypeInfo} {base' : Option Addr} {len cap n : Nat} {x' : Value} (h0 : argTypes[0]? = some sT) (h1 : argTypes[1]? = some xT)
    (ha0 : args[0]? = some (Value.slice base' len cap)) (ha1 : args[1]? = some x') (hU : P.underlying sT = some (.slice e)) (hX : P.underlying xT = some xd) (hxd : isIntD xd = false) (hie : P.info? e = some ie)
    (hlen : (Builtin.lenOf x').run P w = .ok n w) (hroom : len + n ≤ cap) {new' : List Value} (hnew : (Builtin.firstCells ie.size n x').run P w = .ok new'.toArray w) {w' : World}
    (hst : match base' with | some ad => (storeCells (ad.add (len * ie.size)) new').run P w = .ok () w' | none => w' = w) :
    (Builtin.append_ argTypes ty args).run P w = .ok (.slice base' (len + n) cap) w' := by
  rcases isIntD_false hxd with ⟨e2, rfl⟩ | rfl <;> cases base' with
  | none =>
    simp only at hst; subst hst
    simp [Builtin.append_, h0, h1, ha0, ha1, underlying, hU, hX, sizeOf, typeInfo, hie, hlen, hroom, hnew]
  | some ad =>
    simp only at hst
    simp [Builtin.append_, h0, h1, ha0, ha1, underlying, hU, hX, sizeOf, typeInfo, hie, hlen, hroom, hnew, hst]

/-- append, where a new row is made. -/
theorem run_append_out {argTypes args : Array _} {ty sT xT e : Nat} {xd : TypeDesc} {ie : TypeInfo} {z : Value} {base' : Option Addr} {len cap n : Nat} {x' : Value} (h0 : argTypes[0]? = some sT) (h1 : argTypes[1]? = some xT)
    (ha0 : args[0]? = some (Value.slice base' len cap)) (ha1 : args[1]? = some x') (hU : P.underlying sT = some (.slice e)) (hX : P.underlying xT = some xd) (hxd : isIntD xd = false) (hie : P.info? e = some ie)
    (hz : ie.zero = some z)
    (hlen : (Builtin.lenOf x').run P w = .ok n w) (hroom : cap < len + n) (hfit : (len + n) * ie.bytes < 140737488355328) (hb : 0 < ie.bytes) {old' new' : List Value}
    (hold : (Builtin.firstCells ie.size len (.slice base' len cap)).run P w.drew = .ok old'.toArray w.drew)
    (hnew : (Builtin.firstCells ie.size n x').run P w.drew = .ok new'.toArray w.drew) :
    ∃ extra rest, rest.length = extra * z.cells.size ∧ (Builtin.append_ argTypes ty args).run P w = .ok (.slice (some ⟨w.heap.size, 0, none⟩) (len + n) (len + n + extra))
      (w.drew.alloc (.cells ((old' ++ new') ++ rest).toArray e)) := by
  have hroom' : ¬ (len + n ≤ cap) := by omega
  have h48 : ¬ (Builtin.nextslicecap (len + n) cap * ie.bytes > 2 ^ 48) := by
    have := growslice_fits (need := len + n) (old := cap) (bytes := ie.bytes) hroom (by omega)
    omega
  have hbz : ¬ (ie.bytes = 0) := by omega
  refine ⟨grownCap w (len + n) cap e - (len + n), (Builtin.zeroCells z.cells (grownCap w (len + n) cap e - (len + n))).toList, by simp [Builtin.zeroCells], ?_⟩
  have hge : len + n ≤ grownCap w (len + n) cap e := by simp [grownCap, Question.cut]
  have hcap : len + n + (grownCap w (len + n) cap e - (len + n)) = grownCap w (len + n) cap e := by omega
  rw [hcap]
  have hroom2 : ¬ (len + n ≤ cap) := by omega
  have harr : (old'.toArray ++ (new'.toArray ++ Builtin.zeroCells z.cells (grownCap w (len + n) cap e - (len + n)))) = ((old' ++ new') ++ (Builtin.zeroCells z.cells (grownCap w (len + n) cap e - (len + n))).toList).toArray := by
    apply Array.ext'; simp
  rw [← harr]
  have h48' : ¬ (281474976710656 < Builtin.nextslicecap (len + n) cap * ie.bytes) := by simpa using h48
  rcases isIntD_false hxd with ⟨e2, rfl⟩ | rfl
  · simp [Builtin.append_, h0, h1, ha0, ha1, underlying, hU, hX, sizeOf, typeInfo, hie, hlen, hroom2, hbz, h48', Question.forced, hold, hnew, zeroValue, hz, newRow, grownCap]
  · simp [Builtin.append_, h0, h1, ha0, ha1, underlying, hU, hX, sizeOf, typeInfo, hie, hlen, hroom2, hbz, h48', Question.forced, hold, hnew, zeroValue, hz, newRow, grownCap]

/-- A block goes on under a new number; the old number is forgotten. -/
theorem Inv.adopt (I : Inv G N ρ h w) {i : Nat} {b0 : Blk} {p : Place} (hg : h.get i = some b0) (hb0 : b0 ≠ .dead) (hp : ρ i = some p) (b : Blk) (hb : b ≠ .dead) (off x : Nat) (w' : World)
    (hos : w'.os = w.os) (htape : w'.tape = w.tape) (hout : w'.output = w.output) (hsize : w'.heap.size = w.heap.size) (hframe : ∀ k, k ≠ p.blk → w'.heap[k]? = w.heap[k]?)
    (hok : BlkOK (ρ.upd h.n ⟨p.blk, off, x⟩) w' ⟨p.blk, off, x⟩ b) :
    Inv G N (ρ.upd h.n ⟨p.blk, off, x⟩) ((h.put i .dead).push b) w' ∧ Ext ρ h w (ρ.upd h.n ⟨p.blk, off, x⟩) ((h.put i .dead).push b) w' := by
  have hn : ρ h.n = none := I.fresh _ (Nat.le_refl _)
  have he : Extends ρ (ρ.upd h.n ⟨p.blk, off, x⟩) := Ren.upd_ext hn
  obtain ⟨p', hp', hN, hold⟩ := I.dom i b0 hg hb0
  rw [hp] at hp'; cases hp'
  have hcase : ∀ j c, ((h.put i .dead).push b).get j = some c → c ≠ .dead → (j = h.n ∧ c = b) ∨ (j ≠ h.n ∧ j ≠ i ∧ h.get j = some c) := by
    intro j c hj hc
    rw [Hp.get_push, Hp.put_n] at hj
    split at hj
    · rename_i e; exact .inl ⟨e, by simpa using hj.symm⟩
    · rename_i e
      rw [Hp.get_put] at hj
      split at hj
      · rename_i e2; subst e2; rw [hg] at hj; simp at hj; exact absurd hj.symm hc
      · rename_i e2; exact .inr ⟨e, fun h => e2 h.symm, hj⟩
  refine ⟨⟨?_, ?_, ?_, ?_, ?_⟩, ⟨he, hos, htape, hout, by omega, ?_, ?_⟩⟩
  · intro j hj
    rw [Hp.push_n, Hp.put_n] at hj
    simp only [Ren.upd]
    rw [if_neg (by omega)]
    exact I.fresh j (by omega)
  · intro j c hj hc
    rcases hcase j c hj hc with ⟨rfl, rfl⟩ | ⟨h1, h2, h3⟩
    · exact ⟨_, Ren.upd_at _ _ _, hN, hok⟩
    · obtain ⟨q, k1, k2, k3⟩ := I.dom j c h3 hc
      exact ⟨q, he _ _ k1, k2, k3.mono he (hframe _ fun e => h2 (I.inj j i c b0 q p h3 hc hg hb0 k1 hp e))⟩
  · intro j k bj bk q r hj hbj hk hbk hq hr hqr
    rcases hcase j bj hj hbj with ⟨rfl, rfl⟩ | ⟨h1, h2, h3⟩ <;> rcases hcase k bk hk hbk with ⟨rfl, rfl⟩ | ⟨k1, k2, k3⟩
    · rfl
    · obtain ⟨r', m1, _, _⟩ := I.dom k bk k3 hbk
      rw [he _ _ m1] at hr; cases hr
      rw [Ren.upd_at] at hq; cases hq
      exact absurd (I.inj k i bk b0 _ p k3 hbk hg hb0 m1 hp hqr.symm) k2
    · obtain ⟨q', m1, _, _⟩ := I.dom j bj h3 hbj
      rw [he _ _ m1] at hq; cases hq
      rw [Ren.upd_at] at hr; cases hr
      exact absurd (I.inj j i bj b0 _ p h3 hbj hg hb0 m1 hp hqr) h2
    · obtain ⟨q', m1, _, _⟩ := I.dom j bj h3 hbj
      obtain ⟨r', m2, _, _⟩ := I.dom k bk k3 hbk
      rw [he _ _ m1] at hq; cases hq
      rw [he _ _ m2] at hr; cases hr
      exact I.inj j k bj bk _ _ h3 hbj k3 hbk m1 m2 hqr
  · exact I.glob.frame I.big fun k hk => hframe k (by omega)
  · rw [hsize]; exact I.big
  · intro k hk ho
    exact hframe k fun e => ho ⟨i, b0, p, hg, hb0, hp, e.symm⟩
  · rintro k ⟨j, c, q, hj, hc, hq, rfl⟩
    rcases hcase j c hj hc with ⟨rfl, rfl⟩ | ⟨h1, h2, h3⟩
    · rw [Ren.upd_at] at hq; cases hq; exact .inl ⟨i, b0, p, hg, hb0, hp, rfl⟩
    · obtain ⟨q', m1, _, _⟩ := I.dom j c h3 hc
      rw [he _ _ m1] at hq; cases hq
      exact .inl ⟨j, c, _, h3, hc, m1, rfl⟩

/-- A number for a block that is not told. -/
theorem Inv.pushDead (I : Inv G N ρ h w) (p : Place) : Inv G N (ρ.upd h.n p) (h.push .dead) w ∧ Ext ρ h w (ρ.upd h.n p) (h.push .dead) w := by
  have hn : ρ h.n = none := I.fresh _ (Nat.le_refl _)
  have he : Extends ρ (ρ.upd h.n p) := Ren.upd_ext hn
  have hcase : ∀ j c, (h.push .dead).get j = some c → c ≠ .dead → h.get j = some c := by
    intro j c hj hc
    rw [Hp.get_push] at hj
    split at hj
    · simp at hj; exact absurd hj.symm hc
    · exact hj
  refine ⟨⟨?_, ?_, ?_, I.glob, I.big⟩, ⟨he, rfl, rfl, rfl, Nat.le_refl _, fun _ _ _ => rfl, ?_⟩⟩
  · intro j hj
    rw [Hp.push_n] at hj
    simp only [Ren.upd]
    rw [if_neg (by omega)]
    exact I.fresh j (by omega)
  · intro j c hj hc
    obtain ⟨q, k1, k2, k3⟩ := I.dom j c (hcase j c hj hc) hc
    exact ⟨q, he _ _ k1, k2, k3.mono he rfl⟩
  · intro j k bj bk q r hj hbj hk hbk hq hr hqr
    obtain ⟨q', m1, _, _⟩ := I.dom j bj (hcase j bj hj hbj) hbj
    obtain ⟨r', m2, _, _⟩ := I.dom k bk (hcase k bk hk hbk) hbk
    rw [he _ _ m1] at hq; cases hq
    rw [he _ _ m2] at hr; cases hr
    exact I.inj j k bj bk _ _ (hcase j bj hj hbj) hbj (hcase k bk hk hbk) hbk m1 m2 hqr
  · rintro k ⟨j, c, q, hj, hc, hq, rfl⟩
    obtain ⟨q', m1, _, _⟩ := I.dom j c (hcase j c hj hc) hc
    rw [he _ _ m1] at hq; cases hq
    exact .inl ⟨j, c, _, hcase j c hj hc, hc, m1, rfl⟩

theorem Good.trans {ρ1 : Ren} {h1 : Hp} {w1 : World} (E : Ext ρ h w ρ1 h1 w1) {K : Value → Hp → Bool} {v' : Value} {w' : World} (g : Good G N ρ1 h1 w1 K v' w') : Good G N ρ h w K v' w' :=
  let ⟨ρ', h', v, a, b, c, d⟩ := g; ⟨ρ', h', v, a, b, c, E.trans d⟩

theorem appendK_ok (I : Inv G N ρ h w) {argTypes args : Array _} {ty sT xT : Nat} {s s' x x' : Value} (h0 : argTypes[0]? = some sT) (h1 : argTypes[1]? = some xT) (ha0 : args[0]? = some s') (ha1 : args[1]? = some x')
    (hs : VR ρ s s') (hx : VR ρ x x') {K : Value → Hp → Bool} (hk : appendK P G h sT xT s x K = true) :
    ∃ v' w', (Builtin.append_ argTypes ty args).run P w = .ok v' w' ∧ Good G N ρ h w K v' w' := by
  unfold appendK at hk
  split at hk
  case h_2 => cases hk
  rename_i e xd n hU hX hn
  split at hk
  case h_2 => cases hk
  rename_i ie z hxd hie hz
  split at hk
  case h_2 => cases hk
  rename_i new base' len cap hfe hzs
  obtain ⟨⟨ie2, hie2, hzz⟩, _⟩ := zeroE_ok hz
  rw [hie] at hie2; cases hie2
  have hzs := beq_true.1 hzs
  obtain ⟨new', hnl, hnew⟩ := firstE_ok (P := P) I hx hfe
  have hlen := lenE_ok (P := P) hx hn w
  split at hk
  · -- room
    rename_i hone hroom
    have hroom := ble_true.1 hroom
    split at hk
    · rename_i ad
      obtain ⟨ad', cap', rfl, hcc, hv⟩ := hs.slice_some
      have hslice : ∀ {ρ' : Ren} (l : Nat), Extends ρ ρ' → VR ρ' (.slice (some ad) l cap) (.slice (some ad') l cap') := by
        intro ρ' l he
        rcases hs.slice_inv with ⟨q1, q2⟩ | ⟨q1, p, q2, q3⟩
        · simp at q2; obtain ⟨rfl, rfl⟩ := q2; exact .flat (n := 0) (by simp [flatN, blt_true.2 q1])
        · simp at q3; obtain ⟨rfl, rfl⟩ := q3; exact .slice q1 (he _ _ q2)
      split at hk
      · have hnil := hnl.nil_inv
        subst hnil
        refine ⟨_, w, run_append_in h0 h1 ha0 ha1 hU hX hxd hie hlen (by omega) hnew (w' := w) (by simp [storeCells]), ρ, h, _, hk, hslice _ (.refl _), I, .refl _ _ _⟩
      · obtain ⟨w', h', q1, q2, q3, q4⟩ := storeCells_ok (P := P) I (hv.add _) hnl hk
        exact ⟨_, w', run_append_in h0 h1 ha0 ha1 hU hX hxd hie hlen (by omega) hnew (w' := w') q1, ρ, h', _, q2, hslice _ (.refl _), q3, q4⟩
    · rw [hs.nilSlice] at ha0
      split at hk
      · have hnil := hnl.nil_inv
        subst hnil
        exact ⟨_, w, run_append_in h0 h1 ha0 ha1 hU hX hxd hie hlen hroom hnew (w' := w) rfl, ρ, h, _, hk, .flat (n := 0) rfl, I, .refl _ _ _⟩
      · cases hk
  · -- a new row, or the old one where it has room
    rename_i hone hroom
    have hroom : cap < len + n := by
      rcases Nat.lt_or_ge cap (len + n) with hlt | hge
      · exact hlt
      · rw [ble_true.2 hge] at hroom; cases hroom
    split at hk
    case h_2 => cases hk
    rename_i hfit
    have hfits : (len + n) * ie.bytes < 140737488355328 ∧ 0 < ie.bytes := by
      unfold fitsE at hfit
      split at hfit
      · rename_i q1 q2; exact ⟨blt_true.1 q1, blt_true.1 q2⟩
      · cases hfit
    have Id := I.drew
    obtain ⟨new2, hnl2, hnew2⟩ := firstE_ok (P := P) Id hx hfe
    split at hk
    · -- nil
      split at hk
      · rename_i hl0
        have hl0 := beq_true.1 hl0
        subst hl0
        rw [hs.nilSlice] at ha0
        rw [Hp.pushK_eq] at hk
        obtain ⟨extra, rest, hr, hrun⟩ := run_append_out (P := P) (w := w) (ty := ty) h0 h1 ha0 ha1 hU hX hxd hie hzz hlen hroom hfits.1 hfits.2 (old' := []) (new' := new2) (by simp [Builtin.firstCells]) hnew2
        obtain ⟨I', E'⟩ := Id.allocCells rest hnl2 e ie.size extra true (by simp) (by rw [hr, hzs]; exact Nat.le_refl _)
        refine ⟨_, _, hrun, _, _, _, hk, ?_, I', (Ext.drew ρ h w).trans E'⟩
        have := newSlice_ok (ρ := ρ) (h := h) ⟨w.heap.size, 0, extra⟩ n n
        simpa using this
      · cases hk
    · rename_i ad
      split at hk
      case h_2 => cases hk
      rename_i old c e0 sz0 g hcells hblk hget
      have g1 := blt_false.1 hblk
      rcases hs.slice_inv with ⟨q1, _⟩ | ⟨_, p, q2, q3⟩
      · omega
      subst q3
      obtain ⟨p', hp', hN, hok⟩ := I.dom _ _ hget (by simp)
      rw [q2] at hp'; cases hp'
      have hvp : VR ρ (.pointer (some ad)) (.pointer (some ⟨p.blk, p.off + ad.off, ad.spot⟩)) := .ptr g1 q2
      obtain ⟨old', ho1, ho2, ho3, _⟩ := cellsAt_ok (P := P) Id hvp hcells
      have hout : cap + p.extra < len + n → K (newSlice h (len + n) (len + n)) ((h.push (.cells (old ++ new) e ie.size true))) = true ∨ (g = true ∧ K (newSlice (h.put (ad.block - base) .dead) (len + n) (len + n)) ((h.put (ad.block - base) .dead).push (.cells (old ++ new) e ie.size true)) = true) →
          ∃ v' w', (Builtin.append_ argTypes ty args).run P w = .ok v' w' ∧ Good G N ρ h w K v' w' := by
        intro hlt hK
        obtain ⟨extra, rest, hr, hrun⟩ := run_append_out (P := P) (w := w) (ty := ty) h0 h1 ha0 ha1 hU hX hxd hie hzz hlen hlt hfits.1 hfits.2 (old' := old') (new' := new2) (by simpa [Builtin.firstCells] using ho3) hnew2
        rcases hK with hK | ⟨_, hK⟩
        · obtain ⟨I', E'⟩ := Id.allocCells rest (ho1.append hnl2) e ie.size extra true (by simp) (by rw [hr, hzs]; exact Nat.le_refl _)
          refine ⟨_, _, hrun, _, _, _, hK, ?_, I', (Ext.drew ρ h w).trans E'⟩
          have := newSlice_ok (ρ := ρ) (h := h) ⟨w.heap.size, 0, extra⟩ (len + n) (len + n)
          simpa using this
        · obtain ⟨Ik, Ek⟩ := Id.kill (ad.block - base)
          obtain ⟨I', E'⟩ := Ik.allocCells rest (ho1.append hnl2) e ie.size extra true (by simp) (by rw [hr, hzs]; exact Nat.le_refl _)
          refine ⟨_, _, hrun, _, _, _, hK, ?_, I', (Ext.drew ρ h w).trans (Ek.trans E')⟩
          have := newSlice_ok (ρ := ρ) (h := h.put (ad.block - base) .dead) ⟨w.heap.size, 0, extra⟩ (len + n) (len + n)
          simpa using this
      split at hk
      · rw [Hp.pushK_eq] at hk
        have hx0 : p.extra = 0 := hok.1 rfl
        exact hout (by omega) (.inl hk)
      · split at hk
        case h_2 => cases hk
        rename_i hend hlc he0 hsz0 hnn
        have hnn := beq_true.1 hnn
        have hend := beq_true.1 hend
        have hlc := beq_true.1 hlc
        have he0 := beq_true.1 he0
        have hsz0 := beq_true.1 hsz0
        subst hlc; subst he0; subst hsz0
        rw [Hp.putK_eq] at hk
        simp only [fList_eq, Hp.pushK_eq] at hk
        by_cases hroom2 : len + p.extra < len + n
        · exact hout hroom2 (.inr ⟨rfl, hk⟩)
        · -- the old row has room
          have hspot : ad.spot = none := by
            unfold cellsAt at hcells
            split at hcells
            · cases hcells
            · assumption
          obtain ⟨_, C, lo, hi, hh, hfz, hsz, hcell⟩ := hok
          have hone' : ∀ v ∈ new', v.oneCell' = true := by
            intro v' hm
            obtain ⟨i, hi, he⟩ := List.mem_iff_getElem.1 hm
            have hi2 : i < new.length := by rw [hnl.1]; exact hi
            have := hnl.2 i new[i] v' (List.getElem?_eq_getElem hi2) (by rw [List.getElem?_eq_getElem hi, he])
            rw [this.oneCell]; exact oneCells_mem hone _ (List.getElem_mem hi2)
          have hnlen : new'.length = n * ie.size := by rw [← hnl.1, hnn]
          have hol : old.length = len * ie.size := by rw [ho1.1, ho2]
          have hmul : n * ie.size ≤ p.extra * ie.size := Nat.mul_le_mul_right _ (by omega)
          have hsub : (p.extra - n) * ie.size = p.extra * ie.size - n * ie.size := Nat.sub_mul _ _ _
          have hold : ∀ j, j < len * ie.size → old[j]? = c[ad.off + j]? := by
            intro j hj
            unfold cellsAt at hcells
            rw [hspot] at hcells
            simp only [cellsOf, hblk, hget] at hcells
            split at hcells
            · cases hcells; rw [List.getElem?_take_of_lt hj, List.getElem?_drop]
            · cases hcells
          obtain ⟨w', C', r1, r2, r3, r4, r5, r6, r7, r8, r9⟩ := run_storeCells_row (P := P) (ad := ⟨p.blk, p.off + ad.off + len * ie.size, none⟩) rfl new' 0 w C hone' hh
            (by simp; omega) (fun k hk1 hk2 => hfz k (by simp at hk1; omega) hk2)
          have hbk : BlkOK (ρ.upd h.n ⟨p.blk, p.off + ad.off, p.extra - n⟩) w' ⟨p.blk, p.off + ad.off, p.extra - n⟩ (.cells (old ++ new) e0 ie.size true) := by
            have hex := Ren.upd_ext (ρ := ρ) (i := h.n) (p := ⟨p.blk, p.off + ad.off, p.extra - n⟩) (I.fresh _ (Nat.le_refl _))
            refine ⟨by simp, C', lo, hi, r7, fun k hk1 hk2 => hfz k (by simp at hk1; omega) (by rw [← r8]; exact hk2), ?_, ?_⟩
            · simp only [List.length_append, hol, hnn, hsub, r8]; omega
            · intro j v hj
              rw [r9]
              simp only [Nat.add_zero]
              by_cases hjl : j < old.length
              · rw [List.getElem?_append_left hjl] at hj
                rw [if_neg (by omega)]
                rw [hold j (by omega)] at hj
                obtain ⟨v', m1, m2⟩ := hcell _ v hj
                refine ⟨v', ?_, m2.mono hex⟩
                rw [Nat.add_assoc]; exact m1
              · rw [List.getElem?_append_right (by omega)] at hj
                have hlt := (List.getElem?_eq_some_iff.1 hj).1
                rw [if_pos (by omega)]
                obtain ⟨v', m1, m2⟩ := hnl.get hj
                refine ⟨v', ?_, m2.mono hex⟩
                rw [show p.off + ad.off + j - (p.off + ad.off + len * ie.size) = j - old.length by omega]; exact m1
          obtain ⟨I', E'⟩ := I.adopt hget (by simp) q2 (.cells (old ++ new) e0 ie.size true) (by simp) (p.off + ad.off) (p.extra - n) w' r2 r3 r4 r5 r6 hbk
          refine ⟨_, w', run_append_in h0 h1 ha0 ha1 hU hX hxd hie hlen (by omega) hnew (w' := w') ?_, _, _, _, hk, ?_, I', E'⟩
          · simp only; rw [add_eq (⟨p.blk, p.off + ad.off, ad.spot⟩ : Addr) hspot]; exact r1
          · have := newSlice_ok (ρ := ρ) (h := h) ⟨p.blk, p.off + ad.off, p.extra - n⟩ (len + n) (len + n)
            rw [hspot]
            rw [show len + p.extra = len + n + (p.extra - n) by omega]
            exact this
  · cases hk
end
end Go.CRun
