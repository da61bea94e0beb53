/-
  CRUN, part E: what reads only, further: slices, comparisons, maps, integers; and all of it together.
-/
import Derived.Test.YtioaaigbpfdjmaaDoorRunD
import Derived.Laws.BytesString
set_option linter.unusedSimpArgs false
set_option linter.unusedVariables false
namespace Go.CRun
open Go Go.RowKit
section
variable {P : Program} {G : Globs} {N : Nat} {ρ : Ren} {h : Hp} {w : World} {tm : TM} {a : Act}

theorem wrapF_eq (k : IntKind) (n : Int) : wrapF k n = k.wrap n := by
  unfold wrapF
  split
  · rename_i m
    split
    · rename_i hm
      have hm := blt_true.1 hm
      cases k <;> simp [halfOf] at hm <;> simp [IntKind.wrap, IntKind.bits, IntKind.signed] <;> omega
    · rfl
  · rfl
theorem kindEq_true {j k : IntKind} (h : kindEq j k = true) : j = k := by
  unfold kindEq at h
  have := beq_true.1 h
  cases j <;> cases k <;> first | rfl | (simp [IntKind.ctorIdx] at this)
theorem notB_eq (b : Bool) : notB b = !b := by cases b <;> rfl
theorem ltI_eq (x y : Int) : ltI x y = decide (x < y) := by
  cases x with
  | ofNat m => cases y with
    | ofNat n => simp only [ltI]; rw [Bool.eq_iff_iff, blt_true]; simp
    | negSucc n => simp only [ltI]; symm; rw [decide_eq_false_iff_not]; simp only [Int.ofNat_eq_natCast]; omega
  | negSucc m => cases y with
    | ofNat n => simp only [ltI]; symm; rw [decide_eq_true_eq]; simp only [Int.ofNat_eq_natCast]; omega
    | negSucc n => simp only [ltI]; rw [Bool.eq_iff_iff, blt_true, decide_eq_true_eq]; omega
theorem eqI_eq (x y : Int) : eqI x y = (x == y) := by
  cases x with
  | ofNat m => cases y with
    | ofNat n => simp only [eqI]; rw [Bool.eq_iff_iff, beq_true]; simp only [Int.ofNat_eq_natCast, beq_iff_eq]; omega
    | negSucc n => simp only [eqI]; symm; rw [beq_eq_false_iff_ne]; simp only [Int.ofNat_eq_natCast]; omega
  | negSucc m => cases y with
    | ofNat n => simp only [eqI]; symm; rw [beq_eq_false_iff_ne]; simp only [Int.ofNat_eq_natCast]; omega
    | negSucc n => simp only [eqI]; rw [Bool.eq_iff_iff, beq_true]; simp only [beq_iff_eq]; omega
theorem leI_eq (x y : Int) : notB (ltI y x) = decide (x ≤ y) := by
  rw [notB_eq, ltI_eq, Bool.eq_iff_iff]; simp
theorem powOf_eq (k : IntKind) : powOf k = 2 ^ k.bits := by cases k <;> rfl
theorem ofInt_toNat (k : IntKind) (m : Nat) : (BitVec.ofInt k.bits (Int.ofNat m)).toNat = m % powOf k := by
  rw [powOf_eq]
  simp

theorem intE_ok {op : BinOp} {j k : IntKind} {x y : Int} {v : Value} (hv : intE op j x k y = some v) (t : TypeId) (w : World) :
    (binOp op t (.int j x) (.int k y)).run P w = .ok v w ∧ VR ρ v v := by
  have flatI : ∀ k n, VR ρ (.int k n) (.int k n) := fun _ _ => .flat (n := 0) rfl
  have flatB : ∀ b, VR ρ (.bool b) (.bool b) := fun _ => .flat (n := 0) rfl
  unfold intE at hv
  split at hv
  · split at hv
    · rename_i n
      cases hv
      refine ⟨?_, flatI _ _⟩
      have hn : ¬ (Int.ofNat n < 0) := by simp
      simp only [binOp, Op.shift, hn, if_false, wrapF_eq, Sem.run_pure]
      simp
    · cases hv
  · split at hv
    · rename_i m n
      cases hv
      refine ⟨?_, flatI _ _⟩
      have hn : ¬ (Int.ofNat n < 0) := by simp
      simp only [binOp, Op.shift, hn, if_false, Sem.run_pure]
      congr 2
      show Int.fdiv (Int.ofNat m) (2 ^ min (Int.ofNat n).toNat j.bits) = Int.ofNat (m / 2 ^ min n j.bits)
      have e : ((2 : Int) ^ min (Int.ofNat n).toNat j.bits) = ((2 ^ min n j.bits : Nat) : Int) := by simp
      rw [e]
      exact Int.ofNat_fdiv m _ ▸ rfl
    · cases hv
  · rename_i hs1 hs2
    split at hv
    · cases hv
    · rename_i hk
      have := kindEq_true hk
      subst this
      have hb : ∀ (hh : op ≠ .shl ∧ op ≠ .shr), binOp op t (.int j x) (.int j y) = (match op with
          | .add | .sub | .mul => Op.intArith op j x y
          | .quo | .rem => Op.intDiv op j x y
          | .and | .or | .xor | .andNot => Op.intBits op j x y
          | _ => Op.intCmp op x y) := by
        intro hh; cases op <;> first | exact (hh.1 rfl).elim | exact (hh.2 rfl).elim | simp [binOp]
      rw [hb ⟨hs1, hs2⟩]
      have arith : ∀ {u : Value}, some u = some v → (∀ w, (match op with
          | .add | .sub | .mul => Op.intArith op j x y
          | .quo | .rem => Op.intDiv op j x y
          | .and | .or | .xor | .andNot => Op.intBits op j x y
          | _ => Op.intCmp op x y).run P w = .ok u w) → VR ρ u u → (match op with
          | .add | .sub | .mul => Op.intArith op j x y
          | .quo | .rem => Op.intDiv op j x y
          | .and | .or | .xor | .andNot => Op.intBits op j x y
          | _ => Op.intCmp op x y).run P w = .ok v w ∧ VR ρ v v := by
        intro u e h1 h2; cases e; exact ⟨h1 w, h2⟩
      cases op
      case add => exact arith hv (fun w => by simp [Op.intArith, wrapF_eq]) (flatI _ _)
      case sub => exact arith hv (fun w => by simp [Op.intArith, wrapF_eq]) (flatI _ _)
      case mul => exact arith hv (fun w => by simp [Op.intArith, wrapF_eq]) (flatI _ _)
      case eql => exact arith hv (fun w => by simp [Op.intCmp, eqI_eq]) (flatB _)
      case neq => exact arith hv (fun w => by simp [Op.intCmp, eqI_eq, notB_eq, bne]) (flatB _)
      case lss => exact arith hv (fun w => by simp [Op.intCmp, ltI_eq]) (flatB _)
      case leq => exact arith hv (fun w => by simp only [Op.intCmp, leI_eq, Sem.run_pure]) (flatB _)
      case gtr => exact arith hv (fun w => by simp [Op.intCmp, ltI_eq]) (flatB _)
      case geq => exact arith hv (fun w => by simp only [Op.intCmp, leI_eq, Sem.run_pure, ge_iff_le]) (flatB _)
      case quo =>
        cases x <;> cases y <;> simp only [] at hv <;> try (cases hv; done)
        rename_i m n
        cases n with
        | zero => simp at hv
        | succ n => exact arith hv (fun w => by simp [Op.intDiv, wrapF_eq]; first | done | (split <;> first | omega | congr 2)) (flatI _ _)
      case rem =>
        cases x <;> cases y <;> simp only [] at hv <;> try (cases hv; done)
        rename_i m n
        cases n with
        | zero => simp at hv
        | succ n => exact arith hv (fun w => by simp [Op.intDiv, wrapF_eq]; first | done | (split <;> first | omega | congr 2)) (flatI _ _)
      case and => cases x <;> cases y <;> simp only [] at hv <;> first | (cases hv; done) | exact arith hv (fun w => by simp only [Op.intBits, Sem.run_pure, wrapF_eq, BitVec.toNat_and, ofInt_toNat]; rfl) (flatI _ _)
      case or => cases x <;> cases y <;> simp only [] at hv <;> first | (cases hv; done) | exact arith hv (fun w => by simp only [Op.intBits, Sem.run_pure, wrapF_eq, BitVec.toNat_or, ofInt_toNat]; rfl) (flatI _ _)
      case xor => cases x <;> cases y <;> simp only [] at hv <;> first | (cases hv; done) | exact arith hv (fun w => by simp only [Op.intBits, Sem.run_pure, wrapF_eq, BitVec.toNat_xor, ofInt_toNat]; rfl) (flatI _ _)
      case andNot => cases x <;> cases y <;> simp only [] at hv <;> first | (cases hv; done) | exact arith hv (fun w => by simp only [Op.intBits, Sem.run_pure, wrapF_eq, BitVec.toNat_and, BitVec.toNat_not, ofInt_toNat, ← powOf_eq]; rfl) (flatI _ _)
      all_goals cases hv

theorem VR.nil_of {v v' : Value} (hv : VR ρ v v') : (v = .pointer none ↔ v' = .pointer none) ∧ (v = .nilFunc ↔ v' = .nilFunc) := by
  cases hv <;> simp

theorem sliceE_ok (I : Inv G N ρ h w) {t : TypeId} {x x' : Value} (hx : VR ρ x x') {lo lo' hi hi' : Option Value}
    (hlo : OR ρ lo lo') (hhi : OR ρ hi hi')
    {v : Value} (hs : sliceE P h t x lo hi = some v) : ∃ v', (Instr.sliceAt t x' lo' hi' none).run P w = .ok v' w ∧ VR ρ v v' := by
  have bounds : ∀ (isS : Bool) (len cap cap' hh l : Nat), boundE hi len cap = some hh → boundE lo 0 hh = some l → cap ≤ cap' → (isS = false → len = cap') →
      (Instr.sliceBounds isS len cap' lo' hi' none).run P w = .ok (l, hh, cap') w := by
    intro isS len cap cap' hh l h1 h2 h3 _
    have b1 := boundE_ok (P := P) hhi h1 h3 (if isS then .sliceAcap else .sliceAlen) w
    have b2 := boundE_ok (P := P) hlo h2 (Nat.le_refl _) .sliceB w
    cases hi' with
    | none =>
      cases lo' with
      | none =>
        have e1 := b1.1; have e2 := b2.1
        simp at e1 e2
        subst e1; subst e2
        simp [Instr.sliceBounds]
      | some _ =>
        have e1 := b1.1; have e2 := b2.1
        simp at e1 e2
        subst e1
        simp [Instr.sliceBounds, e2]
    | some _ =>
      cases lo' with
      | none =>
        have e1 := b1.1; have e2 := b2.1
        simp at e1 e2
        subst e2
        simp [Instr.sliceBounds, e1]
      | some _ =>
        have e1 := b1.1; have e2 := b2.1
        simp at e1 e2
        simp [Instr.sliceBounds, e1, e2]
  unfold sliceE at hs
  split at hs
  · rename_i e ad len cap hd
    split at hs
    · rename_i hh ie hb1 hi1
      split at hs
      · rename_i l hb2
        rcases hx.slice_inv with ⟨g1, g2⟩ | ⟨g1, p, g2, g3⟩
        · cases g2
          have hb := bounds true len cap cap hh l hb1 hb2 (Nat.le_refl _) (by simp)
          have hrun : ∀ ad2, (if cap = l then ad else ad.add (l * ie.size)) = ad2 → (Instr.sliceAt t (.slice (some ad) len cap) lo' hi' none).run P w = .ok (.slice (some ad2) (hh - l) (cap - l)) w := by
            intro ad2 e2; subst e2
            simp only [Instr.sliceAt, Instr.slice, underlying, Sem.run_bind, run_program, Result.andThen_ok, hd, Sem.run_pure, hb, sizeOf, typeInfo, hi1]
            split <;> rfl
          split at hs
          · rename_i hc
            have hc := beq_true.1 hc
            split at hs
            · cases hs
              exact ⟨_, hrun ad (by rw [if_pos hc]), .flat (n := 0) (by simp [flatN, blt_true.2 g1])⟩
            · cases hs
          · rename_i hc
            have hc := beq_false.1 hc
            split at hs
            · cases hs
              refine ⟨_, hrun _ rfl, ?_⟩
              rw [if_neg hc]
              refine .flat (n := 0) ?_
              have : (ad.add (l * ie.size)).block = ad.block := by unfold Addr.add; split <;> rfl
              simp [flatN, this, blt_true.2 g1]
            · cases hs
        · subst g3
          have hb := bounds true len cap (cap + p.extra) hh l hb1 hb2 (by omega) (by simp)
          have hrun : ∀ ad2, (if cap + p.extra = l then (⟨p.blk, p.off + ad.off, ad.spot⟩ : Addr) else (⟨p.blk, p.off + ad.off, ad.spot⟩ : Addr).add (l * ie.size)) = ad2 →
              (Instr.sliceAt t (.slice (some ⟨p.blk, p.off + ad.off, ad.spot⟩) len (cap + p.extra)) lo' hi' none).run P w = .ok (.slice (some ad2) (hh - l) (cap + p.extra - l)) w := by
            intro ad2 e2; subst e2
            simp only [Instr.sliceAt, Instr.slice, underlying, Sem.run_bind, run_program, Result.andThen_ok, hd, Sem.run_pure, hb, sizeOf, typeInfo, hi1]
            split <;> rfl
          split at hs
          · rename_i hc
            have hc := beq_true.1 hc
            split at hs
            · rename_i hl0
              have hl0 := beq_true.1 hl0
              cases hs
              subst hl0
              refine ⟨_, hrun ⟨p.blk, p.off + ad.off, ad.spot⟩ (by split <;> simp [Addr.add]), ?_⟩
              have := VR.slice (ρ := ρ) (b := ad.block) (o := ad.off) (s := ad.spot) (l := hh - 0) (c := cap - 0) g1 g2
              simpa using this
            · cases hs
          · rename_i hc
            have hc := beq_false.1 hc
            split at hs
            · rename_i hle
              have hle := ble_true.1 hle
              cases hs
              refine ⟨_, hrun _ rfl, ?_⟩
              rw [if_neg (by omega)]
              have e3 : cap + p.extra - l = (cap - l) + p.extra := by omega
              rw [e3]
              unfold Addr.add
              split
              · exact VR.slice (ρ := ρ) (b := ad.block) (o := ad.off) (s := ad.spot) g1 g2
              · have := VR.slice (ρ := ρ) (b := ad.block) (o := ad.off + l * ie.size) (s := none) (l := hh - l) (c := cap - l) g1 g2
                simpa [Nat.add_assoc] using this
            · cases hs
      · cases hs
    · cases hs
  · rename_i e len cap hd
    split at hs
    · rename_i hh ie hb1 hi1
      split at hs
      · rename_i l hb2
        cases hs
        rw [hx.nilSlice]
        have hb := bounds true len cap cap hh l hb1 hb2 (Nat.le_refl _) (by simp)
        refine ⟨.slice none (hh - l) (cap - l), ?_, .flat (n := 0) rfl⟩
        simp only [Instr.sliceAt, Instr.slice, underlying, Sem.run_bind, run_program, Result.andThen_ok, hd, Sem.run_pure, hb, sizeOf, typeInfo, hi1]
        split <;> rfl
      · cases hs
    · cases hs
  · rename_i n e ad hd
    split at hs
    · rename_i hh ie c1 e1 s1 hb1 hi1 hblk hget
      split at hs
      · rename_i l hb2
        have g1 := blt_false.1 hblk
        rcases hx.ptr_inv with ⟨g, _⟩ | ⟨_, p, g2, g3⟩
        · omega
        · subst g3
          obtain ⟨p', hp', _, hok⟩ := I.dom _ _ hget (by simp)
          rw [g2] at hp'; cases hp'
          have hex : p.extra = 0 := hok.1 rfl
          have hb := bounds false n n n hh l hb1 hb2 (Nat.le_refl _) (by simp)
          have hrun : ∀ ad2, (if n = l then (⟨p.blk, p.off + ad.off, ad.spot⟩ : Addr) else (⟨p.blk, p.off + ad.off, ad.spot⟩ : Addr).add (l * ie.size)) = ad2 →
              (Instr.sliceAt t (.pointer (some ⟨p.blk, p.off + ad.off, ad.spot⟩)) lo' hi' none).run P w = .ok (.slice (some ad2) (hh - l) (n - l)) w := by
            intro ad2 e2; subst e2
            simp only [Instr.sliceAt, Instr.sureAddr, underlying, Sem.run_bind, run_program, Result.andThen_ok, hd, Sem.run_pure, hb, sizeOf, typeInfo, hi1]
          split at hs
          · rename_i hc
            have hc := beq_true.1 hc
            cases hs
            refine ⟨_, hrun _ rfl, ?_⟩
            rw [if_pos hc]
            have := VR.slice (ρ := ρ) (b := ad.block) (o := ad.off) (s := ad.spot) (l := hh - l) (c := n - l) g1 g2
            simpa [hex] using this
          · rename_i hc
            have hc := beq_false.1 hc
            cases hs
            refine ⟨_, hrun _ rfl, ?_⟩
            rw [if_neg hc]
            unfold Addr.add
            split
            · have := VR.slice (ρ := ρ) (b := ad.block) (o := ad.off) (s := ad.spot) (l := hh - l) (c := n - l) g1 g2
              simpa [hex] using this
            · have := VR.slice (ρ := ρ) (b := ad.block) (o := ad.off + l * ie.size) (s := none) (l := hh - l) (c := n - l) g1 g2
              simpa [hex, Nat.add_assoc] using this
      · cases hs
    · cases hs
  · cases hs
end
end Go.CRun
