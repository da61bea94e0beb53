/-
  CRUN, part K: one operation.
-/
import Derived.Test.YtioaaigbpfdjmaaDoorRunJ
set_option linter.unusedSimpArgs false
set_option linter.unusedVariables false
namespace Go.CRun
open Go Go.RowKit
section
variable {P : Program} {G : Globs} {N : Nat} {ρ : Ren} {h : Hp} {w : World} {tm : TM} {a : Act}

/-- What a call comes to: a value at once, or a function that is entered and returns one. -/
def NextOK (P : Program) (r : Result Next) (R : Value → World → Prop) : Prop :=
  match r with
  | .ok (.value v) w' => R v w'
  | .ok .skip w' => R undef w'
  | .ok (.enter f args) w' => Calls P f args w' fun e w'' => ∃ v, e = .returned v ∧ R v w''
  | _ => False
theorem NextOK.mono {r : Result Next} {R R' : Value → World → Prop} (hR : ∀ v w, R v w → R' v w) (hn : NextOK P r R) : NextOK P r R' := by
  unfold NextOK at *
  split at hn
  · exact hR _ _ hn
  · exact hR _ _ hn
  · exact hn.mono fun e w ⟨v, a, b⟩ => ⟨v, a, hR _ _ b⟩
  · exact hn.elim
theorem NextOK.wp {o : Oper} {next : Act → World → Prop} {Q : Exit → Act → World → Prop} {R : Value → World → Prop} (hn : NextOK P ((execOp a.eval o).run P w) R) (hR : ∀ v w', R v w' → next (a.put o.dst v) w') :
    o.wp P a w next Q := by
  unfold Oper.wp
  unfold NextOK at hn
  split at hn
  · rename_i v w' e; rw [e]; exact hR _ _ hn
  · rename_i w' e; rw [e]; exact hR _ _ hn
  · rename_i f args w' e
    rw [e]
    exact hn.mono fun e w'' ⟨v, h1, h2⟩ => by subst h1; exact hR _ _ h2
  · exact hn.elim

/-- That a way to run calls is sound. -/
def CallSound (P : Program) (G : Globs) (N : Nat) (call : CallK) : Prop :=
  ∀ f args h K, call f args h K = true → ∀ ρ w (args' : Array Value), Inv G N ρ h w → LR ρ args args'.toList → NextOK P ((callFunc f args').run P w) (Good G N ρ h w K)

theorem default_flat : flatN 0 (default : Value) = true := rfl
theorem zerosFor_ok {z : Array Value} (hz : LR ρ z.toList z.toList) (n : Nat) : LR ρ (zerosFor z n) (zerosFor z n) := by
  refine ⟨rfl, fun i v v' h1 h2 => ?_⟩
  rw [h1] at h2; cases h2
  unfold zerosFor at h1
  rw [List.getElem?_map] at h1
  cases hr : (List.range n)[i]? with
  | none => simp [hr] at h1
  | some j =>
    simp [hr] at h1
    subst h1
    by_cases hj : j % z.size < z.size
    · have e : z[j % z.size]! = z[j % z.size] := getElem!_pos z _ hj
      rw [e]
      exact hz.2 (j % z.size) _ _ (by simp [hj]) (by simp [hj])
    · have e : z[j % z.size]! = default := getElem!_neg z _ hj
      rw [e]; exact .flat default_flat
theorem zerosFor_arr (z : Array Value) (n : Nat) : (Array.range n).map (fun i => z[i % z.size]!) = (zerosFor z n).toArray := by
  apply Array.ext'
  simp [zerosFor]

theorem sliceK_ok (I : Inv G N ρ h w) {t : TypeId} {x x' : Value} (hx : VR ρ x x') {lo lo' hi hi' : Option Value} (hlo : OR ρ lo lo') (hhi : OR ρ hi hi')
    {K : Value → Hp → Bool} (hs : sliceK P h t x lo hi K = true) : ∃ v' w', (Instr.sliceAt t x' lo' hi' none).run P w = .ok v' w' ∧ Good G N ρ h w K v' w' := by
  unfold sliceK at hs
  split at hs
  case h_2 => cases hs
  rename_i e ad len cap hd
  split at hs
  case h_2 => cases hs
  rename_i hh ie hb1 hi1
  split at hs
  case h_2 => cases hs
  rename_i l hb2
  split at hs
  case h_2 => cases hs
  rename_i hc hhl hblk hspot
  have hc := beq_true.1 hc
  have hhl := beq_true.1 hhl
  have g1 := blt_false.1 hblk
  rcases hx.slice_inv with ⟨q, _⟩ | ⟨_, p, g2, g3⟩
  · omega
  subst g3
  have hb : (Instr.sliceBounds true len (cap + p.extra) lo' hi' none).run P w = .ok (l, hh, cap + p.extra) w := by
    have b1 := boundE_ok (P := P) hhi hb1 (Nat.le_add_right cap p.extra) .sliceAcap w
    have b2 := boundE_ok (P := P) hlo hb2 (Nat.le_refl _) .sliceB w
    cases hi' with
    | none =>
      cases lo' with
      | none =>
        have e1 := b1.1; have e2 := b2.1
        simp at e1 e2
        subst e1; subst e2
        simp [Instr.sliceBounds]
      | some _ =>
        have e1 := b1.1; have e2 := b2.1
        simp at e1 e2
        subst e1
        simp [Instr.sliceBounds, e2]
    | some _ =>
      cases lo' with
      | none =>
        have e1 := b1.1; have e2 := b2.1
        simp at e1 e2
        subst e2
        simp [Instr.sliceBounds, e1]
      | some _ =>
        have e1 := b1.1; have e2 := b2.1
        simp at e1 e2
        simp [Instr.sliceBounds, e1, e2]
  have hrun : (Instr.sliceAt t (.slice (some ⟨p.blk, p.off + ad.off, ad.spot⟩) len (cap + p.extra)) lo' hi' none).run P w =
      .ok (.slice (some (if cap + p.extra = l then (⟨p.blk, p.off + ad.off, ad.spot⟩ : Addr) else (⟨p.blk, p.off + ad.off, ad.spot⟩ : Addr).add (l * ie.size))) (hh - l) (cap + p.extra - l)) w := by
    simp only [Instr.sliceAt, Instr.slice, underlying, Sem.run_bind, run_program, Result.andThen_ok, hd, Sem.run_pure, hb, sizeOf, typeInfo, hi1]
    split <;> rfl
  rw [Hp.pushK_eq] at hs
  have hA : ∃ o2, (if cap + p.extra = l then (⟨p.blk, p.off + ad.off, ad.spot⟩ : Addr) else (⟨p.blk, p.off + ad.off, ad.spot⟩ : Addr).add (l * ie.size)) = ⟨p.blk, o2, none⟩ := by
    rw [hspot]
    split
    · exact ⟨_, rfl⟩
    · rw [add_eq (⟨p.blk, p.off + ad.off, none⟩ : Addr) rfl]; exact ⟨_, rfl⟩
  obtain ⟨o2, hA⟩ := hA
  rw [hA] at hrun
  obtain ⟨I', E'⟩ := I.pushDead ⟨p.blk, o2, p.extra⟩
  refine ⟨_, w, hrun, _, _, _, hs, ?_, I', E'⟩
  have := newSlice_ok (ρ := ρ) (h := h) ⟨p.blk, o2, p.extra⟩ 0 0
  rw [show hh - l = 0 by omega, show cap + p.extra - l = 0 + p.extra by omega]
  exact this

theorem evOp_ok (T : TMR ρ tm a) {x : Option Operand} {u : Option Value} (hu : evOp tm x = some u) : OR ρ u (x.map a.eval) := by
  cases x with
  | none => simp [evOp] at hu; subst hu; trivial
  | some x =>
    simp only [evOp, Option.map_eq_some_iff] at hu
    obtain ⟨y, hy, rfl⟩ := hu
    exact evO_ok T hy

theorem nextV {s : Sem Value} {v' : Value} {w' : World} {R : Value → World → Prop} (hs : s.run P w = .ok v' w') (hR : R v' w') : NextOK P (((do pure (.value (← s))) : Sem Next).run P w) R := by
  simp only [Sem.run_bind, hs, Result.andThen_ok, Sem.run_pure]
  exact hR

theorem callK_ok {call : CallK} (S : CallSound P G N call) (I : Inv G N ρ h w) (T : TMR ρ tm a) {o : Oper} {c : Call} (ho : o.op = .call c) {K : Value → Hp → Bool} (hc : callK P G call tm h o c K = true) :
    NextOK P ((execOp a.eval o).run P w) (Good G N ρ h w K) := by
  unfold callK at hc
  split at hc
  · rename_i f args hcal hargs
    split at hc
    · rename_i g first captured hf
      have hv := evO_ok T hf
      obtain ⟨first', captured', e, h1, h2⟩ := hv.func_inv
      have hl := evL_ok T hargs
      have := S g _ h K hc ρ w (first' ++ c.args.map a.eval ++ captured') I (by
        simp only [Array.toList_append, Array.toList_map]
        exact (h1.append hl).append h2)
      simp only [execOp, ho, resolve, hcal, e, Deferred.ofValue, Sem.run_bind, Sem.run_pure, Result.andThen_ok, invoke]
      exact this
    · cases hc
  · rename_i s x hcal hargs
    split at hc
    · rename_i sT xT rt hty
      have hl := evL_ok T hargs
      obtain ⟨s', t, e1, hs, ht⟩ := hl.cons_inv
      obtain ⟨x', t2, e2, hx, ht2⟩ := ht.cons_inv
      subst e2
      have e0 : (c.args.map a.eval).toList = s' :: x' :: t2 := by simpa using e1
      obtain ⟨v', w', q1, q2⟩ := appendK_ok (P := P) (ty := o.type) (argTypes := c.argTypes) (args := c.args.map a.eval) I (by rw [← Array.getElem?_toList, hty]; rfl) (by rw [← Array.getElem?_toList, hty]; rfl)
        (by rw [← Array.getElem?_toList, e0]; rfl) (by rw [← Array.getElem?_toList, e0]; rfl) hs hx hc
      simp only [execOp, ho, resolve, hcal, Sem.run_bind, Sem.run_pure, Result.andThen_ok, invoke, builtin, q1]
      exact q2
    · cases hc
  · rename_i d x hcal hargs
    split at hc
    · rename_i dT rt hty
      have hl := evL_ok T hargs
      obtain ⟨s', t, e1, hs, ht⟩ := hl.cons_inv
      obtain ⟨x', t2, e2, hx, ht2⟩ := ht.cons_inv
      subst e2
      have e0 : (c.args.map a.eval).toList = s' :: x' :: t2 := by simpa using e1
      obtain ⟨v', w', q1, q2⟩ := copyK_ok (P := P) (ty := o.type) (argTypes := c.argTypes) (args := c.args.map a.eval) I (by rw [← Array.getElem?_toList, hty]; rfl)
        (by rw [← Array.getElem?_toList, e0]; rfl) (by rw [← Array.getElem?_toList, e0]; rfl) hs hx hc
      simp only [execOp, ho, resolve, hcal, Sem.run_bind, Sem.run_pure, Result.andThen_ok, invoke, builtin, q1]
      exact q2
    · cases hc
  · cases hc

theorem wrap_small {n : Nat} (h : n ≤ 65536) : IntKind.i64.wrap (Int.ofNat n) = (n : Int) := by
  rw [← wrapF_eq]
  simp only [wrapF, halfOf]
  rw [blt_true.2 (by omega)]
  rfl
theorem not_tooLarge {b c l : Nat} (b1 : l ≤ c) (b2 : c ≤ 65536) (b4 : b ≤ 65536) :
    ((decide ((c : Int) < 0) || decide ((b : Int) * (c : Int) > 2 ^ 48)) || decide ((l : Int) < 0) || decide ((l : Int) > (c : Int))) = false := by
  have hbc : b * c ≤ 65536 * 65536 := Nat.mul_le_mul b4 b2
  have hbci : (b : Int) * (c : Int) ≤ 4294967296 := by
    have : ((b * c : Nat) : Int) ≤ 4294967296 := by omega
    rwa [Int.natCast_mul] at this
  simp
  omega
theorem makeSlice_ok (I : Inv G N ρ h w) {t e : TypeId} {l c : Nat} (hd : P.underlying t = some (.slice e)) {K : Value → Hp → Bool}
    (hc : (match P.info? e, zeroE P e with
      | some ie, some z => match Nat.ble l c, Nat.ble c 65536, Nat.ble (c * ie.size) 65536, Nat.ble ie.bytes 65536 with
        | true, true, true, true => h.pushK (.cells (zerosFor z.cells (c * ie.size)) e ie.size false) fun h' => K (newSlice h l c) h'
        | _, _, _, _ => false
      | _, _ => false) = true) :
    NextOK P (((do pure (.value (← Instr.makeSlice t (.int .i64 (Int.ofNat l)) (.int .i64 (Int.ofNat c))))) : Sem Next).run P w) (Good G N ρ h w K) := by
  split at hc
  case h_2 => cases hc
  rename_i ie z hie hz
  split at hc
  case h_2 => cases hc
  rename_i b1 b2 b3 b4
  have b1 := ble_true.1 b1
  have b2 := ble_true.1 b2
  have b4 := ble_true.1 b4
  obtain ⟨⟨i, hi, hzz⟩, hfz⟩ := zeroE_ok hz
  rw [hie] at hi; cases hi
  rw [Hp.pushK_eq] at hc
  obtain ⟨I', E'⟩ := I.allocCells [] (zerosFor_ok (VR.flat (ρ := ρ) hfz).cells (c * ie.size)) e ie.size 0 false (by simp) (by simp)
  refine nextV (v' := .slice (some ⟨w.heap.size, 0, none⟩) l c) ?_ ⟨_, _, _, hc, newSlice_ok ⟨w.heap.size, 0, 0⟩ l c, I', E'⟩
  have wl := wrap_small (n := l) (by omega)
  have wc := wrap_small (n := c) (by omega)
  have t1 := not_tooLarge b1 b2 b4
  have hz2 : ∀ z2 : Array Value, zerosFor z2 (c * ie.size) = zerosFor z.cells (c * ie.size) → (Array.range (c * ie.size)).map (fun i => z2[i % z2.size]!) = (zerosFor z.cells (c * ie.size)).toArray := by
    intro z2 h; rw [zerosFor_arr, h]
  unfold Instr.makeSlice
  simp only [underlying, Sem.run_bind, run_program, Result.andThen_ok, hd, Sem.run_pure, asInt, asIntOf, typeInfo, hie, wl, wc, t1, Bool.false_eq_true, if_false, run_askRoom, sizeOf, Int.toNat_natCast]
  by_cases h0 : c * ie.size = 0
  · rw [if_pos h0]
    simp only [Sem.run_pure, Result.andThen_ok, hz2 #[] (by rw [h0]; rfl), newRow, Sem.run_bind, run_newObj, List.append_nil]
  · rw [if_neg h0]
    simp only [zeroValue, typeInfo, Sem.run_bind, run_program, hie, hzz, Sem.run_pure, Result.andThen_ok, hz2 z.cells rfl, newRow, run_newObj, List.append_nil]

theorem buildSlice_ok (I : Inv G N ρ h w) {t e : TypeId} {len : Nat} {ps : List (Nat × Value)} {pa : Array (Nat × Value)} (hd : P.underlying t = some (.slice e)) {K : Value → Hp → Bool}
    (hc : (match P.info? e, zeroE P e with
      | some ie, some z => match Nat.ble (len * ie.size) 65536 with
        | true => match Instr.fill (fun i => some (i * ie.size, ie.size)) (zerosFor z.cells (len * ie.size)).toArray ps with
          | some cs => fList cs.toList fun l => h.pushK (.cells l e ie.size false) fun h' => K (newSlice h len len) h'
          | none => false
        | false => false
      | _, _ => false) = true) (e1 : ps.map (·.1) = pa.toList.map (·.1)) (e2 : LR ρ (ps.map (·.2)) (pa.toList.map (·.2))) :
    NextOK P (((do pure (.value (← Instr.buildSlice t len pa))) : Sem Next).run P w) (Good G N ρ h w K) := by
  split at hc
  case h_2 => cases hc
  rename_i ie z hie hz
  split at hc
  case h_2 => cases hc
  rename_i hle
  have hle := ble_true.1 hle
  split at hc
  case h_2 => cases hc
  rename_i cs hf
  obtain ⟨⟨i, hi, hzz⟩, hfz⟩ := zeroE_ok hz
  rw [hie] at hi; cases hi
  obtain ⟨r', h1, h2⟩ := fill_ok (ρ := ρ) _ ps pa.toList (zerosFor z.cells (len * ie.size)).toArray (zerosFor z.cells (len * ie.size)).toArray cs e1 e2
    (zerosFor_ok (VR.flat (ρ := ρ) hfz).cells _) hf
  simp only [fList_eq, Hp.pushK_eq] at hc
  obtain ⟨I', E'⟩ := I.allocCells [] h2 e ie.size 0 false (by simp) (by simp)
  refine nextV (v' := .slice (some ⟨w.heap.size, 0, none⟩) len len) ?_ ⟨_, _, _, hc, newSlice_ok ⟨w.heap.size, 0, 0⟩ len len, I', E'⟩
  have h24 : ¬ (len * ie.size > 2 ^ 24) := by omega
  have hfill : ∀ z2 : Array Value, (zerosFor z2 (len * ie.size)) = zerosFor z.cells (len * ie.size) → Instr.fill (fun i => some (i * ie.size, ie.size)) ((Array.range (len * ie.size)).map (fun i => z2[i % z2.size]!)) pa.toList = some r' := by
    intro z2 hz2; rw [zerosFor_arr, hz2]; exact h1
  unfold Instr.buildSlice
  simp only [underlying, Sem.run_bind, run_program, Result.andThen_ok, hd, Sem.run_pure, sizeOf, typeInfo, hie, h24, if_false]
  by_cases h0 : len * ie.size = 0
  · rw [if_pos h0]
    have hf0 := hfill #[] (by rw [h0]; rfl)
    simp only [Sem.run_pure, Result.andThen_ok, hf0, Sem.run_bind, newRow, run_newObj, List.append_nil, Array.toArray_toList]
  · rw [if_neg h0]
    have hf0 := hfill z.cells rfl
    simp only [zeroValue, typeInfo, Sem.run_bind, run_program, hie, hzz, Sem.run_pure, Result.andThen_ok, hf0, newRow, run_newObj, List.append_nil, Array.toArray_toList]

set_option maxHeartbeats 1000000 in
theorem effK_ok {call : CallK} (S : CallSound P G N call) (I : Inv G N ρ h w) (T : TMR ρ tm a) {o : Oper} {K : Value → Hp → Bool} (hc : effK P G call tm h o K = true) :
    NextOK P ((execOp a.eval o).run P w) (Good G N ρ h w K) := by
  unfold effK at hc
  split at hc
  case h_1 e ho =>
    split at hc
    case h_2 => cases hc
    rename_i z hz
    obtain ⟨⟨i, hi, hzz⟩, hfz⟩ := zeroE_ok hz
    rw [Hp.pushK_eq] at hc
    obtain ⟨I', E'⟩ := I.allocCells [] (VR.flat (ρ := ρ) hfz).cells e 0 0 false (by simp) (by simp)
    simp only [execOp, ho]
    refine nextV (s := Instr.alloc e true (.tuple #[])) (v' := .pointer (some ⟨w.heap.size, 0, none⟩)) ?_ ⟨_, _, _, hc, newPtr_ok 0, I', E'⟩
    simp only [Instr.alloc, zeroValue, typeInfo, Sem.run_bind, run_program, Result.andThen_ok, hi, hzz, Sem.run_pure, newVar, newRow, run_newObj, List.append_nil, Array.toArray_toList]
  case h_2 e x ho =>
    split at hc
    case h_2 => cases hc
    rename_i v hx
    have hv := evO_ok T hx
    rw [Hp.pushK_eq] at hc
    obtain ⟨I', E'⟩ := I.allocCells [] hv.cells e 0 0 false (by simp) (by simp)
    simp only [execOp, ho]
    refine nextV (s := Instr.box e (a.eval x)) (v' := .pointer (some ⟨w.heap.size, 0, none⟩)) ?_ ⟨_, _, _, hc, newPtr_ok 0, I', E'⟩
    simp only [Instr.box, Sem.run_bind, Result.andThen_ok, Sem.run_pure, newVar, newRow, run_newObj, List.append_nil, Array.toArray_toList]
  case h_3 t len parts ho =>
    split at hc
    case h_2 => cases hc
    rename_i ps e hp hd
    obtain ⟨e1, e2⟩ := evP_ok T hp
    simp only [execOp, ho]
    exact buildSlice_ok I hd hc (by rw [parts_eq T]; exact e1) (by rw [parts_eq T]; exact e2)
  case h_4 t x y ho =>
    split at hc
    case h_2 => cases hc
    rename_i ad v i hx hy hi
    split at hc
    case h_2 => cases hc
    rename_i hsz
    have hsz := beq_true.1 hsz
    obtain ⟨ad', e⟩ := (evO_ok T hx).ptr_some
    have hv := evO_ok T hx
    rw [e] at hv
    have hvy := evO_ok T hy
    have hcl := hvy.cells
    obtain ⟨w', h', q1, q2, q3, q4⟩ := storeCells_ok (P := P) I hv hcl hc
    have hsz2 : (a.eval y).cells.size = i.size := by rw [← hsz]; simpa using hcl.1.symm
    have : (execOp a.eval o).run P w = .ok .skip w' := by
      simp only [execOp, ho, Sem.run_bind, Instr.storeAt, Instr.sureAddr, e, Sem.run_pure, Result.andThen_ok, storeVar, sizeOf, typeInfo, run_program, hi]
      simp [hsz2, q1]
    rw [this]
    exact ⟨ρ, h', _, q2, .flat (n := 0) rfl, q3, q4⟩
  case h_5 t ho =>
    rw [Hp.pushK_eq] at hc
    obtain ⟨I', E'⟩ := I.alloc (.map [] 0) (.map #[] 0) 0 (by simp) (by simp [BlkOK])
    simp only [execOp, ho]
    refine nextV (s := Instr.makeMap t (Option.map a.eval none)) (v' := .map (some w.heap.size)) ?_ ⟨_, _, _, hc, ?_, I', E'⟩
    · simp only [Instr.makeMap, Option.map_none, Sem.run_bind, run_newObj, Result.andThen_ok, Sem.run_pure]
    · exact VR.map (p := ⟨w.heap.size, 0, 0⟩) (by omega) (by rw [Nat.add_sub_cancel_left]; exact Ren.upd_at _ _ _)
  case h_6 t x y ho =>
    split at hc
    case h_2 => cases hc
    rename_i l c e hx hy hd
    have ex := (evO_ok T hx).int
    have ey := (evO_ok T hy).int
    simp only [execOp, ho]
    rw [ex, ey]
    exact makeSlice_ok I hd hc
  case h_7 t x lo hi ho =>
    split at hc
    case h_2 => cases hc
    rename_i v ulo uhi hx hlo hhi
    obtain ⟨v', w', q1, q2⟩ := sliceK_ok (P := P) I (evO_ok T hx) (evOp_ok T hlo) (evOp_ok T hhi) hc
    simp only [execOp, ho]
    exact nextV (s := Instr.sliceAt t (a.eval x) (lo.map a.eval) (hi.map a.eval) none) q1 q2
  case h_8 t m k x ho =>
    split at hc
    case h_2 => cases hc
    rename_i vm vk vx hm hk hx
    obtain ⟨w', h', q1, q2, q3, q4⟩ := mapUpdateK_ok (P := P) I (evO_ok T hm) (evO_ok T hk) (evO_ok T hx) hc
    have : (execOp a.eval o).run P w = .ok .skip w' := by simp [execOp, ho, q1]
    rw [this]
    exact ⟨ρ, h', _, q2, .flat (n := 0) rfl, q3, q4⟩
  case h_9 t x ho =>
    split at hc
    case h_2 => cases hc
    rename_i v hx
    obtain ⟨v', w', q1, q2⟩ := rangeK_ok (P := P) I (evO_ok T hx) hc
    simp only [execOp, ho]
    exact nextV q1 q2
  case h_10 x s ho =>
    split at hc
    case h_2 => cases hc
    rename_i v hx
    obtain ⟨v', w', q1, q2⟩ := nextK_ok (P := P) (ty := o.type) I (evO_ok T hx) hc
    simp only [execOp, ho]
    exact nextV q1 q2
  case h_11 c ho => exact callK_ok S I T ho hc
  case h_12 => cases hc

theorem opK_ok {call : CallK} (S : CallSound P G N call) (I : Inv G N ρ h w) (T : TMR ρ tm a) {o : Oper} {K : Value → Hp → Bool} (hc : opK P G call tm h o K = true) :
    NextOK P ((execOp a.eval o).run P w) (Good G N ρ h w K) := by
  unfold opK at hc
  split at hc
  · split at hc
    · rename_i v hv
      obtain ⟨v', q1, q2⟩ := readE_ok (P := P) I T hv
      rw [q1]
      exact ⟨ρ, h, v, hc, q2, I, .refl _ _ _⟩
    · exact effK_ok S I T hc
  · exact effK_ok S I T hc
end
end Go.CRun
