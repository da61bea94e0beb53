/-
  CRUN, part H: what makes or writes memory: new blocks, stores, 'append', 'copy'.
-/
import Derived.Test.YtioaaigbpfdjmaaDoorRunG
import Derived.Laws.Append
set_option linter.unusedSimpArgs false
set_option linter.unusedVariables false
namespace Go.CRun
open Go Go.RowKit
section
variable {P : Program} {G : Globs} {N : Nat} {ρ : Ren} {h : Hp} {w : World} {tm : TM} {a : Act}

/-- A way on: the value, and the abstract world behind. -/
def Good (G : Globs) (N : Nat) (ρ : Ren) (h : Hp) (w : World) (K : Value → Hp → Bool) (v' : Value) (w' : World) : Prop :=
  ∃ ρ' h' v, K v h' = true ∧ VR ρ' v v' ∧ Inv G N ρ' h' w' ∧ Ext ρ h w ρ' h' w'

theorem Inv.allocCells (I : Inv G N ρ h w) {c c' : List Value} (rest : List Value) (hc : LR ρ c c') (e sz x : Nat) (g : Bool) (hg : g = false → x = 0) (hx : x * sz ≤ rest.length) :
    Inv G N (ρ.upd h.n ⟨w.heap.size, 0, x⟩) (h.push (.cells c e sz g)) { w with heap := w.heap.push (.cells (c' ++ rest).toArray e (0, 0)) } ∧
      Ext ρ h w (ρ.upd h.n ⟨w.heap.size, 0, x⟩) (h.push (.cells c e sz g)) { w with heap := w.heap.push (.cells (c' ++ rest).toArray e (0, 0)) } := by
  refine I.alloc _ _ x (by simp) ⟨hg, (c' ++ rest).toArray, 0, 0, by simp, by intro k _ _; simp, ?_, ?_⟩
  · have := hc.1; simp; omega
  · intro j v hv
    obtain ⟨v', h1, h2⟩ := hc.get hv
    have hj : j < c'.length := (List.getElem?_eq_some_iff.1 h1).1
    refine ⟨v', ?_, h2.mono (Ren.upd_ext (I.fresh _ (Nat.le_refl _)))⟩
    simp only [Nat.zero_add, List.getElem?_toArray]
    rw [List.getElem?_append_left hj]; exact h1

theorem newPtr_ok (x : Nat) : VR (ρ.upd h.n ⟨w.heap.size, 0, x⟩) (newPtr h) (.pointer (some ⟨w.heap.size, 0, none⟩)) := by
  have := VR.ptr (ρ := ρ.upd h.n ⟨w.heap.size, 0, x⟩) (b := base + h.n) (o := 0) (s := none) (p := ⟨w.heap.size, 0, x⟩) (by omega) (by rw [Nat.add_sub_cancel_left]; exact Ren.upd_at _ _ _)
  exact this
theorem newSlice_ok (p : Place) (l c : Nat) : VR (ρ.upd h.n p) (newSlice h l c) (.slice (some ⟨p.blk, p.off, none⟩) l (c + p.extra)) := by
  have := VR.slice (ρ := ρ.upd h.n p) (b := base + h.n) (o := 0) (s := none) (l := l) (c := c) (p := p) (by omega) (by rw [Nat.add_sub_cancel_left]; exact Ren.upd_at _ _ _)
  rw [Nat.add_zero] at this
  exact this

/-! stores -/
theorem oneCells_mem : ∀ {l : List Value}, oneCells l = true → ∀ v ∈ l, v.oneCell' = true
  | [], _ => by simp
  | v :: r, hh => by
    simp only [oneCells] at hh
    split at hh
    · rename_i hv; intro u hu; rcases List.mem_cons.1 hu with rfl | hu
      · exact hv
      · exact oneCells_mem hh u hu
    · cases hh

theorem run_storeCells_row {ad : Addr} (hs : ad.spot = none) {e lo hi : Nat} : ∀ (vs : List Value) (i : Nat) (w : World) (C : Array Value), (∀ v ∈ vs, v.oneCell' = true) →
    w.heap[ad.block]? = some (.cells C e (lo, hi)) → ad.off + i + vs.length ≤ C.size → (∀ k, ad.off ≤ k → k < C.size → (decide (lo ≤ k) && decide (k < hi)) = false) →
    ∃ w' C', (storeCells ad vs i).run P w = .ok () w' ∧ w'.os = w.os ∧ w'.tape = w.tape ∧ w'.output = w.output ∧ w'.heap.size = w.heap.size ∧ (∀ k, k ≠ ad.block → w'.heap[k]? = w.heap[k]?) ∧
      w'.heap[ad.block]? = some (.cells C' e (lo, hi)) ∧ C'.size = C.size ∧ ∀ k, C'[k]? = if ad.off + i ≤ k ∧ k < ad.off + i + vs.length then vs[k - (ad.off + i)]? else C[k]?
  | [], i, w, C, _, hh, _, _ => ⟨w, C, rfl, rfl, rfl, rfl, rfl, fun _ _ => rfl, hh, rfl, fun k => by rw [if_neg (by simp only [List.length_nil]; omega)]⟩
  | v :: vs, i, w, C, hv, hh, hsz, hfz => by
    simp only [List.length_cons] at hsz
    have hcell : w.cell? (ad.add i) = some C[ad.off + i] := by
      rw [add_eq ad hs i]
      simp only [World.cell?, hh, Option.isSome_none, Bool.false_eq_true, if_false]
      exact Array.getElem?_eq_getElem (by omega)
    have hfr : w.frozen? (ad.add i) = false := by
      rw [add_eq ad hs i]
      simp only [World.frozen?, hh]
      exact hfz _ (by omega) (by omega)
    have hstore : (store (ad.add i) v).run P w = .ok () (w.setCell (ad.add i) v) := by
      rw [run_store _ _ _ _ _ (hv v (by simp))]
      simp [hcell, hfr]
    have hset : (w.setCell (ad.add i) v).heap[ad.block]? = some (.cells (C.setIfInBounds (ad.off + i) v) e (lo, hi)) := by
      rw [add_eq ad hs i]
      simp [World.setCell, Array.getElem?_modify, hh]
    obtain ⟨w', C', h1, h2, h3, h4, h5, h6, h7, h8, h9⟩ := run_storeCells_row hs vs (i + 1) (w.setCell (ad.add i) v) (C.setIfInBounds (ad.off + i) v) (fun u hu => hv u (by simp [hu])) hset (by simp; omega)
      (by simpa using hfz)
    refine ⟨w', C', ?_, h2, h3, h4, by rw [h5]; simp [World.setCell], ?_, h7, by rw [h8]; simp, ?_⟩
    · simp only [storeCells, Sem.run_bind, hstore, Result.andThen_ok, h1]
    · intro k hk
      rw [h6 k hk]
      have : (ad.add i).block = ad.block := by rw [add_eq ad hs i]
      simp only [World.setCell, Array.getElem?_modify, this]
      rw [if_neg (fun e => hk e.symm)]
    · intro k
      rw [h9 k]
      by_cases hk : k = ad.off + i
      · subst hk
        rw [if_neg (by omega), if_pos (by simp)]
        simp
        rw [Array.getElem?_setIfInBounds_self_of_lt]
        omega
      · rw [Array.getElem?_setIfInBounds_ne (fun e => hk e.symm)]
        by_cases hr : ad.off + (i + 1) ≤ k ∧ k < ad.off + (i + 1) + vs.length
        · rw [if_pos hr, if_pos (by simp; omega)]
          rw [show k - (ad.off + i) = (k - (ad.off + (i + 1))) + 1 by omega]
          simp
        · rw [if_neg hr, if_neg (by simp; omega)]

theorem setRange_getElem (c : List Value) (o : Nat) (vs : List Value) (hsz : o + vs.length ≤ c.length) (j : Nat) :
    (setRange c o vs)[j]? = if o ≤ j ∧ j < o + vs.length then vs[j - o]? else c[j]? := by
  unfold setRange
  by_cases h1 : j < o
  · rw [if_neg (by omega), List.append_assoc, List.getElem?_append_left (by simp; omega), List.getElem?_take_of_lt h1]
  · by_cases h2 : j < o + vs.length
    · rw [if_pos ⟨by omega, h2⟩, List.append_assoc, List.getElem?_append_right (by simp; omega), List.getElem?_append_left (by simp; omega)]
      congr 1; simp; omega
    · rw [if_neg (by omega), List.getElem?_append_right (by simp; omega), List.getElem?_drop]
      congr 1; simp; omega
theorem setRange_length (c : List Value) (o : Nat) (vs : List Value) (hsz : o + vs.length ≤ c.length) : (setRange c o vs).length = c.length := by
  simp [setRange]; omega

theorem store_one {c : List Value} {o i e sz : Nat} {g : Bool} {K : Hp → Bool} : ∀ (vs : List Value),
    (match vs with | [v] => setK c o v fun c => h.putK i (.cells c e sz g) K | vs => fList (setRange c o vs) fun c => h.putK i (.cells c e sz g) K) = true → o + vs.length ≤ c.length →
    K (h.put i (.cells (setRange c o vs) e sz g)) = true
  | [], hs, hle => by simp only [fList_eq, Hp.putK_eq] at hs; exact hs
  | [v], hs, hle => by
    obtain ⟨hlt, hs⟩ := setK_true hs
    rw [Hp.putK_eq] at hs
    have : setRange c o [v] = c.set o v := by
      apply List.ext_getElem?
      intro j
      rw [setRange_getElem c o [v] hle]
      by_cases hj : j = o
      · subst hj; simp [hlt]
      · rw [if_neg (by simp; omega), List.getElem?_set_ne (fun e => hj e.symm)]
    rw [this]; exact hs
  | v :: u :: r, hs, hle => by simp only [fList_eq, Hp.putK_eq] at hs; exact hs

/-- A store into a block of one's own, in both worlds. -/
theorem storeCells_ok (I : Inv G N ρ h w) {ad ad' : Addr} (hv : VR ρ (.pointer (some ad)) (.pointer (some ad'))) {vs vs' : List Value} (hvs : LR ρ vs vs') {K : Hp → Bool} (hs : storeCellsK h ad vs K = true) :
    ∃ w' h', (storeCells ad' vs').run P w = .ok () w' ∧ K h' = true ∧ Inv G N ρ h' w' ∧ Ext ρ h w ρ h' w' := by
  unfold storeCellsK at hs
  split at hs
  · rename_i c e sz g hspot hblk hget
    split at hs
    · rename_i hle hone
      have hle := ble_true.1 hle
      have g1 := blt_false.1 hblk
      rcases hv.ptr_inv with ⟨g, _⟩ | ⟨_, p, g2, g3⟩
      · omega
      · simp only [Value.pointer.injEq, Option.some.injEq] at g3
        subst g3
        obtain ⟨p', hp', _, hok⟩ := I.dom _ _ hget (by simp)
        rw [g2] at hp'; cases hp'
        have hok0 := hok
        obtain ⟨hg, C, lo, hi, hh, hfz, hsz, hcell⟩ := hok
        have hone' : ∀ v ∈ vs', v.oneCell' = true := by
          intro v' hm
          obtain ⟨i, hi, he⟩ := List.mem_iff_getElem.1 hm
          have hi2 : i < vs.length := by rw [hvs.1]; exact hi
          have := hvs.2 i vs[i] v' (List.getElem?_eq_getElem hi2) (by rw [List.getElem?_eq_getElem hi, he])
          rw [this.oneCell]; exact oneCells_mem hone _ (List.getElem_mem hi2)
        obtain ⟨w', C', h1, h2, h3, h4, h5, h6, h7, h8, h9⟩ := run_storeCells_row (P := P) (ad := ⟨p.blk, p.off + ad.off, ad.spot⟩) hspot vs' 0 w C hone' hh (by have := hvs.1; simp; omega)
          (fun k hk1 hk2 => hfz k (by simp at hk1; omega) hk2)
        have hset : K (h.put (ad.block - base) (.cells (setRange c ad.off vs) e sz g)) = true := store_one vs hs hle
        have hbk : BlkOK ρ w' p (.cells (setRange c ad.off vs) e sz g) := by
          refine ⟨hg, C', lo, hi, h7, by rw [h8]; exact hfz, by rw [setRange_length _ _ _ hle, h8]; exact hsz, ?_⟩
          intro j v hj
          rw [setRange_getElem c ad.off vs hle] at hj
          rw [h9]
          simp only [Nat.add_zero]
          split at hj
          · rename_i hr
            rw [if_pos (by have := hvs.1; omega)]
            obtain ⟨v', q1, q2⟩ := hvs.get hj
            refine ⟨v', ?_, q2⟩
            rw [show p.off + j - (p.off + ad.off) = j - ad.off by omega]; exact q1
          · rename_i hr
            rw [if_neg (by have := hvs.1; omega)]
            exact hcell j v hj
        obtain ⟨I', E'⟩ := I.set hget (by simp) g2 (.cells (setRange c ad.off vs) e sz g) (by simp) w' h2 h3 h4 h5 h6 hbk
        exact ⟨w', _, h1, hset, I', E'⟩
    · cases hs
  · cases hs

theorem firstE_ok (I : Inv G N ρ h w) {sz n : Nat} {x x' : Value} (hx : VR ρ x x') {l : List Value} (hf : firstE G h sz n x = some l) :
    ∃ l', LR ρ l l' ∧ (Builtin.firstCells sz n x').run P w = .ok l'.toArray w := by
  unfold firstE at hf
  split at hf
  · rename_i ad len cap
    obtain ⟨ad', c', rfl, _, hv⟩ := hx.slice_some
    split at hf
    · rename_i hn
      have := beq_true.1 hn
      subst this
      cases hf
      exact ⟨[], LR.nil _, by simp [Builtin.firstCells, loadCells, loadCellsFrom]⟩
    · obtain ⟨l', h1, h2, h3, _⟩ := cellsAt_ok (P := P) I hv hf
      exact ⟨l', h1, by simpa [Builtin.firstCells] using h3⟩
  · cases hf
    rw [hx.nilSlice]
    exact ⟨[], LR.nil _, by simp [Builtin.firstCells]⟩
  · rename_i s
    cases hf
    rw [hx.string]
    refine ⟨(s.extract 0 n).data.toList.map fun b => Value.int .u8 b.toNat, LR.flat (n := 0) (by rw [List.all_map]; exact List.all_eq_true.2 fun b _ => rfl), ?_⟩
    simp only [Builtin.firstCells, Sem.run_pure]
    congr 1
    apply Array.ext'
    simp
  · cases hf
theorem firstE_length (I : Inv G N ρ h w) {sz n : Nat} {x : Value} {l : List Value} (hn : lenE x = some n) (hs : ∀ s, x ≠ .string s) (hf : firstE G h sz n x = some l) (hz : ∀ c, x ≠ .slice none n c) : l.length = n * sz := by
  unfold firstE at hf
  split at hf
  · split at hf
    · rename_i hn; have := beq_true.1 hn; subst this; cases hf; simp
    · unfold cellsAt at hf
      split at hf
      · cases hf
      · split at hf
        · cases hf
        · simp only at hf
          split at hf
          · rename_i hh; cases hf; exact beq_true.1 hh
          · cases hf
  · simp [lenE] at hn; subst hn; exact absurd rfl (hz _)
  · exact absurd rfl (hs _)
  · cases hf
theorem lenE_ok {x x' : Value} (hx : VR ρ x x') {n : Nat} (hn : lenE x = some n) (w : World) : (Builtin.lenOf x').run P w = .ok n w := by
  unfold lenE at hn
  split at hn
  · rename_i b n c
    cases hn
    have : ∃ b' c', x' = .slice b' n c' := by
      cases b with
      | none => exact ⟨_, _, hx.nilSlice⟩
      | some ad => obtain ⟨ad', c', h, _⟩ := hx.slice_some; exact ⟨_, _, h⟩
    obtain ⟨b', c', rfl⟩ := this
    rfl
  · cases hn; rw [hx.string]; rfl
  · cases hn
end
end Go.CRun
