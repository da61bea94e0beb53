import Derived.Test.YteekigpdiklppaaWClose
import Derived.Test.YteekigpdiklppaaWForts
import Derived.Laws.OwnMore
import Derived.Maps.AppendAt
set_option linter.unusedSimpArgs false
set_option linter.unusedVariables false
namespace Go.Proofs.Yteekigpdiklppaa
open Go Go.Proofs Go.RowKit Go.Seq
attribute [local go_sem] Oper.semAt_some
theorem encs12_len (L : List (Nat → Bool)) : (encs12 L).length = L.length * 12 := by
  unfold encs12
  induction L with
  | nil => rfl
  | cons p l ih => simp only [List.flatMap_cons, List.length_append, List.length_cons, ih]; simp [sc]; omega
theorem encs12_at : ∀ (L : List (Nat → Bool)) {i : Nat} (hi : i < L.length) {j : Nat}, j < 12 → (encs12 L)[i * 12 + j]? = some (.bool (L[i] j))
  | [], i, hi, j, hj => by simp at hi
  | p :: l, 0, hi, j, hj => by
    have : (encs12 (p :: l)) = (sc p).toList ++ encs12 l := by simp [encs12]
    rw [this, List.getElem?_append_left (by simp [sc]; omega), Nat.zero_mul, Nat.zero_add, Array.getElem?_toList, sc_at p j hj]
    rfl
  | p :: l, i + 1, hi, j, hj => by
    have h := encs12_at l (i := i) (by simpa using hi) hj
    have : (encs12 (p :: l)) = (sc p).toList ++ encs12 l := by simp [encs12]
    have hs : (sc p).toList.length = 12 := by simp [sc]
    rw [this, List.getElem?_append_right (by omega), hs, show (i + 1) * 12 + j - 12 = i * 12 + j by omega, h]
    rfl
/-- Lists of places in memory. -/
structure ListsV (B : Nat) (W : World) (v : Value) (L : List (Nat → Bool)) (svs : List Value) : Prop where
  row : W.ownsRow B 23 1 v L.length svs
  len : svs.length = L.length
  el : ∀ i (hi : i < L.length) sv, svs[i]? = some sv → W.ownsRow B 3 1 sv (vsTo L[i] 12).length ((vsTo L[i] 12).map ik)
  one : ∀ sv ∈ svs, sv.oneCell' = true
  ne : ∀ sv ∈ svs, ∀ g, sv.ownBlock = some g → v.ownBlock ≠ some g
theorem ListsV.after {B : Nat} {W W' : World} {v : Value} {L : List (Nat → Bool)} {svs : List Value} (h : ListsV B W v L svs) (hb : Below W.heap.size W W') : ListsV B W' v L svs :=
  ⟨row_after h.row hb, h.len, fun i hi sv hs => row_after (h.el i hi sv hs) hb, h.one, h.ne⟩
theorem ListsV.base {B B' : Nat} {W : World} {v : Value} {L : List (Nat → Bool)} {svs : List Value} (h : ListsV B W v L svs) (hB : B' ≤ B) : ListsV B' W v L svs :=
  ⟨row_base h.row hB, h.len, fun i hi sv hs => row_base (h.el i hi sv hs) hB, h.one, h.ne⟩
theorem ListsV.nil (B : Nat) (W : World) : ListsV B W (.slice none 0 0) [] [] :=
  ⟨World.ownsRow_nil _ _ _ _, rfl, fun i hi => by simp at hi, fun sv h => by simp at h, fun sv h => by simp at h⟩
/-- One list more. -/
theorem ListsV.push {B : Nat} {W W1 W2 : World} {v v' lv : Value} {L : List (Nat → Bool)} {svs : List Value} {F : Nat → Bool} {o : Obj} (h : ListsV B W v L svs) (hb : Below W.heap.size W W1) (hl : W1.ownsRow W.heap.size 3 1 lv (vsTo F 12).length ((vsTo F 12).map ik)) (h1 : lv.oneCell' = true) (hB : B ≤ W.heap.size)
    (hrow : W2.ownsRow B 23 1 v' (L.length + 1) (svs ++ [lv])) (hg : (W1.alloc o).grownBy W2 v.ownBlock) (hv : v'.ownBlock = v.ownBlock ∨ v'.ownBlock = some (W1.alloc o).heap.size) : ListsV B W2 v' (L ++ [F]) (svs ++ [lv]) := by
  have hz := hb.size
  have ho : ∀ i, i < W1.heap.size → v.ownBlock ≠ some i → W2.heap[i]? = W1.heap[i]? := fun i h2 h3 => (hg.block i (by rw [World.size_alloc]; omega) (fun e => h3 e.symm)).trans (Below.heap_alloc _ _ _ (by omega))
  have hA := h.after hb
  have hvlt : ∀ g, v.ownBlock = some g → g < W.heap.size := fun g hg' => (h.row.lt g hg').2
  refine ⟨by rw [List.length_append]; exact hrow, by simp [h.len], fun i hi sv hs => ?_, fun sv hs => ?_, fun sv hs g hg' => ?_⟩
  · rw [List.length_append] at hi
    by_cases e : i < L.length
    · rw [List.getElem?_append_left (by rw [h.len]; exact e)] at hs
      have hrs := hA.el i e sv hs
      simp only [List.getElem_append_left e]
      refine row_same hrs (fun g hg' => ho g (hrs.lt g hg').2 (h.ne sv (List.mem_of_getElem? hs) g hg'))
    · have e2 : i = L.length := by simp at hi; omega
      subst e2
      rw [List.getElem?_append_right (by rw [h.len]; omega), h.len] at hs
      simp at hs
      subst hs
      simp only [List.getElem_concat_length]
      have hl' := row_base hl hB
      refine row_same hl' (fun g hg' => ho g (hl.lt g hg').2 (fun e => by have := hvlt g e; have := (hl.lt g hg').1; omega))
  · rcases List.mem_append.1 hs with hs | hs
    · exact h.one sv hs
    · simp at hs; subst hs; exact h1
  · rcases List.mem_append.1 hs with hs | hs
    · obtain ⟨i, hi⟩ := List.getElem?_of_mem hs
      have hil : i < L.length := by
        have := (List.getElem?_eq_some_iff.1 hi).1
        rw [h.len] at this; exact this
      have hlt := ((h.el i hil sv hi).lt g hg').2
      rcases hv with e | e
      · rw [e]; exact h.ne sv hs g hg'
      · rw [e, World.size_alloc]; intro e2; simp at e2; omega
    · simp at hs; subst hs
      have hlt := hl.lt g hg'
      rcases hv with e | e
      · rw [e]; intro e2; have := hvlt g e2; omega
      · rw [e, World.size_alloc]; intro e2; simp at e2; omega
theorem ty45 : Try.prog.underlying 45 = some (.slice 23) := by kernel_rfl
theorem info23 : (Try.prog.info? 23).map (fun i => (i.zero, i.size, i.bytes)) = some (some (.slice none 0 0), 1, 24) := by kernel_rfl
theorem slice_of_row {W : World} {B e s k : Nat} {v : Value} {xs : List Value} (h : W.ownsRow B e s v k xs) : ∃ A c, v = .slice A k c ∧ (0 < k → ∃ g, A = some ⟨g, 0, none⟩) := by
  obtain ⟨h1, h2⟩ := h
  rcases h2 with ⟨rfl, h0⟩ | ⟨g, cap, cur, rfl, _⟩
  · exact ⟨_, _, by rw [h0], fun h => by omega⟩
  · exact ⟨_, _, rfl, fun _ => ⟨g, rfl⟩⟩
set_option maxHeartbeats 2000000 in
set_option maxRecDepth 100000 in
theorem Forts_yes {n : Nat} {v : Value} {ps : Pts} {w : World} (hv : PairsOf w v ps) (hok : GrOk n ps) (hl : ps.length ≤ 200) :
    Calls Try.prog 35 #[.int .i64 n, v] w fun e w' => ∃ lv svs, e = .returned (.tuple #[lv, .int .i64 0]) ∧ ListsV w.heap.size w' lv (fortsOf n (adjOf ps)) svs ∧ Below w.heap.size w w' := by
  have q69 := readGraph_yes hv hok hl
  have hn : n ≤ 12 := by have := hok.n12; omega
  have q71 := Keep.mk (fun (g : Nat) (W : World) (hg : GraphAt W g n (adjOf ps)) => leastForts_any (w := W) hg hn)
  have hLn : (fortsOf n (adjOf ps)).length ≤ 4095 := Nat.le_trans (stF_len _ _ _) (setsTo_le hn)
  obtain ⟨L, hL⟩ : ∃ L, fortsOf n (adjOf ps) = L := ⟨_, rfl⟩
  rw [hL] at q71 hLn ⊢
  obtain ⟨i0, hi0, hz0, hz1, hz2⟩ : ∃ i, Try.prog.info? 23 = some i ∧ i.zero = some (.slice none 0 0) ∧ i.size = 1 ∧ i.bytes = 24 := by
    have h := info23
    cases hI : Try.prog.info? 23 with
    | none => rw [hI] at h; cases h
    | some i =>
      rw [hI] at h
      simp only [Option.map_some, Option.some.injEq, Prod.mk.injEq] at h
      exact ⟨i, rfl, h.1, h.2.1, h.2.2⟩
  have q60 := fun (F : Nat → Bool) W => list_any F W
  clear hL hv
  unfold setV sc at q60
  go_enter Try.func35, Try.ntmps35
  go_wp2_with (first
    | (go_at_call 69; (with_reducible refine q69.mono ?_); rintro e w5 ⟨rfl, hg5, hb5⟩
       have q7 := q71.out w.heap.size w5 hg5.at
       have hbb := Keep.mk hb5
       clear hg5 hb5)
    | (go_at_call 71; (with_reducible refine q7.mono ?_); rintro e w7 ⟨fv, rfl, hr7, hb7⟩
       obtain ⟨A, c, rfl, hA⟩ := slice_of_row hr7
       have hbc := Keep.mk (And.intro (hbb.out.trans (hb7.mono hbb.out.size)) (And.intro hr7 hbb.out.size))
       clear hb7 q7 hr7))
  go_loopw [22, 8] (fun i o wr => ∃ k : Nat, ∃ svs, k ≤ L.length ∧ i = .int .i64 k ∧ Keep (ListsV w7.heap.size wr o (L.take k) svs ∧ Below w7.heap.size w7 wr) ∧ ∃ A2 d2, o = .slice A2 k d2) (fun i _ _ => L.length - (intOf i).toNat)
  case atStart => exact ⟨0, [], by omega, rfl, ⟨by simpa using ListsV.nil _ _, Below.refl _ _⟩, _, _, rfl⟩
  case round =>
    obtain ⟨k, svs, hk, rfl, hI, A2, d2, rfl⟩ := hrel
    have hw1 : IntKind.i64.wrap ((k : Int) + 1) = (k : Int) + 1 := IntWalk.i64_in _ (by omega)
    by_cases hlt : k < L.length
    · have hlt' : (k : Int) < (L.length : Int) := by omega
      obtain ⟨g, rfl⟩ := hA (by omega)
      have hrw := row_after hbc.out.2.1 hI.out.2
      have hcell : Keep (∀ j, j < 12 → wr.cell? ⟨g, k * 12 + j, none⟩ = some (.bool (L[k] j))) := ⟨fun j hj => (hrw.cellAt (k * 12 + j) (by omega)).trans (encs12_at L hlt hj)⟩
      have htk : L.take (k + 1) = L.take k ++ [L[k]] := by rw [List.take_add_one, List.getElem?_eq_getElem hlt]; rfl
      generalize L[k] = F at hcell htk
      have q := q60 F
      have hlen : (L.take k).length = k := by simp; omega
      clear hrw
      have c0 := hcell.out 0 (by omega)
      have c1 := hcell.out 1 (by omega)
      have c2 := hcell.out 2 (by omega)
      have c3 := hcell.out 3 (by omega)
      have c4 := hcell.out 4 (by omega)
      have c5 := hcell.out 5 (by omega)
      have c6 := hcell.out 6 (by omega)
      have c7 := hcell.out 7 (by omega)
      have c8 := hcell.out 8 (by omega)
      have c9 := hcell.out 9 (by omega)
      have c10 := hcell.out 10 (by omega)
      have c11 := hcell.out 11 (by omega)
      try simp only [Nat.add_zero] at c0
      obtain ⟨w8, hw8⟩ : ∃ w8, wr.alloc (.cells (sc F) 79) = w8 := ⟨_, rfl⟩
      have hb8 : Below wr.heap.size wr w8 := by rw [← hw8]; exact (Below.refl _ _).alloc (Nat.le_refl _) _
      have hf8 : SetAt w8 wr.heap.size F := by rw [← hw8]; exact SetAt.new _ _
      obtain ⟨y0, y1, y2, y3, y4, y5, y6, y7, y8, y9, y10, y11⟩ := hf8.c12
      have hb8k := Keep.mk hb8
      clear hb8 hf8 hcell
      unfold sc at hw8
      go_wp2_with (first
        | (go_at_call 60; (with_reducible refine (q _).mono ?_); rintro e w9 ⟨sv, rfl, hr9, hb9⟩
           obtain ⟨A9, c9, rfl, hA9⟩ := slice_of_row hr9
           have h9k := Keep.mk (And.intro hr9 hb9)
           have hsv : Keep (w9.ownsRow w7.heap.size 23 1 (.slice A2 k d2) k svs) := ⟨by have h := ((hI.out.1.after hb8k.out).after hb9).row; rw [hlen] at h; exact h⟩
           clear hr9 hb9 q)
        | (at_builtin; refine wpList_append_own_at _ rfl _ _ 45 rfl w7.heap.size 23 i0 (.slice none 0 0) 1 24 ty45 hi0 hz0 hz1 hz2 rfl (by decide) _ k svs rfl (hsv.out.alloc _) ⟨w9.heap.size, 0, none⟩ 1 1 [.slice A9 (vsTo F 12).length c9] rfl rfl (cell_one_new _ _ _) (by simp [Value.oneCell']) (by unfold maxLen; omega) (by omega) (by have := hbc.out.1.size; have := hI.out.2.size; have := hb8k.out.size; have := h9k.out.2.size; simp; omega) ?_; intro v' w10 hown hgrow _ hblk
           obtain ⟨g', cap', rfl⟩ := ownsRow_succ hown
           have h10k := Keep.mk (And.intro hown (And.intro hgrow hblk))
           clear hown hgrow hblk))
      obtain ⟨hown, hgrow, hblk⟩ := h10k.out
      have z8 := hb8k.out.size
      have z9 := h9k.out.2.size
      have z10 := hgrow.size
      rw [World.size_alloc] at z10
      have hLV := (hI.out.1.after hb8k.out).push (F := F) h9k.out.2 h9k.out.1 rfl (by have := hbc.out.1.size; have := hI.out.2.size; omega) (by rw [hlen]; exact hown) hgrow hblk
      have hb10 : Below w7.heap.size w7 w10 := by
        have h1 : Below w7.heap.size w7 w9 := hI.out.2.trans ((hb8k.out.trans (h9k.out.2.mono z8)).mono hI.out.2.size)
        have hz := hI.out.2.size
        refine h1.trans (Below.grown ((Below.refl _ w9).alloc (by omega) _) hgrow (by simp; omega) (fun j hj => ?_))
        have hj' : (Value.slice A2 k d2).ownBlock = some j := hj
        exact (hsv.out.lt j hj').1
      refine ⟨⟨k + 1, svs ++ [.slice A9 (vsTo F 12).length c9], by omega, by go_num, ⟨by rw [htk]; exact hLV, hb10⟩, _, _, rfl⟩, by simp [intOf]; omega⟩
    · obtain rfl : k = L.length := by omega
      have hlt' : ¬ (L.length : Int) < (L.length : Int) := by omega
      go_wp2
      refine bodyPost_ret (v := .tuple #[.slice A2 L.length d2, .int .i64 0]) (by simp [results, Try.results35, go_sem]) rfl ?_
      have h := hI.out.1
      rw [List.take_length] at h
      exact ⟨_, rfl, ⟨svs, h.base hbc.out.1.size⟩, hbc.out.1.trans (hI.out.2.mono hbc.out.1.size)⟩
end Go.Proofs.Yteekigpdiklppaa
