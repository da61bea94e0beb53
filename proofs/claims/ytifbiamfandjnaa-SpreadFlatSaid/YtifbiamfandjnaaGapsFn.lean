import Derived.Test.YtifbiamfandjnaaLaid
import Derived.Test.YtifbiamfandjnaaGapMath
import Derived.Test.YtifbiamfandjnaaValSeq
import Derived.Test.YtifbiamfandjnaaMoveFn
import Derived.Sort.OwnSortedInts
set_option linter.unusedSimpArgs false
set_option linter.unusedVariables false
namespace Go.Proofs.Ytifbiamfandjnaa
open Go Go.Proofs Go.RowKit Go.Sort Go.Lib Gap
theorem holds_row {W : World} {G n : Nat} {f : Nat → Int} {zs : List Int} (h : RowAt W G n f) (hl : zs.length = n) (hf : ∀ j, j < n → f j = zs.getD j 0) : Holds (Value.int .i64) W G 0 zs.toArray := by
  intro j hj
  have hj' : j < zs.length := by simpa using hj
  obtain ⟨h1, h2⟩ := h j (by omega)
  rw [Nat.zero_add]
  refine ⟨?_, h2⟩
  rw [h1, hf j (by omega)]
  simp [hj']
theorem row_holds {W : World} {G : Nat} {zs : List Int} (h : Holds (Value.int .i64) W G 0 zs.toArray) : RowAt W G zs.length (fun j => zs.getD j 0) := by
  intro j hj
  obtain ⟨h1, h2⟩ := h j (by simpa using hj)
  rw [Nat.zero_add] at h1 h2
  refine ⟨?_, h2⟩
  rw [h1]; simp [hj]
theorem holds_lt {W : World} {G : Nat} {zs : List Int} (h : Holds (Value.int .i64) W G 0 zs.toArray) (hne : zs ≠ []) : G < W.heap.size := by
  have h0 : 0 < zs.length := by cases zs with | nil => exact absurd rfl hne | cons => simp
  obtain ⟨h1, _⟩ := h 0 (by simpa using h0)
  rcases Nat.lt_or_ge G W.heap.size with h' | h'
  · exact h'
  · simp [World.cell?, Array.getElem?_eq_none h'] at h1
/-- slices.Sort at ints that are held: the same block, sorted. -/
theorem sort_any {G cap : Nat} {zs : List Int} {w : World} (hH : Holds (Value.int .i64) w G 0 zs.toArray) (hne : zs ≠ []) (hz : zs.length ≤ 100000) :
    Calls Try.prog 70 #[.slice (some ⟨G, 0, none⟩) zs.length cap] w fun e w' => e = .returned (.tuple #[]) ∧ Holds (Value.int .i64) w' G 0 (zs.mergeSort fun x y => decide (x ≤ y)).toArray ∧ w.grownBy w' (some G) := by
  have hG := holds_lt hH hne
  have h := AnyM.slices_Sort_int Try.sortL G 0 cap zs w hH hG (by omega)
  change Calls Try.prog 70 _ _ _ at h
  refine h.mono ?_
  rintro e w' ⟨rfl, n, os, rfl⟩
  refine ⟨rfl, ?_, grownBy_sortedI _⟩
  have hsz : (zs.mergeSort fun x y => decide (x ≤ y)).length = zs.length := List.length_mergeSort ..
  exact holds_grow _ _ _ _ _ _ (by simpa [putRow, mapBlock, Sort.ahead] using hG) (holds_putRow _ _ _ _ zs.toArray _ (holds_ahead _ _ _ _ _ _ hH) (by simp))
/-- slices.Compact at ints that are held: the same block, cut. -/
theorem compact_any {G cap : Nat} {zs : List Int} {w : World} (hH : Holds (Value.int .i64) w G 0 zs.toArray) (hz : zs.length ≤ 100000) (hcap : zs.length ≤ cap) :
    Calls Try.prog 67 #[.slice (some ⟨G, 0, none⟩) zs.length cap] w fun e w' => e = .returned (.slice (some ⟨G, 0, none⟩) (compact zs).length cap) ∧ Holds (Value.int .i64) w' G 0 (compact zs).toArray ∧ w.grownBy w' (some G) := by
  have h := AnyG.slices_Compact_int Try.compactL G 0 cap zs w hH (by omega) hcap
  change Calls Try.prog 67 _ _ _ at h
  refine h.mono ?_
  rintro e w' ⟨rfl, q, rfl⟩
  refine ⟨rfl, ?_, ?_⟩
  · have hle : (compact zs).length ≤ zs.length := by
      have : compact zs = compactUpTo zs.toArray zs.length := rfl
      rw [this]; unfold compactUpTo
      rw [List.length_map]
      exact Nat.le_trans (List.length_filter_le _ _) (by simp)
    have h2 := holds_putRow (Value.int .i64) (Sort.ahead w q) G 0 zs.toArray (compact zs ++ List.replicate (zs.length - (compact zs).length) 0).toArray (holds_ahead _ _ _ _ _ _ hH) (by simp; omega)
    intro j hj
    have hj' : j < (compact zs).length := by simpa using hj
    obtain ⟨a1, a2⟩ := h2 j (by simp; omega)
    refine ⟨?_, a2⟩
    rw [a1]
    congr 1
    simp [List.getElem!_eq_getElem?_getD, List.getElem?_append_left hj', hj']
  · have h3 := grownBy_sortedI (w := w) (g := G) (n := q) (os := #[]) (compact zs ++ List.replicate (zs.length - (compact zs).length) 0).toArray
    have e : ∀ W : World, grow W #[] = W := fun W => by simp [grow]
    rw [e] at h3
    exact h3
set_option maxHeartbeats 1000000 in
theorem sorted_any {g cap Bs : Nat} {zs : List Int} {w : World} (hz : zs.length ≤ 100000) (hne : zs ≠ []) (hg : g < w.heap.size) (hB : w.cell? ⟨Bs, 0, none⟩ = some (.slice (some ⟨g, 0, none⟩) zs.length cap)) (hBs : Bs < w.heap.size)
    (hc : ∀ j, j < zs.length → w.cell? ⟨g, j, none⟩ = some (.int .i64 (zs.getD j 0))) :
    Calls Try.prog 68 #[.func (.func 84) #[] #[.pointer (some ⟨Bs, 0, none⟩)]] w fun e w' => ∃ G cap', e = .returned (.slice (some ⟨G, 0, none⟩) zs.length cap') ∧ zs.length ≤ cap' ∧ w.heap.size ≤ G ∧
      Holds (Value.int .i64) w' G 0 (zs.mergeSort fun x y => decide (x ≤ y)).toArray ∧ Below w.heap.size w w' := by
  have h0 : 0 < zs.length := by cases zs with | nil => exact absurd rfl hne | cons => simp
  have q90 := appendSeq_any hz hg hB hBs hc
  have q83 : Calls Try.prog 83 #[.func (.func 84) #[] #[.pointer (some ⟨Bs, 0, none⟩)]] w fun e w' => ∃ v, e = .returned v ∧ w'.ownsRow w.heap.size 3 1 v zs.length (zs.map vz) ∧ Below w.heap.size w w' := by
    clear hc
    go_enter Try.func83, Try.ntmps83
    go_wp2_with (go_at_call 90; refine q90.mono ?_; rintro e w1 ⟨v, rfl, ho, hb⟩)
    go_ret
    exact ⟨v, rfl, ho, hb⟩
  clear q90 hc
  obtain ⟨n, hn⟩ : ∃ n, Keep (zs.length = n) := ⟨_, ⟨rfl⟩⟩
  go_enter Try.func68, Try.ntmps68
  go_wp2_with (first
    | (go_at_call 83; refine q83.mono ?_; rintro e w1 ⟨v, rfl, ho, hb⟩
       obtain ⟨G, cap', rfl, hGb, hG1, hcap, hH⟩ : ∃ G cap', v = .slice (some ⟨G, 0, none⟩) zs.length cap' ∧ w.heap.size ≤ G ∧ G < w1.heap.size ∧ zs.length ≤ cap' ∧ Holds (Value.int .i64) w1 G 0 zs.toArray := by
         rcases ho.2 with ⟨_, hz0⟩ | ⟨G, cap', cur, rfl, hbase, hgb, r1, r2, r3, r4⟩
         · exact absurd hz0 (by omega)
         · exact ⟨G, cap', rfl, hbase, (Array.getElem?_eq_some_iff.1 hgb).1, r1, holds_of_blockI hgb (by rw [Nat.mul_one] at r4; exact r4)⟩
       clear ho q83)
    | (go_at_call 70; refine (sort_any hH hne hz).mono ?_; rintro e w2 ⟨rfl, hH2, hg2⟩))
  go_ret
  exact ⟨G, cap', rfl, hcap, hGb, hH2, hb.grown hg2 hb.size (fun j hj => by cases hj; exact hGb)⟩
theorem gaps_no {N : Int} {v : Value} {zs : List Int} {w : World} (hv : IntsAt w v zs) (hl : zs.length ≤ 100000) (hN : In64 N) (hno : okLine N zs = false) :
    Calls Try.prog 24 #[.int .i64 N, v] w fun e w' => e = .returned (.tuple #[.slice none 0 0, .int .i64 2]) ∧ w' = w := by
  go_enter Try.func24, Try.ntmps24
  go_wp2_with (go_at_call 66; refine (isLine_any hv hl hN.1 hN.2).mono ?_; rintro e w5 ⟨rfl, rfl⟩; rw [hno])
  go_ret2
  exact ⟨rfl, rfl⟩
end Go.Proofs.Ytifbiamfandjnaa
