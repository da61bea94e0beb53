import Derived.Test.YtbmfipjnfbnjgaaCurtail
set_option linter.unusedSimpArgs false
set_option linter.unusedVariables false
namespace Go.Proofs.Ytbmfipjnfbnjgaa
open Go Go.Proofs Go.RowKit Go.Sample
set_option maxHeartbeats 2000000 in
set_option maxRecDepth 100000 in
theorem curtail_any {N n c : Nat} (h1 : 1 ≤ N) (h36 : N ≤ 36) (hcn : c < n) (hnN : n ≤ N) (w : World) :
    Calls Try.prog 42 #[.int .i64 N, .int .i64 n, .int .i64 c] w fun e w' => ∃ x : Crs, e = .returned (.tuple #[x.val, .int .i64 0]) ∧ CrsIn w' x ∧ x.L = n ∧ x.A = curA n c ∧ x.R = curR c ∧ Below w.heap.size w w' := by
  obtain ⟨i0, hi, hz0, hz1, hz2⟩ := info_parts info3
  have hn : 1 ≤ n := by omega
  have hn2 : n ≤ 1000 := by omega
  have hc : c ≤ 1000 := by omega
  have hrs := fun w => readSingle_any h1 h36 hcn hnN w
  unfold planV at hrs
  go_enter Try.func42, Try.ntmps42
  go_wp2_with (go_at_call 53; refine (hrs _).mono ?_; rintro e w5 ⟨rfl, hb5, _⟩
               have hO5 : Own2 w5 w.heap.size (.slice none 0 0) (.slice none 0 0) := (Own2.new w (.slice none 0 0) (.slice none 0 0) 42).after hb5
               have hbw5 : Below w.heap.size w w5 := ((Below.refl _ w).alloc (Nat.le_refl _) _).trans (hb5.mono (by simp))
               have hs5 : w.heap.size < w5.heap.size := hO5.lt
               clear hb5 hrs)
  obtain ⟨g, hg⟩ : ∃ g, w5.heap.size + 1 = g := ⟨_, rfl⟩
  obtain ⟨w0, hw0⟩ : ∃ w0, (w5.alloc (.cells #[.int .i64 n, .int .i64 c] 96)).alloc (.cells #[.slice none 0 0, .slice none 0 0] 42) = w0 := ⟨_, rfl⟩
  have hs0 : w0.heap.size = g + 1 := by rw [← hw0, ← hg]; simp
  have hO2 : Own2 w0 g (.slice none 0 0) (.slice none 0 0) := by
    rw [← hw0, ← hg]; have := Own2.new (w5.alloc (.cells #[.int .i64 n, .int .i64 c] 96)) (.slice none 0 0) (.slice none 0 0) 42; rwa [World.size_alloc] at this
  have hb50 : Below w5.heap.size w5 w0 := by rw [← hw0]; exact ((Below.refl _ w5).alloc (Nat.le_refl _) _).alloc (by simp) _
  have hO1 := hO5.after hb50
  have hb0 : Below w.heap.size w w0 := hbw5.trans (hb50.mono (by omega))
  have hg1 : w.heap.size < g := by omega
  try rw [hw0]
  try rw [hg]
  clear hw0 hg hb50 hO5 hbw5 hs5
  obtain ⟨B, hB⟩ : ∃ B, w0.heap.size = B := ⟨_, rfl⟩
  rw [hB] at hs0
  have hsk := Keep.mk hs0
  have hBk := Keep.mk hB
  clear hs0 hB
  go_loopw [12] (fun i wr => ∃ k : Nat, k ≤ n ∧ i = .int .i64 ((k : Int) + 1) ∧ ∃ va vr, Two wr B k (curA n c) (curR c) va vr ∧ Own2 wr (g) va vr ∧ Own2 wr w.heap.size (.slice none 0 0) (.slice none 0 0) ∧ Below w.heap.size w wr ∧ B ≤ wr.heap.size) (fun i _ => n + 1 - (intOf i).toNat)
  case atStart => exact ⟨0, by omega, rfl, _, _, Two.nil _ _ _ _, hO2, hO1, hb0, by rw [hBk.out]; exact Nat.le_refl _⟩
  case round =>
    obtain ⟨k, hk, rfl, va, vr, ⟨ta, tr, tap⟩, ⟨o0, o1, o2, o3⟩, hO, hbw, hbz⟩ := hrel
    by_cases hlt : k < n
    · have w1 : IntKind.i64.wrap ((n : Int) - ((k : Int) + 1)) = (n : Int) - ((k : Int) + 1) := IntWalk.i64_in _ (by omega)
      have w2 : IntKind.i64.wrap ((c : Int) - ((n : Int) - ((k : Int) + 1))) = (c : Int) - ((n : Int) - ((k : Int) + 1)) := IntWalk.i64_in _ (by omega)
      have w3 : IntKind.i64.wrap ((c : Int) + 1) = (c : Int) + 1 := IntWalk.i64_in _ (by omega)
      have w4 : IntKind.i64.wrap ((k : Int) + 1 + 1) = (k : Int) + 1 + 1 := IntWalk.i64_in _ (by omega)
      obtain ⟨x, hx⟩ : ∃ x, Keep (curA n c k = x) := ⟨_, ⟨rfl⟩⟩
      have hle : (k : Int) + 1 ≤ (n : Int) := by omega
      have tak := Keep.mk ta
      have trk := Keep.mk tr
      have tapk := Keep.mk tap
      have hmk : Keep (g < B) := ⟨by have := hsk.out; omega⟩
      have hg1k := Keep.mk hg1
      have hbwk := Keep.mk hbw
      have hbzk := Keep.mk hbz
      clear ta tr tap hbw hbz
      have t1 : Keep True := ⟨trivial⟩
      have hgl : g < wr.heap.size := by have := hbzk.out; have := hmk.out; omega
      have hOw := hO.lt
      have arm : ∀ y, y = x → True := fun _ _ => trivial
      by_cases hm : (-1 : Int) < (c : Int) - ((n : Int) - ((k : Int) + 1))
      · have hxe : Keep (x = (c : Int) - ((n : Int) - ((k : Int) + 1))) := ⟨by rw [← hx.out]; unfold curA; omega⟩
        go_wp2_with (first
          | (at_builtin; go_loud (
             clear t1
             refine wpList_append_own_at _ rfl _ _ 40 rfl B 3 i0 (.int .i64 0) 1 8 ty40 hi hz0 hz1 hz2 rfl (by decide) _ _ _ rfl (tak.out.alloc _) ⟨wr.heap.size, 0, none⟩ 1 1 [.int .i64 ((c : Int) - ((n : Int) - ((k : Int) + 1)))] rfl rfl (cell_one_new _ _ _) (fun x hx => by simp at hx; subst hx; rfl) (by unfold maxLen; omega) (by omega) (by have := hbzk.out; simp; try omega) ?_
             intro v3 w3 hoa3 hgrow3 hnil3 hblk3
             have hb3 : Below B wr w3 := Below.grown ((Below.refl _ wr).alloc hbzk.out _) hgrow3 (by simp; have := hbzk.out; omega) (fun j hj => by have := (tak.out.lt _ hj).1; omega)
             obtain ⟨o0, o1, o2, o3⟩ := (⟨o0, o1, o2, o3⟩ : Own2 wr (g) va vr).below hb3 hmk.out
             have hO3 : Own2 w3 w.heap.size (.slice none 0 0) (.slice none 0 0) := hO.below hb3 (by have := hmk.out; have := hg1k.out; omega)
             have hob3 := Keep.mk ((trk.out.alloc (.cells #[.int .i64 ((c : Int) - ((n : Int) - ((k : Int) + 1)))] 3)).kept hgrow3 (apart_ne tapk.out))
             have hap3 := Keep.mk (apart_new tapk.out hblk3 (fun j hj => by have := (trk.out.lt _ hj).2; simp; omega))
             have hoa3' : w3.ownsRow B 3 1 v3 (k + 1) (rowL (curA n c) (k + 1)) := by rw [rowL_succ, hx.out, hxe.out]; exact hoa3
             have hoa3k := Keep.mk hoa3'
             obtain ⟨g3, c3, rfl, _⟩ := row_parts (by omega) hoa3'
             have hbw3 := Keep.mk (hbwk.out.trans (hb3.mono (by have := hmk.out; have := hg1k.out; omega)))
             have hbz3 := Keep.mk (Nat.le_trans hbzk.out hb3.size)
             have hgl3 : g < w3.heap.size := Nat.lt_of_lt_of_le hgl hb3.size
             have t2 : Keep True := ⟨trivial⟩
             clear hgrow3 hnil3 hblk3 hoa3 hoa3' hb3 tak tapk hO))
          | (at_builtin; go_loud (
             clear t2
             refine wpList_append_own_at _ rfl _ _ 40 rfl B 3 i0 (.int .i64 0) 1 8 ty40 hi hz0 hz1 hz2 rfl (by decide) _ _ _ rfl ((ownsRow_setCell_below hob3.out (a := ⟨g, 0, none⟩) (by exact hmk.out) _).alloc _) ⟨w3.heap.size, 0, none⟩ 1 1 [.int .i64 ((c : Int) + 1)] rfl rfl (cell_one_at (size_setCell _ _ _)) (fun x hx => by simp at hx; subst hx; rfl) (by unfold maxLen; omega) (by omega) (by have := hbz3.out; rw [World.size_alloc, size_setCell]; omega) ?_
             intro v4 w4 hob4 hgrow4 hnil4 hblk4
             have hb4 : Below B (w3.setCell ⟨g, 0, none⟩ (.slice (some ⟨g3, 0, none⟩) (k + 1) c3)) w4 := Below.grown ((Below.refl _ _).alloc (by rw [size_setCell]; exact hbz3.out) _) hgrow4 (by rw [World.size_alloc, size_setCell]; have := hbz3.out; omega) (fun j hj => by have := (hob3.out.lt _ hj).1; omega)
             obtain ⟨o0, o1, o2, o3⟩ := ((⟨o0, o1, o2, o3⟩ : Own2 w3 (g) (va) vr).set0 (u := .slice (some ⟨g3, 0, none⟩) (k + 1) c3)).below hb4 hmk.out
             have hO4 : Own2 w4 w.heap.size (.slice none 0 0) (.slice none 0 0) := (hO3.other (g' := g) (by have := hg1k.out; omega)).below hb4 (by have := hmk.out; have := hg1k.out; omega)
             have hoa4 := ((ownsRow_setCell_below hoa3k.out (a := ⟨g, 0, none⟩) (by exact hmk.out) (.slice (some ⟨g3, 0, none⟩) (k + 1) c3)).alloc (.cells #[.int .i64 ((c : Int) + 1)] 3)).kept hgrow4 (apart_ne (apart_symm hap3.out))
             have hap4 := apart_symm (apart_new (apart_symm hap3.out) hblk4 (fun j hj => by have := (hoa3k.out.lt _ hj).2; rw [World.size_alloc, size_setCell]; omega))
             have hob4' : w4.ownsRow B 3 1 v4 (k + 1) (rowL (curR c) (k + 1)) := by rw [rowL_succ]; exact hob4
             have hT4 := Keep.mk (Two.mk hoa4 hob4' hap4)
             obtain ⟨g4, c4, rfl, _⟩ := row_parts (by omega) hob4'
             have hbw4 := Keep.mk ((hbw3.out.setCell (p := ⟨g, 0, none⟩) (by have := hg1k.out; simp; omega) (.slice (some ⟨g3, 0, none⟩) (k + 1) c3)).trans (hb4.mono (by have := hmk.out; have := hg1k.out; omega)))
             have hbz4 := Keep.mk (Nat.le_trans hbz3.out (by have := hb4.size; rwa [size_setCell] at this))
             have t3 : Keep True := ⟨trivial⟩
             clear hob4 hgrow4 hnil4 hblk4 hoa4 hap4 hob4' hb4 hob3 hap3 hoa3k hO3 hbw3 hbz3)))
        have hO5 := (⟨o0, o1, o2, o3⟩ : Own2 w4 (g) (.slice (some ⟨g3, 0, none⟩) (k + 1) c3) vr).set1 (u := .slice (some ⟨g4, 0, none⟩) (k + 1) c4)
        exact ⟨⟨k + 1, by omega, by go_num, _, _, hT4.out.set hmk.out, hO5, hO4.other (by have := hg1k.out; omega), hbw4.out.setCell (p := ⟨g, 1, none⟩) (by have := hg1k.out; simp; omega) _, by rw [size_setCell]; exact hbz4.out⟩, by simp [intOf]; omega⟩
      · have hxe : Keep (x = -1) := ⟨by rw [← hx.out]; unfold curA; omega⟩
        go_wp2_with (first
          | (at_builtin; go_loud (
             clear t1
             refine wpList_append_own_at _ rfl _ _ 40 rfl B 3 i0 (.int .i64 0) 1 8 ty40 hi hz0 hz1 hz2 rfl (by decide) _ _ _ rfl (tak.out.alloc _) ⟨wr.heap.size, 0, none⟩ 1 1 [.int .i64 (-1)] rfl rfl (cell_one_new _ _ _) (fun x hx => by simp at hx; subst hx; rfl) (by unfold maxLen; omega) (by omega) (by have := hbzk.out; simp; try omega) ?_
             intro v3 w3 hoa3 hgrow3 hnil3 hblk3
             have hb3 : Below B wr w3 := Below.grown ((Below.refl _ wr).alloc hbzk.out _) hgrow3 (by simp; have := hbzk.out; omega) (fun j hj => by have := (tak.out.lt _ hj).1; omega)
             obtain ⟨o0, o1, o2, o3⟩ := (⟨o0, o1, o2, o3⟩ : Own2 wr (g) va vr).below hb3 hmk.out
             have hO3 : Own2 w3 w.heap.size (.slice none 0 0) (.slice none 0 0) := hO.below hb3 (by have := hmk.out; have := hg1k.out; omega)
             have hob3 := Keep.mk ((trk.out.alloc (.cells #[.int .i64 (-1)] 3)).kept hgrow3 (apart_ne tapk.out))
             have hap3 := Keep.mk (apart_new tapk.out hblk3 (fun j hj => by have := (trk.out.lt _ hj).2; simp; omega))
             have hoa3' : w3.ownsRow B 3 1 v3 (k + 1) (rowL (curA n c) (k + 1)) := by rw [rowL_succ, hx.out, hxe.out]; exact hoa3
             have hoa3k := Keep.mk hoa3'
             obtain ⟨g3, c3, rfl, _⟩ := row_parts (by omega) hoa3'
             have hbw3 := Keep.mk (hbwk.out.trans (hb3.mono (by have := hmk.out; have := hg1k.out; omega)))
             have hbz3 := Keep.mk (Nat.le_trans hbzk.out hb3.size)
             have hgl3 : g < w3.heap.size := Nat.lt_of_lt_of_le hgl hb3.size
             have t2 : Keep True := ⟨trivial⟩
             clear hgrow3 hnil3 hblk3 hoa3 hoa3' hb3 tak tapk hO))
          | (at_builtin; go_loud (
             clear t2
             refine wpList_append_own_at _ rfl _ _ 40 rfl B 3 i0 (.int .i64 0) 1 8 ty40 hi hz0 hz1 hz2 rfl (by decide) _ _ _ rfl ((ownsRow_setCell_below hob3.out (a := ⟨g, 0, none⟩) (by exact hmk.out) _).alloc _) ⟨w3.heap.size, 0, none⟩ 1 1 [.int .i64 ((c : Int) + 1)] rfl rfl (cell_one_at (size_setCell _ _ _)) (fun x hx => by simp at hx; subst hx; rfl) (by unfold maxLen; omega) (by omega) (by have := hbz3.out; rw [World.size_alloc, size_setCell]; omega) ?_
             intro v4 w4 hob4 hgrow4 hnil4 hblk4
             have hb4 : Below B (w3.setCell ⟨g, 0, none⟩ (.slice (some ⟨g3, 0, none⟩) (k + 1) c3)) w4 := Below.grown ((Below.refl _ _).alloc (by rw [size_setCell]; exact hbz3.out) _) hgrow4 (by rw [World.size_alloc, size_setCell]; have := hbz3.out; omega) (fun j hj => by have := (hob3.out.lt _ hj).1; omega)
             obtain ⟨o0, o1, o2, o3⟩ := ((⟨o0, o1, o2, o3⟩ : Own2 w3 (g) (va) vr).set0 (u := .slice (some ⟨g3, 0, none⟩) (k + 1) c3)).below hb4 hmk.out
             have hO4 : Own2 w4 w.heap.size (.slice none 0 0) (.slice none 0 0) := (hO3.other (g' := g) (by have := hg1k.out; omega)).below hb4 (by have := hmk.out; have := hg1k.out; omega)
             have hoa4 := ((ownsRow_setCell_below hoa3k.out (a := ⟨g, 0, none⟩) (by exact hmk.out) (.slice (some ⟨g3, 0, none⟩) (k + 1) c3)).alloc (.cells #[.int .i64 ((c : Int) + 1)] 3)).kept hgrow4 (apart_ne (apart_symm hap3.out))
             have hap4 := apart_symm (apart_new (apart_symm hap3.out) hblk4 (fun j hj => by have := (hoa3k.out.lt _ hj).2; rw [World.size_alloc, size_setCell]; omega))
             have hob4' : w4.ownsRow B 3 1 v4 (k + 1) (rowL (curR c) (k + 1)) := by rw [rowL_succ]; exact hob4
             have hT4 := Keep.mk (Two.mk hoa4 hob4' hap4)
             obtain ⟨g4, c4, rfl, _⟩ := row_parts (by omega) hob4'
             have hbw4 := Keep.mk ((hbw3.out.setCell (p := ⟨g, 0, none⟩) (by have := hg1k.out; simp; omega) (.slice (some ⟨g3, 0, none⟩) (k + 1) c3)).trans (hb4.mono (by have := hmk.out; have := hg1k.out; omega)))
             have hbz4 := Keep.mk (Nat.le_trans hbz3.out (by have := hb4.size; rwa [size_setCell] at this))
             have t3 : Keep True := ⟨trivial⟩
             clear hob4 hgrow4 hnil4 hblk4 hoa4 hap4 hob4' hb4 hob3 hap3 hoa3k hO3 hbw3 hbz3)))
        have hO5 := (⟨o0, o1, o2, o3⟩ : Own2 w4 (g) (.slice (some ⟨g3, 0, none⟩) (k + 1) c3) vr).set1 (u := .slice (some ⟨g4, 0, none⟩) (k + 1) c4)
        exact ⟨⟨k + 1, by omega, by go_num, _, _, hT4.out.set hmk.out, hO5, hO4.other (by have := hg1k.out; omega), hbw4.out.setCell (p := ⟨g, 1, none⟩) (by have := hg1k.out; simp; omega) _, by rw [size_setCell]; exact hbz4.out⟩, by simp [intOf]; omega⟩
    · have : k = n := by omega
      subst this
      have hle : ¬ (k : Int) + 1 ≤ (k : Int) := by omega
      obtain ⟨z, rfl, rfl, hz, zL, zA, zR, zga, zgr, zr⟩ := Two.crs ⟨ta, tr, tap⟩ hn
      unfold Crs.sa at o0
      unfold Crs.sr at o1
      obtain ⟨p0, p1, p2, p3⟩ := hO
      have hga : z.ga ≠ w.heap.size := by have := hsk.out; omega
      have hgr : z.gr ≠ w.heap.size := by have := hsk.out; omega
      go_wp2
      refine bodyPost_ret (v := .tuple #[z.val, .int .i64 0]) (by unfold Crs.val Crs.sa Crs.sr; simp [results, Try.results42, go_sem]; try go_simp) rfl ?_
      refine ⟨z, rfl, ?_, zL, zA, zR, (hbw.setCell (p := ⟨w.heap.size, 0, none⟩) (by simp) _).setCell (p := ⟨w.heap.size, 1, none⟩) (by simp) _⟩
      have e1 := fun (b : Nat) (h : b ≠ w.heap.size) (u u' : Value) => (Below.heap_setCell (wr.setCell ⟨w.heap.size, 0, none⟩ u) ⟨w.heap.size, 1, none⟩ u' b h).trans (Below.heap_setCell wr ⟨w.heap.size, 0, none⟩ u b h)
      exact ⟨fun j hj => (World.cell?_of_block (a := ⟨z.ga, z.oa + j, none⟩) (e1 _ hga _ _)).trans (hz.las j hj), fun j hj => (World.cell?_of_block (a := ⟨z.gr, z.ro + j, none⟩) (e1 _ hgr _ _)).trans (hz.lrs j hj)⟩
end Go.Proofs.Ytbmfipjnfbnjgaa
