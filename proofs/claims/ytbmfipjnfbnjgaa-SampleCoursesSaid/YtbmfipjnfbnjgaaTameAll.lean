import Derived.Test.YtbmfipjnfbnjgaaInts
import Derived.Test.YtbmfipjnfbnjgaaArrays
import Derived.ChangeSlices
import Derived.DataReads
import Derived.WideShapes
import Derived.ProofKit
import Derived.OpenShut
import Derived.OwnWalk
import Derived.Laws.AppendOwn
import Derived.Test.YtbmfipjnfbnjgaaCurtail
import Derived.Test.YtbmfipjnfbnjgaaMod
import Derived.Test.YtbmfipjnfbnjgaaCourseFn
import Derived.Test.YtbmfipjnfbnjgaaSeqI
set_option linter.unusedSimpArgs false
set_option linter.unusedVariables false
namespace Go.Proofs.Ytbmfipjnfbnjgaa
open Go Go.Proofs Go.RowKit Go.ChangeShapes Go.WideShapes Go.Sample
/-- A list of ints that came in. -/
def ArgInts (w : World) (v : Value) (zs : List Int) : Prop :=
  (v = .slice none 0 0 ∧ zs = []) ∨ (∃ (a : Addr) (cap : Nat), v = .slice (some a) 0 cap ∧ zs = []) ∨ ∃ (b o cap : Nat), v = .slice (some ⟨b, o, none⟩) zs.length cap ∧ zs.length ≤ cap ∧ cap ≤ maxLen ∧ b < w.heap.size ∧ ∀ i, i < zs.length → w.cell? ⟨b, o + i, none⟩ = some (vz (zs.getD i 0))
theorem take_getz {zs : List Int} {m k : Nat} (h : k < m) : (zs.take m).getD k 0 = zs.getD k 0 := by
  rw [List.getD_eq_getElem?_getD, List.getElem?_take_of_lt h, ← List.getD_eq_getElem?_getD]
theorem cells_of_arg {w : World} {b o m : Nat} {zs : List Int} (hm : m ≤ zs.length) (hc : ∀ i, i < zs.length → w.cell? ⟨b, o + i, none⟩ = some (vz (zs.getD i 0))) :
    ∀ j u, ((zs.take m).map vz)[j]? = some u → w.cell? ((⟨b, o, none⟩ : Addr).add j) = some u := by
  intro j u hj
  have hjl : j < (zs.take m).length := by
    have := (List.getElem?_eq_some_iff.1 hj).1
    simpa using this
  have hplain : (⟨b, o, none⟩ : Addr).add j = ⟨b, o + j, none⟩ := by unfold Addr.add; split <;> simp_all
  rw [List.length_take] at hjl
  rw [hplain, hc j (by omega), ← hj, List.getElem?_map, List.getElem?_take_of_lt (by omega), List.getElem?_eq_getElem (show j < zs.length by omega), List.getD_eq_getElem?_getD, List.getElem?_eq_getElem (show j < zs.length by omega)]
  rfl
set_option maxRecDepth 100000 in
theorem list_any {v : Value} {zs : List Int} {w : World} (hv : ArgInts w v zs) :
    Calls Try.prog 61 #[v] w fun e w' => ∃ v', e = .returned v' ∧ w'.ownsRow w.heap.size 3 1 v' (zs.take 37).length ((zs.take 37).map vz) ∧ Below w.heap.size w w' := by
  obtain ⟨i0, hi, hz0, hz1, hz2⟩ := info_parts info3
  rcases hv with ⟨rfl, rfl⟩ | ⟨a, cap, rfl, rfl⟩ | ⟨b, o, cap, rfl, hcap, hmax, hb, hc⟩
  · go_enter Try.func61, Try.ntmps61
    go_wp2
    go_ret
    exact ⟨_, rfl, World.ownsRow_nil _ _ _ _, Below.refl _ _⟩
  · go_enter Try.func61, Try.ntmps61
    go_wp2_with (at_builtin; go_loud (
      refine wpList_append_own _ rfl _ _ 40 rfl w.heap.size 3 i0 (.int .i64 0) 1 8 ty40 hi hz0 hz1 hz2 rfl (by decide) _ 0 [] rfl (World.ownsRow_nil _ _ _ _) a 0 cap [] rfl (by simp) (by simp) (by simp) (by unfold maxLen; omega) (by omega) (by simp) ?_
      intro v' w3 hown' hgrow3 hnil3
      have hbw3 : Below w.heap.size w w3 := Below.grown (Below.refl _ _) hgrow3 (by simp) (fun k hk => by cases hk)))
    go_ret
    refine ⟨_, rfl, ?_, hbw3⟩
    simpa using hown'
  · by_cases hl : zs.length ≤ 37
    · have e : zs.take 37 = zs := List.take_of_length_le (by omega)
      rw [e]
      have hcs := cells_of_arg (m := zs.length) (Nat.le_refl _) hc
      rw [List.take_length] at hcs
      clear hc
      go_enter Try.func61, Try.ntmps61
      go_wp2_with (at_builtin; go_loud (
        refine wpList_append_own _ rfl _ _ 40 rfl w.heap.size 3 i0 (.int .i64 0) 1 8 ty40 hi hz0 hz1 hz2 rfl (by decide) _ 0 [] rfl (World.ownsRow_nil _ _ _ _) ⟨b, o, none⟩ zs.length cap (zs.map vz) rfl (by simp) hcs (fun x hx => by rw [List.mem_map] at hx; obtain ⟨_, _, rfl⟩ := hx; rfl) (by unfold maxLen; omega) (by omega) (by simp) ?_
        intro v' w3 hown' hgrow3 hnil3
        have hbw3 : Below w.heap.size w w3 := Below.grown (Below.refl _ _) hgrow3 (by simp) (fun k hk => by cases hk)))
      go_ret
      refine ⟨_, rfl, ?_, hbw3⟩
      simpa using hown'
    · have hlen : (zs.take 37).length = 37 := by rw [List.length_take]; omega
      rw [hlen]
      have hcs := cells_of_arg (m := 37) (by omega) hc
      clear hc
      have hge : (37 : Int) < (zs.length : Int) := by omega
      go_enter Try.func61, Try.ntmps61
      go_wp2_with (at_builtin; go_loud (
        refine wpList_append_own _ rfl _ _ 40 rfl w.heap.size 3 i0 (.int .i64 0) 1 8 ty40 hi hz0 hz1 hz2 rfl (by decide) _ 0 [] rfl (World.ownsRow_nil _ _ _ _) ⟨b, o, none⟩ 37 cap ((zs.take 37).map vz) rfl (by simp; omega) hcs (fun x hx => by rw [List.mem_map] at hx; obtain ⟨_, _, rfl⟩ := hx; rfl) (by unfold maxLen; omega) (by omega) (by simp) ?_
        intro v' w3 hown' hgrow3 hnil3
        have hbw3 : Below w.heap.size w w3 := Below.grown (Below.refl _ _) hgrow3 (by simp) (fun k hk => by cases hk)))
      go_ret
      refine ⟨_, rfl, ?_, hbw3⟩
      simpa using hown'
theorem cells3 : Try.prog.cellsOf 3 = 1 := by kernel_rfl
theorem ty3 : Try.prog.underlying 3 = some (.int .i64) := by kernel_rfl
set_option maxRecDepth 100000 in
theorem arg_ints {H : Type} {enc : TypeId × Value → H} {W : World} {r : Reach} {b0 : Nat} {v : Value} {d : DataW H} {ps : List MemPlace} (hval : Value.okWide Try.prog W r b0 40 v)
    (hd : DataW.Trod enc Try.prog W 0 (fun _ => true) true 40 v d ps) : ∃ zs : List Int, ArgInts W v zs := by
  obtain ⟨a, len, cap, rfl⟩ := okWide_slice ty40 hval
  obtain ⟨fuel, hf⟩ := hd
  rcases open_ints ty40 ty3 cells3 hf with ⟨hc, hx⟩ | ⟨a', len', cap', zs, hc, _, hl, hm, hz, hx, hcell, hwz⟩
  · simp [Value.cells] at hc
    obtain ⟨rfl, rfl, rfl⟩ := hc
    exact ⟨[], .inl ⟨rfl, rfl⟩⟩
  · simp [Value.cells] at hc
    obtain ⟨rfl, rfl, rfl⟩ := hc
    rw [if_pos rfl] at hz
    obtain ⟨b, o, sp⟩ := a'
    rcases Nat.eq_zero_or_pos len with h0 | h0
    · subst h0
      exact ⟨[], .inr (.inl ⟨_, _, rfl, rfl⟩)⟩
    · have g0 := hcell 0 (by omega)
      have hspot : sp = none := by simpa [Addr.add] using World.cell?_spot g0
      subst hspot
      have hplain : ∀ j, (⟨b, o, none⟩ : Addr).add j = ⟨b, o + j, none⟩ := fun j => by unfold Addr.add; split <;> simp_all
      have hlen : (zs.take len).length = len := by rw [List.length_take]; omega
      refine ⟨zs.take len, .inr (.inr ⟨b, o, cap, by rw [hlen], by omega, hm, ?_, fun i hi => ?_⟩)⟩
      · rcases Nat.lt_or_ge b W.heap.size with h | h
        · exact h
        · simp [Addr.add, World.cell?, Array.getElem?_eq_none h] at g0
      · have h1 := hcell i (by omega)
        rw [hplain] at h1
        rw [h1, List.getD_eq_getElem?_getD, List.getD_eq_getElem?_getD, List.getElem?_take_of_lt (by omega)]
        rfl
end Go.Proofs.Ytbmfipjnfbnjgaa
namespace Go.Proofs.Ytbmfipjnfbnjgaa
open Go Go.Proofs Go.RowKit Go.ChangeShapes Go.WideShapes Go.Sample
theorem argInts_at {w : World} {v : Value} {zs : List Int} (h : ArgInts w v zs) : IntsO w v zs ∧ zs.length ≤ maxLen := by
  rcases h with ⟨rfl, rfl⟩ | ⟨a, cap, rfl, rfl⟩ | ⟨b, o, cap, rfl, hcap, hmax, hb, hc⟩
  · exact ⟨⟨none, 0, rfl, fun k hk => by simp at hk⟩, by simp⟩
  · exact ⟨⟨some a, cap, rfl, fun k hk => by simp at hk⟩, by simp⟩
  · exact ⟨⟨some ⟨b, o, none⟩, cap, rfl, fun k hk => ⟨b, o, rfl, hc k hk⟩⟩, by omega⟩
end Go.Proofs.Ytbmfipjnfbnjgaa
set_option linter.unusedSimpArgs false
set_option linter.unusedVariables false
namespace Go.Proofs.Ytbmfipjnfbnjgaa
open Go Go.Proofs Go.RowKit Go.Sample
set_option maxHeartbeats 2000000 in
set_option maxRecDepth 100000 in
theorem curtail_own {N n c : Nat} (h1 : 1 ≤ N) (h36 : N ≤ 36) (hcn : c < n) (hnN : n ≤ N) (w : World) :
    Calls Try.prog 42 #[.int .i64 N, .int .i64 n, .int .i64 c] w fun e w' => ∃ B va vr, e = .returned (.tuple #[.agg #[va, vr], .int .i64 0]) ∧ w.heap.size < B ∧ Two w' B n (curA n c) (curR c) va vr ∧ Below w.heap.size w w' := by
  obtain ⟨i0, hi, hz0, hz1, hz2⟩ := info_parts info3
  have hn : 1 ≤ n := by omega
  have hn2 : n ≤ 1000 := by omega
  have hc : c ≤ 1000 := by omega
  have hrs := fun w => readSingle_any h1 h36 hcn hnN w
  unfold planV at hrs
  go_enter Try.func42, Try.ntmps42
  go_wp2_with (go_at_call 53; refine (hrs _).mono ?_; rintro e w5 ⟨rfl, hb5, _⟩
               have hO5 : Own2 w5 w.heap.size (.slice none 0 0) (.slice none 0 0) := (Own2.new w (.slice none 0 0) (.slice none 0 0) 42).after hb5
               have hbw5 : Below w.heap.size w w5 := ((Below.refl _ w).alloc (Nat.le_refl _) _).trans (hb5.mono (by simp))
               have hs5 : w.heap.size < w5.heap.size := hO5.lt
               clear hb5 hrs)
  obtain ⟨g, hg⟩ : ∃ g, w5.heap.size + 1 = g := ⟨_, rfl⟩
  obtain ⟨w0, hw0⟩ : ∃ w0, (w5.alloc (.cells #[.int .i64 n, .int .i64 c] 96)).alloc (.cells #[.slice none 0 0, .slice none 0 0] 42) = w0 := ⟨_, rfl⟩
  have hs0 : w0.heap.size = g + 1 := by rw [← hw0, ← hg]; simp
  have hO2 : Own2 w0 g (.slice none 0 0) (.slice none 0 0) := by
    rw [← hw0, ← hg]; have := Own2.new (w5.alloc (.cells #[.int .i64 n, .int .i64 c] 96)) (.slice none 0 0) (.slice none 0 0) 42; rwa [World.size_alloc] at this
  have hb50 : Below w5.heap.size w5 w0 := by rw [← hw0]; exact ((Below.refl _ w5).alloc (Nat.le_refl _) _).alloc (by simp) _
  have hO1 := hO5.after hb50
  have hb0 : Below w.heap.size w w0 := hbw5.trans (hb50.mono (by omega))
  have hg1 : w.heap.size < g := by omega
  try rw [hw0]
  try rw [hg]
  clear hw0 hg hb50 hO5 hbw5 hs5
  obtain ⟨B, hB⟩ : ∃ B, w0.heap.size = B := ⟨_, rfl⟩
  rw [hB] at hs0
  have hsk := Keep.mk hs0
  have hBk := Keep.mk hB
  clear hs0 hB
  go_loopw [12] (fun i wr => ∃ k : Nat, k ≤ n ∧ i = .int .i64 ((k : Int) + 1) ∧ ∃ va vr, Two wr B k (curA n c) (curR c) va vr ∧ Own2 wr (g) va vr ∧ Own2 wr w.heap.size (.slice none 0 0) (.slice none 0 0) ∧ Below w.heap.size w wr ∧ B ≤ wr.heap.size) (fun i _ => n + 1 - (intOf i).toNat)
  case atStart => exact ⟨0, by omega, rfl, _, _, Two.nil _ _ _ _, hO2, hO1, hb0, by rw [hBk.out]; exact Nat.le_refl _⟩
  case round =>
    obtain ⟨k, hk, rfl, va, vr, ⟨ta, tr, tap⟩, ⟨o0, o1, o2, o3⟩, hO, hbw, hbz⟩ := hrel
    by_cases hlt : k < n
    · have w1 : IntKind.i64.wrap ((n : Int) - ((k : Int) + 1)) = (n : Int) - ((k : Int) + 1) := IntWalk.i64_in _ (by omega)
      have w2 : IntKind.i64.wrap ((c : Int) - ((n : Int) - ((k : Int) + 1))) = (c : Int) - ((n : Int) - ((k : Int) + 1)) := IntWalk.i64_in _ (by omega)
      have w3 : IntKind.i64.wrap ((c : Int) + 1) = (c : Int) + 1 := IntWalk.i64_in _ (by omega)
      have w4 : IntKind.i64.wrap ((k : Int) + 1 + 1) = (k : Int) + 1 + 1 := IntWalk.i64_in _ (by omega)
      obtain ⟨x, hx⟩ : ∃ x, Keep (curA n c k = x) := ⟨_, ⟨rfl⟩⟩
      have hle : (k : Int) + 1 ≤ (n : Int) := by omega
      have tak := Keep.mk ta
      have trk := Keep.mk tr
      have tapk := Keep.mk tap
      have hmk : Keep (g < B) := ⟨by have := hsk.out; omega⟩
      have hg1k := Keep.mk hg1
      have hbwk := Keep.mk hbw
      have hbzk := Keep.mk hbz
      clear ta tr tap hbw hbz
      have t1 : Keep True := ⟨trivial⟩
      have hgl : g < wr.heap.size := by have := hbzk.out; have := hmk.out; omega
      have hOw := hO.lt
      have arm : ∀ y, y = x → True := fun _ _ => trivial
      by_cases hm : (-1 : Int) < (c : Int) - ((n : Int) - ((k : Int) + 1))
      · have hxe : Keep (x = (c : Int) - ((n : Int) - ((k : Int) + 1))) := ⟨by rw [← hx.out]; unfold curA; omega⟩
        go_wp2_with (first
          | (at_builtin; go_loud (
             clear t1
             refine wpList_append_own_at _ rfl _ _ 40 rfl B 3 i0 (.int .i64 0) 1 8 ty40 hi hz0 hz1 hz2 rfl (by decide) _ _ _ rfl (tak.out.alloc _) ⟨wr.heap.size, 0, none⟩ 1 1 [.int .i64 ((c : Int) - ((n : Int) - ((k : Int) + 1)))] rfl rfl (cell_one_new _ _ _) (fun x hx => by simp at hx; subst hx; rfl) (by unfold maxLen; omega) (by omega) (by have := hbzk.out; simp; try omega) ?_
             intro v3 w3 hoa3 hgrow3 hnil3 hblk3
             have hb3 : Below B wr w3 := Below.grown ((Below.refl _ wr).alloc hbzk.out _) hgrow3 (by simp; have := hbzk.out; omega) (fun j hj => by have := (tak.out.lt _ hj).1; omega)
             obtain ⟨o0, o1, o2, o3⟩ := (⟨o0, o1, o2, o3⟩ : Own2 wr (g) va vr).below hb3 hmk.out
             have hO3 : Own2 w3 w.heap.size (.slice none 0 0) (.slice none 0 0) := hO.below hb3 (by have := hmk.out; have := hg1k.out; omega)
             have hob3 := Keep.mk ((trk.out.alloc (.cells #[.int .i64 ((c : Int) - ((n : Int) - ((k : Int) + 1)))] 3)).kept hgrow3 (apart_ne tapk.out))
             have hap3 := Keep.mk (apart_new tapk.out hblk3 (fun j hj => by have := (trk.out.lt _ hj).2; simp; omega))
             have hoa3' : w3.ownsRow B 3 1 v3 (k + 1) (rowL (curA n c) (k + 1)) := by rw [rowL_succ, hx.out, hxe.out]; exact hoa3
             have hoa3k := Keep.mk hoa3'
             obtain ⟨g3, c3, rfl, _⟩ := row_parts (by omega) hoa3'
             have hbw3 := Keep.mk (hbwk.out.trans (hb3.mono (by have := hmk.out; have := hg1k.out; omega)))
             have hbz3 := Keep.mk (Nat.le_trans hbzk.out hb3.size)
             have hgl3 : g < w3.heap.size := Nat.lt_of_lt_of_le hgl hb3.size
             have t2 : Keep True := ⟨trivial⟩
             clear hgrow3 hnil3 hblk3 hoa3 hoa3' hb3 tak tapk hO))
          | (at_builtin; go_loud (
             clear t2
             refine wpList_append_own_at _ rfl _ _ 40 rfl B 3 i0 (.int .i64 0) 1 8 ty40 hi hz0 hz1 hz2 rfl (by decide) _ _ _ rfl ((ownsRow_setCell_below hob3.out (a := ⟨g, 0, none⟩) (by exact hmk.out) _).alloc _) ⟨w3.heap.size, 0, none⟩ 1 1 [.int .i64 ((c : Int) + 1)] rfl rfl (cell_one_at (size_setCell _ _ _)) (fun x hx => by simp at hx; subst hx; rfl) (by unfold maxLen; omega) (by omega) (by have := hbz3.out; rw [World.size_alloc, size_setCell]; omega) ?_
             intro v4 w4 hob4 hgrow4 hnil4 hblk4
             have hb4 : Below B (w3.setCell ⟨g, 0, none⟩ (.slice (some ⟨g3, 0, none⟩) (k + 1) c3)) w4 := Below.grown ((Below.refl _ _).alloc (by rw [size_setCell]; exact hbz3.out) _) hgrow4 (by rw [World.size_alloc, size_setCell]; have := hbz3.out; omega) (fun j hj => by have := (hob3.out.lt _ hj).1; omega)
             obtain ⟨o0, o1, o2, o3⟩ := ((⟨o0, o1, o2, o3⟩ : Own2 w3 (g) (va) vr).set0 (u := .slice (some ⟨g3, 0, none⟩) (k + 1) c3)).below hb4 hmk.out
             have hO4 : Own2 w4 w.heap.size (.slice none 0 0) (.slice none 0 0) := (hO3.other (g' := g) (by have := hg1k.out; omega)).below hb4 (by have := hmk.out; have := hg1k.out; omega)
             have hoa4 := ((ownsRow_setCell_below hoa3k.out (a := ⟨g, 0, none⟩) (by exact hmk.out) (.slice (some ⟨g3, 0, none⟩) (k + 1) c3)).alloc (.cells #[.int .i64 ((c : Int) + 1)] 3)).kept hgrow4 (apart_ne (apart_symm hap3.out))
             have hap4 := apart_symm (apart_new (apart_symm hap3.out) hblk4 (fun j hj => by have := (hoa3k.out.lt _ hj).2; rw [World.size_alloc, size_setCell]; omega))
             have hob4' : w4.ownsRow B 3 1 v4 (k + 1) (rowL (curR c) (k + 1)) := by rw [rowL_succ]; exact hob4
             have hT4 := Keep.mk (Two.mk hoa4 hob4' hap4)
             obtain ⟨g4, c4, rfl, _⟩ := row_parts (by omega) hob4'
             have hbw4 := Keep.mk ((hbw3.out.setCell (p := ⟨g, 0, none⟩) (by have := hg1k.out; simp; omega) (.slice (some ⟨g3, 0, none⟩) (k + 1) c3)).trans (hb4.mono (by have := hmk.out; have := hg1k.out; omega)))
             have hbz4 := Keep.mk (Nat.le_trans hbz3.out (by have := hb4.size; rwa [size_setCell] at this))
             have t3 : Keep True := ⟨trivial⟩
             clear hob4 hgrow4 hnil4 hblk4 hoa4 hap4 hob4' hb4 hob3 hap3 hoa3k hO3 hbw3 hbz3)))
        have hO5 := (⟨o0, o1, o2, o3⟩ : Own2 w4 (g) (.slice (some ⟨g3, 0, none⟩) (k + 1) c3) vr).set1 (u := .slice (some ⟨g4, 0, none⟩) (k + 1) c4)
        exact ⟨⟨k + 1, by omega, by go_num, _, _, hT4.out.set hmk.out, hO5, hO4.other (by have := hg1k.out; omega), hbw4.out.setCell (p := ⟨g, 1, none⟩) (by have := hg1k.out; simp; omega) _, by rw [size_setCell]; exact hbz4.out⟩, by simp [intOf]; omega⟩
      · have hxe : Keep (x = -1) := ⟨by rw [← hx.out]; unfold curA; omega⟩
        go_wp2_with (first
          | (at_builtin; go_loud (
             clear t1
             refine wpList_append_own_at _ rfl _ _ 40 rfl B 3 i0 (.int .i64 0) 1 8 ty40 hi hz0 hz1 hz2 rfl (by decide) _ _ _ rfl (tak.out.alloc _) ⟨wr.heap.size, 0, none⟩ 1 1 [.int .i64 (-1)] rfl rfl (cell_one_new _ _ _) (fun x hx => by simp at hx; subst hx; rfl) (by unfold maxLen; omega) (by omega) (by have := hbzk.out; simp; try omega) ?_
             intro v3 w3 hoa3 hgrow3 hnil3 hblk3
             have hb3 : Below B wr w3 := Below.grown ((Below.refl _ wr).alloc hbzk.out _) hgrow3 (by simp; have := hbzk.out; omega) (fun j hj => by have := (tak.out.lt _ hj).1; omega)
             obtain ⟨o0, o1, o2, o3⟩ := (⟨o0, o1, o2, o3⟩ : Own2 wr (g) va vr).below hb3 hmk.out
             have hO3 : Own2 w3 w.heap.size (.slice none 0 0) (.slice none 0 0) := hO.below hb3 (by have := hmk.out; have := hg1k.out; omega)
             have hob3 := Keep.mk ((trk.out.alloc (.cells #[.int .i64 (-1)] 3)).kept hgrow3 (apart_ne tapk.out))
             have hap3 := Keep.mk (apart_new tapk.out hblk3 (fun j hj => by have := (trk.out.lt _ hj).2; simp; omega))
             have hoa3' : w3.ownsRow B 3 1 v3 (k + 1) (rowL (curA n c) (k + 1)) := by rw [rowL_succ, hx.out, hxe.out]; exact hoa3
             have hoa3k := Keep.mk hoa3'
             obtain ⟨g3, c3, rfl, _⟩ := row_parts (by omega) hoa3'
             have hbw3 := Keep.mk (hbwk.out.trans (hb3.mono (by have := hmk.out; have := hg1k.out; omega)))
             have hbz3 := Keep.mk (Nat.le_trans hbzk.out hb3.size)
             have hgl3 : g < w3.heap.size := Nat.lt_of_lt_of_le hgl hb3.size
             have t2 : Keep True := ⟨trivial⟩
             clear hgrow3 hnil3 hblk3 hoa3 hoa3' hb3 tak tapk hO))
          | (at_builtin; go_loud (
             clear t2
             refine wpList_append_own_at _ rfl _ _ 40 rfl B 3 i0 (.int .i64 0) 1 8 ty40 hi hz0 hz1 hz2 rfl (by decide) _ _ _ rfl ((ownsRow_setCell_below hob3.out (a := ⟨g, 0, none⟩) (by exact hmk.out) _).alloc _) ⟨w3.heap.size, 0, none⟩ 1 1 [.int .i64 ((c : Int) + 1)] rfl rfl (cell_one_at (size_setCell _ _ _)) (fun x hx => by simp at hx; subst hx; rfl) (by unfold maxLen; omega) (by omega) (by have := hbz3.out; rw [World.size_alloc, size_setCell]; omega) ?_
             intro v4 w4 hob4 hgrow4 hnil4 hblk4
             have hb4 : Below B (w3.setCell ⟨g, 0, none⟩ (.slice (some ⟨g3, 0, none⟩) (k + 1) c3)) w4 := Below.grown ((Below.refl _ _).alloc (by rw [size_setCell]; exact hbz3.out) _) hgrow4 (by rw [World.size_alloc, size_setCell]; have := hbz3.out; omega) (fun j hj => by have := (hob3.out.lt _ hj).1; omega)
             obtain ⟨o0, o1, o2, o3⟩ := ((⟨o0, o1, o2, o3⟩ : Own2 w3 (g) (va) vr).set0 (u := .slice (some ⟨g3, 0, none⟩) (k + 1) c3)).below hb4 hmk.out
             have hO4 : Own2 w4 w.heap.size (.slice none 0 0) (.slice none 0 0) := (hO3.other (g' := g) (by have := hg1k.out; omega)).below hb4 (by have := hmk.out; have := hg1k.out; omega)
             have hoa4 := ((ownsRow_setCell_below hoa3k.out (a := ⟨g, 0, none⟩) (by exact hmk.out) (.slice (some ⟨g3, 0, none⟩) (k + 1) c3)).alloc (.cells #[.int .i64 ((c : Int) + 1)] 3)).kept hgrow4 (apart_ne (apart_symm hap3.out))
             have hap4 := apart_symm (apart_new (apart_symm hap3.out) hblk4 (fun j hj => by have := (hoa3k.out.lt _ hj).2; rw [World.size_alloc, size_setCell]; omega))
             have hob4' : w4.ownsRow B 3 1 v4 (k + 1) (rowL (curR c) (k + 1)) := by rw [rowL_succ]; exact hob4
             have hT4 := Keep.mk (Two.mk hoa4 hob4' hap4)
             obtain ⟨g4, c4, rfl, _⟩ := row_parts (by omega) hob4'
             have hbw4 := Keep.mk ((hbw3.out.setCell (p := ⟨g, 0, none⟩) (by have := hg1k.out; simp; omega) (.slice (some ⟨g3, 0, none⟩) (k + 1) c3)).trans (hb4.mono (by have := hmk.out; have := hg1k.out; omega)))
             have hbz4 := Keep.mk (Nat.le_trans hbz3.out (by have := hb4.size; rwa [size_setCell] at this))
             have t3 : Keep True := ⟨trivial⟩
             clear hob4 hgrow4 hnil4 hblk4 hoa4 hap4 hob4' hb4 hob3 hap3 hoa3k hO3 hbw3 hbz3)))
        have hO5 := (⟨o0, o1, o2, o3⟩ : Own2 w4 (g) (.slice (some ⟨g3, 0, none⟩) (k + 1) c3) vr).set1 (u := .slice (some ⟨g4, 0, none⟩) (k + 1) c4)
        exact ⟨⟨k + 1, by omega, by go_num, _, _, hT4.out.set hmk.out, hO5, hO4.other (by have := hg1k.out; omega), hbw4.out.setCell (p := ⟨g, 1, none⟩) (by have := hg1k.out; simp; omega) _, by rw [size_setCell]; exact hbz4.out⟩, by simp [intOf]; omega⟩
    · have : k = n := by omega
      subst this
      have hle : ¬ (k : Int) + 1 ≤ (k : Int) := by omega
      obtain ⟨za, ca, rfl, hza, _⟩ := row_parts hn ta
      obtain ⟨zr, cr, rfl, hzr, _⟩ := row_parts hn tr
      obtain ⟨p0, p1, p2, p3⟩ := hO
      have tak := Keep.mk (Two.mk ta tr tap)
      clear ta tr tap
      go_wp2
      refine bodyPost_ret (v := .tuple #[.agg #[.slice (some ⟨za, 0, none⟩) k ca, .slice (some ⟨zr, 0, none⟩) k cr], .int .i64 0]) (by simp [results, Try.results42, go_sem]; try go_simp) rfl ?_
      have hwB : w.heap.size < B := by have := hsk.out; omega
      exact ⟨B, _, _, rfl, hwB, (tak.out.set hwB).set hwB, (hbw.setCell (p := ⟨w.heap.size, 0, none⟩) (by simp) _).setCell (p := ⟨w.heap.size, 1, none⟩) (by simp) _⟩
end Go.Proofs.Ytbmfipjnfbnjgaa
set_option linter.unusedSimpArgs false
set_option linter.unusedVariables false
namespace Go.Proofs.Ytbmfipjnfbnjgaa
open Go Go.Proofs Go.RowKit Go.Sample
/-- A course made from any two lists. -/
def tmA (n : Nat) (za : List Int) (i : Nat) : Int := if i < za.length then (modN (za.getD i 0) (n + 2) : Int) - 1 else -1
def tmB (n : Nat) (zr : List Int) (i : Nat) : Int := if i + 1 = n then 1 else if i < zr.length then 1 + (modN (zr.getD i 0) (n + 2) : Int) else 1
def tmR (n : Nat) (za zr : List Int) (i : Nat) : Int := min ((n : Int) + 1) (tmA n za i + tmB n zr i)
def tmL (N : Nat) (za : List Int) : Nat := max 1 (min za.length N)
theorem tmA_in (n : Nat) (za : List Int) (i : Nat) : -1 ≤ tmA n za i ∧ tmA n za i ≤ n := by
  unfold tmA
  have := modN_lt (za.getD i 0) (m := n + 2) (by omega)
  split <;> omega
theorem tmB_in (n : Nat) (zr : List Int) (i : Nat) : 1 ≤ tmB n zr i ∧ tmB n zr i ≤ n + 2 := by
  unfold tmB
  have := modN_lt (zr.getD i 0) (m := n + 2) (by omega)
  split
  · omega
  · split <;> omega
theorem tame_ok {N ga oa ca gr ro cr n : Nat} (za zr : List Int) (h1 : 1 ≤ n) (h2 : n ≤ N) : CrsOk ⟨ga, oa, ca, gr, ro, cr, n, tmA n za, tmR n za zr⟩ N := by
  refine ⟨h1, h2, fun k hk => ?_, ?_⟩
  · have a := tmA_in n za k
    have b := tmB_in n zr k
    show -1 ≤ tmA n za k ∧ tmA n za k < tmR n za zr k ∧ tmR n za zr k ≤ (n : Int) + 1
    unfold tmR
    omega
  · have a := tmA_in n za (n - 1)
    show tmR n za zr (n - 1) = tmA n za (n - 1) + 1
    have b : tmB n zr (n - 1) = 1 := by unfold tmB; rw [if_pos (by omega)]
    unfold tmR
    rw [b]; omega
set_option maxHeartbeats 4000000 in
set_option maxRecDepth 100000 in
theorem tame_any {N : Nat} {va vr : Value} {za zr : List Int} {w : World} (h1 : 1 ≤ N) (h36 : N ≤ 36) (ha : IntsO w va za) (hr : IntsO w vr zr) (hla : za.length ≤ maxLen) (hlr : zr.length ≤ maxLen) :
    Calls Try.prog 50 #[.int .i64 N, va, vr] w fun e w' => ∃ x : Crs, e = .returned x.val ∧ CrsIn w' x ∧ x.L = tmL N za ∧ x.A = tmA (tmL N za) za ∧ x.R = tmR (tmL N za) za zr ∧ Below w.heap.size w w' ∧ w.heap.size ≤ x.ga ∧ w.heap.size ≤ x.gr ∧ x.L ≤ x.ca ∧ x.ca ≤ maxLen ∧ x.L ≤ x.cr ∧ x.cr ≤ maxLen ∧ x.ga ≠ x.gr := by
  obtain ⟨i0, hi, hz0, hz1, hz2⟩ := info_parts info3
  unfold maxLen at hla hlr
  obtain ⟨A, cap, rfl, hca⟩ := ha
  obtain ⟨A', cap', rfl, hcb⟩ := hr
  obtain ⟨n, hn⟩ : ∃ n, Keep (tmL N za = n) := ⟨_, ⟨rfl⟩⟩
  rw [hn.out]
  have hn1 : 1 ≤ n := by rw [← hn.out]; unfold tmL; omega
  have hnN : n ≤ N := by rw [← hn.out]; unfold tmL; omega
  obtain ⟨la, hlak⟩ : ∃ la, Keep (za.length = la) := ⟨_, ⟨rfl⟩⟩
  obtain ⟨lr, hlrk⟩ : ∃ lr, Keep (zr.length = lr) := ⟨_, ⟨rfl⟩⟩
  have hmin : ∃ mi : Nat, (if (N : Int) < (la : Int) then (N : Int) else (la : Int)) = (mi : Int) ∧ (if (la : Int) < (N : Int) then (la : Int) else (N : Int)) = (mi : Int) ∧ (if N < la then (N : Int) else (la : Int)) = (mi : Int) ∧ (if la < N then (la : Int) else (N : Int)) = (mi : Int) ∧ max 1 mi = n := by
    refine ⟨min la N, ?_, ?_, ?_, ?_, ?_⟩
    · split <;> omega
    · split <;> omega
    · split <;> omega
    · split <;> omega
    · rw [← hn.out, ← hlak.out]; unfold tmL; omega
  obtain ⟨mi, hmi1, hmi2, hmi3, hmi4, hmi5⟩ := hmin
  have hmx1 : (if (1 : Int) < (mi : Int) then (mi : Int) else 1) = (n : Int) := by split <;> omega
  have hmx2 : (if (mi : Int) < (1 : Int) then (1 : Int) else (mi : Int)) = (n : Int) := by split <;> omega
  have hmx3 : (if 1 < mi then (mi : Int) else 1) = (n : Int) := by split <;> omega
  rw [hlak.out] at hla hca ⊢
  rw [hlrk.out] at hlr hcb ⊢
  have wn2 : IntKind.i64.wrap ((n : Int) + 2) = (n : Int) + 2 := IntWalk.i64_in _ (by omega)
  have wn1 : IntKind.i64.wrap ((n : Int) + 1) = (n : Int) + 1 := IntWalk.i64_in _ (by omega)
  have wm1 : IntKind.i64.wrap ((n : Int) - 1) = (n : Int) - 1 := IntWalk.i64_in _ (by omega)
  obtain ⟨w0, hw0⟩ : ∃ w0, (w.alloc (.cells #[.slice none 0 0, .slice none 0 0] 42)).alloc (.cells #[.slice none 0 0, .slice none 0 0] 42) = w0 := ⟨_, rfl⟩
  have hs0 : w0.heap.size = w.heap.size + 2 := by rw [← hw0]; simp
  have hO1 : Own2 w0 w.heap.size (.slice none 0 0) (.slice none 0 0) := by rw [← hw0]; exact (Own2.new w _ _ _).after ((Below.refl _ _).alloc (Nat.le_refl _) _)
  have hO2 : Own2 w0 (w.heap.size + 1) (.slice none 0 0) (.slice none 0 0) := by
    rw [← hw0]; have := Own2.new (w.alloc (.cells #[.slice none 0 0, .slice none 0 0] 42)) (.slice none 0 0) (.slice none 0 0) 42; rwa [World.size_alloc] at this
  have hb0 : Below w.heap.size w w0 := by rw [← hw0]; exact ((Below.refl _ w).alloc (Nat.le_refl _) _).alloc (by simp) _
  have hcak : Keep (∀ W, Below w.heap.size w W → ∀ k, k < la → ∃ g o, A = some ⟨g, o, none⟩ ∧ W.cell? ⟨g, o + k, none⟩ = some (.int .i64 (za.getD k 0))) := ⟨fun W hW k hk => by
    obtain ⟨g, o, e, hc⟩ := hca k hk; exact ⟨g, o, e, cell_below hc hW⟩⟩
  have hcbk : Keep (∀ W, Below w.heap.size w W → ∀ k, k < lr → ∃ g o, A' = some ⟨g, o, none⟩ ∧ W.cell? ⟨g, o + k, none⟩ = some (.int .i64 (zr.getD k 0))) := ⟨fun W hW k hk => by
    obtain ⟨g, o, e, hc⟩ := hcb k hk; exact ⟨g, o, e, cell_below hc hW⟩⟩
  clear hca hcb hmi5
  go_enter Try.func50, Try.ntmps50
  go_wp2
  try rw [hw0]
  clear hw0
  obtain ⟨B, hB⟩ : ∃ B, w0.heap.size = B := ⟨_, rfl⟩
  rw [hB] at hs0
  have hsk := Keep.mk hs0
  have hBk := Keep.mk hB
  clear hs0 hB hmi1 hmi2 hmi3 hmi4 hmx1 hmx2 hmx3
  go_loopw [9] (fun i wr => ∃ k : Nat, k ≤ n ∧ i = .int .i64 (k : Int) ∧ ∃ va vr, Two wr B k (tmA n za) (tmR n za zr) va vr ∧ Own2 wr (w.heap.size + 1) va vr ∧ Own2 wr w.heap.size (.slice none 0 0) (.slice none 0 0) ∧ Below w.heap.size w wr ∧ B ≤ wr.heap.size) (fun i _ => n - (intOf i).toNat)
  case atStart => exact ⟨0, by omega, rfl, _, _, Two.nil _ _ _ _, hO2, hO1, hb0, by rw [hBk.out]; exact Nat.le_refl _⟩
  case round =>
    obtain ⟨k, hk, rfl, va, vr, ⟨ta, tr, tap⟩, ⟨o0, o1, o2, o3⟩, hO, hbw, hbz⟩ := hrel
    by_cases hlt : k < n
    · have w4 : IntKind.i64.wrap ((k : Int) + 1) = (k : Int) + 1 := IntWalk.i64_in _ (by omega)
      have xin := tmA_in n za k
      have yin := tmB_in n zr k
      obtain ⟨x, hx⟩ : ∃ x, Keep (tmA n za k = x) := ⟨_, ⟨rfl⟩⟩
      obtain ⟨y, hy⟩ : ∃ y, Keep (tmB n zr k = y) := ⟨_, ⟨rfl⟩⟩
      rw [hx.out] at xin
      rw [hy.out] at yin
      obtain ⟨r, hr⟩ : ∃ r, Keep (tmR n za zr k = r) := ⟨_, ⟨rfl⟩⟩
      have hrm : r = min ((n : Int) + 1) (x + y) := by rw [← hr.out, ← hx.out, ← hy.out]; rfl
      have hle : (k : Int) < (n : Int) := by omega
      have tak := Keep.mk ta
      have trk := Keep.mk tr
      have tapk := Keep.mk tap
      have hmk : Keep (w.heap.size + 1 < B) := ⟨by have := hsk.out; omega⟩
      have hbwk := Keep.mk hbw
      have hbzk := Keep.mk hbz
      clear ta tr tap hbw hbz
      have t1 : Keep True := ⟨trivial⟩
      have hgl : w.heap.size + 1 < wr.heap.size := by have := hbzk.out; have := hmk.out; omega
      have hOw := hO.lt
      by_cases ka : k < la <;> by_cases kr : k < lr <;> by_cases kl : k + 1 = n
      · skip
        have lA : (k : Int) < (la : Int) := by omega
        have hz := Keep.mk (modN_lt (za.getD k 0) (m := n + 2) (by omega))
        have qa := fun w => mod_any (za.getD k 0) (m := n + 2) (by omega) (by omega) w
        obtain ⟨ga, oa, rfl, ca⟩ := hcak.out wr hbwk.out k (by omega)
        obtain ⟨z, hzz⟩ : ∃ z, Keep (modN (za.getD k 0) (n + 2) = z) := ⟨_, ⟨rfl⟩⟩
        simp only [hzz.out, Int.natCast_add, Int.cast_ofNat_Int] at qa
        have hxz : Keep (x = (z : Int) - 1) := ⟨by rw [← hx.out, ← hzz.out]; unfold tmA; rw [if_pos (by rw [hlak.out]; omega)]⟩
        rw [hzz.out] at hz
        have wx : IntKind.i64.wrap ((z : Int) - 1) = x := by rw [IntWalk.i64_in _ (by have := hz.out; omega)]; exact hxz.out.symm
        have hxe : Keep (x = x) := ⟨rfl⟩
        generalize za.getD k 0 = zak at qa ca
        clear hz hzz hxz
        have lR : (k : Int) < (lr : Int) := by omega
        have hv := Keep.mk (modN_lt (zr.getD k 0) (m := n + 2) (by omega))
        have qb := fun w => mod_any (zr.getD k 0) (m := n + 2) (by omega) (by omega) w
        obtain ⟨gb, ob, rfl, cb⟩ := hcbk.out wr hbwk.out k (by omega)
        obtain ⟨v, hvv⟩ : ∃ v, Keep (modN (zr.getD k 0) (n + 2) = v) := ⟨_, ⟨rfl⟩⟩
        simp only [hvv.out, Int.natCast_add, Int.cast_ofNat_Int] at qb
        rw [hvv.out] at hv
        have wy : IntKind.i64.wrap (1 + (v : Int)) = 1 + (v : Int) := IntWalk.i64_in _ (by have := hv.out; omega)
        have hye : Keep (y = 1) := ⟨by rw [← hy.out]; unfold tmB; rw [if_pos (by omega)]⟩
        generalize zr.getD k 0 = zrk at qb cb
        clear hv hvv
        have eL : ((k : Int) == (n : Int) - 1) = true := by first | (rw [beq_iff_eq]; omega) | (rw [beq_eq_false_iff_ne]; omega)
        have wS : IntKind.i64.wrap (x + 1) = x + 1 := IntWalk.i64_in _ (by have := hxe.out; have := hye.out; omega)
        have n1 : (if (n : Int) + 1 < x + 1 then (n : Int) + 1 else x + 1) = r := by split <;> (rw [hrm]; have := hxe.out; have := hye.out; omega)
        have n2 : (if x + 1 < (n : Int) + 1 then x + 1 else (n : Int) + 1) = r := by split <;> (rw [hrm]; have := hxe.out; have := hye.out; omega)
        have n3 : (if x < (n : Int) then x + 1 else (n : Int) + 1) = r := by split <;> (rw [hrm]; have := hye.out; omega)
        have hre : Keep (r = r) := ⟨rfl⟩
        clear hrm kl
        go_wp2_with (first
          | (go_at_call 48; (with_reducible refine (qa _).mono ?_); rintro e w1 ⟨rfl, hw1⟩; rw [hw1]; clear hw1 w1)
          | (go_at_call 48; (with_reducible refine (qb _).mono ?_); rintro e w2 ⟨rfl, hw2⟩; rw [hw2]; clear hw2 w2)
          | (at_builtin; go_loud (
             clear t1
             refine wpList_append_own_at _ rfl _ _ 40 rfl B 3 i0 (.int .i64 0) 1 8 ty40 hi hz0 hz1 hz2 rfl (by decide) _ _ _ rfl (tak.out.alloc _) ⟨wr.heap.size, 0, none⟩ 1 1 [.int .i64 (x)] rfl rfl (cell_one_new _ _ _) (fun x hx => by simp at hx; subst hx; rfl) (by unfold maxLen; omega) (by omega) (by have := hbzk.out; simp; try omega) ?_
             intro v3 w3 hoa3 hgrow3 hnil3 hblk3
             have hb3 : Below B wr w3 := Below.grown ((Below.refl _ wr).alloc hbzk.out _) hgrow3 (by simp; have := hbzk.out; omega) (fun j hj => by have := (tak.out.lt _ hj).1; omega)
             obtain ⟨o0, o1, o2, o3⟩ := (⟨o0, o1, o2, o3⟩ : Own2 wr (w.heap.size + 1) va vr).below hb3 hmk.out
             have hO3 : Own2 w3 w.heap.size (.slice none 0 0) (.slice none 0 0) := hO.below hb3 (by have := hmk.out; omega)
             have hob3 := Keep.mk ((trk.out.alloc (.cells #[.int .i64 (x)] 3)).kept hgrow3 (apart_ne tapk.out))
             have hap3 := Keep.mk (apart_new tapk.out hblk3 (fun j hj => by have := (trk.out.lt _ hj).2; simp; omega))
             have hoa3' : w3.ownsRow B 3 1 v3 (k + 1) (rowL (tmA n za) (k + 1)) := by rw [rowL_succ, hx.out]; exact hoa3
             have hoa3k := Keep.mk hoa3'
             obtain ⟨g3, c3, rfl, _⟩ := row_parts (by omega) hoa3'
             have hbw3 := Keep.mk (hbwk.out.trans (hb3.mono (by have := hmk.out; omega)))
             have hbz3 := Keep.mk (Nat.le_trans hbzk.out hb3.size)
             have hgl3 : w.heap.size + 1 < w3.heap.size := Nat.lt_of_lt_of_le hgl hb3.size
             have t2 : Keep True := ⟨trivial⟩
             clear hgrow3 hnil3 hblk3 hoa3 hoa3' hb3 tak tapk hO))
          | (at_builtin; go_loud (
             clear t2
             refine wpList_append_own_at _ rfl _ _ 40 rfl B 3 i0 (.int .i64 0) 1 8 ty40 hi hz0 hz1 hz2 rfl (by decide) _ _ _ rfl ((ownsRow_setCell_below hob3.out (a := ⟨w.heap.size + 1, 0, none⟩) (by exact hmk.out) _).alloc _) ⟨w3.heap.size, 0, none⟩ 1 1 [.int .i64 (r)] rfl rfl (cell_one_at (size_setCell _ _ _)) (fun x hx => by simp at hx; subst hx; rfl) (by unfold maxLen; omega) (by omega) (by have := hbz3.out; rw [World.size_alloc, size_setCell]; omega) ?_
             intro v4 w4 hob4 hgrow4 hnil4 hblk4
             have hb4 : Below B (w3.setCell ⟨w.heap.size + 1, 0, none⟩ (.slice (some ⟨g3, 0, none⟩) (k + 1) c3)) w4 := Below.grown ((Below.refl _ _).alloc (by rw [size_setCell]; exact hbz3.out) _) hgrow4 (by rw [World.size_alloc, size_setCell]; have := hbz3.out; omega) (fun j hj => by have := (hob3.out.lt _ hj).1; omega)
             obtain ⟨o0, o1, o2, o3⟩ := ((⟨o0, o1, o2, o3⟩ : Own2 w3 (w.heap.size + 1) (va) vr).set0 (u := .slice (some ⟨g3, 0, none⟩) (k + 1) c3)).below hb4 hmk.out
             have hO4 : Own2 w4 w.heap.size (.slice none 0 0) (.slice none 0 0) := (hO3.other (g' := w.heap.size + 1) (by omega)).below hb4 (by have := hmk.out; omega)
             have hoa4 := ((ownsRow_setCell_below hoa3k.out (a := ⟨w.heap.size + 1, 0, none⟩) (by exact hmk.out) (.slice (some ⟨g3, 0, none⟩) (k + 1) c3)).alloc (.cells #[.int .i64 (r)] 3)).kept hgrow4 (apart_ne (apart_symm hap3.out))
             have hap4 := apart_symm (apart_new (apart_symm hap3.out) hblk4 (fun j hj => by have := (hoa3k.out.lt _ hj).2; rw [World.size_alloc, size_setCell]; omega))
             have hob4' : w4.ownsRow B 3 1 v4 (k + 1) (rowL (tmR n za zr) (k + 1)) := by rw [rowL_succ, hr.out]; exact hob4
             have hT4 := Keep.mk (Two.mk hoa4 hob4' hap4)
             obtain ⟨g4, c4, rfl, _⟩ := row_parts (by omega) hob4'
             have hbw4 := Keep.mk ((hbw3.out.setCell (p := ⟨w.heap.size + 1, 0, none⟩) (by simp) (.slice (some ⟨g3, 0, none⟩) (k + 1) c3)).trans (hb4.mono (by have := hmk.out; omega)))
             have hbz4 := Keep.mk (Nat.le_trans hbz3.out (by have := hb4.size; rwa [size_setCell] at this))
             have t3 : Keep True := ⟨trivial⟩
             clear hob4 hgrow4 hnil4 hblk4 hoa4 hap4 hob4' hb4 hob3 hap3 hoa3k hO3 hbw3 hbz3)))
        have hO5 := (⟨o0, o1, o2, o3⟩ : Own2 w4 (w.heap.size + 1) (.slice (some ⟨g3, 0, none⟩) (k + 1) c3) vr).set1 (u := .slice (some ⟨g4, 0, none⟩) (k + 1) c4)
        exact ⟨⟨k + 1, by omega, by go_num, _, _, hT4.out.set hmk.out, hO5, hO4.other (by omega), hbw4.out.setCell (p := ⟨w.heap.size + 1, 1, none⟩) (by simp) _, by rw [size_setCell]; exact hbz4.out⟩, by simp [intOf]; omega⟩
      · skip
        have lA : (k : Int) < (la : Int) := by omega
        have hz := Keep.mk (modN_lt (za.getD k 0) (m := n + 2) (by omega))
        have qa := fun w => mod_any (za.getD k 0) (m := n + 2) (by omega) (by omega) w
        obtain ⟨ga, oa, rfl, ca⟩ := hcak.out wr hbwk.out k (by omega)
        obtain ⟨z, hzz⟩ : ∃ z, Keep (modN (za.getD k 0) (n + 2) = z) := ⟨_, ⟨rfl⟩⟩
        simp only [hzz.out, Int.natCast_add, Int.cast_ofNat_Int] at qa
        have hxz : Keep (x = (z : Int) - 1) := ⟨by rw [← hx.out, ← hzz.out]; unfold tmA; rw [if_pos (by rw [hlak.out]; omega)]⟩
        rw [hzz.out] at hz
        have wx : IntKind.i64.wrap ((z : Int) - 1) = x := by rw [IntWalk.i64_in _ (by have := hz.out; omega)]; exact hxz.out.symm
        have hxe : Keep (x = x) := ⟨rfl⟩
        generalize za.getD k 0 = zak at qa ca
        clear hz hzz hxz
        have lR : (k : Int) < (lr : Int) := by omega
        have hv := Keep.mk (modN_lt (zr.getD k 0) (m := n + 2) (by omega))
        have qb := fun w => mod_any (zr.getD k 0) (m := n + 2) (by omega) (by omega) w
        obtain ⟨gb, ob, rfl, cb⟩ := hcbk.out wr hbwk.out k (by omega)
        obtain ⟨v, hvv⟩ : ∃ v, Keep (modN (zr.getD k 0) (n + 2) = v) := ⟨_, ⟨rfl⟩⟩
        simp only [hvv.out, Int.natCast_add, Int.cast_ofNat_Int] at qb
        rw [hvv.out] at hv
        have hyv : Keep (y = 1 + (v : Int)) := ⟨by rw [← hy.out, ← hvv.out]; unfold tmB; rw [if_neg (by omega), if_pos (by rw [hlrk.out]; omega)]⟩
        have wy : IntKind.i64.wrap (1 + (v : Int)) = y := by rw [IntWalk.i64_in _ (by have := hv.out; omega)]; exact hyv.out.symm
        have hye : Keep (y = y) := ⟨rfl⟩
        clear hyv
        generalize zr.getD k 0 = zrk at qb cb
        clear hv hvv
        have eL : ((k : Int) == (n : Int) - 1) = false := by first | (rw [beq_iff_eq]; omega) | (rw [beq_eq_false_iff_ne]; omega)
        have wS : IntKind.i64.wrap (x + y) = x + y := IntWalk.i64_in _ (by have := hxe.out; have := hye.out; omega)
        have n1 : (if (n : Int) + 1 < x + y then (n : Int) + 1 else x + y) = r := by split <;> (rw [hrm]; have := hxe.out; have := hye.out; omega)
        have n2 : (if x + y < (n : Int) + 1 then x + y else (n : Int) + 1) = r := by split <;> (rw [hrm]; have := hxe.out; have := hye.out; omega)
        have hre : Keep (r = r) := ⟨rfl⟩
        clear hrm kl
        go_wp2_with (first
          | (go_at_call 48; (with_reducible refine (qa _).mono ?_); rintro e w1 ⟨rfl, hw1⟩; rw [hw1]; clear hw1 w1)
          | (go_at_call 48; (with_reducible refine (qb _).mono ?_); rintro e w2 ⟨rfl, hw2⟩; rw [hw2]; clear hw2 w2)
          | (at_builtin; go_loud (
             clear t1
             refine wpList_append_own_at _ rfl _ _ 40 rfl B 3 i0 (.int .i64 0) 1 8 ty40 hi hz0 hz1 hz2 rfl (by decide) _ _ _ rfl (tak.out.alloc _) ⟨wr.heap.size, 0, none⟩ 1 1 [.int .i64 (x)] rfl rfl (cell_one_new _ _ _) (fun x hx => by simp at hx; subst hx; rfl) (by unfold maxLen; omega) (by omega) (by have := hbzk.out; simp; try omega) ?_
             intro v3 w3 hoa3 hgrow3 hnil3 hblk3
             have hb3 : Below B wr w3 := Below.grown ((Below.refl _ wr).alloc hbzk.out _) hgrow3 (by simp; have := hbzk.out; omega) (fun j hj => by have := (tak.out.lt _ hj).1; omega)
             obtain ⟨o0, o1, o2, o3⟩ := (⟨o0, o1, o2, o3⟩ : Own2 wr (w.heap.size + 1) va vr).below hb3 hmk.out
             have hO3 : Own2 w3 w.heap.size (.slice none 0 0) (.slice none 0 0) := hO.below hb3 (by have := hmk.out; omega)
             have hob3 := Keep.mk ((trk.out.alloc (.cells #[.int .i64 (x)] 3)).kept hgrow3 (apart_ne tapk.out))
             have hap3 := Keep.mk (apart_new tapk.out hblk3 (fun j hj => by have := (trk.out.lt _ hj).2; simp; omega))
             have hoa3' : w3.ownsRow B 3 1 v3 (k + 1) (rowL (tmA n za) (k + 1)) := by rw [rowL_succ, hx.out]; exact hoa3
             have hoa3k := Keep.mk hoa3'
             obtain ⟨g3, c3, rfl, _⟩ := row_parts (by omega) hoa3'
             have hbw3 := Keep.mk (hbwk.out.trans (hb3.mono (by have := hmk.out; omega)))
             have hbz3 := Keep.mk (Nat.le_trans hbzk.out hb3.size)
             have hgl3 : w.heap.size + 1 < w3.heap.size := Nat.lt_of_lt_of_le hgl hb3.size
             have t2 : Keep True := ⟨trivial⟩
             clear hgrow3 hnil3 hblk3 hoa3 hoa3' hb3 tak tapk hO))
          | (at_builtin; go_loud (
             clear t2
             refine wpList_append_own_at _ rfl _ _ 40 rfl B 3 i0 (.int .i64 0) 1 8 ty40 hi hz0 hz1 hz2 rfl (by decide) _ _ _ rfl ((ownsRow_setCell_below hob3.out (a := ⟨w.heap.size + 1, 0, none⟩) (by exact hmk.out) _).alloc _) ⟨w3.heap.size, 0, none⟩ 1 1 [.int .i64 (r)] rfl rfl (cell_one_at (size_setCell _ _ _)) (fun x hx => by simp at hx; subst hx; rfl) (by unfold maxLen; omega) (by omega) (by have := hbz3.out; rw [World.size_alloc, size_setCell]; omega) ?_
             intro v4 w4 hob4 hgrow4 hnil4 hblk4
             have hb4 : Below B (w3.setCell ⟨w.heap.size + 1, 0, none⟩ (.slice (some ⟨g3, 0, none⟩) (k + 1) c3)) w4 := Below.grown ((Below.refl _ _).alloc (by rw [size_setCell]; exact hbz3.out) _) hgrow4 (by rw [World.size_alloc, size_setCell]; have := hbz3.out; omega) (fun j hj => by have := (hob3.out.lt _ hj).1; omega)
             obtain ⟨o0, o1, o2, o3⟩ := ((⟨o0, o1, o2, o3⟩ : Own2 w3 (w.heap.size + 1) (va) vr).set0 (u := .slice (some ⟨g3, 0, none⟩) (k + 1) c3)).below hb4 hmk.out
             have hO4 : Own2 w4 w.heap.size (.slice none 0 0) (.slice none 0 0) := (hO3.other (g' := w.heap.size + 1) (by omega)).below hb4 (by have := hmk.out; omega)
             have hoa4 := ((ownsRow_setCell_below hoa3k.out (a := ⟨w.heap.size + 1, 0, none⟩) (by exact hmk.out) (.slice (some ⟨g3, 0, none⟩) (k + 1) c3)).alloc (.cells #[.int .i64 (r)] 3)).kept hgrow4 (apart_ne (apart_symm hap3.out))
             have hap4 := apart_symm (apart_new (apart_symm hap3.out) hblk4 (fun j hj => by have := (hoa3k.out.lt _ hj).2; rw [World.size_alloc, size_setCell]; omega))
             have hob4' : w4.ownsRow B 3 1 v4 (k + 1) (rowL (tmR n za zr) (k + 1)) := by rw [rowL_succ, hr.out]; exact hob4
             have hT4 := Keep.mk (Two.mk hoa4 hob4' hap4)
             obtain ⟨g4, c4, rfl, _⟩ := row_parts (by omega) hob4'
             have hbw4 := Keep.mk ((hbw3.out.setCell (p := ⟨w.heap.size + 1, 0, none⟩) (by simp) (.slice (some ⟨g3, 0, none⟩) (k + 1) c3)).trans (hb4.mono (by have := hmk.out; omega)))
             have hbz4 := Keep.mk (Nat.le_trans hbz3.out (by have := hb4.size; rwa [size_setCell] at this))
             have t3 : Keep True := ⟨trivial⟩
             clear hob4 hgrow4 hnil4 hblk4 hoa4 hap4 hob4' hb4 hob3 hap3 hoa3k hO3 hbw3 hbz3)))
        have hO5 := (⟨o0, o1, o2, o3⟩ : Own2 w4 (w.heap.size + 1) (.slice (some ⟨g3, 0, none⟩) (k + 1) c3) vr).set1 (u := .slice (some ⟨g4, 0, none⟩) (k + 1) c4)
        exact ⟨⟨k + 1, by omega, by go_num, _, _, hT4.out.set hmk.out, hO5, hO4.other (by omega), hbw4.out.setCell (p := ⟨w.heap.size + 1, 1, none⟩) (by simp) _, by rw [size_setCell]; exact hbz4.out⟩, by simp [intOf]; omega⟩
      · skip
        have lA : (k : Int) < (la : Int) := by omega
        have hz := Keep.mk (modN_lt (za.getD k 0) (m := n + 2) (by omega))
        have qa := fun w => mod_any (za.getD k 0) (m := n + 2) (by omega) (by omega) w
        obtain ⟨ga, oa, rfl, ca⟩ := hcak.out wr hbwk.out k (by omega)
        obtain ⟨z, hzz⟩ : ∃ z, Keep (modN (za.getD k 0) (n + 2) = z) := ⟨_, ⟨rfl⟩⟩
        simp only [hzz.out, Int.natCast_add, Int.cast_ofNat_Int] at qa
        have hxz : Keep (x = (z : Int) - 1) := ⟨by rw [← hx.out, ← hzz.out]; unfold tmA; rw [if_pos (by rw [hlak.out]; omega)]⟩
        rw [hzz.out] at hz
        have wx : IntKind.i64.wrap ((z : Int) - 1) = x := by rw [IntWalk.i64_in _ (by have := hz.out; omega)]; exact hxz.out.symm
        have hxe : Keep (x = x) := ⟨rfl⟩
        generalize za.getD k 0 = zak at qa ca
        clear hz hzz hxz
        have lR : ¬ (k : Int) < (lr : Int) := by omega
        have hye : Keep (y = 1) := ⟨by rw [← hy.out]; unfold tmB; rw [if_pos (by omega)]⟩
        have eL : ((k : Int) == (n : Int) - 1) = true := by first | (rw [beq_iff_eq]; omega) | (rw [beq_eq_false_iff_ne]; omega)
        have wS : IntKind.i64.wrap (x + 1) = x + 1 := IntWalk.i64_in _ (by have := hxe.out; have := hye.out; omega)
        have n1 : (if (n : Int) + 1 < x + 1 then (n : Int) + 1 else x + 1) = r := by split <;> (rw [hrm]; have := hxe.out; have := hye.out; omega)
        have n2 : (if x + 1 < (n : Int) + 1 then x + 1 else (n : Int) + 1) = r := by split <;> (rw [hrm]; have := hxe.out; have := hye.out; omega)
        have n3 : (if x < (n : Int) then x + 1 else (n : Int) + 1) = r := by split <;> (rw [hrm]; have := hye.out; omega)
        have hre : Keep (r = r) := ⟨rfl⟩
        clear hrm kl
        go_wp2_with (first
          | (go_at_call 48; (with_reducible refine (qa _).mono ?_); rintro e w1 ⟨rfl, hw1⟩; rw [hw1]; clear hw1 w1)
          | (at_builtin; go_loud (
             clear t1
             refine wpList_append_own_at _ rfl _ _ 40 rfl B 3 i0 (.int .i64 0) 1 8 ty40 hi hz0 hz1 hz2 rfl (by decide) _ _ _ rfl (tak.out.alloc _) ⟨wr.heap.size, 0, none⟩ 1 1 [.int .i64 (x)] rfl rfl (cell_one_new _ _ _) (fun x hx => by simp at hx; subst hx; rfl) (by unfold maxLen; omega) (by omega) (by have := hbzk.out; simp; try omega) ?_
             intro v3 w3 hoa3 hgrow3 hnil3 hblk3
             have hb3 : Below B wr w3 := Below.grown ((Below.refl _ wr).alloc hbzk.out _) hgrow3 (by simp; have := hbzk.out; omega) (fun j hj => by have := (tak.out.lt _ hj).1; omega)
             obtain ⟨o0, o1, o2, o3⟩ := (⟨o0, o1, o2, o3⟩ : Own2 wr (w.heap.size + 1) va vr).below hb3 hmk.out
             have hO3 : Own2 w3 w.heap.size (.slice none 0 0) (.slice none 0 0) := hO.below hb3 (by have := hmk.out; omega)
             have hob3 := Keep.mk ((trk.out.alloc (.cells #[.int .i64 (x)] 3)).kept hgrow3 (apart_ne tapk.out))
             have hap3 := Keep.mk (apart_new tapk.out hblk3 (fun j hj => by have := (trk.out.lt _ hj).2; simp; omega))
             have hoa3' : w3.ownsRow B 3 1 v3 (k + 1) (rowL (tmA n za) (k + 1)) := by rw [rowL_succ, hx.out]; exact hoa3
             have hoa3k := Keep.mk hoa3'
             obtain ⟨g3, c3, rfl, _⟩ := row_parts (by omega) hoa3'
             have hbw3 := Keep.mk (hbwk.out.trans (hb3.mono (by have := hmk.out; omega)))
             have hbz3 := Keep.mk (Nat.le_trans hbzk.out hb3.size)
             have hgl3 : w.heap.size + 1 < w3.heap.size := Nat.lt_of_lt_of_le hgl hb3.size
             have t2 : Keep True := ⟨trivial⟩
             clear hgrow3 hnil3 hblk3 hoa3 hoa3' hb3 tak tapk hO))
          | (at_builtin; go_loud (
             clear t2
             refine wpList_append_own_at _ rfl _ _ 40 rfl B 3 i0 (.int .i64 0) 1 8 ty40 hi hz0 hz1 hz2 rfl (by decide) _ _ _ rfl ((ownsRow_setCell_below hob3.out (a := ⟨w.heap.size + 1, 0, none⟩) (by exact hmk.out) _).alloc _) ⟨w3.heap.size, 0, none⟩ 1 1 [.int .i64 (r)] rfl rfl (cell_one_at (size_setCell _ _ _)) (fun x hx => by simp at hx; subst hx; rfl) (by unfold maxLen; omega) (by omega) (by have := hbz3.out; rw [World.size_alloc, size_setCell]; omega) ?_
             intro v4 w4 hob4 hgrow4 hnil4 hblk4
             have hb4 : Below B (w3.setCell ⟨w.heap.size + 1, 0, none⟩ (.slice (some ⟨g3, 0, none⟩) (k + 1) c3)) w4 := Below.grown ((Below.refl _ _).alloc (by rw [size_setCell]; exact hbz3.out) _) hgrow4 (by rw [World.size_alloc, size_setCell]; have := hbz3.out; omega) (fun j hj => by have := (hob3.out.lt _ hj).1; omega)
             obtain ⟨o0, o1, o2, o3⟩ := ((⟨o0, o1, o2, o3⟩ : Own2 w3 (w.heap.size + 1) (va) vr).set0 (u := .slice (some ⟨g3, 0, none⟩) (k + 1) c3)).below hb4 hmk.out
             have hO4 : Own2 w4 w.heap.size (.slice none 0 0) (.slice none 0 0) := (hO3.other (g' := w.heap.size + 1) (by omega)).below hb4 (by have := hmk.out; omega)
             have hoa4 := ((ownsRow_setCell_below hoa3k.out (a := ⟨w.heap.size + 1, 0, none⟩) (by exact hmk.out) (.slice (some ⟨g3, 0, none⟩) (k + 1) c3)).alloc (.cells #[.int .i64 (r)] 3)).kept hgrow4 (apart_ne (apart_symm hap3.out))
             have hap4 := apart_symm (apart_new (apart_symm hap3.out) hblk4 (fun j hj => by have := (hoa3k.out.lt _ hj).2; rw [World.size_alloc, size_setCell]; omega))
             have hob4' : w4.ownsRow B 3 1 v4 (k + 1) (rowL (tmR n za zr) (k + 1)) := by rw [rowL_succ, hr.out]; exact hob4
             have hT4 := Keep.mk (Two.mk hoa4 hob4' hap4)
             obtain ⟨g4, c4, rfl, _⟩ := row_parts (by omega) hob4'
             have hbw4 := Keep.mk ((hbw3.out.setCell (p := ⟨w.heap.size + 1, 0, none⟩) (by simp) (.slice (some ⟨g3, 0, none⟩) (k + 1) c3)).trans (hb4.mono (by have := hmk.out; omega)))
             have hbz4 := Keep.mk (Nat.le_trans hbz3.out (by have := hb4.size; rwa [size_setCell] at this))
             have t3 : Keep True := ⟨trivial⟩
             clear hob4 hgrow4 hnil4 hblk4 hoa4 hap4 hob4' hb4 hob3 hap3 hoa3k hO3 hbw3 hbz3)))
        have hO5 := (⟨o0, o1, o2, o3⟩ : Own2 w4 (w.heap.size + 1) (.slice (some ⟨g3, 0, none⟩) (k + 1) c3) vr).set1 (u := .slice (some ⟨g4, 0, none⟩) (k + 1) c4)
        exact ⟨⟨k + 1, by omega, by go_num, _, _, hT4.out.set hmk.out, hO5, hO4.other (by omega), hbw4.out.setCell (p := ⟨w.heap.size + 1, 1, none⟩) (by simp) _, by rw [size_setCell]; exact hbz4.out⟩, by simp [intOf]; omega⟩
      · skip
        have lA : (k : Int) < (la : Int) := by omega
        have hz := Keep.mk (modN_lt (za.getD k 0) (m := n + 2) (by omega))
        have qa := fun w => mod_any (za.getD k 0) (m := n + 2) (by omega) (by omega) w
        obtain ⟨ga, oa, rfl, ca⟩ := hcak.out wr hbwk.out k (by omega)
        obtain ⟨z, hzz⟩ : ∃ z, Keep (modN (za.getD k 0) (n + 2) = z) := ⟨_, ⟨rfl⟩⟩
        simp only [hzz.out, Int.natCast_add, Int.cast_ofNat_Int] at qa
        have hxz : Keep (x = (z : Int) - 1) := ⟨by rw [← hx.out, ← hzz.out]; unfold tmA; rw [if_pos (by rw [hlak.out]; omega)]⟩
        rw [hzz.out] at hz
        have wx : IntKind.i64.wrap ((z : Int) - 1) = x := by rw [IntWalk.i64_in _ (by have := hz.out; omega)]; exact hxz.out.symm
        have hxe : Keep (x = x) := ⟨rfl⟩
        generalize za.getD k 0 = zak at qa ca
        clear hz hzz hxz
        have lR : ¬ (k : Int) < (lr : Int) := by omega
        have hye : Keep (y = 1) := ⟨by rw [← hy.out]; unfold tmB; rw [if_neg (by omega), if_neg (by rw [hlrk.out]; omega)]⟩
        have eL : ((k : Int) == (n : Int) - 1) = false := by first | (rw [beq_iff_eq]; omega) | (rw [beq_eq_false_iff_ne]; omega)
        have wS : IntKind.i64.wrap (x + 1) = x + 1 := IntWalk.i64_in _ (by have := hxe.out; have := hye.out; omega)
        have n1 : (if (n : Int) + 1 < x + 1 then (n : Int) + 1 else x + 1) = r := by split <;> (rw [hrm]; have := hxe.out; have := hye.out; omega)
        have n2 : (if x + 1 < (n : Int) + 1 then x + 1 else (n : Int) + 1) = r := by split <;> (rw [hrm]; have := hxe.out; have := hye.out; omega)
        have n3 : (if x < (n : Int) then x + 1 else (n : Int) + 1) = r := by split <;> (rw [hrm]; have := hye.out; omega)
        have hre : Keep (r = r) := ⟨rfl⟩
        clear hrm kl
        go_wp2_with (first
          | (go_at_call 48; (with_reducible refine (qa _).mono ?_); rintro e w1 ⟨rfl, hw1⟩; rw [hw1]; clear hw1 w1)
          | (at_builtin; go_loud (
             clear t1
             refine wpList_append_own_at _ rfl _ _ 40 rfl B 3 i0 (.int .i64 0) 1 8 ty40 hi hz0 hz1 hz2 rfl (by decide) _ _ _ rfl (tak.out.alloc _) ⟨wr.heap.size, 0, none⟩ 1 1 [.int .i64 (x)] rfl rfl (cell_one_new _ _ _) (fun x hx => by simp at hx; subst hx; rfl) (by unfold maxLen; omega) (by omega) (by have := hbzk.out; simp; try omega) ?_
             intro v3 w3 hoa3 hgrow3 hnil3 hblk3
             have hb3 : Below B wr w3 := Below.grown ((Below.refl _ wr).alloc hbzk.out _) hgrow3 (by simp; have := hbzk.out; omega) (fun j hj => by have := (tak.out.lt _ hj).1; omega)
             obtain ⟨o0, o1, o2, o3⟩ := (⟨o0, o1, o2, o3⟩ : Own2 wr (w.heap.size + 1) va vr).below hb3 hmk.out
             have hO3 : Own2 w3 w.heap.size (.slice none 0 0) (.slice none 0 0) := hO.below hb3 (by have := hmk.out; omega)
             have hob3 := Keep.mk ((trk.out.alloc (.cells #[.int .i64 (x)] 3)).kept hgrow3 (apart_ne tapk.out))
             have hap3 := Keep.mk (apart_new tapk.out hblk3 (fun j hj => by have := (trk.out.lt _ hj).2; simp; omega))
             have hoa3' : w3.ownsRow B 3 1 v3 (k + 1) (rowL (tmA n za) (k + 1)) := by rw [rowL_succ, hx.out]; exact hoa3
             have hoa3k := Keep.mk hoa3'
             obtain ⟨g3, c3, rfl, _⟩ := row_parts (by omega) hoa3'
             have hbw3 := Keep.mk (hbwk.out.trans (hb3.mono (by have := hmk.out; omega)))
             have hbz3 := Keep.mk (Nat.le_trans hbzk.out hb3.size)
             have hgl3 : w.heap.size + 1 < w3.heap.size := Nat.lt_of_lt_of_le hgl hb3.size
             have t2 : Keep True := ⟨trivial⟩
             clear hgrow3 hnil3 hblk3 hoa3 hoa3' hb3 tak tapk hO))
          | (at_builtin; go_loud (
             clear t2
             refine wpList_append_own_at _ rfl _ _ 40 rfl B 3 i0 (.int .i64 0) 1 8 ty40 hi hz0 hz1 hz2 rfl (by decide) _ _ _ rfl ((ownsRow_setCell_below hob3.out (a := ⟨w.heap.size + 1, 0, none⟩) (by exact hmk.out) _).alloc _) ⟨w3.heap.size, 0, none⟩ 1 1 [.int .i64 (r)] rfl rfl (cell_one_at (size_setCell _ _ _)) (fun x hx => by simp at hx; subst hx; rfl) (by unfold maxLen; omega) (by omega) (by have := hbz3.out; rw [World.size_alloc, size_setCell]; omega) ?_
             intro v4 w4 hob4 hgrow4 hnil4 hblk4
             have hb4 : Below B (w3.setCell ⟨w.heap.size + 1, 0, none⟩ (.slice (some ⟨g3, 0, none⟩) (k + 1) c3)) w4 := Below.grown ((Below.refl _ _).alloc (by rw [size_setCell]; exact hbz3.out) _) hgrow4 (by rw [World.size_alloc, size_setCell]; have := hbz3.out; omega) (fun j hj => by have := (hob3.out.lt _ hj).1; omega)
             obtain ⟨o0, o1, o2, o3⟩ := ((⟨o0, o1, o2, o3⟩ : Own2 w3 (w.heap.size + 1) (va) vr).set0 (u := .slice (some ⟨g3, 0, none⟩) (k + 1) c3)).below hb4 hmk.out
             have hO4 : Own2 w4 w.heap.size (.slice none 0 0) (.slice none 0 0) := (hO3.other (g' := w.heap.size + 1) (by omega)).below hb4 (by have := hmk.out; omega)
             have hoa4 := ((ownsRow_setCell_below hoa3k.out (a := ⟨w.heap.size + 1, 0, none⟩) (by exact hmk.out) (.slice (some ⟨g3, 0, none⟩) (k + 1) c3)).alloc (.cells #[.int .i64 (r)] 3)).kept hgrow4 (apart_ne (apart_symm hap3.out))
             have hap4 := apart_symm (apart_new (apart_symm hap3.out) hblk4 (fun j hj => by have := (hoa3k.out.lt _ hj).2; rw [World.size_alloc, size_setCell]; omega))
             have hob4' : w4.ownsRow B 3 1 v4 (k + 1) (rowL (tmR n za zr) (k + 1)) := by rw [rowL_succ, hr.out]; exact hob4
             have hT4 := Keep.mk (Two.mk hoa4 hob4' hap4)
             obtain ⟨g4, c4, rfl, _⟩ := row_parts (by omega) hob4'
             have hbw4 := Keep.mk ((hbw3.out.setCell (p := ⟨w.heap.size + 1, 0, none⟩) (by simp) (.slice (some ⟨g3, 0, none⟩) (k + 1) c3)).trans (hb4.mono (by have := hmk.out; omega)))
             have hbz4 := Keep.mk (Nat.le_trans hbz3.out (by have := hb4.size; rwa [size_setCell] at this))
             have t3 : Keep True := ⟨trivial⟩
             clear hob4 hgrow4 hnil4 hblk4 hoa4 hap4 hob4' hb4 hob3 hap3 hoa3k hO3 hbw3 hbz3)))
        have hO5 := (⟨o0, o1, o2, o3⟩ : Own2 w4 (w.heap.size + 1) (.slice (some ⟨g3, 0, none⟩) (k + 1) c3) vr).set1 (u := .slice (some ⟨g4, 0, none⟩) (k + 1) c4)
        exact ⟨⟨k + 1, by omega, by go_num, _, _, hT4.out.set hmk.out, hO5, hO4.other (by omega), hbw4.out.setCell (p := ⟨w.heap.size + 1, 1, none⟩) (by simp) _, by rw [size_setCell]; exact hbz4.out⟩, by simp [intOf]; omega⟩
      · skip
        have lA : ¬ (k : Int) < (la : Int) := by omega
        have hxe : Keep (x = -1) := ⟨by rw [← hx.out]; unfold tmA; rw [if_neg (by rw [hlak.out]; omega)]⟩
        have lR : (k : Int) < (lr : Int) := by omega
        have hv := Keep.mk (modN_lt (zr.getD k 0) (m := n + 2) (by omega))
        have qb := fun w => mod_any (zr.getD k 0) (m := n + 2) (by omega) (by omega) w
        obtain ⟨gb, ob, rfl, cb⟩ := hcbk.out wr hbwk.out k (by omega)
        obtain ⟨v, hvv⟩ : ∃ v, Keep (modN (zr.getD k 0) (n + 2) = v) := ⟨_, ⟨rfl⟩⟩
        simp only [hvv.out, Int.natCast_add, Int.cast_ofNat_Int] at qb
        rw [hvv.out] at hv
        have wy : IntKind.i64.wrap (1 + (v : Int)) = 1 + (v : Int) := IntWalk.i64_in _ (by have := hv.out; omega)
        have hye : Keep (y = 1) := ⟨by rw [← hy.out]; unfold tmB; rw [if_pos (by omega)]⟩
        generalize zr.getD k 0 = zrk at qb cb
        clear hv hvv
        have eL : ((k : Int) == (n : Int) - 1) = true := by first | (rw [beq_iff_eq]; omega) | (rw [beq_eq_false_iff_ne]; omega)
        have n1 : (if (n : Int) + 1 < 0 then (n : Int) + 1 else 0) = r := by split <;> (rw [hrm]; have := hxe.out; have := hye.out; omega)
        have n2 : (if 0 < (n : Int) + 1 then 0 else (n : Int) + 1) = r := by split <;> (rw [hrm]; have := hxe.out; have := hye.out; omega)
        have hre : Keep (r = 0) := ⟨by rw [hrm, hxe.out, hye.out]; omega⟩
        clear hrm kl
        go_wp2_with (first
          | (go_at_call 48; (with_reducible refine (qb _).mono ?_); rintro e w2 ⟨rfl, hw2⟩; rw [hw2]; clear hw2 w2)
          | (at_builtin; go_loud (
             clear t1
             refine wpList_append_own_at _ rfl _ _ 40 rfl B 3 i0 (.int .i64 0) 1 8 ty40 hi hz0 hz1 hz2 rfl (by decide) _ _ _ rfl (tak.out.alloc _) ⟨wr.heap.size, 0, none⟩ 1 1 [.int .i64 (-1)] rfl rfl (cell_one_new _ _ _) (fun x hx => by simp at hx; subst hx; rfl) (by unfold maxLen; omega) (by omega) (by have := hbzk.out; simp; try omega) ?_
             intro v3 w3 hoa3 hgrow3 hnil3 hblk3
             have hb3 : Below B wr w3 := Below.grown ((Below.refl _ wr).alloc hbzk.out _) hgrow3 (by simp; have := hbzk.out; omega) (fun j hj => by have := (tak.out.lt _ hj).1; omega)
             obtain ⟨o0, o1, o2, o3⟩ := (⟨o0, o1, o2, o3⟩ : Own2 wr (w.heap.size + 1) va vr).below hb3 hmk.out
             have hO3 : Own2 w3 w.heap.size (.slice none 0 0) (.slice none 0 0) := hO.below hb3 (by have := hmk.out; omega)
             have hob3 := Keep.mk ((trk.out.alloc (.cells #[.int .i64 (-1)] 3)).kept hgrow3 (apart_ne tapk.out))
             have hap3 := Keep.mk (apart_new tapk.out hblk3 (fun j hj => by have := (trk.out.lt _ hj).2; simp; omega))
             have hoa3' : w3.ownsRow B 3 1 v3 (k + 1) (rowL (tmA n za) (k + 1)) := by rw [rowL_succ, hx.out, hxe.out]; exact hoa3
             have hoa3k := Keep.mk hoa3'
             obtain ⟨g3, c3, rfl, _⟩ := row_parts (by omega) hoa3'
             have hbw3 := Keep.mk (hbwk.out.trans (hb3.mono (by have := hmk.out; omega)))
             have hbz3 := Keep.mk (Nat.le_trans hbzk.out hb3.size)
             have hgl3 : w.heap.size + 1 < w3.heap.size := Nat.lt_of_lt_of_le hgl hb3.size
             have t2 : Keep True := ⟨trivial⟩
             clear hgrow3 hnil3 hblk3 hoa3 hoa3' hb3 tak tapk hO))
          | (at_builtin; go_loud (
             clear t2
             refine wpList_append_own_at _ rfl _ _ 40 rfl B 3 i0 (.int .i64 0) 1 8 ty40 hi hz0 hz1 hz2 rfl (by decide) _ _ _ rfl ((ownsRow_setCell_below hob3.out (a := ⟨w.heap.size + 1, 0, none⟩) (by exact hmk.out) _).alloc _) ⟨w3.heap.size, 0, none⟩ 1 1 [.int .i64 (0)] rfl rfl (cell_one_at (size_setCell _ _ _)) (fun x hx => by simp at hx; subst hx; rfl) (by unfold maxLen; omega) (by omega) (by have := hbz3.out; rw [World.size_alloc, size_setCell]; omega) ?_
             intro v4 w4 hob4 hgrow4 hnil4 hblk4
             have hb4 : Below B (w3.setCell ⟨w.heap.size + 1, 0, none⟩ (.slice (some ⟨g3, 0, none⟩) (k + 1) c3)) w4 := Below.grown ((Below.refl _ _).alloc (by rw [size_setCell]; exact hbz3.out) _) hgrow4 (by rw [World.size_alloc, size_setCell]; have := hbz3.out; omega) (fun j hj => by have := (hob3.out.lt _ hj).1; omega)
             obtain ⟨o0, o1, o2, o3⟩ := ((⟨o0, o1, o2, o3⟩ : Own2 w3 (w.heap.size + 1) (va) vr).set0 (u := .slice (some ⟨g3, 0, none⟩) (k + 1) c3)).below hb4 hmk.out
             have hO4 : Own2 w4 w.heap.size (.slice none 0 0) (.slice none 0 0) := (hO3.other (g' := w.heap.size + 1) (by omega)).below hb4 (by have := hmk.out; omega)
             have hoa4 := ((ownsRow_setCell_below hoa3k.out (a := ⟨w.heap.size + 1, 0, none⟩) (by exact hmk.out) (.slice (some ⟨g3, 0, none⟩) (k + 1) c3)).alloc (.cells #[.int .i64 (0)] 3)).kept hgrow4 (apart_ne (apart_symm hap3.out))
             have hap4 := apart_symm (apart_new (apart_symm hap3.out) hblk4 (fun j hj => by have := (hoa3k.out.lt _ hj).2; rw [World.size_alloc, size_setCell]; omega))
             have hob4' : w4.ownsRow B 3 1 v4 (k + 1) (rowL (tmR n za zr) (k + 1)) := by rw [rowL_succ, hr.out, hre.out]; exact hob4
             have hT4 := Keep.mk (Two.mk hoa4 hob4' hap4)
             obtain ⟨g4, c4, rfl, _⟩ := row_parts (by omega) hob4'
             have hbw4 := Keep.mk ((hbw3.out.setCell (p := ⟨w.heap.size + 1, 0, none⟩) (by simp) (.slice (some ⟨g3, 0, none⟩) (k + 1) c3)).trans (hb4.mono (by have := hmk.out; omega)))
             have hbz4 := Keep.mk (Nat.le_trans hbz3.out (by have := hb4.size; rwa [size_setCell] at this))
             have t3 : Keep True := ⟨trivial⟩
             clear hob4 hgrow4 hnil4 hblk4 hoa4 hap4 hob4' hb4 hob3 hap3 hoa3k hO3 hbw3 hbz3)))
        have hO5 := (⟨o0, o1, o2, o3⟩ : Own2 w4 (w.heap.size + 1) (.slice (some ⟨g3, 0, none⟩) (k + 1) c3) vr).set1 (u := .slice (some ⟨g4, 0, none⟩) (k + 1) c4)
        exact ⟨⟨k + 1, by omega, by go_num, _, _, hT4.out.set hmk.out, hO5, hO4.other (by omega), hbw4.out.setCell (p := ⟨w.heap.size + 1, 1, none⟩) (by simp) _, by rw [size_setCell]; exact hbz4.out⟩, by simp [intOf]; omega⟩
      · skip
        have lA : ¬ (k : Int) < (la : Int) := by omega
        have hxe : Keep (x = -1) := ⟨by rw [← hx.out]; unfold tmA; rw [if_neg (by rw [hlak.out]; omega)]⟩
        have lR : (k : Int) < (lr : Int) := by omega
        have hv := Keep.mk (modN_lt (zr.getD k 0) (m := n + 2) (by omega))
        have qb := fun w => mod_any (zr.getD k 0) (m := n + 2) (by omega) (by omega) w
        obtain ⟨gb, ob, rfl, cb⟩ := hcbk.out wr hbwk.out k (by omega)
        obtain ⟨v, hvv⟩ : ∃ v, Keep (modN (zr.getD k 0) (n + 2) = v) := ⟨_, ⟨rfl⟩⟩
        simp only [hvv.out, Int.natCast_add, Int.cast_ofNat_Int] at qb
        rw [hvv.out] at hv
        have hyv : Keep (y = 1 + (v : Int)) := ⟨by rw [← hy.out, ← hvv.out]; unfold tmB; rw [if_neg (by omega), if_pos (by rw [hlrk.out]; omega)]⟩
        have wy : IntKind.i64.wrap (1 + (v : Int)) = y := by rw [IntWalk.i64_in _ (by have := hv.out; omega)]; exact hyv.out.symm
        have hye : Keep (y = y) := ⟨rfl⟩
        clear hyv
        generalize zr.getD k 0 = zrk at qb cb
        clear hv hvv
        have eL : ((k : Int) == (n : Int) - 1) = false := by first | (rw [beq_iff_eq]; omega) | (rw [beq_eq_false_iff_ne]; omega)
        have wS : IntKind.i64.wrap ((-1) + y) = (-1) + y := IntWalk.i64_in _ (by have := hxe.out; have := hye.out; omega)
        have n1 : (if (n : Int) + 1 < (-1) + y then (n : Int) + 1 else (-1) + y) = r := by split <;> (rw [hrm]; have := hxe.out; have := hye.out; omega)
        have n2 : (if (-1) + y < (n : Int) + 1 then (-1) + y else (n : Int) + 1) = r := by split <;> (rw [hrm]; have := hxe.out; have := hye.out; omega)
        have hre : Keep (r = r) := ⟨rfl⟩
        clear hrm kl
        go_wp2_with (first
          | (go_at_call 48; (with_reducible refine (qb _).mono ?_); rintro e w2 ⟨rfl, hw2⟩; rw [hw2]; clear hw2 w2)
          | (at_builtin; go_loud (
             clear t1
             refine wpList_append_own_at _ rfl _ _ 40 rfl B 3 i0 (.int .i64 0) 1 8 ty40 hi hz0 hz1 hz2 rfl (by decide) _ _ _ rfl (tak.out.alloc _) ⟨wr.heap.size, 0, none⟩ 1 1 [.int .i64 (-1)] rfl rfl (cell_one_new _ _ _) (fun x hx => by simp at hx; subst hx; rfl) (by unfold maxLen; omega) (by omega) (by have := hbzk.out; simp; try omega) ?_
             intro v3 w3 hoa3 hgrow3 hnil3 hblk3
             have hb3 : Below B wr w3 := Below.grown ((Below.refl _ wr).alloc hbzk.out _) hgrow3 (by simp; have := hbzk.out; omega) (fun j hj => by have := (tak.out.lt _ hj).1; omega)
             obtain ⟨o0, o1, o2, o3⟩ := (⟨o0, o1, o2, o3⟩ : Own2 wr (w.heap.size + 1) va vr).below hb3 hmk.out
             have hO3 : Own2 w3 w.heap.size (.slice none 0 0) (.slice none 0 0) := hO.below hb3 (by have := hmk.out; omega)
             have hob3 := Keep.mk ((trk.out.alloc (.cells #[.int .i64 (-1)] 3)).kept hgrow3 (apart_ne tapk.out))
             have hap3 := Keep.mk (apart_new tapk.out hblk3 (fun j hj => by have := (trk.out.lt _ hj).2; simp; omega))
             have hoa3' : w3.ownsRow B 3 1 v3 (k + 1) (rowL (tmA n za) (k + 1)) := by rw [rowL_succ, hx.out, hxe.out]; exact hoa3
             have hoa3k := Keep.mk hoa3'
             obtain ⟨g3, c3, rfl, _⟩ := row_parts (by omega) hoa3'
             have hbw3 := Keep.mk (hbwk.out.trans (hb3.mono (by have := hmk.out; omega)))
             have hbz3 := Keep.mk (Nat.le_trans hbzk.out hb3.size)
             have hgl3 : w.heap.size + 1 < w3.heap.size := Nat.lt_of_lt_of_le hgl hb3.size
             have t2 : Keep True := ⟨trivial⟩
             clear hgrow3 hnil3 hblk3 hoa3 hoa3' hb3 tak tapk hO))
          | (at_builtin; go_loud (
             clear t2
             refine wpList_append_own_at _ rfl _ _ 40 rfl B 3 i0 (.int .i64 0) 1 8 ty40 hi hz0 hz1 hz2 rfl (by decide) _ _ _ rfl ((ownsRow_setCell_below hob3.out (a := ⟨w.heap.size + 1, 0, none⟩) (by exact hmk.out) _).alloc _) ⟨w3.heap.size, 0, none⟩ 1 1 [.int .i64 (r)] rfl rfl (cell_one_at (size_setCell _ _ _)) (fun x hx => by simp at hx; subst hx; rfl) (by unfold maxLen; omega) (by omega) (by have := hbz3.out; rw [World.size_alloc, size_setCell]; omega) ?_
             intro v4 w4 hob4 hgrow4 hnil4 hblk4
             have hb4 : Below B (w3.setCell ⟨w.heap.size + 1, 0, none⟩ (.slice (some ⟨g3, 0, none⟩) (k + 1) c3)) w4 := Below.grown ((Below.refl _ _).alloc (by rw [size_setCell]; exact hbz3.out) _) hgrow4 (by rw [World.size_alloc, size_setCell]; have := hbz3.out; omega) (fun j hj => by have := (hob3.out.lt _ hj).1; omega)
             obtain ⟨o0, o1, o2, o3⟩ := ((⟨o0, o1, o2, o3⟩ : Own2 w3 (w.heap.size + 1) (va) vr).set0 (u := .slice (some ⟨g3, 0, none⟩) (k + 1) c3)).below hb4 hmk.out
             have hO4 : Own2 w4 w.heap.size (.slice none 0 0) (.slice none 0 0) := (hO3.other (g' := w.heap.size + 1) (by omega)).below hb4 (by have := hmk.out; omega)
             have hoa4 := ((ownsRow_setCell_below hoa3k.out (a := ⟨w.heap.size + 1, 0, none⟩) (by exact hmk.out) (.slice (some ⟨g3, 0, none⟩) (k + 1) c3)).alloc (.cells #[.int .i64 (r)] 3)).kept hgrow4 (apart_ne (apart_symm hap3.out))
             have hap4 := apart_symm (apart_new (apart_symm hap3.out) hblk4 (fun j hj => by have := (hoa3k.out.lt _ hj).2; rw [World.size_alloc, size_setCell]; omega))
             have hob4' : w4.ownsRow B 3 1 v4 (k + 1) (rowL (tmR n za zr) (k + 1)) := by rw [rowL_succ, hr.out]; exact hob4
             have hT4 := Keep.mk (Two.mk hoa4 hob4' hap4)
             obtain ⟨g4, c4, rfl, _⟩ := row_parts (by omega) hob4'
             have hbw4 := Keep.mk ((hbw3.out.setCell (p := ⟨w.heap.size + 1, 0, none⟩) (by simp) (.slice (some ⟨g3, 0, none⟩) (k + 1) c3)).trans (hb4.mono (by have := hmk.out; omega)))
             have hbz4 := Keep.mk (Nat.le_trans hbz3.out (by have := hb4.size; rwa [size_setCell] at this))
             have t3 : Keep True := ⟨trivial⟩
             clear hob4 hgrow4 hnil4 hblk4 hoa4 hap4 hob4' hb4 hob3 hap3 hoa3k hO3 hbw3 hbz3)))
        have hO5 := (⟨o0, o1, o2, o3⟩ : Own2 w4 (w.heap.size + 1) (.slice (some ⟨g3, 0, none⟩) (k + 1) c3) vr).set1 (u := .slice (some ⟨g4, 0, none⟩) (k + 1) c4)
        exact ⟨⟨k + 1, by omega, by go_num, _, _, hT4.out.set hmk.out, hO5, hO4.other (by omega), hbw4.out.setCell (p := ⟨w.heap.size + 1, 1, none⟩) (by simp) _, by rw [size_setCell]; exact hbz4.out⟩, by simp [intOf]; omega⟩
      · skip
        have lA : ¬ (k : Int) < (la : Int) := by omega
        have hxe : Keep (x = -1) := ⟨by rw [← hx.out]; unfold tmA; rw [if_neg (by rw [hlak.out]; omega)]⟩
        have lR : ¬ (k : Int) < (lr : Int) := by omega
        have hye : Keep (y = 1) := ⟨by rw [← hy.out]; unfold tmB; rw [if_pos (by omega)]⟩
        have eL : ((k : Int) == (n : Int) - 1) = true := by first | (rw [beq_iff_eq]; omega) | (rw [beq_eq_false_iff_ne]; omega)
        have n1 : (if (n : Int) + 1 < 0 then (n : Int) + 1 else 0) = r := by split <;> (rw [hrm]; have := hxe.out; have := hye.out; omega)
        have n2 : (if 0 < (n : Int) + 1 then 0 else (n : Int) + 1) = r := by split <;> (rw [hrm]; have := hxe.out; have := hye.out; omega)
        have hre : Keep (r = 0) := ⟨by rw [hrm, hxe.out, hye.out]; omega⟩
        clear hrm kl
        go_wp2_with (first
          | (at_builtin; go_loud (
             clear t1
             refine wpList_append_own_at _ rfl _ _ 40 rfl B 3 i0 (.int .i64 0) 1 8 ty40 hi hz0 hz1 hz2 rfl (by decide) _ _ _ rfl (tak.out.alloc _) ⟨wr.heap.size, 0, none⟩ 1 1 [.int .i64 (-1)] rfl rfl (cell_one_new _ _ _) (fun x hx => by simp at hx; subst hx; rfl) (by unfold maxLen; omega) (by omega) (by have := hbzk.out; simp; try omega) ?_
             intro v3 w3 hoa3 hgrow3 hnil3 hblk3
             have hb3 : Below B wr w3 := Below.grown ((Below.refl _ wr).alloc hbzk.out _) hgrow3 (by simp; have := hbzk.out; omega) (fun j hj => by have := (tak.out.lt _ hj).1; omega)
             obtain ⟨o0, o1, o2, o3⟩ := (⟨o0, o1, o2, o3⟩ : Own2 wr (w.heap.size + 1) va vr).below hb3 hmk.out
             have hO3 : Own2 w3 w.heap.size (.slice none 0 0) (.slice none 0 0) := hO.below hb3 (by have := hmk.out; omega)
             have hob3 := Keep.mk ((trk.out.alloc (.cells #[.int .i64 (-1)] 3)).kept hgrow3 (apart_ne tapk.out))
             have hap3 := Keep.mk (apart_new tapk.out hblk3 (fun j hj => by have := (trk.out.lt _ hj).2; simp; omega))
             have hoa3' : w3.ownsRow B 3 1 v3 (k + 1) (rowL (tmA n za) (k + 1)) := by rw [rowL_succ, hx.out, hxe.out]; exact hoa3
             have hoa3k := Keep.mk hoa3'
             obtain ⟨g3, c3, rfl, _⟩ := row_parts (by omega) hoa3'
             have hbw3 := Keep.mk (hbwk.out.trans (hb3.mono (by have := hmk.out; omega)))
             have hbz3 := Keep.mk (Nat.le_trans hbzk.out hb3.size)
             have hgl3 : w.heap.size + 1 < w3.heap.size := Nat.lt_of_lt_of_le hgl hb3.size
             have t2 : Keep True := ⟨trivial⟩
             clear hgrow3 hnil3 hblk3 hoa3 hoa3' hb3 tak tapk hO))
          | (at_builtin; go_loud (
             clear t2
             refine wpList_append_own_at _ rfl _ _ 40 rfl B 3 i0 (.int .i64 0) 1 8 ty40 hi hz0 hz1 hz2 rfl (by decide) _ _ _ rfl ((ownsRow_setCell_below hob3.out (a := ⟨w.heap.size + 1, 0, none⟩) (by exact hmk.out) _).alloc _) ⟨w3.heap.size, 0, none⟩ 1 1 [.int .i64 (0)] rfl rfl (cell_one_at (size_setCell _ _ _)) (fun x hx => by simp at hx; subst hx; rfl) (by unfold maxLen; omega) (by omega) (by have := hbz3.out; rw [World.size_alloc, size_setCell]; omega) ?_
             intro v4 w4 hob4 hgrow4 hnil4 hblk4
             have hb4 : Below B (w3.setCell ⟨w.heap.size + 1, 0, none⟩ (.slice (some ⟨g3, 0, none⟩) (k + 1) c3)) w4 := Below.grown ((Below.refl _ _).alloc (by rw [size_setCell]; exact hbz3.out) _) hgrow4 (by rw [World.size_alloc, size_setCell]; have := hbz3.out; omega) (fun j hj => by have := (hob3.out.lt _ hj).1; omega)
             obtain ⟨o0, o1, o2, o3⟩ := ((⟨o0, o1, o2, o3⟩ : Own2 w3 (w.heap.size + 1) (va) vr).set0 (u := .slice (some ⟨g3, 0, none⟩) (k + 1) c3)).below hb4 hmk.out
             have hO4 : Own2 w4 w.heap.size (.slice none 0 0) (.slice none 0 0) := (hO3.other (g' := w.heap.size + 1) (by omega)).below hb4 (by have := hmk.out; omega)
             have hoa4 := ((ownsRow_setCell_below hoa3k.out (a := ⟨w.heap.size + 1, 0, none⟩) (by exact hmk.out) (.slice (some ⟨g3, 0, none⟩) (k + 1) c3)).alloc (.cells #[.int .i64 (0)] 3)).kept hgrow4 (apart_ne (apart_symm hap3.out))
             have hap4 := apart_symm (apart_new (apart_symm hap3.out) hblk4 (fun j hj => by have := (hoa3k.out.lt _ hj).2; rw [World.size_alloc, size_setCell]; omega))
             have hob4' : w4.ownsRow B 3 1 v4 (k + 1) (rowL (tmR n za zr) (k + 1)) := by rw [rowL_succ, hr.out, hre.out]; exact hob4
             have hT4 := Keep.mk (Two.mk hoa4 hob4' hap4)
             obtain ⟨g4, c4, rfl, _⟩ := row_parts (by omega) hob4'
             have hbw4 := Keep.mk ((hbw3.out.setCell (p := ⟨w.heap.size + 1, 0, none⟩) (by simp) (.slice (some ⟨g3, 0, none⟩) (k + 1) c3)).trans (hb4.mono (by have := hmk.out; omega)))
             have hbz4 := Keep.mk (Nat.le_trans hbz3.out (by have := hb4.size; rwa [size_setCell] at this))
             have t3 : Keep True := ⟨trivial⟩
             clear hob4 hgrow4 hnil4 hblk4 hoa4 hap4 hob4' hb4 hob3 hap3 hoa3k hO3 hbw3 hbz3)))
        have hO5 := (⟨o0, o1, o2, o3⟩ : Own2 w4 (w.heap.size + 1) (.slice (some ⟨g3, 0, none⟩) (k + 1) c3) vr).set1 (u := .slice (some ⟨g4, 0, none⟩) (k + 1) c4)
        exact ⟨⟨k + 1, by omega, by go_num, _, _, hT4.out.set hmk.out, hO5, hO4.other (by omega), hbw4.out.setCell (p := ⟨w.heap.size + 1, 1, none⟩) (by simp) _, by rw [size_setCell]; exact hbz4.out⟩, by simp [intOf]; omega⟩
      · skip
        have lA : ¬ (k : Int) < (la : Int) := by omega
        have hxe : Keep (x = -1) := ⟨by rw [← hx.out]; unfold tmA; rw [if_neg (by rw [hlak.out]; omega)]⟩
        have lR : ¬ (k : Int) < (lr : Int) := by omega
        have hye : Keep (y = 1) := ⟨by rw [← hy.out]; unfold tmB; rw [if_neg (by omega), if_neg (by rw [hlrk.out]; omega)]⟩
        have eL : ((k : Int) == (n : Int) - 1) = false := by first | (rw [beq_iff_eq]; omega) | (rw [beq_eq_false_iff_ne]; omega)
        have n1 : (if (n : Int) + 1 < 0 then (n : Int) + 1 else 0) = r := by split <;> (rw [hrm]; have := hxe.out; have := hye.out; omega)
        have n2 : (if 0 < (n : Int) + 1 then 0 else (n : Int) + 1) = r := by split <;> (rw [hrm]; have := hxe.out; have := hye.out; omega)
        have hre : Keep (r = 0) := ⟨by rw [hrm, hxe.out, hye.out]; omega⟩
        clear hrm kl
        go_wp2_with (first
          | (at_builtin; go_loud (
             clear t1
             refine wpList_append_own_at _ rfl _ _ 40 rfl B 3 i0 (.int .i64 0) 1 8 ty40 hi hz0 hz1 hz2 rfl (by decide) _ _ _ rfl (tak.out.alloc _) ⟨wr.heap.size, 0, none⟩ 1 1 [.int .i64 (-1)] rfl rfl (cell_one_new _ _ _) (fun x hx => by simp at hx; subst hx; rfl) (by unfold maxLen; omega) (by omega) (by have := hbzk.out; simp; try omega) ?_
             intro v3 w3 hoa3 hgrow3 hnil3 hblk3
             have hb3 : Below B wr w3 := Below.grown ((Below.refl _ wr).alloc hbzk.out _) hgrow3 (by simp; have := hbzk.out; omega) (fun j hj => by have := (tak.out.lt _ hj).1; omega)
             obtain ⟨o0, o1, o2, o3⟩ := (⟨o0, o1, o2, o3⟩ : Own2 wr (w.heap.size + 1) va vr).below hb3 hmk.out
             have hO3 : Own2 w3 w.heap.size (.slice none 0 0) (.slice none 0 0) := hO.below hb3 (by have := hmk.out; omega)
             have hob3 := Keep.mk ((trk.out.alloc (.cells #[.int .i64 (-1)] 3)).kept hgrow3 (apart_ne tapk.out))
             have hap3 := Keep.mk (apart_new tapk.out hblk3 (fun j hj => by have := (trk.out.lt _ hj).2; simp; omega))
             have hoa3' : w3.ownsRow B 3 1 v3 (k + 1) (rowL (tmA n za) (k + 1)) := by rw [rowL_succ, hx.out, hxe.out]; exact hoa3
             have hoa3k := Keep.mk hoa3'
             obtain ⟨g3, c3, rfl, _⟩ := row_parts (by omega) hoa3'
             have hbw3 := Keep.mk (hbwk.out.trans (hb3.mono (by have := hmk.out; omega)))
             have hbz3 := Keep.mk (Nat.le_trans hbzk.out hb3.size)
             have hgl3 : w.heap.size + 1 < w3.heap.size := Nat.lt_of_lt_of_le hgl hb3.size
             have t2 : Keep True := ⟨trivial⟩
             clear hgrow3 hnil3 hblk3 hoa3 hoa3' hb3 tak tapk hO))
          | (at_builtin; go_loud (
             clear t2
             refine wpList_append_own_at _ rfl _ _ 40 rfl B 3 i0 (.int .i64 0) 1 8 ty40 hi hz0 hz1 hz2 rfl (by decide) _ _ _ rfl ((ownsRow_setCell_below hob3.out (a := ⟨w.heap.size + 1, 0, none⟩) (by exact hmk.out) _).alloc _) ⟨w3.heap.size, 0, none⟩ 1 1 [.int .i64 (0)] rfl rfl (cell_one_at (size_setCell _ _ _)) (fun x hx => by simp at hx; subst hx; rfl) (by unfold maxLen; omega) (by omega) (by have := hbz3.out; rw [World.size_alloc, size_setCell]; omega) ?_
             intro v4 w4 hob4 hgrow4 hnil4 hblk4
             have hb4 : Below B (w3.setCell ⟨w.heap.size + 1, 0, none⟩ (.slice (some ⟨g3, 0, none⟩) (k + 1) c3)) w4 := Below.grown ((Below.refl _ _).alloc (by rw [size_setCell]; exact hbz3.out) _) hgrow4 (by rw [World.size_alloc, size_setCell]; have := hbz3.out; omega) (fun j hj => by have := (hob3.out.lt _ hj).1; omega)
             obtain ⟨o0, o1, o2, o3⟩ := ((⟨o0, o1, o2, o3⟩ : Own2 w3 (w.heap.size + 1) (va) vr).set0 (u := .slice (some ⟨g3, 0, none⟩) (k + 1) c3)).below hb4 hmk.out
             have hO4 : Own2 w4 w.heap.size (.slice none 0 0) (.slice none 0 0) := (hO3.other (g' := w.heap.size + 1) (by omega)).below hb4 (by have := hmk.out; omega)
             have hoa4 := ((ownsRow_setCell_below hoa3k.out (a := ⟨w.heap.size + 1, 0, none⟩) (by exact hmk.out) (.slice (some ⟨g3, 0, none⟩) (k + 1) c3)).alloc (.cells #[.int .i64 (0)] 3)).kept hgrow4 (apart_ne (apart_symm hap3.out))
             have hap4 := apart_symm (apart_new (apart_symm hap3.out) hblk4 (fun j hj => by have := (hoa3k.out.lt _ hj).2; rw [World.size_alloc, size_setCell]; omega))
             have hob4' : w4.ownsRow B 3 1 v4 (k + 1) (rowL (tmR n za zr) (k + 1)) := by rw [rowL_succ, hr.out, hre.out]; exact hob4
             have hT4 := Keep.mk (Two.mk hoa4 hob4' hap4)
             obtain ⟨g4, c4, rfl, _⟩ := row_parts (by omega) hob4'
             have hbw4 := Keep.mk ((hbw3.out.setCell (p := ⟨w.heap.size + 1, 0, none⟩) (by simp) (.slice (some ⟨g3, 0, none⟩) (k + 1) c3)).trans (hb4.mono (by have := hmk.out; omega)))
             have hbz4 := Keep.mk (Nat.le_trans hbz3.out (by have := hb4.size; rwa [size_setCell] at this))
             have t3 : Keep True := ⟨trivial⟩
             clear hob4 hgrow4 hnil4 hblk4 hoa4 hap4 hob4' hb4 hob3 hap3 hoa3k hO3 hbw3 hbz3)))
        have hO5 := (⟨o0, o1, o2, o3⟩ : Own2 w4 (w.heap.size + 1) (.slice (some ⟨g3, 0, none⟩) (k + 1) c3) vr).set1 (u := .slice (some ⟨g4, 0, none⟩) (k + 1) c4)
        exact ⟨⟨k + 1, by omega, by go_num, _, _, hT4.out.set hmk.out, hO5, hO4.other (by omega), hbw4.out.setCell (p := ⟨w.heap.size + 1, 1, none⟩) (by simp) _, by rw [size_setCell]; exact hbz4.out⟩, by simp [intOf]; omega⟩
    · have : k = n := by omega
      subst this
      have hle : ¬ (k : Int) < (k : Int) := by omega
      obtain ⟨z, rfl, rfl, hz, zL, zA, zR, zga, zgr, zr⟩ := Two.crs ⟨ta, tr, tap⟩ hn1
      unfold Crs.sa at o0
      unfold Crs.sr at o1
      obtain ⟨p0, p1, p2, p3⟩ := hO
      have hga : z.ga ≠ w.heap.size := by have := hsk.out; omega
      have hgr : z.gr ≠ w.heap.size := by have := hsk.out; omega
      have hgz : Keep (w.heap.size ≤ z.ga ∧ w.heap.size ≤ z.gr ∧ z.L ≤ z.ca ∧ z.ca ≤ maxLen ∧ z.L ≤ z.cr ∧ z.cr ≤ maxLen ∧ z.ga ≠ z.gr) := ⟨by have := hsk.out; omega, by have := hsk.out; omega, by rw [zL]; exact zr.2.2.2.1, zr.2.2.2.2.1, by rw [zL]; exact zr.2.2.2.2.2.1, zr.2.2.2.2.2.2, zr.1⟩
      clear zr
      go_wp2
      refine bodyPost_ret (v := z.val) (by unfold Crs.val Crs.sa Crs.sr; simp [results, Try.results50, go_sem]; try go_simp) rfl ?_
      refine ⟨z, rfl, ?_, zL, zA, zR, (hbw.setCell (p := ⟨w.heap.size, 0, none⟩) (by simp) _).setCell (p := ⟨w.heap.size, 1, none⟩) (by simp) _, hgz.out⟩
      have e1 := fun (b : Nat) (h : b ≠ w.heap.size) (u u' : Value) => (Below.heap_setCell (wr.setCell ⟨w.heap.size, 0, none⟩ u) ⟨w.heap.size, 1, none⟩ u' b h).trans (Below.heap_setCell wr ⟨w.heap.size, 0, none⟩ u b h)
      exact ⟨fun j hj => (World.cell?_of_block (a := ⟨z.ga, z.oa + j, none⟩) (e1 _ hga _ _)).trans (hz.las j hj), fun j hj => (World.cell?_of_block (a := ⟨z.gr, z.ro + j, none⟩) (e1 _ hgr _ _)).trans (hz.lrs j hj)⟩
end Go.Proofs.Ytbmfipjnfbnjgaa
set_option linter.unusedSimpArgs false
set_option linter.unusedVariables false
namespace Go.Proofs.Ytbmfipjnfbnjgaa
open Go Go.Proofs Go.RowKit Go.Sample Go.Seq
theorem row_ints {W : World} {B n : Nat} {v : Value} {zs : List Int} (h : W.ownsRow B 3 1 v n (zs.map vz)) : IntsO W v zs ∧ n = zs.length := by
  obtain ⟨h1, h2⟩ := h
  have hn : n = zs.length := by simpa using h1.symm
  refine ⟨?_, hn⟩
  rcases h2 with ⟨rfl, h0⟩ | ⟨g, cap, cur, rfl, hg, hh, hn', hcap, hsz, htake⟩
  · obtain rfl : zs = [] := List.length_eq_zero_iff.1 (by omega)
    exact ⟨none, 0, rfl, fun k hk => by simp at hk⟩
  · refine ⟨some ⟨g, 0, none⟩, cap, by rw [hn], fun k hk => ⟨g, 0, rfl, ?_⟩⟩
    have : cur[k]? = some (.int .i64 (zs.getD k 0)) := by
      have e : (cur.toList.take (n * 1))[k]? = (zs.map vz)[k]? := by rw [htake]
      rw [List.getElem?_take_of_lt (by omega)] at e
      rw [← Array.getElem?_toList, e, List.getElem?_map, List.getElem?_eq_getElem hk, List.getD_eq_getElem?_getD, List.getElem?_eq_getElem hk]; rfl
    simp [World.cell?, hh, this]
theorem row_slice {W : World} {B e s n : Nat} {v : Value} {xs : List Value} (h : W.ownsRow B e s v n xs) : ∃ a l c, v = .slice a l c := by
  rcases h.2 with ⟨rfl, _⟩ | ⟨g, cap, cur, rfl, _⟩
  · exact ⟨_, _, _, rfl⟩
  · exact ⟨_, _, _, rfl⟩
theorem row_keep {W W' : World} {B e s n : Nat} {v : Value} {xs : List Value} (h : W.ownsRow B e s v n xs) (hb : Below W.heap.size W W') : W'.ownsRow B e s v n xs := by
  obtain ⟨h1, h2⟩ := h
  refine ⟨h1, ?_⟩
  rcases h2 with h2 | ⟨g, cap, cur, rfl, hg, hh, hr⟩
  · exact .inl h2
  · exact .inr ⟨g, cap, cur, rfl, hg, (hb.block g (Array.getElem?_eq_some_iff.1 hh).1).trans hh, hr⟩
theorem row_low {W : World} {B B' e s n : Nat} {v : Value} {xs : List Value} (h : W.ownsRow B' e s v n xs) (hB : B ≤ B') : W.ownsRow B e s v n xs := by
  obtain ⟨h1, h2⟩ := h
  refine ⟨h1, ?_⟩
  rcases h2 with h2 | ⟨g, cap, cur, rfl, hg, hr⟩
  · exact .inl h2
  · exact .inr ⟨g, cap, cur, rfl, by omega, hr⟩
theorem row_other {W : World} {B e s n g j : Nat} {v u : Value} {xs : List Value} (h : W.ownsRow B e s v n xs) (hg : g < B) : (W.setCell ⟨g, j, none⟩ u).ownsRow B e s v n xs := by
  obtain ⟨h1, h2⟩ := h
  refine ⟨h1, ?_⟩
  rcases h2 with h2 | ⟨g', cap, cur, rfl, hg', hh, hr⟩
  · exact .inl h2
  · exact .inr ⟨g', cap, cur, rfl, hg', (Below.heap_setCell W ⟨g, j, none⟩ u g' (by show g' ≠ g; omega)).trans hh, hr⟩
theorem argInts_keep {w w' : World} {v : Value} {zs : List Int} (h : ArgInts w v zs) (hb : Below w.heap.size w w') : ArgInts w' v zs := by
  rcases h with h | h | ⟨b, o, cap, h1, h2, h3, h4, h5⟩
  · exact .inl h
  · exact .inr (.inl h)
  · exact .inr (.inr ⟨b, o, cap, h1, h2, h3, Nat.lt_of_lt_of_le h4 hb.size, fun i hi => cell_below (h5 i hi) hb⟩)
def ArgL (B : Nat) (w : World) (v : Value) (zs : List Int) : Prop :=
  (v = .slice none 0 0 ∧ zs = []) ∨ (∃ (a : Addr) (cap : Nat), v = .slice (some a) 0 cap ∧ zs = []) ∨ ∃ (b o cap : Nat), v = .slice (some ⟨b, o, none⟩) zs.length cap ∧ zs.length ≤ cap ∧ cap ≤ maxLen ∧ b < B ∧ ∀ i, i < zs.length → w.cell? ⟨b, o + i, none⟩ = some (vz (zs.getD i 0))
theorem ArgL.ints {B : Nat} {w : World} {v : Value} {zs : List Int} (h : ArgL B w v zs) (hB : B ≤ w.heap.size) : ArgInts w v zs := by
  rcases h with h | h | ⟨b, o, cap, h1, h2, h3, h4, h5⟩
  · exact .inl h
  · exact .inr (.inl h)
  · exact .inr (.inr ⟨b, o, cap, h1, h2, h3, by omega, h5⟩)
theorem ArgL.keep {B : Nat} {w w' : World} {v : Value} {zs : List Int} (h : ArgL B w v zs) (hb : Below w.heap.size w w') : ArgL B w' v zs := by
  rcases h with h | h | ⟨b, o, cap, h1, h2, h3, h4, h5⟩
  · exact .inl h
  · exact .inr (.inl h)
  · exact .inr (.inr ⟨b, o, cap, h1, h2, h3, h4, fun i hi => cell_below (h5 i hi) hb⟩)
theorem ArgL.set {B : Nat} {w : World} {v u : Value} {zs : List Int} {g j : Nat} (h : ArgL B w v zs) (hg : B ≤ g) : ArgL B (w.setCell ⟨g, j, none⟩ u) v zs := by
  rcases h with h | h | ⟨b, o, cap, h1, h2, h3, h4, h5⟩
  · exact .inl h
  · exact .inr (.inl h)
  · exact .inr (.inr ⟨b, o, cap, h1, h2, h3, h4, fun i hi => (World.cell?_of_block (a := ⟨b, o + i, none⟩) (Below.heap_setCell w ⟨g, j, none⟩ u b (by show b ≠ g; omega))).trans (h5 i hi)⟩)
/-- A copy of a course while it is made. -/
structure CopI (w : World) (va vr x y : Value) (za zr A C : List Int) (s2 s5 s7 : Bool) (W : World) : Prop where
  o : Own2 W w.heap.size va vr
  r : Own2 W (w.heap.size + 1) (if s7 = true then x else .slice none 0 0) (if s7 = true then y else .slice none 0 0)
  a : ArgL w.heap.size W va za
  b : ArgL w.heap.size W vr zr
  xa : s2 = true → W.ownsRow (w.heap.size + 2) 3 1 x A.length (A.map vz)
  ya : s5 = true → W.ownsRow (w.heap.size + 2) 3 1 y C.length (C.map vz)
  ap : s5 = true → ∀ j, x.ownBlock = some j → y.ownBlock ≠ some j
  bw : Below w.heap.size w W
  sz : w.heap.size + 2 ≤ W.heap.size
theorem CopI.after {w : World} {va vr x y : Value} {za zr A C : List Int} {s2 s5 s7 : Bool} {W W' : World} (h : CopI w va vr x y za zr A C s2 s5 s7 W) (hb : Below W.heap.size W W') : CopI w va vr x y za zr A C s2 s5 s7 W' :=
  ⟨h.o.after hb, h.r.after hb, h.a.keep hb, h.b.keep hb, fun e => row_keep (h.xa e) hb, fun e => row_keep (h.ya e) hb, h.ap, h.bw.trans (hb.mono h.bw.size), Nat.le_trans h.sz hb.size⟩
theorem argInts_slice {w : World} {v : Value} {zs : List Int} (h : ArgInts w v zs) : ∃ a l c, v = .slice a l c := by
  rcases h with ⟨h, _⟩ | ⟨a, cap, h, _⟩ | ⟨b, o, cap, h, _⟩ <;> exact ⟨_, _, _, h⟩
set_option maxHeartbeats 2000000 in
set_option maxRecDepth 100000 in
theorem courseCopy_any {va vr : Value} {za zr A C : List Int} {w : World} (eA : Keep (za.take 37 = A)) (eC : Keep (zr.take 37 = C)) (ha : ArgInts w va za) (hr : ArgInts w vr zr) :
    Calls Try.prog 31 #[.agg #[va, vr]] w fun e w' => ∃ x y, e = .returned (.agg #[x, y]) ∧ w'.ownsRow w.heap.size 3 1 x A.length (A.map vz) ∧ w'.ownsRow w.heap.size 3 1 y C.length (C.map vz) ∧ (∀ j, x.ownBlock = some j → y.ownBlock ≠ some j) ∧ Below w.heap.size w w' := by
  have hmx : Try.prog.follows .mixedOrders = true := by kernel_rfl
  obtain ⟨aa, al, ac, hva⟩ := argInts_slice ha
  obtain ⟨ba, bl, bc, hvr⟩ := argInts_slice hr
  obtain ⟨wa, hwa⟩ : ∃ wa, w.alloc (.cells #[va, vr] 42) = wa := ⟨_, rfl⟩
  obtain ⟨wb, hwb⟩ : ∃ wb, wa.alloc (.cells #[.slice none 0 0, .slice none 0 0] 42) = wb := ⟨_, rfl⟩
  have sa : wa.heap.size = w.heap.size + 1 := by rw [← hwa]; simp
  have sb : wb.heap.size = w.heap.size + 1 + 1 := by rw [← hwb]; simp [sa]
  have b1 : Below w.heap.size w wa := by rw [← hwa]; exact (Below.refl _ _).alloc (Nat.le_refl _) _
  have b2 : Below wa.heap.size wa wb := by rw [← hwb]; exact (Below.refl _ _).alloc (Nat.le_refl _) _
  have hC0 : CopI w va vr undef undef za zr A C false false false wb := by
    refine ⟨?_, ?_, (show ArgL _ _ _ _ from ha).keep b1 |>.keep b2, (show ArgL _ _ _ _ from hr).keep b1 |>.keep b2, fun e => (by cases e), fun e => (by cases e), fun e => (by cases e), b1.trans (b2.mono (by omega)), by omega⟩
    · have : Own2 wa w.heap.size va vr := by rw [← hwa]; exact Own2.new _ _ _ _
      exact this.after b2
    · rw [← sa, ← hwb]; exact Own2.new _ _ _ _
  have hwab : (w.alloc (.cells #[va, vr] 42)).alloc (.cells #[.slice none 0 0, .slice none 0 0] 42) = wb := by rw [hwa, hwb]
  clear hwa hwb sa sb b1 b2 ha hr
  subst hva hvr
  go_enter Try.func31, Try.ntmps31
  go_wp2
  try rw [hwab]
  clear hwab
  refine (wpIn_wide (n := 0)).1 ?_
  refine Inv.region_inv (fun s a W => ∃ x y, a = { tmps := #[.agg #[.slice aa al ac, .slice ba bl bc], .pointer (some ⟨w.heap.size, 0, none⟩), .pointer (some ⟨w.heap.size + 1, 0, none⟩), if s 0 = true then .pointer (some ⟨w.heap.size, 0, none⟩) else undef, if s 1 = true then .slice aa al ac else undef, if s 2 = true then x else undef, if s 3 = true then .pointer (some ⟨w.heap.size, 1, none⟩) else undef, if s 4 = true then .slice ba bl bc else undef, if s 5 = true then y else undef, if s 6 = true then .agg #[x, y] else undef], defers := [] } ∧ CopI w (.slice aa al ac) (.slice ba bl bc) x y za zr A C (s 2) (s 5) (s 7) W) hmx (by kernel_rfl) ?_ ?_ ?_
  · intro s hs
    refine ⟨undef, undef, ?_, ?_⟩
    · simp only [hs 0 (by decide), hs 1 (by decide), hs 2 (by decide), hs 3 (by decide), hs 4 (by decide), hs 5 (by decide), hs 6 (by decide), hs 7 (by decide), Bool.false_eq_true, if_false]
    · rw [hs 2 (by decide), hs 5 (by decide), hs 7 (by decide)]; exact hC0.after ((Below.refl _ _).drew)
  · refine ⟨?_, ?_, ?_, ?_, ?_, ?_, ?_, ?_, trivial⟩
    · rintro s a W hun hdep hbeh ⟨x, y, rfl, hT⟩
      (try simp only [Nat.reduceAdd] at hun)
      refine .inl ⟨by rfl, Inv.comesV_val (.pointer (some ⟨w.heap.size, 0, none⟩)) W (by (go_simp; try rfl)) ⟨x, y, by (simp only [Act.put, List.setIfInBounds_toArray, List.set_cons_succ, List.set_cons_zero, Manyd.upd, Nat.reduceAdd, Nat.reduceBEq, Bool.or_false, Bool.or_true, if_true]), by simpa [Manyd.upd] using hT⟩⟩
    · rintro s a W hun hdep hbeh ⟨x, y, rfl, hT⟩
      (try simp only [Nat.reduceAdd] at hun)
      have h0 : s 0 = true := Inv.depB_mem 0 hdep (by rfl)
      obtain ⟨c0, c1, _, _⟩ := hT.o
      refine .inl ⟨by rfl, Inv.comesV_val (.slice aa al ac) W (by (simp only [h0, if_true]; go_simp; try rfl)) ⟨x, y, by (simp only [Act.put, List.setIfInBounds_toArray, List.set_cons_succ, List.set_cons_zero, Manyd.upd, Nat.reduceAdd, Nat.reduceBEq, Bool.or_false, Bool.or_true, if_true]), by simpa [Manyd.upd] using hT⟩⟩
    · rintro s a W hun hdep hbeh ⟨x, y, rfl, hT⟩
      (try simp only [Nat.reduceAdd] at hun)
      have h1 : s 1 = true := Inv.depB_mem 1 hdep (by rfl)
      have n7 : s 7 = false := hbeh 7 (by kernel_rfl)
      have n6 : s 6 = false := hbeh 6 (by kernel_rfl)
      have n5 : s 5 = false := hbeh 5 (by kernel_rfl)
      have hq := list_any (hT.a.ints (by have := hT.sz; omega))
      refine .inl ⟨by rfl, Inv.comesV_call 61 #[.slice aa al ac] W (by (simp only [h1, if_true]; go_simp; try rfl)) (hq.mono fun e W2 hW2 => ?_)⟩
      obtain ⟨v, he, hv, hb⟩ := hW2
      rw [eA.out] at hv
      refine ⟨v, he, v, y, ?_, ?_⟩
      · simp only [Act.put, List.setIfInBounds_toArray, List.set_cons_succ, List.set_cons_zero, Manyd.upd, Nat.reduceAdd, Nat.reduceBEq, Bool.or_false, Bool.or_true, if_true]
        simp only [n6, Bool.false_eq_true, if_false]
      · have hA := hT.after hb
        refine ⟨hA.o, by simpa [Manyd.upd, n7] using hA.r, hA.a, hA.b, fun _ => row_low hv hT.sz, fun e => by simp [Manyd.upd, n5] at e, fun e => by simp [Manyd.upd, n5] at e, hA.bw, hA.sz⟩
    · rintro s a W hun hdep hbeh ⟨x, y, rfl, hT⟩
      (try simp only [Nat.reduceAdd] at hun)
      refine .inl ⟨by rfl, Inv.comesV_val (.pointer (some ⟨w.heap.size, 1, none⟩)) W (by (go_simp; try rfl)) ⟨x, y, by (simp only [Act.put, List.setIfInBounds_toArray, List.set_cons_succ, List.set_cons_zero, Manyd.upd, Nat.reduceAdd, Nat.reduceBEq, Bool.or_false, Bool.or_true, if_true]), by simpa [Manyd.upd] using hT⟩⟩
    · rintro s a W hun hdep hbeh ⟨x, y, rfl, hT⟩
      (try simp only [Nat.reduceAdd] at hun)
      have h3 : s 3 = true := Inv.depB_mem 3 hdep (by rfl)
      obtain ⟨c0, c1, _, _⟩ := hT.o
      refine .inl ⟨by rfl, Inv.comesV_val (.slice ba bl bc) W (by (simp only [h3, if_true]; go_simp; try rfl)) ⟨x, y, by (simp only [Act.put, List.setIfInBounds_toArray, List.set_cons_succ, List.set_cons_zero, Manyd.upd, Nat.reduceAdd, Nat.reduceBEq, Bool.or_false, Bool.or_true, if_true]), by simpa [Manyd.upd] using hT⟩⟩
    · rintro s a W hun hdep hbeh ⟨x, y, rfl, hT⟩
      (try simp only [Nat.reduceAdd] at hun)
      have h4 : s 4 = true := Inv.depB_mem 4 hdep (by rfl)
      have n7 : s 7 = false := hbeh 7 (by kernel_rfl)
      have n6 : s 6 = false := hbeh 6 (by kernel_rfl)
      have h2 : s 2 = true := Inv.depB_mem 2 hdep (by rfl)
      have hq := list_any (hT.b.ints (by have := hT.sz; omega))
      refine .inl ⟨by rfl, Inv.comesV_call 61 #[.slice ba bl bc] W (by (simp only [h4, if_true]; go_simp; try rfl)) (hq.mono fun e W2 hW2 => ?_)⟩
      obtain ⟨v, he, hv, hb⟩ := hW2
      rw [eC.out] at hv
      refine ⟨v, he, x, v, ?_, ?_⟩
      · simp only [Act.put, List.setIfInBounds_toArray, List.set_cons_succ, List.set_cons_zero, Manyd.upd, Nat.reduceAdd, Nat.reduceBEq, Bool.or_false, Bool.or_true, if_true]
        simp only [n6, Bool.false_eq_true, if_false]
      · have hA := hT.after hb
        refine ⟨hA.o, by simpa [Manyd.upd, n7] using hA.r, hA.a, hA.b, fun _ => hA.xa h2, fun _ => row_low hv hT.sz, fun _ j hj e => ?_, hA.bw, hA.sz⟩
        have l1 := ((hT.xa h2).lt j hj).2
        have l2 := (hv.lt j e).1
        omega
    · rintro s a W hun hdep hbeh ⟨x, y, rfl, hT⟩
      (try simp only [Nat.reduceAdd] at hun)
      have h2 : s 2 = true := Inv.depB_mem 2 hdep (by rfl)
      have h5 : s 5 = true := Inv.depB_mem 5 hdep (by rfl)
      obtain ⟨xa, xl, xc, rfl⟩ := row_slice (hT.xa h2)
      obtain ⟨ya, yl, yc, rfl⟩ := row_slice (hT.ya h5)
      refine .inl ⟨by rfl, Inv.comesV_val (.agg #[.slice xa xl xc, .slice ya yl yc]) W (by (simp only [h2, h5, if_true]; go_simp; try rfl)) ⟨.slice xa xl xc, .slice ya yl yc, by (simp only [Act.put, List.setIfInBounds_toArray, List.set_cons_succ, List.set_cons_zero, Manyd.upd, Nat.reduceAdd, Nat.reduceBEq, Bool.or_false, Bool.or_true, if_true]), by simpa [Manyd.upd] using hT⟩⟩
    · rintro s a W hun hdep hbeh ⟨x, y, rfl, hT⟩
      (try simp only [Nat.reduceAdd] at hun)
      have h6 : s 6 = true := Inv.depB_mem 6 hdep (by rfl)
      have h2 : s 2 = true := Inv.depB_mem 2 hdep (by rfl)
      have h5 : s 5 = true := Inv.depB_mem 5 hdep (by rfl)
      obtain ⟨xa, xl, xc, rfl⟩ := row_slice (hT.xa h2)
      obtain ⟨ya, yl, yc, rfl⟩ := row_slice (hT.ya h5)
      rw [hun] at hT
      obtain ⟨r0, r1, r2, r3⟩ := hT.r
      simp only [Bool.false_eq_true, if_false] at r0 r1
      refine .inl ⟨by rfl, Inv.comesV_skip ((W.setCell ⟨w.heap.size + 1, 0, none⟩ (.slice xa xl xc)).setCell ⟨w.heap.size + 1, 1, none⟩ (.slice ya yl yc)) (by (simp only [h6, if_true]; go_simp; try rfl)) ⟨.slice xa xl xc, .slice ya yl yc, by (simp only [Act.put, List.setIfInBounds_toArray, List.set_cons_succ, List.set_cons_zero, Manyd.upd, Nat.reduceAdd, Nat.reduceBEq, Bool.or_false, Bool.or_true, if_true]), ?_⟩⟩
      have hne : w.heap.size ≠ w.heap.size + 1 := by omega
      have hset : ∀ {v : Value} {n : Nat} {xs : List Value}, W.ownsRow (w.heap.size + 2) 3 1 v n xs → ((W.setCell ⟨w.heap.size + 1, 0, none⟩ (.slice xa xl xc)).setCell ⟨w.heap.size + 1, 1, none⟩ (.slice ya yl yc)).ownsRow (w.heap.size + 2) 3 1 v n xs := fun h => row_other (row_other h (by omega)) (by omega)
      exact ⟨(hT.o.other hne).other hne, by simpa [Manyd.upd] using (hT.r.set0 (u := .slice xa xl xc)).set1 (u := .slice ya yl yc), (hT.a.set (by omega)).set (by omega), (hT.b.set (by omega)).set (by omega), fun _ => hset (hT.xa h2), fun _ => hset (hT.ya h5), fun _ => hT.ap h5, (hT.bw.setCell (p := ⟨w.heap.size + 1, 0, none⟩) (by simp) _).setCell (p := ⟨w.heap.size + 1, 1, none⟩) (by simp) _, by simpa [World.setCell] using hT.sz⟩
  · rintro s a W hs ⟨x, y, rfl, hT⟩
    rw [hs 2 (by decide), hs 5 (by decide), hs 7 (by decide)] at hT
    obtain ⟨xa, xl, xc, rfl⟩ := row_slice (hT.xa rfl)
    obtain ⟨ya, yl, yc, rfl⟩ := row_slice (hT.ya rfl)
    obtain ⟨r0, r1, r2, r3⟩ := hT.r
    simp only [if_true] at r0 r1
    go_wp2
    all_goals refine bodyPost_ret (v := .agg #[.slice xa xl xc, .slice ya yl yc]) (by simp [results, Try.results31, go_sem]; try go_simp) rfl ?_
    all_goals exact ⟨_, _, rfl, row_low (B' := w.heap.size + 2) (hT.xa rfl) (by omega), row_low (B' := w.heap.size + 2) (hT.ya rfl) (by omega), hT.ap rfl, hT.bw⟩
end Go.Proofs.Ytbmfipjnfbnjgaa
