import Derived.Test.YtioaaigbpfdjmaaDoorRefCovers
import Derived.Test.YtioaaigbpfdjmaaDoorRows27
import Derived.Deep.RegionHeld3
import Derived.Deep.AppendLies
import Derived.BigQuiet
set_option linter.unusedSimpArgs false
set_option linter.unusedVariables false
namespace Go.Proofs.YtioaaigbpfdjmaaDoor
open Go Go.Proofs Go.RowKit
def vs (s : ByteArray) : Value := .string s
/-- A string's first eight bytes. -/
def cut8 (s : ByteArray) : ByteArray := s.extract 0 (min s.size 8)
theorem cut8_size (s : ByteArray) : (cut8 s).size ≤ 8 := by
  unfold cut8; rw [ByteArray.size_extract]; omega
theorem cut8_id {s : ByteArray} (h : s.size ≤ 8) : cut8 s = s := by
  unfold cut8; rw [Nat.min_eq_left h]; exact ByteArray.extract_zero_size
def fewOf (ls : List ByteArray) : List ByteArray := (ls.take 34).map cut8
theorem few_len (ls : List ByteArray) : (fewOf ls).length = min 34 ls.length := by simp [fewOf]
theorem few_push {ls : List ByteArray} {k : Nat} (h : k < ls.length) : (ls.take (k + 1)).map cut8 = (ls.take k).map cut8 ++ [cut8 (ls.getD k ByteArray.empty)] := by
  rw [takex h, List.map_append]; rfl
theorem own_texts {w : World} {B : Nat} {v : Value} {ls : List ByteArray} (h : w.ownsRow B 9 1 v ls.length (ls.map vs)) : TextsAt w v ls := by
  obtain ⟨A, cap, hv, hc⟩ := own_cellu h (by simp)
  refine ⟨A, cap, hv, fun k hk => ?_⟩
  obtain ⟨g, hA, hg⟩ := hc k hk
  refine ⟨g, 0, hA, ?_⟩
  rw [Nat.zero_add, hg, List.getD_eq_getElem?_getD, List.getElem?_map, List.getElem?_eq_getElem hk]
  simp [vs, List.getD, hk]
def OwnTexts (w : World) (B : Nat) (v : Value) (ls : List ByteArray) : Prop := w.ownsRow B 9 1 v ls.length (ls.map vs)
set_option maxHeartbeats 1000000 in
set_option maxRecDepth 100000 in
theorem few_any {v : Value} {ls : List ByteArray} {w : World} (hv : TextsAt w v ls) (hsz : Keep (∀ s ∈ ls, s.size ≤ 9223372036854775807)) :
    Calls Tryd.prog 32 #[v] w fun e w' => ∃ v', e = .returned v' ∧ OwnTexts w' w.heap.size v' (fewOf ls) ∧ Below w.heap.size w w' := by
  obtain ⟨i0, hi, hz0, hz1, hz2⟩ := info_parts info9
  obtain ⟨A, cap, rfl, hc⟩ := hv
  have hck := Keep.mk hc
  clear hc
  go_enter Tryd.func32, Tryd.ntmps32
  go_wp2
  go_loopw [3, 4] (fun a0 i wr => ∃ (k : Nat) (a : Value), a = a0 ∧ k ≤ ls.length ∧ k ≤ 34 ∧ i = .int .i64 k ∧ OwnTexts wr w.heap.size a ((ls.take k).map cut8) ∧ Below w.heap.size w wr) (fun _ i _ => 34 - (intOf i).toNat)
  case atStart => exact ⟨0, _, rfl, by omega, by omega, rfl, World.ownsRow_nil _ _ _ _, Below.refl _ _⟩
  case round =>
    obtain ⟨k, a, rfl, hk, hk3, rfl, hown, hbw⟩ := hrel
    by_cases hlt : k < ls.length
    · by_cases h3 : k < 34
      · obtain ⟨g, o, rfl, hg⟩ := hck.out k hlt
        have hgr := cell_below hg hbw
        have hx := hsz.out _ (getx hlt)
        have hpush : Keep ((ls.take (k + 1)).map cut8 = (ls.take k).map cut8 ++ [cut8 (ls.getD k ByteArray.empty)]) := ⟨few_push hlt⟩
        have hll : ((ls.take k).map cut8).length = k := by simp; omega
        have hbz : w.heap.size ≤ wr.heap.size := hbw.size
        unfold OwnTexts at hown
        rw [hll] at hown
        generalize hyy : (ls.take k).map cut8 = ys at hown hpush hll
        clear hyy
        generalize ls.getD k ByteArray.empty = x at hgr hx hpush hg
        go_wp2
        have hownd : wr.drew.ownsRow w.heap.size 9 1 a k (ys.map vs) := own_below hown (below_drewN (Below.refl _ _) 1)
        have hbd : Below w.heap.size w wr.drew := below_drewN hbw 1
        obtain ⟨M, hM⟩ : ∃ M, Keep (M = min x.size 8) := ⟨_, ⟨rfl⟩⟩
        have hmin : (if (8 : Int) < (x.size : Int) then (8 : Int) else (x.size : Int)) = (M : Int) := by
          have := hM.out
          split <;> omega
        have f1 : (0 : Int) ≤ (M : Int) := by omega
        have f2 : (M : Int) ≤ (x.size : Int) := by have := hM.out; omega
        go_region_held3 (fun w' => w'.cell? ⟨g, o + k, none⟩ = some (.string x))
          (first | exact hgr | exact cell_below hg hb3 | go_keep)
          (first
            | (refine step_append_lies _ rfl _ _ 23 rfl w.heap.size 9 i0 (.string ByteArray.empty) 1 16 ty23 hi hz0 hz1 hz2 rfl (by decide) _ _ _ rfl (hownd.alloc _) ⟨wr.drew.heap.size, 0, none⟩ 1 1 [.string (x.extract 0 M)] rfl rfl (cell_one_new _ _ _) (fun x hx => by simp at hx; subst hx; rfl) (by decide) (by unfold maxLen; omega) (by omega) (by simp; omega) _ rfl ?_; intro g3 cap3 w3 hown3 hgrow3 hor3 hlt3; have hb3 : Below w.heap.size w w3 := Below.grown (hbd.alloc hbz _) hgrow3 (by simp; omega) (fun j hj => by have := (hownd.lt _ hj).1; omega)))
        go_wp2
        refine ⟨⟨k + 1, _, rfl, by omega, by omega, by go_num, ?_, hb3⟩, by simp [intOf]; omega⟩
        unfold OwnTexts
        rw [hpush.out]
        have e8 : cut8 x = x.extract 0 M := by unfold cut8; rw [hM.out]
        rw [e8, List.length_append, List.map_append, hll]
        exact hown3
      · have : k = 34 := by omega
        subst this
        go_wp2
        go_ret
        refine ⟨_, rfl, ?_, hbw⟩
        exact hown
    · have : k = ls.length := by omega
      subst this
      go_wp2
      go_ret
      refine ⟨_, rfl, ?_, hbw⟩
      rw [List.take_length] at hown
      have e : fewOf ls = ls.map cut8 := by unfold fewOf; rw [List.take_of_length_le (by omega)]
      rw [e]; exact hown
end Go.Proofs.YtioaaigbpfdjmaaDoor
