import Derived.Test.YtioaaigbpfdjmaaDoorIntRows
set_option linter.unusedSimpArgs false
set_option linter.unusedVariables false
namespace Go.Proofs.YtioaaigbpfdjmaaDoor
open Go Go.Proofs Go.RowKit
theorem take_getz {zs : List Int} {m k : Nat} (h : k < m) : (zs.take m).getD k 0 = zs.getD k 0 := by
  rw [List.getD_eq_getElem?_getD, List.getElem?_take_of_lt h, ← List.getD_eq_getElem?_getD]
theorem cells_of_arg {w : World} {b o m : Nat} {zs : List Int} (hm : m ≤ zs.length) (hc : ∀ i, i < zs.length → w.cell? ⟨b, o + i, none⟩ = some (vz (zs.getD i 0))) :
    ∀ j u, ((zs.take m).map vz)[j]? = some u → w.cell? ((⟨b, o, none⟩ : Addr).add j) = some u := by
  intro j u hj
  have hjl : j < (zs.take m).length := by
    have := (List.getElem?_eq_some_iff.1 hj).1
    simpa using this
  have hplain : (⟨b, o, none⟩ : Addr).add j = ⟨b, o + j, none⟩ := by unfold Addr.add; split <;> simp_all
  rw [List.length_take] at hjl
  rw [hplain, hc j (by omega), ← hj, List.getElem?_map, List.getElem?_take_of_lt (by omega), List.getElem?_eq_getElem (show j < zs.length by omega), List.getD_eq_getElem?_getD, List.getElem?_eq_getElem (show j < zs.length by omega)]
  rfl
set_option maxRecDepth 100000 in
theorem copy_any {v : Value} {zs : List Int} {w : World} (hv : ArgInts w v zs) :
    Calls Tryd.prog 47 #[v] w fun e w' => ∃ v', e = .returned v' ∧ w'.ownsRow w.heap.size 3 1 v' (zs.take 1001).length ((zs.take 1001).map vz) ∧ Below w.heap.size w w' := by
  obtain ⟨i0, hi, hz0, hz1, hz2⟩ := info_parts info3
  rcases hv with ⟨rfl, rfl⟩ | ⟨a, cap, rfl, rfl⟩ | ⟨b, o, cap, rfl, hcap, hmax, hb, hc⟩
  · go_enter Tryd.func47, Tryd.ntmps47
    go_wp2
    go_ret
    exact ⟨_, rfl, World.ownsRow_nil _ _ _ _, Below.refl _ _⟩
  · go_enter Tryd.func47, Tryd.ntmps47
    go_wp2_with (at_builtin; go_loud (
      refine wpList_append_own _ rfl _ _ 27 rfl w.heap.size 3 i0 (.int .i64 0) 1 8 ty27 hi hz0 hz1 hz2 rfl (by decide) _ 0 [] rfl (World.ownsRow_nil _ _ _ _) a 0 cap [] rfl (by simp) (by simp) (by simp) (by unfold maxLen; omega) (by omega) (by simp) ?_
      intro v' w3 hown' hgrow3 hnil3
      have hbw3 : Below w.heap.size w w3 := Below.grown (Below.refl _ _) hgrow3 (by simp) (fun k hk => by cases hk)))
    go_ret
    refine ⟨_, rfl, ?_, hbw3⟩
    simpa using hown'
  · by_cases hl : zs.length ≤ 1001
    · have e : zs.take 1001 = zs := List.take_of_length_le (by omega)
      rw [e]
      have hcs := cells_of_arg (m := zs.length) (Nat.le_refl _) hc
      rw [List.take_length] at hcs
      clear hc
      go_enter Tryd.func47, Tryd.ntmps47
      go_wp2_with (at_builtin; go_loud (
        refine wpList_append_own _ rfl _ _ 27 rfl w.heap.size 3 i0 (.int .i64 0) 1 8 ty27 hi hz0 hz1 hz2 rfl (by decide) _ 0 [] rfl (World.ownsRow_nil _ _ _ _) ⟨b, o, none⟩ zs.length cap (zs.map vz) rfl (by simp) hcs (fun x hx => by rw [List.mem_map] at hx; obtain ⟨_, _, rfl⟩ := hx; rfl) (by unfold maxLen; omega) (by omega) (by simp) ?_
        intro v' w3 hown' hgrow3 hnil3
        have hbw3 : Below w.heap.size w w3 := Below.grown (Below.refl _ _) hgrow3 (by simp) (fun k hk => by cases hk)))
      go_ret
      refine ⟨_, rfl, ?_, hbw3⟩
      simpa using hown'
    · have hlen : (zs.take 1001).length = 1001 := by rw [List.length_take]; omega
      rw [hlen]
      have hcs := cells_of_arg (m := 1001) (by omega) hc
      clear hc
      have hge : (1001 : Int) < (zs.length : Int) := by omega
      go_enter Tryd.func47, Tryd.ntmps47
      go_wp2_with (at_builtin; go_loud (
        refine wpList_append_own _ rfl _ _ 27 rfl w.heap.size 3 i0 (.int .i64 0) 1 8 ty27 hi hz0 hz1 hz2 rfl (by decide) _ 0 [] rfl (World.ownsRow_nil _ _ _ _) ⟨b, o, none⟩ 1001 cap ((zs.take 1001).map vz) rfl (by simp; omega) hcs (fun x hx => by rw [List.mem_map] at hx; obtain ⟨_, _, rfl⟩ := hx; rfl) (by unfold maxLen; omega) (by omega) (by simp) ?_
        intro v' w3 hown' hgrow3 hnil3
        have hbw3 : Below w.heap.size w w3 := Below.grown (Below.refl _ _) hgrow3 (by simp) (fun k hk => by cases hk)))
      go_ret
      refine ⟨_, rfl, ?_, hbw3⟩
      simpa using hown'
end Go.Proofs.YtioaaigbpfdjmaaDoor
