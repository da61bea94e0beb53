import Derived.Test.YtifbiamfandjnaaBestFn
import Derived.ChangeSlices
import Derived.DataReads
import Derived.WideShapes
import Derived.ProofKit
import Derived.OpenShut
import Derived.OwnWalk
import Derived.Laws.AppendOwn
set_option linter.unusedSimpArgs false
set_option linter.unusedVariables false
namespace Go.Proofs.Ytifbiamfandjnaa
open Go Go.Proofs Go.RowKit Go.ChangeShapes Go.WideShapes
/-- A list of ints that came in. -/
def ArgInts (w : World) (v : Value) (zs : List Int) : Prop :=
  (v = .slice none 0 0 ∧ zs = []) ∨ (∃ (a : Addr) (cap : Nat), v = .slice (some a) 0 cap ∧ zs = []) ∨ ∃ (b o cap : Nat), v = .slice (some ⟨b, o, none⟩) zs.length cap ∧ zs.length ≤ cap ∧ cap ≤ maxLen ∧ b < w.heap.size ∧ ∀ i, i < zs.length → w.cell? ⟨b, o + i, none⟩ = some (vz (zs.getD i 0))
theorem take_getz {zs : List Int} {m k : Nat} (h : k < m) : (zs.take m).getD k 0 = zs.getD k 0 := by
  rw [List.getD_eq_getElem?_getD, List.getElem?_take_of_lt h, ← List.getD_eq_getElem?_getD]
theorem cells_of_arg {w : World} {b o m : Nat} {zs : List Int} (hm : m ≤ zs.length) (hc : ∀ i, i < zs.length → w.cell? ⟨b, o + i, none⟩ = some (vz (zs.getD i 0))) :
    ∀ j u, ((zs.take m).map vz)[j]? = some u → w.cell? ((⟨b, o, none⟩ : Addr).add j) = some u := by
  intro j u hj
  have hjl : j < (zs.take m).length := by
    have := (List.getElem?_eq_some_iff.1 hj).1
    simpa using this
  have hplain : (⟨b, o, none⟩ : Addr).add j = ⟨b, o + j, none⟩ := by unfold Addr.add; split <;> simp_all
  rw [List.length_take] at hjl
  rw [hplain, hc j (by omega), ← hj, List.getElem?_map, List.getElem?_take_of_lt (by omega), List.getElem?_eq_getElem (show j < zs.length by omega), List.getD_eq_getElem?_getD, List.getElem?_eq_getElem (show j < zs.length by omega)]
  rfl
set_option maxRecDepth 100000 in
theorem list_any {v : Value} {zs : List Int} {w : World} (hv : ArgInts w v zs) :
    Calls Try.prog 15 #[v] w fun e w' => ∃ v', e = .returned v' ∧ w'.ownsRow w.heap.size 3 1 v' (zs.take 61).length ((zs.take 61).map vz) ∧ Below w.heap.size w w' := by
  obtain ⟨i0, hi, hz0, hz1, hz2⟩ := info_parts info3
  rcases hv with ⟨rfl, rfl⟩ | ⟨a, cap, rfl, rfl⟩ | ⟨b, o, cap, rfl, hcap, hmax, hb, hc⟩
  · go_enter Try.func15, Try.ntmps15
    go_wp2
    go_ret
    exact ⟨_, rfl, World.ownsRow_nil _ _ _ _, Below.refl _ _⟩
  · go_enter Try.func15, Try.ntmps15
    go_wp2_with (at_builtin; go_loud (
      refine wpList_append_own _ rfl _ _ 22 rfl w.heap.size 3 i0 (.int .i64 0) 1 8 ty22 hi hz0 hz1 hz2 rfl (by decide) _ 0 [] rfl (World.ownsRow_nil _ _ _ _) a 0 cap [] rfl (by simp) (by simp) (by simp) (by unfold maxLen; omega) (by omega) (by simp) ?_
      intro v' w3 hown' hgrow3 hnil3
      have hbw3 : Below w.heap.size w w3 := Below.grown (Below.refl _ _) hgrow3 (by simp) (fun k hk => by cases hk)))
    go_ret
    refine ⟨_, rfl, ?_, hbw3⟩
    simpa using hown'
  · by_cases hl : zs.length ≤ 61
    · have e : zs.take 61 = zs := List.take_of_length_le (by omega)
      rw [e]
      have hcs := cells_of_arg (m := zs.length) (Nat.le_refl _) hc
      rw [List.take_length] at hcs
      clear hc
      go_enter Try.func15, Try.ntmps15
      go_wp2_with (at_builtin; go_loud (
        refine wpList_append_own _ rfl _ _ 22 rfl w.heap.size 3 i0 (.int .i64 0) 1 8 ty22 hi hz0 hz1 hz2 rfl (by decide) _ 0 [] rfl (World.ownsRow_nil _ _ _ _) ⟨b, o, none⟩ zs.length cap (zs.map vz) rfl (by simp) hcs (fun x hx => by rw [List.mem_map] at hx; obtain ⟨_, _, rfl⟩ := hx; rfl) (by unfold maxLen; omega) (by omega) (by simp) ?_
        intro v' w3 hown' hgrow3 hnil3
        have hbw3 : Below w.heap.size w w3 := Below.grown (Below.refl _ _) hgrow3 (by simp) (fun k hk => by cases hk)))
      go_ret
      refine ⟨_, rfl, ?_, hbw3⟩
      simpa using hown'
    · have hlen : (zs.take 61).length = 61 := by rw [List.length_take]; omega
      rw [hlen]
      have hcs := cells_of_arg (m := 61) (by omega) hc
      clear hc
      have hge : (61 : Int) < (zs.length : Int) := by omega
      go_enter Try.func15, Try.ntmps15
      go_wp2_with (at_builtin; go_loud (
        refine wpList_append_own _ rfl _ _ 22 rfl w.heap.size 3 i0 (.int .i64 0) 1 8 ty22 hi hz0 hz1 hz2 rfl (by decide) _ 0 [] rfl (World.ownsRow_nil _ _ _ _) ⟨b, o, none⟩ 61 cap ((zs.take 61).map vz) rfl (by simp; omega) hcs (fun x hx => by rw [List.mem_map] at hx; obtain ⟨_, _, rfl⟩ := hx; rfl) (by unfold maxLen; omega) (by omega) (by simp) ?_
        intro v' w3 hown' hgrow3 hnil3
        have hbw3 : Below w.heap.size w w3 := Below.grown (Below.refl _ _) hgrow3 (by simp) (fun k hk => by cases hk)))
      go_ret
      refine ⟨_, rfl, ?_, hbw3⟩
      simpa using hown'
theorem cells3 : Try.prog.cellsOf 3 = 1 := by kernel_rfl
theorem ty3 : Try.prog.underlying 3 = some (.int .i64) := by kernel_rfl
set_option maxRecDepth 100000 in
theorem arg_ints {H : Type} {enc : TypeId × Value → H} {W : World} {r : Reach} {b0 : Nat} {v : Value} {d : DataW H} {ps : List MemPlace} (hval : Value.okWide Try.prog W r b0 22 v)
    (hd : DataW.Trod enc Try.prog W 0 (fun _ => true) true 22 v d ps) : ∃ zs : List Int, ArgInts W v zs := by
  obtain ⟨a, len, cap, rfl⟩ := okWide_slice ty22 hval
  obtain ⟨fuel, hf⟩ := hd
  rcases open_ints ty22 ty3 cells3 hf with ⟨hc, hx⟩ | ⟨a', len', cap', zs, hc, _, hl, hm, hz, hx, hcell, hwz⟩
  · simp [Value.cells] at hc
    obtain ⟨rfl, rfl, rfl⟩ := hc
    exact ⟨[], .inl ⟨rfl, rfl⟩⟩
  · simp [Value.cells] at hc
    obtain ⟨rfl, rfl, rfl⟩ := hc
    rw [if_pos rfl] at hz
    obtain ⟨b, o, sp⟩ := a'
    rcases Nat.eq_zero_or_pos len with h0 | h0
    · subst h0
      exact ⟨[], .inr (.inl ⟨_, _, rfl, rfl⟩)⟩
    · have g0 := hcell 0 (by omega)
      have hspot : sp = none := by simpa [Addr.add] using World.cell?_spot g0
      subst hspot
      have hplain : ∀ j, (⟨b, o, none⟩ : Addr).add j = ⟨b, o + j, none⟩ := fun j => by unfold Addr.add; split <;> simp_all
      have hlen : (zs.take len).length = len := by rw [List.length_take]; omega
      refine ⟨zs.take len, .inr (.inr ⟨b, o, cap, by rw [hlen], by omega, hm, ?_, fun i hi => ?_⟩)⟩
      · rcases Nat.lt_or_ge b W.heap.size with h | h
        · exact h
        · simp [Addr.add, World.cell?, Array.getElem?_eq_none h] at g0
      · have h1 := hcell i (by omega)
        rw [hplain] at h1
        rw [h1, List.getD_eq_getElem?_getD, List.getD_eq_getElem?_getD, List.getElem?_take_of_lt (by omega)]
        rfl
end Go.Proofs.Ytifbiamfandjnaa
