import Derived.Test.YtioaaigbpfdjmaaDoorArgRows
import Derived.Test.YtioaaigbpfdjmaaDoorRefCovers
import Derived.SliceStrings
set_option linter.unusedSimpArgs false
set_option linter.unusedVariables false
namespace Go.Proofs.YtioaaigbpfdjmaaDoor
open Go Go.Proofs Go.RowKit Go.ChangeShapes Go.WideShapes
theorem cells9 : Tryd.prog.cellsOf 9 = 1 := by kernel_rfl
theorem und9s : Tryd.prog.underlying 9 = some .string := by kernel_rfl
set_option maxRecDepth 100000 in
theorem arg_texts {H : Type} {enc : TypeId × Value → H} {W : World} {r : Reach} {b0 : Nat} {v : Value} {d : DataW H} {ps : List MemPlace} (hval : Value.okWide Tryd.prog W r b0 23 v)
    (hd : DataW.Trod enc Tryd.prog W 0 (fun _ => true) true 23 v d ps) : ∃ ls : List ByteArray, TextsAt W v ls ∧ ∀ s ∈ ls, s.size ≤ 9223372036854775807 := by
  obtain ⟨a, len, cap, rfl⟩ := okWide_slice ty23 hval
  obtain ⟨fuel, hf⟩ := hd
  rcases open_strings ty23 und9s cells9 hf with ⟨hc, hx⟩ | ⟨a', len', cap', ss, hc, _, hl, hm, hz, hx, hcell, hsz⟩
  · simp [Value.cells] at hc
    obtain ⟨rfl, rfl, rfl⟩ := hc
    exact ⟨[], ⟨none, 0, rfl, fun k hk => by simp at hk⟩, fun s hs => by simp at hs⟩
  · simp [Value.cells] at hc
    obtain ⟨rfl, rfl, rfl⟩ := hc
    rw [if_pos rfl] at hz
    obtain ⟨b, o, sp⟩ := a'
    have hlen : (ss.take len).length = len := by rw [List.length_take]; omega
    refine ⟨ss.take len, ⟨some ⟨b, o, sp⟩, cap, by rw [hlen], fun k hk => ?_⟩, fun s hs => ?_⟩
    · rw [hlen] at hk
      have g0 := hcell 0 (by omega)
      have hspot : sp = none := by simpa [Addr.add] using World.cell?_spot g0
      subst hspot
      have hplain : (⟨b, o, none⟩ : Addr).add k = ⟨b, o + k, none⟩ := by unfold Addr.add; split <;> simp_all
      have h1 := hcell k (by omega)
      rw [hplain] at h1
      refine ⟨b, o, rfl, ?_⟩
      rw [h1, List.getD_eq_getElem?_getD, List.getD_eq_getElem?_getD, List.getElem?_take_of_lt hk]
    · have := hsz s (List.mem_of_mem_take hs)
      unfold maxLen at this
      omega
end Go.Proofs.YtioaaigbpfdjmaaDoor
