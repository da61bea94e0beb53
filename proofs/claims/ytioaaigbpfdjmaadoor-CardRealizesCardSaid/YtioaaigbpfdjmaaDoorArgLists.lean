import Derived.Test.YtioaaigbpfdjmaaDoorArgRows
import Derived.Test.YtioaaigbpfdjmaaDoorRows27
namespace Go.Proofs.YtioaaigbpfdjmaaDoor
open Go Go.Proofs Go.RowKit Go.ChangeShapes Go.WideShapes
theorem cells27 : Tryd.prog.cellsOf 27 = 1 := by kernel_rfl
theorem ints_of_trod {H : Type} {enc : TypeId × Value → H} {W : World} {fuel : Nat} {u : Value} {y : DataW H × List MemPlace}
    (h : DataW.trod enc Tryd.prog W 0 (fun _ => true) true fuel 27 [u] = some y) : ∃ zs : List Int, ArgInts W u zs := by
  rcases open_ints ty27 ty3 cells3 h with ⟨hc, hx⟩ | ⟨a, len, cap, zs, hc, _, hl, hm, hz, hx, hcell, hwz⟩
  · simp at hc
    subst hc
    exact ⟨[], .inl ⟨rfl, rfl⟩⟩
  · simp at hc
    subst hc
    rw [if_pos rfl] at hz
    obtain ⟨b, o, sp⟩ := a
    rcases Nat.eq_zero_or_pos len with h0 | h0
    · subst h0
      exact ⟨[], .inr (.inl ⟨_, _, rfl, rfl⟩)⟩
    · have g0 := hcell 0 (by omega)
      have hspot : sp = none := by simpa [Addr.add] using World.cell?_spot g0
      subst hspot
      have hplain : ∀ j, (⟨b, o, none⟩ : Addr).add j = ⟨b, o + j, none⟩ := fun j => by unfold Addr.add; split <;> simp_all
      have hlen : (zs.take len).length = len := by rw [List.length_take]; omega
      refine ⟨zs.take len, .inr (.inr ⟨b, o, cap, by rw [hlen], by omega, hm, ?_, fun i hi => ?_⟩)⟩
      · rcases Nat.lt_or_ge b W.heap.size with h | h
        · exact h
        · simp [Addr.add, World.cell?, Array.getElem?_eq_none h] at g0
      · have h1 := hcell i (by omega)
        rw [hplain] at h1
        rw [h1, List.getD_eq_getElem?_getD, List.getD_eq_getElem?_getD, List.getElem?_take_of_lt (by omega)]
        rfl
theorem pick_lists {p : Nat → List Int → Prop} : ∀ n, (∀ k, k < n → ∃ zs, p k zs) → ∃ ls : List (List Int), ls.length = n ∧ ∀ k, k < n → p k (ls.getD k [])
  | 0, _ => ⟨[], rfl, fun k hk => by omega⟩
  | n + 1, h => by
    obtain ⟨ls, h1, h2⟩ := pick_lists n fun k hk => h k (by omega)
    obtain ⟨z, hz⟩ := h n (by omega)
    refine ⟨ls ++ [z], by simp [h1], fun k hk => ?_⟩
    by_cases e : k = n
    · subst e
      rw [List.getD_eq_getElem?_getD, List.getElem?_append_right (by omega), h1]
      simpa using hz
    · have := h2 k (by omega)
      rw [List.getD_eq_getElem?_getD, List.getElem?_append_left (by omega), ← List.getD_eq_getElem?_getD]
      exact this
set_option maxRecDepth 100000 in
theorem arg_lists {H : Type} {enc : TypeId × Value → H} {W : World} {r : Reach} {b0 : Nat} {v : Value} {d : DataW H} {ps : List MemPlace} (hval : Value.okWide Tryd.prog W r b0 55 v)
    (hd : DataW.Trod enc Tryd.prog W 0 (fun _ => true) true 55 v d ps) : ∃ ls : List (List Int), ArgLists W v ls := by
  obtain ⟨a, len, cap, rfl⟩ := okWide_slice ty55 hval
  obtain ⟨fuel, hf⟩ := hd
  rcases DataW.trod_slice ty55 hf with ⟨hc, hx⟩ | ⟨a', len', cap', elems, rest, n, _, hc, hx, _, hl, hm, hlen, hel, _⟩
  · simp [Value.cells] at hc
    obtain ⟨rfl, rfl, rfl⟩ := hc
    exact ⟨[], none, 0, rfl, fun k hk => by simp at hk⟩
  · simp [Value.cells] at hc
    obtain ⟨rfl, rfl, rfl⟩ := hc
    have each : ∀ k, k < len → ∃ zs u, W.cell? (a'.add k) = some u ∧ ArgInts W u zs := by
      intro k hk
      have hE := hel k hk
      rw [cells27, Nat.mul_one, List.getElem?_eq_getElem (show k < elems.length by omega), Option.bind_eq_some_iff] at hE
      obtain ⟨cs, hcs, hy⟩ := hE
      have : ∃ u, cs = [u] ∧ W.cell? (a'.add k) = some u := by
        rcases open_ints ty27 ty3 cells3 hy with ⟨h1, _⟩ | ⟨_, _, _, _, h1, _⟩
        · subst h1; exact ⟨_, rfl, cell_of_cells?_one hcs⟩
        · subst h1; exact ⟨_, rfl, cell_of_cells?_one hcs⟩
      obtain ⟨u, rfl, hu⟩ := this
      obtain ⟨zs, hz⟩ := ints_of_trod hy
      exact ⟨zs, u, hu, hz⟩
    obtain ⟨ls, h1, h2⟩ := pick_lists len each
    obtain ⟨b, o, sp⟩ := a'
    refine ⟨ls, some ⟨b, o, sp⟩, cap, by rw [h1], fun k hk => ?_⟩
    obtain ⟨u, hu, hz⟩ := h2 k (by omega)
    have hspot : sp = none := by
      obtain ⟨u0, hu0, _⟩ := h2 0 (by omega)
      simpa [Addr.add] using World.cell?_spot hu0
    subst hspot
    have hplain : (⟨b, o, none⟩ : Addr).add k = ⟨b, o + k, none⟩ := by unfold Addr.add; split <;> simp_all
    rw [hplain] at hu
    exact ⟨b, o, u, rfl, hu, hz⟩
end Go.Proofs.YtioaaigbpfdjmaaDoor
