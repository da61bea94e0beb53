/- Claims and heirs: reading them, in the program and in the reference. -/
import Derived.Test.YtbocmbhinjkjlaaSums
set_option linter.unusedSimpArgs false
set_option linter.unusedVariables false
namespace Go.Proofs.Ytbocmbhinjkjlaa
open Go Go.Proofs Go.RowKit
def IntsO (w : World) (v : Value) (zs : List Int) : Prop :=
  ∃ A cap, v = .slice A zs.length cap ∧ ∀ k, k < zs.length → ∃ g o, A = some ⟨g, o, none⟩ ∧ w.cell? ⟨g, o + k, none⟩ = some (.int .i64 (zs.getD k 0))
theorem getz {zs : List Int} {k : Nat} (h : k < zs.length) : zs.getD k 0 ∈ zs := by
  rw [List.getD_eq_getElem?_getD, List.getElem?_eq_getElem h]; exact List.getElem_mem _
theorem takez {zs : List Int} {k : Nat} (h : k < zs.length) : zs.take (k + 1) = zs.take k ++ [zs.getD k 0] := by
  rw [List.take_add_one, List.getElem?_eq_getElem h, List.getD_eq_getElem?_getD, List.getElem?_eq_getElem h]; rfl
theorem sum_take {zs : List Int} {k : Nat} (h : k < zs.length) : (zs.take (k + 1)).sum = (zs.take k).sum + zs.getD k 0 := by
  rw [takez h, List.sum_append]; simp
theorem intsO_below {w w' : World} {v : Value} {l : List Int} (h : IntsO w v l) (b : Below w.heap.size w w') : IntsO w' v l := by
  obtain ⟨A, cap, hv, hc⟩ := h
  exact ⟨A, cap, hv, fun k hk => let ⟨g, o, h1, h2⟩ := hc k hk; ⟨g, o, h1, cell_below h2 b⟩⟩
theorem sum_bound {zs : List Int} (h : ∀ z ∈ zs, 0 ≤ z ∧ z ≤ 1000) : ∀ k, 0 ≤ (zs.take k).sum ∧ (zs.take k).sum ≤ 1000 * (k : Int) := by
  intro k
  induction k with
  | zero => simp
  | succ k ih =>
    rcases Nat.lt_or_ge k zs.length with hk | hk
    · rw [sum_take hk]; have := h _ (getz hk); omega
    · rw [List.take_of_length_le (by omega)]; rw [List.take_of_length_le hk] at ih; omega
theorem heap_set {W : World} {b : Nat} {a : Array Value} {t : TypeId} (h : W.heap[b]? = some (.cells a t (0, 0))) {i : Nat} (v : Value) : (W.setCell ⟨b, i, none⟩ v).heap[b]? = some (.cells (a.setIfInBounds i v) t (0, 0)) := by
  obtain ⟨hlt, hk⟩ := Array.getElem?_eq_some_iff.1 h
  simp only [World.setCell]
  rw [Array.getElem?_eq_getElem (by rw [Array.size_modify]; exact hlt), Array.getElem_modify_self, hk]
  simp
theorem BlkAt.set {W : World} {g : Nat} {c : Array Value} {t : TypeId} (h : BlkAt W g c t) (i : Nat) (v : Value) : BlkAt (W.setCell ⟨g, i, none⟩ v) g (c.setIfInBounds i v) t := heap_set h v
theorem BlkAt.other {W : World} {g : Nat} {c : Array Value} {t : TypeId} (h : BlkAt W g c t) {p : Addr} (hp : g ≠ p.block) (v : Value) : BlkAt (W.setCell p v) g c t := (Below.heap_setCell _ _ _ _ hp).trans h
def claimB (z : Int) : Bool := decide (0 ≤ z ∧ z ≤ 1000)
theorem isClaim_any (z : Int) (w : World) : Calls Try.prog 90 #[.int .i64 z] w fun e w' => e = .returned (.bool (claimB z)) ∧ w' = w := by
  obtain ⟨D, hD⟩ : ∃ D, Keep (claimB z = D) := ⟨_, ⟨rfl⟩⟩
  rw [hD.out]
  unfold claimB at hD
  go_enter Try.func90, Try.ntmps90
  by_cases h : 0 ≤ z
  · have e : Keep (decide (z ≤ 1000) = D) := ⟨by rw [← hD.out]; by_cases h2 : z ≤ 1000 <;> simp [h, h2]⟩
    go_wp2
    go_ret
    exact ⟨by rw [← e.out]; rfl, rfl⟩
  · have e : Keep (D = false) := ⟨by rw [← hD.out]; simp [h]⟩
    go_wp2
    go_ret
    exact ⟨by rw [e.out]; rfl, rfl⟩
end Go.Proofs.Ytbocmbhinjkjlaa
