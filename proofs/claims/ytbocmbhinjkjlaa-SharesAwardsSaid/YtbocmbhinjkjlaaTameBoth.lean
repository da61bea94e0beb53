/- Claims and an estate out of any list, the empty one too. -/
import Derived.Test.YtbocmbhinjkjlaaTameArg
set_option linter.unusedSimpArgs false
set_option linter.unusedVariables false
namespace Go.Proofs.Ytbocmbhinjkjlaa
open Go Go.Proofs Go.RowKit Go.Seq Go.ChangeShapes Go.WideShapes Go.ChangeAt Go.Joins
def tameL (zs : List Int) : List Int := if zs.length = 0 then [0] else tamed zs
theorem tameL_valid (zs : List Int) : Valid (tameL zs) := by
  unfold tameL
  split
  · exact ⟨by simp, by simp, fun z hz => by simp only [List.mem_singleton] at hz; omega⟩
  · unfold tamed
    refine ⟨by rw [List.length_map, List.length_take]; omega, by rw [List.length_map, List.length_take]; omega, fun z hz => ?_⟩
    obtain ⟨x, _, rfl⟩ := List.mem_map.1 hz
    have := modN_lt x (m := 1001) (by omega)
    omega
theorem intsO_lit1 {W : World} {g : Nat} {a : Int} {t : TypeId} (h : BlkAt W g #[.int .i64 a] t) : IntsO W (.slice (some ⟨g, 0, none⟩) 1 1) [a] := by
  refine ⟨_, 1, rfl, fun k hk => ⟨g, 0, rfl, ?_⟩⟩
  rw [h.cell]
  match k, hk with
  | 0, _ => rfl
  | k + 1, hk => simp at hk
set_option maxHeartbeats 1000000 in
set_option maxRecDepth 100000 in
theorem tame_none {v : Value} {zs : List Int} {E : Int} {w : World} (hv : IntsO w v zs) (hne : zs.length = 0) :
    Calls Try.prog 55 #[v, .int .i64 E] w fun e w' => ∃ v', e = .returned (.tuple #[v', .int .i64 0]) ∧ IntsO w' v' [0] ∧ Below w.heap.size w w' := by
  obtain ⟨A, cap, rfl, hcell⟩ := hv
  obtain ⟨w1, hw1⟩ : ∃ w1, Keep (w.alloc (.cells #[] 3) = w1) := ⟨_, ⟨rfl⟩⟩
  have hb1 : Below w.heap.size w w1 := by rw [← hw1.out]; exact (Below.refl _ _).alloc (Nat.le_refl _) _
  obtain ⟨w2, hw2⟩ : ∃ w2, Keep (w1.alloc (.cells #[.int .i64 0] 3) = w2) := ⟨_, ⟨rfl⟩⟩
  have hb2 : Below w1.heap.size w1 w2 := by rw [← hw2.out]; exact (Below.refl _ _).alloc (Nat.le_refl _) _
  have o2 : BlkAt w2 w1.heap.size #[.int .i64 0] 3 := by rw [← hw2.out]; exact BlkAt.new _ _ _
  rw [hne]
  clear hcell
  go_enter Try.func55, Try.ntmps55
  go_wp2
  try rw [hw1.out]
  go_loopw [6, 7, 8] (fun s t i wr => i = .int .i64 0 ∧ t = .int .i64 0 ∧ s = .slice (some ⟨w.heap.size, 0, none⟩) 0 0 ∧ wr = w1) (fun _ _ i _ => 11 - (intOf i).toNat)
  case atStart => exact ⟨rfl, rfl, rfl, rfl⟩
  case round =>
    obtain ⟨rfl, rfl, rfl, rfl⟩ := hrel
    go_wp2
    try rw [hw2.out]
    go_ret2
    exact ⟨_, rfl, intsO_lit1 o2, hb1.trans (hb2.mono hb1.size)⟩
theorem tame_both {v : Value} {zs : List Int} {E : Int} {w : World} (hv : IntsO w v zs) :
    Calls Try.prog 55 #[v, .int .i64 E] w fun e w' => ∃ v' Es, e = .returned (.tuple #[v', .int .i64 Es]) ∧ IntsO w' v' (tameL zs) ∧ (0 ≤ Es ∧ Es ≤ (tameL zs).sum) ∧ Below w.heap.size w w' := by
  have hV := tameL_valid zs
  have hs := sum_bound hV.2.2 (tameL zs).length
  rw [List.take_length] at hs
  by_cases h : zs.length = 0
  · refine (tame_none hv h).mono ?_
    rintro e w' ⟨v', rfl, h1, h2⟩
    have e0 : tameL zs = [0] := if_pos h
    exact ⟨v', 0, rfl, by rw [e0]; exact h1, by rw [e0]; simp, h2⟩
  · refine (tame_any hv (by omega)).mono ?_
    rintro e w' ⟨v', rfl, h1, h2⟩
    have e0 : tameL zs = tamed zs := if_neg h
    rw [e0] at hs ⊢
    exact ⟨v', _, rfl, own_ints h1, ⟨by omega, by have := modN_lt E (m := (tamed zs).sum.toNat + 1) (by omega); omega⟩, h2⟩
end Go.Proofs.Ytbocmbhinjkjlaa
