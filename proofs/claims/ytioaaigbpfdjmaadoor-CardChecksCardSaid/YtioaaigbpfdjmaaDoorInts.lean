import Derived.Test.YtioaaigbpfdjmaaDoorCubePoints
set_option linter.unusedSimpArgs false
set_option linter.unusedVariables false
namespace Go.Proofs.YtioaaigbpfdjmaaDoor
open Go Go.Proofs Go.RowKit
theorem own_cell {w : World} {B : Nat} {v : Value} {l : List Nat} (h : w.ownsRow B 3 1 v l.length (l.map vi)) :
    ∃ A cap, v = .slice A l.length cap ∧ ∀ k, k < l.length → ∃ g, A = some ⟨g, 0, none⟩ ∧ w.cell? ⟨g, k, none⟩ = some (.int .i64 (l.getD k 0 : Nat)) := by
  obtain ⟨h1, h2⟩ := h
  rcases h2 with ⟨rfl, h0⟩ | ⟨g, cap, cur, rfl, hg, hh, hn, hcap, hsz, htake⟩
  · exact ⟨none, 0, by rw [h0], fun k hk => by omega⟩
  · refine ⟨_, cap, rfl, fun k hk => ⟨g, rfl, ?_⟩⟩
    have : cur[k]? = some (.int .i64 (l.getD k 0 : Nat)) := by
      have e : (cur.toList.take (l.length * 1))[k]? = (l.map vi)[k]? := by rw [htake]
      rw [List.getElem?_take_of_lt (by omega), List.getElem?_map, List.getElem?_eq_getElem hk] at e
      rw [← Array.getElem?_toList, e]
      simp [vi, List.getD, hk]
    simp [World.cell?, hh, this]
theorem cell_below {w w' : World} {g k : Nat} {v : Value} (h : w.cell? ⟨g, k, none⟩ = some v) (b : Below w.heap.size w w') : w'.cell? ⟨g, k, none⟩ = some v := by
  have h1 : g < w.heap.size := by
    rcases Nat.lt_or_ge g w.heap.size with h' | h'
    · exact h'
    · simp [World.cell?, Array.getElem?_eq_none h'] at h
  rw [b.cell (p := ⟨g, k, none⟩) h1]; exact h
set_option maxRecDepth 100000 in
theorem ints_same {w : World} {B B' : Nat} {a b : Value} {l : List Nat} (ha : w.ownsRow B 3 1 a l.length (l.map vi)) (hb : w.ownsRow B' 3 1 b l.length (l.map vi)) (hl : l.length ≤ 1000) :
    Calls Tryd.prog 24 #[a, b] w fun e w' => e = .returned (.bool true) ∧ Below w.heap.size w w' := by
  obtain ⟨A, cap, rfl, hca⟩ := own_cell ha
  obtain ⟨A', cap', rfl, hcb⟩ := own_cell hb
  clear ha hb
  go_enter Tryd.func24, Tryd.ntmps24
  go_wp2
  go_loopw [5] (fun i wr => (∃ k : Nat, k ≤ l.length ∧ i = .int .i64 k) ∧ Below w.heap.size w wr) (fun i _ => l.length - (intOf i).toNat)
  case atStart => exact ⟨⟨0, by omega, rfl⟩, Below.refl _ _⟩
  case round =>
    obtain ⟨⟨k, hk, rfl⟩, hbw⟩ := hrel
    by_cases hlt : k < l.length
    · obtain ⟨g, rfl, h1⟩ := hca k hlt
      obtain ⟨g', rfl, h2⟩ := hcb k hlt
      have h1 := cell_below h1 hbw
      have h2 := cell_below h2 hbw
      clear hca hcb
      generalize l.getD k 0 = z at h1 h2
      go_wp2
      go_quiet (fail)
      go_wp2
      exact ⟨⟨⟨k + 1, by omega, by go_num⟩, below_drewN hbw _⟩, by simp [intOf]; omega⟩
    · have : k = l.length := by omega
      subst this
      go_wp2
      go_ret
      exact ⟨rfl, hbw⟩
end Go.Proofs.YtioaaigbpfdjmaaDoor
