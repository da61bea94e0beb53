import Derived.Test.YtioaaigbpfdjmaaDoorCardPointsFn
set_option linter.unusedSimpArgs false
set_option linter.unusedVariables false
namespace Go.Proofs.YtioaaigbpfdjmaaDoor
open Go Go.Proofs Go.RowKit
set_option maxRecDepth 100000 in
theorem cardPoints_no (s : ByteArray) (hsz : s.size ≤ 40) (hc : s.size < 1 ∨ 5 < s.size ∨ okCube s = false) (w : World) :
    Calls Tryd.prog 52 #[.string s] w fun e w' => e = .returned (.tuple #[.slice none 0 0, .int .i64 2]) ∧ Below w.heap.size w w' := by
  by_cases h1 : s.size < 1
  · go_enter Tryd.func52, Tryd.ntmps52
    go_wp2
    go_ret2
    exact ⟨rfl, Below.refl _ _⟩
  · by_cases h5 : 5 < s.size
    · go_enter Tryd.func52, Tryd.ntmps52
      go_wp2
      go_ret2
      exact ⟨rfl, Below.refl _ _⟩
    · have hno : okCube s = false := by
        rcases hc with h | h | h
        · exact absurd h h1
        · exact absurd h h5
        · exact h
      go_enter Tryd.func52, Tryd.ntmps52
      go_wp2_with (go_at_call 91; refine (read_any s (by omega) _).mono ?_; rintro e w1 ⟨⟨F, V, rfl, hfv⟩, hb1⟩)
      go_ret2
      exact ⟨rfl, hb1.alloc hb1.size _⟩
def shortOf (s : ByteArray) : ByteArray := if 40 < s.size then s.extract 0 40 else s
theorem shortOf_size (s : ByteArray) : (shortOf s).size ≤ 40 := by
  unfold shortOf
  split
  · simp; omega
  · omega
theorem short_any (s : ByteArray) (hsz : s.size ≤ 9223372036854775807) (w : World) :
    Calls Tryd.prog 15 #[.string s] w fun e w' => e = .returned (.string (shortOf s)) ∧ w' = w := by
  by_cases hs : 40 < s.size
  · go_enter Tryd.func15, Tryd.ntmps15
    go_wp2
    go_ret
    exact ⟨by rw [shortOf, if_pos hs]; rfl, rfl⟩
  · go_enter Tryd.func15, Tryd.ntmps15
    go_wp2
    go_ret
    exact ⟨by rw [shortOf, if_neg hs]; rfl, rfl⟩
end Go.Proofs.YtioaaigbpfdjmaaDoor
