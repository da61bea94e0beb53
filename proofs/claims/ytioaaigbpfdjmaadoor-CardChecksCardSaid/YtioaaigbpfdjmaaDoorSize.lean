import Derived.Test.YtioaaigbpfdjmaaDoorProg
import Derived.WalkKit
import Derived.WalkSpells
import Derived.BigQuiet
import Derived.Deep.QuietTactic
import Derived.Shelf.Spec.TrailingZeros
set_option linter.unusedSimpArgs false
set_option linter.unusedVariables false
namespace Go.Proofs.YtioaaigbpfdjmaaDoor
open Go Go.Proofs Go.RowKit
theorem pick_str {p : ByteArray → Prop} (S : ByteArray) (h : ∀ T, T.size = 256 → p T) (hs : S.size = 256) : p S := h S hs
theorem mod8 (z : Int) : ∃ n : Nat, n ≤ 255 ∧ z % 256 = (n : Int) := ⟨(z % 256).toNat, by omega, by omega⟩
theorem low8 (x d : Nat) (hx : x < 4294967296) : ∃ b : Nat, b < 256 ∧ bits .and .u32 ((x : Int) / (d : Int)) 255 = (b : Int) := by
  refine ⟨(x / d) &&& 255, ?_, ?_⟩
  · exact Nat.lt_of_le_of_lt Nat.and_le_right (by decide)
  · have e : ((x : Int) / (d : Int)) = ((x / d : Nat) : Int) := by push_cast; rfl
    have := Nat.div_le_self x d
    rw [e]
    exact bits_and_u32_nat (x / d) 255 (by omega) (by decide)
set_option maxRecDepth 100000 in
theorem ones_any (x : Nat) (hx : x < 4294967296) (w : World) :
    Calls Tryd.prog 106 #[.int .u32 x] w fun e w' => (∃ n : Nat, n ≤ 255 ∧ e = .returned (.int .i64 n)) ∧ Below w.heap.size w w' := by
  go_enter Tryd.func106, Tryd.ntmps106
  go_wp2
  generalize hS : Operand.const (Value.string _) = C
  obtain ⟨T, rfl, hT⟩ : ∃ T : ByteArray, C = Operand.const (Value.string T) ∧ T.size = 256 := ⟨_, hS.symm, by rfl⟩
  clear hS
  obtain ⟨a, ha⟩ : ∃ a : Nat, (x : Int) / 16777216 = (a : Int) := ⟨x / 16777216, by omega⟩
  obtain ⟨b, hb1, hb⟩ := low8 x 65536 hx
  obtain ⟨c, hc1, hc⟩ := low8 x 256 hx
  obtain ⟨d, hd1, hd⟩ := low8 x 1 hx
  simp only [Int.cast_ofNat_Int, Int.ediv_one] at hb hc hd
  rw [← hT] at hb1 hc1 hd1
  have ha1 : a < T.size := by omega
  clear hT
  go_quiet (fail)
  go_wp2
  go_ret
  obtain ⟨n, hn, e⟩ := mod8 _
  exact ⟨⟨n, hn, congrArg (fun z => Ending.returned (.int .i64 z)) e⟩, ⟨rfl, rfl, rfl, Nat.le_refl _, fun _ _ => rfl⟩⟩
theorem size_any (x : Nat) (hx : x < 4294967296) (w : World) :
    Calls Tryd.prog 77 #[.int .u32 x] w fun e w' => (∃ n : Nat, n ≤ 255 ∧ e = .returned (.int .i64 n)) ∧ Below w.heap.size w w' := by
  go_enter Tryd.func77, Tryd.ntmps77
  go_wp2_with (go_at_call 106; refine (ones_any x hx _).mono ?_; rintro e w' ⟨⟨n, hn, rfl⟩, hb⟩)
  go_ret
  exact ⟨⟨n, hn, rfl⟩, hb⟩
end Go.Proofs.YtioaaigbpfdjmaaDoor
