import Derived.Test.YtioaaigbpfdjmaaDoorCube
set_option linter.unusedSimpArgs false
set_option linter.unusedVariables false
namespace Go.Proofs.YtioaaigbpfdjmaaDoor
open Go Go.Proofs Go.RowKit
def digB (s : ByteArray) (p k : Nat) : Bool := s.data.toList.getD k 0 == 45 || (s.data.toList.getD k 0 == 49) == p.testBit k
def inC (s : ByteArray) (p : Nat) : Bool := (List.range s.size).all (digB s p)
theorem digB_eq {s : ByteArray} {p k : Nat} (h : k < s.size) : digB s p k = (s[k] == 45 || (s[k] == 49) == p.testBit k) := by
  have : s.data.toList.getD k 0 = s[k] := by
    have hk : k < s.data.toList.length := by simpa using h
    rw [List.getD_eq_getElem?_getD, List.getElem?_eq_getElem hk, ByteArray.getElem_eq_getElem_data]; simp
  rw [digB, this]
theorem okB_int {b : UInt8} (hb : okB b = true) : (b.toNat : Int) = 45 ∨ (b.toNat : Int) = 48 ∨ (b.toNat : Int) = 49 := by
  simp only [okB, Bool.or_eq_true, beq_iff_eq] at hb
  rcases hb with (h | h) | h <;> rw [h] <;> decide
theorem okB_at {s : ByteArray} (hc : okCube s = true) {k : Nat} (h : k < s.size) : okB s[k] = true :=
  List.all_eq_true.1 hc s[k] (by rw [ByteArray.getElem_eq_getElem_data]; simp)
theorem tmod_two (p k : Nat) : ((p : Int) / 2 ^ k).tmod 2 = (p.testBit k).toNat := by
  have e : ((p : Int) / 2 ^ k) = ((p / 2 ^ k : Nat) : Int) := by push_cast; rfl
  rw [e, Nat.testBit_eq_decide_div_mod_eq]
  have : ((p / 2 ^ k : Nat) : Int).tmod 2 = ((p / 2 ^ k % 2 : Nat) : Int) := by
    rw [Int.tmod_eq_emod_of_nonneg (Int.natCast_nonneg _)]; push_cast; rfl
  rw [this]
  rcases Nat.mod_two_eq_zero_or_one (p / 2 ^ k) with h | h <;> simp [h]
theorem dig_test {s : ByteArray} {p k : Nat} (h : k < s.size) (hc : okCube s = true) (h45 : ¬ (s[k].toNat : Int) = 45) :
    (IntKind.i64.wrap (IntKind.u8.wrap ((s[k].toNat : Int) - 48)) != ((p : Int) / 2 ^ k).tmod 2) = !digB s p k := by
  rw [digB_eq h, tmod_two]
  rcases okB_int (okB_at hc h) with e | e | e
  · exact absurd e h45
  · have e' := u8_of (n := 48) (by omega) e
    rw [e']
    cases p.testBit k <;> decide
  · have e' := u8_of (n := 49) (by omega) e
    rw [e']
    cases p.testBit k <;> decide
theorem all_succ {q : Nat → Bool} {k : Nat} (h : (List.range k).all q = true) (hq : q k = true) : (List.range (k + 1)).all q = true := by
  rw [List.range_succ, List.all_append, h]; simpa using hq
theorem below_drewN {B : Nat} {a w : World} (h : Below B a w) (n : Nat) : Below B a (w.drewN n) := h.trans ⟨rfl, rfl, rfl, Nat.le_refl _, fun _ _ => rfl⟩
theorem contains_any (s : ByteArray) (p : Nat) (w : World) (hsz : s.size ≤ 40) (_hp : p < 4294967296) (hc : okCube s = true) :
    Calls Tryd.prog 66 #[.string s, .int .i64 p] w fun e w' => e = .returned (.bool (inC s p)) ∧ Below w.heap.size w w' := by
  go_enter Tryd.func66, Tryd.ntmps66
  go_wp2
  go_loopw [5] (fun i wr => (∃ k : Nat, k ≤ s.size ∧ i = .int .i64 k ∧ (List.range k).all (digB s p) = true) ∧ Below w.heap.size w wr) (fun i _ => s.size - (intOf i).toNat)
  case atStart => exact ⟨⟨0, by omega, rfl, by simp⟩, Below.refl _ _⟩
  case round =>
    obtain ⟨⟨k, hk, rfl, hall⟩, hbw⟩ := hrel
    by_cases hlt : k < s.size
    · by_cases h45 : (s[k].toNat : Int) = 45
      · have hd : digB s p k = true := by rw [digB_eq hlt, u8_of (n := 45) (by omega) h45]; rfl
        go_wp2
        go_quiet (fail)
        go_wp2
        exact ⟨⟨⟨k + 1, by omega, by go_num, all_succ hall hd⟩, below_drewN hbw _⟩, by simp [intOf]; omega⟩
      · have hd := dig_test (p := p) hlt hc h45
        go_wp2
        go_quiet (fail)
        go_wp2
        · have h4 : ((s[k].toNat : Int) != 45) = true ∧ (!digB s p k) = true := by assumption
          have hO : inC s p = false := by
            rw [inC, List.all_eq_false]
            exact ⟨k, by simpa using hlt, by simpa using h4.2⟩
          go_ret
          exact ⟨by rw [hO]; rfl, below_drewN hbw _⟩
        · rename_i h4
          have hd' : digB s p k = true := by
            rcases h4 with h4 | h4
            · exact absurd (by simpa using h4) h45
            · simpa using h4
          exact ⟨⟨⟨k + 1, by omega, by go_num, all_succ hall hd'⟩, below_drewN hbw _⟩, by simp [intOf]; omega⟩
    · have : k = s.size := by omega
      subst this
      go_wp2
      go_ret
      exact ⟨by rw [inC, hall]; rfl, hbw⟩
end Go.Proofs.YtioaaigbpfdjmaaDoor
