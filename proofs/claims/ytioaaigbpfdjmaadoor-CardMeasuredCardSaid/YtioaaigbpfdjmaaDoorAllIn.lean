import Derived.Test.YtioaaigbpfdjmaaDoorWeigh
set_option linter.unusedSimpArgs false
set_option linter.unusedVariables false
namespace Go.Proofs.YtioaaigbpfdjmaaDoor
open Go Go.Proofs Go.RowKit
/-- A number is a point of the set. -/
def inB (a : Nat) (z : Int) : Bool := decide (0 ≤ z ∧ z < 32) && a.testBit z.toNat
set_option maxRecDepth 100000 in
theorem allIn_any {v : Value} {zs : List Int} {a : Nat} {w : World} (ha : a < 4294967296) (hv : IntsAt w v zs) (hl : zs.length ≤ 1001) :
    Calls Tryd.prog 87 #[v, .int .u32 a] w fun e w' => e = .returned (.bool (zs.all (inB a))) ∧ w' = w := by
  obtain ⟨A, cap, rfl, hc⟩ := hv
  obtain ⟨b, hb⟩ : ∃ b, Keep (zs.all (inB a) = b) := ⟨_, ⟨rfl⟩⟩
  rw [hb.out]
  go_enter Tryd.func87, Tryd.ntmps87
  go_wp2
  go_loop [9] (fun i => ∃ k : Nat, k ≤ zs.length ∧ i = .int .i64 k ∧ Keep ((zs.take k).all (inB a) = true)) (fun i => zs.length - (intOf i).toNat)
  case atStart => exact ⟨0, by omega, rfl, ⟨rfl⟩⟩
  case round =>
    obtain ⟨k, hk, rfl, hall⟩ := hrel
    by_cases hlt : k < zs.length
    · obtain ⟨g, rfl, hg⟩ := hc k hlt
      obtain ⟨z, hz⟩ : ∃ z, Keep (zs.getD k 0 = z) := ⟨_, ⟨rfl⟩⟩
      rw [hz.out] at hg
      have hbad : inB a z = false → b = false := fun h => by
        rw [← hb.out, List.all_eq_false]
        exact ⟨_, getz hlt, by rw [hz.out, h]; simp⟩
      have hgood : inB a z = true → Keep ((zs.take (k + 1)).all (inB a) = true) := fun h => ⟨by
        rw [takez hlt, List.all_append, hall.out, hz.out]
        simp [h]⟩
      by_cases h0 : z < 0
      · have hD : b = false := hbad (by unfold inB; have : ¬ (0 ≤ z ∧ z < 32) := by omega
                                        simp [this])
        clear hbad hgood
        subst hD
        go_wp2
        go_ret
        exact ⟨rfl, rfl⟩
      · by_cases h1 : 32 ≤ z
        · have hD : b = false := hbad (by unfold inB; have : ¬ (0 ≤ z ∧ z < 32) := by omega
                                          simp [this])
          clear hbad hgood
          subst hD
          go_wp2
          go_ret
          exact ⟨rfl, rfl⟩
        · obtain ⟨q, rfl⟩ : ∃ q : Nat, z = (q : Int) := ⟨z.toNat, by omega⟩
          have hq : q < 32 := by omega
          have hin : inB a (q : Int) = a.testBit q := by unfold inB; have : (0 ≤ (q : Int) ∧ (q : Int) < 32) := by omega
                                                         simp [this]
          rw [hin] at hbad hgood
          cases ht : a.testBit q
          · have hD : b = false := hbad ht
            clear hbad hgood hin
            subst hD
            go_wp2_with (go_at_call 76; refine (has_any a q ha hq _).mono ?_; rintro e w ⟨rfl, rfl⟩; rw [ht])
            go_ret
            exact ⟨rfl, rfl⟩
          · have hnext := hgood ht
            clear hbad hgood hin
            go_wp2_with (go_at_call 76; refine (has_any a q ha hq _).mono ?_; rintro e w ⟨rfl, rfl⟩; rw [ht])
            exact ⟨⟨k + 1, by omega, by go_num, hnext⟩, by simp [intOf]; omega⟩
    · have : k = zs.length := by omega
      subst this
      have hD : b = true := by rw [← hb.out]; have := hall.out; rwa [List.take_length] at this
      subst hD
      go_wp2
      go_ret
      exact ⟨rfl, rfl⟩
end Go.Proofs.YtioaaigbpfdjmaaDoor
