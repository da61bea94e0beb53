import Derived.Test.YtifbiamfandjnaaInts
set_option linter.unusedSimpArgs false
set_option linter.unusedVariables false
namespace Go.Proofs.Ytifbiamfandjnaa
open Go Go.Proofs Go.RowKit
def okLine (N : Int) (zs : List Int) : Bool := decide (1 ≤ N ∧ N ≤ 1000 ∧ 1 ≤ zs.length ∧ zs.length ≤ 60) && zs.all (fun z => decide (0 ≤ z ∧ z < N))
theorem isLine_any {N : Int} {v : Value} {zs : List Int} {w : World} (hv : IntsAt w v zs) (hl : zs.length ≤ 100000) (hN1 : -9223372036854775808 ≤ N) (hN2 : N < 9223372036854775808) :
    Calls Try.prog 66 #[.int .i64 N, v] w fun e w' => e = .returned (.bool (okLine N zs)) ∧ w' = w := by
  obtain ⟨A, cap, rfl, hc⟩ := hv
  obtain ⟨D, hD⟩ : ∃ D, Keep (okLine N zs = D) := ⟨_, ⟨rfl⟩⟩
  rw [hD.out]
  by_cases hok : 1 ≤ N ∧ N ≤ 1000 ∧ 1 ≤ zs.length ∧ zs.length ≤ 60
  · obtain ⟨k1, k2, k3, k4⟩ := hok
    go_enter Try.func66, Try.ntmps66
    go_wp2
    go_loop [25] (fun i => ∃ k : Nat, k ≤ zs.length ∧ i = .int .i64 k ∧ (zs.take k).all (fun z => decide (0 ≤ z ∧ z < N)) = true) (fun i => zs.length - (intOf i).toNat)
    case atStart => exact ⟨0, by omega, rfl, by simp⟩
    case round =>
      obtain ⟨k, hk, rfl, hall⟩ := hrel
      by_cases hlt : k < zs.length
      · obtain ⟨g, rfl, h1⟩ := hc k hlt
        have hm := getz hlt
        have hallk : (0 ≤ zs.getD k 0 ∧ zs.getD k 0 < N) → (zs.take (k + 1)).all (fun z => decide (0 ≤ z ∧ z < N)) = true := fun h => by
          rw [takez hlt, List.all_append, hall]; simpa using h
        have hno : ¬ (0 ≤ zs.getD k 0 ∧ zs.getD k 0 < N) → D = false := fun h => by
          rw [← hD.out]; unfold okLine
          have : zs.all (fun z => decide (0 ≤ z ∧ z < N)) = false := by
            rw [List.all_eq_false]; exact ⟨_, hm, by simpa using h⟩
          rw [this, Bool.and_false]
        clear hc hm hall
        generalize zs.getD k 0 = z at h1 hallk hno
        by_cases hz : 0 ≤ z ∧ z < N
        · have hk2 := hallk hz
          obtain ⟨hz1, hz2⟩ := hz
          clear hallk hno
          go_wp2
          exact ⟨⟨k + 1, by omega, by go_num, hk2⟩, by simp [intOf]; omega⟩
        · have hDf := Keep.mk (hno hz)
          clear hallk hno
          rcases Int.lt_or_le z 0 with h | h
          · clear hz
            go_wp2
            all_goals go_ret
            all_goals exact ⟨by rw [hDf.out]; rfl, rfl⟩
          · have hz2 : N ≤ z := by omega
            clear hz
            go_wp2
            all_goals go_ret
            all_goals exact ⟨by rw [hDf.out]; rfl, rfl⟩
      · have : k = zs.length := by omega
        subst this
        rw [List.take_length] at hall
        have hDt : Keep (D = true) := ⟨by rw [← hD.out]; unfold okLine; rw [hall, decide_eq_true ⟨k1, k2, k3, k4⟩]; rfl⟩
        clear hc hall
        go_wp2
        go_ret
        exact ⟨by rw [hDt.out]; rfl, rfl⟩
  · have hd : okLine N zs = false := by unfold okLine; rw [decide_eq_false hok]; rfl
    have hDf : Keep (D = false) := ⟨by rw [← hD.out]; exact hd⟩
    clear hc hd
    have hok' : N < 1 ∨ 1000 < N ∨ zs.length < 1 ∨ 60 < zs.length := by omega
    clear hok
    go_enter Try.func66, Try.ntmps66
    rcases hok' with h | h | h | h <;> go_wp2
    all_goals go_ret
    all_goals exact ⟨by rw [hDf.out]; rfl, rfl⟩
end Go.Proofs.Ytifbiamfandjnaa
