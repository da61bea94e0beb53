import Derived.Test.YtifbiamfandjnaaLineAny
import Derived.Test.YtifbiamfandjnaaRefFrac
set_option linter.unusedSimpArgs false
set_option linter.unusedVariables false
namespace Go.Proofs.Ytifbiamfandjnaa
open Go Go.Proofs Go.RowKit
theorem points_any {N : Int} {v : Value} {zs : List Int} {w : World} (hv : IntsAt w v zs) (hl : zs.length ≤ 100000) :
    Calls Try.prog 18 #[.int .i64 N, v] w fun e w' => e = .returned (.bool (okLine N zs)) ∧ w' = w := by
  obtain ⟨A, cap, rfl, hc⟩ := hv
  obtain ⟨D, hD⟩ : ∃ D, Keep (okLine N zs = D) := ⟨_, ⟨rfl⟩⟩
  rw [hD.out]
  go_enter Try.func18, Try.ntmps18
  go_wp2
  go_loop [5] (fun i => ∃ k : Nat, k ≤ zs.length ∧ i = .int .i64 k ∧ (zs.take k).all (fun z => decide (0 ≤ z ∧ z < N)) = true) (fun i => zs.length - (intOf i).toNat)
  case atStart => exact ⟨0, by omega, rfl, by simp⟩
  case round =>
    obtain ⟨k, hk, rfl, hall⟩ := hrel
    by_cases hlt : k < zs.length
    · obtain ⟨g, rfl, h1⟩ := hc k hlt
      have hm := getz hlt
      have hallk : (0 ≤ zs.getD k 0 ∧ zs.getD k 0 < N) → (zs.take (k + 1)).all (fun z => decide (0 ≤ z ∧ z < N)) = true := fun h => by
        rw [takez hlt, List.all_append, hall]; simpa using h
      have hno : ¬ (0 ≤ zs.getD k 0 ∧ zs.getD k 0 < N) → D = false := fun h => by
        rw [← hD.out]; unfold okLine
        have : zs.all (fun z => decide (0 ≤ z ∧ z < N)) = false := by
          rw [List.all_eq_false]; exact ⟨_, hm, by simpa using h⟩
        rw [this, Bool.and_false]
      clear hc hm hall
      generalize zs.getD k 0 = z at h1 hallk hno
      by_cases hz : 0 ≤ z ∧ z < N
      · have hk2 := hallk hz
        obtain ⟨hz1, hz2⟩ := hz
        clear hallk hno
        go_wp2
        exact ⟨⟨k + 1, by omega, by go_num, hk2⟩, by simp [intOf]; omega⟩
      · have hDf := Keep.mk (hno hz)
        clear hallk hno
        rcases Int.lt_or_le z 0 with h | h
        · clear hz
          go_wp2
          all_goals go_ret
          all_goals exact ⟨by rw [hDf.out]; rfl, rfl⟩
        · have hz2 : N ≤ z := by omega
          clear hz
          go_wp2
          all_goals go_ret
          all_goals exact ⟨by rw [hDf.out]; rfl, rfl⟩
    · have : k = zs.length := by omega
      subst this
      rw [List.take_length] at hall
      have hDt : Keep (D = decide (1 ≤ N ∧ N ≤ 1000 ∧ 1 ≤ zs.length ∧ zs.length ≤ 60)) := ⟨by rw [← hD.out]; unfold okLine; rw [hall, Bool.and_true]⟩
      clear hc hall
      by_cases h1 : 1 ≤ N
      · by_cases h2 : N ≤ 1000
        · by_cases h3 : 1 ≤ zs.length
          · have hD2 : Keep (D = decide ((zs.length : Int) ≤ 60)) := ⟨by rw [hDt.out, decide_eq_decide]; omega⟩
            clear hDt
            go_wp2
            go_ret
            exact ⟨by rw [hD2.out]; rfl, rfl⟩
          · have hD2 : Keep (D = false) := ⟨by rw [hDt.out, decide_eq_false_iff_not]; omega⟩
            clear hDt
            go_wp2
            go_ret
            exact ⟨by rw [hD2.out]; rfl, rfl⟩
        · have hD2 : Keep (D = false) := ⟨by rw [hDt.out, decide_eq_false_iff_not]; omega⟩
          clear hDt
          go_wp2
          go_ret
          exact ⟨by rw [hD2.out]; rfl, rfl⟩
      · have hD2 : Keep (D = false) := ⟨by rw [hDt.out, decide_eq_false_iff_not]; omega⟩
        clear hDt
        go_wp2
        go_ret
        exact ⟨by rw [hD2.out]; rfl, rfl⟩
theorem below_count {v : Value} {zs : List Int} {t : Nat} {w : World} (hv : IntsAt w v zs) (hl : zs.length ≤ 60) (ht : t ≤ 100000) :
    Calls Try.prog 58 #[v, .int .i64 t] w fun e w' => e = .returned (.int .i64 (belowC zs t : Nat)) ∧ w' = w := by
  obtain ⟨A, cap, rfl, hc⟩ := hv
  obtain ⟨D, hD⟩ : ∃ D, Keep (belowC zs t = D) := ⟨_, ⟨rfl⟩⟩
  rw [hD.out]
  go_enter Try.func58, Try.ntmps58
  go_wp2
  go_loop [5, 6] (fun x i => ∃ k c : Nat, k ≤ zs.length ∧ i = .int .i64 k ∧ x = .int .i64 c ∧ Keep (belowC (zs.take k) t = c) ∧ c ≤ k) (fun _ i => zs.length - (intOf i).toNat)
  case atStart => exact ⟨0, 0, by omega, rfl, rfl, ⟨rfl⟩, by omega⟩
  case round =>
    obtain ⟨k, c, hk, rfl, rfl, hcnt, hck⟩ := hrel
    by_cases hlt : k < zs.length
    · obtain ⟨g, rfl, h1⟩ := hc k hlt
      have hpush : Keep (belowC (zs.take (k + 1)) t = belowC (zs.take k) t + if zs.getD k 0 < (t : Int) then 1 else 0) := ⟨by
        rw [takez hlt]; unfold belowC; rw [List.filter_append, List.length_append]
        generalize zs.getD k 0 = z
        by_cases h : z < (t : Int) <;> simp [List.filter, h]⟩
      rw [hcnt.out] at hpush
      clear hc
      generalize zs.getD k 0 = z at h1 hpush
      by_cases hz : z < (t : Int)
      · have hp2 : Keep (belowC (zs.take (k + 1)) t = c + 1) := ⟨by rw [hpush.out, if_pos hz]⟩
        clear hpush
        go_wp2
        exact ⟨⟨k + 1, c + 1, by omega, by go_num, by go_num, hp2, by omega⟩, by simp [intOf]; omega⟩
      · have hp2 : Keep (belowC (zs.take (k + 1)) t = c) := ⟨by rw [hpush.out, if_neg hz]; rfl⟩
        clear hpush
        go_wp2
        exact ⟨⟨k + 1, c, by omega, by go_num, rfl, hp2, by omega⟩, by simp [intOf]; omega⟩
    · have : k = zs.length := by omega
      subst this
      have he : Keep (c = D) := ⟨by rw [← hcnt.out, List.take_length, hD.out]⟩
      clear hc
      go_wp2
      go_ret
      exact ⟨by rw [← he.out]; rfl, rfl⟩
theorem off_any {a b : Int} (ha : -1000000 ≤ a ∧ a ≤ 1000000) (hb : -1000000 ≤ b ∧ b ≤ 1000000) (w : World) :
    Calls Try.prog 57 #[.int .i64 a, .int .i64 b] w fun e w' => e = .returned (.int .i64 ((a - b).natAbs : Nat)) ∧ w' = w := by
  obtain ⟨D, hD⟩ : ∃ D : Int, Keep ((((a - b).natAbs : Nat) : Int) = D) := ⟨_, ⟨rfl⟩⟩
  rw [hD.out]
  have hDD := hD.out
  have h1 : a - b < b - a → D = b - a := by omega
  have h2 : ¬ a - b < b - a → D = a - b := by omega
  clear hDD
  have e1 : IntKind.i64.wrap (a - b) = a - b := IntWalk.i64_in _ (by omega)
  have e2 : IntKind.i64.wrap (b - a) = b - a := IntWalk.i64_in _ (by omega)
  have k1 := Keep.mk h1
  have k2 := Keep.mk h2
  clear h1 h2
  go_enter Try.func57, Try.ntmps57
  by_cases h : a - b < b - a
  · go_wp2
    all_goals go_ret
    all_goals exact ⟨by rw [k1.out (by omega)]; rfl, rfl⟩
  · go_wp2
    all_goals go_ret
    all_goals exact ⟨by rw [k2.out (by omega)]; rfl, rfl⟩
end Go.Proofs.Ytifbiamfandjnaa
