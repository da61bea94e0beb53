/- Heirs that are none, in the program; claims in the reference. -/
import Derived.Test.YtbocmbhinjkjlaaHeirs
set_option linter.unusedSimpArgs false
set_option linter.unusedVariables false
namespace Go.Proofs.Ytbocmbhinjkjlaa
open Go Go.Proofs Go.RowKit Go.Seq
theorem sum_bound' {zs : List Int} : ∀ k, (∀ i, i < k → 0 ≤ zs.getD i 0 ∧ zs.getD i 0 ≤ 1000) → 0 ≤ (zs.take k).sum ∧ (zs.take k).sum ≤ 1000 * (k : Int) := by
  intro k
  induction k with
  | zero => intro _; simp
  | succ k ih =>
    intro h
    have ih := ih fun i hi => h i (by omega)
    rcases Nat.lt_or_ge k zs.length with hk | hk
    · rw [sum_take hk]; have := h k (by omega); omega
    · rw [List.take_of_length_le (by omega)]; rw [List.take_of_length_le hk] at ih; omega
theorem all_of_getD {zs : List Int} {p : Int → Prop} (h : ∀ i, i < zs.length → p (zs.getD i 0)) : ∀ z ∈ zs, p z := by
  intro z hz
  obtain ⟨i, hi, rfl⟩ := List.mem_iff_getElem.1 hz
  have := h i hi
  rwa [List.getD_eq_getElem?_getD, List.getElem?_eq_getElem hi] at this
set_option maxHeartbeats 2000000 in
set_option maxRecDepth 100000 in
theorem readHeirs_no {v : Value} {zs : List Int} {e : Int} {w : World} (hv : IntsO w v zs) (hV : ¬ Valid zs) :
    Calls Try.prog 62 #[v, .int .i64 e] w fun r w' => r = .returned (.tuple #[.pointer none, .bool false]) ∧ Below w.heap.size w w' := by
  obtain ⟨A, cap, rfl, hcell⟩ := hv
  by_cases h1 : 1 ≤ zs.length
  case neg =>
    have h1' : (zs.length : Int) < 1 := by omega
    go_enter Try.func62, Try.ntmps62
    go_wp2
    go_ret2
    exact ⟨rfl, Below.refl _ _⟩
  by_cases h2 : zs.length ≤ 10
  case neg =>
    have h1' : ¬ (zs.length : Int) < 1 := by omega
    have h2' : (10 : Int) < (zs.length : Int) := by omega
    go_enter Try.func62, Try.ntmps62
    go_wp2
    go_ret2
    exact ⟨rfl, Below.refl _ _⟩
  have hbad : ¬ ∀ i, i < zs.length → 0 ≤ zs.getD i 0 ∧ zs.getD i 0 ≤ 1000 := fun h => hV ⟨h1, h2, all_of_getD h⟩
  obtain ⟨wa, hwa⟩ : ∃ wa, w.alloc (.cells #[.slice A zs.length cap, .int .i64 e, .int .i64 0] 122) = wa := ⟨_, rfl⟩
  have hba : Below w.heap.size w wa := by rw [← hwa]; exact (Below.refl _ _).alloc (Nat.le_refl _) _
  have hga : BlkAt wa w.heap.size #[.slice A zs.length cap, .int .i64 e, .int .i64 0] 122 := by rw [← hwa]; exact BlkAt.new _ _ _
  have h1' : ¬ ((zs.length : Int) < 1) := by omega
  have h2' : ¬ ((10 : Int) < (zs.length : Int)) := by omega
  go_enter Try.func62, Try.ntmps62
  go_wp2
  try rw [hwa]
  go_loopw [23] (fun i wr => ∃ k : Nat, k ≤ zs.length ∧ i = .int .i64 k ∧ Below w.heap.size w wr ∧ BlkAt wr w.heap.size #[.slice A zs.length cap, .int .i64 e, .int .i64 (zs.take k).sum] 122 ∧ Keep (∀ i, i < k → 0 ≤ zs.getD i 0 ∧ zs.getD i 0 ≤ 1000)) (fun i _ => zs.length - (intOf i).toNat)
  case atStart => exact ⟨0, by omega, rfl, hba, by simpa using hga, ⟨fun i hi => by omega⟩⟩
  case round =>
    obtain ⟨k, hk, rfl, hbw, hg, hall⟩ := hrel
    by_cases hlt : k < zs.length
    · obtain ⟨g, o, rfl, hz⟩ := hcell k hlt
      have hz := cell_below hz hbw
      have hs := sum_bound' k hall.out
      have c2 := hg.cell 2
      have f2 := hg.free 2
      simp only [List.getElem?_toArray, List.getElem?_cons_succ, List.getElem?_cons_zero] at c2
      have q := fun w => isClaim_any (zs.getD k 0) w
      have hst := Keep.mk (sum_take hlt)
      by_cases hzb : 0 ≤ zs.getD k 0 ∧ zs.getD k 0 ≤ 1000
      · rw [show claimB (zs.getD k 0) = true from decide_eq_true hzb] at q
        have e1 : IntKind.i64.wrap ((zs.take k).sum + zs.getD k 0) = (zs.take k).sum + zs.getD k 0 := IntWalk.i64_in _ (by omega)
        have hall2 : Keep (∀ i, i < k + 1 → 0 ≤ zs.getD i 0 ∧ zs.getD i 0 ≤ 1000) := ⟨fun i hi => by
          rcases Nat.lt_or_ge i k with h | h
          · exact hall.out i h
          · obtain rfl : i = k := by omega
            exact hzb⟩
        generalize hzz : zs.getD k 0 = z at hz q e1 hst
        generalize (zs.take k).sum = S at *
        clear hs hzb hall hbad hcell hzz
        go_wp2_with (go_at_call 90; refine (q _).mono ?_; rintro e w5 ⟨rfl, rfl⟩)
        refine ⟨⟨k + 1, by omega, by go_num, hbw.setCell (p := ⟨w.heap.size, 2, none⟩) (Nat.le_refl _) _, ?_, hall2⟩, by simp [intOf]; omega⟩
        rw [hst.out]
        exact hg.set 2 _
      · rw [show claimB (zs.getD k 0) = false from decide_eq_false hzb] at q
        generalize zs.getD k 0 = z at hz q
        clear hs hzb hall hbad hcell hst
        go_wp2_with (go_at_call 90; refine (q _).mono ?_; rintro e w5 ⟨rfl, rfl⟩)
        go_ret2
        exact ⟨rfl, hbw⟩
    · exfalso
      obtain rfl : k = zs.length := by omega
      exact hbad hall.out
theorem total_any {v : Value} {zs : List Int} {w : World} (hv : IntsO w v zs) (hl : zs.length ≤ 10) (hc : ∀ z ∈ zs, 0 ≤ z ∧ z ≤ 1000) :
    Calls Try.prog 65 #[v] w fun r w' => r = .returned (.int .i64 zs.sum) ∧ w' = w := by
  obtain ⟨A, cap, rfl, hcell⟩ := hv
  have hb := sum_bound hc
  obtain ⟨SS, hS⟩ : ∃ S, Keep (zs.sum = S) := ⟨_, ⟨rfl⟩⟩
  rw [hS.out]
  go_enter Try.func65, Try.ntmps65
  go_wp2
  go_loop [3, 4] (fun s i => ∃ k : Nat, k ≤ zs.length ∧ s = .int .i64 (zs.take k).sum ∧ i = .int .i64 k) (fun _ i => zs.length - (intOf i).toNat)
  case atStart => exact ⟨0, by omega, by simp, rfl⟩
  case round =>
    obtain ⟨k, hk, rfl, rfl⟩ := hrel
    by_cases hlt : k < zs.length
    · obtain ⟨g, o, rfl, hz⟩ := hcell k hlt
      have hs := hb k
      have hzb := hc _ (getz hlt)
      have e1 : IntKind.i64.wrap ((zs.take k).sum + zs.getD k 0) = (zs.take k).sum + zs.getD k 0 := IntWalk.i64_in _ (by omega)
      have hst := Keep.mk (sum_take hlt)
      generalize zs.getD k 0 = z at *
      generalize (zs.take k).sum = S at *
      clear hs hb hc hzb
      go_wp2
      exact ⟨⟨k + 1, by omega, by rw [hst.out], by go_num⟩, by simp [intOf]; omega⟩
    · obtain rfl : k = zs.length := by omega
      rw [List.take_length, hS.out]
      clear hb hc hcell
      go_wp2
      go_ret
      exact ⟨rfl, rfl⟩
instance (zs : List Int) : Decidable (Valid zs) := by unfold Valid; infer_instance
theorem claims_any {v : Value} {zs : List Int} {e : Int} {w : World} (hv : IntsO w v zs) :
    Calls Try.prog 24 #[v, .int .i64 e] w fun r w' => r = .returned (.bool (decide (Valid zs ∧ 0 ≤ e ∧ e ≤ zs.sum))) ∧ w' = w := by
  obtain ⟨D, hD⟩ : ∃ D, Keep (decide (Valid zs ∧ 0 ≤ e ∧ e ≤ zs.sum) = D) := ⟨_, ⟨rfl⟩⟩
  rw [hD.out]
  have hvv := hv
  obtain ⟨A, cap, rfl, hcell⟩ := hv
  by_cases h1 : 1 ≤ zs.length
  case neg =>
    have h1' : (zs.length : Int) < 1 := by omega
    have hf : Keep (D = false) := ⟨by rw [← hD.out]; exact decide_eq_false fun h => h1 h.1.1⟩
    go_enter Try.func24, Try.ntmps24
    go_wp2
    go_ret
    exact ⟨by rw [hf.out]; rfl, rfl⟩
  by_cases h2 : zs.length ≤ 10
  case neg =>
    have h1' : ¬ (zs.length : Int) < 1 := by omega
    have h2' : (10 : Int) < (zs.length : Int) := by omega
    have hf : Keep (D = false) := ⟨by rw [← hD.out]; exact decide_eq_false fun h => h2 h.1.2.1⟩
    go_enter Try.func24, Try.ntmps24
    go_wp2
    go_ret
    exact ⟨by rw [hf.out]; rfl, rfl⟩
  have h1' : ¬ ((zs.length : Int) < 1) := by omega
  have h2' : ¬ ((10 : Int) < (zs.length : Int)) := by omega
  go_enter Try.func24, Try.ntmps24
  go_wp2
  go_loop [5] (fun i => ∃ k : Nat, k ≤ zs.length ∧ i = .int .i64 k ∧ Keep (∀ i, i < k → 0 ≤ zs.getD i 0 ∧ zs.getD i 0 ≤ 1000)) (fun i => zs.length - (intOf i).toNat)
  case atStart => exact ⟨0, by omega, rfl, ⟨fun i hi => by omega⟩⟩
  case round =>
    obtain ⟨k, hk, rfl, hall⟩ := hrel
    by_cases hlt : k < zs.length
    · obtain ⟨g, o, rfl, hz⟩ := hcell k hlt
      by_cases hz1 : zs.getD k 0 < 0
      · have hf : Keep (D = false) := ⟨by rw [← hD.out]; exact decide_eq_false fun h => by have := h.1.2.2 _ (getz hlt); omega⟩
        generalize zs.getD k 0 = z at *
        clear hall hcell hvv
        go_wp2
        go_ret
        exact ⟨by rw [hf.out]; rfl, rfl⟩
      · by_cases hz2 : 1000 < zs.getD k 0
        · have hf : Keep (D = false) := ⟨by rw [← hD.out]; exact decide_eq_false fun h => by have := h.1.2.2 _ (getz hlt); omega⟩
          generalize zs.getD k 0 = z at *
          clear hall hcell hvv
          go_wp2
          go_ret
          exact ⟨by rw [hf.out]; rfl, rfl⟩
        · have hall2 : Keep (∀ i, i < k + 1 → 0 ≤ zs.getD i 0 ∧ zs.getD i 0 ≤ 1000) := ⟨fun i hi => by
            rcases Nat.lt_or_ge i k with h | h
            · exact hall.out i h
            · obtain rfl : i = k := by omega
              omega⟩
          generalize zs.getD k 0 = z at hz hz1 hz2
          clear hall hcell hvv
          go_wp2
          exact ⟨⟨k + 1, by omega, by go_num, hall2⟩, by simp [intOf]; omega⟩
    · obtain rfl : k = zs.length := by omega
      have hA : ∀ z ∈ zs, 0 ≤ z ∧ z ≤ 1000 := all_of_getD hall.out
      have q := total_any hvv h2 hA
      have hD2 : Keep (decide (0 ≤ e ∧ e ≤ zs.sum) = D) := ⟨by rw [← hD.out]; exact decide_eq_decide.2 ⟨fun h => ⟨⟨h1, h2, hA⟩, h⟩, fun h => h.2⟩⟩
      generalize zs.sum = S at *
      clear hall hcell hA hvv
      by_cases k1 : 0 ≤ e
      · have hDG : Keep (decide (e ≤ S) = D) := ⟨by rw [← hD2.out]; by_cases h : e ≤ S <;> simp [h, k1]⟩
        go_wp2_with (go_at_call 65; refine q.mono ?_; rintro e w5 ⟨rfl, rfl⟩)
        go_ret
        exact ⟨by rw [← hDG.out]; rfl, rfl⟩
      · have hDG : Keep (D = false) := ⟨by rw [← hD2.out]; simp [k1]⟩
        go_wp2
        go_ret
        exact ⟨by rw [hDG.out]; rfl, rfl⟩
end Go.Proofs.Ytbocmbhinjkjlaa
