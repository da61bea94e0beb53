import Derived.Test.YtbmfipjnfbnjgaaLawCurtailed
set_option linter.unusedSimpArgs false
set_option linter.unusedVariables false
namespace Go.Proofs.Ytbmfipjnfbnjgaa
open Go Go.Proofs Go.RowKit Go.Sample Go.Seq
/-- A double plan for a lot of N pieces. -/
def TwOk (N n1 c1 r1 n2 c2 : Int) : Prop := 1 ≤ n1 ∧ n1 ≤ N ∧ 1 ≤ n2 ∧ n2 ≤ N - n1 ∧ 0 ≤ c1 ∧ c1 ≤ n1 ∧ c1 + 1 < r1 ∧ r1 ≤ n1 + 1 ∧ r1 - 1 ≤ c2 ∧ c2 < n1 + n2
instance (N n1 c1 r1 n2 c2 : Int) : Decidable (TwOk N n1 c1 r1 n2 c2) := by unfold TwOk; infer_instance
def twV (n1 c1 r1 n2 c2 : Int) : Value := .agg #[.int .i64 n1, .int .i64 c1, .int .i64 r1, .int .i64 n2, .int .i64 c2]
set_option maxHeartbeats 1000000 in
set_option maxRecDepth 100000 in
theorem isFor_any {N n1 c1 r1 n2 c2 : Int} (hN : 1 ≤ N ∧ N ≤ 36) (w : World) :
    Calls Try.prog 71 #[twV n1 c1 r1 n2 c2, .int .i64 N] w fun e w' => e = .returned (.bool (decide (TwOk N n1 c1 r1 n2 c2))) ∧ Below w.heap.size w w' := by
  obtain ⟨D, hD⟩ : ∃ D, Keep (decide (TwOk N n1 c1 r1 n2 c2) = D) := ⟨_, ⟨rfl⟩⟩
  rw [hD.out]
  have hbx : Below w.heap.size w (w.alloc (.cells #[.int .i64 n1, .int .i64 c1, .int .i64 r1, .int .i64 n2, .int .i64 c2] 102)) := (Below.refl _ _).alloc (Nat.le_refl _) _
  unfold twV
  by_cases a1 : n1 < 1
  · have hF : D = false := by rw [← hD.out]; exact decide_eq_false (fun h => by unfold TwOk at h; omega)
    go_enter Try.func71, Try.ntmps71
    go_wp2
    go_ret
    exact ⟨by first | rfl | (rw [hF]; rfl), hbx⟩
  by_cases a2 : N < n1
  · have hF : D = false := by rw [← hD.out]; exact decide_eq_false (fun h => by unfold TwOk at h; omega)
    go_enter Try.func71, Try.ntmps71
    go_wp2
    go_ret
    exact ⟨by first | rfl | (rw [hF]; rfl), hbx⟩
  by_cases a3 : n2 < 1
  · have hF : D = false := by rw [← hD.out]; exact decide_eq_false (fun h => by unfold TwOk at h; omega)
    go_enter Try.func71, Try.ntmps71
    go_wp2
    go_ret
    exact ⟨by first | rfl | (rw [hF]; rfl), hbx⟩
  have k1 : IntKind.i64.wrap (N - n1) = N - n1 := IntWalk.i64_in _ (by omega)
  by_cases a4 : N - n1 < n2
  · have hF : D = false := by rw [← hD.out]; exact decide_eq_false (fun h => by unfold TwOk at h; omega)
    go_enter Try.func71, Try.ntmps71
    go_wp2
    go_ret
    exact ⟨by first | rfl | (rw [hF]; rfl), hbx⟩
  by_cases a5 : c1 < 0
  · have hF : D = false := by rw [← hD.out]; exact decide_eq_false (fun h => by unfold TwOk at h; omega)
    go_enter Try.func71, Try.ntmps71
    go_wp2
    go_ret
    exact ⟨by first | rfl | (rw [hF]; rfl), hbx⟩
  by_cases a6 : n1 < c1
  · have hF : D = false := by rw [← hD.out]; exact decide_eq_false (fun h => by unfold TwOk at h; omega)
    go_enter Try.func71, Try.ntmps71
    go_wp2
    go_ret
    exact ⟨by first | rfl | (rw [hF]; rfl), hbx⟩
  have k2 : IntKind.i64.wrap (c1 + 1) = c1 + 1 := IntWalk.i64_in _ (by omega)
  by_cases a7 : r1 ≤ c1 + 1
  · have hF : D = false := by rw [← hD.out]; exact decide_eq_false (fun h => by unfold TwOk at h; omega)
    go_enter Try.func71, Try.ntmps71
    go_wp2
    go_ret
    exact ⟨by first | rfl | (rw [hF]; rfl), hbx⟩
  have k3 : IntKind.i64.wrap (n1 + 1) = n1 + 1 := IntWalk.i64_in _ (by omega)
  by_cases a8 : n1 + 1 < r1
  · have hF : D = false := by rw [← hD.out]; exact decide_eq_false (fun h => by unfold TwOk at h; omega)
    go_enter Try.func71, Try.ntmps71
    go_wp2
    go_ret
    exact ⟨by first | rfl | (rw [hF]; rfl), hbx⟩
  have k4 : IntKind.i64.wrap (r1 - 1) = r1 - 1 := IntWalk.i64_in _ (by omega)
  have k5 : IntKind.i64.wrap (n1 + n2) = n1 + n2 := IntWalk.i64_in _ (by omega)
  by_cases a9 : r1 - 1 ≤ c2
  · by_cases a10 : c2 < n1 + n2
    · have hF : D = true := by rw [← hD.out]; exact decide_eq_true (by unfold TwOk; omega)
      go_enter Try.func71, Try.ntmps71
      go_wp2
      go_ret
      exact ⟨by first | rfl | (rw [hF]; rfl), hbx⟩
    · have hF : D = false := by rw [← hD.out]; exact decide_eq_false (fun h => by unfold TwOk at h; omega)
      go_enter Try.func71, Try.ntmps71
      go_wp2
      go_ret
      exact ⟨by first | rfl | (rw [hF]; rfl), hbx⟩
  · have hF : D = false := by rw [← hD.out]; exact decide_eq_false (fun h => by unfold TwOk at h; omega)
    go_enter Try.func71, Try.ntmps71
    go_wp2
    go_ret
    exact ⟨by first | rfl | (rw [hF]; rfl), hbx⟩
end Go.Proofs.Ytbmfipjnfbnjgaa
