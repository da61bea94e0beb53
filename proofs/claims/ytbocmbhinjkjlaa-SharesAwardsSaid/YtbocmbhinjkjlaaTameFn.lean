/- For the laws of awards: fit and tame of the law, Difference of the program. -/
import Derived.Test.YtbocmbhinjkjlaaSumsPre
set_option linter.unusedSimpArgs false
set_option linter.unusedVariables false
namespace Go.Proofs.Ytbocmbhinjkjlaa
open Go Go.Proofs Go.RowKit Go.Seq Go.ChangeShapes Go.WideShapes Go.ChangeAt Go.Joins
set_option maxHeartbeats 1000000 in
set_option maxRecDepth 100000 in
theorem fit_any {v : Value} {l : Pts} {w : World} (hv : FracsO w v l) (hw : Wide l) (hl : l.length ≤ 100000) (hf : ∀ z ∈ l, withinB z.1 z.2 0 1073741824 1073741824 = true) :
    Calls Try.prog 56 #[v] w fun e w' => e = .returned (.bool true) ∧ Below w.heap.size w w' := by
  obtain ⟨A, ca, rfl, hca⟩ := hv
  have haK := Keep.mk hca
  have hwK := Keep.mk hw
  have hfK := Keep.mk hf
  clear hca hw hf
  go_enter Try.func56, Try.ntmps56
  go_wp2
  go_loopw [3] (fun i wr => ∃ k : Nat, k ≤ l.length ∧ i = .int .i64 k ∧ Below w.heap.size w wr) (fun i _ => l.length - (intOf i).toNat)
  case atStart => exact ⟨0, by omega, rfl, Below.refl _ _⟩
  case round =>
    obtain ⟨k, hk, rfl, hbw⟩ := hrel
    have hbz := hbw.size
    by_cases hlt : k < l.length
    · obtain ⟨ga, oa, rfl, ha1, ha2⟩ := haK.out k hlt
      have ha1 := cell_below ha1 hbw
      have ha2 := cell_below ha2 hbw
      obtain ⟨i1, i2⟩ := hwK.out _ (getp hlt)
      have q := fun w => within_any i1 i2 0 1073741824 1073741824 (by omega) w
      rw [hfK.out _ (getp hlt)] at q
      generalize l.getD k (0, 0) = z at *
      obtain ⟨n, d⟩ := z
      simp only at ha1 ha2 q
      unfold fracV at q
      clear i1 i2
      go_wp2_with (go_at_call 72; (with_reducible refine (q _).mono ?_); rintro e w7 ⟨rfl, hb7⟩)
      exact ⟨⟨k + 1, by omega, by go_num, hbw.trans (hb7.mono hbz)⟩, by simp [intOf]; omega⟩
    · obtain rfl : k = l.length := by omega
      go_wp2
      go_ret
      exact ⟨rfl, hbw⟩
set_option maxHeartbeats 1000000 in
theorem diff_any {a b c d : Int} (h : SumOk a b (-c) d) (hc : -9223372036854775808 < c ∧ c < 9223372036854775808) (w : World) :
    Calls Try.prog 113 #[fracV a b, fracV c d] w fun e w' => e = .returned (fracV (redN (a * d + -c * b) (b * d)) (redD (a * d + -c * b) (b * d))) ∧ Below w.heap.size w w' := by
  have q := fun w => sum_any h w
  obtain ⟨nc, hnc⟩ : ∃ x, Keep (-c = x) := ⟨_, ⟨rfl⟩⟩
  have wn : IntKind.i64.wrap (-c) = nc := by rw [← hnc.out]; exact IntWalk.i64_in _ (by omega)
  rw [hnc.out] at q ⊢
  generalize redN (a * d + nc * b) (b * d) = x at *
  generalize redD (a * d + nc * b) (b * d) = y at *
  unfold fracV at *
  clear h hc hnc
  go_enter Try.func113, Try.ntmps113
  go_wp2_with (go_at_call 85; refine (q _).mono ?_; rintro e w5 ⟨rfl, hb⟩
               have o4 := (Own2.at (W := (w.alloc (.cells #[.int .i64 a, .int .i64 b] 37)).alloc (.cells #[.int .i64 c, .int .i64 d] 37)) (g := w.heap.size + 1 + 1) (by simp) (.int .i64 0) (.int .i64 0) 37).after hb
               have hbk : Below w.heap.size w w5 := ((((Below.refl _ w).alloc (Nat.le_refl _) _).alloc (by simp) _).alloc (by simp; omega) _).trans (hb.mono (by simp; omega))
               obtain ⟨c0, c1, f0, f1⟩ := o4
               clear hb)
  refine bodyPost_ret (v := .agg #[.int .i64 x, .int .i64 y]) (by simp [results, Try.results113, go_sem]; go_simp) rfl ?_
  exact ⟨rfl, (hbk.setCell (p := ⟨w.heap.size + 1 + 1, 0, none⟩) (by simp; omega) _).setCell (p := ⟨w.heap.size + 1 + 1, 1, none⟩) (by simp; omega) _⟩
end Go.Proofs.Ytbocmbhinjkjlaa
