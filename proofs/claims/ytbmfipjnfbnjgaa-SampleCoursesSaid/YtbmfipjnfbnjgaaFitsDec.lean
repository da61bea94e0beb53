import Derived.Test.YtbmfipjnfbnjgaaInts
import Derived.Test.YtbmfipjnfbnjgaaOutcome
import Derived.Laws.MakeOwn
set_option linter.unusedSimpArgs false
set_option linter.unusedVariables false
namespace Go.Proofs.Ytbmfipjnfbnjgaa
open Go Go.Proofs Go.RowKit Go.Sample Go.Seq
def dec (a r : Int) (k : Nat) : Int := if (k : Int) ≤ a then 1 else if r ≤ (k : Int) then -1 else 0
set_option maxHeartbeats 1000000 in
set_option maxRecDepth 100000 in
theorem decide_any {c : Crs} {w : World} {i k : Nat} (hc : CrsIn w c) (h1 : 1 ≤ i) (hi : i ≤ c.L) (hL : c.L ≤ 1000) :
    Calls Try.prog 60 #[c.val, .int .i64 i, .int .i64 k] w fun e w' => e = .returned (.int .i64 (dec (c.A (i - 1)) (c.R (i - 1)) k)) ∧ Below w.heap.size w w' := by
  obtain ⟨m, hm⟩ : ∃ m, i = m + 1 := ⟨i - 1, by omega⟩
  have hbx : Below w.heap.size w (w.alloc (.cells #[c.sa, c.sr] 42)) := (Below.refl _ _).alloc (Nat.le_refl _) _
  obtain ⟨⟨d0, d1, _, _⟩, hin⟩ := CrsBox.new hc 42
  have c0 := hin.las m (by omega)
  have c1 := hin.lrs m (by omega)
  have wm : IntKind.i64.wrap ((i : Int) - 1) = (m : Int) := by rw [IntWalk.i64_in _ (by omega)]; omega
  have hmL : (m : Int) < (c.L : Int) := by omega
  have hmL' : m < c.L := by omega
  rw [show i - 1 = m by omega]
  generalize c.A m = a at *
  generalize c.R m = r at *
  unfold Crs.val Crs.sa Crs.sr at *
  clear hm hc hin
  unfold dec
  by_cases ha : (k : Int) ≤ a
  · rw [if_pos ha]
    go_enter Try.func60, Try.ntmps60
    go_wp2
    go_ret
    exact ⟨rfl, hbx⟩
  · rw [if_neg ha]
    by_cases hr : r ≤ (k : Int)
    · rw [if_pos hr]
      go_enter Try.func60, Try.ntmps60
      go_wp2
      go_ret
      exact ⟨rfl, hbx⟩
    · rw [if_neg hr]
      go_enter Try.func60, Try.ntmps60
      go_wp2
      go_ret
      exact ⟨rfl, hbx⟩
theorem below_set2 {B : Nat} {w W : World} {g h : Nat} (hb : Below B w W) (hg : B ≤ g) (hh : B ≤ h) (u0 u1 u2 u3 : Value) : Below B w ((((W.setCell ⟨g, 0, none⟩ u0).setCell ⟨g, 1, none⟩ u1).setCell ⟨h, 0, none⟩ u2).setCell ⟨h, 1, none⟩ u3) :=
  (((hb.setCell (p := ⟨g, 0, none⟩) hg _).setCell (p := ⟨g, 1, none⟩) hg _).setCell (p := ⟨h, 0, none⟩) hh _).setCell (p := ⟨h, 1, none⟩) hh _
end Go.Proofs.Ytbmfipjnfbnjgaa
set_option linter.unusedSimpArgs false
set_option linter.unusedVariables false
namespace Go.Proofs.Ytbmfipjnfbnjgaa
open Go Go.Proofs Go.RowKit Go.Sample
/-- Two lists of numbers that are a course for a lot of N pieces. -/
def FitAt (n : Nat) (a r : Int) : Prop := -1 ≤ a ∧ a ≤ (n : Int) + 1 ∧ -1 ≤ r ∧ r ≤ (n : Int) + 1 ∧ a < r
instance (n : Nat) (a r : Int) : Decidable (FitAt n a r) := by unfold FitAt; infer_instance
def FitOk (N : Int) (za zr : List Int) : Prop := zr.length = za.length ∧ 1 ≤ za.length ∧ (za.length : Int) ≤ N ∧ (∀ k, k < za.length → FitAt za.length (za.getD k 0) (zr.getD k 0)) ∧ zr.getD (za.length - 1) 0 = za.getD (za.length - 1) 0 + 1
instance (N : Int) (za zr : List Int) : Decidable (FitOk N za zr) := by unfold FitOk; infer_instance
set_option maxHeartbeats 2000000 in
set_option maxRecDepth 100000 in
theorem refFits_any {N : Int} {va vr : Value} {za zr : List Int} {w : World} (hN : 1 ≤ N ∧ N ≤ 36) (ha : IntsO w va za) (hr : IntsO w vr zr) (hla : za.length ≤ 100000) (hlr : zr.length ≤ 100000) :
    Calls Try.prog 28 #[.int .i64 N, .agg #[va, vr]] w fun e w' => e = .returned (.bool (decide (FitOk N za zr))) ∧ Below w.heap.size w w' := by
  obtain ⟨D, hD⟩ : ∃ D, Keep (decide (FitOk N za zr) = D) := ⟨_, ⟨rfl⟩⟩
  rw [hD.out]
  have hb1 : Below w.heap.size w (w.alloc (.cells #[va, vr] 42)) := (Below.refl _ _).alloc (Nat.le_refl _) _
  have ha1 := intsO_below ha hb1
  have hr1 := intsO_below hr hb1
  obtain ⟨x0, x1, x2, x3⟩ := Own2.new w va vr 42
  obtain ⟨w1, hw1⟩ : ∃ w1, w.alloc (.cells #[va, vr] 42) = w1 := ⟨_, rfl⟩
  rw [hw1] at hb1 ha1 hr1 x0 x1 x2 x3
  obtain ⟨A, cap, rfl, hca⟩ := ha1
  obtain ⟨A', cap', rfl, hcb⟩ := hr1
  clear ha hr
  obtain ⟨n, hn⟩ : ∃ n, Keep (za.length = n) := ⟨_, ⟨rfl⟩⟩
  rw [hn.out] at hla hca x0 hw1 ⊢
  by_cases hlen : ¬ zr.length = n
  · have hd : Keep (D = false) := ⟨by rw [← hD.out]; exact decide_eq_false (fun e => hlen (by rw [e.1, hn.out]))⟩
    have hne : ((zr.length : Int) == (n : Int)) = false := by rw [beq_eq_false_iff_ne]; intro h; exact hlen (by omega)
    clear hca hcb
    go_enter Try.func28, Try.ntmps28
    go_wp2
    go_ret
    exact ⟨by rw [hd.out]; rfl, hb1⟩
  have hlen : zr.length = n := by omega
  rw [hlen] at hlr hcb x1 hw1 ⊢
  by_cases h1 : n < 1
  · have hd : Keep (D = false) := ⟨by rw [← hD.out]; exact decide_eq_false (fun e => by have := e.2.1; rw [hn.out] at this; omega)⟩
    have h1' : (n : Int) < 1 := by omega
    clear hca hcb
    go_enter Try.func28, Try.ntmps28
    go_wp2
    go_ret
    exact ⟨by rw [hd.out]; rfl, hb1⟩
  by_cases h2 : N < (n : Int)
  · have hd : Keep (D = false) := ⟨by rw [← hD.out]; exact decide_eq_false (fun e => by have := e.2.2.1; rw [hn.out] at this; omega)⟩
    have h1' : ¬ (n : Int) < 1 := by omega
    clear hca hcb
    go_enter Try.func28, Try.ntmps28
    go_wp2
    go_ret
    exact ⟨by rw [hd.out]; rfl, hb1⟩
  have h1' : ¬ (n : Int) < 1 := by omega
  have hcak := Keep.mk hca
  have hcbk := Keep.mk hcb
  have wn : IntKind.i64.wrap ((n : Int) + 1) = (n : Int) + 1 := IntWalk.i64_in _ (by omega)
  clear hca hcb
  go_enter Try.func28, Try.ntmps28
  go_wp2
  go_loopw [6] (fun i wr => (∃ k : Nat, k ≤ n ∧ i = .int .i64 k ∧ Keep (∀ j, j < k → FitAt n (za.getD j 0) (zr.getD j 0))) ∧ ∃ q, wr = w1.drewN q) (fun i _ => n - (intOf i).toNat)
  case atStart => exact ⟨⟨0, by omega, rfl, ⟨fun j hj => by omega⟩⟩, 0, rfl⟩
  case round =>
    obtain ⟨⟨k, hk, rfl, hall⟩, q, rfl⟩ := hrel
    by_cases hlt : k < n
    · obtain ⟨g, o, rfl, c1⟩ := hcak.out k (by omega)
      obtain ⟨g', o', rfl, c2⟩ := hcbk.out k (by omega)
      have hlt' : (k : Int) < (n : Int) := by omega
      have hstep : Keep (FitAt n (za.getD k 0) (zr.getD k 0) → ∀ j, j < k + 1 → FitAt n (za.getD j 0) (zr.getD j 0)) := ⟨fun h j hj => by
        by_cases e : j = k
        · rw [e]; exact h
        · exact hall.out j (by omega)⟩
      have hno : Keep (¬ FitAt n (za.getD k 0) (zr.getD k 0) → D = false) := ⟨fun h => by rw [← hD.out]; exact decide_eq_false (fun e => h (by have := e.2.2.2.1 k (by rw [hn.out]; exact hlt); rwa [hn.out] at this))⟩
      have wk : IntKind.i64.wrap ((k : Int) + 1) = (k : Int) + 1 := IntWalk.i64_in _ (by omega)
      generalize za.getD k 0 = a at c1 hstep hno
      generalize zr.getD k 0 = r at c2 hstep hno
      by_cases f1 : a < -1
      · have hd : Keep (D = false) := ⟨hno.out (fun h => by unfold FitAt at h; omega)⟩
        go_wp2
        go_quiet (fail)
        go_wp2
        go_ret
        exact ⟨by rw [hd.out]; rfl, below_drewN hb1 _⟩
      by_cases f2 : (n : Int) + 1 < a
      · have hd : Keep (D = false) := ⟨hno.out (fun h => by unfold FitAt at h; omega)⟩
        go_wp2
        go_quiet (fail)
        go_wp2
        go_ret
        exact ⟨by rw [hd.out]; rfl, below_drewN hb1 _⟩
      by_cases f3 : r < -1
      · have hd : Keep (D = false) := ⟨hno.out (fun h => by unfold FitAt at h; omega)⟩
        go_wp2
        go_quiet (fail)
        go_wp2
        go_ret
        exact ⟨by rw [hd.out]; rfl, below_drewN hb1 _⟩
      by_cases f4 : (n : Int) + 1 < r
      · have hd : Keep (D = false) := ⟨hno.out (fun h => by unfold FitAt at h; omega)⟩
        go_wp2
        go_quiet (fail)
        go_wp2
        go_ret
        exact ⟨by rw [hd.out]; rfl, below_drewN hb1 _⟩
      by_cases f5 : r ≤ a
      · have hd : Keep (D = false) := ⟨hno.out (fun h => by unfold FitAt at h; omega)⟩
        go_wp2
        go_quiet (fail)
        go_wp2
        go_ret
        exact ⟨by rw [hd.out]; rfl, below_drewN hb1 _⟩
      have hok := hstep.out (by unfold FitAt; omega)
      have hokk := Keep.mk hok
      clear hok
      go_wp2
      go_quiet (fail)
      go_wp2
      exact ⟨⟨⟨k + 1, by omega, by go_num, hokk⟩, q + nq, by first | rfl | exact drewN_add _ _ _⟩, by simp [intOf]; omega⟩
    · obtain rfl : k = n := by omega
      have hlt' : ¬ (k : Int) < (k : Int) := by omega
      obtain ⟨m, hm⟩ : ∃ m, Keep (k = m + 1) := ⟨k - 1, ⟨by omega⟩⟩
      have hmk : m < k := by have := hm.out; omega
      have hf := hall.out m hmk
      obtain ⟨g, o, rfl, c1⟩ := hcak.out m hmk
      obtain ⟨g', o', rfl, c2⟩ := hcbk.out m hmk
      have wm : IntKind.i64.wrap ((k : Int) - 1) = (m : Int) := by rw [IntWalk.i64_in _ (by omega)]; have := hm.out; omega
      have hd : Keep (D = decide (zr.getD m 0 = za.getD m 0 + 1)) := ⟨by
        rw [← hD.out]
        refine decide_eq_decide.2 ⟨fun e => ?_, fun e => ⟨by rw [hlen, hn.out], by rw [hn.out]; omega, by rw [hn.out]; omega, fun j hj => ?_, ?_⟩⟩
        · have := e.2.2.2.2
          rwa [hn.out, show k - 1 = m by have := hm.out; omega] at this
        · rw [hn.out] at hj ⊢; exact hall.out j hj
        · rwa [hn.out, show k - 1 = m by have := hm.out; omega]⟩
      generalize za.getD m 0 = a at c1 hd hf
      generalize zr.getD m 0 = r at c2 hd hf
      have wa : IntKind.i64.wrap (a + 1) = a + 1 := IntWalk.i64_in _ (by unfold FitAt at hf; omega)
      have hmk' : (m : Int) < (k : Int) := by omega
      clear hf
      by_cases e : r = a + 1
      · have e1 : (r == a + 1) = true := by simpa using e
        have hd2 : Keep (D = true) := ⟨by rw [hd.out]; exact decide_eq_true e⟩
        clear e
        go_wp2
        go_quiet (fail)
        go_wp2
        go_ret
        exact ⟨by rw [hd2.out]; rfl, by first | exact below_drewN hb1 _ | exact below_drewN (below_drewN hb1 _) _⟩
      · have e1 : (r == a + 1) = false := by simpa using e
        have hd2 : Keep (D = false) := ⟨by rw [hd.out]; exact decide_eq_false e⟩
        clear e
        go_wp2
        go_quiet (fail)
        go_wp2
        go_ret
        exact ⟨by rw [hd2.out]; rfl, by first | exact below_drewN hb1 _ | exact below_drewN (below_drewN hb1 _) _⟩
end Go.Proofs.Ytbmfipjnfbnjgaa
