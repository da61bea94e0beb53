/- Sum of the program. -/
import Derived.Test.YtbocmbhinjkjlaaTerms
set_option linter.unusedSimpArgs false
set_option linter.unusedVariables false
namespace Go.Proofs.Ytbocmbhinjkjlaa
open Go Go.Proofs Go.RowKit Go.Seq
set_option maxHeartbeats 2000000 in
set_option maxRecDepth 100000 in
theorem sum_no {v : Value} {l : Pts} {w : World} (hv : FracsO w v l) (hw : Wide l) (hlen : l.length ≤ 1000) (hD : okTs l = false) :
    Calls Try.prog 49 #[v] w fun r w' => r = .returned (.tuple #[fracV 0 0, .int .i64 2]) ∧ Below w.heap.size w w' := by
  have hv1 := fracsO_below hv (w' := w.alloc (.cells #[.int .i64 0, .int .i64 0] 37)) ((Below.refl _ _).alloc (Nat.le_refl _) _)
  have q := areTerms_any hv1 hw hlen
  rw [hD] at q
  obtain ⟨A, cap, rfl, _⟩ := hv
  unfold fracV
  clear hv1 hw hlen hD
  go_enter Try.func49, Try.ntmps49
  go_wp2_with (go_at_call 83; (with_reducible refine q.mono ?_); rintro e w5 ⟨rfl, hb5⟩
               obtain ⟨c0, c1, f0, f1⟩ := (Own2.new w (.int .i64 0) (.int .i64 0) 37).after hb5
               have hbw5 : Below w.heap.size w w5 := ((Below.refl _ w).alloc (Nat.le_refl _) _).trans (hb5.mono (by simp))
               clear hb5)
  refine bodyPost_ret (v := .tuple #[.agg #[.int .i64 0, .int .i64 0], .int .i64 2]) (by simp [results, Try.results49, go_sem]; go_simp) rfl ?_
  exact ⟨rfl, (hbw5.setCell (p := ⟨w.heap.size, 0, none⟩) (Nat.le_refl _) _).setCell (p := ⟨w.heap.size, 1, none⟩) (Nat.le_refl _) _⟩
set_option maxHeartbeats 4000000 in
set_option maxRecDepth 100000 in
theorem sum_yes {v : Value} {l : Pts} {w : World} (hv : FracsO w v l) (hw : Wide l) (hD : okTs l = true) :
    Calls Try.prog 49 #[v] w fun r w' => r = .returned (.tuple #[redV (sumT l) MM, .int .i64 0]) ∧ Below w.heap.size w w' := by
  obtain ⟨hl10, hall⟩ := of_decide_eq_true hD
  have hv1 := fracsO_below hv (w' := w.alloc (.cells #[.int .i64 0, .int .i64 0] 37)) ((Below.refl _ _).alloc (Nat.le_refl _) _)
  have q := areTerms_any hv1 hw (by omega)
  rw [hD] at q
  obtain ⟨A, cap, rfl, hcell⟩ := hv
  have q84 := fun w => whole_any 0 w
  have hbd := sumT_bound hall
  obtain ⟨R, hR⟩ : ∃ R, Keep (redV (sumT l) MM = R) := ⟨_, ⟨rfl⟩⟩
  rw [hR.out]
  have e0 : redV (sumT (l.take 0)) MM = fracV 0 1 := redV_zero (by decide)
  unfold fracV at q84 e0
  clear hv1 hD
  go_enter Try.func49, Try.ntmps49
  go_wp2_with (first
    | (go_at_call 83; (with_reducible refine q.mono ?_); rintro e w5 ⟨rfl, hb5⟩
       have o2 := (BlkAt.new w #[.int .i64 0, .int .i64 0] 37).after hb5
       have hbw5 : Below w.heap.size w w5 := ((Below.refl _ w).alloc (Nat.le_refl _) _).trans (hb5.mono (by simp))
       clear hb5 q)
    | (go_at_call 84; (with_reducible refine (q84 _).mono ?_); rintro e w6 ⟨rfl, hb6⟩
       obtain ⟨w7, hw7⟩ : ∃ w7, w6.alloc (.cells #[.int .i64 0, .int .i64 1] 37) = w7 := ⟨_, rfl⟩
       have hb7 : Below w6.heap.size w6 w7 := by rw [← hw7]; exact (Below.refl _ _).alloc (Nat.le_refl _) _
       have o4 : BlkAt w7 w6.heap.size #[.int .i64 0, .int .i64 1] 37 := by rw [← hw7]; exact BlkAt.new _ _ _
       have o2 := o2.after hb6
       have hlt2 := o2.lt
       have o2 := o2.after hb7
       have hbw6 := hbw5.trans (hb6.mono hbw5.size)
       have hbw7 := hbw6.trans (hb7.mono hbw6.size)
       have hg4 := hbw6.size
       clear hb6 hb7 q84 hbw5 hbw6))
  obtain ⟨G, hG⟩ : ∃ G, w6.heap.size = G := ⟨_, rfl⟩
  rw [hG] at o4 hg4 hlt2 ⊢
  clear hG
  go_loopw [14] (fun i wr => ∃ k : Nat, k ≤ l.length ∧ i = .int .i64 k ∧ Below w.heap.size w wr ∧ BlkAt wr w.heap.size #[.int .i64 0, .int .i64 0] 37 ∧ BlkAt wr G #[.int .i64 (redN (sumT (l.take k)) MM), .int .i64 (redD (sumT (l.take k)) MM)] 37) (fun i _ => l.length - (intOf i).toNat)
  case atStart =>
    refine ⟨0, by omega, rfl, hbw7, o2, ?_⟩
    unfold redV fracV at e0
    injection e0 with e0
    rw [e0]; exact o4
  case round =>
    obtain ⟨k, hk, rfl, hbw, b2, b4⟩ := hrel
    have hbz := hbw.size
    by_cases hlt : k < l.length
    · obtain ⟨g, o, rfl, hz1, hz2⟩ := hcell k hlt
      have hz1 := cell_below hz1 hbw
      have hz2 := cell_below hz2 hbw
      have hz := hall _ (getp hlt)
      have hs := hbd k
      have ht := Keep.mk (sumT_take hlt)
      generalize l.getD k (0, 0) = z at hz1 hz2 hz ht
      obtain ⟨n, d⟩ := z
      have qs := fun w => sum_step (S := sumT (l.take k)) (n := n) (d := d) ⟨by omega, by omega⟩ hz w
      rw [← ht.out] at qs
      obtain ⟨c40, c41, f40, f41⟩ := Own2.of b4
      have hGl := b4.lt
      simp only at hz1 hz2
      obtain ⟨S1, hS1⟩ : ∃ S1, Keep (sumT (l.take (k + 1)) = S1) := ⟨_, ⟨rfl⟩⟩
      rw [hS1.out] at qs
      generalize sumT (l.take k) = S0 at *
      unfold redV fracV at qs
      obtain ⟨y0, hy0⟩ : ∃ y0, Keep (redN S1 MM = y0) := ⟨_, ⟨rfl⟩⟩
      obtain ⟨y1, hy1⟩ : ∃ y1, Keep (redD S1 MM = y1) := ⟨_, ⟨rfl⟩⟩
      rw [hy0.out, hy1.out] at qs
      generalize redN S0 MM = x0 at *
      generalize redD S0 MM = x1 at *
      clear hs hz ht hbd hall hcell e0
      go_wp2_with (go_at_call 85; (with_reducible refine (qs _).mono ?_); rintro e w8 ⟨rfl, hb8⟩
                   have b4' := (b4.after (W' := wr.alloc (.cells #[.int .i64 n, .int .i64 d] 37)) ((Below.refl _ _).alloc (Nat.le_refl _) _)).after hb8
                   have b2' := (b2.after (W' := wr.alloc (.cells #[.int .i64 n, .int .i64 d] 37)) ((Below.refl _ _).alloc (Nat.le_refl _) _)).after hb8
                   have hbw8 : Below w.heap.size w w8 := (hbw.alloc hbz _).trans (hb8.mono (by simp; omega))
                   obtain ⟨c80, c81, f80, f81⟩ := Own2.of b4'
                   clear hb8)
      refine ⟨⟨k + 1, by omega, by go_num, (hbw8.setCell (p := ⟨G, 0, none⟩) hg4 _).setCell (p := ⟨G, 1, none⟩) hg4 _, (b2'.other (p := ⟨G, 0, none⟩) (by show w.heap.size ≠ G; omega) _).other (p := ⟨G, 1, none⟩) (by show w.heap.size ≠ G; omega) _, ?_⟩, by simp [intOf]; omega⟩
      rw [hS1.out, hy0.out, hy1.out]
      exact (b4'.set 0 _).set 1 _
    · obtain rfl : k = l.length := by omega
      rw [List.take_length] at b4
      have hr := hR.out
      unfold redV fracV at hr
      generalize redN (sumT l) MM = y0 at b4 hr
      generalize redD (sumT l) MM = y1 at b4 hr
      have hrk := Keep.mk hr
      clear hr
      obtain ⟨c40, c41, f40, f41⟩ := Own2.of b4
      obtain ⟨c20, c21, f20, f21⟩ := Own2.of b2
      clear hbd hall hcell e0
      go_wp2
      refine bodyPost_ret (v := .tuple #[.agg #[.int .i64 y0, .int .i64 y1], .int .i64 0]) (by simp [results, Try.results49, go_sem]; go_simp) rfl ?_
      exact ⟨by rw [← hrk.out], (hbw.setCell (p := ⟨w.heap.size, 0, none⟩) (Nat.le_refl _) _).setCell (p := ⟨w.heap.size, 1, none⟩) (Nat.le_refl _) _⟩
end Go.Proofs.Ytbocmbhinjkjlaa
