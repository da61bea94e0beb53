import Derived.Test.YtioaaigbpfdjmaaDoorMeas
import Derived.Test.YtioaaigbpfdjmaaDoorRefMeas
import Derived.Test.YtioaaigbpfdjmaaDoorRefMono
import Derived.Test.YtioaaigbpfdjmaaDoorLawPoints
import Derived.Laws.StructEq
import Derived.Laws.Cover2
set_option linter.unusedSimpArgs false
set_option linter.unusedVariables false
namespace Go.Proofs.YtioaaigbpfdjmaaDoor
open Go Go.Proofs Go.RowKit Go.CRun
theorem eq47 (a b c d : Int) (w : World) : (Op.equalIn 10000 47 (.agg #[.int .i64 a, .int .i64 b, .int .i64 c, .int .i64 d]) (.agg #[.int .i64 a, .int .i64 b, .int .i64 c, .int .i64 d])).run Tryd.prog w = .ok true w := by
  have u3 := Tryd.underlying3
  have a3 := Tryd.isAgg3
  have z3 := Tryd.sizeOf3
  have hS : Tryd.prog.underlying 47 = some (.struct (Tryd.prog.fieldsOf 47)) := by kernel_rfl
  rw [show (10000 : Nat) = 9999 + 1 from rfl, run_equalIn_agg w 9999 47 _ _ hS (by kernel_rfl)]
  simp only [Program.fieldsOf, Tryd.underlying47]
  go_simp
set_option maxRecDepth 100000 in
theorem sums_zero {s q : ByteArray} (hsz : s.size ≤ 9223372036854775807) {w : World} (hT : TabW w) (hq : shortOf s = q) (h40 : q.size ≤ 40) (hn : Keep (totOf q = 0)) :
    Calls Tryd.prog 6 #[.string s] w fun e w' => e = .returned (.bool true) ∧ Below w.heap.size w w' := by
  have heq := eq47 0 0 0 0
  go_enter Tryd.func6, Tryd.ntmps6
  go_wp2_with (first
    | (go_at_call 15; refine (short_any s hsz _).mono ?_; rintro e w ⟨rfl, rfl⟩; rw [hq])
    | (go_at_call 34; refine (sumFn_no h40 hn).mono ?_; rintro e w1 ⟨rfl, hb1⟩)
    | (go_at_call 35; refine (meas_no h40 hn).mono ?_; rintro e w2 ⟨rfl, hb2⟩
       have hB2 := below_trans hb1 hb2 hb1.size
       clear hb1 hb2)
    | (go_at_call 36; refine (mono_no h40 hn).mono ?_; rintro e w3 ⟨rfl, hb3⟩
       obtain ⟨hrow, hlt3, hb23⟩ := carry4 hb3
       obtain ⟨c0, c1, c2, c3, f0, f1, f2, f3⟩ := row_cases hrow
       have hB3 := below_trans hB2 hb23 hB2.size
       clear hb3 hrow hb23)
    | (go_at_call 37; refine (refTotal_any q h40 _).mono ?_; rintro e w4 ⟨rfl, rfl⟩; rw [hn.out])
    | (go_at_call 20; go_loud (refine (awake_w (tab_below hT hB3)).mono ?_; rintro e w5 ⟨rfl, hb5⟩)))
  go_ret
  exact ⟨rfl, below_trans hB3 hb5 hB3.size⟩
set_option maxHeartbeats 4000000 in
set_option maxRecDepth 100000 in
theorem sums_yes {s q : ByteArray} (hsz : s.size ≤ 9223372036854775807) {w : World} (hT : TabW w) (hq : shortOf s = q) (h40 : q.size ≤ 40) {n N : Nat} (hn : Keep (totOf q = n)) (h0 : n ≠ 0) (hvn : Keep (varsOf q = n)) (hn5 : n ≤ 5) (hN : Keep (N = 2 ^ n)) (hN1 : 1 ≤ N) (hN32 : N ≤ 32) (hqs : Keep (q.size = N)) {D M C K : Nat} {T : ByteArray}
    (hD : Keep (degN (rnd (fb q) n) N = D)) (hM : Keep (sensM (fb q) n N = M)) (hC : Keep (certM (fb q) N n N = C)) (hK : Keep (onesK (fb q) N = K)) (hTx : Keep ((⟨(sumL q n N).toArray⟩ : ByteArray) = T)) :
    Calls Tryd.prog 6 #[.string s] w fun e w' => e = .returned (.bool true) ∧ Below w.heap.size w w' := by
  have heq := eq47 D M C K
  have hd : decide (n ≠ 0) = true := decide_eq_true h0
  have h0k : Keep (n ≠ 0) := ⟨h0⟩
  have htot : Keep (totOf q ≠ 0) := ⟨by rw [hn.out]; exact h0⟩
  have hTk : Keep (TabW w) := ⟨hT⟩
  clear h0 hT
  go_enter Tryd.func6, Tryd.ntmps6
  go_wp2_with (first
    | (go_at_call 15; refine (short_any s hsz _).mono ?_; rintro e w ⟨rfl, rfl⟩; rw [hq])
    | (go_at_call 34; refine (sumFn_yes h40 hn h0k.out hn5 hN hN32 hqs).mono ?_; rintro e w1 ⟨rfl, hb1⟩; rw [hTx.out])
    | (go_at_call 35; refine (meas_yes (tab_below hTk.out hb1) h40 hn h0k.out hn5 hN hN32 hqs hD hM hC hK).mono ?_; rintro e w2 ⟨rfl, hb2⟩
       have hB2 := below_trans hb1 hb2 hb1.size
       clear hb1 hb2)
    | (go_at_call 36; refine (mono_yes (tab_below hTk.out (hB2.alloc hB2.size _)) h40 hn h0k.out hn5 hN hN32 hqs).mono ?_; rintro e w3 ⟨⟨x, y, rfl, hxy⟩, hb3⟩
       obtain ⟨hrow, hlt3, hb23⟩ := carry4 hb3
       have hrow3 : Keep (RowAt w3 w2.heap.size 4 (fun j => [(D : Int), (M : Int), (C : Int), (K : Int)].getD j 0)) := ⟨hrow⟩
       have hxyk := Keep.mk hxy
       have hB3 := below_trans hB2 hb23 hB2.size
       clear hb3 hrow hb23 hxy)
    | (go_at_call 37; refine (refTotal_any q h40 _).mono ?_; rintro e w4 ⟨rfl, rfl⟩; rw [hn.out, hd])
    | (go_at_call 38; refine (refMono_any h40 htot hvn hn5 hN hN32 hqs).mono ?_; rintro e w4 ⟨⟨x', y', rfl, hxy'⟩, hb4⟩
       obtain ⟨rfl, rfl⟩ := mono_one hxyk.out hxy'
       have hrow4 : Keep (RowAt w4 w2.heap.size 4 (fun j => [(D : Int), (M : Int), (C : Int), (K : Int)].getD j 0)) := ⟨row_below hrow3.out hb4⟩
       have hB4 := below_trans hB3 hb4 hB3.size
       clear hb4 hxy' hrow3))
  have hBk : Keep (Below w.heap.size w w4.drew) := ⟨below_drewN hB4 1⟩
  have hrowk : Keep (RowAt w4.drew w2.heap.size 4 (fun j => [(D : Int), (M : Int), (C : Int), (K : Int)].getD j 0)) := ⟨row_below hrow4.out (below_drewN (Below.refl _ _) 1)⟩
  obtain ⟨c0, c1, c2, c3, _, _, _, _⟩ := row_cases hrowk.out
  have hTT : (T.toList == T.toList) = true := by simp
  clear hB4 hrow4
  go_region_held3 (fun w' => w'.cell? ⟨w2.heap.size, 0, none⟩ = some (.int .i64 D) ∧ w'.cell? ⟨w2.heap.size, 1, none⟩ = some (.int .i64 M) ∧ w'.cell? ⟨w2.heap.size, 2, none⟩ = some (.int .i64 C) ∧ w'.cell? ⟨w2.heap.size, 3, none⟩ = some (.int .i64 K))
    (first
      | exact ⟨c0, c1, c2, c3⟩
      | exact ⟨(row_cases hrow7.out).1, (row_cases hrow7.out).2.1, (row_cases hrow7.out).2.2.1, (row_cases hrow7.out).2.2.2.1⟩
      | exact ⟨(row_cases hrow6.out).1, (row_cases hrow6.out).2.1, (row_cases hrow6.out).2.2.1, (row_cases hrow6.out).2.2.2.1⟩
      | exact ⟨(row_cases hrow5.out).1, (row_cases hrow5.out).2.1, (row_cases hrow5.out).2.2.1, (row_cases hrow5.out).2.2.2.1⟩
      | go_keep)
    (first
      | (go_at_call 20; (with_reducible refine (awake_w (tab_below hTk.out hB6.out)).mono ?_); rintro e w7 ⟨rfl, hb7⟩; have hrow7 : Keep (RowAt w7 w2.heap.size 4 (fun j => [(D : Int), (M : Int), (C : Int), (K : Int)].getD j 0)) := ⟨row_below hrow6.out hb7⟩; have hB7 : Keep (Below w.heap.size w w7) := ⟨below_trans hB6.out hb7 hB6.out.size⟩; clear hb7)
      | (go_at_call 40; (with_reducible refine (refMeas_any h40 htot hvn hn5 hN hN1 hN32 hqs hD hM hC hK).mono ?_); rintro e w6 ⟨rfl, hb6⟩; have hrow6 : Keep (RowAt w6 w2.heap.size 4 (fun j => [(D : Int), (M : Int), (C : Int), (K : Int)].getD j 0)) := ⟨row_below hrow5.out hb6⟩; have hB6 : Keep (Below w.heap.size w w6) := ⟨below_trans hB5.out hb6 hB5.out.size⟩; clear hb6)
      | (go_at_call 39; (with_reducible refine (refSum_any (by rw [hqs.out]; exact hN32) (by rw [hqs.out]; exact hN1)).mono ?_); rintro e w5 ⟨rfl, hb5⟩; rw [hqs.out, ref_sum hn5 hN.out, hTx.out]; have hrow5 : Keep (RowAt w5 w2.heap.size 4 (fun j => [(D : Int), (M : Int), (C : Int), (K : Int)].getD j 0)) := ⟨row_below hrowk.out hb5⟩; have hB5 : Keep (Below w.heap.size w w5) := ⟨below_trans hBk.out hb5 hBk.out.size⟩; clear hb5))
  all_goals go_wp2
  all_goals go_ret
  all_goals exact ⟨rfl, hB7.out⟩
/-- CARDSUMS: every call of the law says true. -/
theorem sums_any {s : ByteArray} (hsz : s.size ≤ 9223372036854775807) {w : World} (hT : TabW w) :
    Calls Tryd.prog 6 #[.string s] w fun e w' => e = .returned (.bool true) ∧ Below w.heap.size w w' := by
  have h40 := shortOf_size s
  by_cases h0 : totOf (shortOf s) = 0
  · exact sums_zero hsz hT rfl h40 ⟨h0⟩
  · obtain ⟨h1, h2, h3⟩ := tot_size rfl h0
    have h32 : 2 ^ totOf (shortOf s) ≤ 2 ^ 5 := Nat.pow_le_pow_right (by decide) h2
    exact sums_yes hsz hT rfl h40 ⟨rfl⟩ h0 ⟨h3⟩ h2 (N := 2 ^ totOf (shortOf s)) ⟨rfl⟩ (Nat.two_pow_pos _) (by omega) ⟨h1⟩ ⟨rfl⟩ ⟨rfl⟩ ⟨rfl⟩ ⟨rfl⟩ ⟨rfl⟩
end Go.Proofs.YtioaaigbpfdjmaaDoor
