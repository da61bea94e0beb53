import Derived.Test.YteekigpdiklppaaWThrAll
set_option linter.unusedSimpArgs false
set_option linter.unusedVariables false
namespace Go.Proofs.Yteekigpdiklppaa
open Go Go.Proofs Go.RowKit Go.Seq
attribute [local go_sem] Oper.semAt_some
set_option maxHeartbeats 8000000 in
set_option maxRecDepth 100000 in
theorem thresholds_any (n0 x0 x1 : Int) {v1 : Value} {ps : Pts} {w : World} (hv : PairsO w v1 ps) (hlen : ps.length ≤ maxLen) :
    Calls Try.prog 13 #[.int .i64 n0, v1, .agg #[.int .i64 x0, .int .i64 x1]] w fun e w' => e = .returned (.bool true) ∧ Below w.heap.size w w' := by
  have hmx : Try.prog.follows .mixedOrders = true := by kernel_rfl
  obtain ⟨wa, hwa⟩ : ∃ wa, w.alloc (.cells #[.int .i64 x0, .int .i64 x1] 63) = wa := ⟨_, rfl⟩
  have ba : Below w.heap.size w wa := by rw [← hwa]; exact (Below.refl _ _).alloc (Nat.le_refl _) _
  have fa : wa.heap[w.heap.size]? = some (.cells #[.int .i64 x0, .int .i64 x1] 63 (0, 0)) := by rw [← hwa]; exact World.alloc_heap_new w _
  have sa : wa.heap.size = w.heap.size + 1 := by rw [← hwa]; simp
  have q50 := tame_any n0 (pairsO_below hv ba) (by unfold maxLen at hlen; omega)
  have hG := tame_gok n0 ps
  obtain ⟨N, hN⟩ : ∃ N, 1 + modN n0 12 = N := ⟨_, rfl⟩
  rw [hN] at q50 hG
  obtain ⟨E, hE⟩ : ∃ E, tameE N ps = E := ⟨_, rfl⟩
  rw [hE] at q50 hG
  clear hN hE hv hlen
  have hN1 := hG.n1
  have hN12 := hG.n12
  have q53 : ∀ w, Calls Try.prog 53 #[.int .i64 x1, .int .i64 5] w fun e w' => e = .returned (.int .i64 (modN x1 5 : Nat)) ∧ w' = w := fun w => mod_any x1 (m := 5) (by omega) (by omega) w
  have hr0 := modN_lt x1 (m := 5) (by omega)
  obtain ⟨r0, hr0e⟩ : ∃ r0, modN x1 5 = r0 := ⟨_, rfl⟩
  rw [hr0e] at q53 hr0
  obtain ⟨r, hr⟩ : ∃ r : Int, 1 + (r0 : Int) = r := ⟨_, rfl⟩
  have hrw : IntKind.i64.wrap (1 + (r0 : Int)) = r := by rw [hr]; exact IntWalk.i64_in _ (by omega)
  have hr1 : 1 ≤ r := by omega
  have hr5 : r ≤ 5 := by omega
  obtain ⟨r1, hr1e⟩ : ∃ r1 : Int, r + 1 = r1 := ⟨_, rfl⟩
  have hrw1 : IntKind.i64.wrap (r + 1) = r1 := by rw [hr1e]; exact IntWalk.i64_in _ (by omega)
  have q51 := fun W => oSome hN12 x0 W
  have hSin := someS_inN N x0
  obtain ⟨S, hS⟩ : ∃ S, someS N x0 = S := ⟨_, rfl⟩
  rw [hS] at q51 hSin
  obtain ⟨A, hA⟩ : ∃ A, clo (sokd N (adjOf E) r) S = A := ⟨_, rfl⟩
  obtain ⟨B, hB⟩ : ∃ B, clo (sokd N (adjOf E) r1) S = B := ⟨_, rfl⟩
  have hAin : InN N A := by rw [← hA]; exact inN_soak r hG hSin
  have hBin : InN N B := by rw [← hB]; exact inN_soak r1 hG hSin
  obtain ⟨la, hla⟩ : ∃ l, sz A = l := ⟨_, rfl⟩
  obtain ⟨lb, hlb⟩ : ∃ l, sz B = l := ⟨_, rfl⟩
  obtain ⟨ka, hka⟩ : ∃ k, kfOf (sokd N (adjOf E) r) S = k := ⟨_, rfl⟩
  obtain ⟨kb, hkb⟩ : ∃ k, kfOf (sokd N (adjOf E) r1) S = k := ⟨_, rfl⟩
  have q30A := oSoakSl hG hr1 (by omega) hSin hA hla hka
  have q30B := oSoakSl hG (r := r1) (by omega) (by omega) hSin hB hlb hkb
  obtain ⟨H, hH⟩ : ∃ H, (fun j => allS N j && !clo (sokd N (adjOf E) r) S j) = H := ⟨_, rfl⟩
  have hHin : InN N H := fun j h1 h2 => by rw [← hH]; simp [allS]; omega
  have q31 := oShelter hG hr1 (by omega) hSin
  have hok := shelter_ok hG (r := r) S
  rw [hH] at q31 hok
  obtain ⟨hFin, hFle⟩ := fewest_ok hG hr1
  obtain ⟨Fw, hFw⟩ : ∃ F, leastOf N (soaking N E r) = F := ⟨_, rfl⟩
  rw [hFw] at hFin hFle
  have q39 := oFewest hG hr1 (by omega) hFw
  obtain ⟨nS, hnS⟩ : ∃ n, num S = n := ⟨_, rfl⟩
  obtain ⟨nA, hnA⟩ : ∃ n, num A = n := ⟨_, rfl⟩
  obtain ⟨nB, hnB⟩ : ∃ n, num B = n := ⟨_, rfl⟩
  obtain ⟨nH, hnH⟩ : ∃ n, num H = n := ⟨_, rfl⟩
  obtain ⟨nW, hnW⟩ : ∃ n, num Fw = n := ⟨_, rfl⟩
  have q26S := Keep.mk (set_n hnS)
  have q26A := Keep.mk (set_n hnA)
  have q26B := Keep.mk (set_n hnB)
  have q26H := Keep.mk (set_n hnH)
  have q26Fw := Keep.mk (set_n hnW)
  have dBA : bits .andNot .i64 (nB : Int) (nA : Int) = 0 := by
    rw [← hnB, ← hnA, num_diff, num_sub.2 (by rw [← hA, ← hB, ← hr1e]; exact clo_less S)]; rfl
  have dHS : bits .and .i64 (nH : Int) (nS : Int) = 0 := by
    have := and_num H S
    rw [hnH, hnS] at this
    rw [this, num_none.2 (fun j hj => by
      rw [← hH]
      cases e : S j with
      | false => simp
      | true => simp [clo_up (infl_soak N (adjOf E) r) S j e])]; rfl
  have hfull := full_iff hN12 hAin
  obtain ⟨z, hz⟩ : ∃ z, soaking N E r S = z := ⟨_, rfl⟩
  rw [show eqb A (allS N) = z by rw [← hz, ← hA]; rfl, show (vsTo A 12).length = la from hla] at hfull
  rw [hz] at q31
  have hnb : z = true → NotBefore S Fw := fun e => hFle S hSin (by rw [hz, e])
  have hn1 : z = false → 1 ≤ nH := fun e => by
    refine Nat.one_le_iff_ne_zero.2 fun h0 => ?_
    have h1 := num_none.1 (hnH.trans h0)
    have : eqb A (allS N) = true := eqb_iff.2 fun j hj => by
      have h2 := h1 j hj
      rw [← hH, hA] at h2
      cases ea : allS N j with
      | true => simpa [ea] using h2
      | false => exact hAin j (by simpa [allS] using ea) hj
    rw [show eqb A (allS N) = z by rw [← hz, ← hA]; rfl, e] at this
    cases this
  have hak := Keep.mk (And.intro ba (And.intro fa sa))
  have hqN := Keep.mk (fun (W : World) (ve : Value) (he : PairsOf W ve E) => near_any hG he)
  have hSHk := Keep.mk (And.intro hnS (And.intro hnW (And.intro hnH hok)))
  clear ba fa sa hr0e hr hr1e hS hA hB hla hlb hka hkb hH hok hFw hFle hnS hnA hnB hnH hnW hz hG hSin
  cases z with
  | false =>
    simp only [Bool.false_eq_true, if_false] at q31
    have hl0 := hfull.2 rfl
    have hl1 : ¬ (la : Int) = (N : Int) := by omega
    have hn1' := hn1 rfl
    clear hl0 hfull hnb hn1
    go_enter Try.func13, Try.ntmps13
    go_wp2_with (first
      | (go_at_call 50; (with_reducible refine q50.mono ?_); rintro e w1 ⟨ve, rfl, hrow1, hb1⟩
         have hp1 := own_pairs hrow1
         have fa1 := (hb1.block w.heap.size (by rw [hak.out.2.2]; omega)).trans hak.out.2.1
         have hk1 : Keep (Fb w w1 (.cells #[.int .i64 x0, .int .i64 x1] 63 (0, 0)) ve E []) := ⟨⟨⟨hp1, fun x hx => by simp at hx⟩, fa1, hak.out.1.trans (hb1.mono hak.out.1.size)⟩⟩
         have c0 : w1.cell? ⟨w.heap.size, 0, none⟩ = some (.int .i64 x0) := by simp [World.cell?, fa1]
         have c1 : w1.cell? ⟨w.heap.size, 1, none⟩ = some (.int .i64 x1) := by simp [World.cell?, fa1]
         clear hrow1 hb1 hp1 fa1 q50)
      | (go_at_call 53; (with_reducible refine (q53 _).mono ?_); rintro e wm ⟨rfl, hem⟩; rw [hem]; clear hem wm)
      | (go_at_call 51; (with_reducible refine (q51 _).mono ?_); rintro e w2 ⟨vs, rfl, hi2, hb2⟩
         have hk2 := Keep.mk (hk1.out.put hb2 hi2)
         clear hi2 hb2 hk1 q51 c0 c1)
      | (go_at_call 30; have hp3 := hk2.out.ps; have hv3 := hk2.out.at (v := vs) (s := S) (.head _)
         (with_reducible refine (q30A _ _ _ hp3 hv3).mono ?_); rintro e w3 ⟨XA, cA, rfl, hi3, hb3⟩
         have hk3 := Keep.mk (hk2.out.put hb3 hi3)
         clear hi3 hb3 hp3 hk2 q30A)
      | (go_at_call 30; have hp4 := hk3.out.ps; have hv4 := hk3.out.at (v := vs) (s := S) (.tail _ (.head _))
         (with_reducible refine (q30B _ _ _ hp4 hv4).mono ?_); rintro e w4 ⟨XB, cB, rfl, hi4, hb4⟩
         have hk4 := Keep.mk (hk3.out.put hb4 hi4)
         clear hi4 hb4 hp4 hk3 q30B)
      | (go_at_call 31; have hp5 := hk4.out.ps; have hv5 := hk4.out.at (v := vs) (s := S) (.tail _ (.tail _ (.head _)))
         (with_reducible refine (q31 _ _ _ hp5 hv5).mono ?_); rintro e w5 ⟨vh, rfl, hi5, hb5⟩
         have hk5 := Keep.mk (hk4.out.put hb5 hi5)
         clear hi5 hb5 hp5 hk4 q31)
      | (go_at_call 39; have hp6 := hk5.out.ps
         (with_reducible refine (q39 _ _ hp6).mono ?_); rintro e w6 ⟨vw, rfl, hi6, hb6⟩
         have hk6 := Keep.mk (hk5.out.put hb6 hi6)
         clear hi6 hb6 hp6 hk5 q39)
      | (go_at_call 52; have hv7 := hk6.out.at (v := (.slice XA la cA)) (s := A) (.tail _ (.tail _ (.tail _ (.head _))))
         (with_reducible refine (oWithin hAin hv7).mono ?_); rintro e w7 ⟨rfl, hb7⟩
         have hk7 := Keep.mk (hk6.out.keep hb7)
         clear hb7 hv7 hk6)
      | (go_at_call 52; have hv8 := hk7.out.at (v := (.slice XB lb cB)) (s := B) (.tail _ (.tail _ (.head _)))
         (with_reducible refine (oWithin hBin hv8).mono ?_); rintro e w8 ⟨rfl, hb8⟩
         have hk8 := Keep.mk (hk7.out.keep hb8)
         clear hb8 hv8 hk7)
      | (go_at_call 52; have hv9 := hk8.out.at (v := vw) (s := Fw) (.head _)
         (with_reducible refine (oWithin hFin hv9).mono ?_); rintro e w9 ⟨rfl, hb9⟩
         have hk9 := Keep.mk (hk8.out.keep hb9)
         clear hb9 hv9 hk8)
      | (go_at_call 26; have hvx := hk9.out.at (v := (.slice XB lb cB)) (s := B) (.tail _ (.tail _ (.head _)))
         (with_reducible refine (q26B.out _ _ hvx).mono ?_); rintro e wm ⟨rfl, hem⟩; rw [hem]; clear hem wm hvx)
      | (go_at_call 26; have hvx := hk9.out.at (v := (.slice XA la cA)) (s := A) (.tail _ (.tail _ (.tail _ (.head _))))
         (with_reducible refine (q26A.out _ _ hvx).mono ?_); rintro e wm ⟨rfl, hem⟩; rw [hem]; clear hem wm hvx)
      | (go_at_call 24; have hp10 := hk9.out.ps
         (with_reducible refine (hqN.out _ _ hp10).mono ?_); rintro e w10 ⟨G, rfl, hn10, -, hb10⟩
         have hk10 := Keep.mk (hk9.out.keep hb10)
         have hnk := Keep.mk hn10
         clear hb10 hp10 hn10 hk9 hqN)
      | (go_at_call 52; have hv11 := hk10.out.at (v := vh) (s := H) (.tail _ (.head _))
         (with_reducible refine (oWithin hHin hv11).mono ?_); rintro e w11 ⟨rfl, hb11⟩
         have hk11 := Keep.mk (hk10.out.keep hb11)
         have q55 := refShelter_yes hN12 hSHk.out.2.2.1 (hnk.out.below hb11 hnk.out.lt) hSHk.out.2.2.2 hn1'
         clear hb11 hv11 hk10)
      | (go_at_call 26; have hvx := hk11.out.at (v := vh) (s := H) (.tail _ (.head _))
         (with_reducible refine (q26H.out _ _ hvx).mono ?_); rintro e wm ⟨rfl, hem⟩; rw [hem]; clear hem wm hvx)
      | (go_at_call 55; (with_reducible refine q55.mono ?_); rintro e w12 ⟨rfl, hb12⟩
         have hk12 := Keep.mk (hk11.out.keep hb12)
         clear hb12 hk11 q55)
      | (go_at_call 26; have hvx := hk12.out.at (v := vh) (s := H) (.tail _ (.head _))
         (with_reducible refine (q26H.out _ _ hvx).mono ?_); rintro e wm ⟨rfl, hem⟩; rw [hem]; clear hem wm hvx)
      | (go_at_call 26; have hvx := hk12.out.at (v := vs) (s := S) (.tail _ (.tail _ (.tail _ (.tail _ (.head _)))))
         (with_reducible refine (q26S.out _ _ hvx).mono ?_); rintro e wm ⟨rfl, hem⟩; rw [hem]; clear hem wm hvx)
      | (go_at_call 23; (with_reducible refine (awake_w _).mono ?_); rintro e w13 ⟨rfl, hb13⟩
         have hk13 := Keep.mk (hk12.out.keep hb13)
         clear hb13 hk12))
    refine bodyPost_ret (v := .bool true) (by simp [results, Try.results13, go_sem]) rfl ?_
    exact ⟨rfl, hk13.out.2.2⟩
  | true =>
    simp only [if_true] at q31
    have hl0 := hfull.1 rfl
    have hl1 : (la : Int) = (N : Int) := by omega
    have hnb' := hnb rfl
    clear hl0 hfull hnb hn1
    go_enter Try.func13, Try.ntmps13
    go_wp2_with (first
      | (go_at_call 50; (with_reducible refine q50.mono ?_); rintro e w1 ⟨ve, rfl, hrow1, hb1⟩
         have hp1 := own_pairs hrow1
         have fa1 := (hb1.block w.heap.size (by rw [hak.out.2.2]; omega)).trans hak.out.2.1
         have hk1 : Keep (Fb w w1 (.cells #[.int .i64 x0, .int .i64 x1] 63 (0, 0)) ve E []) := ⟨⟨⟨hp1, fun x hx => by simp at hx⟩, fa1, hak.out.1.trans (hb1.mono hak.out.1.size)⟩⟩
         have c0 : w1.cell? ⟨w.heap.size, 0, none⟩ = some (.int .i64 x0) := by simp [World.cell?, fa1]
         have c1 : w1.cell? ⟨w.heap.size, 1, none⟩ = some (.int .i64 x1) := by simp [World.cell?, fa1]
         clear hrow1 hb1 hp1 fa1 q50)
      | (go_at_call 53; (with_reducible refine (q53 _).mono ?_); rintro e wm ⟨rfl, hem⟩; rw [hem]; clear hem wm)
      | (go_at_call 51; (with_reducible refine (q51 _).mono ?_); rintro e w2 ⟨vs, rfl, hi2, hb2⟩
         have hk2 := Keep.mk (hk1.out.put hb2 hi2)
         clear hi2 hb2 hk1 q51 c0 c1)
      | (go_at_call 30; have hp3 := hk2.out.ps; have hv3 := hk2.out.at (v := vs) (s := S) (.head _)
         (with_reducible refine (q30A _ _ _ hp3 hv3).mono ?_); rintro e w3 ⟨XA, cA, rfl, hi3, hb3⟩
         have hk3 := Keep.mk (hk2.out.put hb3 hi3)
         clear hi3 hb3 hp3 hk2 q30A)
      | (go_at_call 30; have hp4 := hk3.out.ps; have hv4 := hk3.out.at (v := vs) (s := S) (.tail _ (.head _))
         (with_reducible refine (q30B _ _ _ hp4 hv4).mono ?_); rintro e w4 ⟨XB, cB, rfl, hi4, hb4⟩
         have hk4 := Keep.mk (hk3.out.put hb4 hi4)
         clear hi4 hb4 hp4 hk3 q30B)
      | (go_at_call 31; have hp5 := hk4.out.ps; have hv5 := hk4.out.at (v := vs) (s := S) (.tail _ (.tail _ (.head _)))
         (with_reducible refine (q31 _ _ _ hp5 hv5).mono ?_); rintro e w5 ⟨vh, rfl, hi5, hb5⟩
         have hk5 := Keep.mk (hk4.out.put hb5 hi5)
         clear hi5 hb5 hp5 hk4 q31)
      | (go_at_call 39; have hp6 := hk5.out.ps
         (with_reducible refine (q39 _ _ hp6).mono ?_); rintro e w6 ⟨vw, rfl, hi6, hb6⟩
         have hk6 := Keep.mk (hk5.out.put hb6 hi6)
         clear hi6 hb6 hp6 hk5 q39)
      | (go_at_call 52; have hv7 := hk6.out.at (v := (.slice XA la cA)) (s := A) (.tail _ (.tail _ (.tail _ (.head _))))
         (with_reducible refine (oWithin hAin hv7).mono ?_); rintro e w7 ⟨rfl, hb7⟩
         have hk7 := Keep.mk (hk6.out.keep hb7)
         clear hb7 hv7 hk6)
      | (go_at_call 52; have hv8 := hk7.out.at (v := (.slice XB lb cB)) (s := B) (.tail _ (.tail _ (.head _)))
         (with_reducible refine (oWithin hBin hv8).mono ?_); rintro e w8 ⟨rfl, hb8⟩
         have hk8 := Keep.mk (hk7.out.keep hb8)
         clear hb8 hv8 hk7)
      | (go_at_call 52; have hv9 := hk8.out.at (v := vw) (s := Fw) (.head _)
         (with_reducible refine (oWithin hFin hv9).mono ?_); rintro e w9 ⟨rfl, hb9⟩
         have hk9 := Keep.mk (hk8.out.keep hb9)
         clear hb9 hv9 hk8)
      | (go_at_call 26; have hvx := hk9.out.at (v := (.slice XB lb cB)) (s := B) (.tail _ (.tail _ (.head _)))
         (with_reducible refine (q26B.out _ _ hvx).mono ?_); rintro e wm ⟨rfl, hem⟩; rw [hem]; clear hem wm hvx)
      | (go_at_call 26; have hvx := hk9.out.at (v := (.slice XA la cA)) (s := A) (.tail _ (.tail _ (.tail _ (.head _))))
         (with_reducible refine (q26A.out _ _ hvx).mono ?_); rintro e wm ⟨rfl, hem⟩; rw [hem]; clear hem wm hvx)
      | (go_at_call 24; have hp10 := hk9.out.ps
         (with_reducible refine (hqN.out _ _ hp10).mono ?_); rintro e w10 ⟨G, rfl, hn10, -, hb10⟩
         have hk10 := Keep.mk (hk9.out.keep hb10)
         have hnk := Keep.mk hn10
         clear hb10 hp10 hn10 hk9 hqN)
      | (go_at_call 26; have hvx := hk10.out.at (v := vs) (s := S) (.tail _ (.tail _ (.tail _ (.tail _ (.head _)))))
         (with_reducible refine (q26S.out _ _ hvx).mono ?_); rintro e wm ⟨rfl, hem⟩; rw [hem]; clear hem wm hvx)
      | (go_at_call 26; have hvx := hk10.out.at (v := vw) (s := Fw) (.head _)
         (with_reducible refine (q26Fw.out _ _ hvx).mono ?_); rintro e wm ⟨rfl, hem⟩; rw [hem]; clear hem wm hvx)
      | (go_at_call 56; (with_reducible refine (before_no (w := w10) hSHk.out.1 hSHk.out.2.1 hnb').mono ?_); rintro e w11 ⟨rfl, hb11⟩
         have hk11 := Keep.mk (hk10.out.keep hb11)
         clear hb11 hk10)
      | (go_at_call 23; (with_reducible refine (awake_w _).mono ?_); rintro e w12 ⟨rfl, hb12⟩
         have hk12 := Keep.mk (hk11.out.keep hb12)
         clear hb12 hk11))
    refine bodyPost_ret (v := .bool true) (by simp [results, Try.results13, go_sem]) rfl ?_
    exact ⟨rfl, hk12.out.2.2⟩
end Go.Proofs.Yteekigpdiklppaa
