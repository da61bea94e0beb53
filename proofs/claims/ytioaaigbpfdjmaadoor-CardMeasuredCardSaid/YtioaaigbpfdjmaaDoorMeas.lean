import Derived.Test.YtioaaigbpfdjmaaDoorMeasMath
set_option linter.unusedSimpArgs false
set_option linter.unusedVariables false
namespace Go.Proofs.YtioaaigbpfdjmaaDoor
open Go Go.Proofs Go.RowKit
set_option maxRecDepth 100000 in
theorem meas_no {s : ByteArray} {w : World} (h40 : s.size ≤ 40) (hn : Keep (totOf s = 0)) :
    Calls Tryd.prog 35 #[.string s] w fun e w' => e = .returned (.tuple #[.agg #[.int .i64 0, .int .i64 0, .int .i64 0, .int .i64 0], .int .i64 2]) ∧ Below w.heap.size w w' := by
  go_enter Tryd.func35, Tryd.ntmps35
  go_wp2_with (go_at_call 73; refine (total_any s h40 _).mono ?_; rintro e w1 ⟨⟨O, Z, hO, hZ, rfl, hOZ⟩, hb1⟩; rw [hn.out]
               obtain ⟨hrow, hlt, hbw⟩ := carry4 hb1
               obtain ⟨c0, c1, c2, c3, f0, f1, f2, f3⟩ := row_cases hrow
               clear hrow hb1)
  refine bodyPost_ret (v := .tuple #[.agg #[.int .i64 0, .int .i64 0, .int .i64 0, .int .i64 0], .int .i64 2]) (by rw [results_cell_tmp rfl]; go_simp) rfl ?_
  refine ⟨rfl, (below_set (below_set (below_set (below_set hbw (by omega) _) (by omega) _) (by omega) _) (by omega) _).alloc ?_ _⟩
  simp
  omega
theorem row_zero {w : World} {G : Nat} (h : RowAt w G 4 (fun j => [(0 : Int), 0, 0, 0].getD j 0)) : RowAt w G 4 (fun _ => 0) := fun j hj => by
  have e : (fun j => [(0 : Int), 0, 0, 0].getD j 0) j = (fun _ => (0 : Int)) j := by
    have : j = 0 ∨ j = 1 ∨ j = 2 ∨ j = 3 := by omega
    rcases this with h | h | h | h <;> subst h <;> rfl
  rw [← e]
  exact h j hj
theorem zeros_not {s : ByteArray} {Z N : Nat} (htot : totOf s ≠ 0) (hsz : s.size = N) (h : charB s 48 Z s.size) (q : Nat) : Z.testBit q = (decide (q < N) && !fb s q) := by
  rw [h q, ← hsz]
  by_cases hq : q < s.size
  · rw [decide_eq_true hq, Bool.true_and, Bool.true_and, fb_at hq, getD_at hq]
    rcases tot_char htot q hq with h | h <;> rw [h] <;> rfl
  · rw [decide_eq_false hq]; rfl
theorem int_max {a b : Nat} : (if a < b then (b : Int) else (a : Int)) = ((max a b : Nat) : Int) := by
  split <;> omega
set_option maxHeartbeats 4000000 in
set_option maxRecDepth 100000 in
theorem meas_yes {s : ByteArray} {w : World} {n N : Nat} (hT : TabW w) (h40 : s.size ≤ 40) (hn : Keep (totOf s = n)) (h0 : n ≠ 0) (hn5 : n ≤ 5) (hN : Keep (N = 2 ^ n)) (hN32 : N ≤ 32) (hsz : Keep (s.size = N)) {D M C K : Nat}
    (hD : Keep (degN (rnd (fb s) n) N = D)) (hM : Keep (sensM (fb s) n N = M)) (hC : Keep (certM (fb s) N n N = C)) (hK : Keep (onesK (fb s) N = K)) :
    Calls Tryd.prog 35 #[.string s] w fun e w' => e = .returned (.tuple #[.agg #[.int .i64 D, .int .i64 M, .int .i64 C, .int .i64 K], .int .i64 0]) ∧ Below w.heap.size w w' := by
  have hd : decide (n ≠ 0) = true := decide_eq_true h0
  have htot : Keep (totOf s ≠ 0) := ⟨by rw [hn.out]; exact h0⟩
  have hfz : Keep (∀ q, N ≤ q → fb s q = false) := ⟨fun q hq => by unfold fb; rw [decide_eq_false (by rw [hsz.out]; omega)]; rfl⟩
  have hTk : Keep (TabW w) := ⟨hT⟩
  clear h0 hT
  go_enter Tryd.func35, Tryd.ntmps35
  go_wp2_with (first
    | (go_at_call 73; refine (total_any s h40 _).mono ?_; rintro e w1 ⟨⟨O, Z, hO, hZ, rfl, hOZ⟩, hb1⟩; rw [hn.out, hd]
       have hOb : Keep (O.testBit = fb s) := ⟨fb_of (hOZ htot.out).1⟩
       have hZb : Keep (∀ q, Z.testBit q = (decide (q < N) && !fb s q)) := ⟨zeros_not htot.out hsz.out (hOZ htot.out).2⟩
       obtain ⟨hrow, hlt, hbw⟩ := carry4 hb1
       have hrowk : Keep (RowAt w1 w.heap.size 4 (fun _ => 0)) := ⟨row_zero hrow⟩
       clear hOZ hrow hb1)
    | (go_at_call 77; refine (sizeX O hO _).mono ?_; rintro e w2 ⟨rfl, hb2⟩
       obtain ⟨c0, c1, c2, _, _, _, hlt2, hb12⟩ := carry_new hb2
       have htab2 : Keep (TabAt w2 w1.heap.size n O Z) := ⟨c0, c1, c2⟩
       have hrow2 : Keep (RowAt w2 w.heap.size 4 (fun _ => 0)) := ⟨row_below hrowk.out hb12⟩
       have hbw2 : Below w.heap.size w w2 := below_trans hbw hb12 hbw.size
       have hK2 : (bitsOf O).length = K := by rw [ones_list hOb.out hfz.out hN32, hK.out]
       rw [hK2]
       clear hb2 hb12 hK2 hrowk hbw)
    | (go_at_call 74; refine (sum_any (Z := Z) hn5 hN hN32 hO ⟨fun q hq => by rw [hOb.out]; exact hfz.out q hq⟩).mono ?_; rintro e w3 ⟨⟨S, hS, rfl, hat⟩, hb3⟩
       obtain ⟨hm3, hlt3, hb23⟩ := carry4 hb3
       have hS3 : Keep (∀ q, S.testBit q = (decide (q < N) && rnd (fb s) n q)) := ⟨by rw [← hOb.out]; exact hat⟩
       have hme3 : Keep (RowAt w3 w2.heap.size 4 (fun j => [(0 : Int), 0, 0, (K : Int)].getD j 0)) := ⟨hm3⟩
       have htab3 : Keep (TabAt w3 w1.heap.size n O Z) := ⟨tabat_below htab2.out hb23⟩
       have hrow3 : Keep (RowAt w3 w.heap.size 4 (fun _ => 0)) := ⟨row_below hrow2.out hb23⟩
       have hbw3 : Below w.heap.size w w3 := below_trans hbw2 hb23 hbw2.size
       clear hb3 hat hm3 hb23 htab2 hrow2 hbw2)
    | (go_at_call 78; refine (list_any S hS _ (tab_below hTk.out hbw3)).mono ?_; rintro e w4 ⟨v, rfl, hown, hb4⟩
       have hme4 : Keep (RowAt w4 w2.heap.size 4 (fun j => [(0 : Int), 0, 0, (K : Int)].getD j 0)) := ⟨row_below hme3.out hb4⟩
       have htab4 : Keep (TabAt w4 w1.heap.size n O Z) := ⟨tabat_below htab3.out hb4⟩
       have hrow4 : Keep (RowAt w4 w.heap.size 4 (fun _ => 0)) := ⟨row_below hrow3.out hb4⟩
       have hbw4 : Below w.heap.size w w4 := below_trans hbw3 hb4 hbw3.size
       have hlt4 : w2.heap.size < w4.heap.size := Nat.lt_of_lt_of_le hlt3 hb4.size
       obtain ⟨A, cap, rfl, hcell⟩ := own_lat hown hlt3
       obtain ⟨l, hl⟩ : ∃ l, Keep (bitsOf S = l) := ⟨_, ⟨rfl⟩⟩
       rw [hl.out] at hcell ⊢
       have hlat4 : Keep (LAt w4 A l w2.heap.size) := ⟨hcell⟩
       have hl32 : l.length ≤ 32 := by rw [← hl.out]; exact Nat.le_trans (List.length_filter_le _ _) (by simp)
       clear hown hb4 hme3 htab3 hrow3 hbw3 hcell))
  obtain ⟨G, hG⟩ : ∃ G, G = w2.heap.size := ⟨_, rfl⟩
  obtain ⟨B, hB⟩ : ∃ B, B = w1.heap.size := ⟨_, rfl⟩
  rw [← hG] at hme4 hlt4 hlt2 hlat4 ⊢
  rw [← hB] at htab4 hlt hlt2 ⊢
  have hBG : Keep (B ≠ G) := ⟨by omega⟩
  have hwB : Keep (w.heap.size ≠ G) := ⟨by omega⟩
  have hwG : w.heap.size ≤ G := by omega
  clear hG hB
  go_loopw [26] (fun i wr => ∃ k : Nat, k ≤ l.length ∧ i = .int .i64 k ∧ Keep (RowAt wr G 4 (fun j => [((degL (l.take k) : Nat) : Int), 0, 0, (K : Int)].getD j 0)) ∧ Keep (RowAt wr w.heap.size 4 (fun _ => 0)) ∧ Keep (TabAt wr B n O Z) ∧ Keep (LAt wr A l G) ∧ G < wr.heap.size ∧ Below w.heap.size w wr) (fun i _ => l.length - (intOf i).toNat)
  case atStart => exact ⟨0, by omega, rfl, hme4, hrow4, htab4, hlat4, hlt4, hbw4⟩
  case round =>
    obtain ⟨k, hk, rfl, hme, hrow, htab, hlat, hG, hbw⟩ := hrel
    by_cases hkl : k < l.length
    · obtain ⟨g, rfl, hGg, hgr⟩ := hlat.out k hkl
      have hx : l.getD k 0 ∈ l := by rw [List.getD_eq_getElem?_getD, List.getElem?_eq_getElem hkl]; exact List.getElem_mem _
      have hx32 : l.getD k 0 < 32 := by rw [← hl.out] at hx ⊢; exact (bits_mem.1 hx).1
      have hnext : Keep (degL (l.take (k + 1)) = max (degL (l.take k)) (digN (l.getD k 0))) := ⟨by rw [take_push hkl, degL_push]⟩
      have hm5 := degL_le (l.take k)
      obtain ⟨q, hq⟩ : ∃ q, Keep (l.getD k 0 = q) := ⟨_, ⟨rfl⟩⟩
      obtain ⟨m, hm⟩ : ∃ m, Keep (degL (l.take k) = m) := ⟨_, ⟨rfl⟩⟩
      rw [hq.out] at hgr hx32 hnext
      rw [hm.out] at hnext hm5 hme
      have hd5 := dig_le q
      have hwq : IntKind.u64.wrap (q : Int) = (q : Int) := by show (q : Int) % 18446744073709551616 = q; omega
      obtain ⟨e0, _, _, _, f0, _⟩ := row_cases hme.out
      clear hx
      go_wp2
      go_region_with (first
          | (go_at_call 79; (with_reducible refine (onesN q hx32 _).mono ?_); rintro e w5 ⟨rfl, hb5⟩
             have hb5' : Below wr.heap.size wr w5 := (below_drewN (Below.refl _ _) 1).trans hb5
             have hme5 : Keep (RowAt w5 G 4 (fun j => [(m : Int), 0, 0, (K : Int)].getD j 0)) := ⟨row_below hme.out hb5'⟩
             have hrow5 : Keep (RowAt w5 w.heap.size 4 (fun _ => 0)) := ⟨row_below hrow.out hb5'⟩
             have htab5 : Keep (TabAt w5 B n O Z) := ⟨tabat_below htab.out hb5'⟩
             have hlat5 : Keep (LAt w5 (some ⟨g, 0, none⟩) l G) := ⟨lat_below hlat.out hb5'⟩
             have hG5 : G < w5.heap.size := Nat.lt_of_lt_of_le hG hb5'.size
             have hbw5 : Keep (Below w.heap.size w w5) := ⟨below_trans hbw hb5' hbw.size⟩
             have e5 := (row_cases hme5.out).1
             have f5 := (row_cases hme5.out).2.2.2.2.1
             clear hb5 hb5'))
      all_goals go_wp2
      all_goals refine ⟨⟨k + 1, by omega, by go_num, ⟨by rw [hnext.out, ← int_max]; exact row0_set hme5.out⟩, ⟨row_other hrow5.out hwB.out _⟩, ⟨tabat_set htab5.out hBG.out⟩, ⟨lat_set hlat5.out⟩, by simpa using hG5, below_set hbw5.out hwG _⟩, by simp [intOf]; omega⟩
    · have : k = l.length := by omega
      subst this
      rw [List.take_length, ← hl.out, deg_list hS3.out hN32, hD.out] at hme
      have hbz : w.heap.size ≤ wr.heap.size := hbw.size
      obtain ⟨t0, t1, t2⟩ := htab.out
      go_wp2_with (go_at_call 75; refine (tsize_any n O Z N hn5 hN.out _).mono ?_; rintro e w6 ⟨rfl, hb6⟩
                   have hme6 : Keep (RowAt w6 G 4 (fun j => [(D : Int), 0, 0, (K : Int)].getD j 0)) := ⟨row_below hme.out hb6⟩
                   have hrow6 : Keep (RowAt w6 w.heap.size 4 (fun _ => 0)) := ⟨row_below hrow.out hb6⟩
                   have htab6 : Keep (TabAt w6 B n O Z) := ⟨tabat_below htab.out hb6⟩
                   have hG6 : G < w6.heap.size := Nat.lt_of_lt_of_le hG hb6.size
                   have hbw6 : Below w.heap.size w w6 := below_trans hbw hb6 hbz)
      clear hme hrow htab hlat hG hbw hbz t0 t1 t2
      go_loopw [40] (fun i wr => ∃ k : Nat, k ≤ N ∧ i = .int .i64 k ∧ Keep (RowAt wr G 4 (fun j => [(D : Int), ((sensM (fb s) n k : Nat) : Int), ((certM (fb s) N n k : Nat) : Int), (K : Int)].getD j 0)) ∧ Keep (RowAt wr w.heap.size 4 (fun _ => 0)) ∧ Keep (TabAt wr B n O Z) ∧ G < wr.heap.size ∧ Below w.heap.size w wr) (fun i _ => N - (intOf i).toNat)
      case atStart => exact ⟨0, by omega, rfl, hme6, hrow6, htab6, hG6, hbw6⟩
      case round =>
        clear hme6 hrow6 htab6 hG6 hbw6
        obtain ⟨k, hk, rfl, hme, hrow, htab, hG, hbw⟩ := hrel
        by_cases hkN : k < N
        · have hk32 : k < 32 := by omega
          have hn1 : Keep (sensM (fb s) n (k + 1) = max (sensM (fb s) n k) (sensK (fb s) k n)) := ⟨sensM_push _ _ _⟩
          have hn2 : Keep (certM (fb s) N n (k + 1) = max (certM (fb s) N n k) (certK (fb s) N n k N)) := ⟨certM_push _ _ _ _⟩
          have l1 := sensM_le (fb s) n k
          have l2 := certM_le (fb s) N n k
          have l3 := sensK_le (fb s) k n
          have l4 := certK_le (fb s) N n k N
          obtain ⟨m1, hm1⟩ : ∃ m, Keep (sensM (fb s) n k = m) := ⟨_, ⟨rfl⟩⟩
          obtain ⟨m2, hm2⟩ : ∃ m, Keep (certM (fb s) N n k = m) := ⟨_, ⟨rfl⟩⟩
          obtain ⟨x1, hx1⟩ : ∃ m, Keep (sensK (fb s) k n = m) := ⟨_, ⟨rfl⟩⟩
          obtain ⟨x2, hx2⟩ : ∃ m, Keep (certK (fb s) N n k N = m) := ⟨_, ⟨rfl⟩⟩
          rw [hm1.out, hx1.out] at hn1
          rw [hm2.out, hx2.out] at hn2
          rw [hm1.out] at l1 hme
          rw [hm2.out] at l2 hme
          rw [hx1.out] at l3
          rw [hx2.out] at l4
          obtain ⟨_, e1, _, _, _, f1, _, _⟩ := row_cases hme.out
          obtain ⟨t0, t1, t2⟩ := htab.out
          go_wp2
          go_region_with (first
            | (go_at_call 80; (with_reducible refine (sens_any (Z := Z) hn5 hO hOb hk32).mono ?_); rintro e w7 ⟨rfl, hb7⟩
               rw [hx1.out]
               have hb7' : Below wr.heap.size wr w7 := (below_drewN (Below.refl _ _) 1).trans hb7
               have hme7 : Keep (RowAt w7 G 4 (fun j => [(D : Int), (m1 : Int), (m2 : Int), (K : Int)].getD j 0)) := ⟨row_below hme.out hb7'⟩
               have hrow7 : Keep (RowAt w7 w.heap.size 4 (fun _ => 0)) := ⟨row_below hrow.out hb7'⟩
               have htab7 : Keep (TabAt w7 B n O Z) := ⟨tabat_below htab.out hb7'⟩
               have hG7 : G < w7.heap.size := Nat.lt_of_lt_of_le hG hb7'.size
               have hbw7 : Keep (Below w.heap.size w w7) := ⟨below_trans hbw hb7' hbw.size⟩
               have e7 := (row_cases hme7.out).2.1
               have f7 := (row_cases hme7.out).2.2.2.2.2.1
               clear hb7 hb7'))
          all_goals
            generalize hy : (if m1 < x1 then (x1 : Int) else (m1 : Int)) = y
            have hyk : Keep (y = ((max m1 x1 : Nat) : Int)) := ⟨by rw [← hy, int_max]⟩
            clear hy
            have hme8 : Keep (RowAt (w7.setCell ⟨G, 1, none⟩ (.int .i64 y)) G 4 (fun j => [(D : Int), ((max m1 x1 : Nat) : Int), (m2 : Int), (K : Int)].getD j 0)) := ⟨by rw [← hyk.out]; exact row1_set hme7.out⟩
            have hrow8 : Keep (RowAt (w7.setCell ⟨G, 1, none⟩ (.int .i64 y)) w.heap.size 4 (fun _ => 0)) := ⟨row_other hrow7.out hwB.out _⟩
            have htab8 : Keep (TabAt (w7.setCell ⟨G, 1, none⟩ (.int .i64 y)) B n O Z) := ⟨tabat_set htab7.out hBG.out⟩
            have hG8 : G < (w7.setCell ⟨G, 1, none⟩ (.int .i64 y)).heap.size := by simpa using hG7
            have hbw8 : Keep (Below w.heap.size w (w7.setCell ⟨G, 1, none⟩ (.int .i64 y))) := ⟨below_set hbw7.out hwG _⟩
            generalize w7.setCell ⟨G, 1, none⟩ (.int .i64 y) = w8 at hme8 hrow8 htab8 hG8 hbw8 ⊢
            clear hme7 hrow7 htab7 hG7 hbw7 e7 f7 e1 f1 t0 t1 t2 hme hrow htab
            obtain ⟨_, _, e2, _, _, _, f2, _⟩ := row_cases hme8.out
            obtain ⟨t0, t1, t2⟩ := htab8.out
            go_wp2
            go_region_with (first
              | (go_at_call 81; (with_reducible refine (cert_any hn5 hN hN32 hO hZ hOb hZb hkN).mono ?_); rintro e w9 ⟨rfl, hb9⟩
                 rw [hx2.out]
                 have hb9' : Below w8.heap.size w8 w9 := (below_drewN (Below.refl _ _) 1).trans hb9
                 have hme9 : Keep (RowAt w9 G 4 (fun j => [(D : Int), ((max m1 x1 : Nat) : Int), (m2 : Int), (K : Int)].getD j 0)) := ⟨row_below hme8.out hb9'⟩
                 have hrow9 : Keep (RowAt w9 w.heap.size 4 (fun _ => 0)) := ⟨row_below hrow8.out hb9'⟩
                 have htab9 : Keep (TabAt w9 B n O Z) := ⟨tabat_below htab8.out hb9'⟩
                 have hG9 : G < w9.heap.size := Nat.lt_of_lt_of_le hG8 hb9'.size
                 have hbw9 : Keep (Below w.heap.size w w9) := ⟨below_trans hbw8.out hb9' hbw8.out.size⟩
                 have e9 := (row_cases hme9.out).2.2.1
                 have f9 := (row_cases hme9.out).2.2.2.2.2.2.1
                 clear hb9 hb9'))
            all_goals go_wp2
            all_goals refine ⟨⟨k + 1, by omega, by go_num, ⟨by rw [hn1.out, hn2.out, ← int_max (a := m2)]; exact row2_set hme9.out⟩, ⟨row_other hrow9.out hwB.out _⟩, ⟨tabat_set htab9.out hBG.out⟩, by simpa using hG9, below_set hbw9.out hwG _⟩, by simp [intOf]; omega⟩
        · have : k = N := by omega
          subst this
          rw [hM.out, hC.out] at hme
          obtain ⟨d0, d1, d2, d3, _, _, _, _⟩ := row_cases hme.out
          obtain ⟨r0, y0⟩ := hrow.out 0 (by omega)
          obtain ⟨r1, y1⟩ := hrow.out 1 (by omega)
          obtain ⟨r2, y2⟩ := hrow.out 2 (by omega)
          obtain ⟨r3, y3⟩ := hrow.out 3 (by omega)
          go_wp2
          refine bodyPost_ret (v := .tuple #[.agg #[.int .i64 D, .int .i64 M, .int .i64 C, .int .i64 K], .int .i64 0]) (by rw [results_cell_tmp rfl]; go_simp) rfl ?_
          exact ⟨rfl, below_set (below_set (below_set (below_set hbw (by omega) _) (by omega) _) (by omega) _) (by omega) _⟩
end Go.Proofs.YtioaaigbpfdjmaaDoor
