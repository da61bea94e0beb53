/- The law SharesDual: its walk. -/
import Derived.Test.YtbocmbhinjkjlaaAwFit
set_option linter.unusedSimpArgs false
set_option linter.unusedVariables false
namespace Go.Proofs.Ytbocmbhinjkjlaa
open Go Go.Proofs Go.RowKit Go.Seq Go.Sort
def othN (k : Nat) : Nat := if k = 1 then 2 else if k = 2 then 1 else k
theorem row4 {W : World} {g : Nat} {f : Nat → Nat} {t : TypeId} (h : BlkAt W g #[.int .i64 (f 0 : Nat), .int .i64 (f 1 : Nat), .int .i64 (f 2 : Nat), .int .i64 (f 3 : Nat)] t) {k : Nat} (hk : k < 4) : W.cell? ⟨g, k, none⟩ = some (.int .i64 (f k : Nat)) := by
  rw [h.cell]
  obtain rfl | rfl | rfl | rfl : k = 0 ∨ k = 1 ∨ k = 2 ∨ k = 3 := by omega
  all_goals rfl
set_option maxHeartbeats 4000000 in
set_option maxRecDepth 100000 in
theorem dualLaw_any {v : Value} {zs : List Int} {E : Int} {w : World} (hv : IntsO w v zs) :
    Calls Try.prog 11 #[v, .int .i64 E] w fun e w' => e = .returned (.bool true) ∧ Below w.heap.size w w' := by
  have hvK := Keep.mk hv
  obtain ⟨A0, cap0, rfl, -⟩ := hv
  generalize zs.length = n0 at *
  go_enter Try.func11, Try.ntmps11
  go_wp2_with (go_at_call 55; (with_reducible refine (tame_both hvK.out).mono ?_); rintro e w1 ⟨v', F, rfl, ho, hF, hb1⟩
               have hV := tameL_valid zs
               obtain ⟨l, hl⟩ : ∃ l, tameL zs = l := ⟨_, rfl⟩
               rw [hl] at ho hF hV
               clear hl hvK
               have hoK := Keep.mk ho
               obtain ⟨A, cap, rfl, hcell⟩ := ho
               have hcK := Keep.mk hcell
               obtain ⟨n, hn⟩ : ∃ n, Keep (l.length = n) := ⟨_, ⟨rfl⟩⟩
               rw [hn.out] at hoK ⊢
               clear hcell)
  have hn10 : n ≤ 10 := by have := hV.2.1; have := hn.out; omega
  have hVK := Keep.mk hV
  go_loopw [6, 7] (fun s i wr => ∃ k : Nat, k ≤ n ∧ i = .int .i64 k ∧ s = .int .i64 (l.take k).sum ∧ wr = w1) (fun _ i _ => n - (intOf i).toNat)
  case atStart => exact ⟨0, by omega, rfl, by simp, rfl⟩
  case round =>
    obtain ⟨k, hk, rfl, rfl, rfl⟩ := hrel
    by_cases hkn : k < n
    · have hkn' : (k : Int) < (n : Int) := by omega
      obtain ⟨gz, oz, rfl, hzk⟩ := hcK.out k (by have := hn.out; omega)
      have hst := Keep.mk (sum_take (zs := l) (k := k) (by have := hn.out; omega))
      have hs1 := sum_bound hVK.out.2.2 (k + 1)
      rw [hst.out] at hs1
      have wS : IntKind.i64.wrap ((l.take k).sum + l.getD k 0) = (l.take k).sum + l.getD k 0 := IntWalk.i64_in _ (by omega)
      generalize l.getD k 0 = c at *
      clear hs1
      go_wp2
      exact ⟨⟨k + 1, by omega, by go_num, by rw [hst.out], by first | rfl | trivial⟩, by simp [intOf]; omega⟩
    · obtain rfl : n = k := by omega
      have hS0 : (l.take n).sum = l.sum := by rw [List.take_of_length_le (by have := hn.out; omega)]
      rw [hS0]
      have hSb := sum_in hVK.out
      obtain ⟨S, hS⟩ : ∃ S, Keep (l.sum = S) := ⟨_, ⟨rfl⟩⟩
      rw [hS.out] at hSb hF ⊢
      have wSF : IntKind.i64.wrap (S - F) = S - F := IntWalk.i64_in _ (by omega)
      obtain ⟨T, hT⟩ : ∃ T, Keep (S - F = T) := ⟨_, ⟨rfl⟩⟩
      have wST : IntKind.i64.wrap (S - F) = T := by rw [wSF]; exact hT.out
      clear wSF
      obtain ⟨wo, rfl⟩ : ∃ x, x = wr := ⟨_, rfl⟩
      obtain ⟨w2, hw2⟩ : ∃ w2, wo.alloc (.cells #[.int .i64 0, .int .i64 1, .int .i64 2, .int .i64 3] 3) = w2 := ⟨_, rfl⟩
      obtain ⟨w3, hw3⟩ : ∃ w3, w2.alloc (.cells #[.int .i64 0, .int .i64 2, .int .i64 1, .int .i64 3] 3) = w3 := ⟨_, rfl⟩
      have b2 : BlkAt w2 wo.heap.size #[.int .i64 0, .int .i64 1, .int .i64 2, .int .i64 3] 3 := by rw [← hw2]; exact BlkAt.new _ _ _
      have hb2 : Below wo.heap.size wo w2 := by rw [← hw2]; exact (Below.refl _ _).alloc (Nat.le_refl _) _
      have b3 : BlkAt w3 w2.heap.size #[.int .i64 0, .int .i64 2, .int .i64 1, .int .i64 3] 3 := by rw [← hw3]; exact BlkAt.new _ _ _
      have hb3 : Below w2.heap.size w2 w3 := by rw [← hw3]; exact (Below.refl _ _).alloc (Nat.le_refl _) _
      have b2 := b2.after hb3
      have hb13 := hb2.trans (hb3.mono hb2.size)
      have hbw3 := hb1.trans (hb13.mono hb1.size)
      have hwn : w2.heap.size = wo.heap.size + 1 := by rw [← hw2]; simp
      have hgz1 : ¬ wo.heap.size = w2.heap.size := by omega
      clear hb2 hb3 hS0 hwn
      go_wp2
      go_loopw [10] (fun i wr => ∃ j : Nat, j ≤ 4 ∧ i = .int .i64 j ∧ Below w3.heap.size w3 wr) (fun i _ => 4 - (intOf i).toNat)
      case atStart => exact ⟨0, by omega, rfl, Below.refl _ _⟩
      case round =>
        obtain ⟨j, hj, rfl, hbr⟩ := hrel
        by_cases hj4 : j < 4
        · have hj4' : (j : Int) < 4 := by omega
          have r1 : wr.cell? ⟨wo.heap.size, j, none⟩ = some (.int .i64 (j : Nat)) := row4 (f := fun k => k) (b2.after hbr) hj4
          have r2 := row4 (f := othN) (b3.after hbr) hj4
          have hrr : (j = 0 ∧ othN j = 0) ∨ (j = 1 ∧ othN j = 2) ∨ (j = 2 ∧ othN j = 1) ∨ (j = 3 ∧ othN j = 3) := by
            obtain rfl | rfl | rfl | rfl : j = 0 ∨ j = 1 ∨ j = 2 ∨ j = 3 := by omega
            · exact .inl ⟨rfl, rfl⟩
            · exact .inr (.inl ⟨rfl, rfl⟩)
            · exact .inr (.inr (.inl ⟨rfl, rfl⟩))
            · exact .inr (.inr (.inr ⟨rfl, rfl⟩))
          obtain ⟨r', hr'⟩ : ∃ r', Keep (othN j = r') := ⟨_, ⟨rfl⟩⟩
          rw [hr'.out] at r2 hrr
          have hj5 : j ≤ 4 := by omega
          have hr5 : r' ≤ 4 := by omega
          have hrrK := Keep.mk hrr
          have hIn := fun W (hb : Below wo.heap.size wo W) => intsO_below hoK.out hb
          have hbo := hb13.trans (hbr.mono hb13.size)
          have hEA : 0 ≤ F ∧ F ≤ l.sum := by rw [hS.out]; exact hF
          have hEB : 0 ≤ T ∧ T ≤ l.sum := by rw [hS.out]; have := hT.out; omega
          have qA := fun W hb => awardM (r := j) (w := W) hj5 (hIn W hb) hVK.out hEA
          have qB := fun W hb => awardM (r := r') (w := W) hr5 (hIn W hb) hVK.out hEB
          have hEAK := Keep.mk hEA
          have hEBK := Keep.mk hEB
          have hFK := Keep.mk hF
          rw [hn.out] at qA qB
          clear hIn hrr hV hF hEA hEB
          obtain ⟨wi, rfl⟩ : ∃ x, x = wr := ⟨_, rfl⟩
          go_wp2_with (first
            | (go_at_call 22; (with_reducible refine (qA _ hbo).mono ?_); rintro e w5 ⟨G1, N1, L1, rfl, m1, hG1, hb5⟩
               have hbo5 := hbo.trans (hb5.mono hbo.size)
               have hbr5 := hbr.trans (hb5.mono hbr.size)
               have r2 := cell_below r2 hb5
               clear hb5)
            | (go_at_call 22; (with_reducible refine (qB _ hbo5).mono ?_); rintro e w6 ⟨G2, N2, L2, rfl, m2, hG2, hb6⟩
               have hbr6 := hbr5.trans (hb6.mono hbr5.size)
               have m1 := m1.after hb6
               clear hb6)
            | (go_at_call 56; (with_reducible refine (fitM hj5 hVK.out hEAK.out m1).mono ?_); rintro e w7 ⟨rfl, hb7⟩
               have hbr7 := hbr6.trans (hb7.mono hbr6.size)
               have m1 := m1.after hb7
               have m2 := m2.after hb7
               clear hb7)
            | (go_at_call 56; (with_reducible refine (fitM hr5 hVK.out hEBK.out m2).mono ?_); rintro e w8 ⟨rfl, hb8⟩
               have hbr8 := hbr7.trans (hb8.mono hbr7.size)
               have m1 := m1.after hb8
               have m2 := m2.after hb8
               clear hb8))
          go_loopw [15] (fun i wr => ∃ m : Nat, m ≤ n ∧ i = .int .i64 m ∧ Below w8.heap.size w8 wr) (fun i _ => n - (intOf i).toNat)
          case atStart => exact ⟨0, by omega, rfl, Below.refl _ _⟩
          case round =>
          obtain ⟨m, hm, rfl, hbq⟩ := hrel
          by_cases hmn : m < n
          · have hmn' : (m : Int) < (n : Int) := by omega
            have hml : m < l.length := by have := hn.out; omega
            obtain ⟨gz, oz, rfl, hzk⟩ := hcK.out m hml
            have hzk := cell_below hzk (hb13.trans ((hbr8.trans (hbq.mono hbr8.size)).mono hb13.size))
            obtain ⟨g1, o1, e1, ha1, ha2⟩ := (m1.after hbq).at hml
            injection e1 with e1
            injection e1 with e1 e2
            subst e1 e2
            obtain ⟨g2, o2, e1, hd1, hd2⟩ := (m2.after hbq).at hml
            injection e1 with e1
            injection e1 with e1 e2
            subst e1 e2
            rw [Nat.zero_add] at ha1 ha2 hd1 hd2
            have hcm := getz (zs := l) hml
            have hdu := aw_dual hrrK.out m1.lev (by rw [hS.out, hT.out]; exact m2.lev) (fun z hz => (hVK.out.2.2 z hz).1) hEAK.out.1 hEAK.out.2 _ hcm
            have B1 := aw_Bd hj5 hVK.out hEAK.out m1.lev hcm
            have B2 := aw_Bd hr5 hVK.out hEBK.out m2.lev hcm
            have q52 := fun w => refAdd_red B1 B2 w
            have hD1 := B1.q1
            have hD2 := B2.q1
            rw [hS.out] at hdu ha1 ha2 hd1 hd2 q52 hD1 hD2
            rw [hT.out] at hdu
            generalize l.getD m 0 = c at *
            generalize awX j S F N1 L1 c = X at *
            generalize awX r' S T N2 L2 c = Y at *
            generalize awD j S N1 = D at *
            generalize awD r' S N2 = D' at *
            rw [redV_same (mul_pos1 hD1 hD2) (by omega) (show (X * D' + Y * D) * 1 = c * (D * D') by rw [Int.mul_one]; exact hdu), redV_one] at q52
            have q29 := fun w => refWhole_any c w
            have eC := eqS c 1
            unfold redV fracV at q52
            unfold fracV at q29
            obtain ⟨x0, hx0⟩ : ∃ x, Keep (redN X D = x) := ⟨_, ⟨rfl⟩⟩
            obtain ⟨x1, hx1⟩ : ∃ x, Keep (redD X D = x) := ⟨_, ⟨rfl⟩⟩
            obtain ⟨y0, hy0⟩ : ∃ x, Keep (redN Y D' = x) := ⟨_, ⟨rfl⟩⟩
            obtain ⟨y1, hy1⟩ : ∃ x, Keep (redD Y D' = x) := ⟨_, ⟨rfl⟩⟩
            rw [hx0.out] at ha1 q52
            rw [hx1.out] at ha2 q52
            rw [hy0.out] at hd1 q52
            rw [hy1.out] at hd2 q52
            clear hdu B1 B2 hD1 hD2 hcm hx0 hx1 hy0 hy1
            go_wp2
            refine (wpIn_wide (n := 0)).1 ?_
            refine Many.region_many (Cb wr) mixed_ok (by kernel_rfl) (fun _ _ _ _ h => h) (fun s _ => Cb.start wr s) ?_
            refine Many.lex_want (by rfl) (rdb (fun w hb => by (go_simp; try rfl))) ?_
            simp only [Act.put, List.setIfInBounds_toArray, List.set_cons_succ, List.set_cons_zero, Nat.reduceAdd]
            refine Many.lex_want (by rfl) (rdb (fun w hb => by (go_simp; try rfl))) ?_
            simp only [Act.put, List.setIfInBounds_toArray, List.set_cons_succ, List.set_cons_zero, Nat.reduceAdd]
            refine Many.lex_want (by rfl) (rdb (v := .pointer (some ⟨G1, m * 2, none⟩)) (fun w hb => by (skip; go_simp; try rfl))) ?_
            simp only [Act.put, List.setIfInBounds_toArray, List.set_cons_succ, List.set_cons_zero, Nat.reduceAdd]
            refine Many.lex_want (by rfl) (rdb (v := .agg #[.int .i64 x0, .int .i64 x1]) (fun w hb => by (have c0 := cell_below ha1 hb; have c1 := cell_below ha2 hb; go_simp; try rfl))) ?_
            simp only [Act.put, List.setIfInBounds_toArray, List.set_cons_succ, List.set_cons_zero, Nat.reduceAdd]
            refine Many.lex_want (by rfl) (rdb (fun w hb => by (go_simp; try rfl))) ?_
            simp only [Act.put, List.setIfInBounds_toArray, List.set_cons_succ, List.set_cons_zero, Nat.reduceAdd]
            refine Many.lex_want (by rfl) (rdb (fun w hb => by (go_simp; try rfl))) ?_
            simp only [Act.put, List.setIfInBounds_toArray, List.set_cons_succ, List.set_cons_zero, Nat.reduceAdd]
            refine Many.lex_want (by rfl) (rdb (v := .pointer (some ⟨G2, m * 2, none⟩)) (fun w hb => by (skip; go_simp; try rfl))) ?_
            simp only [Act.put, List.setIfInBounds_toArray, List.set_cons_succ, List.set_cons_zero, Nat.reduceAdd]
            refine Many.lex_want (by rfl) (rdb (v := .agg #[.int .i64 y0, .int .i64 y1]) (fun w hb => by (have c0 := cell_below hd1 hb; have c1 := cell_below hd2 hb; go_simp; try rfl))) ?_
            simp only [Act.put, List.setIfInBounds_toArray, List.set_cons_succ, List.set_cons_zero, Nat.reduceAdd]
            refine Many.lex_want (by rfl) (clb q52 (fun w hb => by (go_simp; try rfl))) ?_
            simp only [Act.put, List.setIfInBounds_toArray, List.set_cons_succ, List.set_cons_zero, Nat.reduceAdd]
            refine Many.lex_want (by rfl) (rdb (fun w hb => by (go_simp; try rfl))) ?_
            simp only [Act.put, List.setIfInBounds_toArray, List.set_cons_succ, List.set_cons_zero, Nat.reduceAdd]
            refine Many.lex_want (by rfl) (rdb (fun w hb => by (go_simp; try rfl))) ?_
            simp only [Act.put, List.setIfInBounds_toArray, List.set_cons_succ, List.set_cons_zero, Nat.reduceAdd]
            refine Many.lex_want (by rfl) (rdb (v := .pointer (some ⟨gz, oz + m, none⟩)) (fun w hb => by (skip; go_simp; try rfl))) ?_
            simp only [Act.put, List.setIfInBounds_toArray, List.set_cons_succ, List.set_cons_zero, Nat.reduceAdd]
            refine Many.lex_want (by rfl) (rdb (v := .int .i64 c) (fun w hb => by (have c0 := cell_below hzk hb; go_simp; try rfl))) ?_
            simp only [Act.put, List.setIfInBounds_toArray, List.set_cons_succ, List.set_cons_zero, Nat.reduceAdd]
            refine Many.lex_want (by rfl) (clb q29 (fun w hb => by (go_simp; try rfl))) ?_
            simp only [Act.put, List.setIfInBounds_toArray, List.set_cons_succ, List.set_cons_zero, Nat.reduceAdd]
            refine Many.lex_want (by rfl) (rdb (v := .bool false) (fun w hb => by (have e := eC; go_simp; try rfl))) ?_
            simp only [Act.put, List.setIfInBounds_toArray, List.set_cons_succ, List.set_cons_zero, Nat.reduceAdd]
            refine Many.lex_nil fun s W1 hs hC => ?_
            have hC : Below wr.heap.size wr W1 := hC
            have hbq2 := hbq.trans (hC.mono hbq.size)
            clear hC hs
            go_wp2
            exact ⟨⟨m + 1, by omega, by go_num, hbq2⟩, by simp [intOf]; omega⟩
          · obtain rfl : m = n := by omega
            have hbr9 := hbr8.trans (hbq.mono hbr8.size)
            go_wp2
            exact ⟨⟨j + 1, by omega, by go_num, hbr9⟩, by simp [intOf]; omega⟩
        · obtain rfl : j = 4 := by omega
          have hb9 := hbw3.trans (hbr.mono hbw3.size)
          go_wp2_with (go_at_call 25; refine (awake_any _).mono ?_; rintro e w9 ⟨rfl, hb10⟩)
          go_ret
          exact ⟨rfl, hb9.trans (hb10.mono hb9.size)⟩
end Go.Proofs.Ytbocmbhinjkjlaa
