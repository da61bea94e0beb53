/- The law SharesOrder: its walk. -/
import Derived.Test.YtbocmbhinjkjlaaFvReg
import Derived.Test.YtbocmbhinjkjlaaDivides
set_option linter.unusedSimpArgs false
set_option linter.unusedVariables false
namespace Go.Proofs.Ytbocmbhinjkjlaa
open Go Go.Proofs Go.RowKit Go.Seq Go.Sort
def sumX (r : Nat) (l : List Int) (E N L : Int) (k : Nat) : Int := ((l.take k).map fun c => awX r l.sum E N L c).sum
theorem sumX_step {r : Nat} {l : List Int} {E N L : Int} {k : Nat} (h : k < l.length) : sumX r l E N L (k + 1) = sumX r l E N L k + awX r l.sum E N L (l.getD k 0) := by
  unfold sumX
  rw [takez h, List.map_append, List.sum_append]; simp
theorem sumX_bound {r : Nat} {l : List Int} {E N L : Int} (hr : r ≤ 4) (hV : Valid l) (hE : 0 ≤ E ∧ E ≤ l.sum) (h : LevR r l E N L) : ∀ k, 0 ≤ sumX r l E N L k ∧ sumX r l E N L k ≤ 10000000 * (k : Int)
  | 0 => by simp [sumX]
  | k + 1 => by
    have ih := sumX_bound hr hV hE h k
    rcases Nat.lt_or_ge k l.length with hk | hk
    · rw [sumX_step hk]
      have := aw_bd hr hV hE h (getz hk)
      omega
    · unfold sumX at *
      rw [List.take_of_length_le hk] at ih
      rw [List.take_of_length_le (by omega)]
      omega
theorem sum_step_red {p x D : Int} (hD : 1 ≤ D) : redV (p * D + x * D) (D * D) = redV (p + x) D := by
  refine redV_same (mul_pos1 hD hD) hD ?_
  rw [← Int.add_mul]; ac_rfl
theorem AwM.two {W : World} {G n : Nat} {r : Nat} {zs : List Int} {E N L : Int} (h : AwM W (.slice (some ⟨G, 0, none⟩) n n) r zs E N L) {k : Nat} (hk : k < zs.length) : W.cell? ⟨G, k * 2, none⟩ = some (.int .i64 (redN (awX r zs.sum E N L (zs.getD k 0)) (awD r zs.sum N))) ∧ W.cell? ⟨G, k * 2 + 1, none⟩ = some (.int .i64 (redD (awX r zs.sum E N L (zs.getD k 0)) (awD r zs.sum N))) := by
  obtain ⟨g, o, e, h1, h2⟩ := h.at hk
  injection e with e
  injection e with e1 e2
  subst e1 e2
  rw [Nat.zero_add] at h1 h2
  exact ⟨h1, h2⟩
set_option maxHeartbeats 8000000 in
set_option maxRecDepth 100000 in
theorem orderLaw_any {v : Value} {zs : List Int} {E R : Int} {w : World} (hv : IntsO w v zs) :
    Calls Try.prog 12 #[v, .int .i64 E, .int .i64 R] w fun e w' => e = .returned (.bool true) ∧ Below w.heap.size w w' := by
  have hvK := Keep.mk hv
  obtain ⟨A0, cap0, rfl, -⟩ := hv
  generalize zs.length = n0 at *
  have q57 := fun w => mod_bI R (m := 5) (by omega) (by omega) w
  have hr5 := modN_lt R (m := 5) (by omega)
  obtain ⟨r, hr⟩ : ∃ r, Keep (modN R 5 = r) := ⟨_, ⟨rfl⟩⟩
  rw [hr.out] at q57 hr5
  rw [show (((5 : Nat)) : Int) = 5 from rfl] at q57
  have hr4 : r ≤ 4 := by omega
  clear hr hr5
  go_enter Try.func12, Try.ntmps12
  go_wp2_with (first
    | (go_at_call 55; (with_reducible refine (tame_both hvK.out).mono ?_); rintro e w0 ⟨v', F, rfl, ho, hF, hb0⟩
       have hV := tameL_valid zs
       obtain ⟨l, hl⟩ : ∃ l, tameL zs = l := ⟨_, rfl⟩
       rw [hl] at ho hF hV
       clear hl hvK
       obtain ⟨A, cap, rfl, hcell⟩ := ho
       obtain ⟨n, hn⟩ : ∃ n, Keep (l.length = n) := ⟨_, ⟨rfl⟩⟩
       rw [hn.out])
    | (go_at_call 57; (with_reducible refine (q57 _).mono ?_); rintro e w1 ⟨rfl, hb1⟩
       have ho : IntsO w1 (.slice A l.length cap) l := intsO_below ⟨A, cap, rfl, hcell⟩ hb1
       have hb1 := hb0.trans (hb1.mono hb0.size)
       have hoK := Keep.mk ho
       rw [hn.out] at hoK
       obtain ⟨A', cap', e1, hcell⟩ := ho
       injection e1 with e1 e2 e3
       subst e1 e3
       have hcK := Keep.mk hcell
       clear hcell))
  have hn10 : n ≤ 10 := by have := hV.2.1; have := hn.out; omega
  have hVK := Keep.mk hV
  go_loopw [8, 9] (fun s i wr => ∃ k : Nat, k ≤ n ∧ i = .int .i64 k ∧ s = .int .i64 (l.take k).sum ∧ wr = w1) (fun _ i _ => n - (intOf i).toNat)
  case atStart => exact ⟨0, by omega, rfl, by simp, rfl⟩
  case round =>
    obtain ⟨k, hk, rfl, rfl, rfl⟩ := hrel
    by_cases hkn : k < n
    · have hkn' : (k : Int) < (n : Int) := by omega
      obtain ⟨gz, oz, rfl, hzk⟩ := hcK.out k (by have := hn.out; omega)
      have hst := Keep.mk (sum_take (zs := l) (k := k) (by have := hn.out; omega))
      have hs1 := sum_bound hVK.out.2.2 (k + 1)
      rw [hst.out] at hs1
      have wS : IntKind.i64.wrap ((l.take k).sum + l.getD k 0) = (l.take k).sum + l.getD k 0 := IntWalk.i64_in _ (by omega)
      generalize l.getD k 0 = c at *
      clear hs1
      go_wp2
      exact ⟨⟨k + 1, by omega, by go_num, by rw [hst.out], by first | rfl | trivial⟩, by simp [intOf]; omega⟩
    · obtain rfl : n = k := by omega
      have hS0 : (l.take n).sum = l.sum := by rw [List.take_of_length_le (by have := hn.out; omega)]
      rw [hS0]
      have hSb := sum_in hVK.out
      obtain ⟨S, hS⟩ : ∃ S, Keep (l.sum = S) := ⟨_, ⟨rfl⟩⟩
      rw [hS.out] at hSb hF ⊢
      have wF1 : IntKind.i64.wrap (F + 1) = F + 1 := IntWalk.i64_in _ (by omega)
      obtain ⟨F2, hF2⟩ : ∃ F2, min S (F + 1) = F2 := ⟨_, rfl⟩
      have hF2b : F ≤ F2 ∧ F2 ≤ S ∧ 0 ≤ F2 := by omega
      obtain ⟨wo, rfl⟩ : ∃ x, x = wr := ⟨_, rfl⟩
      have hIn := fun W (hb : Below wo.heap.size wo W) => intsO_below hoK.out hb
      have hEA : 0 ≤ F ∧ F ≤ l.sum := by rw [hS.out]; exact hF
      have hEB : 0 ≤ F2 ∧ F2 ≤ l.sum := by rw [hS.out]; exact ⟨hF2b.2.2, hF2b.2.1⟩
      have qA := fun W hb => awardM (r := r) (w := W) hr4 (hIn W hb) hVK.out hEA
      have qB := fun W hb => awardM (r := r) (w := W) hr4 (hIn W hb) hVK.out hEB
      have hEAK := Keep.mk hEA
      have hEBK := Keep.mk hEB
      have hFK := Keep.mk hF
      have hF2K := Keep.mk hF2b
      rw [hn.out] at qA qB
      have q290 := fun w => refWhole_any 0 w
      unfold fracV at q290
      clear hIn hV hF hEA hEB hS0 hF2b
      go_wp2_with (first
        | (go_at_call 22; (with_reducible refine (qA _ (Below.refl _ _)).mono ?_); rintro e w5 ⟨G1, N1, L1, rfl, m1, hG1, hbo5⟩)
        | (go_at_call 22; (with_reducible refine (qB _ hbo5).mono ?_); rintro e w6 ⟨G2, N2, L2, rfl, m2, hG2, hb6⟩
           have hbo6 := hbo5.trans (hb6.mono hbo5.size)
           have m1 := m1.after hb6
           clear hb6)
        | (go_at_call 56; (with_reducible refine (fitM hr4 hVK.out hEAK.out m1).mono ?_); rintro e w7 ⟨rfl, hb7⟩
           have hbo7 := hbo6.trans (hb7.mono hbo6.size)
           have m1 := m1.after hb7
           have m2 := m2.after hb7
           clear hb7)
        | (go_at_call 56; (with_reducible refine (fitM hr4 hVK.out hEBK.out m2).mono ?_); rintro e w8 ⟨rfl, hb8⟩
           have hbo8 := hbo7.trans (hb8.mono hbo7.size)
           have m1 := m1.after hb8
           have m2 := m2.after hb8
           clear hb8)
        | (go_at_call 29; (with_reducible refine (q290 _).mono ?_); rintro e w9 ⟨rfl, hb9⟩
           obtain ⟨wa, hwa⟩ : ∃ wa, w9.alloc (.cells #[.int .i64 0, .int .i64 1] 37) = wa := ⟨_, rfl⟩
           have hba : Below w9.heap.size w9 wa := by rw [← hwa]; exact (Below.refl _ _).alloc (Nat.le_refl _) _
           have o14 : BlkAt wa w9.heap.size #[.int .i64 0, .int .i64 1] 37 := by rw [← hwa]; exact BlkAt.new _ _ _
           have hm1G : ∀ W, Below w9.heap.size wa W → AwM W (.slice (some ⟨G1, 0, none⟩) n n) r l F N1 L1 := fun W hb => (m1.after hb9).after (hba.trans hb)
           have hm2G : ∀ W, Below w9.heap.size wa W → AwM W (.slice (some ⟨G2, 0, none⟩) n n) r l F2 N2 L2 := fun W hb => (m2.after hb9).after (hba.trans hb)
           have hbo9 := hbo8.trans (hb9.mono hbo8.size)
           have hboa := hbo9.trans (hba.mono hbo9.size)
           have hg9 := hba.size
           clear hb9 hba))
      obtain ⟨G0, hG0⟩ : ∃ G0, w9.heap.size = G0 := ⟨_, rfl⟩
      rw [hG0] at o14 hg9 hm1G hm2G ⊢
      have hboG : wo.heap.size ≤ G0 := by rw [← hG0]; exact hbo9.size
      have hG9 := hG0
      clear hG0 qA qB q290
      have hDA := awD_one (r := r) (S := l.sum) m1.lev.n1
      have lv1 := Keep.mk m1.lev
      have lv2 := Keep.mk m2.lev
      have hsB := Keep.mk (sumX_bound hr4 hVK.out hEAK.out m1.lev)
      clear m1 m2
      obtain ⟨D, hD⟩ : ∃ D, Keep (awD r l.sum N1 = D) := ⟨_, ⟨rfl⟩⟩
      rw [hD.out] at hDA
      go_loopw [15] (fun i wr => ∃ j : Nat, j ≤ n ∧ i = .int .i64 j ∧ Below G0 wa wr ∧ BlkAt wr G0 #[.int .i64 (redN (sumX r l F N1 L1 j) D), .int .i64 (redD (sumX r l F N1 L1 j) D)] 37) (fun i _ => n - (intOf i).toNat)
      case atStart =>
        refine ⟨0, by omega, rfl, Below.refl _ _, ?_⟩
        have e0 : redV (sumX r l F N1 L1 0) D = fracV 0 1 := redV_zero hDA
        unfold redV fracV at e0
        injection e0 with e0
        rw [e0]; exact o14
      case round =>
        obtain ⟨j, hj, rfl, hbq, o14⟩ := hrel
        have hbz := hbq.size
        have hboq := hboa.trans (hbq.mono hboG)
        by_cases hjn : j < n
        · have hjn' : (j : Int) < (n : Int) := by omega
          have hjl : j < l.length := by have := hn.out; omega
          obtain ⟨gz, oz, rfl, hzk0⟩ := hcK.out j hjl
          have hz := fun W (hb : Below G0 wa W) => cell_below hzk0 (hboa.trans (hb.mono hboG))
          have ha := fun W hb => (hm1G W hb).two hjl
          have hd := fun W hb => (hm2G W hb).two hjl
          have hcm := getz (zs := l) hjl
          have B1 := aw_Bd hr4 hVK.out hEAK.out lv1.out hcm
          have B2 := aw_Bd hr4 hVK.out hEBK.out lv2.out hcm
          have hin := awX_in (E := F) (N := N1) (L := L1) (c := l.getD j 0) hr4 hEAK.out lv1.out.n1 lv1.out.l0 (hVK.out.2.2 _ hcm).1
          have hgr := aw_grows hr4 lv1.out lv2.out (fun z hz => (hVK.out.2.2 z hz).1) hEAK.out.1 hF2K.out.1 hEBK.out.2 _ hcm
          have hsb := hsB.out j
          have hss := Keep.mk (sumX_step (r := r) (E := F) (N := N1) (L := L1) hjl)
          have hczb := hVK.out.2.2 _ hcm
          have hord := Keep.mk (fun c2 (h : l.getD j 0 ≤ c2) => aw_order (r := r) (S := l.sum) (E := F) (N := N1) (L := L1) hr4 hEAK.out.1 lv1.out.n1 h)
          rw [hD.out] at ha B1 hin hgr
          generalize l.getD j 0 = c at *
          obtain ⟨X, hX⟩ : ∃ X, Keep (awX r l.sum F N1 L1 c = X) := ⟨_, ⟨rfl⟩⟩
          obtain ⟨Y, hY⟩ : ∃ Y, Keep (awX r l.sum F2 N2 L2 c = Y) := ⟨_, ⟨rfl⟩⟩
          obtain ⟨D', hD'⟩ : ∃ D', Keep (awD r l.sum N2 = D') := ⟨_, ⟨rfl⟩⟩
          obtain ⟨p, hp⟩ : ∃ p, Keep (sumX r l F N1 L1 j = p) := ⟨_, ⟨rfl⟩⟩
          rw [hX.out] at ha B1 hin hgr hss
          rw [hY.out, hD'.out] at hd B2
          rw [hY.out, hD'.out] at hgr
          rw [hp.out] at hss hsb o14
          have bS : Bd p D := ⟨by omega, by omega, B1.q1, B1.q2⟩
          have Bc : Bd c 1 := ⟨by omega, by omega, by omega, by omega⟩
          have q52 := fun w => refAdd_red bS B1 w
          rw [sum_step_red B1.q1, ← hss.out] at q52
          have q53a := fun w => refLess_red Bc B1 w
          rw [redV_one, show decide (c * D < X * 1) = false from decide_eq_false (by omega)] at q53a
          have q53b := fun w => refLess_red B2 B1 w
          rw [show decide (Y * D < X * D') = false from decide_eq_false (by omega)] at q53b
          have q29c := fun w => refWhole_any c w
          have B1K := Keep.mk B1
          unfold redV at q52 q53a q53b
          obtain ⟨s0, hs0⟩ : ∃ z, Keep (redN p D = z) := ⟨_, ⟨rfl⟩⟩
          obtain ⟨s1, hs1⟩ : ∃ z, Keep (redD p D = z) := ⟨_, ⟨rfl⟩⟩
          obtain ⟨x0, hx0⟩ : ∃ z, Keep (redN X D = z) := ⟨_, ⟨rfl⟩⟩
          obtain ⟨x1, hx1⟩ : ∃ z, Keep (redD X D = z) := ⟨_, ⟨rfl⟩⟩
          obtain ⟨y0, hy0⟩ : ∃ z, Keep (redN Y D' = z) := ⟨_, ⟨rfl⟩⟩
          obtain ⟨y1, hy1⟩ : ∃ z, Keep (redD Y D' = z) := ⟨_, ⟨rfl⟩⟩
          obtain ⟨u0, hu0⟩ : ∃ z, Keep (redN (sumX r l F N1 L1 (j + 1)) D = z) := ⟨_, ⟨rfl⟩⟩
          obtain ⟨u1, hu1⟩ : ∃ z, Keep (redD (sumX r l F N1 L1 (j + 1)) D = z) := ⟨_, ⟨rfl⟩⟩
          rw [hs0.out, hs1.out] at o14
          rw [hs0.out, hs1.out, hx0.out, hx1.out, hu0.out, hu1.out] at q52
          rw [hx0.out, hx1.out] at q53a ha
          rw [hx0.out, hx1.out, hy0.out, hy1.out] at q53b
          rw [hy0.out, hy1.out] at hd
          unfold fracV at q52 q53a q53b q29c
          have hGz : G0 ≤ wr.heap.size := Nat.le_trans (by omega) hbz
          obtain ⟨wi, rfl⟩ : ∃ x, x = wr := ⟨_, rfl⟩
          clear B1 B2 hin hgr hsb hss bS Bc hczb hcm hs0 hs1 hy0 hy1
          go_wp2
          refine (wpIn_wide (n := 0)).1 ?_
          refine Inv.region_inv (fun t act W => act = { tmps := #[Value.slice A0 n0 cap0, Value.int IntKind.i64 F, Value.int IntKind.i64 (r : Nat), undef, undef, undef, u6, Value.slice (some ⟨gz, oz, none⟩) n cap, Value.int IntKind.i64 S, Value.int IntKind.i64 (n : Nat), Value.slice (some ⟨G1, 0, none⟩) n n, Value.int IntKind.i64 0, Value.slice (some ⟨G2, 0, none⟩) n n, Value.int IntKind.i64 0, Value.pointer (some ⟨G0, 0, none⟩), Value.int IntKind.i64 (j : Nat), u16, Value.tuple #[Value.slice (some ⟨gz, oz, none⟩) n cap, Value.int IntKind.i64 F], Value.slice A0 n0 cap0, Value.int IntKind.i64 E, Value.tuple #[Value.slice (some ⟨gz, oz, none⟩) n cap, Value.int IntKind.i64 F], Value.slice (some ⟨gz, oz, none⟩) n cap, Value.int IntKind.i64 F, Value.int IntKind.i64 R, Value.int IntKind.i64 (r : Nat), Value.int IntKind.i64 (n : Nat), Value.slice (some ⟨gz, oz, none⟩) n cap, Value.int IntKind.i64 (n : Nat), Value.bool false, u29, u30, u31, u32, u33, u34, u35, u36, Value.tuple #[Value.slice (some ⟨G1, 0, none⟩) n n, Value.int IntKind.i64 0], Value.int IntKind.i64 (r : Nat), Value.slice (some ⟨gz, oz, none⟩) n cap, Value.int IntKind.i64 F, Value.tuple #[Value.slice (some ⟨G1, 0, none⟩) n n, Value.int IntKind.i64 0], Value.slice (some ⟨G1, 0, none⟩) n n, Value.int IntKind.i64 0, Value.tuple #[Value.slice (some ⟨G2, 0, none⟩) n n, Value.int IntKind.i64 0], Value.int IntKind.i64 (r : Nat), Value.slice (some ⟨gz, oz, none⟩) n cap, Value.int IntKind.i64 S, Value.int IntKind.i64 F, Value.int IntKind.i64 (F + 1), Value.int IntKind.i64 F2, Value.tuple #[Value.slice (some ⟨G2, 0, none⟩) n n, Value.int IntKind.i64 0], Value.slice (some ⟨G2, 0, none⟩) n n, Value.int IntKind.i64 0, Value.int IntKind.i64 0, Value.bool false, Value.bool false, Value.int IntKind.i64 0, Value.bool false, Value.bool false, Value.bool false, Value.slice (some ⟨G1, 0, none⟩) n n, Value.int IntKind.i64 (n : Nat), Value.slice (some ⟨gz, oz, none⟩) n cap, Value.int IntKind.i64 (n : Nat), Value.bool false, Value.bool false, Value.bool false, Value.slice (some ⟨G2, 0, none⟩) n n, Value.int IntKind.i64 (n : Nat), Value.slice (some ⟨gz, oz, none⟩) n cap, Value.int IntKind.i64 (n : Nat), Value.bool false, Value.bool false, Value.bool false, Value.slice (some ⟨G1, 0, none⟩) n n, Value.bool true, Value.bool false, Value.bool false, Value.bool false, Value.slice (some ⟨G2, 0, none⟩) n n, Value.bool true, Value.bool false, Value.bool false, Value.agg #[Value.int IntKind.i64 0, Value.int IntKind.i64 1], Value.int IntKind.i64 (j : Nat), Value.slice (some ⟨gz, oz, none⟩) n cap, Value.int IntKind.i64 (n : Nat), Value.bool true, u89, u90, if t 0 = true then .agg #[.int .i64 s0, .int .i64 s1] else u91, if t 1 = true then .slice (some ⟨G1, 0, none⟩) n n else u92, if t 2 = true then .int .i64 (j : Nat) else u93, if t 3 = true then .pointer (some ⟨G1, j * 2, none⟩) else u94, if t 4 = true then .agg #[.int .i64 x0, .int .i64 x1] else u95, if t 5 = true then .agg #[.int .i64 u0, .int .i64 u1] else u96, u97, u98, u99, u100, u101, u102, u103, u104, u105, u106, u107, u108, u109, u110, u111, u112, u113, u114, u115, u116, u117, u118, u119, u120, u121, u122, u123, u124, u125, u126, u127, u128, u129, u130, u131, u132, u133, u134, u135, u136, u137, u138, u139, u140, u141, u142, u143, undef, undef, undef, undef, undef, undef, undef], defers := [] } ∧ C1K wi G0 6 5 0 #[.int .i64 s0, .int .i64 s1] #[.int .i64 u0, .int .i64 u1] 37 t  W) mixed_ok (by kernel_rfl) ?_ ?_ ?_
          · intro t hs
            refine ⟨?_, C1K.start o14 (hs 6 (by decide)) (hs 5 (by decide))⟩
            simp only [hs 0 (by decide), hs 1 (by decide), hs 2 (by decide), hs 3 (by decide), hs 4 (by decide), hs 5 (by decide), hs 6 (by decide), Bool.false_eq_true, if_false]
          · refine ⟨?_, ?_, ?_, ?_, ?_, ?_, ?_, trivial⟩
            · rintro t act W hun hdep hbeh ⟨rfl, hT⟩
              (try simp only [Nat.reduceAdd] at hun)
              obtain ⟨c50, c51, f50, f51⟩ := hT.own0 hun
              refine .inl ⟨by rfl, Inv.comesV_val (.agg #[.int .i64 s0, .int .i64 s1]) W (by (go_simp; try rfl)) ⟨by (simp only [Act.put, List.setIfInBounds_toArray, List.set_cons_succ, List.set_cons_zero, Manyd.upd, Nat.reduceAdd, Nat.reduceBEq, Bool.or_false, Bool.or_true, if_true]), C1K.keep (i := 0) (by decide) (by decide) hT⟩⟩
            · rintro t act W hun hdep hbeh ⟨rfl, hT⟩
              (try simp only [Nat.reduceAdd] at hun)
              refine .inl ⟨by rfl, Inv.comesV_val (.slice (some ⟨G1, 0, none⟩) n n) W (by (go_simp; try rfl)) ⟨by (simp only [Act.put, List.setIfInBounds_toArray, List.set_cons_succ, List.set_cons_zero, Manyd.upd, Nat.reduceAdd, Nat.reduceBEq, Bool.or_false, Bool.or_true, if_true]), C1K.keep (i := 1) (by decide) (by decide) hT⟩⟩
            · rintro t act W hun hdep hbeh ⟨rfl, hT⟩
              (try simp only [Nat.reduceAdd] at hun)
              refine .inl ⟨by rfl, Inv.comesV_val (.int .i64 (j : Nat)) W (by (go_simp; try rfl)) ⟨by (simp only [Act.put, List.setIfInBounds_toArray, List.set_cons_succ, List.set_cons_zero, Manyd.upd, Nat.reduceAdd, Nat.reduceBEq, Bool.or_false, Bool.or_true, if_true]), C1K.keep (i := 2) (by decide) (by decide) hT⟩⟩
            · rintro t act W hun hdep hbeh ⟨rfl, hT⟩
              (try simp only [Nat.reduceAdd] at hun)
              have h1 : t 1 = true := Inv.depB_mem 1 hdep (by rfl)
              have h2 : t 2 = true := Inv.depB_mem 2 hdep (by rfl)
              refine .inl ⟨by rfl, Inv.comesV_val (.pointer (some ⟨G1, j * 2, none⟩)) W (by (simp only [h1, h2, if_true, Bool.false_eq_true, if_false]; go_simp; try rfl)) ⟨by (simp only [Act.put, List.setIfInBounds_toArray, List.set_cons_succ, List.set_cons_zero, Manyd.upd, Nat.reduceAdd, Nat.reduceBEq, Bool.or_false, Bool.or_true, if_true]), C1K.keep (i := 3) (by decide) (by decide) hT⟩⟩
            · rintro t act W hun hdep hbeh ⟨rfl, hT⟩
              (try simp only [Nat.reduceAdd] at hun)
              have h3 : t 3 = true := Inv.depB_mem 3 hdep (by rfl)
              obtain ⟨c0, c1⟩ := ha _ (hbq.trans (hT.kv.below (Nat.le_refl _) hGz))
              refine .inl ⟨by rfl, Inv.comesV_val (.agg #[.int .i64 x0, .int .i64 x1]) W (by (simp only [h3, if_true, Bool.false_eq_true, if_false]; go_simp; try rfl)) ⟨by (simp only [Act.put, List.setIfInBounds_toArray, List.set_cons_succ, List.set_cons_zero, Manyd.upd, Nat.reduceAdd, Nat.reduceBEq, Bool.or_false, Bool.or_true, if_true]), C1K.keep (i := 4) (by decide) (by decide) hT⟩⟩
            · rintro t act W hun hdep hbeh ⟨rfl, hT⟩
              (try simp only [Nat.reduceAdd] at hun)
              have h0 : t 0 = true := Inv.depB_mem 0 hdep (by rfl)
              have h4 : t 4 = true := Inv.depB_mem 4 hdep (by rfl)
              refine .inl ⟨by rfl, Inv.comesV_call 52 #[.agg #[.int .i64 s0, .int .i64 s1], .agg #[.int .i64 x0, .int .i64 x1]] W (by (simp only [h0, h4, if_true, Bool.false_eq_true, if_false]; go_simp; try rfl)) ((q52 W).mono fun e w5 hw5 => ⟨_, hw5.1, by (simp only [Act.put, List.setIfInBounds_toArray, List.set_cons_succ, List.set_cons_zero, Manyd.upd, Nat.reduceAdd, Nat.reduceBEq, Bool.or_false, Bool.or_true, if_true]), C1K.mid h0 (by decide) (hT.after hw5.2)⟩)⟩
            · rintro t act W hun hdep hbeh ⟨rfl, hT⟩
              (try simp only [Nat.reduceAdd] at hun)
              have h5 : t 5 = true := Inv.depB_mem 5 hdep (by rfl)
              obtain ⟨c50, c51, f50, f51⟩ := hT.own hun
              refine .inl ⟨by rfl, Inv.comesV_skip ((W.setCell ⟨G0, 0, none⟩ (.int .i64 u0)).setCell ⟨G0, 1, none⟩ (.int .i64 u1)) (by (simp only [h5, if_true, Bool.false_eq_true, if_false]; go_simp; try rfl)) ⟨by (simp only [Act.put, List.setIfInBounds_toArray, List.set_cons_succ, List.set_cons_zero, Manyd.upd, Nat.reduceAdd, Nat.reduceBEq, Bool.or_false, Bool.or_true, if_true]), C1K.set h5 hun hT⟩⟩
          rintro t a' W1 hs ⟨rfl, hT⟩
          simp only [hs 0 (by decide), hs 1 (by decide), hs 2 (by decide), hs 3 (by decide), hs 4 (by decide), hs 5 (by decide), hs 6 (by decide), if_true]
          have hB := hT.bv
          rw [if_pos (hs 6 (by decide))] at hB
          have hbq1 := hbq.trans (hT.kv.below (Nat.le_refl _) hGz)
          have hGz1 : G0 ≤ W1.heap.size := Nat.le_trans hGz hT.kv.size
          clear hT hs o14 q52
          go_wp2
          refine (wpIn_wide (n := 0)).1 ?_
          refine Many.region_many (Go.Proofs.Ytbocmbhinjkjlaa.Cb W1) mixed_ok (by kernel_rfl) (fun _ _ _ _ h => h) (fun s _ => Go.Proofs.Ytbocmbhinjkjlaa.Cb.start W1 s) ?_
          refine Many.lex_want (by rfl) (rdb (fun w hb => by (go_simp; try rfl))) ?_
          simp only [Act.put, List.setIfInBounds_toArray, List.set_cons_succ, List.set_cons_zero, Nat.reduceAdd]
          refine Many.lex_want (by rfl) (rdb (fun w hb => by (go_simp; try rfl))) ?_
          simp only [Act.put, List.setIfInBounds_toArray, List.set_cons_succ, List.set_cons_zero, Nat.reduceAdd]
          refine Many.lex_want (by rfl) (rdb (v := .pointer (some ⟨gz, oz + j, none⟩)) (fun w hb => by (skip; go_simp; try rfl))) ?_
          simp only [Act.put, List.setIfInBounds_toArray, List.set_cons_succ, List.set_cons_zero, Nat.reduceAdd]
          refine Many.lex_want (by rfl) (rdb (v := .int .i64 c) (fun w hb => by (have c0 := hz _ (hbq1.trans (hb.mono hGz1)); go_simp; try rfl))) ?_
          simp only [Act.put, List.setIfInBounds_toArray, List.set_cons_succ, List.set_cons_zero, Nat.reduceAdd]
          refine Many.lex_want (by rfl) (clb q29c (fun w hb => by (go_simp; try rfl))) ?_
          simp only [Act.put, List.setIfInBounds_toArray, List.set_cons_succ, List.set_cons_zero, Nat.reduceAdd]
          refine Many.lex_want (by rfl) (rdb (fun w hb => by (go_simp; try rfl))) ?_
          simp only [Act.put, List.setIfInBounds_toArray, List.set_cons_succ, List.set_cons_zero, Nat.reduceAdd]
          refine Many.lex_want (by rfl) (rdb (fun w hb => by (go_simp; try rfl))) ?_
          simp only [Act.put, List.setIfInBounds_toArray, List.set_cons_succ, List.set_cons_zero, Nat.reduceAdd]
          refine Many.lex_want (by rfl) (rdb (v := .pointer (some ⟨G1, j * 2, none⟩)) (fun w hb => by (skip; go_simp; try rfl))) ?_
          simp only [Act.put, List.setIfInBounds_toArray, List.set_cons_succ, List.set_cons_zero, Nat.reduceAdd]
          refine Many.lex_want (by rfl) (rdb (v := .agg #[.int .i64 x0, .int .i64 x1]) (fun w hb => by (obtain ⟨c0, c1⟩ := ha _ (hbq1.trans (hb.mono hGz1)); go_simp; try rfl))) ?_
          simp only [Act.put, List.setIfInBounds_toArray, List.set_cons_succ, List.set_cons_zero, Nat.reduceAdd]
          refine Many.lex_want (by rfl) (clb q53a (fun w hb => by (go_simp; try rfl))) ?_
          simp only [Act.put, List.setIfInBounds_toArray, List.set_cons_succ, List.set_cons_zero, Nat.reduceAdd]
          refine Many.lex_want (by rfl) (rdb (v := .bool false) (fun w hb => by (skip; go_simp; try rfl))) ?_
          simp only [Act.put, List.setIfInBounds_toArray, List.set_cons_succ, List.set_cons_zero, Nat.reduceAdd]
          refine Many.lex_want (by rfl) (rdb (fun w hb => by (go_simp; try rfl))) ?_
          simp only [Act.put, List.setIfInBounds_toArray, List.set_cons_succ, List.set_cons_zero, Nat.reduceAdd]
          refine Many.lex_want (by rfl) (rdb (fun w hb => by (go_simp; try rfl))) ?_
          simp only [Act.put, List.setIfInBounds_toArray, List.set_cons_succ, List.set_cons_zero, Nat.reduceAdd]
          refine Many.lex_want (by rfl) (rdb (v := .pointer (some ⟨G2, j * 2, none⟩)) (fun w hb => by (skip; go_simp; try rfl))) ?_
          simp only [Act.put, List.setIfInBounds_toArray, List.set_cons_succ, List.set_cons_zero, Nat.reduceAdd]
          refine Many.lex_want (by rfl) (rdb (v := .agg #[.int .i64 y0, .int .i64 y1]) (fun w hb => by (obtain ⟨c0, c1⟩ := hd _ (hbq1.trans (hb.mono hGz1)); go_simp; try rfl))) ?_
          simp only [Act.put, List.setIfInBounds_toArray, List.set_cons_succ, List.set_cons_zero, Nat.reduceAdd]
          refine Many.lex_want (by rfl) (rdb (fun w hb => by (go_simp; try rfl))) ?_
          simp only [Act.put, List.setIfInBounds_toArray, List.set_cons_succ, List.set_cons_zero, Nat.reduceAdd]
          refine Many.lex_want (by rfl) (rdb (fun w hb => by (go_simp; try rfl))) ?_
          simp only [Act.put, List.setIfInBounds_toArray, List.set_cons_succ, List.set_cons_zero, Nat.reduceAdd]
          refine Many.lex_want (by rfl) (rdb (v := .pointer (some ⟨G1, j * 2, none⟩)) (fun w hb => by (skip; go_simp; try rfl))) ?_
          simp only [Act.put, List.setIfInBounds_toArray, List.set_cons_succ, List.set_cons_zero, Nat.reduceAdd]
          refine Many.lex_want (by rfl) (rdb (v := .agg #[.int .i64 x0, .int .i64 x1]) (fun w hb => by (obtain ⟨c0, c1⟩ := ha _ (hbq1.trans (hb.mono hGz1)); go_simp; try rfl))) ?_
          simp only [Act.put, List.setIfInBounds_toArray, List.set_cons_succ, List.set_cons_zero, Nat.reduceAdd]
          refine Many.lex_want (by rfl) (clb q53b (fun w hb => by (go_simp; try rfl))) ?_
          simp only [Act.put, List.setIfInBounds_toArray, List.set_cons_succ, List.set_cons_zero, Nat.reduceAdd]
          refine Many.lex_want (by rfl) (rdb (v := .bool false) (fun w hb => by (skip; go_simp; try rfl))) ?_
          simp only [Act.put, List.setIfInBounds_toArray, List.set_cons_succ, List.set_cons_zero, Nat.reduceAdd]
          refine Many.lex_nil fun s W2 hs hC => ?_
          have hC : Below W1.heap.size W1 W2 := hC
          have hB := hB.after hC
          have hbq2 := hbq1.trans (hC.mono hGz1)
          have hGz2 : G0 ≤ W2.heap.size := Nat.le_trans hGz1 hC.size
          clear hC hs q53a q53b q29c hbq1 hGz1 hd
          go_wp2
          go_loopw [16] (fun i wr => ∃ m : Nat, m ≤ n ∧ i = .int .i64 m ∧ Below W2.heap.size W2 wr) (fun i _ => n - (intOf i).toNat)
          case atStart => exact ⟨0, by omega, rfl, Below.refl _ _⟩
          case round =>
          obtain ⟨m, hm, rfl, hbi⟩ := hrel
          have hbq3 := hbq2.trans (hbi.mono hGz2)
          have hGz3 : G0 ≤ wr.heap.size := Nat.le_trans hGz2 hbi.size
          by_cases hmn : m < n
          · have hmn' : (m : Int) < (n : Int) := by omega
            have hml : m < l.length := by have := hn.out; omega
            obtain ⟨g3, o3, e1, hzm0⟩ := hcK.out m hml
            injection e1 with e1
            injection e1 with e1 e2
            subst e1 e2
            have hzm := fun W (hb : Below G0 wa W) => cell_below hzm0 (hboa.trans (hb.mono hboG))
            have hb2 := fun W hb => (hm1G W hb).two hml
            have hcm := getz (zs := l) hml
            have B3 := aw_Bd hr4 hVK.out hEAK.out lv1.out hcm
            have hoc := hord.out (l.getD m 0)
            rw [hX.out] at hoc
            rw [hD.out] at hb2 B3
            generalize l.getD m 0 = c2 at *
            generalize awX r l.sum F N1 L1 c2 = X2 at *
            have q53c := fun w => refLess_red B3 B1K.out w
            have hD1 := B3.q1
            unfold redV at q53c
            obtain ⟨v0, hv0⟩ : ∃ z, Keep (redN X2 D = z) := ⟨_, ⟨rfl⟩⟩
            obtain ⟨v1, hv1⟩ : ∃ z, Keep (redD X2 D = z) := ⟨_, ⟨rfl⟩⟩
            rw [hv0.out, hv1.out, hx0.out, hx1.out] at q53c
            rw [hv0.out, hv1.out] at hb2
            unfold fracV at q53c
            clear hzm0 hcm B3 hv0 hv1
            by_cases hcc : c ≤ c2
            · rw [show decide (X2 * D < X * D) = false from decide_eq_false (by have := Int.mul_le_mul_of_nonneg_right (hoc hcc) (show 0 ≤ D by omega); omega)] at q53c
              clear hoc hD1
              go_wp2
              refine (wpIn_wide (n := 0)).1 ?_
              refine Many.region_many (Go.Proofs.Ytbocmbhinjkjlaa.Cb wr) mixed_ok (by kernel_rfl) (fun _ _ _ _ h => h) (fun s _ => Go.Proofs.Ytbocmbhinjkjlaa.Cb.start wr s) ?_
              refine Many.lex_want (by rfl) (rdb (fun w hb => by (go_simp; try rfl))) ?_
              simp only [Act.put, List.setIfInBounds_toArray, List.set_cons_succ, List.set_cons_zero, Nat.reduceAdd]
              refine Many.lex_want (by rfl) (rdb (fun w hb => by (go_simp; try rfl))) ?_
              simp only [Act.put, List.setIfInBounds_toArray, List.set_cons_succ, List.set_cons_zero, Nat.reduceAdd]
              refine Many.lex_want (by rfl) (rdb (v := .pointer (some ⟨gz, oz + j, none⟩)) (fun w hb => by (skip; go_simp; try rfl))) ?_
              simp only [Act.put, List.setIfInBounds_toArray, List.set_cons_succ, List.set_cons_zero, Nat.reduceAdd]
              refine Many.lex_want (by rfl) (rdb (v := .int .i64 c) (fun w hb => by (have c0 := hz _ (hbq3.trans (hb.mono hGz3)); go_simp; try rfl))) ?_
              simp only [Act.put, List.setIfInBounds_toArray, List.set_cons_succ, List.set_cons_zero, Nat.reduceAdd]
              refine Many.lex_want (by rfl) (rdb (fun w hb => by (go_simp; try rfl))) ?_
              simp only [Act.put, List.setIfInBounds_toArray, List.set_cons_succ, List.set_cons_zero, Nat.reduceAdd]
              refine Many.lex_want (by rfl) (rdb (fun w hb => by (go_simp; try rfl))) ?_
              simp only [Act.put, List.setIfInBounds_toArray, List.set_cons_succ, List.set_cons_zero, Nat.reduceAdd]
              refine Many.lex_want (by rfl) (rdb (v := .pointer (some ⟨gz, oz + m, none⟩)) (fun w hb => by (skip; go_simp; try rfl))) ?_
              simp only [Act.put, List.setIfInBounds_toArray, List.set_cons_succ, List.set_cons_zero, Nat.reduceAdd]
              refine Many.lex_want (by rfl) (rdb (v := .int .i64 c2) (fun w hb => by (have c0 := hzm _ (hbq3.trans (hb.mono hGz3)); go_simp; try rfl))) ?_
              simp only [Act.put, List.setIfInBounds_toArray, List.set_cons_succ, List.set_cons_zero, Nat.reduceAdd]
              refine Many.lex_want (by rfl) (rdb (v := .bool true) (fun w hb => by (skip; go_simp; try rfl))) ?_
              simp only [Act.put, List.setIfInBounds_toArray, List.set_cons_succ, List.set_cons_zero, Nat.reduceAdd]
              refine Many.lex_want (by rfl) (rdb (v := .bool true) (fun w hb => by (skip; go_simp; try rfl))) ?_
              simp only [Act.put, List.setIfInBounds_toArray, List.set_cons_succ, List.set_cons_zero, Nat.reduceAdd]
              refine Many.lex_want (by rfl) (rdb (fun w hb => by (go_simp; try rfl))) ?_
              simp only [Act.put, List.setIfInBounds_toArray, List.set_cons_succ, List.set_cons_zero, Nat.reduceAdd]
              refine Many.lex_want (by rfl) (rdb (fun w hb => by (go_simp; try rfl))) ?_
              simp only [Act.put, List.setIfInBounds_toArray, List.set_cons_succ, List.set_cons_zero, Nat.reduceAdd]
              refine Many.lex_want (by rfl) (rdb (v := .pointer (some ⟨G1, m * 2, none⟩)) (fun w hb => by (skip; go_simp; try rfl))) ?_
              simp only [Act.put, List.setIfInBounds_toArray, List.set_cons_succ, List.set_cons_zero, Nat.reduceAdd]
              refine Many.lex_want (by rfl) (rdb (v := .agg #[.int .i64 v0, .int .i64 v1]) (fun w hb => by (obtain ⟨c0, c1⟩ := hb2 _ (hbq3.trans (hb.mono hGz3)); go_simp; try rfl))) ?_
              simp only [Act.put, List.setIfInBounds_toArray, List.set_cons_succ, List.set_cons_zero, Nat.reduceAdd]
              refine Many.lex_want (by rfl) (rdb (fun w hb => by (go_simp; try rfl))) ?_
              simp only [Act.put, List.setIfInBounds_toArray, List.set_cons_succ, List.set_cons_zero, Nat.reduceAdd]
              refine Many.lex_want (by rfl) (rdb (fun w hb => by (go_simp; try rfl))) ?_
              simp only [Act.put, List.setIfInBounds_toArray, List.set_cons_succ, List.set_cons_zero, Nat.reduceAdd]
              refine Many.lex_want (by rfl) (rdb (v := .pointer (some ⟨G1, j * 2, none⟩)) (fun w hb => by (skip; go_simp; try rfl))) ?_
              simp only [Act.put, List.setIfInBounds_toArray, List.set_cons_succ, List.set_cons_zero, Nat.reduceAdd]
              refine Many.lex_want (by rfl) (rdb (v := .agg #[.int .i64 x0, .int .i64 x1]) (fun w hb => by (obtain ⟨c0, c1⟩ := ha _ (hbq3.trans (hb.mono hGz3)); go_simp; try rfl))) ?_
              simp only [Act.put, List.setIfInBounds_toArray, List.set_cons_succ, List.set_cons_zero, Nat.reduceAdd]
              refine Many.lex_want (by rfl) (clb q53c (fun w hb => by (go_simp; try rfl))) ?_
              simp only [Act.put, List.setIfInBounds_toArray, List.set_cons_succ, List.set_cons_zero, Nat.reduceAdd]
              refine Many.lex_want (by rfl) (rdb (v := .bool false) (fun w hb => by (skip; go_simp; try rfl))) ?_
              simp only [Act.put, List.setIfInBounds_toArray, List.set_cons_succ, List.set_cons_zero, Nat.reduceAdd]
              refine Many.lex_nil fun s W3 hs hC => ?_
              have hC : Below wr.heap.size wr W3 := hC
              have hbi2 := hbi.trans (hC.mono hbi.size)
              clear hC hs
              go_wp2
              exact ⟨⟨m + 1, by omega, by go_num, hbi2⟩, by simp [intOf]; omega⟩
            · clear hoc hD1 q53c
              go_wp2
              refine (wpIn_wide (n := 0)).1 ?_
              refine Many.region_many (Go.Proofs.Ytbocmbhinjkjlaa.Cb wr) mixed_ok (by kernel_rfl) (fun _ _ _ _ h => h) (fun s _ => Go.Proofs.Ytbocmbhinjkjlaa.Cb.start wr s) ?_
              refine Many.lex_want (by rfl) (rdb (fun w hb => by (go_simp; try rfl))) ?_
              simp only [Act.put, List.setIfInBounds_toArray, List.set_cons_succ, List.set_cons_zero, Nat.reduceAdd]
              refine Many.lex_want (by rfl) (rdb (fun w hb => by (go_simp; try rfl))) ?_
              simp only [Act.put, List.setIfInBounds_toArray, List.set_cons_succ, List.set_cons_zero, Nat.reduceAdd]
              refine Many.lex_want (by rfl) (rdb (v := .pointer (some ⟨gz, oz + j, none⟩)) (fun w hb => by (skip; go_simp; try rfl))) ?_
              simp only [Act.put, List.setIfInBounds_toArray, List.set_cons_succ, List.set_cons_zero, Nat.reduceAdd]
              refine Many.lex_want (by rfl) (rdb (v := .int .i64 c) (fun w hb => by (have c0 := hz _ (hbq3.trans (hb.mono hGz3)); go_simp; try rfl))) ?_
              simp only [Act.put, List.setIfInBounds_toArray, List.set_cons_succ, List.set_cons_zero, Nat.reduceAdd]
              refine Many.lex_want (by rfl) (rdb (fun w hb => by (go_simp; try rfl))) ?_
              simp only [Act.put, List.setIfInBounds_toArray, List.set_cons_succ, List.set_cons_zero, Nat.reduceAdd]
              refine Many.lex_want (by rfl) (rdb (fun w hb => by (go_simp; try rfl))) ?_
              simp only [Act.put, List.setIfInBounds_toArray, List.set_cons_succ, List.set_cons_zero, Nat.reduceAdd]
              refine Many.lex_want (by rfl) (rdb (v := .pointer (some ⟨gz, oz + m, none⟩)) (fun w hb => by (skip; go_simp; try rfl))) ?_
              simp only [Act.put, List.setIfInBounds_toArray, List.set_cons_succ, List.set_cons_zero, Nat.reduceAdd]
              refine Many.lex_want (by rfl) (rdb (v := .int .i64 c2) (fun w hb => by (have c0 := hzm _ (hbq3.trans (hb.mono hGz3)); go_simp; try rfl))) ?_
              simp only [Act.put, List.setIfInBounds_toArray, List.set_cons_succ, List.set_cons_zero, Nat.reduceAdd]
              refine Many.lex_want (by rfl) (rdb (v := .bool false) (fun w hb => by (skip; go_simp; try rfl))) ?_
              simp only [Act.put, List.setIfInBounds_toArray, List.set_cons_succ, List.set_cons_zero, Nat.reduceAdd]
              refine Many.lex_want (by rfl) (rdb (v := .bool false) (fun w hb => by (skip; go_simp; try rfl))) ?_
              simp only [Act.put, List.setIfInBounds_toArray, List.set_cons_succ, List.set_cons_zero, Nat.reduceAdd]
              refine lex_skip (by rfl) Cb.keep ?_
              simp only [Act.put, List.setIfInBounds_toArray, List.set_cons_succ, List.set_cons_zero, Nat.reduceAdd]
              refine lex_skip (by rfl) Cb.keep ?_
              simp only [Act.put, List.setIfInBounds_toArray, List.set_cons_succ, List.set_cons_zero, Nat.reduceAdd]
              refine lex_skip (by rfl) Cb.keep ?_
              simp only [Act.put, List.setIfInBounds_toArray, List.set_cons_succ, List.set_cons_zero, Nat.reduceAdd]
              refine lex_skip (by rfl) Cb.keep ?_
              simp only [Act.put, List.setIfInBounds_toArray, List.set_cons_succ, List.set_cons_zero, Nat.reduceAdd]
              refine lex_skip (by rfl) Cb.keep ?_
              simp only [Act.put, List.setIfInBounds_toArray, List.set_cons_succ, List.set_cons_zero, Nat.reduceAdd]
              refine lex_skip (by rfl) Cb.keep ?_
              simp only [Act.put, List.setIfInBounds_toArray, List.set_cons_succ, List.set_cons_zero, Nat.reduceAdd]
              refine lex_skip (by rfl) Cb.keep ?_
              simp only [Act.put, List.setIfInBounds_toArray, List.set_cons_succ, List.set_cons_zero, Nat.reduceAdd]
              refine lex_skip (by rfl) Cb.keep ?_
              simp only [Act.put, List.setIfInBounds_toArray, List.set_cons_succ, List.set_cons_zero, Nat.reduceAdd]
              refine lex_skip (by rfl) Cb.keep ?_
              simp only [Act.put, List.setIfInBounds_toArray, List.set_cons_succ, List.set_cons_zero, Nat.reduceAdd]
              refine Many.lex_want (by rfl) (rdb (v := .bool false) (fun w hb => by (skip; go_simp; try rfl))) ?_
              simp only [Act.put, List.setIfInBounds_toArray, List.set_cons_succ, List.set_cons_zero, Nat.reduceAdd]
              refine Many.lex_nil fun s W3 hs hC => ?_
              have hC : Below wr.heap.size wr W3 := hC
              have hbi2 := hbi.trans (hC.mono hbi.size)
              clear hC hs
              go_wp2
              exact ⟨⟨m + 1, by omega, by go_num, hbi2⟩, by simp [intOf]; omega⟩
          · obtain rfl : n = m := by omega
            have hB2 := hB.after hbi
            rw [← hu0.out, ← hu1.out] at hB2
            clear hu0 hu1 hB
            go_wp2
            exact ⟨⟨j + 1, by omega, by go_num, hbq3, hB2⟩, by simp [intOf]; omega⟩
        · obtain rfl : n = j := by omega
          have hfin : sumX r l F N1 L1 n = F * D := by
            have h := aw_sum lv1.out hEAK.out hr4
            rw [hD.out] at h
            unfold sumX
            rw [List.take_of_length_le (by have := hn.out; omega)]; exact h
          have e0 : redV (sumX r l F N1 L1 n) D = fracV F 1 := by rw [← redV_one]; exact redV_same hDA (by omega) (by rw [hfin]; omega)
          unfold redV fracV at e0
          injection e0 with e0
          rw [e0] at o14
          have o14 := Own2.of o14
          have hwb := hb1.trans (hboq.mono hb1.size)
          have q29F := fun w => refWhole_any F w
          have eF := eqS F 1
          unfold fracV at q29F
          clear hfin e0
          go_wp2
          refine (wpIn_wide (n := 0)).1 ?_
          refine Many.region_many (Go.Proofs.Ytbocmbhinjkjlaa.Cb wr) mixed_ok (by kernel_rfl) (fun _ _ _ _ h => h) (fun s _ => Go.Proofs.Ytbocmbhinjkjlaa.Cb.start wr s) ?_
          refine Many.lex_want (by rfl) (rdb (v := .agg #[.int .i64 F, .int .i64 1]) (fun w hb => by (obtain ⟨c0, c1, f0, f1⟩ := (o14).after hb; go_simp; try rfl))) ?_
          simp only [Act.put, List.setIfInBounds_toArray, List.set_cons_succ, List.set_cons_zero, Nat.reduceAdd]
          refine Many.lex_want (by rfl) (rdb (fun w hb => by (go_simp; try rfl))) ?_
          simp only [Act.put, List.setIfInBounds_toArray, List.set_cons_succ, List.set_cons_zero, Nat.reduceAdd]
          refine Many.lex_want (by rfl) (clb q29F (fun w hb => by (go_simp; try rfl))) ?_
          simp only [Act.put, List.setIfInBounds_toArray, List.set_cons_succ, List.set_cons_zero, Nat.reduceAdd]
          refine Many.lex_want (by rfl) (rdb (v := .bool true) (fun w hb => by (have e := eF; go_simp; try rfl))) ?_
          simp only [Act.put, List.setIfInBounds_toArray, List.set_cons_succ, List.set_cons_zero, Nat.reduceAdd]
          refine Many.lex_want (by rfl) (rdb (v := .bool true) (fun w hb => by (skip; go_simp; try rfl))) ?_
          simp only [Act.put, List.setIfInBounds_toArray, List.set_cons_succ, List.set_cons_zero, Nat.reduceAdd]
          refine Many.lex_want (by rfl) (clb awake_any (fun w hb => by (go_simp; try rfl))) ?_
          simp only [Act.put, List.setIfInBounds_toArray, List.set_cons_succ, List.set_cons_zero, Nat.reduceAdd]
          refine Many.lex_want (by rfl) (rdb (v := .bool true) (fun w hb => by (skip; go_simp; try rfl))) ?_
          simp only [Act.put, List.setIfInBounds_toArray, List.set_cons_succ, List.set_cons_zero, Nat.reduceAdd]
          refine Many.lex_want (by rfl) (rdb (fun w hb => by (go_simp; try rfl))) ?_
          simp only [Act.put, List.setIfInBounds_toArray, List.set_cons_succ, List.set_cons_zero, Nat.reduceAdd]
          refine Many.lex_nil fun s W3 hs hC => ?_
          have hC : Below wr.heap.size wr W3 := hC
          have hwb2 := hwb.trans (hC.mono hwb.size)
          clear hC hs
          go_wp2
          go_ret
          exact ⟨rfl, hwb2⟩
end Go.Proofs.Ytbocmbhinjkjlaa
