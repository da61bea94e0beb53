/- The law SharesTwo: its walk. -/
import Derived.Test.YtbocmbhinjkjlaaFvReg
set_option linter.unusedSimpArgs false
set_option linter.unusedVariables false
namespace Go.Proofs.Ytbocmbhinjkjlaa
open Go Go.Proofs Go.RowKit Go.Seq Go.Sort
theorem two_over {E a b : Int} (hE : 0 ≤ E ∧ E ≤ a + b) (ha : 0 ≤ a) (hb : 0 ≤ b) : -100000000 ≤ conX E a b ∧ conX E a b ≤ 2 * a ∧ 0 ≤ conX E a b := by
  have h1 := over_cases E b
  have h2 := over_cases E a
  unfold conX
  omega
theorem tame_two (a b : Int) : tameL [a, b] = [((modN a 1001 : Nat) : Int), ((modN b 1001 : Nat) : Int)] := rfl
set_option maxHeartbeats 4000000 in
set_option maxRecDepth 100000 in
theorem twoLaw_any (E a b : Int) (w : World) : Calls Try.prog 14 #[.int .i64 E, .int .i64 a, .int .i64 b] w fun e w' => e = .returned (.bool true) ∧ Below w.heap.size w w' := by
  obtain ⟨w0, hw0⟩ : ∃ w0, w.alloc (.cells #[.int .i64 a, .int .i64 b] 3) = w0 := ⟨_, rfl⟩
  have b0 : BlkAt w0 w.heap.size #[.int .i64 a, .int .i64 b] 3 := by rw [← hw0]; exact BlkAt.new _ _ _
  have hb0 : Below w.heap.size w w0 := by rw [← hw0]; exact (Below.refl _ _).alloc (Nat.le_refl _) _
  have hI0 := Keep.mk (intsO_lit2 b0)
  clear b0
  go_enter Try.func14, Try.ntmps14
  go_wp2_with (go_at_call 55; (with_reducible refine (tame_both hI0.out).mono ?_); rintro e w1 ⟨v', F, rfl, ho, hF, hb1⟩
               have hV := tameL_valid [a, b]
               rw [tame_two] at ho hF hV
               have hbw1 := hb0.trans (hb1.mono hb0.size)
               clear hI0 hb1)
  have hx1 := modN_lt a (m := 1001) (by omega)
  have hy1 := modN_lt b (m := 1001) (by omega)
  obtain ⟨x, hx⟩ : ∃ x : Int, ((modN a 1001 : Nat) : Int) = x := ⟨_, rfl⟩
  obtain ⟨y, hy⟩ : ∃ y : Int, ((modN b 1001 : Nat) : Int) = y := ⟨_, rfl⟩
  have hxb : 0 ≤ x ∧ x ≤ 1000 := by omega
  have hyb : 0 ≤ y ∧ y ≤ 1000 := by omega
  rw [hx, hy] at ho hF hV
  clear hx hy hx1 hy1
  have hoK := Keep.mk ho
  obtain ⟨A, cap, rfl, hcell⟩ := ho
  obtain ⟨g, o, rfl, hc0⟩ := hcell 0 (by simp)
  obtain ⟨g1, o1, e1, hc1⟩ := hcell 1 (by simp)
  injection e1 with e1
  injection e1 with e1 e2
  subst e1 e2
  have hc0 : w1.cell? ⟨g, o, none⟩ = some (.int .i64 x) := hc0
  have hc1 : w1.cell? ⟨g, o + 1, none⟩ = some (.int .i64 y) := hc1
  clear hcell
  have hS : [x, y].sum = x + y := by simp
  have hVK := Keep.mk hV
  have hFK := Keep.mk hF
  have hD1 : decide (Valid [x, y] ∧ 0 ≤ F ∧ F ≤ [x, y].sum) = true := decide_eq_true ⟨hV, hF⟩
  have hV2 : Valid [y, x] := ⟨by simp, by simp, fun z hz => by simp only [List.mem_cons, List.not_mem_nil, or_false] at hz; omega⟩
  have hD2 : decide (Valid [y, x] ∧ 0 ≤ F ∧ F ≤ [y, x].sum) = true := decide_eq_true ⟨hV2, by simp at hF ⊢; omega⟩
  have q28a := fun w => garment_yes hD1 w
  have q28b := fun w => garment_yes hD2 w
  rw [hS] at hF
  have hca := two_over hF hxb.1 hyb.1
  have hcb := two_over (E := F) (a := y) (b := x) (by omega) hyb.1 hxb.1
  have hcs := conX_sum F x y
  have BX : Bd (conX F x y) 2 := ⟨by omega, by omega, by omega, by omega⟩
  have BY : Bd (conX F y x) 2 := ⟨by omega, by omega, by omega, by omega⟩
  have Bx : Bd x 1 := ⟨by omega, by omega, by omega, by omega⟩
  have By : Bd y 1 := ⟨by omega, by omega, by omega, by omega⟩
  have q52 := fun w => refAdd_red BX BY w
  have q53a := fun w => refLess_red Bx BX w
  have q53b := fun w => refLess_red By BY w
  rw [redV_same (a := conX F x y * 2 + conX F y x * 2) (b := 2 * 2) (c := F) (d := 1) (by omega) (by omega) (by omega), redV_one] at q52
  rw [redV_one, show decide (x * 2 < conX F x y * 1) = false from decide_eq_false (by omega)] at q53a
  rw [redV_one, show decide (y * 2 < conX F y x * 1) = false from decide_eq_false (by omega)] at q53b
  have qA := fun W (hb : Below w1.heap.size w1 W) => show Calls Try.prog 22 #[.int .i64 3, .slice (some ⟨g, o, none⟩) 2 cap, .int .i64 F] W _ from awardM (r := 3) (w := W) (by omega) (intsO_below hoK.out hb) hVK.out hFK.out
  have q29x := fun w => refWhole_any x w
  have q29y := fun w => refWhole_any y w
  have q29F := fun w => refWhole_any F w
  have htal := Keep.mk (fun N L (h : LevR 3 [x, y] F N L) => two_talmud h hxb.1 hyb.1 hFK.out)
  unfold garV at q28a q28b
  unfold redV at q52 q53a q53b
  obtain ⟨x0, hx0⟩ : ∃ z, Keep (redN (conX F x y) 2 = z) := ⟨_, ⟨rfl⟩⟩
  obtain ⟨x1, hx1⟩ : ∃ z, Keep (redD (conX F x y) 2 = z) := ⟨_, ⟨rfl⟩⟩
  obtain ⟨y0, hy0⟩ : ∃ z, Keep (redN (conX F y x) 2 = z) := ⟨_, ⟨rfl⟩⟩
  obtain ⟨y1, hy1⟩ : ∃ z, Keep (redD (conX F y x) 2 = z) := ⟨_, ⟨rfl⟩⟩
  rw [hx0.out, hx1.out, hy0.out, hy1.out] at q28a q28b
  rw [hx0.out, hx1.out, hy0.out, hy1.out] at q52
  rw [hx0.out, hx1.out] at q53a
  rw [hy0.out, hy1.out] at q53b
  unfold fracV at q28a q28b q52 q53a q53b q29x q29y q29F
  have eX := eqS x0 x1
  have eY := eqS y0 y1
  have eF := eqS F 1
  clear hca hcb hcs BX BY Bx By hF hV hV2 hD1 hD2 hxb hyb hb0
  go_wp2
  refine (wpIn_wide (n := 0)).1 ?_
  refine Inv.region_inv (fun t act W => ∃ p7, ∃ p8, act = { tmps := #[Value.int IntKind.i64 F, Value.int IntKind.i64 a, Value.int IntKind.i64 b, undef, undef, undef, Value.bool false, Value.slice (some ⟨g, o, none⟩) 2 cap, if t 12 = true then .pointer (some ⟨p7, 0, none⟩) else undef, if t 13 = true then .pointer (some ⟨p8, 0, none⟩) else undef, if t 16 = true then .int .i64 0 else undef, undef, undef, undef, undef, undef, Value.tuple #[Value.slice (some ⟨g, o, none⟩) 2 cap, Value.int IntKind.i64 F], Value.int IntKind.i64 a, Value.int IntKind.i64 b, Value.slice (some ⟨w.heap.size, 0, none⟩) 2 2, Value.int IntKind.i64 E, Value.tuple #[Value.slice (some ⟨g, o, none⟩) 2 cap, Value.int IntKind.i64 F], Value.slice (some ⟨g, o, none⟩) 2 cap, Value.int IntKind.i64 F, if t 8 = true then .tuple #[.agg #[.int .i64 x0, .int .i64 x1], .agg #[.int .i64 y0, .int .i64 y1], .int .i64 0] else undef, if t 0 = true then .int .i64 F else undef, if t 1 = true then .slice (some ⟨g, o, none⟩) 2 cap else undef, if t 2 = true then .pointer (some ⟨g, o, none⟩) else undef, if t 3 = true then .int .i64 x else undef, if t 4 = true then .slice (some ⟨g, o, none⟩) 2 cap else undef, if t 5 = true then .pointer (some ⟨g, o + 1, none⟩) else undef, if t 6 = true then .int .i64 y else undef, if t 7 = true then .tuple #[.agg #[.int .i64 x0, .int .i64 x1], .agg #[.int .i64 y0, .int .i64 y1], .int .i64 0] else undef, if t 9 = true then .agg #[.int .i64 x0, .int .i64 x1] else undef, if t 10 = true then .agg #[.int .i64 y0, .int .i64 y1] else undef, if t 11 = true then .int .i64 0 else undef, undef, undef, undef, undef, undef, undef, undef, undef, undef, undef, undef, undef, undef, undef, undef, undef, undef, undef, undef, undef, undef, undef, undef, undef, undef, undef, undef, undef, undef, undef, undef, undef, undef, undef, undef, undef, undef, undef, undef, undef, undef, undef, undef, undef, undef, undef, undef, undef, undef, undef, undef, undef, undef, undef, undef, undef, undef, undef, undef, undef, undef, undef, undef, undef, undef, undef, undef, undef, undef, undef, undef, undef, undef, undef, undef, undef, undef, undef, undef, undef, undef, undef, undef, undef, undef, undef, undef, undef, undef], defers := [] } ∧ FvI w1 12 13 14 15 x0 x1 y0 y1 t p7 p8 W) mixed_ok (by kernel_rfl) ?_ ?_ ?_
  · intro t hs
    refine ⟨0, 0, ?_, FvI.start (hs 12 (by decide)) (hs 13 (by decide)) (hs 14 (by decide)) (hs 15 (by decide))⟩
    simp only [hs 0 (by decide), hs 1 (by decide), hs 2 (by decide), hs 3 (by decide), hs 4 (by decide), hs 5 (by decide), hs 6 (by decide), hs 7 (by decide), hs 8 (by decide), hs 9 (by decide), hs 10 (by decide), hs 11 (by decide), hs 12 (by decide), hs 13 (by decide), hs 14 (by decide), hs 15 (by decide), hs 16 (by decide), Bool.false_eq_true, if_false]
  · refine ⟨?_, ?_, ?_, ?_, ?_, ?_, ?_, ?_, ?_, ?_, ?_, ?_, ?_, ?_, ?_, ?_, ?_, trivial⟩
    · rintro t act W hun hdep hbeh ⟨p7, p8, rfl, hT⟩
      (try simp only [Nat.reduceAdd] at hun)
      refine .inl ⟨by rfl, Inv.comesV_val (.int .i64 F) W (by (go_simp; try rfl)) ⟨p7, p8, by (simp only [Act.put, List.setIfInBounds_toArray, List.set_cons_succ, List.set_cons_zero, Manyd.upd, Nat.reduceAdd, Nat.reduceBEq, Bool.or_false, Bool.or_true, if_true]), FvI.keep (i := 0) (by decide) (by decide) (by decide) (by decide) hT⟩⟩
    · rintro t act W hun hdep hbeh ⟨p7, p8, rfl, hT⟩
      (try simp only [Nat.reduceAdd] at hun)
      refine .inl ⟨by rfl, Inv.comesV_val (.slice (some ⟨g, o, none⟩) 2 cap) W (by (go_simp; try rfl)) ⟨p7, p8, by (simp only [Act.put, List.setIfInBounds_toArray, List.set_cons_succ, List.set_cons_zero, Manyd.upd, Nat.reduceAdd, Nat.reduceBEq, Bool.or_false, Bool.or_true, if_true]), FvI.keep (i := 1) (by decide) (by decide) (by decide) (by decide) hT⟩⟩
    · rintro t act W hun hdep hbeh ⟨p7, p8, rfl, hT⟩
      (try simp only [Nat.reduceAdd] at hun)
      have h1 : t 1 = true := Inv.depB_mem 1 hdep (by rfl)
      refine .inl ⟨by rfl, Inv.comesV_val (.pointer (some ⟨g, o, none⟩)) W (by (simp only [h1, if_true, Bool.false_eq_true, if_false]; go_simp; try rfl)) ⟨p7, p8, by (simp only [Act.put, List.setIfInBounds_toArray, List.set_cons_succ, List.set_cons_zero, Manyd.upd, Nat.reduceAdd, Nat.reduceBEq, Bool.or_false, Bool.or_true, if_true]), FvI.keep (i := 2) (by decide) (by decide) (by decide) (by decide) hT⟩⟩
    · rintro t act W hun hdep hbeh ⟨p7, p8, rfl, hT⟩
      (try simp only [Nat.reduceAdd] at hun)
      have h2 : t 2 = true := Inv.depB_mem 2 hdep (by rfl)
      have c0 := cell_below hc0 hT.bw
      refine .inl ⟨by rfl, Inv.comesV_val (.int .i64 x) W (by (simp only [h2, if_true, Bool.false_eq_true, if_false]; go_simp; try rfl)) ⟨p7, p8, by (simp only [Act.put, List.setIfInBounds_toArray, List.set_cons_succ, List.set_cons_zero, Manyd.upd, Nat.reduceAdd, Nat.reduceBEq, Bool.or_false, Bool.or_true, if_true]), FvI.keep (i := 3) (by decide) (by decide) (by decide) (by decide) hT⟩⟩
    · rintro t act W hun hdep hbeh ⟨p7, p8, rfl, hT⟩
      (try simp only [Nat.reduceAdd] at hun)
      refine .inl ⟨by rfl, Inv.comesV_val (.slice (some ⟨g, o, none⟩) 2 cap) W (by (go_simp; try rfl)) ⟨p7, p8, by (simp only [Act.put, List.setIfInBounds_toArray, List.set_cons_succ, List.set_cons_zero, Manyd.upd, Nat.reduceAdd, Nat.reduceBEq, Bool.or_false, Bool.or_true, if_true]), FvI.keep (i := 4) (by decide) (by decide) (by decide) (by decide) hT⟩⟩
    · rintro t act W hun hdep hbeh ⟨p7, p8, rfl, hT⟩
      (try simp only [Nat.reduceAdd] at hun)
      have h4 : t 4 = true := Inv.depB_mem 4 hdep (by rfl)
      refine .inl ⟨by rfl, Inv.comesV_val (.pointer (some ⟨g, o + 1, none⟩)) W (by (simp only [h4, if_true, Bool.false_eq_true, if_false]; go_simp; try rfl)) ⟨p7, p8, by (simp only [Act.put, List.setIfInBounds_toArray, List.set_cons_succ, List.set_cons_zero, Manyd.upd, Nat.reduceAdd, Nat.reduceBEq, Bool.or_false, Bool.or_true, if_true]), FvI.keep (i := 5) (by decide) (by decide) (by decide) (by decide) hT⟩⟩
    · rintro t act W hun hdep hbeh ⟨p7, p8, rfl, hT⟩
      (try simp only [Nat.reduceAdd] at hun)
      have h5 : t 5 = true := Inv.depB_mem 5 hdep (by rfl)
      have c0 := cell_below hc1 hT.bw
      refine .inl ⟨by rfl, Inv.comesV_val (.int .i64 y) W (by (simp only [h5, if_true, Bool.false_eq_true, if_false]; go_simp; try rfl)) ⟨p7, p8, by (simp only [Act.put, List.setIfInBounds_toArray, List.set_cons_succ, List.set_cons_zero, Manyd.upd, Nat.reduceAdd, Nat.reduceBEq, Bool.or_false, Bool.or_true, if_true]), FvI.keep (i := 6) (by decide) (by decide) (by decide) (by decide) hT⟩⟩
    · rintro t act W hun hdep hbeh ⟨p7, p8, rfl, hT⟩
      (try simp only [Nat.reduceAdd] at hun)
      have h0 : t 0 = true := Inv.depB_mem 0 hdep (by rfl)
      have h3 : t 3 = true := Inv.depB_mem 3 hdep (by rfl)
      have h6 : t 6 = true := Inv.depB_mem 6 hdep (by rfl)
      refine .inl ⟨by rfl, Inv.comesV_call 28 #[.int .i64 F, .int .i64 x, .int .i64 y] W (by (simp only [h0, h3, h6, if_true, Bool.false_eq_true, if_false]; go_simp; try rfl)) ((q28a W).mono fun e w5 hw5 => ⟨_, hw5.1, p7, p8, by (simp only [Act.put, List.setIfInBounds_toArray, List.set_cons_succ, List.set_cons_zero, Manyd.upd, Nat.reduceAdd, Nat.reduceBEq, Bool.or_false, Bool.or_true, if_true]), FvI.keep (i := 7) (by decide) (by decide) (by decide) (by decide) (hT.after hw5.2)⟩)⟩
    · rintro t act W hun hdep hbeh ⟨p7, p8, rfl, hT⟩
      (try simp only [Nat.reduceAdd] at hun)
      have h7 : t 7 = true := Inv.depB_mem 7 hdep (by rfl)
      refine .inl ⟨by rfl, Inv.comesV_val (.tuple #[.agg #[.int .i64 x0, .int .i64 x1], .agg #[.int .i64 y0, .int .i64 y1], .int .i64 0]) W (by (simp only [h7, if_true, Bool.false_eq_true, if_false]; go_simp; try rfl)) ⟨p7, p8, by (simp only [Act.put, List.setIfInBounds_toArray, List.set_cons_succ, List.set_cons_zero, Manyd.upd, Nat.reduceAdd, Nat.reduceBEq, Bool.or_false, Bool.or_true, if_true]), FvI.keep (i := 8) (by decide) (by decide) (by decide) (by decide) hT⟩⟩
    · rintro t act W hun hdep hbeh ⟨p7, p8, rfl, hT⟩
      (try simp only [Nat.reduceAdd] at hun)
      have h8 : t 8 = true := Inv.depB_mem 8 hdep (by rfl)
      refine .inl ⟨by rfl, Inv.comesV_val (.agg #[.int .i64 x0, .int .i64 x1]) W (by (simp only [h8, if_true, Bool.false_eq_true, if_false]; go_simp; try rfl)) ⟨p7, p8, by (simp only [Act.put, List.setIfInBounds_toArray, List.set_cons_succ, List.set_cons_zero, Manyd.upd, Nat.reduceAdd, Nat.reduceBEq, Bool.or_false, Bool.or_true, if_true]), FvI.keep (i := 9) (by decide) (by decide) (by decide) (by decide) hT⟩⟩
    · rintro t act W hun hdep hbeh ⟨p7, p8, rfl, hT⟩
      (try simp only [Nat.reduceAdd] at hun)
      have h8 : t 8 = true := Inv.depB_mem 8 hdep (by rfl)
      refine .inl ⟨by rfl, Inv.comesV_val (.agg #[.int .i64 y0, .int .i64 y1]) W (by (simp only [h8, if_true, Bool.false_eq_true, if_false]; go_simp; try rfl)) ⟨p7, p8, by (simp only [Act.put, List.setIfInBounds_toArray, List.set_cons_succ, List.set_cons_zero, Manyd.upd, Nat.reduceAdd, Nat.reduceBEq, Bool.or_false, Bool.or_true, if_true]), FvI.keep (i := 10) (by decide) (by decide) (by decide) (by decide) hT⟩⟩
    · rintro t act W hun hdep hbeh ⟨p7, p8, rfl, hT⟩
      (try simp only [Nat.reduceAdd] at hun)
      have h8 : t 8 = true := Inv.depB_mem 8 hdep (by rfl)
      refine .inl ⟨by rfl, Inv.comesV_val (.int .i64 0) W (by (simp only [h8, if_true, Bool.false_eq_true, if_false]; go_simp; try rfl)) ⟨p7, p8, by (simp only [Act.put, List.setIfInBounds_toArray, List.set_cons_succ, List.set_cons_zero, Manyd.upd, Nat.reduceAdd, Nat.reduceBEq, Bool.or_false, Bool.or_true, if_true]), FvI.keep (i := 11) (by decide) (by decide) (by decide) (by decide) hT⟩⟩
    · rintro t act W hun hdep hbeh ⟨p7, p8, rfl, hT⟩
      (try simp only [Nat.reduceAdd] at hun)
      refine .inl ⟨by rfl, Inv.comesV_val (.pointer (some ⟨W.heap.size, 0, none⟩)) (W.alloc (.cells #[.int .i64 0, .int .i64 0] 37)) (by (go_simp; try rfl)) ⟨W.heap.size, p8, by (simp only [Act.put, List.setIfInBounds_toArray, List.set_cons_succ, List.set_cons_zero, Manyd.upd, Nat.reduceAdd, Nat.reduceBEq, Bool.or_false, Bool.or_true, if_true]), hT.alloc7 ⟨by decide, by decide, by decide, by decide, by decide, by decide⟩ hun⟩⟩
    · rintro t act W hun hdep hbeh ⟨p7, p8, rfl, hT⟩
      (try simp only [Nat.reduceAdd] at hun)
      refine .inl ⟨by rfl, Inv.comesV_val (.pointer (some ⟨W.heap.size, 0, none⟩)) (W.alloc (.cells #[.int .i64 0, .int .i64 0] 37)) (by (go_simp; try rfl)) ⟨p7, W.heap.size, by (simp only [Act.put, List.setIfInBounds_toArray, List.set_cons_succ, List.set_cons_zero, Manyd.upd, Nat.reduceAdd, Nat.reduceBEq, Bool.or_false, Bool.or_true, if_true]), hT.alloc8 ⟨by decide, by decide, by decide, by decide, by decide, by decide⟩ hun⟩⟩
    · rintro t act W hun hdep hbeh ⟨p7, p8, rfl, hT⟩
      (try simp only [Nat.reduceAdd] at hun)
      have h12 : t 12 = true := Inv.depB_mem 12 hdep (by rfl)
      have h9 : t 9 = true := Inv.depB_mem 9 hdep (by rfl)
      obtain ⟨c0, c1, f0, f1⟩ := hT.own7 h12 hun
      refine .inl ⟨by rfl, Inv.comesV_skip ((W.setCell ⟨p7, 0, none⟩ (.int .i64 x0)).setCell ⟨p7, 1, none⟩ (.int .i64 x1)) (by (simp only [h12, h9, if_true, Bool.false_eq_true, if_false]; go_simp; try rfl)) ⟨p7, p8, by (simp only [Act.put, List.setIfInBounds_toArray, List.set_cons_succ, List.set_cons_zero, Manyd.upd, Nat.reduceAdd, Nat.reduceBEq, Bool.or_false, Bool.or_true, if_true]), hT.set7 ⟨by decide, by decide, by decide, by decide, by decide, by decide⟩ h12 hun⟩⟩
    · rintro t act W hun hdep hbeh ⟨p7, p8, rfl, hT⟩
      (try simp only [Nat.reduceAdd] at hun)
      have h13 : t 13 = true := Inv.depB_mem 13 hdep (by rfl)
      have h10 : t 10 = true := Inv.depB_mem 10 hdep (by rfl)
      obtain ⟨c0, c1, f0, f1⟩ := hT.own8 h13 hun
      refine .inl ⟨by rfl, Inv.comesV_skip ((W.setCell ⟨p8, 0, none⟩ (.int .i64 y0)).setCell ⟨p8, 1, none⟩ (.int .i64 y1)) (by (simp only [h13, h10, if_true, Bool.false_eq_true, if_false]; go_simp; try rfl)) ⟨p7, p8, by (simp only [Act.put, List.setIfInBounds_toArray, List.set_cons_succ, List.set_cons_zero, Manyd.upd, Nat.reduceAdd, Nat.reduceBEq, Bool.or_false, Bool.or_true, if_true]), hT.set8 ⟨by decide, by decide, by decide, by decide, by decide, by decide⟩ h13 hun⟩⟩
    · rintro t act W hun hdep hbeh ⟨p7, p8, rfl, hT⟩
      (try simp only [Nat.reduceAdd] at hun)
      have h11 : t 11 = true := Inv.depB_mem 11 hdep (by rfl)
      refine .inl ⟨by rfl, Inv.comesV_val (.int .i64 0) W (by (simp only [h11, if_true, Bool.false_eq_true, if_false]; go_simp; try rfl)) ⟨p7, p8, by (simp only [Act.put, List.setIfInBounds_toArray, List.set_cons_succ, List.set_cons_zero, Manyd.upd, Nat.reduceAdd, Nat.reduceBEq, Bool.or_false, Bool.or_true, if_true]), FvI.keep (i := 16) (by decide) (by decide) (by decide) (by decide) hT⟩⟩
  rintro t a' w2 hs ⟨p7, p8, rfl, hT⟩
  simp only [hs 0 (by decide), hs 1 (by decide), hs 2 (by decide), hs 3 (by decide), hs 4 (by decide), hs 5 (by decide), hs 6 (by decide), hs 7 (by decide), hs 8 (by decide), hs 9 (by decide), hs 10 (by decide), hs 11 (by decide), hs 12 (by decide), hs 13 (by decide), hs 14 (by decide), hs 15 (by decide), hs 16 (by decide), if_true]
  obtain ⟨hb2, ⟨g7, b7⟩, ⟨g8, b8⟩, -⟩ := hT.fin (hs 12 (by decide)) (hs 13 (by decide)) (hs 14 (by decide)) (hs 15 (by decide))
  have o7 := Own2.of b7
  have o8 := Own2.of b8
  have hc0 := cell_below hc0 hb2
  have hc1 := cell_below hc1 hb2
  clear hT hs b7 b8
  go_wp2
  refine (wpIn_wide (n := 0)).1 ?_
  refine Inv.region_inv (fun t act W => ∃ r7, ∃ r8, act = { tmps := #[Value.int IntKind.i64 F, Value.int IntKind.i64 a, Value.int IntKind.i64 b, undef, undef, undef, Value.bool false, Value.slice (some ⟨g, o, none⟩) 2 cap, .pointer (some ⟨p7, 0, none⟩), .pointer (some ⟨p8, 0, none⟩), .int .i64 0, if t 12 = true then .pointer (some ⟨r7, 0, none⟩) else undef, if t 13 = true then .pointer (some ⟨r8, 0, none⟩) else undef, if t 16 = true then .int .i64 0 else undef, undef, undef, Value.tuple #[Value.slice (some ⟨g, o, none⟩) 2 cap, Value.int IntKind.i64 F], Value.int IntKind.i64 a, Value.int IntKind.i64 b, Value.slice (some ⟨w.heap.size, 0, none⟩) 2 2, Value.int IntKind.i64 E, Value.tuple #[Value.slice (some ⟨g, o, none⟩) 2 cap, Value.int IntKind.i64 F], Value.slice (some ⟨g, o, none⟩) 2 cap, Value.int IntKind.i64 F, .tuple #[.agg #[.int .i64 x0, .int .i64 x1], .agg #[.int .i64 y0, .int .i64 y1], .int .i64 0], .int .i64 F, .slice (some ⟨g, o, none⟩) 2 cap, .pointer (some ⟨g, o, none⟩), .int .i64 x, .slice (some ⟨g, o, none⟩) 2 cap, .pointer (some ⟨g, o + 1, none⟩), .int .i64 y, .tuple #[.agg #[.int .i64 x0, .int .i64 x1], .agg #[.int .i64 y0, .int .i64 y1], .int .i64 0], .agg #[.int .i64 x0, .int .i64 x1], .agg #[.int .i64 y0, .int .i64 y1], .int .i64 0, if t 8 = true then .tuple #[.agg #[.int .i64 y0, .int .i64 y1], .agg #[.int .i64 x0, .int .i64 x1], .int .i64 0] else undef, if t 0 = true then .int .i64 F else undef, if t 1 = true then .slice (some ⟨g, o, none⟩) 2 cap else undef, if t 2 = true then .pointer (some ⟨g, o + 1, none⟩) else undef, if t 3 = true then .int .i64 y else undef, if t 4 = true then .slice (some ⟨g, o, none⟩) 2 cap else undef, if t 5 = true then .pointer (some ⟨g, o, none⟩) else undef, if t 6 = true then .int .i64 x else undef, if t 7 = true then .tuple #[.agg #[.int .i64 y0, .int .i64 y1], .agg #[.int .i64 x0, .int .i64 x1], .int .i64 0] else undef, if t 9 = true then .agg #[.int .i64 y0, .int .i64 y1] else undef, if t 10 = true then .agg #[.int .i64 x0, .int .i64 x1] else undef, if t 11 = true then .int .i64 0 else undef, undef, undef, undef, undef, undef, undef, undef, undef, undef, undef, undef, undef, undef, undef, undef, undef, undef, undef, undef, undef, undef, undef, undef, undef, undef, undef, undef, undef, undef, undef, undef, undef, undef, undef, undef, undef, undef, undef, undef, undef, undef, undef, undef, undef, undef, undef, undef, undef, undef, undef, undef, undef, undef, undef, undef, undef, undef, undef, undef, undef, undef, undef, undef, undef, undef, undef, undef, undef, undef, undef, undef, undef, undef, undef, undef, undef, undef], defers := [] } ∧ FvI w2 12 13 14 15 y0 y1 x0 x1 t r7 r8 W) mixed_ok (by kernel_rfl) ?_ ?_ ?_
  · intro t hs
    refine ⟨0, 0, ?_, FvI.start (hs 12 (by decide)) (hs 13 (by decide)) (hs 14 (by decide)) (hs 15 (by decide))⟩
    simp only [hs 0 (by decide), hs 1 (by decide), hs 2 (by decide), hs 3 (by decide), hs 4 (by decide), hs 5 (by decide), hs 6 (by decide), hs 7 (by decide), hs 8 (by decide), hs 9 (by decide), hs 10 (by decide), hs 11 (by decide), hs 12 (by decide), hs 13 (by decide), hs 14 (by decide), hs 15 (by decide), hs 16 (by decide), Bool.false_eq_true, if_false]
  · refine ⟨?_, ?_, ?_, ?_, ?_, ?_, ?_, ?_, ?_, ?_, ?_, ?_, ?_, ?_, ?_, ?_, ?_, trivial⟩
    · rintro t act W hun hdep hbeh ⟨r7, r8, rfl, hT⟩
      (try simp only [Nat.reduceAdd] at hun)
      refine .inl ⟨by rfl, Inv.comesV_val (.int .i64 F) W (by (go_simp; try rfl)) ⟨r7, r8, by (simp only [Act.put, List.setIfInBounds_toArray, List.set_cons_succ, List.set_cons_zero, Manyd.upd, Nat.reduceAdd, Nat.reduceBEq, Bool.or_false, Bool.or_true, if_true]), FvI.keep (i := 0) (by decide) (by decide) (by decide) (by decide) hT⟩⟩
    · rintro t act W hun hdep hbeh ⟨r7, r8, rfl, hT⟩
      (try simp only [Nat.reduceAdd] at hun)
      refine .inl ⟨by rfl, Inv.comesV_val (.slice (some ⟨g, o, none⟩) 2 cap) W (by (go_simp; try rfl)) ⟨r7, r8, by (simp only [Act.put, List.setIfInBounds_toArray, List.set_cons_succ, List.set_cons_zero, Manyd.upd, Nat.reduceAdd, Nat.reduceBEq, Bool.or_false, Bool.or_true, if_true]), FvI.keep (i := 1) (by decide) (by decide) (by decide) (by decide) hT⟩⟩
    · rintro t act W hun hdep hbeh ⟨r7, r8, rfl, hT⟩
      (try simp only [Nat.reduceAdd] at hun)
      have h1 : t 1 = true := Inv.depB_mem 1 hdep (by rfl)
      refine .inl ⟨by rfl, Inv.comesV_val (.pointer (some ⟨g, o + 1, none⟩)) W (by (simp only [h1, if_true, Bool.false_eq_true, if_false]; go_simp; try rfl)) ⟨r7, r8, by (simp only [Act.put, List.setIfInBounds_toArray, List.set_cons_succ, List.set_cons_zero, Manyd.upd, Nat.reduceAdd, Nat.reduceBEq, Bool.or_false, Bool.or_true, if_true]), FvI.keep (i := 2) (by decide) (by decide) (by decide) (by decide) hT⟩⟩
    · rintro t act W hun hdep hbeh ⟨r7, r8, rfl, hT⟩
      (try simp only [Nat.reduceAdd] at hun)
      have h2 : t 2 = true := Inv.depB_mem 2 hdep (by rfl)
      have c0 := cell_below hc1 hT.bw
      refine .inl ⟨by rfl, Inv.comesV_val (.int .i64 y) W (by (simp only [h2, if_true, Bool.false_eq_true, if_false]; go_simp; try rfl)) ⟨r7, r8, by (simp only [Act.put, List.setIfInBounds_toArray, List.set_cons_succ, List.set_cons_zero, Manyd.upd, Nat.reduceAdd, Nat.reduceBEq, Bool.or_false, Bool.or_true, if_true]), FvI.keep (i := 3) (by decide) (by decide) (by decide) (by decide) hT⟩⟩
    · rintro t act W hun hdep hbeh ⟨r7, r8, rfl, hT⟩
      (try simp only [Nat.reduceAdd] at hun)
      refine .inl ⟨by rfl, Inv.comesV_val (.slice (some ⟨g, o, none⟩) 2 cap) W (by (go_simp; try rfl)) ⟨r7, r8, by (simp only [Act.put, List.setIfInBounds_toArray, List.set_cons_succ, List.set_cons_zero, Manyd.upd, Nat.reduceAdd, Nat.reduceBEq, Bool.or_false, Bool.or_true, if_true]), FvI.keep (i := 4) (by decide) (by decide) (by decide) (by decide) hT⟩⟩
    · rintro t act W hun hdep hbeh ⟨r7, r8, rfl, hT⟩
      (try simp only [Nat.reduceAdd] at hun)
      have h4 : t 4 = true := Inv.depB_mem 4 hdep (by rfl)
      refine .inl ⟨by rfl, Inv.comesV_val (.pointer (some ⟨g, o, none⟩)) W (by (simp only [h4, if_true, Bool.false_eq_true, if_false]; go_simp; try rfl)) ⟨r7, r8, by (simp only [Act.put, List.setIfInBounds_toArray, List.set_cons_succ, List.set_cons_zero, Manyd.upd, Nat.reduceAdd, Nat.reduceBEq, Bool.or_false, Bool.or_true, if_true]), FvI.keep (i := 5) (by decide) (by decide) (by decide) (by decide) hT⟩⟩
    · rintro t act W hun hdep hbeh ⟨r7, r8, rfl, hT⟩
      (try simp only [Nat.reduceAdd] at hun)
      have h5 : t 5 = true := Inv.depB_mem 5 hdep (by rfl)
      have c0 := cell_below hc0 hT.bw
      refine .inl ⟨by rfl, Inv.comesV_val (.int .i64 x) W (by (simp only [h5, if_true, Bool.false_eq_true, if_false]; go_simp; try rfl)) ⟨r7, r8, by (simp only [Act.put, List.setIfInBounds_toArray, List.set_cons_succ, List.set_cons_zero, Manyd.upd, Nat.reduceAdd, Nat.reduceBEq, Bool.or_false, Bool.or_true, if_true]), FvI.keep (i := 6) (by decide) (by decide) (by decide) (by decide) hT⟩⟩
    · rintro t act W hun hdep hbeh ⟨r7, r8, rfl, hT⟩
      (try simp only [Nat.reduceAdd] at hun)
      have h0 : t 0 = true := Inv.depB_mem 0 hdep (by rfl)
      have h3 : t 3 = true := Inv.depB_mem 3 hdep (by rfl)
      have h6 : t 6 = true := Inv.depB_mem 6 hdep (by rfl)
      refine .inl ⟨by rfl, Inv.comesV_call 28 #[.int .i64 F, .int .i64 y, .int .i64 x] W (by (simp only [h0, h3, h6, if_true, Bool.false_eq_true, if_false]; go_simp; try rfl)) ((q28b W).mono fun e w5 hw5 => ⟨_, hw5.1, r7, r8, by (simp only [Act.put, List.setIfInBounds_toArray, List.set_cons_succ, List.set_cons_zero, Manyd.upd, Nat.reduceAdd, Nat.reduceBEq, Bool.or_false, Bool.or_true, if_true]), FvI.keep (i := 7) (by decide) (by decide) (by decide) (by decide) (hT.after hw5.2)⟩)⟩
    · rintro t act W hun hdep hbeh ⟨r7, r8, rfl, hT⟩
      (try simp only [Nat.reduceAdd] at hun)
      have h7 : t 7 = true := Inv.depB_mem 7 hdep (by rfl)
      refine .inl ⟨by rfl, Inv.comesV_val (.tuple #[.agg #[.int .i64 y0, .int .i64 y1], .agg #[.int .i64 x0, .int .i64 x1], .int .i64 0]) W (by (simp only [h7, if_true, Bool.false_eq_true, if_false]; go_simp; try rfl)) ⟨r7, r8, by (simp only [Act.put, List.setIfInBounds_toArray, List.set_cons_succ, List.set_cons_zero, Manyd.upd, Nat.reduceAdd, Nat.reduceBEq, Bool.or_false, Bool.or_true, if_true]), FvI.keep (i := 8) (by decide) (by decide) (by decide) (by decide) hT⟩⟩
    · rintro t act W hun hdep hbeh ⟨r7, r8, rfl, hT⟩
      (try simp only [Nat.reduceAdd] at hun)
      have h8 : t 8 = true := Inv.depB_mem 8 hdep (by rfl)
      refine .inl ⟨by rfl, Inv.comesV_val (.agg #[.int .i64 y0, .int .i64 y1]) W (by (simp only [h8, if_true, Bool.false_eq_true, if_false]; go_simp; try rfl)) ⟨r7, r8, by (simp only [Act.put, List.setIfInBounds_toArray, List.set_cons_succ, List.set_cons_zero, Manyd.upd, Nat.reduceAdd, Nat.reduceBEq, Bool.or_false, Bool.or_true, if_true]), FvI.keep (i := 9) (by decide) (by decide) (by decide) (by decide) hT⟩⟩
    · rintro t act W hun hdep hbeh ⟨r7, r8, rfl, hT⟩
      (try simp only [Nat.reduceAdd] at hun)
      have h8 : t 8 = true := Inv.depB_mem 8 hdep (by rfl)
      refine .inl ⟨by rfl, Inv.comesV_val (.agg #[.int .i64 x0, .int .i64 x1]) W (by (simp only [h8, if_true, Bool.false_eq_true, if_false]; go_simp; try rfl)) ⟨r7, r8, by (simp only [Act.put, List.setIfInBounds_toArray, List.set_cons_succ, List.set_cons_zero, Manyd.upd, Nat.reduceAdd, Nat.reduceBEq, Bool.or_false, Bool.or_true, if_true]), FvI.keep (i := 10) (by decide) (by decide) (by decide) (by decide) hT⟩⟩
    · rintro t act W hun hdep hbeh ⟨r7, r8, rfl, hT⟩
      (try simp only [Nat.reduceAdd] at hun)
      have h8 : t 8 = true := Inv.depB_mem 8 hdep (by rfl)
      refine .inl ⟨by rfl, Inv.comesV_val (.int .i64 0) W (by (simp only [h8, if_true, Bool.false_eq_true, if_false]; go_simp; try rfl)) ⟨r7, r8, by (simp only [Act.put, List.setIfInBounds_toArray, List.set_cons_succ, List.set_cons_zero, Manyd.upd, Nat.reduceAdd, Nat.reduceBEq, Bool.or_false, Bool.or_true, if_true]), FvI.keep (i := 11) (by decide) (by decide) (by decide) (by decide) hT⟩⟩
    · rintro t act W hun hdep hbeh ⟨r7, r8, rfl, hT⟩
      (try simp only [Nat.reduceAdd] at hun)
      refine .inl ⟨by rfl, Inv.comesV_val (.pointer (some ⟨W.heap.size, 0, none⟩)) (W.alloc (.cells #[.int .i64 0, .int .i64 0] 37)) (by (go_simp; try rfl)) ⟨W.heap.size, r8, by (simp only [Act.put, List.setIfInBounds_toArray, List.set_cons_succ, List.set_cons_zero, Manyd.upd, Nat.reduceAdd, Nat.reduceBEq, Bool.or_false, Bool.or_true, if_true]), hT.alloc7 ⟨by decide, by decide, by decide, by decide, by decide, by decide⟩ hun⟩⟩
    · rintro t act W hun hdep hbeh ⟨r7, r8, rfl, hT⟩
      (try simp only [Nat.reduceAdd] at hun)
      refine .inl ⟨by rfl, Inv.comesV_val (.pointer (some ⟨W.heap.size, 0, none⟩)) (W.alloc (.cells #[.int .i64 0, .int .i64 0] 37)) (by (go_simp; try rfl)) ⟨r7, W.heap.size, by (simp only [Act.put, List.setIfInBounds_toArray, List.set_cons_succ, List.set_cons_zero, Manyd.upd, Nat.reduceAdd, Nat.reduceBEq, Bool.or_false, Bool.or_true, if_true]), hT.alloc8 ⟨by decide, by decide, by decide, by decide, by decide, by decide⟩ hun⟩⟩
    · rintro t act W hun hdep hbeh ⟨r7, r8, rfl, hT⟩
      (try simp only [Nat.reduceAdd] at hun)
      have h12 : t 12 = true := Inv.depB_mem 12 hdep (by rfl)
      have h9 : t 9 = true := Inv.depB_mem 9 hdep (by rfl)
      obtain ⟨c0, c1, f0, f1⟩ := hT.own7 h12 hun
      refine .inl ⟨by rfl, Inv.comesV_skip ((W.setCell ⟨r7, 0, none⟩ (.int .i64 y0)).setCell ⟨r7, 1, none⟩ (.int .i64 y1)) (by (simp only [h12, h9, if_true, Bool.false_eq_true, if_false]; go_simp; try rfl)) ⟨r7, r8, by (simp only [Act.put, List.setIfInBounds_toArray, List.set_cons_succ, List.set_cons_zero, Manyd.upd, Nat.reduceAdd, Nat.reduceBEq, Bool.or_false, Bool.or_true, if_true]), hT.set7 ⟨by decide, by decide, by decide, by decide, by decide, by decide⟩ h12 hun⟩⟩
    · rintro t act W hun hdep hbeh ⟨r7, r8, rfl, hT⟩
      (try simp only [Nat.reduceAdd] at hun)
      have h13 : t 13 = true := Inv.depB_mem 13 hdep (by rfl)
      have h10 : t 10 = true := Inv.depB_mem 10 hdep (by rfl)
      obtain ⟨c0, c1, f0, f1⟩ := hT.own8 h13 hun
      refine .inl ⟨by rfl, Inv.comesV_skip ((W.setCell ⟨r8, 0, none⟩ (.int .i64 x0)).setCell ⟨r8, 1, none⟩ (.int .i64 x1)) (by (simp only [h13, h10, if_true, Bool.false_eq_true, if_false]; go_simp; try rfl)) ⟨r7, r8, by (simp only [Act.put, List.setIfInBounds_toArray, List.set_cons_succ, List.set_cons_zero, Manyd.upd, Nat.reduceAdd, Nat.reduceBEq, Bool.or_false, Bool.or_true, if_true]), hT.set8 ⟨by decide, by decide, by decide, by decide, by decide, by decide⟩ h13 hun⟩⟩
    · rintro t act W hun hdep hbeh ⟨r7, r8, rfl, hT⟩
      (try simp only [Nat.reduceAdd] at hun)
      have h11 : t 11 = true := Inv.depB_mem 11 hdep (by rfl)
      refine .inl ⟨by rfl, Inv.comesV_val (.int .i64 0) W (by (simp only [h11, if_true, Bool.false_eq_true, if_false]; go_simp; try rfl)) ⟨r7, r8, by (simp only [Act.put, List.setIfInBounds_toArray, List.set_cons_succ, List.set_cons_zero, Manyd.upd, Nat.reduceAdd, Nat.reduceBEq, Bool.or_false, Bool.or_true, if_true]), FvI.keep (i := 16) (by decide) (by decide) (by decide) (by decide) hT⟩⟩
  rintro t a' w3 hs ⟨r7, r8, rfl, hT⟩
  simp only [hs 0 (by decide), hs 1 (by decide), hs 2 (by decide), hs 3 (by decide), hs 4 (by decide), hs 5 (by decide), hs 6 (by decide), hs 7 (by decide), hs 8 (by decide), hs 9 (by decide), hs 10 (by decide), hs 11 (by decide), hs 12 (by decide), hs 13 (by decide), hs 14 (by decide), hs 15 (by decide), hs 16 (by decide), if_true]
  obtain ⟨hb3, ⟨k7, b7⟩, ⟨k8, b8⟩, -⟩ := hT.fin (hs 12 (by decide)) (hs 13 (by decide)) (hs 14 (by decide)) (hs 15 (by decide))
  have o11 := Own2.of b7
  have o12 := Own2.of b8
  have o7 := o7.after hb3
  have o8 := o8.after hb3
  have hc0 := cell_below hc0 hb3
  have hc1 := cell_below hc1 hb3
  have hb13 := hb2.trans (hb3.mono hb2.size)
  clear hT hs b7 b8
  go_wp2_with (go_at_call 22; (with_reducible refine (qA _ hb13).mono ?_); rintro e w4 ⟨G, N, L, rfl, m4, hG, hb4⟩
               have o7 := o7.after hb4
               have o8 := o8.after hb4
               have o11 := o11.after hb4
               have o12 := o12.after hb4
               have hc0 := cell_below hc0 hb4
               have hc1 := cell_below hc1 hb4
               have hb14 := hb13.trans (hb4.mono hb13.size)
               obtain ⟨t1, t2⟩ := htal.out N L m4.lev
               obtain ⟨gA, oA, e1, ha1, ha2⟩ := m4.at (k := 0) (by simp)
               injection e1 with e1
               injection e1 with e1 e2
               subst e1 e2
               obtain ⟨gB, oB, e1, hd1, hd2⟩ := m4.at (k := 1) (by simp)
               injection e1 with e1
               injection e1 with e1 e2
               subst e1 e2
               have hDD := awD_one (r := 3) (S := [x, y].sum) m4.lev.n1
               have z1 := red_same (a := awX 3 [x, y].sum F N L x) (b := awD 3 [x, y].sum N) (c := conX F x y) (d := 2) hDD (by omega) t1.symm
               have z2 := red_same (a := awX 3 [x, y].sum F N L y) (b := awD 3 [x, y].sum N) (c := conX F y x) (d := 2) hDD (by omega) t2.symm
               have ha1 : w4.cell? ⟨G, 0, none⟩ = some (.int .i64 (redN (awX 3 [x, y].sum F N L x) (awD 3 [x, y].sum N))) := ha1
               have ha2 : w4.cell? ⟨G, 1, none⟩ = some (.int .i64 (redD (awX 3 [x, y].sum F N L x) (awD 3 [x, y].sum N))) := ha2
               have hd1 : w4.cell? ⟨G, 2, none⟩ = some (.int .i64 (redN (awX 3 [x, y].sum F N L y) (awD 3 [x, y].sum N))) := hd1
               have hd2 : w4.cell? ⟨G, 3, none⟩ = some (.int .i64 (redD (awX 3 [x, y].sum F N L y) (awD 3 [x, y].sum N))) := hd2
               rw [z1.1, hx0.out] at ha1
               rw [z1.2, hx1.out] at ha2
               rw [z2.1, hy0.out] at hd1
               rw [z2.2, hy1.out] at hd2
               have q56 := fun W (hb : Below w4.heap.size w4 W) => fitM (by omega) hVK.out hFK.out (m4.after hb)
               clear hb4 qA t1 t2 z1 z2 hDD htal hx0 hx1 hy0 hy1 hb2 hb3 hb13)
  refine (wpIn_wide (n := 0)).1 ?_
  refine Many.region_many (Go.Proofs.Ytbocmbhinjkjlaa.Cb w4) mixed_ok (by kernel_rfl) (fun _ _ _ _ h => h) (fun s _ => Go.Proofs.Ytbocmbhinjkjlaa.Cb.start w4 s) ?_
  refine Many.lex_want (by rfl) (rdb (fun w hb => by (go_simp; try rfl))) ?_
  simp only [Act.put, List.setIfInBounds_toArray, List.set_cons_succ, List.set_cons_zero, Nat.reduceAdd]
  refine Many.lex_want (by rfl) (rdb (v := .bool false) (fun w hb => by (skip; go_simp; try rfl))) ?_
  simp only [Act.put, List.setIfInBounds_toArray, List.set_cons_succ, List.set_cons_zero, Nat.reduceAdd]
  refine Many.lex_want (by rfl) (rdb (v := .bool false) (fun w hb => by (skip; go_simp; try rfl))) ?_
  simp only [Act.put, List.setIfInBounds_toArray, List.set_cons_succ, List.set_cons_zero, Nat.reduceAdd]
  refine Many.lex_want (by rfl) (rdb (fun w hb => by (go_simp; try rfl))) ?_
  simp only [Act.put, List.setIfInBounds_toArray, List.set_cons_succ, List.set_cons_zero, Nat.reduceAdd]
  refine Many.lex_want (by rfl) (rdb (v := .bool false) (fun w hb => by (skip; go_simp; try rfl))) ?_
  simp only [Act.put, List.setIfInBounds_toArray, List.set_cons_succ, List.set_cons_zero, Nat.reduceAdd]
  refine Many.lex_want (by rfl) (rdb (v := .bool false) (fun w hb => by (skip; go_simp; try rfl))) ?_
  simp only [Act.put, List.setIfInBounds_toArray, List.set_cons_succ, List.set_cons_zero, Nat.reduceAdd]
  refine Many.lex_want (by rfl) (rdb (v := .bool false) (fun w hb => by (skip; go_simp; try rfl))) ?_
  simp only [Act.put, List.setIfInBounds_toArray, List.set_cons_succ, List.set_cons_zero, Nat.reduceAdd]
  refine Many.lex_want (by rfl) (rdb (fun w hb => by (go_simp; try rfl))) ?_
  simp only [Act.put, List.setIfInBounds_toArray, List.set_cons_succ, List.set_cons_zero, Nat.reduceAdd]
  refine Many.lex_want (by rfl) (rdb (v := .bool false) (fun w hb => by (skip; go_simp; try rfl))) ?_
  simp only [Act.put, List.setIfInBounds_toArray, List.set_cons_succ, List.set_cons_zero, Nat.reduceAdd]
  refine Many.lex_want (by rfl) (rdb (v := .bool false) (fun w hb => by (skip; go_simp; try rfl))) ?_
  simp only [Act.put, List.setIfInBounds_toArray, List.set_cons_succ, List.set_cons_zero, Nat.reduceAdd]
  refine Many.lex_want (by rfl) (rdb (v := .bool false) (fun w hb => by (skip; go_simp; try rfl))) ?_
  simp only [Act.put, List.setIfInBounds_toArray, List.set_cons_succ, List.set_cons_zero, Nat.reduceAdd]
  refine Many.lex_want (by rfl) (rdb (v := .agg #[.int .i64 x0, .int .i64 x1]) (fun w hb => by (obtain ⟨c0, c1, f0, f1⟩ := (o7).after hb; go_simp; try rfl))) ?_
  simp only [Act.put, List.setIfInBounds_toArray, List.set_cons_succ, List.set_cons_zero, Nat.reduceAdd]
  refine Many.lex_want (by rfl) (rdb (v := .agg #[.int .i64 x0, .int .i64 x1]) (fun w hb => by (obtain ⟨c0, c1, f0, f1⟩ := (o12).after hb; go_simp; try rfl))) ?_
  simp only [Act.put, List.setIfInBounds_toArray, List.set_cons_succ, List.set_cons_zero, Nat.reduceAdd]
  refine Many.lex_want (by rfl) (rdb (v := .bool false) (fun w hb => by (have e := eX; go_simp; try rfl))) ?_
  simp only [Act.put, List.setIfInBounds_toArray, List.set_cons_succ, List.set_cons_zero, Nat.reduceAdd]
  refine Many.lex_want (by rfl) (rdb (v := .bool false) (fun w hb => by (skip; go_simp; try rfl))) ?_
  simp only [Act.put, List.setIfInBounds_toArray, List.set_cons_succ, List.set_cons_zero, Nat.reduceAdd]
  refine Many.lex_want (by rfl) (rdb (v := .bool false) (fun w hb => by (skip; go_simp; try rfl))) ?_
  simp only [Act.put, List.setIfInBounds_toArray, List.set_cons_succ, List.set_cons_zero, Nat.reduceAdd]
  refine Many.lex_want (by rfl) (rdb (v := .agg #[.int .i64 y0, .int .i64 y1]) (fun w hb => by (obtain ⟨c0, c1, f0, f1⟩ := (o8).after hb; go_simp; try rfl))) ?_
  simp only [Act.put, List.setIfInBounds_toArray, List.set_cons_succ, List.set_cons_zero, Nat.reduceAdd]
  refine Many.lex_want (by rfl) (rdb (v := .agg #[.int .i64 y0, .int .i64 y1]) (fun w hb => by (obtain ⟨c0, c1, f0, f1⟩ := (o11).after hb; go_simp; try rfl))) ?_
  simp only [Act.put, List.setIfInBounds_toArray, List.set_cons_succ, List.set_cons_zero, Nat.reduceAdd]
  refine Many.lex_want (by rfl) (rdb (v := .bool false) (fun w hb => by (have e := eY; go_simp; try rfl))) ?_
  simp only [Act.put, List.setIfInBounds_toArray, List.set_cons_succ, List.set_cons_zero, Nat.reduceAdd]
  refine Many.lex_want (by rfl) (rdb (v := .bool false) (fun w hb => by (skip; go_simp; try rfl))) ?_
  simp only [Act.put, List.setIfInBounds_toArray, List.set_cons_succ, List.set_cons_zero, Nat.reduceAdd]
  refine Many.lex_want (by rfl) (rdb (v := .bool false) (fun w hb => by (skip; go_simp; try rfl))) ?_
  simp only [Act.put, List.setIfInBounds_toArray, List.set_cons_succ, List.set_cons_zero, Nat.reduceAdd]
  refine Many.lex_want (by rfl) (rdb (fun w hb => by (go_simp; try rfl))) ?_
  simp only [Act.put, List.setIfInBounds_toArray, List.set_cons_succ, List.set_cons_zero, Nat.reduceAdd]
  refine Many.lex_want (by rfl) (rdb (v := .int .i64 2) (fun w hb => by (skip; go_simp; try rfl))) ?_
  simp only [Act.put, List.setIfInBounds_toArray, List.set_cons_succ, List.set_cons_zero, Nat.reduceAdd]
  refine Many.lex_want (by rfl) (rdb (v := .bool false) (fun w hb => by (skip; go_simp; try rfl))) ?_
  simp only [Act.put, List.setIfInBounds_toArray, List.set_cons_succ, List.set_cons_zero, Nat.reduceAdd]
  refine Many.lex_want (by rfl) (rdb (v := .bool false) (fun w hb => by (skip; go_simp; try rfl))) ?_
  simp only [Act.put, List.setIfInBounds_toArray, List.set_cons_succ, List.set_cons_zero, Nat.reduceAdd]
  refine Many.lex_want (by rfl) (rdb (v := .bool false) (fun w hb => by (skip; go_simp; try rfl))) ?_
  simp only [Act.put, List.setIfInBounds_toArray, List.set_cons_succ, List.set_cons_zero, Nat.reduceAdd]
  refine Many.lex_want (by rfl) (rdb (fun w hb => by (go_simp; try rfl))) ?_
  simp only [Act.put, List.setIfInBounds_toArray, List.set_cons_succ, List.set_cons_zero, Nat.reduceAdd]
  refine Many.lex_want (by rfl) (rdb (v := .pointer (some ⟨G, 0, none⟩)) (fun w hb => by (skip; go_simp; try rfl))) ?_
  simp only [Act.put, List.setIfInBounds_toArray, List.set_cons_succ, List.set_cons_zero, Nat.reduceAdd]
  refine Many.lex_want (by rfl) (rdb (v := .agg #[.int .i64 x0, .int .i64 x1]) (fun w hb => by (have c0 := cell_below ha1 hb; have c1 := cell_below ha2 hb; go_simp; try rfl))) ?_
  simp only [Act.put, List.setIfInBounds_toArray, List.set_cons_succ, List.set_cons_zero, Nat.reduceAdd]
  refine Many.lex_want (by rfl) (rdb (v := .agg #[.int .i64 x0, .int .i64 x1]) (fun w hb => by (obtain ⟨c0, c1, f0, f1⟩ := (o7).after hb; go_simp; try rfl))) ?_
  simp only [Act.put, List.setIfInBounds_toArray, List.set_cons_succ, List.set_cons_zero, Nat.reduceAdd]
  refine Many.lex_want (by rfl) (rdb (v := .bool false) (fun w hb => by (have e := eX; go_simp; try rfl))) ?_
  simp only [Act.put, List.setIfInBounds_toArray, List.set_cons_succ, List.set_cons_zero, Nat.reduceAdd]
  refine Many.lex_want (by rfl) (rdb (v := .bool false) (fun w hb => by (skip; go_simp; try rfl))) ?_
  simp only [Act.put, List.setIfInBounds_toArray, List.set_cons_succ, List.set_cons_zero, Nat.reduceAdd]
  refine Many.lex_want (by rfl) (rdb (v := .bool false) (fun w hb => by (skip; go_simp; try rfl))) ?_
  simp only [Act.put, List.setIfInBounds_toArray, List.set_cons_succ, List.set_cons_zero, Nat.reduceAdd]
  refine Many.lex_want (by rfl) (rdb (fun w hb => by (go_simp; try rfl))) ?_
  simp only [Act.put, List.setIfInBounds_toArray, List.set_cons_succ, List.set_cons_zero, Nat.reduceAdd]
  refine Many.lex_want (by rfl) (rdb (v := .pointer (some ⟨G, 2, none⟩)) (fun w hb => by (skip; go_simp; try rfl))) ?_
  simp only [Act.put, List.setIfInBounds_toArray, List.set_cons_succ, List.set_cons_zero, Nat.reduceAdd]
  refine Many.lex_want (by rfl) (rdb (v := .agg #[.int .i64 y0, .int .i64 y1]) (fun w hb => by (have c0 := cell_below hd1 hb; have c1 := cell_below hd2 hb; go_simp; try rfl))) ?_
  simp only [Act.put, List.setIfInBounds_toArray, List.set_cons_succ, List.set_cons_zero, Nat.reduceAdd]
  refine Many.lex_want (by rfl) (rdb (v := .agg #[.int .i64 y0, .int .i64 y1]) (fun w hb => by (obtain ⟨c0, c1, f0, f1⟩ := (o8).after hb; go_simp; try rfl))) ?_
  simp only [Act.put, List.setIfInBounds_toArray, List.set_cons_succ, List.set_cons_zero, Nat.reduceAdd]
  refine Many.lex_want (by rfl) (rdb (v := .bool false) (fun w hb => by (have e := eY; go_simp; try rfl))) ?_
  simp only [Act.put, List.setIfInBounds_toArray, List.set_cons_succ, List.set_cons_zero, Nat.reduceAdd]
  refine Many.lex_want (by rfl) (rdb (v := .bool false) (fun w hb => by (skip; go_simp; try rfl))) ?_
  simp only [Act.put, List.setIfInBounds_toArray, List.set_cons_succ, List.set_cons_zero, Nat.reduceAdd]
  refine Many.lex_want (by rfl) (rdb (v := .bool false) (fun w hb => by (skip; go_simp; try rfl))) ?_
  simp only [Act.put, List.setIfInBounds_toArray, List.set_cons_succ, List.set_cons_zero, Nat.reduceAdd]
  refine Many.lex_want (by rfl) (rdb (fun w hb => by (go_simp; try rfl))) ?_
  simp only [Act.put, List.setIfInBounds_toArray, List.set_cons_succ, List.set_cons_zero, Nat.reduceAdd]
  refine Many.lex_want (by rfl) (clw q56 (fun w hb => by (go_simp; try rfl))) ?_
  simp only [Act.put, List.setIfInBounds_toArray, List.set_cons_succ, List.set_cons_zero, Nat.reduceAdd]
  refine Many.lex_want (by rfl) (rdb (v := .bool false) (fun w hb => by (skip; go_simp; try rfl))) ?_
  simp only [Act.put, List.setIfInBounds_toArray, List.set_cons_succ, List.set_cons_zero, Nat.reduceAdd]
  refine Many.lex_want (by rfl) (rdb (v := .bool false) (fun w hb => by (skip; go_simp; try rfl))) ?_
  simp only [Act.put, List.setIfInBounds_toArray, List.set_cons_succ, List.set_cons_zero, Nat.reduceAdd]
  refine Many.lex_nil fun s w5 hs hC => ?_
  have hC : Below w4.heap.size w4 w5 := hC
  have hb15 := hb14.trans (hC.mono hb14.size)
  have o7 := o7.after hC
  have o8 := o8.after hC
  have hc0 := cell_below hc0 hC
  have hc1 := cell_below hc1 hC
  clear hC hs q56 ha1 ha2 hd1 hd2 o11 o12
  go_wp2
  refine (wpIn_wide (n := 0)).1 ?_
  refine Many.region_many (Go.Proofs.Ytbocmbhinjkjlaa.Cb w5) mixed_ok (by kernel_rfl) (fun _ _ _ _ h => h) (fun s _ => Go.Proofs.Ytbocmbhinjkjlaa.Cb.start w5 s) ?_
  refine Many.lex_want (by rfl) (rdb (v := .agg #[.int .i64 x0, .int .i64 x1]) (fun w hb => by (obtain ⟨c0, c1, f0, f1⟩ := (o7).after hb; go_simp; try rfl))) ?_
  simp only [Act.put, List.setIfInBounds_toArray, List.set_cons_succ, List.set_cons_zero, Nat.reduceAdd]
  refine Many.lex_want (by rfl) (rdb (v := .agg #[.int .i64 y0, .int .i64 y1]) (fun w hb => by (obtain ⟨c0, c1, f0, f1⟩ := (o8).after hb; go_simp; try rfl))) ?_
  simp only [Act.put, List.setIfInBounds_toArray, List.set_cons_succ, List.set_cons_zero, Nat.reduceAdd]
  refine Many.lex_want (by rfl) (clb q52 (fun w hb => by (go_simp; try rfl))) ?_
  simp only [Act.put, List.setIfInBounds_toArray, List.set_cons_succ, List.set_cons_zero, Nat.reduceAdd]
  refine Many.lex_want (by rfl) (rdb (fun w hb => by (go_simp; try rfl))) ?_
  simp only [Act.put, List.setIfInBounds_toArray, List.set_cons_succ, List.set_cons_zero, Nat.reduceAdd]
  refine Many.lex_want (by rfl) (clb q29F (fun w hb => by (go_simp; try rfl))) ?_
  simp only [Act.put, List.setIfInBounds_toArray, List.set_cons_succ, List.set_cons_zero, Nat.reduceAdd]
  refine Many.lex_want (by rfl) (rdb (v := .bool true) (fun w hb => by (have e := eF; go_simp; try rfl))) ?_
  simp only [Act.put, List.setIfInBounds_toArray, List.set_cons_succ, List.set_cons_zero, Nat.reduceAdd]
  refine Many.lex_want (by rfl) (rdb (v := .bool true) (fun w hb => by (skip; go_simp; try rfl))) ?_
  simp only [Act.put, List.setIfInBounds_toArray, List.set_cons_succ, List.set_cons_zero, Nat.reduceAdd]
  refine Many.lex_want (by rfl) (rdb (fun w hb => by (go_simp; try rfl))) ?_
  simp only [Act.put, List.setIfInBounds_toArray, List.set_cons_succ, List.set_cons_zero, Nat.reduceAdd]
  refine Many.lex_want (by rfl) (rdb (v := .pointer (some ⟨g, o, none⟩)) (fun w hb => by (skip; go_simp; try rfl))) ?_
  simp only [Act.put, List.setIfInBounds_toArray, List.set_cons_succ, List.set_cons_zero, Nat.reduceAdd]
  refine Many.lex_want (by rfl) (rdb (v := .int .i64 x) (fun w hb => by (have c0 := cell_below hc0 hb; go_simp; try rfl))) ?_
  simp only [Act.put, List.setIfInBounds_toArray, List.set_cons_succ, List.set_cons_zero, Nat.reduceAdd]
  refine Many.lex_want (by rfl) (clb q29x (fun w hb => by (go_simp; try rfl))) ?_
  simp only [Act.put, List.setIfInBounds_toArray, List.set_cons_succ, List.set_cons_zero, Nat.reduceAdd]
  refine Many.lex_want (by rfl) (rdb (v := .agg #[.int .i64 x0, .int .i64 x1]) (fun w hb => by (obtain ⟨c0, c1, f0, f1⟩ := (o7).after hb; go_simp; try rfl))) ?_
  simp only [Act.put, List.setIfInBounds_toArray, List.set_cons_succ, List.set_cons_zero, Nat.reduceAdd]
  refine Many.lex_want (by rfl) (clb q53a (fun w hb => by (go_simp; try rfl))) ?_
  simp only [Act.put, List.setIfInBounds_toArray, List.set_cons_succ, List.set_cons_zero, Nat.reduceAdd]
  refine Many.lex_want (by rfl) (rdb (v := .bool true) (fun w hb => by (skip; go_simp; try rfl))) ?_
  simp only [Act.put, List.setIfInBounds_toArray, List.set_cons_succ, List.set_cons_zero, Nat.reduceAdd]
  refine Many.lex_want (by rfl) (rdb (v := .bool true) (fun w hb => by (skip; go_simp; try rfl))) ?_
  simp only [Act.put, List.setIfInBounds_toArray, List.set_cons_succ, List.set_cons_zero, Nat.reduceAdd]
  refine Many.lex_want (by rfl) (rdb (v := .bool true) (fun w hb => by (skip; go_simp; try rfl))) ?_
  simp only [Act.put, List.setIfInBounds_toArray, List.set_cons_succ, List.set_cons_zero, Nat.reduceAdd]
  refine Many.lex_want (by rfl) (rdb (fun w hb => by (go_simp; try rfl))) ?_
  simp only [Act.put, List.setIfInBounds_toArray, List.set_cons_succ, List.set_cons_zero, Nat.reduceAdd]
  refine Many.lex_want (by rfl) (rdb (v := .pointer (some ⟨g, o + 1, none⟩)) (fun w hb => by (skip; go_simp; try rfl))) ?_
  simp only [Act.put, List.setIfInBounds_toArray, List.set_cons_succ, List.set_cons_zero, Nat.reduceAdd]
  refine Many.lex_want (by rfl) (rdb (v := .int .i64 y) (fun w hb => by (have c0 := cell_below hc1 hb; go_simp; try rfl))) ?_
  simp only [Act.put, List.setIfInBounds_toArray, List.set_cons_succ, List.set_cons_zero, Nat.reduceAdd]
  refine Many.lex_want (by rfl) (clb q29y (fun w hb => by (go_simp; try rfl))) ?_
  simp only [Act.put, List.setIfInBounds_toArray, List.set_cons_succ, List.set_cons_zero, Nat.reduceAdd]
  refine Many.lex_want (by rfl) (rdb (v := .agg #[.int .i64 y0, .int .i64 y1]) (fun w hb => by (obtain ⟨c0, c1, f0, f1⟩ := (o8).after hb; go_simp; try rfl))) ?_
  simp only [Act.put, List.setIfInBounds_toArray, List.set_cons_succ, List.set_cons_zero, Nat.reduceAdd]
  refine Many.lex_want (by rfl) (clb q53b (fun w hb => by (go_simp; try rfl))) ?_
  simp only [Act.put, List.setIfInBounds_toArray, List.set_cons_succ, List.set_cons_zero, Nat.reduceAdd]
  refine Many.lex_want (by rfl) (rdb (v := .bool true) (fun w hb => by (skip; go_simp; try rfl))) ?_
  simp only [Act.put, List.setIfInBounds_toArray, List.set_cons_succ, List.set_cons_zero, Nat.reduceAdd]
  refine Many.lex_want (by rfl) (rdb (v := .bool true) (fun w hb => by (skip; go_simp; try rfl))) ?_
  simp only [Act.put, List.setIfInBounds_toArray, List.set_cons_succ, List.set_cons_zero, Nat.reduceAdd]
  refine Many.lex_want (by rfl) (rdb (v := .bool true) (fun w hb => by (skip; go_simp; try rfl))) ?_
  simp only [Act.put, List.setIfInBounds_toArray, List.set_cons_succ, List.set_cons_zero, Nat.reduceAdd]
  refine Many.lex_want (by rfl) (clb awake_any (fun w hb => by (go_simp; try rfl))) ?_
  simp only [Act.put, List.setIfInBounds_toArray, List.set_cons_succ, List.set_cons_zero, Nat.reduceAdd]
  refine Many.lex_want (by rfl) (rdb (v := .bool true) (fun w hb => by (skip; go_simp; try rfl))) ?_
  simp only [Act.put, List.setIfInBounds_toArray, List.set_cons_succ, List.set_cons_zero, Nat.reduceAdd]
  refine Many.lex_want (by rfl) (rdb (fun w hb => by (go_simp; try rfl))) ?_
  simp only [Act.put, List.setIfInBounds_toArray, List.set_cons_succ, List.set_cons_zero, Nat.reduceAdd]
  refine Many.lex_nil fun s w6 hs hC => ?_
  have hC : Below w5.heap.size w5 w6 := hC
  have hb16 := hbw1.trans ((hb15.trans (hC.mono hb15.size)).mono hbw1.size)
  clear hC hs
  go_wp2
  go_ret
  exact ⟨rfl, hb16⟩
end Go.Proofs.Ytbocmbhinjkjlaa
