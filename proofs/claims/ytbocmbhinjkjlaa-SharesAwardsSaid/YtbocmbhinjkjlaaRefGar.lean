/- The contested garment in the reference, for any estate in lowest terms. -/
import Derived.Test.YtbocmbhinjkjlaaRefRest
set_option linter.unusedSimpArgs false
set_option linter.unusedVariables false
namespace Go.Proofs.Ytbocmbhinjkjlaa
open Go Go.Proofs Go.RowKit Go.Seq
structure GaI (W0 : World) (m0 m1 o0 o1 : Int) (t : Nat → Bool) (p7 p8 : Nat) (W : World) : Prop where
  bw : Below W0.heap.size W0 W
  a7 : t 6 = true → W0.heap.size ≤ p7 ∧ BlkAt W p7 (if t 8 = true then #[.int .i64 m0, .int .i64 m1] else #[.int .i64 0, .int .i64 0]) 37
  a8 : t 7 = true → W0.heap.size ≤ p8 ∧ BlkAt W p8 (if t 9 = true then #[.int .i64 o0, .int .i64 o1] else #[.int .i64 0, .int .i64 0]) 37
  ne : t 6 = true → t 7 = true → p7 ≠ p8
  d8 : t 8 = true → t 6 = true
  d9 : t 9 = true → t 7 = true
section
variable {W0 W W' : World} {m0 m1 o0 o1 : Int} {t : Nat → Bool} {p7 p8 : Nat}
theorem upd_ne {t : Nat → Bool} {i j : Nat} (h : (i == j) = false) : Manyd.upd t i j = t j := by simp only [Manyd.upd, h]; simp
theorem GaI.keep {i : Nat} (h6 : (i == 6) = false) (h7 : (i == 7) = false) (h8 : (i == 8) = false) (h9 : (i == 9) = false) (h : GaI W0 m0 m1 o0 o1 t p7 p8 W) : GaI W0 m0 m1 o0 o1 (Manyd.upd t i) p7 p8 W :=
  ⟨h.bw, by rw [upd_ne h6, upd_ne h8]; exact h.a7, by rw [upd_ne h7, upd_ne h9]; exact h.a8, by rw [upd_ne h6, upd_ne h7]; exact h.ne, by rw [upd_ne h8, upd_ne h6]; exact h.d8, by rw [upd_ne h9, upd_ne h7]; exact h.d9⟩
theorem GaI.after (h : GaI W0 m0 m1 o0 o1 t p7 p8 W) (hb : Below W.heap.size W W') : GaI W0 m0 m1 o0 o1 t p7 p8 W' :=
  ⟨h.bw.trans (hb.mono h.bw.size), fun k => ⟨(h.a7 k).1, (h.a7 k).2.after hb⟩, fun k => ⟨(h.a8 k).1, (h.a8 k).2.after hb⟩, h.ne, h.d8, h.d9⟩
theorem GaI.alloc7 (h : GaI W0 m0 m1 o0 o1 t p7 p8 W) (hun : t 6 = false) : GaI W0 m0 m1 o0 o1 (Manyd.upd t 6) W.heap.size p8 (W.alloc (.cells #[.int .i64 0, .int .i64 0] 37)) := by
  have n8 : t 8 = false := by
    cases e : t 8 with
    | false => rfl
    | true => rw [h.d8 e] at hun; cases hun
  have h' := h.after ((Below.refl _ _).alloc (Nat.le_refl _) (.cells #[.int .i64 0, .int .i64 0] 37))
  refine ⟨h'.bw, fun _ => ⟨h.bw.size, ?_⟩, ?_, ?_, ?_, ?_⟩
  · rw [upd_ne (by decide), n8]; exact BlkAt.new _ _ _
  · rw [upd_ne (by decide), upd_ne (by decide)]; exact h'.a8
  · rw [upd_ne (t := t) (i := 6) (j := 7) (by decide)]
    intro _ k e
    have := (h.a8 k).2.lt
    omega
  · rw [upd_ne (by decide), n8]; intro e; cases e
  · rw [upd_ne (by decide), upd_ne (by decide)]; exact h.d9
theorem GaI.alloc8 (h : GaI W0 m0 m1 o0 o1 t p7 p8 W) (hun : t 7 = false) : GaI W0 m0 m1 o0 o1 (Manyd.upd t 7) p7 W.heap.size (W.alloc (.cells #[.int .i64 0, .int .i64 0] 37)) := by
  have n9 : t 9 = false := by
    cases e : t 9 with
    | false => rfl
    | true => rw [h.d9 e] at hun; cases hun
  have h' := h.after ((Below.refl _ _).alloc (Nat.le_refl _) (.cells #[.int .i64 0, .int .i64 0] 37))
  refine ⟨h'.bw, ?_, fun _ => ⟨h.bw.size, ?_⟩, ?_, ?_, ?_⟩
  · rw [upd_ne (by decide), upd_ne (by decide)]; exact h'.a7
  · rw [upd_ne (by decide), n9]; exact BlkAt.new _ _ _
  · rw [upd_ne (t := t) (i := 7) (j := 6) (by decide)]
    intro k _ e
    have := (h.a7 k).2.lt
    omega
  · rw [upd_ne (by decide), upd_ne (by decide)]; exact h.d8
  · rw [upd_ne (by decide), n9]; intro e; cases e
theorem GaI.own7 (h : GaI W0 m0 m1 o0 o1 t p7 p8 W) (k : t 6 = true) (hun : t 8 = false) : Own2 W p7 (.int .i64 0) (.int .i64 0) := by
  have := (h.a7 k).2
  rw [hun] at this
  exact Own2.of this
theorem GaI.own8 (h : GaI W0 m0 m1 o0 o1 t p7 p8 W) (k : t 7 = true) (hun : t 9 = false) : Own2 W p8 (.int .i64 0) (.int .i64 0) := by
  have := (h.a8 k).2
  rw [hun] at this
  exact Own2.of this
theorem GaI.set7 (h : GaI W0 m0 m1 o0 o1 t p7 p8 W) (k : t 6 = true) (hun : t 8 = false) : GaI W0 m0 m1 o0 o1 (Manyd.upd t 8) p7 p8 ((W.setCell ⟨p7, 0, none⟩ (.int .i64 m0)).setCell ⟨p7, 1, none⟩ (.int .i64 m1)) := by
  obtain ⟨g7, b7⟩ := h.a7 k
  rw [hun] at b7
  refine ⟨(h.bw.setCell (p := ⟨p7, 0, none⟩) g7 _).setCell (p := ⟨p7, 1, none⟩) g7 _, fun _ => ⟨g7, ?_⟩, ?_, ?_, fun _ => ?_, ?_⟩
  · rw [if_pos (by simp [Manyd.upd])]; exact (b7.set 0 _).set 1 _
  · rw [upd_ne (by decide), upd_ne (by decide)]
    intro k8
    have hne := h.ne k k8
    exact ⟨(h.a8 k8).1, ((h.a8 k8).2.other (p := ⟨p7, 0, none⟩) (by exact fun e => hne e.symm) _).other (p := ⟨p7, 1, none⟩) (by exact fun e => hne e.symm) _⟩
  · rw [upd_ne (by decide), upd_ne (by decide)]; exact h.ne
  · rw [upd_ne (by decide)]; exact k
  · rw [upd_ne (by decide), upd_ne (by decide)]; exact h.d9
theorem GaI.set8 (h : GaI W0 m0 m1 o0 o1 t p7 p8 W) (k : t 7 = true) (hun : t 9 = false) : GaI W0 m0 m1 o0 o1 (Manyd.upd t 9) p7 p8 ((W.setCell ⟨p8, 0, none⟩ (.int .i64 o0)).setCell ⟨p8, 1, none⟩ (.int .i64 o1)) := by
  obtain ⟨g8, b8⟩ := h.a8 k
  rw [hun] at b8
  refine ⟨(h.bw.setCell (p := ⟨p8, 0, none⟩) g8 _).setCell (p := ⟨p8, 1, none⟩) g8 _, ?_, fun _ => ⟨g8, ?_⟩, ?_, ?_, fun _ => ?_⟩
  · rw [upd_ne (by decide), upd_ne (by decide)]
    intro k7
    have hne := h.ne k7 k
    exact ⟨(h.a7 k7).1, ((h.a7 k7).2.other (p := ⟨p8, 0, none⟩) (by exact hne) _).other (p := ⟨p8, 1, none⟩) (by exact hne) _⟩
  · rw [if_pos (by simp [Manyd.upd])]; exact (b8.set 0 _).set 1 _
  · rw [upd_ne (by decide), upd_ne (by decide)]; exact h.ne
  · rw [upd_ne (by decide), upd_ne (by decide)]; exact h.d8
  · rw [upd_ne (by decide)]; exact k
end
theorem over_bd {n d c : Int} (h : Bd n d) (hc : 0 ≤ c ∧ c ≤ 1000) (hd : d ≤ 1000) (hn : 0 ≤ n) : 0 ≤ over n (c * d) ∧ over n (c * d) ≤ n := by
  have : 0 ≤ c * d := Int.mul_nonneg hc.1 (by have := h.q1; omega)
  unfold over; split <;> omega
set_option maxHeartbeats 4000000 in
set_option maxRecDepth 100000 in
theorem refGarment_any {n d a b : Int} (h : Bd n d) (hn : 0 ≤ n ∧ n ≤ 1000000) (hd : d ≤ 1000) (ha : 0 ≤ a ∧ a ≤ 1000) (hb : 0 ≤ b ∧ b ≤ 1000) (w : World) :
    Calls Try.prog 30 #[redV n d, .int .i64 a, .int .i64 b] w fun e w' => e = .returned (redV (conX n (a * d) (b * d)) (2 * d)) ∧ Below w.heap.size w w' := by
  have hq := h.q1
  have f1 := over_bd h hb hd hn.1
  have f2 := over_bd h ha hd hn.1
  have qm := fun w => rest_any h (c := b) (by omega) w
  have qo := fun w => rest_any h (c := a) (by omega) w
  unfold restV at qm qo
  have hres : conX n (a * d) (b * d) = 2 * over n (b * d) + (n - over n (b * d) - over n (a * d)) := rfl
  rw [hres]
  clear hres
  generalize over n (b * d) = F at *
  generalize over n (a * d) = S at *
  have bF : Bd F d := ⟨by omega, by omega, hq, h.q2⟩
  have bS : Bd S d := ⟨by omega, by omega, hq, h.q2⟩
  have b1 : Bd (n - F) d := ⟨by omega, by omega, hq, h.q2⟩
  have b2 : Bd (n - F - S) d := ⟨by omega, by omega, hq, h.q2⟩
  have b3 : Bd (n - F - S) (2 * d) := ⟨by omega, by omega, by omega, by omega⟩
  have hdd := mul_pos1 hq hq
  have s1 : redV (n * d - F * d) (d * d) = redV (n - F) d := redV_same hdd hq (by rw [← Int.sub_mul, Int.mul_assoc])
  have s2 : redV ((n - F) * d - S * d) (d * d) = redV (n - F - S) d := redV_same hdd hq (by rw [← Int.sub_mul, Int.mul_assoc])
  have s3 : redV (F * (2 * d) + (n - F - S) * d) (d * (2 * d)) = redV (2 * F + (n - F - S)) (2 * d) := redV_same (mul_pos1 hq (by omega)) (by omega) (by
    have e : F * (2 * d) = (2 * F) * d := by ac_rfl
    rw [e, ← Int.add_mul, Int.mul_assoc])
  have qs1 := fun w => refSub_red h bF w
  have qs2 := fun w => refSub_red b1 bS w
  have qh := fun w => half_red b2 w
  have qa := fun w => refAdd_red bF b3 w
  rw [s1] at qs1
  rw [s2] at qs2
  rw [s3] at qa
  clear s1 s2 s3 bF bS b1 b2 b3 hdd f1 f2 ha hb hd hn hq h
  unfold redV fracV at *
  generalize redN n d = x0 at *
  generalize redD n d = x1 at *
  generalize redN F d = m0 at *
  generalize redD F d = m1 at *
  generalize redN S d = o0 at *
  generalize redD S d = o1 at *
  generalize redN (2 * F + (n - F - S)) (2 * d) = y0 at *
  generalize redD (2 * F + (n - F - S)) (2 * d) = y1 at *
  obtain ⟨wb, hwb⟩ : ∃ wb, (w.alloc (.cells #[.int .i64 x0, .int .i64 x1] 37)).alloc (.cells #[.int .i64 0, .int .i64 0] 37) = wb := ⟨_, rfl⟩
  have o2 : Own2 wb w.heap.size (.int .i64 x0) (.int .i64 x1) := by rw [← hwb]; exact (Own2.new _ _ _ _).after ((Below.refl _ _).alloc (Nat.le_refl _) _)
  have b6 : BlkAt wb (w.heap.size + 1) #[.int .i64 0, .int .i64 0] 37 := by rw [← hwb]; exact BlkAt.at (by simp) _ _
  have hbw : Below w.heap.size w wb := by rw [← hwb]; exact ((Below.refl _ w).alloc (Nat.le_refl _) _).alloc (by simp) _
  have hC0 : ∀ t : Nat → Bool, (∀ j, j < 10 → t j = false) → GaI wb m0 m1 o0 o1 t 0 0 wb.drew := fun t hs => ⟨(Below.refl _ _).drew, fun e => (by rw [hs 6 (by decide)] at e; cases e), fun e => (by rw [hs 7 (by decide)] at e; cases e), fun e => (by rw [hs 6 (by decide)] at e; cases e), fun e => (by rw [hs 8 (by decide)] at e; cases e), fun e => (by rw [hs 9 (by decide)] at e; cases e)⟩
  go_enter Try.func30, Try.ntmps30
  go_wp2
  try rw [hwb]
  refine (wpIn_wide (n := 0)).1 ?_
  refine Inv.region_inv (fun t act W => ∃ p7, ∃ p8, act = { tmps := #[.agg #[.int .i64 x0, .int .i64 x1], .int .i64 a, .int .i64 b, .pointer (some ⟨w.heap.size, 0, none⟩), undef, undef, .pointer (some ⟨w.heap.size + 1, 0, none⟩), if t 6 = true then .pointer (some ⟨p7, 0, none⟩) else undef, if t 7 = true then .pointer (some ⟨p8, 0, none⟩) else undef, if t 0 = true then .agg #[.int .i64 x0, .int .i64 x1] else undef, if t 1 = true then .int .i64 b else undef, if t 2 = true then .agg #[.int .i64 m0, .int .i64 m1] else undef, if t 3 = true then .agg #[.int .i64 x0, .int .i64 x1] else undef, if t 4 = true then .int .i64 a else undef, if t 5 = true then .agg #[.int .i64 o0, .int .i64 o1] else undef, undef, undef, undef, undef, undef, undef, undef, undef], defers := [] } ∧ GaI wb m0 m1 o0 o1 t p7 p8 W) mixed_ok (by kernel_rfl) ?_ ?_ ?_
  · intro t hs
    refine ⟨0, 0, ?_, hC0 t (fun j hj => hs j hj)⟩
    simp only [hs 0 (by decide), hs 1 (by decide), hs 2 (by decide), hs 3 (by decide), hs 4 (by decide), hs 5 (by decide), hs 6 (by decide), hs 7 (by decide), hs 8 (by decide), hs 9 (by decide), Bool.false_eq_true, if_false]
  · refine ⟨?_, ?_, ?_, ?_, ?_, ?_, ?_, ?_, ?_, ?_, trivial⟩
    · rintro t act W hun hdep hbeh ⟨p7, p8, rfl, hT⟩
      (try simp only [Nat.reduceAdd] at hun)
      obtain ⟨c0, c1, f0, f1⟩ := o2.after hT.bw
      refine .inl ⟨by rfl, Inv.comesV_val (.agg #[.int .i64 x0, .int .i64 x1]) W (by (go_simp; try rfl)) ⟨p7, p8, by (simp only [Act.put, List.setIfInBounds_toArray, List.set_cons_succ, List.set_cons_zero, Manyd.upd, Nat.reduceAdd, Nat.reduceBEq, Bool.or_false, Bool.or_true, if_true]), GaI.keep (i := 0) (by decide) (by decide) (by decide) (by decide) hT⟩⟩
    · rintro t act W hun hdep hbeh ⟨p7, p8, rfl, hT⟩
      (try simp only [Nat.reduceAdd] at hun)
      refine .inl ⟨by rfl, Inv.comesV_val (.int .i64 b) W (by (go_simp; try rfl)) ⟨p7, p8, by (simp only [Act.put, List.setIfInBounds_toArray, List.set_cons_succ, List.set_cons_zero, Manyd.upd, Nat.reduceAdd, Nat.reduceBEq, Bool.or_false, Bool.or_true, if_true]), GaI.keep (i := 1) (by decide) (by decide) (by decide) (by decide) hT⟩⟩
    · rintro t act W hun hdep hbeh ⟨p7, p8, rfl, hT⟩
      (try simp only [Nat.reduceAdd] at hun)
      have h0 : t 0 = true := Inv.depB_mem 0 hdep (by rfl)
      have h1 : t 1 = true := Inv.depB_mem 1 hdep (by rfl)
      refine .inl ⟨by rfl, Inv.comesV_call 69 #[.agg #[.int .i64 x0, .int .i64 x1], .int .i64 b] W (by (simp only [h0, h1, if_true]; go_simp; try rfl)) ((qm W).mono fun e w5 hw5 => ⟨_, hw5.1, p7, p8, by (simp only [Act.put, List.setIfInBounds_toArray, List.set_cons_succ, List.set_cons_zero, Manyd.upd, Nat.reduceAdd, Nat.reduceBEq, Bool.or_false, Bool.or_true, if_true]), GaI.keep (i := 2) (by decide) (by decide) (by decide) (by decide) (hT.after hw5.2)⟩)⟩
    · rintro t act W hun hdep hbeh ⟨p7, p8, rfl, hT⟩
      (try simp only [Nat.reduceAdd] at hun)
      obtain ⟨c0, c1, f0, f1⟩ := o2.after hT.bw
      refine .inl ⟨by rfl, Inv.comesV_val (.agg #[.int .i64 x0, .int .i64 x1]) W (by (go_simp; try rfl)) ⟨p7, p8, by (simp only [Act.put, List.setIfInBounds_toArray, List.set_cons_succ, List.set_cons_zero, Manyd.upd, Nat.reduceAdd, Nat.reduceBEq, Bool.or_false, Bool.or_true, if_true]), GaI.keep (i := 3) (by decide) (by decide) (by decide) (by decide) hT⟩⟩
    · rintro t act W hun hdep hbeh ⟨p7, p8, rfl, hT⟩
      (try simp only [Nat.reduceAdd] at hun)
      refine .inl ⟨by rfl, Inv.comesV_val (.int .i64 a) W (by (go_simp; try rfl)) ⟨p7, p8, by (simp only [Act.put, List.setIfInBounds_toArray, List.set_cons_succ, List.set_cons_zero, Manyd.upd, Nat.reduceAdd, Nat.reduceBEq, Bool.or_false, Bool.or_true, if_true]), GaI.keep (i := 4) (by decide) (by decide) (by decide) (by decide) hT⟩⟩
    · rintro t act W hun hdep hbeh ⟨p7, p8, rfl, hT⟩
      (try simp only [Nat.reduceAdd] at hun)
      have h3 : t 3 = true := Inv.depB_mem 3 hdep (by rfl)
      have h4 : t 4 = true := Inv.depB_mem 4 hdep (by rfl)
      refine .inl ⟨by rfl, Inv.comesV_call 69 #[.agg #[.int .i64 x0, .int .i64 x1], .int .i64 a] W (by (simp only [h3, h4, if_true]; go_simp; try rfl)) ((qo W).mono fun e w5 hw5 => ⟨_, hw5.1, p7, p8, by (simp only [Act.put, List.setIfInBounds_toArray, List.set_cons_succ, List.set_cons_zero, Manyd.upd, Nat.reduceAdd, Nat.reduceBEq, Bool.or_false, Bool.or_true, if_true]), GaI.keep (i := 5) (by decide) (by decide) (by decide) (by decide) (hT.after hw5.2)⟩)⟩
    · rintro t act W hun hdep hbeh ⟨p7, p8, rfl, hT⟩
      (try simp only [Nat.reduceAdd] at hun)
      refine .inl ⟨by rfl, Inv.comesV_val (.pointer (some ⟨W.heap.size, 0, none⟩)) (W.alloc (.cells #[.int .i64 0, .int .i64 0] 37)) (by (go_simp; try rfl)) ⟨W.heap.size, p8, by (simp only [Act.put, List.setIfInBounds_toArray, List.set_cons_succ, List.set_cons_zero, Manyd.upd, Nat.reduceAdd, Nat.reduceBEq, Bool.or_false, Bool.or_true, if_true]), hT.alloc7 hun⟩⟩
    · rintro t act W hun hdep hbeh ⟨p7, p8, rfl, hT⟩
      (try simp only [Nat.reduceAdd] at hun)
      refine .inl ⟨by rfl, Inv.comesV_val (.pointer (some ⟨W.heap.size, 0, none⟩)) (W.alloc (.cells #[.int .i64 0, .int .i64 0] 37)) (by (go_simp; try rfl)) ⟨p7, W.heap.size, by (simp only [Act.put, List.setIfInBounds_toArray, List.set_cons_succ, List.set_cons_zero, Manyd.upd, Nat.reduceAdd, Nat.reduceBEq, Bool.or_false, Bool.or_true, if_true]), hT.alloc8 hun⟩⟩
    · rintro t act W hun hdep hbeh ⟨p7, p8, rfl, hT⟩
      (try simp only [Nat.reduceAdd] at hun)
      have h6 : t 6 = true := Inv.depB_mem 6 hdep (by rfl)
      have h2 : t 2 = true := Inv.depB_mem 2 hdep (by rfl)
      obtain ⟨c0, c1, f0, f1⟩ := hT.own7 h6 hun
      refine .inl ⟨by rfl, Inv.comesV_skip ((W.setCell ⟨p7, 0, none⟩ (.int .i64 m0)).setCell ⟨p7, 1, none⟩ (.int .i64 m1)) (by (simp only [h6, h2, if_true]; go_simp; try rfl)) ⟨p7, p8, by (simp only [Act.put, List.setIfInBounds_toArray, List.set_cons_succ, List.set_cons_zero, Manyd.upd, Nat.reduceAdd, Nat.reduceBEq, Bool.or_false, Bool.or_true, if_true]), hT.set7 h6 hun⟩⟩
    · rintro t act W hun hdep hbeh ⟨p7, p8, rfl, hT⟩
      (try simp only [Nat.reduceAdd] at hun)
      have h7 : t 7 = true := Inv.depB_mem 7 hdep (by rfl)
      have h5 : t 5 = true := Inv.depB_mem 5 hdep (by rfl)
      obtain ⟨c0, c1, f0, f1⟩ := hT.own8 h7 hun
      refine .inl ⟨by rfl, Inv.comesV_skip ((W.setCell ⟨p8, 0, none⟩ (.int .i64 o0)).setCell ⟨p8, 1, none⟩ (.int .i64 o1)) (by (simp only [h7, h5, if_true]; go_simp; try rfl)) ⟨p7, p8, by (simp only [Act.put, List.setIfInBounds_toArray, List.set_cons_succ, List.set_cons_zero, Manyd.upd, Nat.reduceAdd, Nat.reduceBEq, Bool.or_false, Bool.or_true, if_true]), hT.set8 h7 hun⟩⟩
  rintro t a' W1 hs ⟨p7, p8, rfl, hT⟩
  simp only [hs 0 (by decide), hs 1 (by decide), hs 2 (by decide), hs 3 (by decide), hs 4 (by decide), hs 5 (by decide), hs 6 (by decide), hs 7 (by decide), hs 8 (by decide), hs 9 (by decide), if_true]
  obtain ⟨g7, b7⟩ := hT.a7 (hs 6 (by decide))
  obtain ⟨g8, b8⟩ := hT.a8 (hs 7 (by decide))
  rw [if_pos (hs 8 (by decide))] at b7
  rw [if_pos (hs 9 (by decide))] at b8
  have o7 := Own2.of b7
  have o8 := Own2.of b8
  have o3 := o2.after hT.bw
  have b6 := b6.after hT.bw
  have hbw1 := hbw.trans (hT.bw.mono hbw.size)
  have hsz := b6.lt
  have hwl : w.heap.size + 1 < wb.heap.size := by rw [← hwb]; simp
  clear hT hC0 hs b7 b8
  go_wp2
  refine (wpIn_wide (n := 0)).1 ?_
  refine Many.region_many (C1 W1 (w.heap.size + 1) 8 #[.int .i64 0, .int .i64 0] #[.int .i64 y0, .int .i64 y1] 37) mixed_ok (by kernel_rfl) C1.ext (C1.start (b6) (by decide)) ?_
  refine Many.lex_want (by rfl) (rd1 (v := .agg #[.int .i64 m0, .int .i64 m1]) (by rfl) (fun w hk => by (obtain ⟨c0, c1, f0, f1⟩ := hk.own (by omega) o7; go_simp; try rfl))) ?_
  simp only [Act.put, List.setIfInBounds_toArray, List.set_cons_succ, List.set_cons_zero, Nat.reduceAdd]
  refine Many.lex_want (by rfl) (rd1 (v := .agg #[.int .i64 x0, .int .i64 x1]) (by rfl) (fun w hk => by (obtain ⟨c0, c1, f0, f1⟩ := hk.own (by omega) o3; go_simp; try rfl))) ?_
  simp only [Act.put, List.setIfInBounds_toArray, List.set_cons_succ, List.set_cons_zero, Nat.reduceAdd]
  refine Many.lex_want (by rfl) (rd1 (v := .agg #[.int .i64 m0, .int .i64 m1]) (by rfl) (fun w hk => by (obtain ⟨c0, c1, f0, f1⟩ := hk.own (by omega) o7; go_simp; try rfl))) ?_
  simp only [Act.put, List.setIfInBounds_toArray, List.set_cons_succ, List.set_cons_zero, Nat.reduceAdd]
  refine Many.lex_want (by rfl) (cl1 (by rfl) qs1 (fun w hk => by (go_simp; try rfl))) ?_
  simp only [Act.put, List.setIfInBounds_toArray, List.set_cons_succ, List.set_cons_zero, Nat.reduceAdd]
  refine Many.lex_want (by rfl) (rd1 (v := .agg #[.int .i64 o0, .int .i64 o1]) (by rfl) (fun w hk => by (obtain ⟨c0, c1, f0, f1⟩ := hk.own (by omega) o8; go_simp; try rfl))) ?_
  simp only [Act.put, List.setIfInBounds_toArray, List.set_cons_succ, List.set_cons_zero, Nat.reduceAdd]
  refine Many.lex_want (by rfl) (cl1 (by rfl) qs2 (fun w hk => by (go_simp; try rfl))) ?_
  simp only [Act.put, List.setIfInBounds_toArray, List.set_cons_succ, List.set_cons_zero, Nat.reduceAdd]
  refine Many.lex_want (by rfl) (cl1 (by rfl) qh (fun w hk => by (go_simp; try rfl))) ?_
  simp only [Act.put, List.setIfInBounds_toArray, List.set_cons_succ, List.set_cons_zero, Nat.reduceAdd]
  refine Many.lex_want (by rfl) (cl1 (by rfl) qa (fun w hk => by (go_simp; try rfl))) ?_
  simp only [Act.put, List.setIfInBounds_toArray, List.set_cons_succ, List.set_cons_zero, Nat.reduceAdd]
  refine Many.lex_want (by rfl) (st1 (by rfl) (fun w hk ho => by (obtain ⟨c0, c1, f0, f1⟩ := ho; go_simp; try rfl))) ?_
  simp only [Act.put, List.setIfInBounds_toArray, List.set_cons_succ, List.set_cons_zero, Nat.reduceAdd]
  refine Many.lex_nil fun s W' hs hC => ?_
  obtain ⟨hV, hB⟩ := hC; rw [if_pos (hs 8 (by decide))] at hB
  obtain ⟨c0, c1, f0, f1⟩ := Own2.of hB
  go_wp2
  refine bodyPost_ret (v := .agg #[.int .i64 y0, .int .i64 y1]) (by simp [results, Try.results30, go_sem]; go_simp) rfl ?_
  exact ⟨rfl, hbw1.trans (hV.below (by omega) hbw1.size)⟩
end Go.Proofs.Ytbocmbhinjkjlaa
