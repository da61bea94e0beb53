import Derived.Test.YteekigpdiklppaaWChkR
set_option linter.unusedSimpArgs false
set_option linter.unusedVariables false
namespace Go.Proofs.Yteekigpdiklppaa
open Go Go.Proofs Go.RowKit Go.Seq
attribute [local go_sem] Oper.semAt_some
theorem row_any {W W' : World} {B e s k : Nat} {v : Value} {xs : List Value} (h : W.ownsRow B e s v k xs) (hb : Below W.heap.size W W') : W'.ownsRow B e s v k xs := row_after h hb
theorem argP_len {w : World} {A : Option Addr} {l c : Nat} {ps : Pts} (h : ArgP w (.slice A l c) ps) : ps.length = l := by
  rcases h with ⟨h1, rfl⟩ | ⟨a, cap, h1, rfl⟩ | ⟨b, o, cap, h1, _⟩
  · injection h1 with _ h2 _; rw [h2]; rfl
  · injection h1 with _ h2 _; rw [h2]; rfl
  · injection h1 with _ h2 _; exact h2.symm
theorem argP_at {w : World} {A : Option Addr} {l c k : Nat} {ps : Pts} (h : ArgP w (.slice A l c) ps) (hk : k < ps.length) : ∃ b o, A = some ⟨b, o, none⟩ ∧ w.cell? ⟨b, o + k * 2, none⟩ = some (vz (ps.getD k (0, 0)).1) := by
  rcases h with ⟨_, rfl⟩ | ⟨_, _, _, rfl⟩ | ⟨b, o, cap, h1, _, _, h2⟩
  · simp at hk
  · simp at hk
  · injection h1 with h3 _ _
    exact ⟨b, o, h3, (h2 k hk).1⟩
def fstL (ps : Pts) : List Int := ps.map (·.1)
theorem fstL_succ {ps : Pts} {k : Nat} (h : k < ps.length) : fstL (ps.take (k + 1)) = fstL (ps.take k) ++ [(ps.getD k (0, 0)).1] := by
  unfold fstL
  rw [takep h, List.map_append]; rfl
theorem fstL_len (ps : Pts) (k : Nat) (h : k ≤ ps.length) : (fstL (ps.take k)).length = k := by
  unfold fstL
  rw [List.length_map, List.length_take]; omega
set_option maxHeartbeats 8000000 in
set_option maxRecDepth 100000 in
theorem checks_any (n : Int) {v1 : Value} {A0 A1 : Option Addr} {l0 c0 l1 c1 : Nat} {ps p0 p1 : Pts} {w : World} (hv : ArgP w v1 ps) (h0 : ArgP w (.slice A0 l0 c0) p0) (h1 : ArgP w (.slice A1 l1 c1) p1) :
    Calls Try.prog 8 #[.int .i64 n, v1, .agg #[.slice A0 l0 c0, .slice A1 l1 c1]] w fun e w' => e = .returned (.bool true) ∧ Below w.heap.size w w' := by
  have hmx : Try.prog.follows .mixedOrders = true := by kernel_rfl
  obtain ⟨i0, hi0, hz0, hz1, hz2⟩ := info3_parts
  obtain ⟨wa, hwa⟩ : ∃ wa, w.alloc (.cells #[.slice A0 l0 c0, .slice A1 l1 c1] 62) = wa := ⟨_, rfl⟩
  have ba : Below w.heap.size w wa := by rw [← hwa]; exact (Below.refl _ _).alloc (Nat.le_refl _) _
  have fa : wa.heap[w.heap.size]? = some (.cells #[.slice A0 l0 c0, .slice A1 l1 c1] 62 (0, 0)) := by rw [← hwa]; exact World.alloc_heap_new w _
  obtain ⟨E, hE⟩ : ∃ E, ps.take 80 = E := ⟨_, rfl⟩
  obtain ⟨CS, hCS⟩ : ∃ CS, p0.take 80 = CS := ⟨_, rfl⟩
  have hEl : E.length ≤ 200 := by rw [← hE, List.length_take]; omega
  have hCl : CS.length ≤ 200 := by rw [← hCS, List.length_take]; omega
  have q17a : Keep (∀ W, Below w.heap.size w W → _) := ⟨fun W hb => pairs_arg (argP_below hv hb)⟩
  have q17b : Keep (∀ W, Below w.heap.size w W → _) := ⟨fun W hb => pairs_arg (argP_below h0 hb)⟩
  rw [hE] at q17a
  rw [hCS] at q17b
  have hl1 := argP_len h1
  have h1k := Keep.mk h1
  have hl1m : l1 ≤ maxLen := by
    rcases h1 with ⟨h2, rfl⟩ | ⟨a, cap, h2, rfl⟩ | ⟨b, o, cap, h2, _, h3, _⟩
    · simp at hl1; omega
    · simp at hl1; omega
    · omega
  have hl1k := Keep.mk hl1
  have hl1b : l1 ≤ 9223372036854775807 := by unfold maxLen at hl1m; omega
  clear hv h0 h1 hE hCS hl1 hl1m
  go_enter Try.func8, Try.ntmps8
  go_wp2
  try rw [hwa]
  obtain ⟨CX, hCX⟩ : ∃ CX : (Nat → Bool) → Value → Value → World → Prop, CX = fun t e1 e2 W => W.heap[w.heap.size]? = some (.cells #[.slice A0 l0 c0, .slice A1 l1 c1] 62 (0, 0)) ∧ Below w.heap.size w W ∧ (t 1 = true → PairsOf W e1 E) ∧ (t 4 = true → PairsOf W e2 CS) := ⟨_, rfl⟩
  have hCk : ∀ i, i ≠ 1 → i ≠ 4 → ∀ t e1 e2 W, CX t e1 e2 W → CX (Manyd.upd t i) e1 e2 W := fun i hi hi4 t e1 e2 W h => by
    rw [hCX] at h ⊢
    exact ⟨h.1, h.2.1, fun e => h.2.2.1 (by simpa [Manyd.upd, hi] using e), fun e => h.2.2.2 (by simpa [Manyd.upd, hi4] using e)⟩
  have hCb : ∀ t e1 e2 W, CX t e1 e2 W → W.heap[w.heap.size]? = some (.cells #[.slice A0 l0 c0, .slice A1 l1 c1] 62 (0, 0)) ∧ Below w.heap.size w W := fun t e1 e2 W h => by rw [hCX] at h; exact ⟨h.1, h.2.1⟩
  have hCl1 : ∀ t e1 e2 lv W W', CX t e1 e2 W → W'.ownsRow W.heap.size 63 2 lv E.length (enc2 E) → Below W.heap.size W W' → CX (Manyd.upd t 1) lv e2 W' := fun t e1 e2 lv W W' h hr hb => by
    rw [hCX] at h ⊢
    exact ⟨(hb.block _ (Array.getElem?_eq_some_iff.1 h.1).1).trans h.1, h.2.1.trans (hb.mono h.2.1.size), fun _ => own_pairs hr, fun e => pairsOf_below (h.2.2.2 (by simpa [Manyd.upd] using e)) hb⟩
  have hCl4 : ∀ t e1 e2 lv W W', CX t e1 e2 W → W'.ownsRow W.heap.size 63 2 lv CS.length (enc2 CS) → Below W.heap.size W W' → CX (Manyd.upd t 4) e1 lv W' := fun t e1 e2 lv W W' h hr hb => by
    rw [hCX] at h ⊢
    exact ⟨(hb.block _ (Array.getElem?_eq_some_iff.1 h.1).1).trans h.1, h.2.1.trans (hb.mono h.2.1.size), fun e => pairsOf_below (h.2.2.1 (by simpa [Manyd.upd] using e)) hb, fun _ => own_pairs hr⟩
  have hC0 : ∀ t : Nat → Bool, (∀ j, j < 7 → t j = false) → CX t (.slice none 0 0) (.slice none 0 0) wa.drew := fun t ht => by
    rw [hCX]
    exact ⟨fa, ba.drew, fun e => by (rw [ht 1 (by decide)] at e; cases e), fun e => by (rw [ht 4 (by decide)] at e; cases e)⟩
  have hCf : ∀ t e1 e2 W, CX t e1 e2 W → t 1 = true → t 4 = true → Keep (W.heap[w.heap.size]? = some (.cells #[.slice A0 l0 c0, .slice A1 l1 c1] 62 (0, 0)) ∧ Hd w W e1 E [] ∧ PairsOf W e2 CS) := fun t e1 e2 W h h1 h4 => by
    rw [hCX] at h; exact ⟨h.1, ⟨h.2.2.1 h1, fun x hx => by simp at hx, h.2.1⟩, h.2.2.2 h4⟩
  clear hCX fa ba hwa
  refine (wpIn_wide (n := 0)).1 ?_
  refine Inv.region_inv (fun t a W => ∃ e1, ∃ e2, a = { tmps := #[.int .i64 n, v1, .agg #[.slice A0 l0 c0, .slice A1 l1 c1], undef, undef, .pointer (some ⟨w.heap.size, 0, none⟩), .bool false, if t 5 = true then e1 else undef, if t 6 = true then e2 else undef, undef, undef, undef, undef, undef, if t 0 = true then v1 else undef, if t 1 = true then e1 else undef, if t 2 = true then .pointer (some ⟨w.heap.size, 0, none⟩) else undef, if t 3 = true then .slice A0 l0 c0 else undef, if t 4 = true then e2 else undef, undef, undef, undef, undef, undef, undef, undef, undef, undef, undef, undef, undef, undef, undef, undef, undef, undef, undef, undef, undef, undef, undef, undef, undef, undef, undef, undef, undef, undef, undef, undef, undef, undef, undef, undef, undef, undef, undef, undef, undef, undef, undef, undef, undef, undef, undef, undef, undef, undef, undef, undef, undef, undef, undef, undef, undef, undef], defers := [] } ∧ CX t e1 e2 W) hmx (by kernel_rfl) ?_ ?_ ?_
  · intro t hs
    refine ⟨.slice none 0 0, .slice none 0 0, ?_, hC0 t (fun j hj => hs j hj)⟩
    simp only [hs 0 (by decide), hs 1 (by decide), hs 2 (by decide), hs 3 (by decide), hs 4 (by decide), hs 5 (by decide), hs 6 (by decide), Bool.false_eq_true, if_false]
  · refine ⟨?_, ?_, ?_, ?_, ?_, ?_, ?_, trivial⟩
    · rintro t a W hun hdep hbeh ⟨e1, e2, rfl, hT⟩
      (try simp only [Nat.reduceAdd] at hun)
      refine .inl ⟨by rfl, Inv.comesV_val (v1) W (by (clear hT; go_simp; (try rfl); try (intro hneg; omega))) ⟨e1, e2, by (simp only [Act.put, List.setIfInBounds_toArray, List.set_cons_succ, List.set_cons_zero, Manyd.upd, Nat.reduceAdd, Nat.reduceBEq, Bool.or_false, Bool.or_true, if_true]), hCk 0 (by decide) (by decide) t e1 e2 W hT⟩⟩
    · rintro t a W hun hdep hbeh ⟨e1, e2, rfl, hT⟩
      (try simp only [Nat.reduceAdd] at hun)
      have h0 : t 0 = true := Inv.depB_mem 0 hdep (by rfl)
      have hn5 : t 5 = false := hbeh 5 (by kernel_rfl)
      refine .inl ⟨by rfl, Inv.comesV_call 17 #[v1] W (by (simp only [h0, if_true]; clear hT; go_simp; try rfl)) ((q17a.out W (hCb t e1 e2 W hT).2).mono fun e w5 hw5 => by
        obtain ⟨v9, r1, r2, r3⟩ := hw5
        exact ⟨v9, r1, v9, e2, by (simp only [hun, hn5, Bool.false_eq_true, if_false]; simp only [Act.put, List.setIfInBounds_toArray, List.set_cons_succ, List.set_cons_zero, Manyd.upd, Nat.reduceAdd, Nat.reduceBEq, Bool.or_false, Bool.or_true, if_true]; simp only [hn5, Bool.false_eq_true, if_false]), hCl1 t e1 e2 v9 W w5 hT r2 r3⟩)⟩
    · rintro t a W hun hdep hbeh ⟨e1, e2, rfl, hT⟩
      (try simp only [Nat.reduceAdd] at hun)
      refine .inl ⟨by rfl, Inv.comesV_val (.pointer (some ⟨w.heap.size, 0, none⟩)) W (by (clear hT; go_simp; (try rfl); try (intro hneg; omega))) ⟨e1, e2, by (simp only [Act.put, List.setIfInBounds_toArray, List.set_cons_succ, List.set_cons_zero, Manyd.upd, Nat.reduceAdd, Nat.reduceBEq, Bool.or_false, Bool.or_true, if_true]), hCk 2 (by decide) (by decide) t e1 e2 W hT⟩⟩
    · rintro t a W hun hdep hbeh ⟨e1, e2, rfl, hT⟩
      (try simp only [Nat.reduceAdd] at hun)
      have h2 : t 2 = true := Inv.depB_mem 2 hdep (by rfl)
      have cb : W.cell? ⟨w.heap.size, 0, none⟩ = some (.slice A0 l0 c0) := by simp [World.cell?, (hCb t e1 e2 W hT).1]
      refine .inl ⟨by rfl, Inv.comesV_val (.slice A0 l0 c0) W (by (simp only [h2, if_true]; clear hT; go_simp; (try rfl); try (intro hneg; omega))) ⟨e1, e2, by (simp only [Act.put, List.setIfInBounds_toArray, List.set_cons_succ, List.set_cons_zero, Manyd.upd, Nat.reduceAdd, Nat.reduceBEq, Bool.or_false, Bool.or_true, if_true]), hCk 3 (by decide) (by decide) t e1 e2 W hT⟩⟩
    · rintro t a W hun hdep hbeh ⟨e1, e2, rfl, hT⟩
      (try simp only [Nat.reduceAdd] at hun)
      have h3 : t 3 = true := Inv.depB_mem 3 hdep (by rfl)
      have h1 : t 1 = true := Inv.depB_mem 1 hdep (by rfl)
      have hn6 : t 6 = false := hbeh 6 (by kernel_rfl)
      refine .inl ⟨by rfl, Inv.comesV_call 17 #[.slice A0 l0 c0] W (by (simp only [h3, h1, if_true]; clear hT; go_simp; try rfl)) ((q17b.out W (hCb t e1 e2 W hT).2).mono fun e w5 hw5 => by
        obtain ⟨v9, r1, r2, r3⟩ := hw5
        exact ⟨v9, r1, e1, v9, by (simp only [hun, hn6, Bool.false_eq_true, if_false]; simp only [Act.put, List.setIfInBounds_toArray, List.set_cons_succ, List.set_cons_zero, Manyd.upd, Nat.reduceAdd, Nat.reduceBEq, Bool.or_false, Bool.or_true, if_true]; simp only [hn6, Bool.false_eq_true, if_false]), hCl4 t e1 e2 v9 W w5 hT r2 r3⟩)⟩
    · rintro t a W hun hdep hbeh ⟨e1, e2, rfl, hT⟩
      (try simp only [Nat.reduceAdd] at hun)
      have h1 : t 1 = true := Inv.depB_mem 1 hdep (by rfl)
      refine .inl ⟨by rfl, Inv.comesV_val (e1) W (by (simp only [h1, if_true]; clear hT; go_simp; (try rfl); try (intro hneg; omega))) ⟨e1, e2, by (simp only [Act.put, List.setIfInBounds_toArray, List.set_cons_succ, List.set_cons_zero, Manyd.upd, Nat.reduceAdd, Nat.reduceBEq, Bool.or_false, Bool.or_true, if_true]), hCk 5 (by decide) (by decide) t e1 e2 W hT⟩⟩
    · rintro t a W hun hdep hbeh ⟨e1, e2, rfl, hT⟩
      (try simp only [Nat.reduceAdd] at hun)
      have h4 : t 4 = true := Inv.depB_mem 4 hdep (by rfl)
      refine .inl ⟨by rfl, Inv.comesV_val (e2) W (by (simp only [h4, if_true]; clear hT; go_simp; (try rfl); try (intro hneg; omega))) ⟨e1, e2, by (simp only [Act.put, List.setIfInBounds_toArray, List.set_cons_succ, List.set_cons_zero, Manyd.upd, Nat.reduceAdd, Nat.reduceBEq, Bool.or_false, Bool.or_true, if_true]), hCk 6 (by decide) (by decide) t e1 e2 W hT⟩⟩
  rintro t a W hs ⟨e1, e2, rfl, hT⟩
  have hf := hCf t e1 e2 W hT (hs 1 (by decide)) (hs 4 (by decide))
  simp only [hs 0 (by decide), hs 1 (by decide), hs 2 (by decide), hs 3 (by decide), hs 4 (by decide), hs 5 (by decide), hs 6 (by decide), if_true]
  clear hT hs hCf hC0 hCb hCk hCl1 hCl4 q17a q17b
  go_wp2
  go_loopw [10, 9] (fun i o wr => ∃ k : Nat, k ≤ l1 ∧ k ≤ 13 ∧ i = .int .i64 k ∧ Keep (wr.ownsRow W.heap.size 3 1 o k ((fstL (p1.take k)).map vz) ∧ Below W.heap.size W wr) ∧ ∃ A c, o = .slice A k c) (fun i _ _ => 14 - (intOf i).toNat)
  case atStart => exact ⟨0, by omega, by omega, rfl, ⟨World.ownsRow_nil _ _ _ _, Below.refl _ _⟩, _, _, rfl⟩
  case round =>
    obtain ⟨k, hk, hk13, rfl, hI, A, c, rfl⟩ := hrel
    have hw1 : IntKind.i64.wrap ((k : Int) + 1) = (k : Int) + 1 := IntWalk.i64_in _ (by omega)
    have hk0 : ¬ (k : Int) < 0 := by omega
    have hfb : wr.heap[w.heap.size]? = some (.cells #[.slice A0 l0 c0, .slice A1 l1 c1] 62 (0, 0)) := (hI.out.2.block _ (Array.getElem?_eq_some_iff.1 hf.out.1).1).trans hf.out.1
    have cb1 : wr.cell? ⟨w.heap.size, 1, none⟩ = some (.slice A1 l1 c1) := by simp [World.cell?, hfb]
    clear hfb
    have hcut : ∀ (kk : Nat), kk = k → Keep (∃ _ : kk = k, Hd w wr e1 E [(.slice A k c, fstL (p1.take k))] ∧ PairsOf wr e2 CS) := fun kk e => ⟨e, (hf.out.2.1.keep hI.out.2).put (Below.refl _ _) (by
      have hl := fstL_len p1 k (by rw [hl1k.out]; exact hk)
      have hr := hI.out.1
      have := ints_own (w := wr) (B := W.heap.size) (v := .slice A k c) (l := fstL (p1.take k)) (by rw [hl]; exact hr)
      exact this), pairsOf_below hf.out.2.2 hI.out.2⟩
    have hfin := hcut k rfl
    clear hcut
    by_cases hgo : k < l1 ∧ k < 13
    · have hlt' : (k : Int) < (l1 : Int) := by omega
      have hle' : (k : Int) ≤ 12 := by omega
      obtain ⟨b1, o1, hA1, d0⟩ := argP_at h1k.out (k := k) (by rw [hl1k.out]; exact hgo.1)
      subst hA1
      have hpush := fstL_succ (ps := p1) (k := k) (by rw [hl1k.out]; exact hgo.1)
      generalize (p1.getD k (0, 0)).1 = x at d0 hpush
      have d0 := cell_below (cell_below d0 hf.out.2.1.2.2) hI.out.2
      unfold vz at d0
      have hpk := Keep.mk hpush
      clear hpush hfin
      go_wp2_with (at_builtin; refine wpList_append_own_at _ rfl _ _ 23 rfl W.heap.size 3 i0 (.int .i64 0) 1 8 ty24 hi0 hz0 hz1 hz2 rfl (by decide) _ k ((fstL (p1.take k)).map vz) rfl (hI.out.1.alloc _) ⟨wr.heap.size, 0, none⟩ 1 1 [.int .i64 x] rfl rfl (cell_one_new _ _ _) (by simp [Value.oneCell']) (by unfold maxLen; omega) (by omega) (by have := hI.out.2.size; simp; omega) ?_; intro v' w1 hown hgrow _ _
                   obtain ⟨g', cap', rfl⟩ := ownsRow_succ hown
                   have h10k := Keep.mk (And.intro hown hgrow)
                   clear hown hgrow)
      have hb10 : Below W.heap.size W w1 := hI.out.2.trans (Below.grown ((Below.refl _ wr).alloc (by have := hI.out.2.size; omega) _) h10k.out.2 (by have := hI.out.2.size; simp; omega) (fun j hj => by
        have hj' : (Value.slice A k c).ownBlock = some j := hj
        exact (hI.out.1.lt j hj').1))
      have hmp : (fstL (p1.take (k + 1))).map vz = (fstL (p1.take k)).map vz ++ [.int .i64 x] := by rw [hpk.out, List.map_append]; rfl
      exact ⟨⟨k + 1, by omega, by omega, by go_num, ⟨by rw [hmp]; exact h10k.out.1, hb10⟩, _, _, rfl⟩, by simp [intOf]; omega⟩
    · have hstop : (¬ (k : Int) < (l1 : Int)) ∨ ((k : Int) < (l1 : Int) ∧ ¬ (k : Int) ≤ 12) := by omega
      obtain ⟨_, hk2, hc2⟩ := hfin.out
      have hk2 := Keep.mk hk2
      have hc2 := Keep.mk hc2
      have hzl : (fstL (p1.take k)).length ≤ 100 := by rw [fstL_len p1 k (by rw [hl1k.out]; exact hk)]; omega
      clear hI hf h1k hl1k hgo hfin
      obtain ⟨ZS, hZS⟩ : ∃ ZS, fstL (p1.take k) = ZS := ⟨_, rfl⟩
      rw [hZS] at hk2 hzl
      clear hZS
      by_cases hok : GrOk n E ∧ ListOk n ZS
      · obtain ⟨N, rfl⟩ : ∃ N : Nat, n = N := ⟨n.toNat, by have := hok.1.n1; omega⟩
        have hG := gok_of hok.1
        have hN := hG.n12
        obtain ⟨hzs, hS⟩ := canon hok.2 hN
        obtain ⟨S, hSe⟩ : ∃ S, setOf ZS = S := ⟨_, rfl⟩
        rw [hSe] at hzs hS
        subst hzs
        have q22 := Keep.mk (valid_yesG hG hS)
        have q49 : Keep (∀ (W : World) (ve v vc : Value), PairsOf W ve E → IntsO W v (zsOf S) → PairsOf W vc CS → _) := ⟨fun W ve v vc he hv hc => check_any (w := W) hG he hS hv hc hCl⟩
        have q24 := Keep.mk (fun (W : World) (ve : Value) (he : PairsOf W ve E) => near_any hG he)
        have q26 := Keep.mk (set_n (s := S) rfl)
        have q46 : Keep (∀ (W : World) (G : Nat) (vc : Value), NumsAt W G N 3 (nearOf E) → PairsOf W vc CS → _) := ⟨fun W G vc hg hc => refChron_any (w := W) (G := G) (s := setOf (zsOf S)) hN (num_setOf S) hg hc hCl⟩
        obtain ⟨nS, hnS⟩ : ∃ nS, num S = nS := ⟨_, rfl⟩
        rw [hnS] at q26 q46
        obtain ⟨R, hR⟩ : ∃ R, chrT N (adjOf E) (setOf (zsOf S)) CS = R := ⟨_, rfl⟩
        rw [hR] at q49 q46
        clear hok hSe hS hG hR hnS hzl
        cases R with
        | none =>
          simp only [chrV] at q46
          simp only [Option.isSome_none, Bool.false_eq_true, if_false] at q49
          rcases hstop with hs1 | ⟨hs1, hs2⟩
          · skip
            go_wp2_with (first
              | (go_at_call 49; have hp := hk2.out.ps; have hv := hk2.out.at (z := (zsOf S)) (.head _); have hc := hc2.out
                 (with_reducible refine (q49.out _ _ _ _ hp hv hc).mono ?_); rintro e w3 ⟨rfl, hb3⟩
                 have hk3 := Keep.mk (hk2.out.keep hb3)
                 have hc3 := Keep.mk (pairsOf_below hc2.out hb3)
                 clear hb3 hp hv hc hk2 hc2)
              | (go_at_call 22; have hp := hk3.out.ps; have hv := hk3.out.at (z := (zsOf S)) (.head _)
                 (with_reducible refine (q22.out _ _ _ hp hv).mono ?_); rintro e w4 ⟨rfl, hb4⟩
                 have hk4 := Keep.mk (hk3.out.keep hb4)
                 have hc4 := Keep.mk (pairsOf_below hc3.out hb4)
                 clear hb4 hp hv hk3 hc3)
              | (go_at_call 24; have hp := hk4.out.ps; (with_reducible refine (q24.out _ _ hp).mono ?_); rintro e w5 ⟨G, rfl, hGn, hGl, hb⟩
                 have hk5 := Keep.mk (hk4.out.keep hb)
                 have hc5 := Keep.mk (pairsOf_below hc4.out hb)
                 have hGk := Keep.mk hGn
                 clear hGn hGl hb hp hk4 hc4 q24)
              | (go_at_call 26; have hvx := hk5.out.at (z := zsOf S) (.head _)
                 (with_reducible refine (q26.out _ _ hvx).mono ?_); rintro e wm ⟨rfl, hem⟩; rw [hem]; clear hem wm hvx)
              | (go_at_call 46; have hg := hGk.out; have hc := hc5.out
                 (with_reducible refine (q46.out _ _ _ hg hc).mono ?_); rintro e w6 ⟨rfl, nq, hq⟩
                 have hk6 := Keep.mk (hk5.out.dn nq)
                 rw [← hq] at hk6
                 clear hq hg hc hk5 hc5 q46)
              | (go_at_call 23; (with_reducible refine (awake_w _).mono ?_); rintro e w7 ⟨rfl, hb⟩
                 have hk7 := Keep.mk (hk6.out.keep hb)
                 clear hb hk6))
            refine bodyPost_ret (v := .bool true) (by simp [results, Try.results8, go_sem]) rfl ?_
            exact ⟨rfl, hk7.out.2.2⟩
          · skip
            go_wp2_with (first
              | (go_at_call 49; have hp := hk2.out.ps; have hv := hk2.out.at (z := (zsOf S)) (.head _); have hc := hc2.out
                 (with_reducible refine (q49.out _ _ _ _ hp hv hc).mono ?_); rintro e w3 ⟨rfl, hb3⟩
                 have hk3 := Keep.mk (hk2.out.keep hb3)
                 have hc3 := Keep.mk (pairsOf_below hc2.out hb3)
                 clear hb3 hp hv hc hk2 hc2)
              | (go_at_call 22; have hp := hk3.out.ps; have hv := hk3.out.at (z := (zsOf S)) (.head _)
                 (with_reducible refine (q22.out _ _ _ hp hv).mono ?_); rintro e w4 ⟨rfl, hb4⟩
                 have hk4 := Keep.mk (hk3.out.keep hb4)
                 have hc4 := Keep.mk (pairsOf_below hc3.out hb4)
                 clear hb4 hp hv hk3 hc3)
              | (go_at_call 24; have hp := hk4.out.ps; (with_reducible refine (q24.out _ _ hp).mono ?_); rintro e w5 ⟨G, rfl, hGn, hGl, hb⟩
                 have hk5 := Keep.mk (hk4.out.keep hb)
                 have hc5 := Keep.mk (pairsOf_below hc4.out hb)
                 have hGk := Keep.mk hGn
                 clear hGn hGl hb hp hk4 hc4 q24)
              | (go_at_call 26; have hvx := hk5.out.at (z := zsOf S) (.head _)
                 (with_reducible refine (q26.out _ _ hvx).mono ?_); rintro e wm ⟨rfl, hem⟩; rw [hem]; clear hem wm hvx)
              | (go_at_call 46; have hg := hGk.out; have hc := hc5.out
                 (with_reducible refine (q46.out _ _ _ hg hc).mono ?_); rintro e w6 ⟨rfl, nq, hq⟩
                 have hk6 := Keep.mk (hk5.out.dn nq)
                 rw [← hq] at hk6
                 clear hq hg hc hk5 hc5 q46)
              | (go_at_call 23; (with_reducible refine (awake_w _).mono ?_); rintro e w7 ⟨rfl, hb⟩
                 have hk7 := Keep.mk (hk6.out.keep hb)
                 clear hb hk6))
            refine bodyPost_ret (v := .bool true) (by simp [results, Try.results8, go_sem]) rfl ?_
            exact ⟨rfl, hk7.out.2.2⟩
        | some s' =>
          simp only [chrV] at q46
          simp only [Option.isSome_some, if_true] at q49
          obtain ⟨n', hn'⟩ : ∃ n', num s' = n' := ⟨_, rfl⟩
          rw [hn'] at q46
          clear hn'
          rcases hstop with hs1 | ⟨hs1, hs2⟩
          · skip
            go_wp2_with (first
              | (go_at_call 49; have hp := hk2.out.ps; have hv := hk2.out.at (z := (zsOf S)) (.head _); have hc := hc2.out
                 (with_reducible refine (q49.out _ _ _ _ hp hv hc).mono ?_); rintro e w3 ⟨rfl, hb3⟩
                 have hk3 := Keep.mk (hk2.out.keep hb3)
                 have hc3 := Keep.mk (pairsOf_below hc2.out hb3)
                 clear hb3 hp hv hc hk2 hc2)
              | (go_at_call 22; have hp := hk3.out.ps; have hv := hk3.out.at (z := (zsOf S)) (.head _)
                 (with_reducible refine (q22.out _ _ _ hp hv).mono ?_); rintro e w4 ⟨rfl, hb4⟩
                 have hk4 := Keep.mk (hk3.out.keep hb4)
                 have hc4 := Keep.mk (pairsOf_below hc3.out hb4)
                 clear hb4 hp hv hk3 hc3)
              | (go_at_call 24; have hp := hk4.out.ps; (with_reducible refine (q24.out _ _ hp).mono ?_); rintro e w5 ⟨G, rfl, hGn, hGl, hb⟩
                 have hk5 := Keep.mk (hk4.out.keep hb)
                 have hc5 := Keep.mk (pairsOf_below hc4.out hb)
                 have hGk := Keep.mk hGn
                 clear hGn hGl hb hp hk4 hc4 q24)
              | (go_at_call 26; have hvx := hk5.out.at (z := zsOf S) (.head _)
                 (with_reducible refine (q26.out _ _ hvx).mono ?_); rintro e wm ⟨rfl, hem⟩; rw [hem]; clear hem wm hvx)
              | (go_at_call 46; have hg := hGk.out; have hc := hc5.out
                 (with_reducible refine (q46.out _ _ _ hg hc).mono ?_); rintro e w6 ⟨rfl, nq, hq⟩
                 have hk6 := Keep.mk (hk5.out.dn nq)
                 rw [← hq] at hk6
                 clear hq hg hc hk5 hc5 q46)
              | (go_at_call 23; (with_reducible refine (awake_w _).mono ?_); rintro e w7 ⟨rfl, hb⟩
                 have hk7 := Keep.mk (hk6.out.keep hb)
                 clear hb hk6))
            refine bodyPost_ret (v := .bool true) (by simp [results, Try.results8, go_sem]) rfl ?_
            exact ⟨rfl, hk7.out.2.2⟩
          · skip
            go_wp2_with (first
              | (go_at_call 49; have hp := hk2.out.ps; have hv := hk2.out.at (z := (zsOf S)) (.head _); have hc := hc2.out
                 (with_reducible refine (q49.out _ _ _ _ hp hv hc).mono ?_); rintro e w3 ⟨rfl, hb3⟩
                 have hk3 := Keep.mk (hk2.out.keep hb3)
                 have hc3 := Keep.mk (pairsOf_below hc2.out hb3)
                 clear hb3 hp hv hc hk2 hc2)
              | (go_at_call 22; have hp := hk3.out.ps; have hv := hk3.out.at (z := (zsOf S)) (.head _)
                 (with_reducible refine (q22.out _ _ _ hp hv).mono ?_); rintro e w4 ⟨rfl, hb4⟩
                 have hk4 := Keep.mk (hk3.out.keep hb4)
                 have hc4 := Keep.mk (pairsOf_below hc3.out hb4)
                 clear hb4 hp hv hk3 hc3)
              | (go_at_call 24; have hp := hk4.out.ps; (with_reducible refine (q24.out _ _ hp).mono ?_); rintro e w5 ⟨G, rfl, hGn, hGl, hb⟩
                 have hk5 := Keep.mk (hk4.out.keep hb)
                 have hc5 := Keep.mk (pairsOf_below hc4.out hb)
                 have hGk := Keep.mk hGn
                 clear hGn hGl hb hp hk4 hc4 q24)
              | (go_at_call 26; have hvx := hk5.out.at (z := zsOf S) (.head _)
                 (with_reducible refine (q26.out _ _ hvx).mono ?_); rintro e wm ⟨rfl, hem⟩; rw [hem]; clear hem wm hvx)
              | (go_at_call 46; have hg := hGk.out; have hc := hc5.out
                 (with_reducible refine (q46.out _ _ _ hg hc).mono ?_); rintro e w6 ⟨rfl, nq, hq⟩
                 have hk6 := Keep.mk (hk5.out.dn nq)
                 rw [← hq] at hk6
                 clear hq hg hc hk5 hc5 q46)
              | (go_at_call 23; (with_reducible refine (awake_w _).mono ?_); rintro e w7 ⟨rfl, hb⟩
                 have hk7 := Keep.mk (hk6.out.keep hb)
                 clear hb hk6))
            refine bodyPost_ret (v := .bool true) (by simp [results, Try.results8, go_sem]) rfl ?_
            exact ⟨rfl, hk7.out.2.2⟩
      · have n49 : Keep (∀ (W : World) (ve v : Value), PairsOf W ve E → IntsO W v ZS → _) := ⟨fun W ve v he hv => Check_no (n := n) (x := e2) he hEl hv hzl hok⟩
        have n22 : Keep (∀ (W : World) (ve v : Value), PairsOf W ve E → IntsO W v ZS → Calls Try.prog 22 #[.int .i64 n, ve, v] W fun e w' => e = .returned (.bool false) ∧ Below W.heap.size W w') := ⟨fun W ve v he hv => (valid_no (n := n) he hEl hv hzl hok).mono fun e w' ⟨h1, q, h2⟩ => ⟨h1, by rw [h2]; exact below_dn W q⟩⟩
        clear hok hzl
        rcases hstop with hs1 | ⟨hs1, hs2⟩
        · skip
          go_wp2_with (first
            | (go_at_call 49; have hp := hk2.out.ps; have hv := hk2.out.at (z := ZS) (.head _); have hc := hc2.out
               (with_reducible refine (n49.out _ _ _ hp hv).mono ?_); rintro e w3 ⟨rfl, hb3⟩
               have hk3 := Keep.mk (hk2.out.keep hb3)
               have hc3 := Keep.mk (pairsOf_below hc2.out hb3)
               clear hb3 hp hv hc hk2 hc2)
            | (go_at_call 22; have hp := hk3.out.ps; have hv := hk3.out.at (z := ZS) (.head _)
               (with_reducible refine (n22.out _ _ _ hp hv).mono ?_); rintro e w4 ⟨rfl, hb4⟩
               have hk4 := Keep.mk (hk3.out.keep hb4)
               have hc4 := Keep.mk (pairsOf_below hc3.out hb4)
               clear hb4 hp hv hk3 hc3)
            | (go_at_call 23; (with_reducible refine (awake_w _).mono ?_); rintro e w7 ⟨rfl, hb⟩
               have hk7 := Keep.mk (hk4.out.keep hb)
               clear hb hk4))
          refine bodyPost_ret (v := .bool true) (by simp [results, Try.results8, go_sem]) rfl ?_
          exact ⟨rfl, hk7.out.2.2⟩
        · skip
          go_wp2_with (first
            | (go_at_call 49; have hp := hk2.out.ps; have hv := hk2.out.at (z := ZS) (.head _); have hc := hc2.out
               (with_reducible refine (n49.out _ _ _ hp hv).mono ?_); rintro e w3 ⟨rfl, hb3⟩
               have hk3 := Keep.mk (hk2.out.keep hb3)
               have hc3 := Keep.mk (pairsOf_below hc2.out hb3)
               clear hb3 hp hv hc hk2 hc2)
            | (go_at_call 22; have hp := hk3.out.ps; have hv := hk3.out.at (z := ZS) (.head _)
               (with_reducible refine (n22.out _ _ _ hp hv).mono ?_); rintro e w4 ⟨rfl, hb4⟩
               have hk4 := Keep.mk (hk3.out.keep hb4)
               have hc4 := Keep.mk (pairsOf_below hc3.out hb4)
               clear hb4 hp hv hk3 hc3)
            | (go_at_call 23; (with_reducible refine (awake_w _).mono ?_); rintro e w7 ⟨rfl, hb⟩
               have hk7 := Keep.mk (hk4.out.keep hb)
               clear hb hk4))
          refine bodyPost_ret (v := .bool true) (by simp [results, Try.results8, go_sem]) rfl ?_
          exact ⟨rfl, hk7.out.2.2⟩
end Go.Proofs.Yteekigpdiklppaa
