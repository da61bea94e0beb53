import Derived.Test.YteekigpdiklppaaWRForts
set_option linter.unusedSimpArgs false
set_option linter.unusedVariables false
namespace Go.Proofs.Yteekigpdiklppaa
open Go Go.Proofs Go.RowKit Go.Seq
attribute [local go_sem] Oper.semAt_some
theorem natsV_gw {W : World} {A : Option Addr} {m c i : Nat} {out : List Nat} (h : NatsV W A m c out) (h1 : 1 ≤ m) : ∃ g, A = some ⟨g, 0, none⟩ ∧ ∀ j, j < m → W.cell? ⟨g, j, none⟩ = some (.int .i64 (out.getD j 0 : Nat)) := by
  obtain ⟨g, hA, _⟩ := h.at (j := 0) h1
  refine ⟨g, hA, fun j hj => ?_⟩
  obtain ⟨g', hA', hc⟩ := h.at hj
  rw [hA] at hA'
  injection hA' with e; injection e with e
  subst e; exact hc
set_option maxHeartbeats 8000000 in
set_option maxRecDepth 100000 in
theorem leasts_any (n : Int) {v1 : Value} {ps : Pts} {w : World} (hv : ArgP w v1 ps) :
    Calls Try.prog 5 #[.int .i64 n, v1] w fun e w' => e = .returned (.bool true) ∧ Below w.heap.size w w' := by
  have hmx : Try.prog.follows .mixedOrders = true := by kernel_rfl
  have q17 := pairs_arg hv
  obtain ⟨E, hE⟩ : ∃ E, ps.take 80 = E := ⟨_, rfl⟩
  have hEl : E.length ≤ 200 := by rw [← hE, List.length_take]; omega
  rw [hE] at q17
  clear hv hE
  by_cases hok : GrOk n E
  · obtain ⟨N, rfl⟩ : ∃ N : Nat, n = N := ⟨n.toNat, by have := hok.n1; omega⟩
    have hG := gok_of hok
    have hN := hG.n12
    have hN1 := hG.n1
    have q36 : Keep (∀ (W : World) (ve : Value), PairsOf W ve E → Calls Try.prog 36 #[.int .i64 N, ve] W fun e w' => e = .returned (.bool true) ∧ Below W.heap.size W w') := ⟨fun W ve he => (refGraph_run he hEl (R := true) ⟨fun _ => hok, fun _ => rfl⟩).mono fun e w' ⟨h1, q, h2⟩ => ⟨h1, by rw [h2]; exact below_dn W q⟩⟩
    have hM1 := forts_ne hN1 hN (adjOf E)
    have hM2 := forts_len hN (adjOf E)
    have q37 := Keep.mk (fun (W : World) (G : Nat) (hg : NumsAt W G N 3 (nearOf E)) => refForts_any hG hg)
    have q38 := Keep.mk (fun (W : World) (G : Nat) (hg : NumsAt W G N 3 (nearOf E)) => refLeast_any hG hg)
    have q24 := Keep.mk (fun (W : World) (ve : Value) (he : PairsOf W ve E) => near_any hG he)
    obtain ⟨L, hL⟩ : ∃ L, fortsOf N (adjOf E) = L := ⟨_, rfl⟩
    rw [hL] at hM1 hM2 q37
    obtain ⟨M, hM⟩ : ∃ M, L.length = M := ⟨_, rfl⟩
    rw [hM] at hM1 hM2
    have q35 := Keep.mk (fun (W : World) (ve : Value) (he : PairsOf W ve E) => oFortsL hG hL hM hM1 W ve he)
    obtain ⟨F, hF⟩ : ∃ F, leastOf N (forcing N E) = F := ⟨_, rfl⟩
    obtain ⟨lF, hlF⟩ : ∃ l, sz F = l := ⟨_, rfl⟩
    have q34 := Keep.mk (fun (W : World) (ve : Value) (he : PairsOf W ve E) => oLeast hG hF hlF W ve he)
    rw [hF] at q38
    have q28 := fun W => oList (N := N) (s := F) rfl W
    obtain ⟨nL, hnL⟩ : ∃ n, num F = n := ⟨_, rfl⟩
    rw [hnL] at q38 q28
    have hMk := Keep.mk hM
    clear hL hM hF hlF hnL hok hG
    go_enter Try.func5, Try.ntmps5
    go_wp2_with (first
      | (go_at_call 17; (with_reducible refine q17.mono ?_); rintro e w1 ⟨vl, rfl, hr1, hb1⟩
         have hk1 : Keep (Hd w w1 vl E []) := ⟨⟨own_pairs hr1, fun x hx => by simp at hx, hb1⟩⟩
         clear hr1 hb1 q17)
      | (go_at_call 34; have hp := hk1.out.ps; (with_reducible refine (q34.out _ _ hp).mono ?_); rintro e w2 ⟨XL, cL, rfl, hi, hb⟩
         have hk2 := Keep.mk (hk1.out.put hb hi)
         clear hi hb hp hk1 q34)
      | (go_at_call 35; have hp := hk2.out.ps; (with_reducible refine (q35.out _ _ hp).mono ?_); rintro e w3 ⟨gx, cx, rfl, hl3, hb⟩
         have hk3 := Keep.mk (hk2.out.keep hb)
         have hx3 := Keep.mk hl3
         clear hl3 hb hp hk2 q35)
      | (go_at_call 36; have hp := hk3.out.ps; (with_reducible refine (q36.out _ _ hp).mono ?_); rintro e w4 ⟨rfl, hb⟩
         have hk4 := Keep.mk (hk3.out.keep hb)
         have hx4 := Keep.mk (listsO_below hx3.out hb)
         clear hb hp hk3 hx3 q36)
      | (go_at_call 24; have hp := hk4.out.ps; (with_reducible refine (q24.out _ _ hp).mono ?_); rintro e w5 ⟨G, rfl, hGn, hGl, hb⟩
         have hk5 := Keep.mk (hk4.out.keep hb)
         have hx5 := Keep.mk (listsO_below hx4.out hb)
         have hG5 := Keep.mk hGn
         clear hGn hGl hb hp hk4 hx4 q24)
      | (go_at_call 37; have hg := hG5.out; (with_reducible refine (q37.out _ _ hg).mono ?_); rintro e w6 ⟨A, m, c, rfl, hnv, hb⟩
         have hml := hnv.1
         rw [List.length_map, hMk.out] at hml
         subst hml
         have hk6 := Keep.mk (And.intro (hk5.out.keep hb) (And.intro (listsO_below hx5.out hb) (And.intro (hG5.out.below hb hG5.out.lt) hnv)))
         clear hnv hb hg hk5 hx5 hG5 q37))
    obtain ⟨gw, hA, _⟩ := natsV_gw (i := 0) hk6.out.2.2.2 hM1
    subst hA
    go_loopw [12] (fun iv wr => ∃ i : Nat, i ≤ M ∧ iv = .int .i64 i ∧ Keep (Hd w wr vl E [(.slice XL lF cL, zsOf F)] ∧ ListsO wr (.slice (some ⟨gx, 0, none⟩) M cx) L ∧ NumsAt wr G N 3 (nearOf E) ∧ NatsV wr (some ⟨gw, 0, none⟩) M c (L.map num))) (fun i _ => M - (intOf i).toNat)
    case atStart => exact ⟨0, by omega, rfl, hk6⟩
    case round =>
      obtain ⟨i, hi, rfl, hI⟩ := hrel
      by_cases hlt : i < M
      · have hw1 : IntKind.i64.wrap ((i : Int) + 1) = (i : Int) + 1 := IntWalk.i64_in _ (by omega)
        have hlt' : (i : Int) < (M : Int) := by omega
        have hi0 : ¬ (i : Int) < 0 := by omega
        obtain ⟨Fi, hFi⟩ : ∃ Fi, L[i]? = some Fi := ⟨_, List.getElem?_eq_getElem (by rw [hMk.out]; exact hlt)⟩
        have hgetn : (L.map num).getD i 0 = num Fi := by rw [List.getD_eq_getElem?_getD, List.getElem?_map, hFi]; rfl
        obtain ⟨Xi, mi, ci, cXi, hXi⟩ : ∃ X m' c', wr.cell? ⟨gx, i, none⟩ = some (.slice X m' c') ∧ IntsO wr (.slice X m' c') (zsOf Fi) := by
          obtain ⟨A', cap', hv', hc'⟩ := hI.out.2.1
          injection hv' with h1 h2 h3
          have hil : i < L.length := by rw [hMk.out]; exact hlt
          obtain ⟨g', X, m', c', hA', e1, e2⟩ := hc' i hil
          rw [← h1] at hA'
          injection hA' with hA'; injection hA' with hA'
          subst hA'
          have hLi : L[i] = Fi := by rw [List.getElem?_eq_getElem hil] at hFi; exact Option.some.inj hFi
          rw [hLi] at e2
          exact ⟨X, m', c', e1, e2⟩
        obtain ⟨g9, hA9, cW⟩ := hI.out.2.2.2.at hlt
        injection hA9 with hA9; injection hA9 with hA9
        subst hA9
        rw [hgetn] at cW
        have q28i := fun W => oList (N := N) (s := Fi) rfl W
        obtain ⟨nF, hnF⟩ : ∃ n, num Fi = n := ⟨_, rfl⟩
        rw [hnF] at q28i cW
        clear hnF hgetn hFi
        obtain ⟨BX, hBX⟩ : ∃ BX : World → Prop, BX = fun W => (Hd w W vl E [(.slice XL lF cL, zsOf F)] ∧ ListsO W (.slice (some ⟨gx, 0, none⟩) M cx) L ∧ NumsAt W G N 3 (nearOf E) ∧ NatsV W (some ⟨gw, 0, none⟩) M c (L.map num)) ∧ W.cell? ⟨gx, i, none⟩ = some (.slice Xi mi ci) ∧ IntsO W (.slice Xi mi ci) (zsOf Fi) ∧ W.cell? ⟨gw, i, none⟩ = some (.int .i64 (nF : Nat)) := ⟨_, rfl⟩
        have hBa : ∀ W W', BX W → Below W.heap.size W W' → BX W' := fun W W' h hb => by
          rw [hBX] at h ⊢
          exact ⟨⟨h.1.1.keep hb, listsO_below h.1.2.1 hb, h.1.2.2.1.below hb h.1.2.2.1.lt, h.1.2.2.2.below hb⟩, cell_below h.2.1 hb, intsO_below h.2.2.1 hb, cell_below h.2.2.2 hb⟩
        have hB0 : BX wr := by rw [hBX]; exact ⟨hI.out, cXi, hXi, cW⟩
        have hBx : ∀ W, BX W → W.cell? ⟨gx, i, none⟩ = some (.slice Xi mi ci) ∧ IntsO W (.slice Xi mi ci) (zsOf Fi) ∧ W.cell? ⟨gw, i, none⟩ = some (.int .i64 (nF : Nat)) := fun W h => by rw [hBX] at h; exact h.2
        have hBf : ∀ W, BX W → Keep (Hd w W vl E [(.slice XL lF cL, zsOf F)] ∧ ListsO W (.slice (some ⟨gx, 0, none⟩) M cx) L ∧ NumsAt W G N 3 (nearOf E) ∧ NatsV W (some ⟨gw, 0, none⟩) M c (L.map num)) := fun W h => by rw [hBX] at h; exact ⟨h.1⟩
        clear hBX hI cXi hXi cW
        obtain ⟨CX, hCX⟩ : ∃ CX : (Nat → Bool) → Value → World → Prop, CX = fun t lv W => BX W ∧ (t 8 = true → IntsO W lv (zsOf Fi)) := ⟨_, rfl⟩
        have hCk : ∀ i, i ≠ 8 → ∀ t lv W, CX t lv W → CX (Manyd.upd t i) lv W := fun i hi t lv W h => by
          rw [hCX] at h ⊢
          exact ⟨h.1, fun e => h.2 (by simpa [Manyd.upd, hi] using e)⟩
        have hCx : ∀ t lv W, CX t lv W → W.cell? ⟨gx, i, none⟩ = some (.slice Xi mi ci) := fun t lv W h => by rw [hCX] at h; exact (hBx W h.1).1
        have hCw : ∀ t lv W, CX t lv W → W.cell? ⟨gw, i, none⟩ = some (.int .i64 (nF : Nat)) := fun t lv W h => by rw [hCX] at h; exact (hBx W h.1).2.2
        have hCs : ∀ t lv W, CX t lv W → t 8 = true → Calls Try.prog 27 #[.slice Xi mi ci, lv] W fun e w' => e = .returned (.bool true) ∧ ∃ n, w' = W.drewN n := fun t lv W h h8 => by
          rw [hCX] at h; exact same_any (hBx W h.1).2.1 (h.2 h8) (Nat.le_trans (zs_len _) (by omega))
        have hCc : ∀ t lv W W', CX t lv W → Below W.heap.size W W' → CX t lv W' := fun t lv W W' h hb => by
          rw [hCX] at h ⊢
          exact ⟨hBa W W' h.1 hb, fun e => intsO_below (h.2 e) hb⟩
        have hCl : ∀ t lv lv2 W W', CX t lv W → IntsO W' lv2 (zsOf Fi) → Below W.heap.size W W' → CX (Manyd.upd t 8) lv2 W' := fun t lv lv2 W W' h hr hb => by
          rw [hCX] at h ⊢
          exact ⟨hBa W W' h.1 hb, fun _ => hr⟩
        have hC0 : ∀ t : Nat → Bool, (∀ j, j < 11 → t j = false) → CX t (.slice none 0 0) wr.drew := fun t ht => by
          rw [hCX]
          exact ⟨hBa _ _ hB0 ((Below.refl _ _).drew), fun e => by rw [ht 8 (by decide)] at e; cases e⟩
        have hCf : ∀ t lv W, CX t lv W → BX W := fun t lv W h => by rw [hCX] at h; exact h.1
        clear hCX hB0 hBa hBx
        go_wp2
        refine (wpIn_wide (n := 0)).1 ?_
        refine Inv.region_inv (fun t a W => ∃ lv, a = { tmps := #[.int .i64 N, v1, undef, undef, u4, vl, .slice XL lF cL, .int .i64 0, .slice (some ⟨gx, 0, none⟩) M cx, .int .i64 0, .slice (some ⟨G, 0, none⟩) N N, .slice (some ⟨gw, 0, none⟩) M c, .int .i64 i, v1, vl, .tuple #[.slice XL lF cL, .int .i64 0], .int .i64 N, vl, .tuple #[.slice XL lF cL, .int .i64 0], .slice XL lF cL, .int .i64 0, .tuple #[.slice (some ⟨gx, 0, none⟩) M cx, .int .i64 0], .int .i64 N, vl, .tuple #[.slice (some ⟨gx, 0, none⟩) M cx, .int .i64 0], .slice (some ⟨gx, 0, none⟩) M cx, .int .i64 0, .int .i64 N, vl, .bool true, .bool false, undef, undef, undef, undef, undef, undef, undef, undef, undef, undef, undef, undef, undef, undef, undef, undef, undef, undef, undef, .int .i64 N, vl, .slice (some ⟨G, 0, none⟩) N N, .slice (some ⟨G, 0, none⟩) N N, .slice (some ⟨gw, 0, none⟩) M c, .slice (some ⟨gx, 0, none⟩) M cx, .int .i64 M, .slice (some ⟨gw, 0, none⟩) M c, .int .i64 M, .bool false, .bool false, .int .i64 0, .bool false, .bool false, .int .i64 i, .slice (some ⟨gx, 0, none⟩) M cx, .int .i64 M, .bool true, u68, u69, if t 0 = true then .slice (some ⟨gx, 0, none⟩) M cx else u70, if t 1 = true then .int .i64 i else u71, if t 2 = true then .pointer (some ⟨gx, i, none⟩) else u72, if t 3 = true then .slice Xi mi ci else u73, if t 4 = true then .slice (some ⟨gw, 0, none⟩) M c else u74, if t 5 = true then .int .i64 i else u75, if t 6 = true then .pointer (some ⟨gw, i, none⟩) else u76, if t 7 = true then .int .i64 (nF : Nat) else u77, if t 8 = true then lv else u78, if t 9 = true then .bool true else u79, if t 10 = true then .bool false else u80, undef, undef, undef, undef, undef, undef, undef, undef, undef, undef, undef, undef], defers := [] } ∧ CX t lv W) hmx (by kernel_rfl) ?_ ?_ ?_
        · intro t hs
          refine ⟨.slice none 0 0, ?_, hC0 t (fun j hj => hs j hj)⟩
          simp only [hs 0 (by decide), hs 1 (by decide), hs 2 (by decide), hs 3 (by decide), hs 4 (by decide), hs 5 (by decide), hs 6 (by decide), hs 7 (by decide), hs 8 (by decide), hs 9 (by decide), hs 10 (by decide), Bool.false_eq_true, if_false]
        · refine ⟨?_, ?_, ?_, ?_, ?_, ?_, ?_, ?_, ?_, ?_, ?_, trivial⟩
          · rintro t a W hun hdep hbeh ⟨lv, rfl, hT⟩
            (try simp only [Nat.reduceAdd] at hun)
            refine .inl ⟨by rfl, Inv.comesV_val (.slice (some ⟨gx, 0, none⟩) M cx) W (by (clear hT; go_simp; (try rfl); try (intro hneg; omega))) ⟨lv, by (simp only [Act.put, List.setIfInBounds_toArray, List.set_cons_succ, List.set_cons_zero, Manyd.upd, Nat.reduceAdd, Nat.reduceBEq, Bool.or_false, Bool.or_true, if_true]), hCk 0 (by decide) t lv W hT⟩⟩
          · rintro t a W hun hdep hbeh ⟨lv, rfl, hT⟩
            (try simp only [Nat.reduceAdd] at hun)
            refine .inl ⟨by rfl, Inv.comesV_val (.int .i64 i) W (by (clear hT; go_simp; (try rfl); try (intro hneg; omega))) ⟨lv, by (simp only [Act.put, List.setIfInBounds_toArray, List.set_cons_succ, List.set_cons_zero, Manyd.upd, Nat.reduceAdd, Nat.reduceBEq, Bool.or_false, Bool.or_true, if_true]), hCk 1 (by decide) t lv W hT⟩⟩
          · rintro t a W hun hdep hbeh ⟨lv, rfl, hT⟩
            (try simp only [Nat.reduceAdd] at hun)
            have h0 : t 0 = true := Inv.depB_mem 0 hdep (by rfl)
            have h1 : t 1 = true := Inv.depB_mem 1 hdep (by rfl)
            refine .inl ⟨by rfl, Inv.comesV_val (.pointer (some ⟨gx, i, none⟩)) W (by (simp only [h0, h1, if_true]; clear hT; go_simp; (try rfl); try (intro hneg; omega))) ⟨lv, by (simp only [Act.put, List.setIfInBounds_toArray, List.set_cons_succ, List.set_cons_zero, Manyd.upd, Nat.reduceAdd, Nat.reduceBEq, Bool.or_false, Bool.or_true, if_true]), hCk 2 (by decide) t lv W hT⟩⟩
          · rintro t a W hun hdep hbeh ⟨lv, rfl, hT⟩
            (try simp only [Nat.reduceAdd] at hun)
            have h2 : t 2 = true := Inv.depB_mem 2 hdep (by rfl)
            have cb := hCx t lv W hT
            refine .inl ⟨by rfl, Inv.comesV_val (.slice Xi mi ci) W (by (simp only [h2, if_true]; clear hT; go_simp; (try rfl); try (intro hneg; omega))) ⟨lv, by (simp only [Act.put, List.setIfInBounds_toArray, List.set_cons_succ, List.set_cons_zero, Manyd.upd, Nat.reduceAdd, Nat.reduceBEq, Bool.or_false, Bool.or_true, if_true]), hCk 3 (by decide) t lv W hT⟩⟩
          · rintro t a W hun hdep hbeh ⟨lv, rfl, hT⟩
            (try simp only [Nat.reduceAdd] at hun)
            refine .inl ⟨by rfl, Inv.comesV_val (.slice (some ⟨gw, 0, none⟩) M c) W (by (clear hT; go_simp; (try rfl); try (intro hneg; omega))) ⟨lv, by (simp only [Act.put, List.setIfInBounds_toArray, List.set_cons_succ, List.set_cons_zero, Manyd.upd, Nat.reduceAdd, Nat.reduceBEq, Bool.or_false, Bool.or_true, if_true]), hCk 4 (by decide) t lv W hT⟩⟩
          · rintro t a W hun hdep hbeh ⟨lv, rfl, hT⟩
            (try simp only [Nat.reduceAdd] at hun)
            refine .inl ⟨by rfl, Inv.comesV_val (.int .i64 i) W (by (clear hT; go_simp; (try rfl); try (intro hneg; omega))) ⟨lv, by (simp only [Act.put, List.setIfInBounds_toArray, List.set_cons_succ, List.set_cons_zero, Manyd.upd, Nat.reduceAdd, Nat.reduceBEq, Bool.or_false, Bool.or_true, if_true]), hCk 5 (by decide) t lv W hT⟩⟩
          · rintro t a W hun hdep hbeh ⟨lv, rfl, hT⟩
            (try simp only [Nat.reduceAdd] at hun)
            have h4 : t 4 = true := Inv.depB_mem 4 hdep (by rfl)
            have h5 : t 5 = true := Inv.depB_mem 5 hdep (by rfl)
            refine .inl ⟨by rfl, Inv.comesV_val (.pointer (some ⟨gw, i, none⟩)) W (by (simp only [h4, h5, if_true]; clear hT; go_simp; (try rfl); try (intro hneg; omega))) ⟨lv, by (simp only [Act.put, List.setIfInBounds_toArray, List.set_cons_succ, List.set_cons_zero, Manyd.upd, Nat.reduceAdd, Nat.reduceBEq, Bool.or_false, Bool.or_true, if_true]), hCk 6 (by decide) t lv W hT⟩⟩
          · rintro t a W hun hdep hbeh ⟨lv, rfl, hT⟩
            (try simp only [Nat.reduceAdd] at hun)
            have h6 : t 6 = true := Inv.depB_mem 6 hdep (by rfl)
            have cb := hCw t lv W hT
            refine .inl ⟨by rfl, Inv.comesV_val (.int .i64 (nF : Nat)) W (by (simp only [h6, if_true]; clear hT; go_simp; (try rfl); try (intro hneg; omega))) ⟨lv, by (simp only [Act.put, List.setIfInBounds_toArray, List.set_cons_succ, List.set_cons_zero, Manyd.upd, Nat.reduceAdd, Nat.reduceBEq, Bool.or_false, Bool.or_true, if_true]), hCk 7 (by decide) t lv W hT⟩⟩
          · rintro t a W hun hdep hbeh ⟨lv, rfl, hT⟩
            (try simp only [Nat.reduceAdd] at hun)
            have h7 : t 7 = true := Inv.depB_mem 7 hdep (by rfl)
            have hn9 : t 9 = false := hbeh 9 (by kernel_rfl)
            refine .inl ⟨by rfl, Inv.comesV_call 28 #[.int .i64 (nF : Nat)] W (by (simp only [h7, if_true]; clear hT; go_simp; try rfl)) ((q28i W).mono fun e w5 hw5 => by
              obtain ⟨v9, r1, r2, r3⟩ := hw5
              exact ⟨v9, r1, v9, by (simp only [hun, hn9, Bool.false_eq_true, if_false]; simp only [Act.put, List.setIfInBounds_toArray, List.set_cons_succ, List.set_cons_zero, Manyd.upd, Nat.reduceAdd, Nat.reduceBEq, Bool.or_false, Bool.or_true, if_true]; simp only [hn9, Bool.false_eq_true, if_false]), hCl t lv v9 W w5 hT r2 r3⟩)⟩
          · rintro t a W hun hdep hbeh ⟨lv, rfl, hT⟩
            (try simp only [Nat.reduceAdd] at hun)
            have h3 : t 3 = true := Inv.depB_mem 3 hdep (by rfl)
            have h8 : t 8 = true := Inv.depB_mem 8 hdep (by rfl)
            refine .inl ⟨by rfl, Inv.comesV_call 27 #[.slice Xi mi ci, lv] W (by (simp only [h3, h8, if_true]; clear hT; go_simp; try rfl)) ((hCs t lv W hT h8).mono fun e w5 hw5 => ⟨.bool true, hw5.1, lv, ?_, ?_⟩)⟩
            · simp only [Act.put, List.setIfInBounds_toArray, List.set_cons_succ, List.set_cons_zero, Manyd.upd, Nat.reduceAdd, Nat.reduceBEq, Bool.or_false, Bool.or_true, if_true]
            · exact hCk 9 (by decide) t lv w5 (hCc t lv W w5 hT (by obtain ⟨q, hq⟩ := hw5.2; rw [hq]; exact below_dn W q))
          · rintro t a W hun hdep hbeh ⟨lv, rfl, hT⟩
            (try simp only [Nat.reduceAdd] at hun)
            have h9 : t 9 = true := Inv.depB_mem 9 hdep (by rfl)
            refine .inl ⟨by rfl, Inv.comesV_val (.bool false) W (by (simp only [h9, if_true]; clear hT; go_simp; (try rfl); try (intro hneg; omega))) ⟨lv, by (simp only [Act.put, List.setIfInBounds_toArray, List.set_cons_succ, List.set_cons_zero, Manyd.upd, Nat.reduceAdd, Nat.reduceBEq, Bool.or_false, Bool.or_true, if_true]), hCk 10 (by decide) t lv W hT⟩⟩
        rintro t a W hs ⟨lv, rfl, hT⟩
        have hf := hBf W (hCf t lv W hT)
        simp only [hs 0 (by decide), hs 1 (by decide), hs 2 (by decide), hs 3 (by decide), hs 4 (by decide), hs 5 (by decide), hs 6 (by decide), hs 7 (by decide), hs 8 (by decide), hs 9 (by decide), hs 10 (by decide), if_true]
        clear hT hs hCf hC0 hCl hCc hCs hCw hCx hCk hBf q28i
        go_wp2
        exact ⟨⟨i + 1, by omega, by go_num, hf⟩, by simp [intOf]; omega⟩
      · obtain rfl : i = M := by omega
        have hlt' : ¬ (i : Int) < (i : Int) := by omega
        have hk7 := Keep.mk hI.out.1
        have hG7 := Keep.mk hI.out.2.2.1
        clear hI hk6
        go_wp2_with (first
          | (go_at_call 38; have hg := hG7.out; (with_reducible refine (q38.out _ _ hg).mono ?_); rintro e w8 ⟨rfl, hb⟩
             have hk8 := Keep.mk (hk7.out.keep hb)
             clear hb hg hk7 hG7 q38)
          | (go_at_call 28; (with_reducible refine (q28 _).mono ?_); rintro e w9 ⟨vw, rfl, hi9, hb9⟩
             have hk9 := Keep.mk (hk8.out.put hb9 hi9)
             clear hi9 hb9 hk8 q28)
          | (go_at_call 27; have hva := hk9.out.at (v := .slice XL lF cL) (z := zsOf F) (.tail _ (.head _)); have hvb := hk9.out.at (v := vw) (z := zsOf F) (.head _)
             (with_reducible refine (same_any hva hvb (Nat.le_trans (zs_len _) (by omega))).mono ?_); rintro e w10 ⟨rfl, nq, hq⟩
             have hk10 := Keep.mk (hk9.out.dn nq)
             rw [← hq] at hk10
             clear hva hvb hk9 hq)
          | (go_at_call 23; (with_reducible refine (awake_w _).mono ?_); rintro e w11 ⟨rfl, hb⟩
             have hk11 := Keep.mk (hk10.out.keep hb)
             clear hb hk10))
        refine bodyPost_ret (v := .bool true) (by simp [results, Try.results5, go_sem]) rfl ?_
        exact ⟨rfl, hk11.out.2.2⟩
  · have n34 : Keep (∀ (W : World) (ve : Value), PairsOf W ve E → _) := ⟨fun W ve he => Least_no (n := n) he hEl hok⟩
    have n35 : Keep (∀ (W : World) (ve : Value), PairsOf W ve E → _) := ⟨fun W ve he => Forts_no (n := n) he hEl hok⟩
    have n36 : Keep (∀ (W : World) (ve : Value), PairsOf W ve E → Calls Try.prog 36 #[.int .i64 n, ve] W fun e w' => e = .returned (.bool false) ∧ Below W.heap.size W w') := ⟨fun W ve he => (refGraph_run he hEl (R := false) ⟨fun h => absurd h (by decide), fun h => absurd h hok⟩).mono fun e w' ⟨h1, q, h2⟩ => ⟨h1, by rw [h2]; exact below_dn W q⟩⟩
    clear hok hEl
    go_enter Try.func5, Try.ntmps5
    go_wp2_with (first
      | (go_at_call 17; (with_reducible refine q17.mono ?_); rintro e w1 ⟨vl, rfl, hr1, hb1⟩
         have hk1 : Keep (Hd w w1 vl E []) := ⟨⟨own_pairs hr1, fun x hx => by simp at hx, hb1⟩⟩
         clear hr1 hb1 q17)
      | (go_at_call 34; have hp := hk1.out.ps; (with_reducible refine (n34.out _ _ hp).mono ?_); rintro e w2 ⟨rfl, hb⟩
         have hk2 := Keep.mk (hk1.out.keep hb)
         clear hb hp hk1 n34)
      | (go_at_call 35; have hp := hk2.out.ps; (with_reducible refine (n35.out _ _ hp).mono ?_); rintro e w3 ⟨rfl, hb⟩
         have hk3 := Keep.mk (hk2.out.keep hb)
         clear hb hp hk2 n35)
      | (go_at_call 36; have hp := hk3.out.ps; (with_reducible refine (n36.out _ _ hp).mono ?_); rintro e w4 ⟨rfl, hb⟩
         have hk4 := Keep.mk (hk3.out.keep hb)
         clear hb hp hk3 n36)
      | (go_at_call 23; (with_reducible refine (awake_w _).mono ?_); rintro e w5 ⟨rfl, hb⟩
         have hk5 := Keep.mk (hk4.out.keep hb)
         clear hb hk4))
    refine bodyPost_ret (v := .bool true) (by simp [results, Try.results5, go_sem]) rfl ?_
    exact ⟨rfl, hk5.out.2.2⟩
end Go.Proofs.Yteekigpdiklppaa
