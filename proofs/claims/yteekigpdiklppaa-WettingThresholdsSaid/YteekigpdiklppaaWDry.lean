import Derived.Test.YteekigpdiklppaaWListed
set_option linter.unusedSimpArgs false
set_option linter.unusedVariables false
namespace Go.Proofs.Yteekigpdiklppaa
open Go Go.Proofs Go.RowKit Go.Seq
attribute [local go_sem] Oper.semAt_some
set_option maxHeartbeats 4000000 in
set_option maxRecDepth 100000 in
theorem dry_any {b n K f : Nat} {bd cp : Array Value} {adj : Nat → Nat → Bool} {rd : (Nat → Bool) → Nat → Bool} {R : World → Prop} {s : Nat → Bool} {w : World} (hg : GraphAt w b n adj) (hn : n ≤ 12) (hq : Rnd f bd cp rd R) (hK : Stops rd s K)
    (hR : ∀ W, Below w.heap.size w W → R W) :
    Calls Try.prog 63 #[.pointer (some ⟨b, 0, none⟩), setV s, .func (.func f) bd cp] w fun e w' =>
      ((eqb (stg rd s K) (allS n) = true ∧ e = .returned (.tuple #[.slice none 0 0, .int .i64 6])) ∨ (eqb (stg rd s K) (allS n) = false ∧ ∃ lv, e = .returned (.tuple #[lv, .int .i64 0]) ∧ ListV w w' lv (fun j => allS n j && !stg rd s K j))) ∧ Below w.heap.size w w' := by
  have hmx : Try.prog.follows .mixedOrders = true := by kernel_rfl
  obtain ⟨F, hF⟩ : ∃ F, stg rd s K = F := ⟨_, rfl⟩
  obtain ⟨A, hA⟩ : ∃ A, allS n = A := ⟨_, rfl⟩
  obtain ⟨wa, hwa⟩ : ∃ wa, w.alloc (.cells (sc s) 79) = wa := ⟨_, rfl⟩
  have ba : Below w.heap.size w wa := by rw [← hwa]; exact (Below.refl _ _).alloc (Nat.le_refl _) _
  have fa : SetAt wa w.heap.size s := by rw [← hwa]; exact SetAt.new _ _
  obtain ⟨x0, x1, x2, x3, x4, x5, x6, x7, x8, x9, x10, x11⟩ := fa.c12
  have q58 := closure_any (w := wa) hq hK (fun W hb => hR W (ba.trans (hb.mono ba.size)))
  have q84 := Keep.mk (fun W (h : GraphAt W b n adj) => all_any h hn)
  rw [hF] at q58 ⊢
  rw [show (fun j => decide (j < n)) = A from hA] at q84
  rw [hA]
  obtain ⟨z, hz⟩ : ∃ z, eqb F A = z := ⟨_, rfl⟩
  have heq := fun w => eq49 F A w
  rw [show ((List.range 12).all fun k => F k == A k) = z from hz] at heq
  rw [hz]
  obtain ⟨D, hD⟩ : ∃ D : Nat → Bool, (fun j => A j && !F j) = D := ⟨_, rfl⟩
  have q85 : Keep (∀ W, Calls Try.prog 85 #[setV A, setV F] W fun e w' => e = .returned (setV D) ∧ Below W.heap.size W w') := ⟨fun W => hD ▸ minus_any A F W⟩
  have q60 := Keep.mk (fun W => list_any D W)
  rw [hD]
  have hgk := Keep.mk hg
  have bak := Keep.mk ba
  clear fa ba hg hF hA hz hD
  unfold setV sc at *
  go_enter Try.func63, Try.ntmps63
  go_wp2_with (first
    | (go_at_call 58; (with_reducible refine q58.mono ?_); rintro e w5 ⟨rfl, hb5⟩
       obtain ⟨w6, hw6⟩ : ∃ w6, w5.alloc (.cells (sc F) 79) = w6 := ⟨_, rfl⟩
       have hb6 : Below w5.heap.size w5 w6 := by rw [← hw6]; exact (Below.refl _ _).alloc (Nat.le_refl _) _
       have hf6 : SetAt w6 w5.heap.size F := by rw [← hw6]; exact SetAt.new _ _
       have hbb := Keep.mk (bak.out.trans ((hb5.trans (hb6.mono hb5.size)).mono bak.out.size))
       have hf6k := Keep.mk hf6
       clear hb5 hb6 hf6
       unfold sc at hw6))
  have hI : GraphAt w6 b n adj ∧ SetAt w6 w5.heap.size F ∧ Below w.heap.size w w6 := ⟨hgk.out.below hbb.out hgk.out.lt, hf6k.out, hbb.out⟩
  obtain ⟨BX, hBX⟩ : ∃ BX : World → Prop, BX = fun W => GraphAt W b n adj ∧ SetAt W w5.heap.size F ∧ Below w.heap.size w W := ⟨_, rfl⟩
  have hCa : ∀ W W', BX W → Below W.heap.size W W' → BX W' := fun W W' h hb => by
    rw [hBX] at h ⊢; exact ⟨h.1.below hb h.1.lt, h.2.1.after hb, h.2.2.trans (hb.mono h.2.2.size)⟩
  have hCg : ∀ W, BX W → GraphAt W b n adj ∧ SetAt W w5.heap.size F ∧ Below w.heap.size w W := fun W h => by rw [hBX] at h; exact h
  have hB0 : BX w6 := by rw [hBX]; exact hI
  clear hBX hI hf6k hbb hgk hw6
  refine (wpIn_wide (n := 0)).1 ?_
  refine Many.region_many (fun _ W => BX W) hmx (by kernel_rfl) (fun s s' W' h hc => hc) (fun s hs => hCa _ _ hB0 ((Below.refl _ _).drew)) ?_
  refine Many.lex_want (by rfl) (Many.tr_read (v := .agg #[.bool (F 0), .bool (F 1), .bool (F 2), .bool (F 3), .bool (F 4), .bool (F 5), .bool (F 6), .bool (F 7), .bool (F 8), .bool (F 9), .bool (F 10), .bool (F 11)]) BX (fun s W h => h) (fun s W h => h) (fun W h => by
    obtain ⟨e0, e1, e2, e3, e4, e5, e6, e7, e8, e9, e10, e11⟩ := (hCg W h).2.1.c12
    clear h; go_simp; (try rfl))) ?_
  simp only [Act.put, List.setIfInBounds_toArray, List.set_cons_succ, List.set_cons_zero, Nat.reduceAdd]
  refine Many.lex_want (by rfl) (Many.tr_read (v := .pointer (some ⟨b, 0, none⟩)) BX (fun s W h => h) (fun s W h => h) (fun W h => by clear h; go_simp; (try rfl))) ?_
  simp only [Act.put, List.setIfInBounds_toArray, List.set_cons_succ, List.set_cons_zero, Nat.reduceAdd]
  refine Many.lex_want (by rfl) (Many.tr_call (v := .agg #[.bool (A 0), .bool (A 1), .bool (A 2), .bool (A 3), .bool (A 4), .bool (A 5), .bool (A 6), .bool (A 7), .bool (A 8), .bool (A 9), .bool (A 10), .bool (A 11)]) (f := 84) (args := #[.pointer (some ⟨b, 0, none⟩)]) BX (fun s W h => h) (fun s W h => (q84.out W (hCg W h).1).mono (fun e W' hw' => ⟨hw'.1, hCa _ _ h hw'.2⟩)) (fun W h => by clear h; go_simp; try rfl)) ?_
  simp only [Act.put, List.setIfInBounds_toArray, List.set_cons_succ, List.set_cons_zero, Nat.reduceAdd]
  refine Many.lex_want (by rfl) (Many.tr_read (v := .bool z) BX (fun s W h => h) (fun s W h => h) (fun W h => by clear h; go_simp; (try rfl))) ?_
  simp only [Act.put, List.setIfInBounds_toArray, List.set_cons_succ, List.set_cons_zero, Nat.reduceAdd]
  refine Many.lex_nil fun s9 W4 hs9 hS4 => ?_
  clear hB0
  cases z with
  | true =>
    have hb4 := (hCg _ hS4).2.2
    clear hS4
    go_wp2
    refine bodyPost_ret (v := .tuple #[.slice none 0 0, .int .i64 6]) (by simp [results, Try.results63, go_sem]) rfl ?_
    first
      | exact ⟨.inl ⟨rfl, rfl⟩, hb4⟩
      | exact ⟨rfl, hb4⟩
  | false =>
    have hS4k := Keep.mk hS4
    clear hS4
    go_wp2
    obtain ⟨CX, hCX⟩ : ∃ CX : (Nat → Bool) → Value → World → Prop, CX = fun t lv W => BX W ∧ (t 4 = true → W.ownsRow w.heap.size 3 1 lv (vsTo D 12).length ((vsTo D 12).map ik)) := ⟨_, rfl⟩
    have hCk : ∀ i, i ≠ 4 → ∀ t lv W, CX t lv W → CX (Manyd.upd t i) lv W := fun i hi t lv W h => by
      rw [hCX] at h ⊢
      exact ⟨h.1, fun e => h.2 (by simpa [Manyd.upd, hi] using e)⟩
    have hCb : ∀ t lv W, CX t lv W → GraphAt W b n adj ∧ SetAt W w5.heap.size F ∧ Below w.heap.size w W := fun t lv W h => by rw [hCX] at h; exact hCg W h.1
    have hCc : ∀ t lv W W', CX t lv W → Below W.heap.size W W' → CX t lv W' := fun t lv W W' h hb => by
      rw [hCX] at h ⊢
      exact ⟨hCa W W' h.1 hb, fun e => row_after (h.2 e) hb⟩
    have hCl : ∀ t lv lv2 W W', CX t lv W → W'.ownsRow W.heap.size 3 1 lv2 (vsTo D 12).length ((vsTo D 12).map ik) → Below W.heap.size W W' → CX (Manyd.upd t 4) lv2 W' := fun t lv lv2 W W' h hr hb => by
      rw [hCX] at h ⊢
      exact ⟨hCa W W' h.1 hb, fun _ => row_base hr (hCg W h.1).2.2.size⟩
    have hC0 : ∀ t : Nat → Bool, (∀ j, j < 7 → t j = false) → CX t (.slice none 0 0) W4.drew := fun t ht => by
      rw [hCX]
      exact ⟨hCa _ _ hS4k.out ((Below.refl _ _).drew), fun e => by rw [ht 4 (by decide)] at e; cases e⟩
    have hCf : ∀ t lv W, CX t lv W → t 4 = true → Keep (BX W ∧ W.ownsRow w.heap.size 3 1 lv (vsTo D 12).length ((vsTo D 12).map ik)) := fun t lv W h e => by rw [hCX] at h; exact ⟨h.1, h.2 e⟩
    clear hCX hS4k
    refine (wpIn_wide (n := 0)).1 ?_
    refine Inv.region_inv (fun t a W => ∃ lv, a = { tmps := #[.pointer (some ⟨b, 0, none⟩), .agg #[.bool (s 0), .bool (s 1), .bool (s 2), .bool (s 3), .bool (s 4), .bool (s 5), .bool (s 6), .bool (s 7), .bool (s 8), .bool (s 9), .bool (s 10), .bool (s 11)], .func (.func f) bd cp, undef, .pointer (some ⟨w.heap.size, 0, none⟩), undef, if t 5 = true then lv else .slice none 0 0, if t 6 = true then .int .i64 0 else .int .i64 0, .pointer (some ⟨w5.heap.size, 0, none⟩), .int .i64 K, .tuple #[.agg #[.bool (F 0), .bool (F 1), .bool (F 2), .bool (F 3), .bool (F 4), .bool (F 5), .bool (F 6), .bool (F 7), .bool (F 8), .bool (F 9), .bool (F 10), .bool (F 11)], .int .i64 K], .agg #[.bool (s 0), .bool (s 1), .bool (s 2), .bool (s 3), .bool (s 4), .bool (s 5), .bool (s 6), .bool (s 7), .bool (s 8), .bool (s 9), .bool (s 10), .bool (s 11)], .func (.func f) bd cp, .tuple #[.agg #[.bool (F 0), .bool (F 1), .bool (F 2), .bool (F 3), .bool (F 4), .bool (F 5), .bool (F 6), .bool (F 7), .bool (F 8), .bool (F 9), .bool (F 10), .bool (F 11)], .int .i64 K], .agg #[.bool (F 0), .bool (F 1), .bool (F 2), .bool (F 3), .bool (F 4), .bool (F 5), .bool (F 6), .bool (F 7), .bool (F 8), .bool (F 9), .bool (F 10), .bool (F 11)], .int .i64 K, .agg #[.bool (F 0), .bool (F 1), .bool (F 2), .bool (F 3), .bool (F 4), .bool (F 5), .bool (F 6), .bool (F 7), .bool (F 8), .bool (F 9), .bool (F 10), .bool (F 11)], .pointer (some ⟨b, 0, none⟩), .agg #[.bool (A 0), .bool (A 1), .bool (A 2), .bool (A 3), .bool (A 4), .bool (A 5), .bool (A 6), .bool (A 7), .bool (A 8), .bool (A 9), .bool (A 10), .bool (A 11)], .bool false, if t 0 = true then .pointer (some ⟨b, 0, none⟩) else undef, if t 1 = true then .agg #[.bool (A 0), .bool (A 1), .bool (A 2), .bool (A 3), .bool (A 4), .bool (A 5), .bool (A 6), .bool (A 7), .bool (A 8), .bool (A 9), .bool (A 10), .bool (A 11)] else undef, if t 2 = true then .agg #[.bool (F 0), .bool (F 1), .bool (F 2), .bool (F 3), .bool (F 4), .bool (F 5), .bool (F 6), .bool (F 7), .bool (F 8), .bool (F 9), .bool (F 10), .bool (F 11)] else undef, if t 3 = true then .agg #[.bool (D 0), .bool (D 1), .bool (D 2), .bool (D 3), .bool (D 4), .bool (D 5), .bool (D 6), .bool (D 7), .bool (D 8), .bool (D 9), .bool (D 10), .bool (D 11)] else undef, if t 4 = true then lv else undef], defers := [] } ∧ CX t lv W) hmx (by kernel_rfl) ?_ ?_ ?_
    · intro t hs
      refine ⟨.slice none 0 0, ?_, hC0 t (fun j hj => hs j hj)⟩
      simp only [hs 0 (by decide), hs 1 (by decide), hs 2 (by decide), hs 3 (by decide), hs 4 (by decide), hs 5 (by decide), hs 6 (by decide), Bool.false_eq_true, if_false]
    · refine ⟨?_, ?_, ?_, ?_, ?_, ?_, ?_, trivial⟩
      · rintro t a W hun hdep hbeh ⟨lv, rfl, hT⟩
        (try simp only [Nat.reduceAdd] at hun)
        refine .inl ⟨by rfl, Inv.comesV_val (.pointer (some ⟨b, 0, none⟩)) W (by (clear hT; go_simp; (try rfl); try (intro hneg; omega))) ⟨lv, by (simp only [Act.put, List.setIfInBounds_toArray, List.set_cons_succ, List.set_cons_zero, Manyd.upd, Nat.reduceAdd, Nat.reduceBEq, Bool.or_false, Bool.or_true, if_true]), hCk 0 (by decide) t lv W hT⟩⟩
      · rintro t a W hun hdep hbeh ⟨lv, rfl, hT⟩
        (try simp only [Nat.reduceAdd] at hun)
        have h0 : t 0 = true := Inv.depB_mem 0 hdep (by rfl)
        refine .inl ⟨by rfl, Inv.comesV_call 84 #[.pointer (some ⟨b, 0, none⟩)] W (by (simp only [h0, if_true]; clear hT; go_simp; try rfl)) ((q84.out W (hCb t lv W hT).1).mono fun e w5 hw5 => ⟨.agg #[.bool (A 0), .bool (A 1), .bool (A 2), .bool (A 3), .bool (A 4), .bool (A 5), .bool (A 6), .bool (A 7), .bool (A 8), .bool (A 9), .bool (A 10), .bool (A 11)], hw5.1, lv, ?_, ?_⟩)⟩
        · simp only [Act.put, List.setIfInBounds_toArray, List.set_cons_succ, List.set_cons_zero, Manyd.upd, Nat.reduceAdd, Nat.reduceBEq, Bool.or_false, Bool.or_true, if_true]
        · exact hCk 1 (by decide) t lv w5 (hCc t lv W w5 hT hw5.2)
      · rintro t a W hun hdep hbeh ⟨lv, rfl, hT⟩
        (try simp only [Nat.reduceAdd] at hun)
        obtain ⟨e0, e1, e2, e3, e4, e5, e6, e7, e8, e9, e10, e11⟩ := (hCb t lv W hT).2.1.c12
        refine .inl ⟨by rfl, Inv.comesV_val (.agg #[.bool (F 0), .bool (F 1), .bool (F 2), .bool (F 3), .bool (F 4), .bool (F 5), .bool (F 6), .bool (F 7), .bool (F 8), .bool (F 9), .bool (F 10), .bool (F 11)]) W (by (clear hT; go_simp; (try rfl); try (intro hneg; omega))) ⟨lv, by (simp only [Act.put, List.setIfInBounds_toArray, List.set_cons_succ, List.set_cons_zero, Manyd.upd, Nat.reduceAdd, Nat.reduceBEq, Bool.or_false, Bool.or_true, if_true]), hCk 2 (by decide) t lv W hT⟩⟩
      · rintro t a W hun hdep hbeh ⟨lv, rfl, hT⟩
        (try simp only [Nat.reduceAdd] at hun)
        have h1 : t 1 = true := Inv.depB_mem 1 hdep (by rfl)
        have h2 : t 2 = true := Inv.depB_mem 2 hdep (by rfl)
        refine .inl ⟨by rfl, Inv.comesV_call 85 #[.agg #[.bool (A 0), .bool (A 1), .bool (A 2), .bool (A 3), .bool (A 4), .bool (A 5), .bool (A 6), .bool (A 7), .bool (A 8), .bool (A 9), .bool (A 10), .bool (A 11)], .agg #[.bool (F 0), .bool (F 1), .bool (F 2), .bool (F 3), .bool (F 4), .bool (F 5), .bool (F 6), .bool (F 7), .bool (F 8), .bool (F 9), .bool (F 10), .bool (F 11)]] W (by (simp only [h1, h2, if_true]; clear hT; go_simp; try rfl)) ((q85.out W).mono fun e w5 hw5 => ⟨.agg #[.bool (D 0), .bool (D 1), .bool (D 2), .bool (D 3), .bool (D 4), .bool (D 5), .bool (D 6), .bool (D 7), .bool (D 8), .bool (D 9), .bool (D 10), .bool (D 11)], hw5.1, lv, ?_, ?_⟩)⟩
        · simp only [Act.put, List.setIfInBounds_toArray, List.set_cons_succ, List.set_cons_zero, Manyd.upd, Nat.reduceAdd, Nat.reduceBEq, Bool.or_false, Bool.or_true, if_true]
        · exact hCk 3 (by decide) t lv w5 (hCc t lv W w5 hT hw5.2)
      · rintro t a W hun hdep hbeh ⟨lv, rfl, hT⟩
        (try simp only [Nat.reduceAdd] at hun)
        have h3 : t 3 = true := Inv.depB_mem 3 hdep (by rfl)
        have hn5 : t 5 = false := hbeh 5 (by kernel_rfl)
        refine .inl ⟨by rfl, Inv.comesV_call 60 #[.agg #[.bool (D 0), .bool (D 1), .bool (D 2), .bool (D 3), .bool (D 4), .bool (D 5), .bool (D 6), .bool (D 7), .bool (D 8), .bool (D 9), .bool (D 10), .bool (D 11)]] W (by (simp only [h3, if_true]; clear hT; go_simp; try rfl)) ((q60.out W).mono fun e w5 hw5 => by
          obtain ⟨lv2, r1, r2, r3⟩ := hw5
          exact ⟨lv2, r1, lv2, by (simp only [hun, hn5, Bool.false_eq_true, if_false]; simp only [Act.put, List.setIfInBounds_toArray, List.set_cons_succ, List.set_cons_zero, Manyd.upd, Nat.reduceAdd, Nat.reduceBEq, Bool.or_false, Bool.or_true, if_true]; simp only [hn5, Bool.false_eq_true, if_false]), hCl t lv lv2 W w5 hT r2 r3⟩)⟩
      · rintro t a W hun hdep hbeh ⟨lv, rfl, hT⟩
        (try simp only [Nat.reduceAdd] at hun)
        have h4 : t 4 = true := Inv.depB_mem 4 hdep (by rfl)
        refine .inl ⟨by rfl, Inv.comesV_val (lv) W (by (simp only [h4, if_true]; clear hT; go_simp; (try rfl); try (intro hneg; omega))) ⟨lv, by (simp only [Act.put, List.setIfInBounds_toArray, List.set_cons_succ, List.set_cons_zero, Manyd.upd, Nat.reduceAdd, Nat.reduceBEq, Bool.or_false, Bool.or_true, if_true]), hCk 5 (by decide) t lv W hT⟩⟩
      · rintro t a W hun hdep hbeh ⟨lv, rfl, hT⟩
        (try simp only [Nat.reduceAdd] at hun)
        refine .inl ⟨by rfl, Inv.comesV_val (.int .i64 0) W (by (clear hT; go_simp; (try rfl); try (intro hneg; omega))) ⟨lv, by (simp only [Act.put, List.setIfInBounds_toArray, List.set_cons_succ, List.set_cons_zero, Manyd.upd, Nat.reduceAdd, Nat.reduceBEq, Bool.or_false, Bool.or_true, if_true]), hCk 6 (by decide) t lv W hT⟩⟩
    rintro t a W hs ⟨lv, rfl, hT⟩
    have hf := hCf t lv W hT (hs 4 (by decide))
    simp only [hs 0 (by decide), hs 1 (by decide), hs 2 (by decide), hs 3 (by decide), hs 4 (by decide), hs 5 (by decide), hs 6 (by decide), if_true]
    clear hT hs hCf hC0 hCl hCc hCb hCk
    go_wp2
    refine bodyPost_ret (v := .tuple #[lv, .int .i64 0]) (by simp [results, Try.results63, go_sem]) rfl ?_
    first
      | exact ⟨.inr ⟨rfl, lv, rfl, hf.out.2⟩, (hCg _ hf.out.1).2.2⟩
      | exact ⟨⟨lv, rfl, hf.out.2⟩, (hCg _ hf.out.1).2.2⟩
end Go.Proofs.Yteekigpdiklppaa
