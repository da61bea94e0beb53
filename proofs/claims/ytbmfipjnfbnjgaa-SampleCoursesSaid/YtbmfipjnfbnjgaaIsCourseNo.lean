import Derived.Test.YtbmfipjnfbnjgaaIsCourse
import Derived.Test.YtbmfipjnfbnjgaaSeqJ
import Derived.Test.YtbmfipjnfbnjgaaFitsDec
set_option linter.unusedSimpArgs false
set_option linter.unusedVariables false
namespace Go.Proofs.Ytbmfipjnfbnjgaa
open Go Go.Proofs Go.RowKit Go.Seq Go.Sample
attribute [local go_sem] Oper.semAt_some
set_option maxRecDepth 100000 in
theorem bounds_givesS {b : Nat} {c : Crs} (hL : c.L ≤ 1000) (W1 : World) :
    Stp.GivesS Try.prog 72 #[.pointer (some ⟨b, 0, none⟩)] encB (bnds c) (fun W => CrsBox W b c) W1 := by
  intro l gs J hJ hR hY h0
  have hmx : Try.prog.follows .mixedOrders = true := by kernel_rfl
  obtain ⟨⟨k0, k1, _, _⟩, hin⟩ := hR _ _ h0
  unfold Crs.sa at k0
  unfold Crs.sr at k1
  refine callsIn_of_wp Try.func72 rfl trivial ?_ rfl
  simp only [Try.ntmps72, List.size_toArray, List.length_cons, List.length_nil, Nat.reduceAdd, Nat.reduceSub, Array.replicate_succ, Array.replicate_zero, List.push_toArray, List.append_toArray, List.nil_append, List.cons_append]
  gi_wp2
  gi_loopw [7] (fun i wr => ∃ k : Nat, k ≤ c.L ∧ i = .int .i64 k ∧ J (bndTo c k) wr ∧ Stp.going gs (bndTo c k) ∧ W1.heap.size ≤ wr.heap.size) (fun i _ => c.L - (intOf i).toNat)
  case atStart => exact ⟨0, by omega, rfl, by simpa [bndTo] using h0, by simpa [bndTo] using Stp.going_nil gs, by simp⟩
  case round =>
    obtain ⟨k, hk, rfl, hj, hgo, hsz⟩ := hrel
    obtain ⟨z, hz⟩ : ∃ z, gs (bndTo c k) (bndAt c k) = z := ⟨_, rfl⟩
    have hw1 : IntKind.i64.wrap ((k : Int) + 1) = (k : Int) + 1 := IntWalk.i64_in _ (by omega)
    by_cases hlt : k < c.L
    · have hlt' : (k : Int) < (c.L : Int) := by omega
      gi_wp2
      refine region_pivot 14 (fun b' w => J (if b' then bndTo c (k + 1) else bndTo c k) w ∧ W1.heap.size ≤ w.heap.size) hmx (by kernel_rfl) (by simp) ?_ ?_
      · exact ⟨hJ _ _ _ (by simpa using hj) ((Below.refl _ _).drew), hsz⟩
      have hCR : ∀ b' w, (J (if b' = true then bndTo c (k + 1) else bndTo c k) w ∧ W1.heap.size ≤ w.heap.size) → CrsBox w b c := fun b' w h => hR _ _ h.1
      have step : ∀ {i : Nat} {o : Oper} {a : Act} {v : Value}, (i == 14) = false → (∀ w, CrsBox w b c → (execOp a.eval o).run Try.prog w = .ok (.value v) w) → Tr Try.prog (fun b' w => J (if b' then bndTo c (k + 1) else bndTo c k) w ∧ W1.heap.size ≤ w.heap.size) 14 i o a v :=
        fun hi h => tr_read (fun W => CrsBox W b c) hi hCR h
      iterate 14
        (refine lex_want (by rfl) (step (by rfl) (fun w ⟨⟨k0, k1, _, _⟩, hin⟩ => (by
            have a1 := hin.las k hlt
            have r1 := hin.lrs k hlt
            unfold Crs.sa at k0
            unfold Crs.sr at k1
            go_simp
            try first | rfl | (rw [if_pos (by omega)])))) ?_
         simp only [Act.put, List.setIfInBounds_toArray, List.set_cons_succ, List.set_cons_zero, Nat.reduceAdd])
      refine lex_want (by rfl) (tr_yield (v := .bool z) (l := l) (args := encB (bndAt c k)) (by rfl) (fun w hC => ?_) (fun w => (by unfold encB bndAt; go_simp))) ?_
      · refine (hY (bndTo c k) (bndAt c k) w (by simpa using hC.1) hgo hC.2 (bndTo_rest c hlt)).mono fun e w' h => ⟨by rw [h.1, hz], by rw [if_pos rfl, bndTo_succ]; exact h.2.1, Nat.le_trans hC.2 h.2.2.1.1⟩
      simp only [Act.put, List.setIfInBounds_toArray, List.set_cons_succ, List.set_cons_zero, Nat.reduceAdd]
      refine lex_want (by rfl) (step (by rfl) (fun w _ => (by go_simp; try rfl))) ?_
      simp only [Act.put, List.setIfInBounds_toArray, List.set_cons_succ, List.set_cons_zero, Nat.reduceAdd]
      refine lex_nil fun w' ⟨hJ', hs'⟩ => ?_
      have hJ' : J (bndTo c (k + 1)) w' := by simpa using hJ'
      cases z with
      | true =>
        gi_wp2
        exact ⟨⟨k + 1, by omega, by go_num, hJ', by rw [bndTo_succ]; exact Stp.going_snoc.2 ⟨hgo, hz⟩, hs'⟩, by simp [intOf]; omega⟩
      | false =>
        obtain ⟨rest, hrest⟩ := bndTo_rest c hlt
        gi_wp2
        refine bodyPost_ret (results_none rfl _ _ _) rfl ?_
        exact ⟨⟨_, rfl⟩, ⟨_, hJ', .inr ⟨bndTo c k, bndAt c k, rest, hrest, bndTo_succ c k, hgo, hz⟩⟩, hs'⟩
    · have : k = c.L := by omega
      subst this
      gi_wp2
      go_end0
      exact ⟨⟨_, rfl⟩, ⟨_, hj, .inl ⟨rfl, hgo⟩⟩, hsz⟩
/-- A boundary that a course may have. -/
def GoodB (L : Nat) (x : Bnd) : Prop := -1 ≤ x.2.1 ∧ x.2.1 < x.2.2 ∧ x.2.2 ≤ (L : Int) + 1 ∧ (x.1 = L → x.2.2 = x.2.1 + 1)
instance (L : Nat) (x : Bnd) : Decidable (GoodB L x) := by unfold GoodB; infer_instance
def goodB (L : Nat) (x : Bnd) : Bool := decide (GoodB L x)
set_option maxHeartbeats 1000000 in
set_option maxRecDepth 100000 in
theorem isCourse_crs {b N : Nat} {c : Crs} {w : World} (hP : Pieces w b N) (hc : CrsIn w c) (l1 : 1 ≤ c.L) (l2 : c.L ≤ N) (hno : ¬ CrsOk c N) :
    Calls Try.prog 63 #[.pointer (some ⟨b, 0, none⟩), c.val] w fun e w' => e = .returned (.bool false) ∧ Below w.heap.size w w' := by
  have h36 := hP.h36
  have hmx : Try.prog.follows .mixedOrders = true := by kernel_rfl
  have hlb := hP.lt
  have hga : c.ga < w.heap.size := cell_lt (hc.las 0 (by omega))
  have hgr : c.gr < w.heap.size := cell_lt (hc.lrs 0 (by omega))
  obtain ⟨w0, hw0⟩ : ∃ w0, (((w.alloc (.cells #[c.sa, c.sr] 42)).alloc (.cells #[.bool false] 4)).alloc (.cells #[.int .i64 c.L] 3)) = w0 := ⟨_, rfl⟩
  have hs0 : w0.heap.size = w.heap.size + 3 := by rw [← hw0]; simp
  have hb0 : Below w.heap.size w w0 := by rw [← hw0]; exact (((Below.refl _ w).alloc (Nat.le_refl _) _).alloc (by simp) _).alloc (by simp; omega) _
  have hB0 : CrsBox w0 w.heap.size c := by
    rw [← hw0]; exact ((CrsBox.new hc 42).after ((Below.refl _ _).alloc (Nat.le_refl _) _)).after ((Below.refl _ _).alloc (Nat.le_refl _) _)
  have hl0 : w0.cell? ⟨w.heap.size + 1 + 1, 0, none⟩ = some (.int .i64 c.L) := by
    have h := World.alloc_heap_new ((w.alloc (.cells #[c.sa, c.sr] 42)).alloc (.cells #[.bool false] 4)) (.cells #[.int .i64 c.L] 3)
    rw [hw0] at h
    have h2 : w0.heap[w.heap.size + 1 + 1]? = some (.cells #[.int .i64 c.L] 3 (0, 0)) := by simpa using h
    simp [World.cell?, h2]
  have ht0 : w0.heap[w.heap.size + 1]? = some (.cells #[.bool false] 4 (0, 0)) := by
    rw [← hw0, Below.heap_alloc _ _ _ (by simp)]
    have h := World.alloc_heap_new (w.alloc (.cells #[c.sa, c.sr] 42)) (.cells #[.bool false] 4)
    simpa using h
  unfold Crs.sa Crs.sr at hw0
  unfold Crs.val Crs.sa Crs.sr
  refine (callsIn_wide (n := 0)).1 ?_
  refine callsIn_of_wp_marks Try.func63 rfl trivial ?_ rfl
  simp only [Try.ntmps63, List.size_toArray, List.length_cons, List.length_nil, Nat.reduceAdd, Nat.reduceSub, Array.replicate_succ, Array.replicate_zero, List.push_toArray, List.append_toArray, List.nil_append, List.cons_append]
  gi_wp2
  try rw [hw0]
  clear hw0
  have hP0 : Pieces w0 b N := hP.below hb0 hlb
  have hn0 := hP0.tab.size
  obtain ⟨⟨d0, d1, _, _⟩, _⟩ := hB0
  unfold Crs.sa at d0
  unfold Crs.sr at d1
  have f1 : ¬ (c.L : Int) < 1 := by omega
  have f2 : ¬ (N : Int) < (c.L : Int) := by omega
  gi_quiet (fail)
  obtain ⟨w1, hw1⟩ : ∃ w1, w0.drewN nq = w1 := ⟨_, rfl⟩
  have hb01 : Below w0.heap.size w0 w1 := by rw [← hw1]; exact below_drewN (Below.refl _ _) nq
  have hcw1 : CrsIn w1 c := (hc.after (hb0)).after hb01
  have hbs := bounds_any hcw1
  unfold Crs.val Crs.sa Crs.sr at hbs
  have hl1 := cell_below hl0 hb01
  have ht1 := (hb01.block (w.heap.size + 1) (by omega)).trans ht0
  have hs1 : w1.heap.size = w.heap.size + 3 := by rw [← hw1]; exact hs0
  have hbw1 : Below w.heap.size w w1 := hb0.trans (hb01.mono (by omega))
  have d0 := cell_below d0 hb01
  have d1 := cell_below d1 hb01
  rw [hw1]
  gi_wp2_with (refine ⟨trivial, rfl, ?_⟩; gi_at_call 65; refine (callsIn_wide.2 hbs).mono ?_; rintro e w' ⟨rfl, rfl⟩)
  have hB2 : CrsBox (w1.alloc (.cells #[c.sa, c.sr] 42)) w1.heap.size c := CrsBox.new hcw1 42
  have hb12 : Below w1.heap.size w1 (w1.alloc (.cells #[c.sa, c.sr] 42)) := (Below.refl _ _).alloc (Nat.le_refl _) _
  have hl2 := cell_below hl1 hb12
  have ht2 := (hb12.block (w.heap.size + 1) (by omega)).trans ht1
  have hbw2 : Below w.heap.size w _ := hbw1.trans (hb12.mono (by omega))
  unfold Crs.sa Crs.sr at hB2 hl2 ht2 hbw2
  have hs2 : (w1.alloc (.cells #[.slice (some ⟨c.ga, c.oa, none⟩) c.L c.ca, .slice (some ⟨c.gr, c.ro, none⟩) c.L c.cr] 42)).heap.size = w.heap.size + 4 := by simp [hs1]
  rw [hs1] at hB2
  revert hB2 hl2 ht2 hbw2 hs2
  generalize w1.alloc (.cells #[.slice (some ⟨c.ga, c.oa, none⟩) c.L c.ca, .slice (some ⟨c.gr, c.ro, none⟩) c.L c.cr] 42) = w2
  intro hB2 hl2 ht2 hbw2 hs2
  clear hl1 ht1 hl0 ht0 hb12 hbs
  refine Stp.range_givesS (gf := 72) (lb := #[.pointer (some ⟨w.heap.size + 3, 0, none⟩)]) rfl (enters_of Try.func72 (by kernel_rfl) rfl) (encs := encB) (xs := bnds c)
    (R := fun W => CrsBox W (w.heap.size + 3) c) (fun x => rfl) (fun W1' _ _ => bounds_givesS (by omega) W1')
    (fun _ x => goodB c.L x) .ret .ret (.inl ⟨rfl, rfl⟩)
    (fun pre W => CrsBox W (w.heap.size + 3) c ∧ W.heap[w.heap.size + 1]? = some (.cells #[.bool false] 4 (0, 0)) ∧ W.cell? ⟨w.heap.size + 1 + 1, 0, none⟩ = some (.int .i64 c.L) ∧ Below w.heap.size w W)
    (fun pre W => CrsBox W (w.heap.size + 3) c ∧ W.cell? ⟨w.heap.size + 1, 0, none⟩ = some (.bool false) ∧ Below w.heap.size w W ∧ w.heap.size + 4 ≤ W.heap.size)
    ?_ ?olds (fun pre W h => h.1) (fun pre W h => h.1) ⟨hB2, ht2, hl2, hbw2⟩
    (fun x a' W => ∃ Bx, w2.heap.size + 2 ≤ Bx ∧ W.heap[Bx]? = some (.cells #[.int .i64 x.2.1, .int .i64 x.2.2] 121 (0, 0)) ∧ a' = { tmps := #[.pointer (some ⟨b, 0, none⟩), .agg #[Value.slice (some ⟨c.ga, c.oa, none⟩) c.L c.ca, Value.slice (some ⟨c.gr, c.ro, none⟩) c.L c.cr], undef, .pointer (some ⟨w.heap.size, 0, none⟩), .pointer (some ⟨w.heap.size + 1, 0, none⟩), .pointer (some ⟨w.heap.size + 1 + 1, 0, none⟩), .int .i64 (x.1 : Nat), .pointer (some ⟨Bx, 0, none⟩), .pointer (some ⟨w.heap.size, 0, none⟩), Value.slice (some ⟨c.ga, c.oa, none⟩) c.L c.ca, .int .i64 c.L, .int .i64 c.L, .bool false, .bool false, .int .i64 c.L, .pointer (some ⟨b, 0, none⟩), .pointer (some ⟨b, 0, none⟩), .pointer (some ⟨b, 0, none⟩), .int .i64 N, .bool false, .bool false, .bool false, .pointer (some ⟨w.heap.size, 1, none⟩), Value.slice (some ⟨c.gr, c.ro, none⟩) c.L c.cr, .int .i64 c.L, .int .i64 c.L, .bool false, .bool false, .agg #[Value.slice (some ⟨c.ga, c.oa, none⟩) c.L c.ca, Value.slice (some ⟨c.gr, c.ro, none⟩) c.L c.cr], .func (.func 72) #[] #[.pointer (some ⟨w.heap.size + 3, 0, none⟩)], .int .i64 (x.1 : Nat), .agg #[.int .i64 x.2.1, .int .i64 x.2.2], undef, undef, undef, undef, undef, undef, undef, undef, undef, undef, undef, undef, undef, undef, undef, undef, undef, undef, undef, undef, undef, undef, undef, undef, undef, undef, undef, undef], defers := [] })
    ?_ ?assign ?body ?done ?stop

  · rintro pre W W' ⟨k1, k2, k3, k4⟩ hb
    have z1 := cell_lt k1.own.c0
    refine ⟨⟨k1.own.below hb (by omega), k1.inn.below hb (by omega) (by omega)⟩, (hb.block _ (by omega)).trans k2, (hb.cell (p := ⟨w.heap.size + 1 + 1, 0, none⟩) (by show w.heap.size + 1 + 1 < _; omega)).trans k3, k4.trans (hb.mono (by omega))⟩
  case olds =>
    rintro pre W W' ⟨k1, k2, k3, k4⟩ hb
    have z1 := cell_lt k1.own.c0
    refine ⟨⟨k1.own.below hb (by omega), k1.inn.below hb (by omega) (by omega)⟩, (hb.cell (p := ⟨w.heap.size + 1, 0, none⟩) (by show w.heap.size + 1 < _; omega)).trans k2, k3.trans (hb.mono (by omega)), Nat.le_trans k4 hb.size⟩
  · rintro x a' W W' ⟨Bx, k1, k2, k3⟩ hf
    exact ⟨Bx, k1, (hf.2 Bx k1 (Array.getElem?_eq_some_iff.1 k2).1).trans k2, k3⟩
  case assign =>
    intro l2 pre x W K hi hsz2 hK
    simp only [encB]
    gi_wp2
    exact hK _ _ ((Below.refl _ W).alloc (Nat.le_refl _) _) ⟨W.heap.size, by omega, World.alloc_heap_new W _, rfl⟩
  case body =>
    rintro l2 pre x a' W ⟨k1, k2, k3, k4⟩ ⟨Bx, hBx, hbx, rfl⟩ hsz2 ⟨post, hpost⟩
    obtain ⟨k, hk, hkx⟩ : ∃ k, k < c.L ∧ x = bndAt c k := by
      have hm : x ∈ bnds c := by rw [hpost]; simp
      unfold bnds bndTo at hm
      rw [List.mem_map] at hm
      obtain ⟨k, hk, rfl⟩ := hm
      exact ⟨k, by simpa using hk, rfl⟩
    obtain ⟨a, ha⟩ : ∃ a, Keep (c.A k = a) := ⟨_, ⟨rfl⟩⟩
    obtain ⟨r, hr⟩ : ∃ r, Keep (c.R k = r) := ⟨_, ⟨rfl⟩⟩
    subst hkx
    simp only [bndAt] at hbx ⊢
    rw [ha.out, hr.out] at hbx ⊢
    have c0 : W.cell? ⟨Bx, 0, none⟩ = some (.int .i64 a) := by simp [World.cell?, hbx]
    have c1 : W.cell? ⟨Bx, 1, none⟩ = some (.int .i64 r) := by simp [World.cell?, hbx]
    have t0 : W.cell? ⟨w.heap.size + 1, 0, none⟩ = some (.bool false) := by simp [World.cell?, k2]
    have t1 : W.frozen? ⟨w.heap.size + 1, 0, none⟩ = false := by simp [World.frozen?, k2]
    have w1 : IntKind.i64.wrap ((c.L : Int) + 1) = (c.L : Int) + 1 := IntWalk.i64_in _ (by omega)
    have hfin : From w2.heap.size W (W.setCell ⟨w.heap.size + 1, 0, none⟩ (.bool false)) := (From.refl _ _).setCell (by show w.heap.size + 1 < _; omega) _
    rw [hs2] at hfin
    have hS : CrsBox (W.setCell ⟨w.heap.size + 1, 0, none⟩ (.bool false)) (w.heap.size + 3) c ∧ (W.setCell ⟨w.heap.size + 1, 0, none⟩ (.bool false)).cell? ⟨w.heap.size + 1, 0, none⟩ = some (.bool false) ∧ Below w.heap.size w (W.setCell ⟨w.heap.size + 1, 0, none⟩ (.bool false)) ∧ w.heap.size + 4 ≤ (W.setCell ⟨w.heap.size + 1, 0, none⟩ (.bool false)).heap.size := by
      refine ⟨⟨k1.own.other (by omega), ?_⟩, by go_simp, k4.setCell (p := ⟨w.heap.size + 1, 0, none⟩) (by simp) _, by simp [World.setCell]; omega⟩
      have hb : Below w.heap.size W (W.setCell ⟨w.heap.size + 1, 0, none⟩ (.bool false)) := (Below.refl _ _).setCell (p := ⟨w.heap.size + 1, 0, none⟩) (by simp) _
      exact k1.inn.below hb hga hgr
    have hsz4 : w.heap.size + 4 ≤ W.heap.size := by omega
    by_cases v1 : a < -1
    · have hg : goodB c.L (k + 1, a, r) = false := decide_eq_false (fun h => by have := h.1; dsimp only at this; omega)
      gi_wp2
      first
        | exact ⟨hsz4, hfin, rfl, rfl⟩
        | exact ⟨hsz4, rfl, rfl⟩
        | exact ⟨hfin, rfl, rfl⟩
        | exact ⟨rfl, rfl⟩
    by_cases v2 : r ≤ a
    · have hg : goodB c.L (k + 1, a, r) = false := decide_eq_false (fun h => by have := h.2.1; dsimp only at this; omega)
      gi_wp2
      first
        | exact ⟨hsz4, hfin, rfl, rfl⟩
        | exact ⟨hsz4, rfl, rfl⟩
        | exact ⟨hfin, rfl, rfl⟩
        | exact ⟨rfl, rfl⟩
    by_cases v3 : (c.L : Int) + 1 < r
    · have hg : goodB c.L (k + 1, a, r) = false := decide_eq_false (fun h => by have := h.2.2.1; dsimp only at this; omega)
      gi_wp2
      first
        | exact ⟨hsz4, hfin, rfl, rfl⟩
        | exact ⟨hsz4, rfl, rfl⟩
        | exact ⟨hfin, rfl, rfl⟩
        | exact ⟨rfl, rfl⟩
    have w2' : IntKind.i64.wrap (a + 1) = a + 1 := IntWalk.i64_in _ (by omega)
    by_cases hkl : k + 1 = c.L
    · have e2 : (((k + 1 : Nat) : Int) == (c.L : Int)) = true := by rw [beq_iff_eq]; omega
      by_cases e1 : r = a + 1
      · have hg : goodB c.L (k + 1, a, r) = true := decide_eq_true ⟨by dsimp only; omega, by dsimp only; omega, by dsimp only; omega, fun _ => e1⟩
        have e3 : (r == a + 1) = true := by rw [beq_iff_eq]; omega
        clear e1
        gi_wp2
        exact ⟨by rw [← hg, hkl], From.refl _ _⟩
      · have hg : goodB c.L (k + 1, a, r) = false := decide_eq_false (fun h => e1 (h.2.2.2 hkl))
        have e3 : (r == a + 1) = false := by rw [beq_eq_false_iff_ne]; exact e1
        gi_wp2
        first
          | exact ⟨⟨by rw [← hg, hkl], hsz4⟩, hfin, rfl, rfl⟩
          | exact ⟨⟨by rw [← hg, hkl], hsz4⟩, rfl, rfl⟩
          | exact ⟨by rw [← hg, hkl], rfl, rfl⟩
    · have hg : goodB c.L (k + 1, a, r) = true := decide_eq_true ⟨by dsimp only; omega, by dsimp only; omega, by dsimp only; omega, fun h => absurd h hkl⟩
      have e2 : (((k + 1 : Nat) : Int) == (c.L : Int)) = false := by rw [beq_eq_false_iff_ne]; omega
      gi_wp2
      exact From.refl _ _
  case done =>
    intro W _ hgo _ _
    exfalso
    have hgd : ∀ k, k < c.L → GoodB c.L (bndAt c k) := fun k hk => by
      obtain ⟨rest, hr⟩ := bndTo_rest c hk
      exact of_decide_eq_true (hgo _ _ _ hr)
    refine hno ⟨l1, l2, fun k hk => ?_, ?_⟩
    · have := hgd k hk
      exact ⟨this.1, this.2.1, this.2.2.1⟩
    · have := hgd (c.L - 1) (by omega)
      exact this.2.2.2 (by show c.L - 1 + 1 = c.L; omega)
  case stop =>
    rintro W _ _ _ _ _ _ ⟨k1, k2, k3, k4⟩ hszW hD
    gi_wp2
    have hlaid : Laid [w2.heap.size] w2.heap.size W := ⟨by simp, by simp only [List.mem_singleton]; rintro D rfl; exact ⟨Nat.le_refl _, hD⟩⟩
    refine leaves_marks [w2.heap.size] W hlaid fun w' hb' => ⟨.bool false, ?_, rfl, k3.trans (hb'.mono (by omega))⟩
    have r1 := (hb'.cell (p := ⟨w.heap.size + 1, 0, none⟩) (by show w.heap.size + 1 < _; omega)).trans k2
    first
      | (rw [results_cell rfl]; go_simp)
      | (simp [results, Try.results63, go_sem]; go_simp)
end Go.Proofs.Ytbmfipjnfbnjgaa
