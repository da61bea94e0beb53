import Derived.Test.YtbmfipjnfbnjgaaLawRemains
import Derived.Test.YtbmfipjnfbnjgaaCurve
import Derived.Test.YtbmfipjnfbnjgaaSeqE
set_option linter.unusedSimpArgs false
set_option linter.unusedVariables false
namespace Go.Proofs.Ytbmfipjnfbnjgaa
open Go Go.Proofs Go.RowKit Go.Sample Go.Seq
section
variable {P : Program} {ops : Array Oper} {C : (Nat → Bool) → World → Prop} {k : Nat} {Q : Act → Prop} {o : Oper} {rest : List Oper} {a : Act}
theorem lex_skip (hw : Region.wanted o (yielded ops a.tmps) = false) (hk : ∀ s w, C s w → C (Many.upd s k) w) (h : Many.lexT P ops C Q (k + 1) rest (a.put o.dst undef)) : Many.lexT P ops C Q k (o :: rest) a := ⟨undef, .inr ⟨hw, hk, rfl⟩, h⟩
end
theorem cur_at {N n c d : Nat} (hd : d ≤ N) : curF N n c (N + 1) (d * 2) = rN (acc n (N - n) d (c + 1)) (ch N d) ∧ curF N n c (N + 1) (d * 2 + 1) = rD (acc n (N - n) d (c + 1)) (ch N d) := by
  unfold curF
  constructor
  · rw [if_pos (by omega), if_pos (by omega), show d * 2 / 2 = d by omega]
  · rw [if_pos (by omega), if_neg (by omega), show (d * 2 + 1) / 2 = d by omega]
structure FlI (w : World) (g g10 N n c k : Nat) (W : World) : Prop where
  f : NumsAt W g (2 * (N + 1)) 27 (curF N n c (N + 1))
  o : Own2 W g10 (.int .i64 (rN (acc n (N - n) k (c + 1)) (ch N k) : Nat)) (.int .i64 (rD (acc n (N - n) k (c + 1)) (ch N k) : Nat))
  bw : Below w.heap.size w W
theorem FlI.after {w W W' : World} {g g10 N n c k : Nat} (h : FlI w g g10 N n c k W) (hb : Below W.heap.size W W') : FlI w g g10 N n c k W' := ⟨h.f.below hb h.f.lt, h.o.after hb, h.bw.trans (hb.mono h.bw.size)⟩
theorem FlI.drewN {w W : World} {g g10 N n c k : Nat} (h : FlI w g g10 N n c k W) (m : Nat) : FlI w g g10 N n c k (W.drewN m) := h.after (below_drewN (Below.refl _ _) m)
theorem FlI.at_ {w W : World} {g g10 N n c k d : Nat} (h : FlI w g g10 N n c k W) (hd : d ≤ N) : W.cell? ⟨g, d * 2, none⟩ = some (.int .i64 (rN (acc n (N - n) d (c + 1)) (ch N d) : Nat)) ∧ W.cell? ⟨g, d * 2 + 1, none⟩ = some (.int .i64 (rD (acc n (N - n) d (c + 1)) (ch N d) : Nat)) ∧ W.frozen? ⟨g, d * 2, none⟩ = false ∧ W.frozen? ⟨g, d * 2 + 1, none⟩ = false := by
  obtain ⟨e1, e2⟩ := cur_at (n := n) (c := c) hd
  obtain ⟨c1, c2⟩ := h.f.cell (j := d * 2) (by omega)
  obtain ⟨c3, c4⟩ := h.f.cell (j := d * 2 + 1) (by omega)
  rw [e1] at c1
  rw [e2] at c3
  exact ⟨c1, c3, c2, c4⟩
set_option maxHeartbeats 2000000 in
set_option maxRecDepth 100000 in
theorem falls_any (x y z bad : Int) (w : World) : Calls Try.prog 8 #[.agg #[.int .i64 x, .int .i64 y, .int .i64 z], .int .i64 bad] w fun e w' => e = .returned (.bool true) ∧ Below w.heap.size w w' := by
  have hmx : Try.prog.follows .mixedOrders = true := by kernel_rfl
  obtain ⟨N, n, c, ⟨h1, h36, hcn, hnN⟩, hmk⟩ := mkSingle x y z
  have hk := modN_lt bad (m := N + 1) (by omega)
  have q48 := fun w => mod_any bad (m := N + 1) (by omega) (by omega) w
  obtain ⟨k, hkk⟩ : ∃ k, Keep (modN bad (N + 1) = k) := ⟨_, ⟨rfl⟩⟩
  simp only [hkk.out, Int.natCast_add, Int.cast_ofNat_Int] at q48
  rw [hkk.out] at hk
  have hkN : k ≤ N := by omega
  have q40 := fun w => curve_any h1 h36 hcn hnN w
  have q18 := fun w => single_any h1 h36 hcn hnN hkN w
  have q18m := fun (h : c + 1 < n) w => single_any (c := c + 1) h1 h36 h hnN hkN w
  have e1 := fun w => eq27 (rN (acc n (N - n) k (c + 1)) (ch N k) : Nat) (rD (acc n (N - n) k (c + 1)) (ch N k) : Nat) (rN (acc n (N - n) k (c + 1)) (ch N k) : Nat) (rD (acc n (N - n) k (c + 1)) (ch N k) : Nat) w
  simp only [beq_self_eq_true, Bool.and_self] at e1
  have hall : Keep (∀ d b, acc n (N - n) d b ≤ ch N d) := ⟨fun d b => by have := acc_le n (N - n) d b; rwa [show n + (N - n) = N by omega] at this⟩
  have hch : Keep (∀ d, ch N d ≤ 9075135300) := ⟨ch_le h36⟩
  have hv : Keep (∀ d, d ≤ N → ∀ w, Calls Try.prog 49 #[redV (acc n (N - n) d (c + 1)) (ch N d)] w fun e w' => e = .returned (.bool true) ∧ Below w.heap.size w w') := ⟨fun d hd w => valid_any (by have := hall.out d (c + 1); have := hch.out d; omega) (by have := hch.out d; omega) (ch_pos hd) w⟩
  have hl : Keep (∀ e, e + 1 ≤ N → ∀ w, Calls Try.prog 46 #[redV (acc n (N - n) e (c + 1)) (ch N e), redV (acc n (N - n) (e + 1) (c + 1)) (ch N (e + 1))] w fun e w' => e = .returned (.bool false) ∧ Below w.heap.size w w') := ⟨fun e he w => by
    have i1 := hall.out e (c + 1)
    have i2 := hall.out (e + 1) (c + 1)
    have i3 := hch.out e
    have i4 := hch.out (e + 1)
    have i5 := acc_falls n (N - n) e (c + 1) (by omega)
    rw [show n + (N - n) = N by omega] at i5
    exact refLess_red (by omega) (by omega) (by omega) (by omega) (ch_pos (by omega)) (ch_pos he) i5 w⟩
  have vm := fun w => valid_any (a := acc n (N - n) k (c + 1 + 1)) (b := ch N k) (by have := hall.out k (c + 1 + 1); have := hch.out k; omega) (by have := hch.out k; omega) (ch_pos hkN) w
  have lm := fun w => refLess_red (a := acc n (N - n) k (c + 1 + 1)) (b := ch N k) (c := acc n (N - n) k (c + 1)) (d := ch N k) (by have := hall.out k (c + 1 + 1); have := hch.out k; omega) (by have := hch.out k; omega) (by have := hall.out k (c + 1); have := hch.out k; omega) (by have := hch.out k; omega) (ch_pos hkN) (ch_pos hkN) (Nat.mul_le_mul_right _ (acc_mono n (N - n) k (by omega))) w
  have wN : IntKind.i64.wrap ((N : Int) + 1) = (N : Int) + 1 := IntWalk.i64_in _ (by omega)
  have wc : IntKind.i64.wrap ((c : Int) + 1) = (c : Int) + 1 := IntWalk.i64_in _ (by omega)
  simp only [Int.natCast_add, Int.cast_ofNat_Int] at q18m
  unfold redV fracV at *
  clear hkk hall hch
  go_enter Try.func8, Try.ntmps8
  go_wp2_with (first
    | (go_at_call 47; (with_reducible refine (hmk _).mono ?_); rintro e w1 ⟨rfl, hb1⟩
       have hbw1 : Below w.heap.size w w1 := ((Below.refl _ w).alloc (Nat.le_refl _) _).trans (hb1.mono (by simp))
       clear hb1 hmk)
    | (go_at_call 48; (with_reducible refine (q48 _).mono ?_); rintro e w9 ⟨rfl, rfl⟩)
    | (go_at_call 40; (with_reducible refine (q40 _).mono ?_); rintro e w2 ⟨g, rfl, hb2, hg, hf2⟩
       have hbw2 := hbw1.trans (hb2.mono hbw1.size)
       clear hb2 q40 hg)
    | (go_at_call 18; (with_reducible refine (q18 _).mono ?_); rintro e w3 ⟨rfl, hb3⟩
       have hf3 := hf2.below hb3 hf2.lt
       have hbw3 := hbw2.trans (hb3.mono hbw2.size)
       obtain ⟨w4, hw4⟩ : ∃ w4, w3.alloc (.cells #[.int .i64 (rN (acc n (N - n) k (c + 1)) (ch N k) : Nat), .int .i64 (rD (acc n (N - n) k (c + 1)) (ch N k) : Nat)] 27) = w4 := ⟨_, rfl⟩
       have hb4 : Below w3.heap.size w3 w4 := by rw [← hw4]; exact (Below.refl _ _).alloc (Nat.le_refl _) _
       have hI : FlI w g w3.heap.size N n c k w4 := ⟨hf3.below hb4 hf3.lt, by rw [← hw4]; exact Own2.new _ _ _ _, hbw3.trans (hb4.mono hbw3.size)⟩
       clear hb3 hb4 hf2 hf3 q18))
  obtain ⟨f0, f1, f2, f3⟩ := hI.at_ hkN
  obtain ⟨⟨o0, o1, o2, o3⟩, hbw4⟩ : Own2 w4 w3.heap.size _ _ ∧ Below w.heap.size w w4 := ⟨hI.o, hI.bw⟩
  go_quiet (fail)
  have hI := hI.drewN nq
  generalize w4.drewN nq = w5 at *
  generalize w3.heap.size = g10 at *
  go_wp2
  go_loopw [12] (fun t wr => ∃ d : Nat, d ≤ N + 1 ∧ t = .int .i64 d ∧ FlI w g g10 N n c k wr) (fun t _ => N + 1 - (intOf t).toNat)
  case atStart => exact ⟨0, by omega, rfl, hI⟩
  case round =>
    obtain ⟨d, hd, rfl, hI⟩ := hrel
    by_cases hdN : d ≤ N
    · have hdN' : (d : Int) ≤ (N : Int) := by omega
      cases d with
      | zero =>
        have v1 := hv.out 0 hdN
        go_wp2
        refine (wpIn_wide (n := 0)).1 ?_
        refine Many.region_many (fun _ W => FlI w g g10 N n c k W) hmx (by kernel_rfl) (fun s s' W' h hc => hc) (fun s hs => hI.after ((Below.refl _ _).drew)) ?_
        refine Many.lex_want (by rfl) (Many.tr_read (v := .slice (some ⟨g, 0, none⟩) (N + 1) (N + 1)) (FlI w g g10 N n c k) (fun s W h => h) (fun s W h => h) (fun W h => by (obtain ⟨f0, f1, f2, f3⟩ := h.at_ hdN; go_simp; try rfl; try (intro hx; first | exact absurd (hx hpos0) hfa | exact absurd hx hfb)))) ?_
        simp only [Act.put, List.setIfInBounds_toArray, List.set_cons_succ, List.set_cons_zero, Nat.reduceAdd]
        refine Many.lex_want (by rfl) (Many.tr_read (v := .int .i64 ((0 : Nat) : Int)) (FlI w g g10 N n c k) (fun s W h => h) (fun s W h => h) (fun W h => by (obtain ⟨f0, f1, f2, f3⟩ := h.at_ hdN; go_simp; try rfl; try (intro hx; first | exact absurd (hx hpos0) hfa | exact absurd hx hfb)))) ?_
        simp only [Act.put, List.setIfInBounds_toArray, List.set_cons_succ, List.set_cons_zero, Nat.reduceAdd]
        refine Many.lex_want (by rfl) (Many.tr_read (v := .pointer (some ⟨g, 0 * 2, none⟩)) (FlI w g g10 N n c k) (fun s W h => h) (fun s W h => h) (fun W h => by (obtain ⟨f0, f1, f2, f3⟩ := h.at_ hdN; go_simp; try rfl; try (intro hx; first | exact absurd (hx hpos0) hfa | exact absurd hx hfb)))) ?_
        simp only [Act.put, List.setIfInBounds_toArray, List.set_cons_succ, List.set_cons_zero, Nat.reduceAdd]
        refine Many.lex_want (by rfl) (Many.tr_read (v := .agg #[.int .i64 (rN (acc n (N - n) 0 (c + 1)) (ch N 0) : Nat), .int .i64 (rD (acc n (N - n) 0 (c + 1)) (ch N 0) : Nat)]) (FlI w g g10 N n c k) (fun s W h => h) (fun s W h => h) (fun W h => by (obtain ⟨f0, f1, f2, f3⟩ := h.at_ hdN; go_simp; try rfl; try (intro hx; first | exact absurd (hx hpos0) hfa | exact absurd hx hfb)))) ?_
        simp only [Act.put, List.setIfInBounds_toArray, List.set_cons_succ, List.set_cons_zero, Nat.reduceAdd]
        refine Many.lex_want (by rfl) (Many.tr_call (v := .bool true) (f := 49) (args := #[.agg #[.int .i64 (rN (acc n (N - n) 0 (c + 1)) (ch N 0) : Nat), .int .i64 (rD (acc n (N - n) 0 (c + 1)) (ch N 0) : Nat)]]) (FlI w g g10 N n c k) (fun s W h => h) (fun s W h => (v1 W).mono fun e w' q => ⟨q.1, h.after q.2⟩) (fun W h => by (go_simp; try rfl))) ?_
        simp only [Act.put, List.setIfInBounds_toArray, List.set_cons_succ, List.set_cons_zero, Nat.reduceAdd]
        refine Many.lex_want (by rfl) (Many.tr_read (v := .bool false) (FlI w g g10 N n c k) (fun s W h => h) (fun s W h => h) (fun W h => by (obtain ⟨f0, f1, f2, f3⟩ := h.at_ hdN; go_simp; try rfl; try (intro hx; first | exact absurd (hx hpos0) hfa | exact absurd hx hfb)))) ?_
        simp only [Act.put, List.setIfInBounds_toArray, List.set_cons_succ, List.set_cons_zero, Nat.reduceAdd]
        refine Many.lex_want (by rfl) (Many.tr_read (v := .bool false) (FlI w g g10 N n c k) (fun s W h => h) (fun s W h => h) (fun W h => by (obtain ⟨f0, f1, f2, f3⟩ := h.at_ hdN; go_simp; try rfl; try (intro hx; first | exact absurd (hx hpos0) hfa | exact absurd hx hfb)))) ?_
        simp only [Act.put, List.setIfInBounds_toArray, List.set_cons_succ, List.set_cons_zero, Nat.reduceAdd]
        refine Many.lex_want (by rfl) (Many.tr_read (v := .int .i64 ((0 : Nat) : Int)) (FlI w g g10 N n c k) (fun s W h => h) (fun s W h => h) (fun W h => by (obtain ⟨f0, f1, f2, f3⟩ := h.at_ hdN; go_simp; try rfl; try (intro hx; first | exact absurd (hx hpos0) hfa | exact absurd hx hfb)))) ?_
        simp only [Act.put, List.setIfInBounds_toArray, List.set_cons_succ, List.set_cons_zero, Nat.reduceAdd]
        refine Many.lex_want (by rfl) (Many.tr_read (v := .bool false) (FlI w g g10 N n c k) (fun s W h => h) (fun s W h => h) (fun W h => by (obtain ⟨f0, f1, f2, f3⟩ := h.at_ hdN; go_simp; try rfl; try (intro hx; first | exact absurd (hx hpos0) hfa | exact absurd hx hfb)))) ?_
        simp only [Act.put, List.setIfInBounds_toArray, List.set_cons_succ, List.set_cons_zero, Nat.reduceAdd]
        refine Many.lex_want (by rfl) (Many.tr_read (v := .bool false) (FlI w g g10 N n c k) (fun s W h => h) (fun s W h => h) (fun W h => by (obtain ⟨f0, f1, f2, f3⟩ := h.at_ hdN; go_simp; try rfl; try (intro hx; first | exact absurd (hx hpos0) hfa | exact absurd hx hfb)))) ?_
        simp only [Act.put, List.setIfInBounds_toArray, List.set_cons_succ, List.set_cons_zero, Nat.reduceAdd]
        refine lex_skip (by rfl) (fun s W h => h) ?_
        simp only [Act.put, List.setIfInBounds_toArray, List.set_cons_succ, List.set_cons_zero, Nat.reduceAdd]
        refine lex_skip (by rfl) (fun s W h => h) ?_
        simp only [Act.put, List.setIfInBounds_toArray, List.set_cons_succ, List.set_cons_zero, Nat.reduceAdd]
        refine lex_skip (by rfl) (fun s W h => h) ?_
        simp only [Act.put, List.setIfInBounds_toArray, List.set_cons_succ, List.set_cons_zero, Nat.reduceAdd]
        refine lex_skip (by rfl) (fun s W h => h) ?_
        simp only [Act.put, List.setIfInBounds_toArray, List.set_cons_succ, List.set_cons_zero, Nat.reduceAdd]
        refine lex_skip (by rfl) (fun s W h => h) ?_
        simp only [Act.put, List.setIfInBounds_toArray, List.set_cons_succ, List.set_cons_zero, Nat.reduceAdd]
        refine lex_skip (by rfl) (fun s W h => h) ?_
        simp only [Act.put, List.setIfInBounds_toArray, List.set_cons_succ, List.set_cons_zero, Nat.reduceAdd]
        refine lex_skip (by rfl) (fun s W h => h) ?_
        simp only [Act.put, List.setIfInBounds_toArray, List.set_cons_succ, List.set_cons_zero, Nat.reduceAdd]
        refine lex_skip (by rfl) (fun s W h => h) ?_
        simp only [Act.put, List.setIfInBounds_toArray, List.set_cons_succ, List.set_cons_zero, Nat.reduceAdd]
        refine lex_skip (by rfl) (fun s W h => h) ?_
        simp only [Act.put, List.setIfInBounds_toArray, List.set_cons_succ, List.set_cons_zero, Nat.reduceAdd]
        refine lex_skip (by rfl) (fun s W h => h) ?_
        simp only [Act.put, List.setIfInBounds_toArray, List.set_cons_succ, List.set_cons_zero, Nat.reduceAdd]
        refine Many.lex_want (by rfl) (Many.tr_read (v := .bool false) (FlI w g g10 N n c k) (fun s W h => h) (fun s W h => h) (fun W h => by (obtain ⟨f0, f1, f2, f3⟩ := h.at_ hdN; go_simp; try rfl; try (intro hx; first | exact absurd (hx hpos0) hfa | exact absurd hx hfb)))) ?_
        simp only [Act.put, List.setIfInBounds_toArray, List.set_cons_succ, List.set_cons_zero, Nat.reduceAdd]
        refine Many.lex_want (by rfl) (Many.tr_read (v := .bool false) (FlI w g g10 N n c k) (fun s W h => h) (fun s W h => h) (fun W h => by (obtain ⟨f0, f1, f2, f3⟩ := h.at_ hdN; go_simp; try rfl; try (intro hx; first | exact absurd (hx hpos0) hfa | exact absurd hx hfb)))) ?_
        simp only [Act.put, List.setIfInBounds_toArray, List.set_cons_succ, List.set_cons_zero, Nat.reduceAdd]
        refine Many.lex_nil fun s W5 hs hI5 => ?_
        clear hs hI
        go_wp2
        exact ⟨⟨0 + 1, by omega, by go_num, hI5⟩, by simp [intOf]⟩
      | succ e =>
        have heN : e ≤ N := by omega
        have v1 := hv.out (e + 1) hdN
        have q46 := hl.out e hdN
        have we : IntKind.i64.wrap (((e + 1 : Nat) : Int) - 1) = (e : Int) := by rw [show ((e + 1 : Nat) : Int) - 1 = (e : Int) by omega, IntWalk.i64_in _ (by omega)]
        have we2 : IntKind.i64.wrap (e : Int) = (e : Int) := IntWalk.i64_in _ (by omega)
        have hpos0 : (0 : Int) ≤ (e : Int) + 1 := by omega
        have hfa : ¬ N ≤ e := by omega
        have hfb : ¬ (N : Int) + 1 ≤ (e : Int) := by omega
        have hpos : (0 : Int) < ((e + 1 : Nat) : Int) := by omega
        have he1 : e < N + 1 := by omega
        have he2 : e + 1 < N + 1 := by omega
        go_wp2
        refine (wpIn_wide (n := 0)).1 ?_
        refine Many.region_many (fun _ W => FlI w g g10 N n c k W) hmx (by kernel_rfl) (fun s s' W' h hc => hc) (fun s hs => hI.after ((Below.refl _ _).drew)) ?_
        refine Many.lex_want (by rfl) (Many.tr_read (v := .slice (some ⟨g, 0, none⟩) (N + 1) (N + 1)) (FlI w g g10 N n c k) (fun s W h => h) (fun s W h => h) (fun W h => by (obtain ⟨f0, f1, f2, f3⟩ := h.at_ hdN; go_simp; try rfl; try (intro hx; first | exact absurd (hx hpos0) hfa | exact absurd hx hfb)))) ?_
        simp only [Act.put, List.setIfInBounds_toArray, List.set_cons_succ, List.set_cons_zero, Nat.reduceAdd]
        refine Many.lex_want (by rfl) (Many.tr_read (v := .int .i64 (((e + 1 : Nat)) : Int)) (FlI w g g10 N n c k) (fun s W h => h) (fun s W h => h) (fun W h => by (obtain ⟨f0, f1, f2, f3⟩ := h.at_ hdN; go_simp; try rfl; try (intro hx; first | exact absurd (hx hpos0) hfa | exact absurd hx hfb)))) ?_
        simp only [Act.put, List.setIfInBounds_toArray, List.set_cons_succ, List.set_cons_zero, Nat.reduceAdd]
        refine Many.lex_want (by rfl) (Many.tr_read (v := .pointer (some ⟨g, (e + 1) * 2, none⟩)) (FlI w g g10 N n c k) (fun s W h => h) (fun s W h => h) (fun W h => by (obtain ⟨f0, f1, f2, f3⟩ := h.at_ hdN; go_simp; try rfl; try (intro hx; first | exact absurd (hx hpos0) hfa | exact absurd hx hfb)))) ?_
        simp only [Act.put, List.setIfInBounds_toArray, List.set_cons_succ, List.set_cons_zero, Nat.reduceAdd]
        refine Many.lex_want (by rfl) (Many.tr_read (v := .agg #[.int .i64 (rN (acc n (N - n) (e + 1) (c + 1)) (ch N (e + 1)) : Nat), .int .i64 (rD (acc n (N - n) (e + 1) (c + 1)) (ch N (e + 1)) : Nat)]) (FlI w g g10 N n c k) (fun s W h => h) (fun s W h => h) (fun W h => by (obtain ⟨f0, f1, f2, f3⟩ := h.at_ hdN; go_simp; try rfl; try (intro hx; first | exact absurd (hx hpos0) hfa | exact absurd hx hfb)))) ?_
        simp only [Act.put, List.setIfInBounds_toArray, List.set_cons_succ, List.set_cons_zero, Nat.reduceAdd]
        refine Many.lex_want (by rfl) (Many.tr_call (v := .bool true) (f := 49) (args := #[.agg #[.int .i64 (rN (acc n (N - n) (e + 1) (c + 1)) (ch N (e + 1)) : Nat), .int .i64 (rD (acc n (N - n) (e + 1) (c + 1)) (ch N (e + 1)) : Nat)]]) (FlI w g g10 N n c k) (fun s W h => h) (fun s W h => (v1 W).mono fun e w' q => ⟨q.1, h.after q.2⟩) (fun W h => by (go_simp; try rfl))) ?_
        simp only [Act.put, List.setIfInBounds_toArray, List.set_cons_succ, List.set_cons_zero, Nat.reduceAdd]
        refine Many.lex_want (by rfl) (Many.tr_read (v := .bool false) (FlI w g g10 N n c k) (fun s W h => h) (fun s W h => h) (fun W h => by (obtain ⟨f0, f1, f2, f3⟩ := h.at_ hdN; go_simp; try rfl; try (intro hx; first | exact absurd (hx hpos0) hfa | exact absurd hx hfb)))) ?_
        simp only [Act.put, List.setIfInBounds_toArray, List.set_cons_succ, List.set_cons_zero, Nat.reduceAdd]
        refine Many.lex_want (by rfl) (Many.tr_read (v := .bool false) (FlI w g g10 N n c k) (fun s W h => h) (fun s W h => h) (fun W h => by (obtain ⟨f0, f1, f2, f3⟩ := h.at_ hdN; go_simp; try rfl; try (intro hx; first | exact absurd (hx hpos0) hfa | exact absurd hx hfb)))) ?_
        simp only [Act.put, List.setIfInBounds_toArray, List.set_cons_succ, List.set_cons_zero, Nat.reduceAdd]
        refine Many.lex_want (by rfl) (Many.tr_read (v := .int .i64 (((e + 1 : Nat)) : Int)) (FlI w g g10 N n c k) (fun s W h => h) (fun s W h => h) (fun W h => by (obtain ⟨f0, f1, f2, f3⟩ := h.at_ hdN; go_simp; try rfl; try (intro hx; first | exact absurd (hx hpos0) hfa | exact absurd hx hfb)))) ?_
        simp only [Act.put, List.setIfInBounds_toArray, List.set_cons_succ, List.set_cons_zero, Nat.reduceAdd]
        refine Many.lex_want (by rfl) (Many.tr_read (v := .bool true) (FlI w g g10 N n c k) (fun s W h => h) (fun s W h => h) (fun W h => by (obtain ⟨f0, f1, f2, f3⟩ := h.at_ hdN; go_simp; try rfl; try (intro hx; first | exact absurd (hx hpos0) hfa | exact absurd hx hfb)))) ?_
        simp only [Act.put, List.setIfInBounds_toArray, List.set_cons_succ, List.set_cons_zero, Nat.reduceAdd]
        refine Many.lex_want (by rfl) (Many.tr_read (v := .bool true) (FlI w g g10 N n c k) (fun s W h => h) (fun s W h => h) (fun W h => by (obtain ⟨f0, f1, f2, f3⟩ := h.at_ hdN; go_simp; try rfl; try (intro hx; first | exact absurd (hx hpos0) hfa | exact absurd hx hfb)))) ?_
        simp only [Act.put, List.setIfInBounds_toArray, List.set_cons_succ, List.set_cons_zero, Nat.reduceAdd]
        refine Many.lex_want (by rfl) (Many.tr_read (v := .slice (some ⟨g, 0, none⟩) (N + 1) (N + 1)) (FlI w g g10 N n c k) (fun s W h => h) (fun s W h => h) (fun W h => by (obtain ⟨f0, f1, f2, f3⟩ := h.at_ hdN; go_simp; try rfl; try (intro hx; first | exact absurd (hx hpos0) hfa | exact absurd hx hfb)))) ?_
        simp only [Act.put, List.setIfInBounds_toArray, List.set_cons_succ, List.set_cons_zero, Nat.reduceAdd]
        refine Many.lex_want (by rfl) (Many.tr_read (v := .int .i64 (((e + 1 : Nat)) : Int)) (FlI w g g10 N n c k) (fun s W h => h) (fun s W h => h) (fun W h => by (obtain ⟨f0, f1, f2, f3⟩ := h.at_ hdN; go_simp; try rfl; try (intro hx; first | exact absurd (hx hpos0) hfa | exact absurd hx hfb)))) ?_
        simp only [Act.put, List.setIfInBounds_toArray, List.set_cons_succ, List.set_cons_zero, Nat.reduceAdd]
        refine Many.lex_want (by rfl) (Many.tr_read (v := .int .i64 (e : Int)) (FlI w g g10 N n c k) (fun s W h => h) (fun s W h => h) (fun W h => by (obtain ⟨f0, f1, f2, f3⟩ := h.at_ hdN; go_simp; try rfl; try (intro hx; first | exact absurd (hx hpos0) hfa | exact absurd hx hfb)))) ?_
        simp only [Act.put, List.setIfInBounds_toArray, List.set_cons_succ, List.set_cons_zero, Nat.reduceAdd]
        refine Many.lex_want (by rfl) (Many.tr_read (v := .pointer (some ⟨g, e * 2, none⟩)) (FlI w g g10 N n c k) (fun s W h => h) (fun s W h => h) (fun W h => by (obtain ⟨f0, f1, f2, f3⟩ := h.at_ hdN; go_simp; try rfl; try (intro hx; first | exact absurd (hx hpos0) hfa | exact absurd hx hfb)))) ?_
        simp only [Act.put, List.setIfInBounds_toArray, List.set_cons_succ, List.set_cons_zero, Nat.reduceAdd]
        refine Many.lex_want (by rfl) (Many.tr_read (v := .agg #[.int .i64 (rN (acc n (N - n) e (c + 1)) (ch N e) : Nat), .int .i64 (rD (acc n (N - n) e (c + 1)) (ch N e) : Nat)]) (FlI w g g10 N n c k) (fun s W h => h) (fun s W h => h) (fun W h => by (obtain ⟨f0, f1, f2, f3⟩ := h.at_ hdN; obtain ⟨x0, x1, x2, x3⟩ := h.at_ heN; go_simp; try rfl; try (intro hx; first | exact absurd (hx hpos0) hfa | exact absurd hx hfb)))) ?_
        simp only [Act.put, List.setIfInBounds_toArray, List.set_cons_succ, List.set_cons_zero, Nat.reduceAdd]
        refine Many.lex_want (by rfl) (Many.tr_read (v := .slice (some ⟨g, 0, none⟩) (N + 1) (N + 1)) (FlI w g g10 N n c k) (fun s W h => h) (fun s W h => h) (fun W h => by (obtain ⟨f0, f1, f2, f3⟩ := h.at_ hdN; go_simp; try rfl; try (intro hx; first | exact absurd (hx hpos0) hfa | exact absurd hx hfb)))) ?_
        simp only [Act.put, List.setIfInBounds_toArray, List.set_cons_succ, List.set_cons_zero, Nat.reduceAdd]
        refine Many.lex_want (by rfl) (Many.tr_read (v := .int .i64 (((e + 1 : Nat)) : Int)) (FlI w g g10 N n c k) (fun s W h => h) (fun s W h => h) (fun W h => by (obtain ⟨f0, f1, f2, f3⟩ := h.at_ hdN; go_simp; try rfl; try (intro hx; first | exact absurd (hx hpos0) hfa | exact absurd hx hfb)))) ?_
        simp only [Act.put, List.setIfInBounds_toArray, List.set_cons_succ, List.set_cons_zero, Nat.reduceAdd]
        refine Many.lex_want (by rfl) (Many.tr_read (v := .pointer (some ⟨g, (e + 1) * 2, none⟩)) (FlI w g g10 N n c k) (fun s W h => h) (fun s W h => h) (fun W h => by (obtain ⟨f0, f1, f2, f3⟩ := h.at_ hdN; go_simp; try rfl; try (intro hx; first | exact absurd (hx hpos0) hfa | exact absurd hx hfb)))) ?_
        simp only [Act.put, List.setIfInBounds_toArray, List.set_cons_succ, List.set_cons_zero, Nat.reduceAdd]
        refine Many.lex_want (by rfl) (Many.tr_read (v := .agg #[.int .i64 (rN (acc n (N - n) (e + 1) (c + 1)) (ch N (e + 1)) : Nat), .int .i64 (rD (acc n (N - n) (e + 1) (c + 1)) (ch N (e + 1)) : Nat)]) (FlI w g g10 N n c k) (fun s W h => h) (fun s W h => h) (fun W h => by (obtain ⟨f0, f1, f2, f3⟩ := h.at_ hdN; go_simp; try rfl; try (intro hx; first | exact absurd (hx hpos0) hfa | exact absurd hx hfb)))) ?_
        simp only [Act.put, List.setIfInBounds_toArray, List.set_cons_succ, List.set_cons_zero, Nat.reduceAdd]
        refine Many.lex_want (by rfl) (Many.tr_call (v := .bool false) (f := 46) (args := #[.agg #[.int .i64 (rN (acc n (N - n) e (c + 1)) (ch N e) : Nat), .int .i64 (rD (acc n (N - n) e (c + 1)) (ch N e) : Nat)], .agg #[.int .i64 (rN (acc n (N - n) (e + 1) (c + 1)) (ch N (e + 1)) : Nat), .int .i64 (rD (acc n (N - n) (e + 1) (c + 1)) (ch N (e + 1)) : Nat)]]) (FlI w g g10 N n c k) (fun s W h => h) (fun s W h => (q46 W).mono fun e w' q => ⟨q.1, h.after q.2⟩) (fun W h => by (go_simp; try rfl))) ?_
        simp only [Act.put, List.setIfInBounds_toArray, List.set_cons_succ, List.set_cons_zero, Nat.reduceAdd]
        refine Many.lex_want (by rfl) (Many.tr_read (v := .bool false) (FlI w g g10 N n c k) (fun s W h => h) (fun s W h => h) (fun W h => by (obtain ⟨f0, f1, f2, f3⟩ := h.at_ hdN; go_simp; try rfl; try (intro hx; first | exact absurd (hx hpos0) hfa | exact absurd hx hfb)))) ?_
        simp only [Act.put, List.setIfInBounds_toArray, List.set_cons_succ, List.set_cons_zero, Nat.reduceAdd]
        refine Many.lex_want (by rfl) (Many.tr_read (v := .bool false) (FlI w g g10 N n c k) (fun s W h => h) (fun s W h => h) (fun W h => by (obtain ⟨f0, f1, f2, f3⟩ := h.at_ hdN; go_simp; try rfl; try (intro hx; first | exact absurd (hx hpos0) hfa | exact absurd hx hfb)))) ?_
        simp only [Act.put, List.setIfInBounds_toArray, List.set_cons_succ, List.set_cons_zero, Nat.reduceAdd]
        refine Many.lex_nil fun s W5 hs hI5 => ?_
        clear hs hI
        go_wp2
        exact ⟨⟨e + 1 + 1, by omega, by go_num, hI5⟩, by simp [intOf]; omega⟩
    · obtain rfl : d = N + 1 := by omega
      have hdN' : ¬ ((N + 1 : Nat) : Int) ≤ (N : Int) := by omega
      obtain ⟨⟨o0, o1, o2, o3⟩, hbw4⟩ : Own2 wr g10 _ _ ∧ Below w.heap.size w wr := ⟨hI.o, hI.bw⟩
      by_cases hc1 : c + 1 < n
      · have hc1' : (c : Int) + 1 < (n : Int) := by omega
        have q18n := q18m hc1
        clear q18m
        go_wp2_with (first
          | (go_at_call 18; (with_reducible refine (q18n _).mono ?_); rintro e w6 ⟨rfl, hb6⟩
             have hR : RmR w g10 (rN (acc n (N - n) k (c + 1)) (ch N k)) (rD (acc n (N - n) k (c + 1)) (ch N k)) w6 := (RmR.mk hI.o hI.bw).after hb6
             obtain ⟨w7, hw7⟩ : ∃ w7, w6.alloc (.cells #[.int .i64 (rN (acc n (N - n) k (c + 1 + 1)) (ch N k) : Nat), .int .i64 (rD (acc n (N - n) k (c + 1 + 1)) (ch N k) : Nat)] 27) = w7 := ⟨_, rfl⟩
             have hU : RmR w w6.heap.size (rN (acc n (N - n) k (c + 1 + 1)) (ch N k)) (rD (acc n (N - n) k (c + 1 + 1)) (ch N k)) w7 := by rw [← hw7]; exact RmR.new hR.bw _ _
             have hR : RmR w g10 (rN (acc n (N - n) k (c + 1)) (ch N k)) (rD (acc n (N - n) k (c + 1)) (ch N k)) w7 := by rw [← hw7]; exact hR.after ((Below.refl _ _).alloc (Nat.le_refl _) _)
             obtain ⟨⟨o0, o1, o2, o3⟩, hbw7⟩ := id hR
             obtain ⟨⟨t0, t1, t2, t3⟩, _⟩ := id hU
             clear hb6 q18n)
          | (go_at_call 49; (with_reducible refine (vm _).mono ?_); rintro e w8 ⟨rfl, hb8⟩
             have hR := hR.after hb8
             have hU := hU.after hb8
             obtain ⟨⟨o0, o1, o2, o3⟩, hbw8⟩ := id hR
             obtain ⟨⟨t0, t1, t2, t3⟩, _⟩ := id hU
             clear hb8 vm)
          | (go_at_call 46; (with_reducible refine (lm _).mono ?_); rintro e w9 ⟨rfl, hb9⟩
             have hR := hR.after hb9
             clear hb9 lm)
          | (go_at_call 20; refine (awake_any _).mono ?_; rintro e wz ⟨rfl, hbz⟩
             have hR := hR.after hbz
             clear hbz))
        go_ret
        exact ⟨rfl, hR.bw⟩
      · have hc1' : ¬ (c : Int) + 1 < (n : Int) := by omega
        go_wp2_with (go_at_call 20; refine (awake_any _).mono ?_; rintro e wz ⟨rfl, hbz⟩
                     have hR := hI.after hbz
                     clear hbz)
        go_ret
        exact ⟨rfl, hR.bw⟩
end Go.Proofs.Ytbmfipjnfbnjgaa
