import Derived.Test.YteekigpdiklppaaWDry
set_option linter.unusedSimpArgs false
set_option linter.unusedVariables false
namespace Go.Proofs.Yteekigpdiklppaa
open Go Go.Proofs Go.RowKit Go.Seq
attribute [local go_sem] Oper.semAt_some
set_option maxHeartbeats 2000000 in
set_option maxRecDepth 100000 in
theorem fort_yes {n K : Nat} {v v2 : Value} {ps : Pts} {zs : List Int} {w : World} (hv : PairsOf w v ps) (hok : GrOk n ps) (hl : ps.length ≤ 200) (hv2 : IntsO w v2 zs) (hzk : ListOk n zs) (hl2 : zs.length ≤ 100)
    (hK : Stops (fround (adjOf ps)) (setOf zs) K) :
    Calls Try.prog 21 #[.int .i64 n, v, v2] w fun e w' =>
      ((eqb (stg (fround (adjOf ps)) (setOf zs) K) (allS n) = true ∧ e = .returned (.tuple #[.slice none 0 0, .int .i64 6])) ∨ (eqb (stg (fround (adjOf ps)) (setOf zs) K) (allS n) = false ∧ ∃ lv, e = .returned (.tuple #[lv, .int .i64 0]) ∧ ListV w w' lv (fun j => allS n j && !stg (fround (adjOf ps)) (setOf zs) K j))) ∧ Below w.heap.size w w' := by
  have q57 := readSet_yes hv hok hl hv2 hzk hl2
  have hn : n ≤ 12 := by have := hok.n12; omega
  have q63 := Keep.mk (fun (g : Nat) (W : World) (hg : GraphAt W g n (adjOf ps)) => dry_any (w := W) hg hn (rnd_force g n (adjOf ps)) hK (fun W' hb => hg.below hb hg.lt))
  obtain ⟨F, hF⟩ : ∃ F, stg (fround (adjOf ps)) (setOf zs) K = F := ⟨_, rfl⟩
  rw [hF] at q63 ⊢
  obtain ⟨S, hS⟩ : ∃ S, setOf zs = S := ⟨_, rfl⟩
  rw [hS] at q57 q63
  obtain ⟨z, hz⟩ : ∃ z, eqb F (allS n) = z := ⟨_, rfl⟩
  rw [hz] at q63 ⊢
  clear hF hS hv hv2 hz
  unfold setV sc at q57
  go_enter Try.func21, Try.ntmps21
  go_wp2_with (first
    | (go_at_call 57; (with_reducible refine q57.mono ?_); rintro e w5 ⟨g, rfl, hg5, hgl, hb5⟩
       obtain ⟨w6, hw6⟩ : ∃ w6, w5.alloc (.cells (sc S) 79) = w6 := ⟨_, rfl⟩
       have hb6 : Below w5.heap.size w5 w6 := by rw [← hw6]; exact (Below.refl _ _).alloc (Nat.le_refl _) _
       have hf6 : SetAt w6 w5.heap.size S := by rw [← hw6]; exact SetAt.new _ _
       have hg6 := (hg5.below hb6 hg5.lt).at
       obtain ⟨x0, x1, x2, x3, x4, x5, x6, x7, x8, x9, x10, x11⟩ := hf6.c12
       have hbb := Keep.mk (And.intro (hb5.trans (hb6.mono hb5.size)) (And.intro hg6 hf6))
       have hz5' := hb5.size
       have q6 := q63.out g w6 hg6
       unfold setV sc at q6
       clear hg5 hb5 hb6 hf6 hg6
       unfold sc at hw6)
    | (go_at_call 63; (with_reducible refine q6.mono ?_); rintro e w7 ⟨h7, hb7⟩
       obtain ⟨lv, er, rfl, hlv⟩ : ∃ lv er, e = .returned (.tuple #[lv, .int .i64 er]) ∧ Keep ((z = true ∧ er = 6 ∧ lv = .slice none 0 0) ∨ (z = false ∧ er = 0 ∧ ListV w6 w7 lv (fun j => allS n j && !F j))) := by
         (rcases h7 with ⟨e1, rfl⟩ | ⟨e1, lv, rfl, e2⟩)
         · exact ⟨_, _, rfl, ⟨.inl ⟨e1, rfl, rfl⟩⟩⟩
         · exact ⟨_, _, rfl, ⟨.inr ⟨e1, rfl, e2⟩⟩⟩
       have hb7k := Keep.mk hb7
       clear h7 hb7 q6))
  refine bodyPost_ret (v := .tuple #[lv, .int .i64 er]) (by simp [results, Try.results21, go_sem]) rfl ?_
  refine ⟨?_, hbb.out.1.trans (hb7k.out.mono hbb.out.1.size)⟩
  rcases hlv.out with ⟨e1, rfl, rfl⟩ | ⟨e1, rfl, e2⟩
  · exact .inl ⟨e1, rfl⟩
  · exact .inr ⟨e1, lv, rfl, row_base e2 hbb.out.1.size⟩
set_option maxHeartbeats 2000000 in
set_option maxRecDepth 100000 in
theorem isFort_yes {n : Nat} {v v2 : Value} {ps : Pts} {zs : List Int} {w : World} (hv : PairsOf w v ps) (hok : GrOk n ps) (hl : ps.length ≤ 200) (hv2 : IntsO w v2 zs) (hzk : ListOk n zs) (hl2 : zs.length ≤ 100) :
    Calls Try.prog 45 #[.int .i64 n, v, v2] w fun e w' => e = .returned (.tuple #[.bool (isF n (adjOf ps) (setOf zs)), .int .i64 0]) ∧ Below w.heap.size w w' := by
  have q57 := readSet_yes hv hok hl hv2 hzk hl2
  have hn : n ≤ 12 := by have := hok.n12; omega
  obtain ⟨S, hS⟩ : ∃ S, setOf zs = S := ⟨_, rfl⟩
  rw [hS] at q57 ⊢
  have q78 : Keep (∀ (g : Nat) (W : World), GraphAt W g n (adjOf ps) → Calls Try.prog 78 #[.pointer (some ⟨g, 0, none⟩), setV S] W fun e w' => e = .returned (.bool (isF n (adjOf ps) S)) ∧ Below W.heap.size W w') := ⟨fun g W hg => isFort_any S hg hn (Wt := dryS n S) (Fc := fround (adjOf ps) (dryS n S)) rfl rfl rfl rfl⟩
  obtain ⟨z, hz⟩ : ∃ z, isF n (adjOf ps) S = z := ⟨_, rfl⟩
  rw [hz] at q78 ⊢
  clear hS hv hv2 hz
  unfold setV sc at q57
  go_enter Try.func45, Try.ntmps45
  go_wp2_with (first
    | (go_at_call 57; (with_reducible refine q57.mono ?_); rintro e w5 ⟨g, rfl, hg5, hgl, hb5⟩
       obtain ⟨w6, hw6⟩ : ∃ w6, w5.alloc (.cells (sc S) 79) = w6 := ⟨_, rfl⟩
       have hb6 : Below w5.heap.size w5 w6 := by rw [← hw6]; exact (Below.refl _ _).alloc (Nat.le_refl _) _
       have hf6 : SetAt w6 w5.heap.size S := by rw [← hw6]; exact SetAt.new _ _
       have hg6 := (hg5.below hb6 hg5.lt).at
       obtain ⟨x0, x1, x2, x3, x4, x5, x6, x7, x8, x9, x10, x11⟩ := hf6.c12
       have hbb := Keep.mk (And.intro (hb5.trans (hb6.mono hb5.size)) (And.intro hg6 hf6))
       have hz5' := hb5.size
       have q6 := q78.out g w6 hg6
       unfold setV sc at q6
       clear hg5 hb5 hb6 hf6 hg6
       unfold sc at hw6)
    | (go_at_call 78; (with_reducible refine q6.mono ?_); rintro e w7 ⟨rfl, hb7⟩
       have hb7k := Keep.mk hb7
       clear hb7 q6))
  refine bodyPost_ret (v := .tuple #[.bool z, .int .i64 0]) (by simp [results, Try.results45, go_sem]) rfl ?_
  exact ⟨rfl, hbb.out.1.trans (hb7k.out.mono hbb.out.1.size)⟩
set_option maxHeartbeats 4000000 in
set_option maxRecDepth 100000 in
theorem soak_yes {n K : Nat} {r : Int} {v v2 : Value} {ps : Pts} {zs : List Int} {w : World} (hv : PairsOf w v ps) (hok : GrOk n ps) (hl : ps.length ≤ 200) (hv2 : IntsO w v2 zs) (hzk : ListOk n zs) (hl2 : zs.length ≤ 100) (hr1 : 1 ≤ r) (hr6 : r ≤ 6)
    (hK : Stops (sokd n (adjOf ps) r) (setOf zs) K) :
    Calls Try.prog 30 #[.int .i64 n, v, v2, .int .i64 r] w fun e w' => ∃ lv, e = .returned (.tuple #[lv, .int .i64 K, .int .i64 0]) ∧ ListV w w' lv (stg (sokd n (adjOf ps) r) (setOf zs) K) ∧ Below w.heap.size w w' := by
  have hmx : Try.prog.follows .mixedOrders = true := by kernel_rfl
  have q57 := readSet_yes hv hok hl hv2 hzk hl2
  have hn : n ≤ 12 := by have := hok.n12; omega
  have q66 := threshold_any r
  rw [decide_eq_true (And.intro hr1 hr6)] at q66
  have q67 := Keep.mk (fun g W => soak_any g r W)
  have q58 : Keep (∀ (g p : Nat) (W : World), GraphAt W g n (adjOf ps) → W.cell? ⟨p, 0, none⟩ = some (.pointer (some ⟨g, 0, none⟩)) → W.cell? ⟨p + 1, 0, none⟩ = some (.int .i64 r) →
      Calls Try.prog 58 #[setV (setOf zs), .func (.func 86) #[] #[.pointer (some ⟨p, 0, none⟩), .pointer (some ⟨p + 1, 0, none⟩)]] W fun e w' => e = .returned (.tuple #[setV (stg (sokd n (adjOf ps) r) (setOf zs) K), .int .i64 K]) ∧ Below W.heap.size W w') := ⟨fun g p W hg h1 h2 =>
    closure_any (w := W) (rnd_soak g n p (p + 1) (adjOf ps) r hn) hK (fun W' hb => ⟨hg.below hb hg.lt, (hb.cell (cell_lt h1)).trans h1, (hb.cell (cell_lt h2)).trans h2⟩)⟩
  obtain ⟨F, hF⟩ : ∃ F, stg (sokd n (adjOf ps) r) (setOf zs) K = F := ⟨_, rfl⟩
  rw [hF] at q58 ⊢
  obtain ⟨S, hS⟩ : ∃ S, setOf zs = S := ⟨_, rfl⟩
  rw [hS] at q57 q58
  have q60 := Keep.mk (fun W => list_any F W)
  clear hF hS hv hv2
  unfold setV sc at q57 q58 q60
  go_enter Try.func30, Try.ntmps30
  go_wp2_with (first
    | (go_at_call 57; (with_reducible refine q57.mono ?_); rintro e w5 ⟨g, rfl, hg5, hgl, hb5⟩
       obtain ⟨w6, hw6⟩ : ∃ w6, w5.alloc (.cells (sc S) 79) = w6 := ⟨_, rfl⟩
       have hb6 : Below w5.heap.size w5 w6 := by rw [← hw6]; exact (Below.refl _ _).alloc (Nat.le_refl _) _
       have hf6 : SetAt w6 w5.heap.size S := by rw [← hw6]; exact SetAt.new _ _
       have hg6 := (hg5.below hb6 hg5.lt).at
       obtain ⟨x0, x1, x2, x3, x4, x5, x6, x7, x8, x9, x10, x11⟩ := hf6.c12
       have hbb := Keep.mk (And.intro (hb5.trans (hb6.mono hb5.size)) (And.intro hg6 hf6))
       have hz5' := hb5.size
       skip
       clear hg5 hb5 hb6 hf6 hg6
       unfold sc at hw6)
    | (go_at_call 66; (with_reducible refine (q66 _).mono ?_); rintro e w7 ⟨rfl, he7⟩; rw [he7]; clear he7 w7))
  obtain ⟨CX, hCX⟩ : ∃ CX : (Nat → Bool) → Nat → Nat → World → Prop, CX = fun t p g14 W => GraphAt W g n (adjOf ps) ∧ SetAt W w5.heap.size S ∧ Below w.heap.size w W ∧ w5.heap.size < W.heap.size ∧ (t 3 = true → t 9 = false → W.cell? ⟨p, 0, none⟩ = some (.pointer (some ⟨g, 0, none⟩)) ∧ W.cell? ⟨p + 1, 0, none⟩ = some (.int .i64 r)) ∧ (t 8 = true → SetAt W g14 (if t 9 = true then F else fun _ => false) ∧ w.heap.size ≤ g14 ∧ g14 ≠ g ∧ g14 ≠ w5.heap.size) := ⟨_, rfl⟩
  have hz5 : w.heap.size ≤ w5.heap.size ∧ w5.heap.size < w6.heap.size := ⟨hz5', hbb.out.2.2.lt⟩
  have hCk : ∀ i, i ≠ 3 → i ≠ 8 → i ≠ 9 → ∀ t p g14 W, CX t p g14 W → CX (Manyd.upd t i) p g14 W := fun i h3 h8 h9 t p g14 W h => by
    rw [hCX] at h ⊢
    simp only at h ⊢
    rw [show Manyd.upd t i 3 = t 3 by simp [Manyd.upd, h3], show Manyd.upd t i 8 = t 8 by simp [Manyd.upd, h8], show Manyd.upd t i 9 = t 9 by simp [Manyd.upd, h9]]; exact h
  have hCb : ∀ t p g14 W, CX t p g14 W → GraphAt W g n (adjOf ps) ∧ SetAt W w5.heap.size S := fun t p g14 W h => by rw [hCX] at h; exact ⟨h.1, h.2.1⟩
  have hCp : ∀ t p g14 W, CX t p g14 W → t 3 = true → t 9 = false → W.cell? ⟨p, 0, none⟩ = some (.pointer (some ⟨g, 0, none⟩)) ∧ W.cell? ⟨p + 1, 0, none⟩ = some (.int .i64 r) := fun t p g14 W h => by rw [hCX] at h; exact h.2.2.2.2.1
  have hCc : ∀ t p g14 W W', CX t p g14 W → Below W.heap.size W W' → CX t p g14 W' := fun t p g14 W W' h hb => by
    rw [hCX] at h ⊢
    obtain ⟨h1, h2, h3, h4, h5, h6⟩ := h
    exact ⟨h1.below hb h1.lt, h2.after hb, h3.trans (hb.mono h3.size), Nat.lt_of_lt_of_le h4 hb.size, fun a c => ⟨(hb.cell (cell_lt (h5 a c).1)).trans (h5 a c).1, (hb.cell (cell_lt (h5 a c).2)).trans (h5 a c).2⟩, fun a => ⟨(h6 a).1.after hb, (h6 a).2⟩⟩
  have hC3 : ∀ t p g14 W W', CX t p g14 W → W' = (W.alloc (.cells #[.pointer (some ⟨g, 0, none⟩)] 77)).alloc (.cells #[.int .i64 r] 3) → CX (Manyd.upd t 3) W.heap.size g14 W' := fun t p g14 W W' h hW => by
    have b0 : Below W.heap.size W (W.alloc (.cells #[.pointer (some ⟨g, 0, none⟩)] 77)) := (Below.refl _ _).alloc (Nat.le_refl _) _
    have b1 : Below (W.heap.size + 1) (W.alloc (.cells #[.pointer (some ⟨g, 0, none⟩)] 77)) W' := by rw [hW]; exact (Below.refl _ _).alloc (by simp) _
    have c0 : W'.heap[W.heap.size]? = some (.cells #[.pointer (some ⟨g, 0, none⟩)] 77 (0, 0)) := (b1.block _ (by omega)).trans (World.alloc_heap_new W _)
    have c1 : W'.heap[W.heap.size + 1]? = some (.cells #[.int .i64 r] 3 (0, 0)) := by
      rw [hW, show W.heap.size + 1 = (W.alloc (.cells #[.pointer (some ⟨g, 0, none⟩)] 77)).heap.size by simp]; exact World.alloc_heap_new _ _
    have h' := hCc t p g14 W W' h (b0.trans (b1.mono (by omega)))
    rw [hCX] at h' ⊢
    simp only at h' ⊢
    rw [show Manyd.upd t 3 8 = t 8 by simp [Manyd.upd], show Manyd.upd t 3 9 = t 9 by simp [Manyd.upd]]
    obtain ⟨h1, h2, h3, h4, h5, h6⟩ := h'
    exact ⟨h1, h2, h3, h4, fun _ _ => ⟨by simp [World.cell?, c0], by simp [World.cell?, c1]⟩, h6⟩
  have hC8 : ∀ t p g14 W, CX t p g14 W → t 9 = false → CX (Manyd.upd t 8) p W.heap.size (W.alloc (.cells (sc (fun _ => false)) 79)) := fun t p g14 W h hn => by
    have h' := hCc t p g14 W _ h ((Below.refl W.heap.size W).alloc (Nat.le_refl _) (.cells (sc (fun _ => false)) 79))
    rw [hCX] at h h' ⊢
    simp only at h h' ⊢
    rw [show Manyd.upd t 8 3 = t 3 by simp [Manyd.upd], show Manyd.upd t 8 9 = t 9 by simp [Manyd.upd], hn]
    rw [hn] at h'
    obtain ⟨h1, h2, h3, h4, h5, h6⟩ := h'
    refine ⟨h1, h2, h3, h4, h5, fun _ => ⟨by simpa using SetAt.new W _, h.2.2.1.size, ?_, ?_⟩⟩
    · have := h.1.lt; omega
    · have := h.2.2.2.1; omega
  have hCz : ∀ t p g14 W, CX t p g14 W → t 8 = true → t 9 = false → SetAt W g14 (fun _ => false) := fun t p g14 W h h8 h9 => by
    rw [hCX] at h
    have := (h.2.2.2.2.2 h8).1
    rw [h9] at this
    simpa using this
  have hC9 : ∀ t p g14 W, CX t p g14 W → t 8 = true → CX (Manyd.upd t 9) p g14 (st12 W g14 F) := fun t p g14 W h h8 => by
    rw [hCX] at h ⊢
    simp only at h ⊢
    rw [show Manyd.upd t 9 3 = t 3 by simp [Manyd.upd], show Manyd.upd t 9 8 = t 8 by simp [Manyd.upd], show Manyd.upd t 9 9 = true by simp [Manyd.upd]]
    obtain ⟨h1, h2, h3, h4, h5, h6⟩ := h
    obtain ⟨k1, k2, k3, k4⟩ := h6 h8
    refine ⟨⟨(World.cell?_of_block (a := ⟨g, 0, none⟩) (st12_heap _ _ _ (by show g ≠ g14; omega))).trans h1.size, fun i j hi hj => (World.cell?_of_block (a := ⟨g, 1 + i * 12 + j, none⟩) (st12_heap _ _ _ (by show g ≠ g14; omega))).trans (h1.at_ i j hi hj)⟩, (st12_heap _ _ _ (by omega)).trans h2, st12_below h3 k2, by rw [st12_size]; exact h4, fun _ e => by simp at e, fun _ => ⟨by simpa using st12_set k1, k2, k3, k4⟩⟩
  have hC0 : ∀ t : Nat → Bool, (∀ j, j < 11 → t j = false) → CX t 0 0 w6.drew := fun t ht => by
    have hb := (Below.refl w6.heap.size w6).drew
    rw [hCX]
    exact ⟨hbb.out.2.1.below hb hbb.out.2.1.lt, hbb.out.2.2.after hb, hbb.out.1.trans (hb.mono hbb.out.1.size), hz5.2, fun e => (by rw [ht 3 (by decide)] at e; cases e), fun e => (by rw [ht 8 (by decide)] at e; cases e)⟩
  have hCf : ∀ t p g14 W, CX t p g14 W → t 8 = true → t 9 = true → Keep (SetAt W g14 F ∧ Below w.heap.size w W) := fun t p g14 W h h8 h9 => by
    rw [hCX] at h
    have := (h.2.2.2.2.2 h8).1
    rw [h9] at this
    exact ⟨by simpa using this, h.2.2.1⟩
  clear hCX hbb hz5 hw6
  refine (wpIn_wide (n := 0)).1 ?_
  refine Inv.region_inv (fun t a W => ∃ p, ∃ g14, a = { tmps := #[.int .i64 n, v, v2, .int .i64 r, undef, undef, undef, undef, .slice none 0 0, .int .i64 0, .int .i64 0, .pointer (some ⟨g, 0, none⟩), .pointer (some ⟨w5.heap.size, 0, none⟩), .bool true, if t 8 = true then .pointer (some ⟨g14, 0, none⟩) else undef, if t 10 = true then .int .i64 K else undef, .tuple #[.pointer (some ⟨g, 0, none⟩), .agg #[.bool (S 0), .bool (S 1), .bool (S 2), .bool (S 3), .bool (S 4), .bool (S 5), .bool (S 6), .bool (S 7), .bool (S 8), .bool (S 9), .bool (S 10), .bool (S 11)], .bool true], .int .i64 n, v, v2, .tuple #[.pointer (some ⟨g, 0, none⟩), .agg #[.bool (S 0), .bool (S 1), .bool (S 2), .bool (S 3), .bool (S 4), .bool (S 5), .bool (S 6), .bool (S 7), .bool (S 8), .bool (S 9), .bool (S 10), .bool (S 11)], .bool true], .pointer (some ⟨g, 0, none⟩), .agg #[.bool (S 0), .bool (S 1), .bool (S 2), .bool (S 3), .bool (S 4), .bool (S 5), .bool (S 6), .bool (S 7), .bool (S 8), .bool (S 9), .bool (S 10), .bool (S 11)], .bool true, .bool true, .bool false, .bool false, .int .i64 r, .bool true, .bool false, .bool false, if t 5 = true then .tuple #[.agg #[.bool (F 0), .bool (F 1), .bool (F 2), .bool (F 3), .bool (F 4), .bool (F 5), .bool (F 6), .bool (F 7), .bool (F 8), .bool (F 9), .bool (F 10), .bool (F 11)], .int .i64 K] else undef, if t 0 = true then .agg #[.bool (S 0), .bool (S 1), .bool (S 2), .bool (S 3), .bool (S 4), .bool (S 5), .bool (S 6), .bool (S 7), .bool (S 8), .bool (S 9), .bool (S 10), .bool (S 11)] else undef, if t 1 = true then .pointer (some ⟨g, 0, none⟩) else undef, if t 2 = true then .int .i64 r else undef, if t 3 = true then .func (.func 86) #[] #[.pointer (some ⟨p, 0, none⟩), .pointer (some ⟨p + 1, 0, none⟩)] else undef, if t 4 = true then .tuple #[.agg #[.bool (F 0), .bool (F 1), .bool (F 2), .bool (F 3), .bool (F 4), .bool (F 5), .bool (F 6), .bool (F 7), .bool (F 8), .bool (F 9), .bool (F 10), .bool (F 11)], .int .i64 K] else undef, if t 6 = true then .agg #[.bool (F 0), .bool (F 1), .bool (F 2), .bool (F 3), .bool (F 4), .bool (F 5), .bool (F 6), .bool (F 7), .bool (F 8), .bool (F 9), .bool (F 10), .bool (F 11)] else undef, if t 7 = true then .int .i64 K else undef, undef, undef, undef], defers := [] } ∧ CX t p g14 W) hmx (by kernel_rfl) ?_ ?_ ?_
  · intro t hs
    refine ⟨0, 0, ?_, hC0 t (fun j hj => hs j hj)⟩
    simp only [hs 0 (by decide), hs 1 (by decide), hs 2 (by decide), hs 3 (by decide), hs 4 (by decide), hs 5 (by decide), hs 6 (by decide), hs 7 (by decide), hs 8 (by decide), hs 9 (by decide), hs 10 (by decide), Bool.false_eq_true, if_false]
  · refine ⟨?_, ?_, ?_, ?_, ?_, ?_, ?_, ?_, ?_, ?_, ?_, trivial⟩
    · rintro t a W hun hdep hbeh ⟨p, g14, rfl, hT⟩
      (try simp only [Nat.reduceAdd] at hun)
      obtain ⟨e0, e1, e2, e3, e4, e5, e6, e7, e8, e9, e10, e11⟩ := (hCb t p g14 W hT).2.c12
      refine .inl ⟨by rfl, Inv.comesV_val (.agg #[.bool (S 0), .bool (S 1), .bool (S 2), .bool (S 3), .bool (S 4), .bool (S 5), .bool (S 6), .bool (S 7), .bool (S 8), .bool (S 9), .bool (S 10), .bool (S 11)]) W (by (clear hT; go_simp; (try rfl); try (intro hneg; omega))) ⟨p, g14, by (simp only [Act.put, List.setIfInBounds_toArray, List.set_cons_succ, List.set_cons_zero, Manyd.upd, Nat.reduceAdd, Nat.reduceBEq, Bool.or_false, Bool.or_true, if_true]), hCk 0 (by decide) (by decide) (by decide) t p g14 W hT⟩⟩
    · rintro t a W hun hdep hbeh ⟨p, g14, rfl, hT⟩
      (try simp only [Nat.reduceAdd] at hun)
      refine .inl ⟨by rfl, Inv.comesV_val (.pointer (some ⟨g, 0, none⟩)) W (by (clear hT; go_simp; (try rfl); try (intro hneg; omega))) ⟨p, g14, by (simp only [Act.put, List.setIfInBounds_toArray, List.set_cons_succ, List.set_cons_zero, Manyd.upd, Nat.reduceAdd, Nat.reduceBEq, Bool.or_false, Bool.or_true, if_true]), hCk 1 (by decide) (by decide) (by decide) t p g14 W hT⟩⟩
    · rintro t a W hun hdep hbeh ⟨p, g14, rfl, hT⟩
      (try simp only [Nat.reduceAdd] at hun)
      refine .inl ⟨by rfl, Inv.comesV_val (.int .i64 r) W (by (clear hT; go_simp; (try rfl); try (intro hneg; omega))) ⟨p, g14, by (simp only [Act.put, List.setIfInBounds_toArray, List.set_cons_succ, List.set_cons_zero, Manyd.upd, Nat.reduceAdd, Nat.reduceBEq, Bool.or_false, Bool.or_true, if_true]), hCk 2 (by decide) (by decide) (by decide) t p g14 W hT⟩⟩
    · rintro t a W hun hdep hbeh ⟨p, g14, rfl, hT⟩
      (try simp only [Nat.reduceAdd] at hun)
      have h1 : t 1 = true := Inv.depB_mem 1 hdep (by rfl)
      have h2 : t 2 = true := Inv.depB_mem 2 hdep (by rfl)
      refine .inl ⟨by rfl, Inv.comesV_call 67 #[.pointer (some ⟨g, 0, none⟩), .int .i64 r] W (by (simp only [h1, h2, if_true]; clear hT; go_simp; try rfl)) ((q67.out g W).mono fun e w5 hw5 => ⟨.func (.func 86) #[] #[.pointer (some ⟨W.heap.size, 0, none⟩), .pointer (some ⟨W.heap.size + 1, 0, none⟩)], hw5.1, W.heap.size, g14, ?_, ?_⟩)⟩
      · simp only [Act.put, List.setIfInBounds_toArray, List.set_cons_succ, List.set_cons_zero, Manyd.upd, Nat.reduceAdd, Nat.reduceBEq, Bool.or_false, Bool.or_true, if_true]
      · exact hC3 t p g14 W w5 hT hw5.2
    · rintro t a W hun hdep hbeh ⟨p, g14, rfl, hT⟩
      (try simp only [Nat.reduceAdd] at hun)
      have h0 : t 0 = true := Inv.depB_mem 0 hdep (by rfl)
      have h3 : t 3 = true := Inv.depB_mem 3 hdep (by rfl)
      have hn9 : t 9 = false := hbeh 9 (by kernel_rfl)
      refine .inl ⟨by rfl, Inv.comesV_call 58 #[.agg #[.bool (S 0), .bool (S 1), .bool (S 2), .bool (S 3), .bool (S 4), .bool (S 5), .bool (S 6), .bool (S 7), .bool (S 8), .bool (S 9), .bool (S 10), .bool (S 11)], .func (.func 86) #[] #[.pointer (some ⟨p, 0, none⟩), .pointer (some ⟨p + 1, 0, none⟩)]] W (by (simp only [h0, h3, if_true]; clear hT; go_simp; try rfl)) ((q58.out g p W (hCb t p g14 W hT).1 (hCp t p g14 W hT h3 hn9).1 (hCp t p g14 W hT h3 hn9).2).mono fun e w5 hw5 => ⟨.tuple #[.agg #[.bool (F 0), .bool (F 1), .bool (F 2), .bool (F 3), .bool (F 4), .bool (F 5), .bool (F 6), .bool (F 7), .bool (F 8), .bool (F 9), .bool (F 10), .bool (F 11)], .int .i64 K], hw5.1, p, g14, ?_, ?_⟩)⟩
      · simp only [Act.put, List.setIfInBounds_toArray, List.set_cons_succ, List.set_cons_zero, Manyd.upd, Nat.reduceAdd, Nat.reduceBEq, Bool.or_false, Bool.or_true, if_true]
      · exact hCk 4 (by decide) (by decide) (by decide) t p g14 w5 (hCc t p g14 W w5 hT hw5.2)
    · rintro t a W hun hdep hbeh ⟨p, g14, rfl, hT⟩
      (try simp only [Nat.reduceAdd] at hun)
      have h4 : t 4 = true := Inv.depB_mem 4 hdep (by rfl)
      refine .inl ⟨by rfl, Inv.comesV_val (.tuple #[.agg #[.bool (F 0), .bool (F 1), .bool (F 2), .bool (F 3), .bool (F 4), .bool (F 5), .bool (F 6), .bool (F 7), .bool (F 8), .bool (F 9), .bool (F 10), .bool (F 11)], .int .i64 K]) W (by (simp only [h4, if_true]; clear hT; go_simp; (try rfl); try (intro hneg; omega))) ⟨p, g14, by (simp only [Act.put, List.setIfInBounds_toArray, List.set_cons_succ, List.set_cons_zero, Manyd.upd, Nat.reduceAdd, Nat.reduceBEq, Bool.or_false, Bool.or_true, if_true]), hCk 5 (by decide) (by decide) (by decide) t p g14 W hT⟩⟩
    · rintro t a W hun hdep hbeh ⟨p, g14, rfl, hT⟩
      (try simp only [Nat.reduceAdd] at hun)
      have h5 : t 5 = true := Inv.depB_mem 5 hdep (by rfl)
      refine .inl ⟨by rfl, Inv.comesV_val (.agg #[.bool (F 0), .bool (F 1), .bool (F 2), .bool (F 3), .bool (F 4), .bool (F 5), .bool (F 6), .bool (F 7), .bool (F 8), .bool (F 9), .bool (F 10), .bool (F 11)]) W (by (simp only [h5, if_true]; clear hT; go_simp; (try rfl); try (intro hneg; omega))) ⟨p, g14, by (simp only [Act.put, List.setIfInBounds_toArray, List.set_cons_succ, List.set_cons_zero, Manyd.upd, Nat.reduceAdd, Nat.reduceBEq, Bool.or_false, Bool.or_true, if_true]), hCk 6 (by decide) (by decide) (by decide) t p g14 W hT⟩⟩
    · rintro t a W hun hdep hbeh ⟨p, g14, rfl, hT⟩
      (try simp only [Nat.reduceAdd] at hun)
      have h5 : t 5 = true := Inv.depB_mem 5 hdep (by rfl)
      refine .inl ⟨by rfl, Inv.comesV_val (.int .i64 K) W (by (simp only [h5, if_true]; clear hT; go_simp; (try rfl); try (intro hneg; omega))) ⟨p, g14, by (simp only [Act.put, List.setIfInBounds_toArray, List.set_cons_succ, List.set_cons_zero, Manyd.upd, Nat.reduceAdd, Nat.reduceBEq, Bool.or_false, Bool.or_true, if_true]), hCk 7 (by decide) (by decide) (by decide) t p g14 W hT⟩⟩
    · rintro t a W hun hdep hbeh ⟨p, g14, rfl, hT⟩
      (try simp only [Nat.reduceAdd] at hun)
      have hn9 : t 9 = false := hbeh 9 (by kernel_rfl)
      refine .inl ⟨by rfl, Inv.comesV_val (.pointer (some ⟨W.heap.size, 0, none⟩)) (W.alloc (.cells (sc (fun _ => false)) 79)) (by (clear hT; unfold sc; go_simp; try rfl)) ⟨p, W.heap.size, by (simp only [Act.put, List.setIfInBounds_toArray, List.set_cons_succ, List.set_cons_zero, Manyd.upd, Nat.reduceAdd, Nat.reduceBEq, Bool.or_false, Bool.or_true, if_true]), hC8 t p g14 W hT hn9⟩⟩
    · rintro t a W hun hdep hbeh ⟨p, g14, rfl, hT⟩
      (try simp only [Nat.reduceAdd] at hun)
      have h8 : t 8 = true := Inv.depB_mem 8 hdep (by rfl)
      have h6 : t 6 = true := Inv.depB_mem 6 hdep (by rfl)
      have h14 := hCz t p g14 W hT h8 hun
      obtain ⟨z0, z1, z2, z3, z4, z5, z6, z7, z8, z9, z10, z11⟩ := h14.c12
      obtain ⟨f0, f1, f2, f3, f4, f5, f6, f7, f8, f9, f10, f11⟩ := h14.f12
      refine .inl ⟨by rfl, Inv.comesV_skip (st12 W g14 F) (by (simp only [h8, h6, if_true]; clear hT; unfold st12; go_simp; try rfl)) ⟨p, g14, by (simp only [Act.put, List.setIfInBounds_toArray, List.set_cons_succ, List.set_cons_zero, Manyd.upd, Nat.reduceAdd, Nat.reduceBEq, Bool.or_false, Bool.or_true, if_true]), hC9 t p g14 W hT h8⟩⟩
    · rintro t a W hun hdep hbeh ⟨p, g14, rfl, hT⟩
      (try simp only [Nat.reduceAdd] at hun)
      have h7 : t 7 = true := Inv.depB_mem 7 hdep (by rfl)
      refine .inl ⟨by rfl, Inv.comesV_val (.int .i64 K) W (by (simp only [h7, if_true]; clear hT; go_simp; (try rfl); try (intro hneg; omega))) ⟨p, g14, by (simp only [Act.put, List.setIfInBounds_toArray, List.set_cons_succ, List.set_cons_zero, Manyd.upd, Nat.reduceAdd, Nat.reduceBEq, Bool.or_false, Bool.or_true, if_true]), hCk 10 (by decide) (by decide) (by decide) t p g14 W hT⟩⟩
  rintro t a W hs ⟨p, g14, rfl, hT⟩
  have hf := hCf t p g14 W hT (hs 8 (by decide)) (hs 9 (by decide))
  simp only [hs 0 (by decide), hs 1 (by decide), hs 2 (by decide), hs 3 (by decide), hs 4 (by decide), hs 5 (by decide), hs 6 (by decide), hs 7 (by decide), hs 8 (by decide), hs 9 (by decide), hs 10 (by decide), if_true]
  clear hT hs hCf hC0 hCc hCb hCk hC3 hC8 hCz hC9 hCp
  obtain ⟨y0, y1, y2, y3, y4, y5, y6, y7, y8, y9, y10, y11⟩ := hf.out.1.c12
  go_wp2_with (first
    | (go_at_call 60; (with_reducible refine (q60.out _).mono ?_); rintro e w9 ⟨lv, rfl, hrow, hb9⟩
       have hfin := Keep.mk (And.intro hrow hb9)
       clear hrow hb9))
  refine bodyPost_ret (v := .tuple #[lv, .int .i64 K, .int .i64 0]) (by simp [results, Try.results30, go_sem]) rfl ?_
  exact ⟨lv, rfl, row_base hfin.out.1 hf.out.2.size, hf.out.2.trans (hfin.out.2.mono hf.out.2.size)⟩
end Go.Proofs.Yteekigpdiklppaa
