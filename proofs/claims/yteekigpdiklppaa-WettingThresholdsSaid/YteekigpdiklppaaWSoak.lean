import Derived.Test.YteekigpdiklppaaWAll
import Derived.Test.YteekigpdiklppaaWStages
set_option linter.unusedSimpArgs false
set_option linter.unusedVariables false
namespace Go.Proofs.Yteekigpdiklppaa
open Go Go.Proofs Go.RowKit Go.Seq
attribute [local go_sem] Oper.semAt_some
theorem lex_skip {P : Program} {ops : Array Oper} {C : (Nat → Bool) → World → Prop} {k : Nat} {Q : Act → Prop} {o : Oper} {rest : List Oper} {a : Act} (hw : Region.wanted o (yielded ops a.tmps) = false) (hk : ∀ s w, C s w → C (Many.upd s k) w) (h : Many.lexT P ops C Q (k + 1) rest (a.put o.dst undef)) : Many.lexT P ops C Q k (o :: rest) a := ⟨undef, .inr ⟨hw, hk, rfl⟩, h⟩
theorem cell_lt {W : World} {p : Addr} {v : Value} (h : W.cell? p = some v) : p.block < W.heap.size := by
  rcases Nat.lt_or_ge p.block W.heap.size with h' | h'
  · exact h'
  · simp [World.cell?, Array.getElem?_eq_none h'] at h
/-- How many of a place's neighbours are in a set. -/
def hit (adj : Nat → Nat → Bool) (wet : Nat → Bool) (v : Nat) : Int := ((vsTo (adj v) 12).length : Int) - ((vsTo (fun u => adj v u && !wet u) 12).length : Int)
def oneSo (adj : Nat → Nat → Bool) (r : Int) (wet : Nat → Bool) (v : Nat) : Bool := wet v || decide (r ≤ hit adj wet v)
def sokd (n : Nat) (adj : Nat → Nat → Bool) (r : Int) (wet : Nat → Bool) (j : Nat) : Bool := if j < n then oneSo adj r wet j else wet j
structure SoI (w : World) (b n : Nat) (adj : Nat → Nat → Bool) (wet : Nat → Bool) (r : Int) (bg br : Nat) (nx : Nat → Bool) (W : World) : Prop where
  g : GraphAt W b n adj
  cg : W.cell? ⟨bg, 0, none⟩ = some (.pointer (some ⟨b, 0, none⟩))
  cr : W.cell? ⟨br, 0, none⟩ = some (.int .i64 r)
  x : SetAt W w.heap.size wet
  z : SetAt W (w.heap.size + 1) (fun _ => false)
  n5 : SetAt W (w.heap.size + 1 + 1) nx
  bw : Below w.heap.size w W
theorem SoI.after {w W W' : World} {b n : Nat} {adj : Nat → Nat → Bool} {wet : Nat → Bool} {r : Int} {bg br : Nat} {nx : Nat → Bool} (h : SoI w b n adj wet r bg br nx W) (hb : Below W.heap.size W W') : SoI w b n adj wet r bg br nx W' :=
  ⟨h.g.below hb h.g.lt, (hb.cell (cell_lt h.cg)).trans h.cg, (hb.cell (cell_lt h.cr)).trans h.cr, h.x.after hb, h.z.after hb, h.n5.after hb, h.bw.trans (hb.mono h.bw.size)⟩
theorem SoI.set {w W : World} {b n : Nat} {adj : Nat → Nat → Bool} {wet : Nat → Bool} {r : Int} {bg br : Nat} {nx nx' : Nat → Bool} (h : SoI w b n adj wet r bg br nx W) (hb : b < w.heap.size) (hbg : bg < w.heap.size) (hbr : br < w.heap.size) {k : Nat} {v : Bool} (hk : k < 12) (hv : nx' k = v) (he : ∀ j, j < 12 → j ≠ k → nx' j = nx j) :
    SoI w b n adj wet r bg br nx' (W.setCell ⟨w.heap.size + 1 + 1, k, none⟩ (.bool v)) := by
  have ho : ∀ i, i ≠ w.heap.size + 1 + 1 → (W.setCell ⟨w.heap.size + 1 + 1, k, none⟩ (.bool v)).heap[i]? = W.heap[i]? := fun i hi => Below.heap_setCell W ⟨w.heap.size + 1 + 1, k, none⟩ (.bool v) i hi
  exact ⟨⟨(World.cell?_of_block (a := ⟨b, 0, none⟩) (ho b (by omega))).trans h.g.size, fun i j hi hj => (World.cell?_of_block (a := ⟨b, 1 + i * 12 + j, none⟩) (ho b (by omega))).trans (h.g.at_ i j hi hj)⟩, (World.cell?_of_block (a := ⟨bg, 0, none⟩) (ho bg (by omega))).trans h.cg, (World.cell?_of_block (a := ⟨br, 0, none⟩) (ho br (by omega))).trans h.cr,
    h.x.other (by omega), h.z.other (by omega), h.n5.set hk hv he, h.bw.setCell (p := ⟨w.heap.size + 1 + 1, k, none⟩) (by show w.heap.size ≤ w.heap.size + 1 + 1; omega) _⟩
set_option maxHeartbeats 4000000 in
set_option maxRecDepth 100000 in
theorem soak1_any {b n bg br : Nat} {adj : Nat → Nat → Bool} {r : Int} {w : World} (wet : Nat → Bool) (hg : GraphAt w b n adj) (hn : n ≤ 12) (hcg : w.cell? ⟨bg, 0, none⟩ = some (.pointer (some ⟨b, 0, none⟩))) (hcr : w.cell? ⟨br, 0, none⟩ = some (.int .i64 r)) :
    Calls Try.prog 86 #[setV wet, .pointer (some ⟨bg, 0, none⟩), .pointer (some ⟨br, 0, none⟩)] w fun e w' => e = .returned (setV (sokd n adj r wet)) ∧ Below w.heap.size w w' := by
  have hmx : Try.prog.follows .mixedOrders = true := by kernel_rfl
  have hgl := hg.lt
  have hgb := cell_lt hcg
  have hrb := cell_lt hcr
  simp only at hgb hrb
  obtain ⟨wa, hwa⟩ : ∃ wa, w.alloc (.cells (sc wet) 79) = wa := ⟨_, rfl⟩
  obtain ⟨wb, hwb⟩ : ∃ wb, wa.alloc (.cells (sc (fun _ => false)) 79) = wb := ⟨_, rfl⟩
  obtain ⟨wc, hwc⟩ : ∃ wc, wb.alloc (.cells (sc wet) 79) = wc := ⟨_, rfl⟩
  have sa : wa.heap.size = w.heap.size + 1 := by rw [← hwa]; simp
  have sb : wb.heap.size = w.heap.size + 1 + 1 := by rw [← hwb]; simp [sa]
  have ss : wc.heap.size = w.heap.size + 1 + 1 + 1 := by rw [← hwc]; simp [sb]
  have ba : Below w.heap.size w wa := by rw [← hwa]; exact (Below.refl _ _).alloc (Nat.le_refl _) _
  have bb : Below wa.heap.size wa wb := by rw [← hwb]; exact (Below.refl _ _).alloc (Nat.le_refl _) _
  have bc : Below wb.heap.size wb wc := by rw [← hwc]; exact (Below.refl _ _).alloc (Nat.le_refl _) _
  have fa : SetAt wa w.heap.size wet := by rw [← hwa]; exact SetAt.new _ _
  have fb : SetAt wb (w.heap.size + 1) (fun _ => false) := by rw [← sa, ← hwb]; exact SetAt.new _ _
  have fc : SetAt wc (w.heap.size + 1 + 1) wet := by rw [← sb, ← hwc]; exact SetAt.new _ _
  have bw : Below w.heap.size w wc := (ba.trans (bb.mono (by omega))).trans (bc.mono (by omega))
  have fab := fa.after bb
  have hI : Keep (SoI w b n adj wet r bg br wet wc) := ⟨hg.below bw hgl, (bw.cell hgb).trans hcg, (bw.cell hrb).trans hcr, fab.after bc, fb.after bc, fc, bw⟩
  have cg0 := hI.out.cg
  have cn0 := hI.out.g.size
  obtain ⟨x0, x1, x2, x3, x4, x5, x6, x7, x8, x9, x10, x11⟩ := fab.c12
  have hw : (w.alloc (.cells (sc wet) 79)).alloc (.cells (sc (fun _ => false)) 79) = wb := by rw [hwa, hwb]
  have q85 : Keep (∀ (v : Nat) (D : Nat → Bool), (fun u => adj v u && !wet u) = D → ∀ (W : World), Calls Try.prog 85 #[setV (adj v), setV wet] W fun e w' => e = .returned (setV D) ∧ Below W.heap.size W w') := ⟨fun v D hD W => hD ▸ minus_any (adj v) wet W⟩
  have q74 := Keep.mk (fun (s : Nat → Bool) (W : World) => size_any s W)
  clear hwa hwb sa ba bb bc fa fb fc bw fab hg hcg hcr
  unfold setV sc at *
  go_enter Try.func86, Try.ntmps86
  go_wp2
  clear hw hwc x0 x1 x2 x3 x4 x5 x6 x7 x8 x9 x10 x11 cg0 cn0
  go_loopw [14] (fun i wr => ∃ k : Nat, k ≤ n ∧ i = .int .i64 k ∧ Keep (SoI w b n adj wet r bg br (fun j => if j < k then oneSo adj r wet j else wet j) wr)) (fun i _ => n - (intOf i).toNat)
  case atStart => exact ⟨0, by omega, by simp, by simpa using hI⟩
  case round =>
    obtain ⟨k, hk, rfl, hI⟩ := hrel
    by_cases hlt : k < n
    · have hlt' : (k : Int) < (n : Int) := by omega
      have hk12 : (k : Int) < 12 := by omega
      have nk : ¬ (k : Int) < 0 := by omega
      have hw1 : IntKind.i64.wrap ((k : Int) + 1) = (k : Int) + 1 := IntWalk.i64_in _ (by omega)
      obtain ⟨D, hD⟩ : ∃ D : Nat → Bool, (fun u => adj k u && !wet u) = D := ⟨_, rfl⟩
      have q := q85.out k D hD
      have cg1 := hI.out.cg
      have a0 := hI.out.g.at_ k 0 (by omega) (by omega)
      have a1 := hI.out.g.at_ k 1 (by omega) (by omega)
      have a2 := hI.out.g.at_ k 2 (by omega) (by omega)
      have a3 := hI.out.g.at_ k 3 (by omega) (by omega)
      have a4 := hI.out.g.at_ k 4 (by omega) (by omega)
      have a5 := hI.out.g.at_ k 5 (by omega) (by omega)
      have a6 := hI.out.g.at_ k 6 (by omega) (by omega)
      have a7 := hI.out.g.at_ k 7 (by omega) (by omega)
      have a8 := hI.out.g.at_ k 8 (by omega) (by omega)
      have a9 := hI.out.g.at_ k 9 (by omega) (by omega)
      have a10 := hI.out.g.at_ k 10 (by omega) (by omega)
      have a11 := hI.out.g.at_ k 11 (by omega) (by omega)
      try simp only [Nat.add_zero] at a0
      obtain ⟨W7, hW7⟩ : ∃ W7, wr.alloc (.cells (sc (adj k)) 79) = W7 := ⟨_, rfl⟩
      have b7 : Below wr.heap.size wr W7 := by rw [← hW7]; exact (Below.refl _ _).alloc (Nat.le_refl _) _
      have s7 : W7.heap.size = wr.heap.size + 1 := by rw [← hW7]; simp
      have f7 : SetAt W7 wr.heap.size (adj k) := by rw [← hW7]; exact SetAt.new _ _
      have hI7 := Keep.mk (hI.out.after b7)
      obtain ⟨e0, e1, e2, e3, e4, e5, e6, e7, e8, e9, e10, e11⟩ := f7.c12
      obtain ⟨x0, x1, x2, x3, x4, x5, x6, x7, x8, x9, x10, x11⟩ := hI7.out.x.c12
      have f7k := Keep.mk (And.intro f7 s7)
      clear f7 s7 b7
      unfold sc at hW7
      go_wp2_with (first
        | (go_at_call 85; (with_reducible refine (q _).mono ?_); rintro e W8 ⟨rfl, hb8⟩
           obtain ⟨W9, hW9⟩ : ∃ W9, W8.alloc (.cells (sc D) 79) = W9 := ⟨_, rfl⟩
           have hb9 : Below W8.heap.size W8 W9 := by rw [← hW9]; exact (Below.refl _ _).alloc (Nat.le_refl _) _
           have hf9 : SetAt W9 W8.heap.size D := by rw [← hW9]; exact SetAt.new _ _
           have h79 := Keep.mk (hb8.trans (hb9.mono hb8.size))
           have hf9k := Keep.mk (And.intro hf9 hb8.size)
           clear hb8 hb9 hf9
           unfold sc at hW9))
      obtain ⟨nx, hnx⟩ : ∃ nx : Nat → Bool, (fun j => if j < k then oneSo adj r wet j else wet j) = nx := ⟨_, rfl⟩
      obtain ⟨nx', hnx'⟩ : ∃ nx' : Nat → Bool, (fun j => if j < k + 1 then oneSo adj r wet j else wet j) = nx' := ⟨_, rfl⟩
      have hxk : nx' k = oneSo adj r wet k := by rw [← hnx']; show (if k < k + 1 then _ else _) = _; rw [if_pos (by omega)]
      have hxo : ∀ j, j < 12 → j ≠ k → nx' j = nx j := fun j _ hj => by
        rw [← hnx', ← hnx]
        show (if j < k + 1 then _ else _) = (if j < k then _ else _)
        by_cases e : j < k
        · rw [if_pos (by omega), if_pos e]
        · rw [if_neg (by omega), if_neg e]
      have hC0 : Keep (SoI w b n adj wet r bg br nx W9 ∧ SetAt W9 wr.heap.size (adj k) ∧ SetAt W9 W8.heap.size D ∧ w.heap.size + 3 ≤ wr.heap.size ∧ w.heap.size + 3 ≤ W8.heap.size) := by
        have h1 := hI.out.n5.lt
        have h2 := f7k.out.2
        have h3 := hf9k.out.2
        exact ⟨by rw [← hnx]; exact hI7.out.after h79.out, f7k.out.1.after h79.out, hf9k.out.1, by omega, by omega⟩
      clear hI hI7 f7k hf9k h79 hW7 hW9 hnx q e0 x0 a0 e1 x1 a1 e2 x2 a2 e3 x3 a3 e4 x4 a4 e5 x5 a5 e6 x6 a6 e7 x7 a7 e8 x8 a8 e9 x9 a9 e10 x10 a10 e11 x11 a11 cg1
      obtain ⟨RX, hRX⟩ : ∃ RX : World → Prop, RX = fun W => (∃ y : Bool, SoI w b n adj wet r bg br (if y = true then nx' else nx) W) ∧ SetAt W wr.heap.size (adj k) ∧ SetAt W W8.heap.size D ∧ w.heap.size + 3 ≤ wr.heap.size ∧ w.heap.size + 3 ≤ W8.heap.size := ⟨_, rfl⟩
      obtain ⟨CX, hCX⟩ : ∃ CX : (Nat → Bool) → World → Prop, CX = fun s0 W => SoI w b n adj wet r bg br (if s0 14 = true then nx' else nx) W ∧ SetAt W wr.heap.size (adj k) ∧ SetAt W W8.heap.size D ∧ w.heap.size + 3 ≤ wr.heap.size ∧ w.heap.size + 3 ≤ W8.heap.size := ⟨_, rfl⟩
      have hCR : ∀ s0 W, CX s0 W → RX W := fun s0 W h => by rw [hCX] at h; rw [hRX]; exact ⟨⟨s0 14, h.1⟩, h.2⟩
      have hCk : ∀ j, j ≠ 14 → ∀ s0 W, CX s0 W → CX (Many.upd s0 j) W := fun j hj s0 W h => by
        rw [hCX] at h ⊢
        simp only at h ⊢
        rw [show Many.upd s0 j 14 = s0 14 by simp [Many.upd, hj]]; exact h
      have hCa : ∀ s0 W W', CX s0 W → Below W.heap.size W W' → CX s0 W' := fun s0 W W' h hb => by
        rw [hCX] at h ⊢
        exact ⟨h.1.after hb, h.2.1.after hb, h.2.2.1.after hb, h.2.2.2⟩
      have hw12 : ∀ W, RX W → W.cell? ⟨w.heap.size, k, none⟩ = some (.bool (wet k)) ∧ W.cell? ⟨br, 0, none⟩ = some (.int .i64 r) ∧ Cells12 W wr.heap.size (adj k) ∧ Cells12 W W8.heap.size D := fun W h => by
        rw [hRX] at h
        obtain ⟨⟨y, h⟩, h7, h8, _⟩ := h
        exact ⟨(h.x.cell (by omega)).1, h.cr, h7.c12, h8.c12⟩
      have hst : ∀ s0 W, s0 14 = false → CX s0 W → (W.cell? ⟨w.heap.size + 1 + 1, k, none⟩ = some (.bool (nx k)) ∧ W.frozen? ⟨w.heap.size + 1 + 1, k, none⟩ = false) ∧ CX (Many.upd s0 14) (W.setCell ⟨w.heap.size + 1 + 1, k, none⟩ (.bool (oneSo adj r wet k))) := fun s0 W hs h => by
        rw [hCX] at h ⊢
        simp only at h ⊢
        rw [hs] at h
        simp only [Bool.false_eq_true, if_false] at h
        rw [show Many.upd s0 14 14 = true by simp [Many.upd]]
        simp only [if_true]
        obtain ⟨h1, h2, h3, h4, h5⟩ := h
        exact ⟨h1.n5.cell (by omega), h1.set hgl hgb hrb (by omega) hxk hxo, h2.other (by omega), h3.other (by omega), h4, h5⟩
      have hC00 : ∀ s0 : Nat → Bool, s0 14 = false → CX s0 W9.drew := fun s0 hs => by
        rw [hCX]; simp only [hs, Bool.false_eq_true, if_false]
        have hb := (Below.refl W9.heap.size W9).drew
        obtain ⟨h1, h2, h3, h4, h5⟩ := hC0.out
        exact ⟨h1.after hb, h2.after hb, h3.after hb, h4, h5⟩
      have hCe : ∀ s0 s1 W, (∀ j, s0 j = s1 j) → CX s0 W → CX s1 W := fun s0 s1 W h hc => by
        rw [hCX] at hc ⊢; simp only at hc ⊢; rw [← h]; exact hc
      have hfin : ∀ s0 W, s0 14 = true → CX s0 W → Keep (SoI w b n adj wet r bg br nx' W) := fun s0 W hs h => by
        rw [hCX] at h; simp only [hs, if_true] at h; exact ⟨h.1⟩
      have hnxe := hnx'
      clear hCX hRX hC0 hnx'
      have hW8z : 0 ≤ W8.heap.size := Nat.zero_le _
      refine (wpIn_wide (n := 0)).1 ?_
      refine Many.region_many CX hmx (by kernel_rfl) hCe (fun s0 hs => hC00 s0 (hs 14 (by decide))) ?_
      cases hwk : wet k with
      | true =>
        have hone : oneSo adj r wet k = true := by simp [oneSo, hwk]
        refine Many.lex_want (by rfl) (Many.tr_read (v := .int .i64 k) RX hCR (hCk 0 (by decide)) (fun W h => by
          skip
          clear h
          go_simp; (try rfl); (try (intro hneg; omega)))) ?_
        simp only [Act.put, List.setIfInBounds_toArray, List.set_cons_succ, List.set_cons_zero, Nat.reduceAdd]
        refine Many.lex_want (by rfl) (Many.tr_read (v := .int .i64 k) RX hCR (hCk 1 (by decide)) (fun W h => by
          skip
          clear h
          go_simp; (try rfl); (try (intro hneg; omega)))) ?_
        simp only [Act.put, List.setIfInBounds_toArray, List.set_cons_succ, List.set_cons_zero, Nat.reduceAdd]
        refine Many.lex_want (by rfl) (Many.tr_read (v := .pointer (some ⟨w.heap.size, k, none⟩)) RX hCR (hCk 2 (by decide)) (fun W h => by
          skip
          clear h
          go_simp; (try rfl); (try (intro hneg; omega)))) ?_
        simp only [Act.put, List.setIfInBounds_toArray, List.set_cons_succ, List.set_cons_zero, Nat.reduceAdd]
        refine Many.lex_want (by rfl) (Many.tr_read (v := .bool true) RX hCR (hCk 3 (by decide)) (fun W h => by
          obtain ⟨c3, -, -, -⟩ := hw12 W h
          rw [hwk] at c3
          clear h
          go_simp; (try rfl); (try (intro hneg; omega)))) ?_
        simp only [Act.put, List.setIfInBounds_toArray, List.set_cons_succ, List.set_cons_zero, Nat.reduceAdd]
        refine Many.lex_want (by rfl) (Many.tr_read (v := .bool true) RX hCR (hCk 4 (by decide)) (fun W h => by
          skip
          clear h
          go_simp; (try rfl); (try (intro hneg; omega)))) ?_
        simp only [Act.put, List.setIfInBounds_toArray, List.set_cons_succ, List.set_cons_zero, Nat.reduceAdd]
        refine lex_skip (by rfl) (hCk 5 (by decide)) ?_
        simp only [Act.put, List.setIfInBounds_toArray, List.set_cons_succ, List.set_cons_zero, Nat.reduceAdd]
        refine lex_skip (by rfl) (hCk 6 (by decide)) ?_
        simp only [Act.put, List.setIfInBounds_toArray, List.set_cons_succ, List.set_cons_zero, Nat.reduceAdd]
        refine lex_skip (by rfl) (hCk 7 (by decide)) ?_
        simp only [Act.put, List.setIfInBounds_toArray, List.set_cons_succ, List.set_cons_zero, Nat.reduceAdd]
        refine lex_skip (by rfl) (hCk 8 (by decide)) ?_
        simp only [Act.put, List.setIfInBounds_toArray, List.set_cons_succ, List.set_cons_zero, Nat.reduceAdd]
        refine lex_skip (by rfl) (hCk 9 (by decide)) ?_
        simp only [Act.put, List.setIfInBounds_toArray, List.set_cons_succ, List.set_cons_zero, Nat.reduceAdd]
        refine lex_skip (by rfl) (hCk 10 (by decide)) ?_
        simp only [Act.put, List.setIfInBounds_toArray, List.set_cons_succ, List.set_cons_zero, Nat.reduceAdd]
        refine lex_skip (by rfl) (hCk 11 (by decide)) ?_
        simp only [Act.put, List.setIfInBounds_toArray, List.set_cons_succ, List.set_cons_zero, Nat.reduceAdd]
        refine Many.lex_want (by rfl) (Many.tr_read (v := .bool true) RX hCR (hCk 12 (by decide)) (fun W h => by
          skip
          clear h
          go_simp; (try rfl); (try (intro hneg; omega)))) ?_
        simp only [Act.put, List.setIfInBounds_toArray, List.set_cons_succ, List.set_cons_zero, Nat.reduceAdd]
        refine Many.lex_want (by rfl) (Many.tr_read (v := .pointer (some ⟨w.heap.size + 1 + 1, k, none⟩)) RX hCR (hCk 13 (by decide)) (fun W h => by
          skip
          clear h
          go_simp; (try rfl); (try (intro hneg; omega)))) ?_
        simp only [Act.put, List.setIfInBounds_toArray, List.set_cons_succ, List.set_cons_zero, Nat.reduceAdd]
        refine Many.lex_want (by rfl) (Many.tr_step (v := undef) (fun s0 W hs hC => ?_)) ?_
        · obtain ⟨⟨cz, fz⟩, h2⟩ := hst s0 W hs hC
          rw [hone] at h2
          have h2k := Keep.mk h2
          clear hC h2
          go_simp
          exact ⟨rfl, h2k.out⟩
        simp only [Act.put, List.setIfInBounds_toArray, List.set_cons_succ, List.set_cons_zero, Nat.reduceAdd]
        refine Many.lex_nil fun s9 W4 hs9 hS4 => ?_
        have hI4 := hfin s9 W4 (hs9 14 (by decide)) hS4
        clear hS4
        go_wp2
        exact ⟨⟨k + 1, by omega, by go_num, by rw [hnxe]; exact hI4⟩, by simp [intOf]; omega⟩
      | false =>
        obtain ⟨A, hA⟩ : ∃ A : Nat, (vsTo (adj k) 12).length = A := ⟨_, rfl⟩
        obtain ⟨B, hB⟩ : ∃ B : Nat, (vsTo D 12).length = B := ⟨_, rfl⟩
        have hA12 := vsTo_len (adj k) 12
        have hB12 := vsTo_len D 12
        rw [hA] at hA12
        rw [hB] at hB12
        have hone : oneSo adj r wet k = decide (r ≤ (A : Int) - (B : Int)) := by simp only [oneSo, hwk, hit, hD, hA, hB, Bool.false_or]
        have hqA := q74.out (adj k)
        have hqB := q74.out D
        rw [hA] at hqA
        rw [hB] at hqB
        have hsub : IntKind.i64.wrap ((A : Int) - (B : Int)) = (A : Int) - (B : Int) := IntWalk.i64_in _ (by omega)
        obtain ⟨z, hz⟩ : ∃ z, decide (r ≤ (A : Int) - (B : Int)) = z := ⟨_, rfl⟩
        rw [hz] at hone
        have hge : decide ((A : Int) - (B : Int) ≥ r) = z := hz
        refine Many.lex_want (by rfl) (Many.tr_read (v := .int .i64 k) RX hCR (hCk 0 (by decide)) (fun W h => by
          skip
          clear h
          go_simp; (try rfl); (try (intro hneg; omega)))) ?_
        simp only [Act.put, List.setIfInBounds_toArray, List.set_cons_succ, List.set_cons_zero, Nat.reduceAdd]
        refine Many.lex_want (by rfl) (Many.tr_read (v := .int .i64 k) RX hCR (hCk 1 (by decide)) (fun W h => by
          skip
          clear h
          go_simp; (try rfl); (try (intro hneg; omega)))) ?_
        simp only [Act.put, List.setIfInBounds_toArray, List.set_cons_succ, List.set_cons_zero, Nat.reduceAdd]
        refine Many.lex_want (by rfl) (Many.tr_read (v := .pointer (some ⟨w.heap.size, k, none⟩)) RX hCR (hCk 2 (by decide)) (fun W h => by
          skip
          clear h
          go_simp; (try rfl); (try (intro hneg; omega)))) ?_
        simp only [Act.put, List.setIfInBounds_toArray, List.set_cons_succ, List.set_cons_zero, Nat.reduceAdd]
        refine Many.lex_want (by rfl) (Many.tr_read (v := .bool false) RX hCR (hCk 3 (by decide)) (fun W h => by
          obtain ⟨c3, -, -, -⟩ := hw12 W h
          rw [hwk] at c3
          clear h
          go_simp; (try rfl); (try (intro hneg; omega)))) ?_
        simp only [Act.put, List.setIfInBounds_toArray, List.set_cons_succ, List.set_cons_zero, Nat.reduceAdd]
        refine Many.lex_want (by rfl) (Many.tr_read (v := .bool false) RX hCR (hCk 4 (by decide)) (fun W h => by
          skip
          clear h
          go_simp; (try rfl); (try (intro hneg; omega)))) ?_
        simp only [Act.put, List.setIfInBounds_toArray, List.set_cons_succ, List.set_cons_zero, Nat.reduceAdd]
        refine Many.lex_want (by rfl) (Many.tr_read (v := .agg #[.bool (adj k 0), .bool (adj k 1), .bool (adj k 2), .bool (adj k 3), .bool (adj k 4), .bool (adj k 5), .bool (adj k 6), .bool (adj k 7), .bool (adj k 8), .bool (adj k 9), .bool (adj k 10), .bool (adj k 11)]) RX hCR (hCk 5 (by decide)) (fun W h => by
          obtain ⟨-, -, ⟨e0, e1, e2, e3, e4, e5, e6, e7, e8, e9, e10, e11⟩, -⟩ := hw12 W h
          clear h
          go_simp; (try rfl); (try (intro hneg; omega)))) ?_
        simp only [Act.put, List.setIfInBounds_toArray, List.set_cons_succ, List.set_cons_zero, Nat.reduceAdd]
        refine Many.lex_want (by rfl) (Many.tr_call (v := .int .i64 A) (f := 74) (args := #[.agg #[.bool (adj k 0), .bool (adj k 1), .bool (adj k 2), .bool (adj k 3), .bool (adj k 4), .bool (adj k 5), .bool (adj k 6), .bool (adj k 7), .bool (adj k 8), .bool (adj k 9), .bool (adj k 10), .bool (adj k 11)]]) RX hCR (fun s0 W h => (hqA W).mono (fun e W' hw' => ⟨hw'.1, hCk 6 (by decide) _ _ (hCa _ _ _ h (hw'.2))⟩)) (fun W h => by clear h; go_simp; try rfl)) ?_
        simp only [Act.put, List.setIfInBounds_toArray, List.set_cons_succ, List.set_cons_zero, Nat.reduceAdd]
        refine Many.lex_want (by rfl) (Many.tr_read (v := .agg #[.bool (D 0), .bool (D 1), .bool (D 2), .bool (D 3), .bool (D 4), .bool (D 5), .bool (D 6), .bool (D 7), .bool (D 8), .bool (D 9), .bool (D 10), .bool (D 11)]) RX hCR (hCk 7 (by decide)) (fun W h => by
          obtain ⟨-, -, -, ⟨e0, e1, e2, e3, e4, e5, e6, e7, e8, e9, e10, e11⟩⟩ := hw12 W h
          clear h
          go_simp; (try rfl); (try (intro hneg; omega)))) ?_
        simp only [Act.put, List.setIfInBounds_toArray, List.set_cons_succ, List.set_cons_zero, Nat.reduceAdd]
        refine Many.lex_want (by rfl) (Many.tr_call (v := .int .i64 B) (f := 74) (args := #[.agg #[.bool (D 0), .bool (D 1), .bool (D 2), .bool (D 3), .bool (D 4), .bool (D 5), .bool (D 6), .bool (D 7), .bool (D 8), .bool (D 9), .bool (D 10), .bool (D 11)]]) RX hCR (fun s0 W h => (hqB W).mono (fun e W' hw' => ⟨hw'.1, hCk 8 (by decide) _ _ (hCa _ _ _ h (hw'.2))⟩)) (fun W h => by clear h; go_simp; try rfl)) ?_
        simp only [Act.put, List.setIfInBounds_toArray, List.set_cons_succ, List.set_cons_zero, Nat.reduceAdd]
        refine Many.lex_want (by rfl) (Many.tr_read (v := .int .i64 ((A : Int) - (B : Int))) RX hCR (hCk 9 (by decide)) (fun W h => by
          skip
          clear h
          go_simp; (try rfl); (try (intro hneg; omega)))) ?_
        simp only [Act.put, List.setIfInBounds_toArray, List.set_cons_succ, List.set_cons_zero, Nat.reduceAdd]
        refine Many.lex_want (by rfl) (Many.tr_read (v := .int .i64 r) RX hCR (hCk 10 (by decide)) (fun W h => by
          obtain ⟨-, c10, -, -⟩ := hw12 W h
          clear h
          go_simp; (try rfl); (try (intro hneg; omega)))) ?_
        simp only [Act.put, List.setIfInBounds_toArray, List.set_cons_succ, List.set_cons_zero, Nat.reduceAdd]
        refine Many.lex_want (by rfl) (Many.tr_read (v := .bool z) RX hCR (hCk 11 (by decide)) (fun W h => by
          skip
          clear h
          go_simp; (try rfl); (try (intro hneg; omega)))) ?_
        simp only [Act.put, List.setIfInBounds_toArray, List.set_cons_succ, List.set_cons_zero, Nat.reduceAdd]
        refine Many.lex_want (by rfl) (Many.tr_read (v := .bool z) RX hCR (hCk 12 (by decide)) (fun W h => by
          skip
          clear h
          go_simp; (try rfl); (try (intro hneg; omega)))) ?_
        simp only [Act.put, List.setIfInBounds_toArray, List.set_cons_succ, List.set_cons_zero, Nat.reduceAdd]
        refine Many.lex_want (by rfl) (Many.tr_read (v := .pointer (some ⟨w.heap.size + 1 + 1, k, none⟩)) RX hCR (hCk 13 (by decide)) (fun W h => by
          skip
          clear h
          go_simp; (try rfl); (try (intro hneg; omega)))) ?_
        simp only [Act.put, List.setIfInBounds_toArray, List.set_cons_succ, List.set_cons_zero, Nat.reduceAdd]
        refine Many.lex_want (by rfl) (Many.tr_step (v := undef) (fun s0 W hs hC => ?_)) ?_
        · obtain ⟨⟨cz, fz⟩, h2⟩ := hst s0 W hs hC
          rw [hone] at h2
          have h2k := Keep.mk h2
          clear hC h2
          go_simp
          exact ⟨rfl, h2k.out⟩
        simp only [Act.put, List.setIfInBounds_toArray, List.set_cons_succ, List.set_cons_zero, Nat.reduceAdd]
        refine Many.lex_nil fun s9 W4 hs9 hS4 => ?_
        have hI4 := hfin s9 W4 (hs9 14 (by decide)) hS4
        clear hS4
        go_wp2
        exact ⟨⟨k + 1, by omega, by go_num, by rw [hnxe]; exact hI4⟩, by simp [intOf]; omega⟩
    · obtain rfl : k = n := by omega
      have hlt' : ¬ (k : Int) < (k : Int) := by omega
      obtain ⟨F, hF⟩ : ∃ F : Nat → Bool, (fun j => if j < k then oneSo adj r wet j else wet j) = F := ⟨_, rfl⟩
      rw [hF] at hI
      have hFe : sokd k adj r wet = F := by rw [← hF]; rfl
      obtain ⟨x0, x1, x2, x3, x4, x5, x6, x7, x8, x9, x10, x11⟩ := hI.out.n5.c12
      obtain ⟨z0, z1, z2, z3, z4, z5, z6, z7, z8, z9, z10, z11⟩ := hI.out.z.c12
      obtain ⟨f0, f1, f2, f3, f4, f5, f6, f7, f8, f9, f10, f11⟩ := hI.out.z.f12
      have hbk := Keep.mk (And.intro hI.out.bw hFe)
      clear hI hF hFe q85 q74
      go_wp2
      refine bodyPost_ret (v := .agg #[.bool (F 0), .bool (F 1), .bool (F 2), .bool (F 3), .bool (F 4), .bool (F 5), .bool (F 6), .bool (F 7), .bool (F 8), .bool (F 9), .bool (F 10), .bool (F 11)]) (by simp [results, Try.results86, go_sem]; try go_simp) rfl ?_
      refine ⟨by rw [hbk.out.2], ?_⟩
      iterate 12 (refine Below.setCell ?_ (by show w.heap.size ≤ w.heap.size + 1; omega) _)
      exact hbk.out.1
end Go.Proofs.Yteekigpdiklppaa
