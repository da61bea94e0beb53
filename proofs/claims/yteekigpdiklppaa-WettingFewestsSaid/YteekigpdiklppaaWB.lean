import Derived.Test.YteekigpdiklppaaWA
import Derived.Test.YteekigpdiklppaaSeqK
set_option linter.unusedSimpArgs false
set_option linter.unusedVariables false
namespace Go.Proofs.Yteekigpdiklppaa
open Go Go.Proofs Go.RowKit Go.Seq
attribute [local go_sem] Oper.semAt_some
/-- A set stored into a variable. -/
def st12 (W : World) (b : Nat) (F : Nat → Bool) : World := ((((((((((((W.setCell ⟨b, 0, none⟩ (.bool (F 0))).setCell ⟨b, 1, none⟩ (.bool (F 1))).setCell ⟨b, 2, none⟩ (.bool (F 2))).setCell ⟨b, 3, none⟩ (.bool (F 3))).setCell ⟨b, 4, none⟩ (.bool (F 4))).setCell ⟨b, 5, none⟩ (.bool (F 5))).setCell ⟨b, 6, none⟩ (.bool (F 6))).setCell ⟨b, 7, none⟩ (.bool (F 7))).setCell ⟨b, 8, none⟩ (.bool (F 8))).setCell ⟨b, 9, none⟩ (.bool (F 9))).setCell ⟨b, 10, none⟩ (.bool (F 10))).setCell ⟨b, 11, none⟩ (.bool (F 11)))
theorem st12_heap (W : World) (b : Nat) (F : Nat → Bool) {i : Nat} (h : i ≠ b) : (st12 W b F).heap[i]? = W.heap[i]? := by
  unfold st12
  iterate 12 (rw [Below.heap_setCell _ _ _ _ (by exact h)])
theorem st12_size (W : World) (b : Nat) (F : Nat → Bool) : (st12 W b F).heap.size = W.heap.size := by
  unfold st12
  simp [World.setCell]
theorem st12_below {w W : World} {B b : Nat} {F : Nat → Bool} (h : Below B w W) (hb : B ≤ b) : Below B w (st12 W b F) := by
  unfold st12
  iterate 12 (refine Below.setCell ?_ (by exact hb) _)
  exact h
theorem st12_set {W : World} {b : Nat} {s F : Nat → Bool} (h : SetAt W b s) : SetAt (st12 W b F) b F := by
  unfold st12
  exact h.store12
theorem st12_keepsV {pv : Nat → Prop} {A W : World} {b : Nat} {F : Nat → Bool} (h : Pv.KeepsV pv A W) (hb : pv b) : Pv.KeepsV pv A (st12 W b F) := by
  unfold st12
  iterate 12 (refine Pv.KeepsV.setCell ?_ (by exact hb) _)
  exact h
/-- A function value that makes a round. -/
structure Rnd (f : Nat) (bd cp : Array Value) (rd : (Nat → Bool) → Nat → Bool) (R : World → Prop) : Prop where
  eg : ∀ (args : Array Value) (w : World), (callFunc f args).run Try.prog w = .ok (.enter f args) w
  call : ∀ s W, R W → Calls Try.prog f (bd.push (setV s) ++ cp) W fun e W' => e = .returned (setV (rd s)) ∧ Below W.heap.size W W'
/-- What is wet behind so many rounds. -/
def stg (rd : (Nat → Bool) → Nat → Bool) (s : Nat → Bool) : Nat → Nat → Bool
  | 0 => s
  | i + 1 => rd (stg rd s i)
def eqb (F G : Nat → Bool) : Bool := (List.range 12).all fun k => F k == G k
/-- The rounds until nothing changes. -/
structure Stops (rd : (Nat → Bool) → Nat → Bool) (s : Nat → Bool) (K : Nat) : Prop where
  le : K ≤ 100
  last : eqb (stg rd s (K + 1)) (stg rd s K) = true
  less : ∀ i, i < K → eqb (stg rd s (i + 1)) (stg rd s i) = false
def stgs (rd : (Nat → Bool) → Nat → Bool) (s : Nat → Bool) (k : Nat) : List (Nat × (Nat → Bool)) := (List.range k).map fun i => (i, stg rd s i)
theorem stgs_succ (rd : (Nat → Bool) → Nat → Bool) (s : Nat → Bool) (k : Nat) : stgs rd s (k + 1) = stgs rd s k ++ [(k, stg rd s k)] := by
  unfold stgs
  rw [List.range_succ, List.map_append]; rfl
theorem stgs_rest (rd : (Nat → Bool) → Nat → Bool) (s : Nat → Bool) {k : Nat} : ∀ {M}, k < M → ∃ rest, stgs rd s M = stgs rd s k ++ (k, stg rd s k) :: rest
  | 0, h => by omega
  | M + 1, h => by
    by_cases e : k = M
    · subst e; exact ⟨[], stgs_succ _ _ _⟩
    · obtain ⟨rest, hr⟩ := stgs_rest rd s (k := k) (M := M) (by omega)
      exact ⟨rest ++ [(M, stg rd s M)], by rw [stgs_succ, hr]; simp⟩
def encS (x : Nat × (Nat → Bool)) : Array Value := #[.int .i64 x.1, setV x.2]
theorem Keep2 {p q : Prop} (h : p ∧ q) : p ∧ Keep q := ⟨h.1, ⟨h.2⟩⟩
set_option maxHeartbeats 2000000 in
set_option maxRecDepth 100000 in
theorem stages_gives {b br K f : Nat} {bd cp : Array Value} {rd : (Nat → Bool) → Nat → Bool} {R : World → Prop} {s : Nat → Bool} (hq : Rnd f bd cp rd R) (hK : Stops rd s K) (W1 : World)
    (hRc : ∀ W, R W → W.cell? ⟨br, 0, none⟩ = some (.func (.func f) bd cp)) (hS : SetAt W1 b s) :
    Pv.GivesV Try.prog 82 #[.pointer (some ⟨b, 0, none⟩), .pointer (some ⟨br, 0, none⟩)] encS (stgs rd s (K + 1)) (fun k => k = b) R W1 := by
  intro l gs J hJ hR hY h0
  have hqk := Keep.mk hq.call
  have hqe := hq.eg
  refine callsIn_of_wp Try.func82 rfl trivial ?_ rfl
  simp only [Try.ntmps82, List.size_toArray, List.length_cons, List.length_nil, Nat.reduceAdd, Nat.reduceSub, Array.replicate_succ, Array.replicate_zero, List.push_toArray, List.append_toArray, List.nil_append, List.cons_append]
  gi_wp2
  gi_loopw [4] (fun i wr => ∃ k : Nat, k ≤ K ∧ i = .int .i64 k ∧ J (stgs rd s k) wr ∧ Stp.going gs (stgs rd s k) ∧ Keep (SetAt wr b (stg rd s k)) ∧ W1.heap.size ≤ wr.heap.size) (fun i _ => K + 1 - (intOf i).toNat)
  case atStart => exact ⟨0, by omega, rfl, by simpa [stgs] using h0, by simpa [stgs] using Stp.going_nil gs, ⟨hS⟩, by simp⟩
  case round =>
    obtain ⟨k, hk, rfl, hj, hgo, ⟨hs⟩, hsz⟩ := hrel
    have hk100 := hK.le
    have hw1 : IntKind.i64.wrap ((k : Int) + 1) = (k : Int) + 1 := IntWalk.i64_in _ (by omega)
    obtain ⟨F, hF⟩ : ∃ F, stg rd s k = F := ⟨_, rfl⟩
    obtain ⟨G, hG⟩ : ∃ G, rd F = G := ⟨_, rfl⟩
    rw [hF] at hs
    obtain ⟨c0, c1, c2, c3, c4, c5, c6, c7, c8, c9, c10, c11⟩ := hs.c12
    obtain ⟨z, hz⟩ : ∃ z, gs (stgs rd s k) (k, F) = z := ⟨_, rfl⟩
    obtain ⟨fn, tmps, assign, body, hy, hRd⟩ := hY (stgs rd s k) (k, F) wr hj hgo hsz (by rw [← hF]; exact stgs_rest rd s (by omega))
    unfold encS setV sc at hy
    have hsk := Keep.mk hs
    clear hs
    simp only [] at hy
    gi_wp2
    clear c0 c1 c2 c3 c4 c5 c6 c7 c8 c9 c10 c11
    refine ⟨rfl, hRd.mono ?_⟩
    rintro e w5 ⟨rfl, hj5, hsz5, hp5, -⟩
    rw [hz]
    have hr5 := hR _ _ hj5
    have hs5 : SetAt w5 b F := (hp5 b rfl).trans hsk.out
    have hp5k := Keep.mk hp5
    have hszk := Keep.mk (Nat.le_trans hsz hsz5)
    clear hp5 hsz5 hy hRd hY
    cases z with
    | false =>
      clear hs5
      obtain ⟨rest, hrest⟩ := stgs_rest rd s (k := k) (M := K + 1) (by omega)
      rw [hF] at hrest
      gi_wp2
      go_end0
      exact ⟨⟨_, rfl⟩, ⟨_, hj5, .inr ⟨stgs rd s k, (k, F), rest, hrest, rfl, hgo, hz⟩⟩, hszk.out⟩
    | true =>
      have hcr := hRc _ hr5
      have q := hqk.out F w5 hr5
      rw [hG] at q
      obtain ⟨d0, d1, d2, d3, d4, d5, d6, d7, d8, d9, d10, d11⟩ := hs5.c12
      have hs5k := Keep.mk hs5
      clear hs5
      obtain ⟨g, hg⟩ : ∃ g, eqb G F = g := ⟨_, rfl⟩
      have heq := fun w => eq49 G F w
      rw [show ((List.range 12).all fun k => G k == F k) = g from hg] at heq
      unfold setV sc at q
      unfold sc at heq
      have hgo5 : Keep (Stp.going gs (stgs rd s (k + 1))) := ⟨by rw [stgs_succ, hF]; exact Stp.going_snoc.2 ⟨hgo, hz⟩⟩
      have hj5k : Keep (J (stgs rd s (k + 1)) w5) := ⟨by rw [stgs_succ, hF]; exact hj5⟩
      clear hj5 hgo hj
      cases g with
      | true =>
        have hkK : k = K := by
          rcases Nat.lt_or_ge k K with h | h
          · have := hK.less k h
            rw [show stg rd s (k + 1) = rd (stg rd s k) from rfl, hF, hG, hg] at this; cases this
          · omega
        gi_wp2_with (refine ⟨trivial, rfl, (callsIn_wide.2 q).mono ?_⟩; rintro e W6 ⟨rfl, hb6⟩
                     obtain ⟨W7, hW7⟩ : ∃ W7, W6.alloc (.cells (sc G) 79) = W7 := ⟨_, rfl⟩
                     have hb7 : Below W6.heap.size W6 W7 := by rw [← hW7]; exact (Below.refl _ _).alloc (Nat.le_refl _) _
                     have hn7 : SetAt W7 W6.heap.size G := by rw [← hW7]; exact SetAt.new _ _
                     have hb57 : Keep (Below w5.heap.size w5 W7) := ⟨hb6.trans (hb7.mono hb6.size)⟩
                     obtain ⟨e0, e1, e2, e3, e4, e5, e6, e7, e8, e9, e10, e11⟩ := (hs5k.out.after hb57.out).c12
                     obtain ⟨n0, n1, n2, n3, n4, n5, n6, n7, n8, n9, n10, n11⟩ := hn7.c12
                     clear hb6 hb7 hn7
                     unfold sc at hW7)
        subst hkK
        refine bodyPost_ret (results_none rfl _ _ _) rfl ?_
        exact ⟨⟨_, rfl⟩, ⟨_, hJ _ _ _ hj5k.out (.of_below hb57.out), .inl ⟨rfl, hgo5.out⟩⟩, Nat.le_trans hszk.out hb57.out.size⟩
      | false =>
        have hkK : k < K := by
          rcases Nat.lt_or_ge k K with h | h
          · exact h
          · have h : k = K := by omega
            subst h
            have := hK.last
            rw [show stg rd s (k + 1) = rd (stg rd s k) from rfl, hF, hG, hg] at this; cases this
        gi_wp2_with (refine ⟨trivial, rfl, (callsIn_wide.2 q).mono ?_⟩; rintro e W6 ⟨rfl, hb6⟩
                     obtain ⟨W7, hW7⟩ : ∃ W7, W6.alloc (.cells (sc G) 79) = W7 := ⟨_, rfl⟩
                     have hb7 : Below W6.heap.size W6 W7 := by rw [← hW7]; exact (Below.refl _ _).alloc (Nat.le_refl _) _
                     have hn7 : SetAt W7 W6.heap.size G := by rw [← hW7]; exact SetAt.new _ _
                     have hb57 : Keep (Below w5.heap.size w5 W7) := ⟨hb6.trans (hb7.mono hb6.size)⟩
                     obtain ⟨e0, e1, e2, e3, e4, e5, e6, e7, e8, e9, e10, e11⟩ := (hs5k.out.after hb57.out).c12
                     obtain ⟨g0, g1, g2, g3, g4, g5, g6, g7, g8, g9, g10, g11⟩ := (hs5k.out.after hb57.out).f12
                     obtain ⟨n0, n1, n2, n3, n4, n5, n6, n7, n8, n9, n10, n11⟩ := hn7.c12
                     clear hb6 hb7 hn7
                     unfold sc at hW7)
        have hj7 := hJ _ _ _ hj5k.out (.of_below hb57.out)
        have hs7 := hs5k.out.after hb57.out
        have hj8 : J (stgs rd s (k + 1)) (st12 W7 b G) := hJ _ _ _ hj7 (st12_keepsV (Pv.KeepsV.refl _ _) rfl)
        have hs8 : SetAt (st12 W7 b G) b (stg rd s (k + 1)) := by
          rw [show stg rd s (k + 1) = G by rw [show stg rd s (k + 1) = rd (stg rd s k) from rfl, hF, hG]]; exact st12_set hs7
        have hz8 : W1.heap.size ≤ (st12 W7 b G).heap.size := by rw [st12_size]; exact Nat.le_trans hszk.out hb57.out.size
        unfold st12 at hj8 hs8 hz8
        exact ⟨⟨k + 1, by omega, by go_num, hj8, hgo5.out, ⟨hs8⟩, hz8⟩, by simp [intOf]; omega⟩
end Go.Proofs.Yteekigpdiklppaa
set_option linter.unusedSimpArgs false
set_option linter.unusedVariables false
namespace Go.Proofs.Yteekigpdiklppaa
open Go Go.Proofs Go.RowKit Go.Seq
attribute [local go_sem] Oper.semAt_some
theorem lex_skip {P : Program} {ops : Array Oper} {C : (Nat → Bool) → World → Prop} {k : Nat} {Q : Act → Prop} {o : Oper} {rest : List Oper} {a : Act} (hw : Region.wanted o (yielded ops a.tmps) = false) (hk : ∀ s w, C s w → C (Many.upd s k) w) (h : Many.lexT P ops C Q (k + 1) rest (a.put o.dst undef)) : Many.lexT P ops C Q k (o :: rest) a := ⟨undef, .inr ⟨hw, hk, rfl⟩, h⟩
theorem cell_lt {W : World} {p : Addr} {v : Value} (h : W.cell? p = some v) : p.block < W.heap.size := by
  rcases Nat.lt_or_ge p.block W.heap.size with h' | h'
  · exact h'
  · simp [World.cell?, Array.getElem?_eq_none h'] at h
/-- How many of a place's neighbours are in a set. -/
def hit (adj : Nat → Nat → Bool) (wet : Nat → Bool) (v : Nat) : Int := ((vsTo (adj v) 12).length : Int) - ((vsTo (fun u => adj v u && !wet u) 12).length : Int)
def oneSo (adj : Nat → Nat → Bool) (r : Int) (wet : Nat → Bool) (v : Nat) : Bool := wet v || decide (r ≤ hit adj wet v)
def sokd (n : Nat) (adj : Nat → Nat → Bool) (r : Int) (wet : Nat → Bool) (j : Nat) : Bool := if j < n then oneSo adj r wet j else wet j
structure SoI (w : World) (b n : Nat) (adj : Nat → Nat → Bool) (wet : Nat → Bool) (r : Int) (bg br : Nat) (nx : Nat → Bool) (W : World) : Prop where
  g : GraphAt W b n adj
  cg : W.cell? ⟨bg, 0, none⟩ = some (.pointer (some ⟨b, 0, none⟩))
  cr : W.cell? ⟨br, 0, none⟩ = some (.int .i64 r)
  x : SetAt W w.heap.size wet
  z : SetAt W (w.heap.size + 1) (fun _ => false)
  n5 : SetAt W (w.heap.size + 1 + 1) nx
  bw : Below w.heap.size w W
theorem SoI.after {w W W' : World} {b n : Nat} {adj : Nat → Nat → Bool} {wet : Nat → Bool} {r : Int} {bg br : Nat} {nx : Nat → Bool} (h : SoI w b n adj wet r bg br nx W) (hb : Below W.heap.size W W') : SoI w b n adj wet r bg br nx W' :=
  ⟨h.g.below hb h.g.lt, (hb.cell (cell_lt h.cg)).trans h.cg, (hb.cell (cell_lt h.cr)).trans h.cr, h.x.after hb, h.z.after hb, h.n5.after hb, h.bw.trans (hb.mono h.bw.size)⟩
theorem SoI.set {w W : World} {b n : Nat} {adj : Nat → Nat → Bool} {wet : Nat → Bool} {r : Int} {bg br : Nat} {nx nx' : Nat → Bool} (h : SoI w b n adj wet r bg br nx W) (hb : b < w.heap.size) (hbg : bg < w.heap.size) (hbr : br < w.heap.size) {k : Nat} {v : Bool} (hk : k < 12) (hv : nx' k = v) (he : ∀ j, j < 12 → j ≠ k → nx' j = nx j) :
    SoI w b n adj wet r bg br nx' (W.setCell ⟨w.heap.size + 1 + 1, k, none⟩ (.bool v)) := by
  have ho : ∀ i, i ≠ w.heap.size + 1 + 1 → (W.setCell ⟨w.heap.size + 1 + 1, k, none⟩ (.bool v)).heap[i]? = W.heap[i]? := fun i hi => Below.heap_setCell W ⟨w.heap.size + 1 + 1, k, none⟩ (.bool v) i hi
  exact ⟨⟨(World.cell?_of_block (a := ⟨b, 0, none⟩) (ho b (by omega))).trans h.g.size, fun i j hi hj => (World.cell?_of_block (a := ⟨b, 1 + i * 12 + j, none⟩) (ho b (by omega))).trans (h.g.at_ i j hi hj)⟩, (World.cell?_of_block (a := ⟨bg, 0, none⟩) (ho bg (by omega))).trans h.cg, (World.cell?_of_block (a := ⟨br, 0, none⟩) (ho br (by omega))).trans h.cr,
    h.x.other (by omega), h.z.other (by omega), h.n5.set hk hv he, h.bw.setCell (p := ⟨w.heap.size + 1 + 1, k, none⟩) (by show w.heap.size ≤ w.heap.size + 1 + 1; omega) _⟩
set_option maxHeartbeats 4000000 in
set_option maxRecDepth 100000 in
theorem soak1_any {b n bg br : Nat} {adj : Nat → Nat → Bool} {r : Int} {w : World} (wet : Nat → Bool) (hg : GraphAt w b n adj) (hn : n ≤ 12) (hcg : w.cell? ⟨bg, 0, none⟩ = some (.pointer (some ⟨b, 0, none⟩))) (hcr : w.cell? ⟨br, 0, none⟩ = some (.int .i64 r)) :
    Calls Try.prog 86 #[setV wet, .pointer (some ⟨bg, 0, none⟩), .pointer (some ⟨br, 0, none⟩)] w fun e w' => e = .returned (setV (sokd n adj r wet)) ∧ Below w.heap.size w w' := by
  have hmx : Try.prog.follows .mixedOrders = true := by kernel_rfl
  have hgl := hg.lt
  have hgb := cell_lt hcg
  have hrb := cell_lt hcr
  simp only at hgb hrb
  obtain ⟨wa, hwa⟩ : ∃ wa, w.alloc (.cells (sc wet) 79) = wa := ⟨_, rfl⟩
  obtain ⟨wb, hwb⟩ : ∃ wb, wa.alloc (.cells (sc (fun _ => false)) 79) = wb := ⟨_, rfl⟩
  obtain ⟨wc, hwc⟩ : ∃ wc, wb.alloc (.cells (sc wet) 79) = wc := ⟨_, rfl⟩
  have sa : wa.heap.size = w.heap.size + 1 := by rw [← hwa]; simp
  have sb : wb.heap.size = w.heap.size + 1 + 1 := by rw [← hwb]; simp [sa]
  have ss : wc.heap.size = w.heap.size + 1 + 1 + 1 := by rw [← hwc]; simp [sb]
  have ba : Below w.heap.size w wa := by rw [← hwa]; exact (Below.refl _ _).alloc (Nat.le_refl _) _
  have bb : Below wa.heap.size wa wb := by rw [← hwb]; exact (Below.refl _ _).alloc (Nat.le_refl _) _
  have bc : Below wb.heap.size wb wc := by rw [← hwc]; exact (Below.refl _ _).alloc (Nat.le_refl _) _
  have fa : SetAt wa w.heap.size wet := by rw [← hwa]; exact SetAt.new _ _
  have fb : SetAt wb (w.heap.size + 1) (fun _ => false) := by rw [← sa, ← hwb]; exact SetAt.new _ _
  have fc : SetAt wc (w.heap.size + 1 + 1) wet := by rw [← sb, ← hwc]; exact SetAt.new _ _
  have bw : Below w.heap.size w wc := (ba.trans (bb.mono (by omega))).trans (bc.mono (by omega))
  have fab := fa.after bb
  have hI : Keep (SoI w b n adj wet r bg br wet wc) := ⟨hg.below bw hgl, (bw.cell hgb).trans hcg, (bw.cell hrb).trans hcr, fab.after bc, fb.after bc, fc, bw⟩
  have cg0 := hI.out.cg
  have cn0 := hI.out.g.size
  obtain ⟨x0, x1, x2, x3, x4, x5, x6, x7, x8, x9, x10, x11⟩ := fab.c12
  have hw : (w.alloc (.cells (sc wet) 79)).alloc (.cells (sc (fun _ => false)) 79) = wb := by rw [hwa, hwb]
  have q85 : Keep (∀ (v : Nat) (D : Nat → Bool), (fun u => adj v u && !wet u) = D → ∀ (W : World), Calls Try.prog 85 #[setV (adj v), setV wet] W fun e w' => e = .returned (setV D) ∧ Below W.heap.size W w') := ⟨fun v D hD W => hD ▸ minus_any (adj v) wet W⟩
  have q74 := Keep.mk (fun (s : Nat → Bool) (W : World) => size_any s W)
  clear hwa hwb sa ba bb bc fa fb fc bw fab hg hcg hcr
  unfold setV sc at *
  go_enter Try.func86, Try.ntmps86
  go_wp2
  clear hw hwc x0 x1 x2 x3 x4 x5 x6 x7 x8 x9 x10 x11 cg0 cn0
  go_loopw [14] (fun i wr => ∃ k : Nat, k ≤ n ∧ i = .int .i64 k ∧ Keep (SoI w b n adj wet r bg br (fun j => if j < k then oneSo adj r wet j else wet j) wr)) (fun i _ => n - (intOf i).toNat)
  case atStart => exact ⟨0, by omega, by simp, by simpa using hI⟩
  case round =>
    obtain ⟨k, hk, rfl, hI⟩ := hrel
    by_cases hlt : k < n
    · have hlt' : (k : Int) < (n : Int) := by omega
      have hk12 : (k : Int) < 12 := by omega
      have nk : ¬ (k : Int) < 0 := by omega
      have hw1 : IntKind.i64.wrap ((k : Int) + 1) = (k : Int) + 1 := IntWalk.i64_in _ (by omega)
      obtain ⟨D, hD⟩ : ∃ D : Nat → Bool, (fun u => adj k u && !wet u) = D := ⟨_, rfl⟩
      have q := q85.out k D hD
      have cg1 := hI.out.cg
      have a0 := hI.out.g.at_ k 0 (by omega) (by omega)
      have a1 := hI.out.g.at_ k 1 (by omega) (by omega)
      have a2 := hI.out.g.at_ k 2 (by omega) (by omega)
      have a3 := hI.out.g.at_ k 3 (by omega) (by omega)
      have a4 := hI.out.g.at_ k 4 (by omega) (by omega)
      have a5 := hI.out.g.at_ k 5 (by omega) (by omega)
      have a6 := hI.out.g.at_ k 6 (by omega) (by omega)
      have a7 := hI.out.g.at_ k 7 (by omega) (by omega)
      have a8 := hI.out.g.at_ k 8 (by omega) (by omega)
      have a9 := hI.out.g.at_ k 9 (by omega) (by omega)
      have a10 := hI.out.g.at_ k 10 (by omega) (by omega)
      have a11 := hI.out.g.at_ k 11 (by omega) (by omega)
      try simp only [Nat.add_zero] at a0
      obtain ⟨W7, hW7⟩ : ∃ W7, wr.alloc (.cells (sc (adj k)) 79) = W7 := ⟨_, rfl⟩
      have b7 : Below wr.heap.size wr W7 := by rw [← hW7]; exact (Below.refl _ _).alloc (Nat.le_refl _) _
      have s7 : W7.heap.size = wr.heap.size + 1 := by rw [← hW7]; simp
      have f7 : SetAt W7 wr.heap.size (adj k) := by rw [← hW7]; exact SetAt.new _ _
      have hI7 := Keep.mk (hI.out.after b7)
      obtain ⟨e0, e1, e2, e3, e4, e5, e6, e7, e8, e9, e10, e11⟩ := f7.c12
      obtain ⟨x0, x1, x2, x3, x4, x5, x6, x7, x8, x9, x10, x11⟩ := hI7.out.x.c12
      have f7k := Keep.mk (And.intro f7 s7)
      clear f7 s7 b7
      unfold sc at hW7
      go_wp2_with (first
        | (go_at_call 85; (with_reducible refine (q _).mono ?_); rintro e W8 ⟨rfl, hb8⟩
           obtain ⟨W9, hW9⟩ : ∃ W9, W8.alloc (.cells (sc D) 79) = W9 := ⟨_, rfl⟩
           have hb9 : Below W8.heap.size W8 W9 := by rw [← hW9]; exact (Below.refl _ _).alloc (Nat.le_refl _) _
           have hf9 : SetAt W9 W8.heap.size D := by rw [← hW9]; exact SetAt.new _ _
           have h79 := Keep.mk (hb8.trans (hb9.mono hb8.size))
           have hf9k := Keep.mk (And.intro hf9 hb8.size)
           clear hb8 hb9 hf9
           unfold sc at hW9))
      obtain ⟨nx, hnx⟩ : ∃ nx : Nat → Bool, (fun j => if j < k then oneSo adj r wet j else wet j) = nx := ⟨_, rfl⟩
      obtain ⟨nx', hnx'⟩ : ∃ nx' : Nat → Bool, (fun j => if j < k + 1 then oneSo adj r wet j else wet j) = nx' := ⟨_, rfl⟩
      have hxk : nx' k = oneSo adj r wet k := by rw [← hnx']; show (if k < k + 1 then _ else _) = _; rw [if_pos (by omega)]
      have hxo : ∀ j, j < 12 → j ≠ k → nx' j = nx j := fun j _ hj => by
        rw [← hnx', ← hnx]
        show (if j < k + 1 then _ else _) = (if j < k then _ else _)
        by_cases e : j < k
        · rw [if_pos (by omega), if_pos e]
        · rw [if_neg (by omega), if_neg e]
      have hC0 : Keep (SoI w b n adj wet r bg br nx W9 ∧ SetAt W9 wr.heap.size (adj k) ∧ SetAt W9 W8.heap.size D ∧ w.heap.size + 3 ≤ wr.heap.size ∧ w.heap.size + 3 ≤ W8.heap.size) := by
        have h1 := hI.out.n5.lt
        have h2 := f7k.out.2
        have h3 := hf9k.out.2
        exact ⟨by rw [← hnx]; exact hI7.out.after h79.out, f7k.out.1.after h79.out, hf9k.out.1, by omega, by omega⟩
      clear hI hI7 f7k hf9k h79 hW7 hW9 hnx q e0 x0 a0 e1 x1 a1 e2 x2 a2 e3 x3 a3 e4 x4 a4 e5 x5 a5 e6 x6 a6 e7 x7 a7 e8 x8 a8 e9 x9 a9 e10 x10 a10 e11 x11 a11 cg1
      obtain ⟨RX, hRX⟩ : ∃ RX : World → Prop, RX = fun W => (∃ y : Bool, SoI w b n adj wet r bg br (if y = true then nx' else nx) W) ∧ SetAt W wr.heap.size (adj k) ∧ SetAt W W8.heap.size D ∧ w.heap.size + 3 ≤ wr.heap.size ∧ w.heap.size + 3 ≤ W8.heap.size := ⟨_, rfl⟩
      obtain ⟨CX, hCX⟩ : ∃ CX : (Nat → Bool) → World → Prop, CX = fun s0 W => SoI w b n adj wet r bg br (if s0 14 = true then nx' else nx) W ∧ SetAt W wr.heap.size (adj k) ∧ SetAt W W8.heap.size D ∧ w.heap.size + 3 ≤ wr.heap.size ∧ w.heap.size + 3 ≤ W8.heap.size := ⟨_, rfl⟩
      have hCR : ∀ s0 W, CX s0 W → RX W := fun s0 W h => by rw [hCX] at h; rw [hRX]; exact ⟨⟨s0 14, h.1⟩, h.2⟩
      have hCk : ∀ j, j ≠ 14 → ∀ s0 W, CX s0 W → CX (Many.upd s0 j) W := fun j hj s0 W h => by
        rw [hCX] at h ⊢
        simp only at h ⊢
        rw [show Many.upd s0 j 14 = s0 14 by simp [Many.upd, hj]]; exact h
      have hCa : ∀ s0 W W', CX s0 W → Below W.heap.size W W' → CX s0 W' := fun s0 W W' h hb => by
        rw [hCX] at h ⊢
        exact ⟨h.1.after hb, h.2.1.after hb, h.2.2.1.after hb, h.2.2.2⟩
      have hw12 : ∀ W, RX W → W.cell? ⟨w.heap.size, k, none⟩ = some (.bool (wet k)) ∧ W.cell? ⟨br, 0, none⟩ = some (.int .i64 r) ∧ Cells12 W wr.heap.size (adj k) ∧ Cells12 W W8.heap.size D := fun W h => by
        rw [hRX] at h
        obtain ⟨⟨y, h⟩, h7, h8, _⟩ := h
        exact ⟨(h.x.cell (by omega)).1, h.cr, h7.c12, h8.c12⟩
      have hst : ∀ s0 W, s0 14 = false → CX s0 W → (W.cell? ⟨w.heap.size + 1 + 1, k, none⟩ = some (.bool (nx k)) ∧ W.frozen? ⟨w.heap.size + 1 + 1, k, none⟩ = false) ∧ CX (Many.upd s0 14) (W.setCell ⟨w.heap.size + 1 + 1, k, none⟩ (.bool (oneSo adj r wet k))) := fun s0 W hs h => by
        rw [hCX] at h ⊢
        simp only at h ⊢
        rw [hs] at h
        simp only [Bool.false_eq_true, if_false] at h
        rw [show Many.upd s0 14 14 = true by simp [Many.upd]]
        simp only [if_true]
        obtain ⟨h1, h2, h3, h4, h5⟩ := h
        exact ⟨h1.n5.cell (by omega), h1.set hgl hgb hrb (by omega) hxk hxo, h2.other (by omega), h3.other (by omega), h4, h5⟩
      have hC00 : ∀ s0 : Nat → Bool, s0 14 = false → CX s0 W9.drew := fun s0 hs => by
        rw [hCX]; simp only [hs, Bool.false_eq_true, if_false]
        have hb := (Below.refl W9.heap.size W9).drew
        obtain ⟨h1, h2, h3, h4, h5⟩ := hC0.out
        exact ⟨h1.after hb, h2.after hb, h3.after hb, h4, h5⟩
      have hCe : ∀ s0 s1 W, (∀ j, s0 j = s1 j) → CX s0 W → CX s1 W := fun s0 s1 W h hc => by
        rw [hCX] at hc ⊢; simp only at hc ⊢; rw [← h]; exact hc
      have hfin : ∀ s0 W, s0 14 = true → CX s0 W → Keep (SoI w b n adj wet r bg br nx' W) := fun s0 W hs h => by
        rw [hCX] at h; simp only [hs, if_true] at h; exact ⟨h.1⟩
      have hnxe := hnx'
      clear hCX hRX hC0 hnx'
      have hW8z : 0 ≤ W8.heap.size := Nat.zero_le _
      refine (wpIn_wide (n := 0)).1 ?_
      refine Many.region_many CX hmx (by kernel_rfl) hCe (fun s0 hs => hC00 s0 (hs 14 (by decide))) ?_
      cases hwk : wet k with
      | true =>
        have hone : oneSo adj r wet k = true := by simp [oneSo, hwk]
        refine Many.lex_want (by rfl) (Many.tr_read (v := .int .i64 k) RX hCR (hCk 0 (by decide)) (fun W h => by
          skip
          clear h
          go_simp; (try rfl); (try (intro hneg; omega)))) ?_
        simp only [Act.put, List.setIfInBounds_toArray, List.set_cons_succ, List.set_cons_zero, Nat.reduceAdd]
        refine Many.lex_want (by rfl) (Many.tr_read (v := .int .i64 k) RX hCR (hCk 1 (by decide)) (fun W h => by
          skip
          clear h
          go_simp; (try rfl); (try (intro hneg; omega)))) ?_
        simp only [Act.put, List.setIfInBounds_toArray, List.set_cons_succ, List.set_cons_zero, Nat.reduceAdd]
        refine Many.lex_want (by rfl) (Many.tr_read (v := .pointer (some ⟨w.heap.size, k, none⟩)) RX hCR (hCk 2 (by decide)) (fun W h => by
          skip
          clear h
          go_simp; (try rfl); (try (intro hneg; omega)))) ?_
        simp only [Act.put, List.setIfInBounds_toArray, List.set_cons_succ, List.set_cons_zero, Nat.reduceAdd]
        refine Many.lex_want (by rfl) (Many.tr_read (v := .bool true) RX hCR (hCk 3 (by decide)) (fun W h => by
          obtain ⟨c3, -, -, -⟩ := hw12 W h
          rw [hwk] at c3
          clear h
          go_simp; (try rfl); (try (intro hneg; omega)))) ?_
        simp only [Act.put, List.setIfInBounds_toArray, List.set_cons_succ, List.set_cons_zero, Nat.reduceAdd]
        refine Many.lex_want (by rfl) (Many.tr_read (v := .bool true) RX hCR (hCk 4 (by decide)) (fun W h => by
          skip
          clear h
          go_simp; (try rfl); (try (intro hneg; omega)))) ?_
        simp only [Act.put, List.setIfInBounds_toArray, List.set_cons_succ, List.set_cons_zero, Nat.reduceAdd]
        refine lex_skip (by rfl) (hCk 5 (by decide)) ?_
        simp only [Act.put, List.setIfInBounds_toArray, List.set_cons_succ, List.set_cons_zero, Nat.reduceAdd]
        refine lex_skip (by rfl) (hCk 6 (by decide)) ?_
        simp only [Act.put, List.setIfInBounds_toArray, List.set_cons_succ, List.set_cons_zero, Nat.reduceAdd]
        refine lex_skip (by rfl) (hCk 7 (by decide)) ?_
        simp only [Act.put, List.setIfInBounds_toArray, List.set_cons_succ, List.set_cons_zero, Nat.reduceAdd]
        refine lex_skip (by rfl) (hCk 8 (by decide)) ?_
        simp only [Act.put, List.setIfInBounds_toArray, List.set_cons_succ, List.set_cons_zero, Nat.reduceAdd]
        refine lex_skip (by rfl) (hCk 9 (by decide)) ?_
        simp only [Act.put, List.setIfInBounds_toArray, List.set_cons_succ, List.set_cons_zero, Nat.reduceAdd]
        refine lex_skip (by rfl) (hCk 10 (by decide)) ?_
        simp only [Act.put, List.setIfInBounds_toArray, List.set_cons_succ, List.set_cons_zero, Nat.reduceAdd]
        refine lex_skip (by rfl) (hCk 11 (by decide)) ?_
        simp only [Act.put, List.setIfInBounds_toArray, List.set_cons_succ, List.set_cons_zero, Nat.reduceAdd]
        refine Many.lex_want (by rfl) (Many.tr_read (v := .bool true) RX hCR (hCk 12 (by decide)) (fun W h => by
          skip
          clear h
          go_simp; (try rfl); (try (intro hneg; omega)))) ?_
        simp only [Act.put, List.setIfInBounds_toArray, List.set_cons_succ, List.set_cons_zero, Nat.reduceAdd]
        refine Many.lex_want (by rfl) (Many.tr_read (v := .pointer (some ⟨w.heap.size + 1 + 1, k, none⟩)) RX hCR (hCk 13 (by decide)) (fun W h => by
          skip
          clear h
          go_simp; (try rfl); (try (intro hneg; omega)))) ?_
        simp only [Act.put, List.setIfInBounds_toArray, List.set_cons_succ, List.set_cons_zero, Nat.reduceAdd]
        refine Many.lex_want (by rfl) (Many.tr_step (v := undef) (fun s0 W hs hC => ?_)) ?_
        · obtain ⟨⟨cz, fz⟩, h2⟩ := hst s0 W hs hC
          rw [hone] at h2
          have h2k := Keep.mk h2
          clear hC h2
          go_simp
          exact ⟨rfl, h2k.out⟩
        simp only [Act.put, List.setIfInBounds_toArray, List.set_cons_succ, List.set_cons_zero, Nat.reduceAdd]
        refine Many.lex_nil fun s9 W4 hs9 hS4 => ?_
        have hI4 := hfin s9 W4 (hs9 14 (by decide)) hS4
        clear hS4
        go_wp2
        exact ⟨⟨k + 1, by omega, by go_num, by rw [hnxe]; exact hI4⟩, by simp [intOf]; omega⟩
      | false =>
        obtain ⟨A, hA⟩ : ∃ A : Nat, (vsTo (adj k) 12).length = A := ⟨_, rfl⟩
        obtain ⟨B, hB⟩ : ∃ B : Nat, (vsTo D 12).length = B := ⟨_, rfl⟩
        have hA12 := vsTo_len (adj k) 12
        have hB12 := vsTo_len D 12
        rw [hA] at hA12
        rw [hB] at hB12
        have hone : oneSo adj r wet k = decide (r ≤ (A : Int) - (B : Int)) := by simp only [oneSo, hwk, hit, hD, hA, hB, Bool.false_or]
        have hqA := q74.out (adj k)
        have hqB := q74.out D
        rw [hA] at hqA
        rw [hB] at hqB
        have hsub : IntKind.i64.wrap ((A : Int) - (B : Int)) = (A : Int) - (B : Int) := IntWalk.i64_in _ (by omega)
        obtain ⟨z, hz⟩ : ∃ z, decide (r ≤ (A : Int) - (B : Int)) = z := ⟨_, rfl⟩
        rw [hz] at hone
        have hge : decide ((A : Int) - (B : Int) ≥ r) = z := hz
        refine Many.lex_want (by rfl) (Many.tr_read (v := .int .i64 k) RX hCR (hCk 0 (by decide)) (fun W h => by
          skip
          clear h
          go_simp; (try rfl); (try (intro hneg; omega)))) ?_
        simp only [Act.put, List.setIfInBounds_toArray, List.set_cons_succ, List.set_cons_zero, Nat.reduceAdd]
        refine Many.lex_want (by rfl) (Many.tr_read (v := .int .i64 k) RX hCR (hCk 1 (by decide)) (fun W h => by
          skip
          clear h
          go_simp; (try rfl); (try (intro hneg; omega)))) ?_
        simp only [Act.put, List.setIfInBounds_toArray, List.set_cons_succ, List.set_cons_zero, Nat.reduceAdd]
        refine Many.lex_want (by rfl) (Many.tr_read (v := .pointer (some ⟨w.heap.size, k, none⟩)) RX hCR (hCk 2 (by decide)) (fun W h => by
          skip
          clear h
          go_simp; (try rfl); (try (intro hneg; omega)))) ?_
        simp only [Act.put, List.setIfInBounds_toArray, List.set_cons_succ, List.set_cons_zero, Nat.reduceAdd]
        refine Many.lex_want (by rfl) (Many.tr_read (v := .bool false) RX hCR (hCk 3 (by decide)) (fun W h => by
          obtain ⟨c3, -, -, -⟩ := hw12 W h
          rw [hwk] at c3
          clear h
          go_simp; (try rfl); (try (intro hneg; omega)))) ?_
        simp only [Act.put, List.setIfInBounds_toArray, List.set_cons_succ, List.set_cons_zero, Nat.reduceAdd]
        refine Many.lex_want (by rfl) (Many.tr_read (v := .bool false) RX hCR (hCk 4 (by decide)) (fun W h => by
          skip
          clear h
          go_simp; (try rfl); (try (intro hneg; omega)))) ?_
        simp only [Act.put, List.setIfInBounds_toArray, List.set_cons_succ, List.set_cons_zero, Nat.reduceAdd]
        refine Many.lex_want (by rfl) (Many.tr_read (v := .agg #[.bool (adj k 0), .bool (adj k 1), .bool (adj k 2), .bool (adj k 3), .bool (adj k 4), .bool (adj k 5), .bool (adj k 6), .bool (adj k 7), .bool (adj k 8), .bool (adj k 9), .bool (adj k 10), .bool (adj k 11)]) RX hCR (hCk 5 (by decide)) (fun W h => by
          obtain ⟨-, -, ⟨e0, e1, e2, e3, e4, e5, e6, e7, e8, e9, e10, e11⟩, -⟩ := hw12 W h
          clear h
          go_simp; (try rfl); (try (intro hneg; omega)))) ?_
        simp only [Act.put, List.setIfInBounds_toArray, List.set_cons_succ, List.set_cons_zero, Nat.reduceAdd]
        refine Many.lex_want (by rfl) (Many.tr_call (v := .int .i64 A) (f := 74) (args := #[.agg #[.bool (adj k 0), .bool (adj k 1), .bool (adj k 2), .bool (adj k 3), .bool (adj k 4), .bool (adj k 5), .bool (adj k 6), .bool (adj k 7), .bool (adj k 8), .bool (adj k 9), .bool (adj k 10), .bool (adj k 11)]]) RX hCR (fun s0 W h => (hqA W).mono (fun e W' hw' => ⟨hw'.1, hCk 6 (by decide) _ _ (hCa _ _ _ h (hw'.2))⟩)) (fun W h => by clear h; go_simp; try rfl)) ?_
        simp only [Act.put, List.setIfInBounds_toArray, List.set_cons_succ, List.set_cons_zero, Nat.reduceAdd]
        refine Many.lex_want (by rfl) (Many.tr_read (v := .agg #[.bool (D 0), .bool (D 1), .bool (D 2), .bool (D 3), .bool (D 4), .bool (D 5), .bool (D 6), .bool (D 7), .bool (D 8), .bool (D 9), .bool (D 10), .bool (D 11)]) RX hCR (hCk 7 (by decide)) (fun W h => by
          obtain ⟨-, -, -, ⟨e0, e1, e2, e3, e4, e5, e6, e7, e8, e9, e10, e11⟩⟩ := hw12 W h
          clear h
          go_simp; (try rfl); (try (intro hneg; omega)))) ?_
        simp only [Act.put, List.setIfInBounds_toArray, List.set_cons_succ, List.set_cons_zero, Nat.reduceAdd]
        refine Many.lex_want (by rfl) (Many.tr_call (v := .int .i64 B) (f := 74) (args := #[.agg #[.bool (D 0), .bool (D 1), .bool (D 2), .bool (D 3), .bool (D 4), .bool (D 5), .bool (D 6), .bool (D 7), .bool (D 8), .bool (D 9), .bool (D 10), .bool (D 11)]]) RX hCR (fun s0 W h => (hqB W).mono (fun e W' hw' => ⟨hw'.1, hCk 8 (by decide) _ _ (hCa _ _ _ h (hw'.2))⟩)) (fun W h => by clear h; go_simp; try rfl)) ?_
        simp only [Act.put, List.setIfInBounds_toArray, List.set_cons_succ, List.set_cons_zero, Nat.reduceAdd]
        refine Many.lex_want (by rfl) (Many.tr_read (v := .int .i64 ((A : Int) - (B : Int))) RX hCR (hCk 9 (by decide)) (fun W h => by
          skip
          clear h
          go_simp; (try rfl); (try (intro hneg; omega)))) ?_
        simp only [Act.put, List.setIfInBounds_toArray, List.set_cons_succ, List.set_cons_zero, Nat.reduceAdd]
        refine Many.lex_want (by rfl) (Many.tr_read (v := .int .i64 r) RX hCR (hCk 10 (by decide)) (fun W h => by
          obtain ⟨-, c10, -, -⟩ := hw12 W h
          clear h
          go_simp; (try rfl); (try (intro hneg; omega)))) ?_
        simp only [Act.put, List.setIfInBounds_toArray, List.set_cons_succ, List.set_cons_zero, Nat.reduceAdd]
        refine Many.lex_want (by rfl) (Many.tr_read (v := .bool z) RX hCR (hCk 11 (by decide)) (fun W h => by
          skip
          clear h
          go_simp; (try rfl); (try (intro hneg; omega)))) ?_
        simp only [Act.put, List.setIfInBounds_toArray, List.set_cons_succ, List.set_cons_zero, Nat.reduceAdd]
        refine Many.lex_want (by rfl) (Many.tr_read (v := .bool z) RX hCR (hCk 12 (by decide)) (fun W h => by
          skip
          clear h
          go_simp; (try rfl); (try (intro hneg; omega)))) ?_
        simp only [Act.put, List.setIfInBounds_toArray, List.set_cons_succ, List.set_cons_zero, Nat.reduceAdd]
        refine Many.lex_want (by rfl) (Many.tr_read (v := .pointer (some ⟨w.heap.size + 1 + 1, k, none⟩)) RX hCR (hCk 13 (by decide)) (fun W h => by
          skip
          clear h
          go_simp; (try rfl); (try (intro hneg; omega)))) ?_
        simp only [Act.put, List.setIfInBounds_toArray, List.set_cons_succ, List.set_cons_zero, Nat.reduceAdd]
        refine Many.lex_want (by rfl) (Many.tr_step (v := undef) (fun s0 W hs hC => ?_)) ?_
        · obtain ⟨⟨cz, fz⟩, h2⟩ := hst s0 W hs hC
          rw [hone] at h2
          have h2k := Keep.mk h2
          clear hC h2
          go_simp
          exact ⟨rfl, h2k.out⟩
        simp only [Act.put, List.setIfInBounds_toArray, List.set_cons_succ, List.set_cons_zero, Nat.reduceAdd]
        refine Many.lex_nil fun s9 W4 hs9 hS4 => ?_
        have hI4 := hfin s9 W4 (hs9 14 (by decide)) hS4
        clear hS4
        go_wp2
        exact ⟨⟨k + 1, by omega, by go_num, by rw [hnxe]; exact hI4⟩, by simp [intOf]; omega⟩
    · obtain rfl : k = n := by omega
      have hlt' : ¬ (k : Int) < (k : Int) := by omega
      obtain ⟨F, hF⟩ : ∃ F : Nat → Bool, (fun j => if j < k then oneSo adj r wet j else wet j) = F := ⟨_, rfl⟩
      rw [hF] at hI
      have hFe : sokd k adj r wet = F := by rw [← hF]; rfl
      obtain ⟨x0, x1, x2, x3, x4, x5, x6, x7, x8, x9, x10, x11⟩ := hI.out.n5.c12
      obtain ⟨z0, z1, z2, z3, z4, z5, z6, z7, z8, z9, z10, z11⟩ := hI.out.z.c12
      obtain ⟨f0, f1, f2, f3, f4, f5, f6, f7, f8, f9, f10, f11⟩ := hI.out.z.f12
      have hbk := Keep.mk (And.intro hI.out.bw hFe)
      clear hI hF hFe q85 q74
      go_wp2
      refine bodyPost_ret (v := .agg #[.bool (F 0), .bool (F 1), .bool (F 2), .bool (F 3), .bool (F 4), .bool (F 5), .bool (F 6), .bool (F 7), .bool (F 8), .bool (F 9), .bool (F 10), .bool (F 11)]) (by simp [results, Try.results86, go_sem]; try go_simp) rfl ?_
      refine ⟨by rw [hbk.out.2], ?_⟩
      iterate 12 (refine Below.setCell ?_ (by show w.heap.size ≤ w.heap.size + 1; omega) _)
      exact hbk.out.1
end Go.Proofs.Yteekigpdiklppaa
set_option linter.unusedSimpArgs false
set_option linter.unusedVariables false
namespace Go.Proofs.Yteekigpdiklppaa
open Go Go.Proofs Go.RowKit Go.Seq
attribute [local go_sem] Oper.semAt_some
def vz (n : Int) : Value := .int .i64 n
abbrev Pts := List (Int × Int)
theorem cell_below {w w' : World} {g k : Nat} {v : Value} (h : w.cell? ⟨g, k, none⟩ = some v) (b : Below w.heap.size w w') : w'.cell? ⟨g, k, none⟩ = some v := by
  have h1 := cell_lt h
  rw [b.cell (p := ⟨g, k, none⟩) h1]; exact h
/-- A list of pairs in memory, from the start of a block on. -/
def PairsOf (w : World) (v : Value) (ps : Pts) : Prop :=
  ∃ A cap, v = .slice A ps.length cap ∧ ∀ k, k < ps.length → ∃ g, A = some ⟨g, 0, none⟩ ∧ w.cell? ⟨g, k * 2, none⟩ = some (.int .i64 (ps.getD k (0, 0)).1) ∧ w.cell? ⟨g, k * 2 + 1, none⟩ = some (.int .i64 (ps.getD k (0, 0)).2)
theorem pairsOf_below {w w' : World} {v : Value} {l : Pts} (h : PairsOf w v l) (b : Below w.heap.size w w') : PairsOf w' v l := by
  obtain ⟨A, cap, hv, hc⟩ := h
  refine ⟨A, cap, hv, fun k hk => ?_⟩
  obtain ⟨g, hA, h1, h2⟩ := hc k hk
  exact ⟨g, hA, cell_below h1 b, cell_below h2 b⟩
theorem getp {ps : Pts} {k : Nat} (h : k < ps.length) : ps.getD k (0, 0) ∈ ps := by
  rw [List.getD_eq_getElem?_getD, List.getElem?_eq_getElem h]; exact List.getElem_mem _
theorem takep {ps : Pts} {k : Nat} (h : k < ps.length) : ps.take (k + 1) = ps.take k ++ [ps.getD k (0, 0)] := by
  rw [List.take_add_one, List.getElem?_eq_getElem h, List.getD_eq_getElem?_getD, List.getElem?_eq_getElem h]; rfl
/-- Who is near whom. -/
def adjOf (ps : Pts) (i j : Nat) : Bool := ps.any fun p => (p.1 == (i : Int) && p.2 == (j : Int)) || (p.1 == (j : Int) && p.2 == (i : Int))
/-- An edge that may follow those before it. -/
structure EdgeOk (n : Int) (pre : Pts) (p : Int × Int) : Prop where
  a0 : 0 ≤ p.1
  an : p.1 < n
  b0 : 0 ≤ p.2
  bn : p.2 < n
  ab : p.1 < p.2
  new : adjOf pre p.1.toNat p.2.toNat = false
structure GrOk (n : Int) (ps : Pts) : Prop where
  n1 : 1 ≤ n
  n12 : n ≤ 12
  ed : ∀ k, k < ps.length → EdgeOk n (ps.take k) (ps.getD k (0, 0))
/-- A graph in memory, all of its block. -/
structure GraphH (W : World) (b n : Nat) (adj : Nat → Nat → Bool) : Prop where
  blk : ∃ arr : Array Value, W.heap[b]? = some (.cells arr 118 (0, 0)) ∧ arr.size = 145 ∧ arr[0]? = some (.int .i64 n) ∧ ∀ i j, i < 12 → j < 12 → arr[1 + i * 12 + j]? = some (.bool (adj i j))
theorem GraphH.at {W : World} {b n : Nat} {adj : Nat → Nat → Bool} (h : GraphH W b n adj) : GraphAt W b n adj := by
  obtain ⟨arr, h1, h2, h3, h4⟩ := h.blk
  exact ⟨by simp [World.cell?, h1, h3], fun i j hi hj => by simp [World.cell?, h1, h4 i j hi hj]⟩
theorem GraphH.free {W : World} {b n : Nat} {adj : Nat → Nat → Bool} (h : GraphH W b n adj) (k : Nat) : W.frozen? ⟨b, k, none⟩ = false := by
  obtain ⟨arr, h1, h2, h3, h4⟩ := h.blk
  simp [World.frozen?, h1]
theorem GraphH.below {W W' : World} {B b n : Nat} {adj : Nat → Nat → Bool} (h : GraphH W b n adj) (hb : Below B W W') (hl : b < B) : GraphH W' b n adj := by
  obtain ⟨arr, h1, h2⟩ := h.blk
  exact ⟨arr, (hb.block b hl).trans h1, h2⟩
theorem GraphH.lt {W : World} {b n : Nat} {adj : Nat → Nat → Bool} (h : GraphH W b n adj) : b < W.heap.size := by
  obtain ⟨arr, h1, h2⟩ := h.blk
  exact (Array.getElem?_eq_some_iff.1 h1).1
theorem GraphH.set {W : World} {b n : Nat} {adj adj' : Nat → Nat → Bool} (h : GraphH W b n adj) {a c : Nat} {v : Bool} (ha : a < 12) (hc : c < 12) (hv : adj' a c = v) (ho : ∀ i j, i < 12 → j < 12 → ¬ (i = a ∧ j = c) → adj' i j = adj i j) :
    GraphH (W.setCell ⟨b, 1 + a * 12 + c, none⟩ (.bool v)) b n adj' := by
  obtain ⟨arr, h1, h2, h3, h4⟩ := h.blk
  refine ⟨_, heap_set h1 _, by simp [h2], ?_, fun i j hi hj => ?_⟩
  · rw [Array.getElem?_setIfInBounds_ne (by omega)]; exact h3
  · by_cases e : i = a ∧ j = c
    · obtain ⟨rfl, rfl⟩ := e
      rw [Array.getElem?_setIfInBounds_self_of_lt (by omega), hv]
    · rw [Array.getElem?_setIfInBounds_ne (by omega), h4 i j hi hj, ho i j hi hj e]
theorem adjOf_push (ps : Pts) (a c : Nat) (i j : Nat) : adjOf (ps ++ [((a : Int), (c : Int))]) i j = (adjOf ps i j || ((i == a && j == c) || (i == c && j == a))) := by
  unfold adjOf
  rw [List.any_append]
  have e : ∀ x y : Nat, ((x : Int) == (y : Int)) = (y == x) := fun x y => by rw [Bool.eq_iff_iff, beq_iff_eq, beq_iff_eq]; omega
  simp only [List.any_cons, List.any_nil, Bool.or_false, e]
  rw [Bool.and_comm (j == a)]
theorem adjOf_symm (ps : Pts) (i j : Nat) : adjOf ps i j = adjOf ps j i := by
  unfold adjOf
  congr 1
  funext p
  rw [Bool.or_comm]
def gzero (n : Int) : Array Value := #[.int .i64 n] ++ Array.replicate 144 (.bool false)
theorem gz_eq (n : Int) : Try.zeroCells118.setIfInBounds 0 (.int .i64 n) = gzero n := by kernel_rfl
theorem below_dn (W : World) (q : Nat) : Below W.heap.size W (W.drewN q) := ⟨rfl, rfl, rfl, Nat.le_refl _, fun _ _ => rfl⟩
def AX (A : Nat → Nat → Bool) (a c : Nat) (x y : Bool) (i j : Nat) : Bool := A i j || ((x && (i == a && j == c)) || (y && (i == c && j == a)))
def Cq (W : World) (_ : Nat → Bool) (w : World) : Prop := ∃ q, w = W.drewN q
theorem Cq.keep {W : World} {k : Nat} : ∀ s w, Cq W s w → Cq W (Many.upd s k) w := fun _ _ h => h
theorem rd {P : Program} {W : World} {k : Nat} {o : Oper} {a : Act} {v : Value} (h : ∀ q, (execOp a.eval o).run P (W.drewN q) = .ok (.value v) (W.drewN q)) : Many.Tr P (Cq W) k o a v :=
  Many.tr_read (fun w => ∃ q, w = W.drewN q) (fun _ _ h => h) (fun _ _ h => h) (fun w ⟨q, hq⟩ => by rw [hq]; exact h q)
set_option maxRecDepth 100000 in
theorem gzero_at (n : Int) : ∀ i j, i < 12 → j < 12 → (gzero n)[1 + i * 12 + j]? = some (.bool false) := by
  intro i j hi hj
  have h : ∀ k, k < 144 → (gzero n)[1 + k]? = some (.bool false) := by
    intro k hk
    unfold gzero
    rw [Array.getElem?_append_right (by simp), Array.getElem?_replicate]
    simp; omega
  have := h (i * 12 + j) (by omega)
  rw [← Nat.add_assoc] at this
  exact this
theorem gzero_size (n : Int) : (gzero n).size = 145 := by unfold gzero; simp
theorem graph_new (w : World) (n : Nat) : GraphH (w.alloc (.cells (gzero n) 118)) w.heap.size n (adjOf []) :=
  ⟨_, World.alloc_heap_new w _, gzero_size n, by simp [gzero], fun i j hi hj => gzero_at n i j hi hj⟩
theorem readGraph_n {n : Int} {v : Value} {w : World} (h : n < 1 ∨ 12 < n) : Calls Try.prog 69 #[.int .i64 n, v] w fun e w' => e = .returned (.tuple #[.pointer none, .bool false]) ∧ Below w.heap.size w w' := by
  go_enter Try.func69, Try.ntmps69
  rcases h with h | h
  · go_wp2
    refine bodyPost_ret (v := .tuple #[.pointer none, .bool false]) (by simp [results, Try.results69, go_sem]) rfl ?_
    exact ⟨rfl, Below.refl _ _⟩
  · have h1 : ¬ n < 1 := by omega
    go_wp2
    refine bodyPost_ret (v := .tuple #[.pointer none, .bool false]) (by simp [results, Try.results69, go_sem]) rfl ?_
    exact ⟨rfl, Below.refl _ _⟩
set_option maxHeartbeats 1000000 in
set_option maxRecDepth 100000 in
theorem readGraph_yes {n : Nat} {v : Value} {ps : Pts} {w : World} (hv : PairsOf w v ps) (hok : GrOk n ps) (hl : ps.length ≤ 200) :
    Calls Try.prog 69 #[.int .i64 n, v] w fun e w' => e = .returned (.tuple #[.pointer (some ⟨w.heap.size, 0, none⟩), .bool true]) ∧ GraphH w' w.heap.size n (adjOf ps) ∧ Below w.heap.size w w' := by
  have hmx : Try.prog.follows .mixedOrders = true := by kernel_rfl
  obtain ⟨A, cap, rfl, hc⟩ := hv
  have hck := Keep.mk hc
  have n1 := hok.n1
  have n12 := hok.n12
  have h5k := Keep.mk hok.ed
  obtain ⟨m, hm⟩ : ∃ m, Keep (ps.length = m) := ⟨_, ⟨rfl⟩⟩
  rw [hm.out] at hl hck h5k ⊢
  have g1 : ¬ (n : Int) < 1 := by omega
  have g2 : ¬ (n : Int) > 12 := by omega
  obtain ⟨wa, hwa⟩ : ∃ wa, w.alloc (.cells (Try.zeroCells118.setIfInBounds 0 (.int .i64 n)) 118) = wa := ⟨_, rfl⟩
  have ba : Below w.heap.size w wa := by rw [← hwa]; exact (Below.refl _ _).alloc (Nat.le_refl _) _
  have ga : GraphH wa w.heap.size n (adjOf []) := by rw [← hwa, gz_eq]; exact graph_new w n
  have hI : Keep (GraphH wa w.heap.size n (adjOf (ps.take 0)) ∧ Below w.heap.size w wa) := ⟨by simpa using ga, ba⟩
  clear hc hok ga ba
  go_enter Try.func69, Try.ntmps69
  go_wp2
  try rw [hwa]
  clear hwa
  go_loopw [22] (fun i wr => ∃ k : Nat, k ≤ m ∧ i = .int .i64 k ∧ Keep (GraphH wr w.heap.size n (adjOf (ps.take k)) ∧ Below w.heap.size w wr)) (fun i _ => m - (intOf i).toNat)
  case atStart => exact ⟨0, by omega, rfl, hI⟩
  case round =>
    obtain ⟨k, hk, rfl, hI⟩ := hrel
    have hw1 : IntKind.i64.wrap ((k : Int) + 1) = (k : Int) + 1 := IntWalk.i64_in _ (by omega)
    by_cases hlt : k < m
    · have hlt' : (k : Int) < (m : Int) := by omega
      obtain ⟨g, rfl, c0, c1⟩ := hck.out k hlt
      have hbz := hI.out.2.size
      have c0 := cell_below c0 hI.out.2
      have c1 := cell_below c1 hI.out.2
      have hed := h5k.out k hlt
      have hpush := takep (ps := ps) (k := k) (by rw [hm.out]; exact hlt)
      generalize ps.getD k (0, 0) = p at c0 c1 hed hpush
      obtain ⟨x, y⟩ := p
      obtain ⟨e1, e2, e3, e4, e5, e6⟩ := hed
      simp only at c0 c1 e1 e2 e3 e4 e5 e6
      obtain ⟨a, ha⟩ : ∃ a : Nat, (a : Int) = x := ⟨x.toNat, by omega⟩
      obtain ⟨c, hc⟩ : ∃ c : Nat, (c : Int) = y := ⟨y.toNat, by omega⟩
      subst ha hc
      simp only [Int.toNat_natCast] at e6
      have han : a < n := by omega
      have hcn : c < n := by omega
      have hac : ¬ ((a : Int) ≥ (c : Int)) := by omega
      have ha12 : (a : Int) < 12 := by omega
      have hc12 : (c : Int) < 12 := by omega
      have ha0 : ¬ (a : Int) < 0 := by omega
      have hc0 : ¬ (c : Int) < 0 := by omega
      obtain ⟨W1, hW1⟩ : ∃ W1, wr.alloc (.cells #[.int .i64 a, .int .i64 c] 63) = W1 := ⟨_, rfl⟩
      have b1 : Below wr.heap.size wr W1 := by rw [← hW1]; exact (Below.refl _ _).alloc (Nat.le_refl _) _
      have h8 : W1.heap[wr.heap.size]? = some (.cells #[.int .i64 a, .int .i64 c] 63 (0, 0)) := by rw [← hW1]; exact World.alloc_heap_new wr _
      have hI1 : Keep (GraphH W1 w.heap.size n (adjOf (ps.take k)) ∧ Below w.heap.size w W1) := ⟨hI.out.1.below b1 hI.out.1.lt, hI.out.2.trans (b1.mono hI.out.2.size)⟩
      have r0 : W1.cell? ⟨wr.heap.size, 0, none⟩ = some (.int .i64 a) := by simp [World.cell?, h8]
      have r1 : W1.cell? ⟨wr.heap.size, 1, none⟩ = some (.int .i64 c) := by simp [World.cell?, h8]
      clear hI b1 h8
      go_wp2
      try rw [hW1]
      clear hW1
      refine (wpIn_wide (n := 0)).1 ?_
      refine Many.region_many (Cq W1) hmx (by kernel_rfl) (fun s s' W' h hc => hc) (fun s hs => ⟨1, rfl⟩) ?_
      refine Many.lex_want (by rfl) (rd (v := .pointer (some ⟨wr.heap.size, 0, none⟩)) (fun q => by (go_simp; try rfl))) ?_
      simp only [Act.put, List.setIfInBounds_toArray, List.set_cons_succ, List.set_cons_zero, Nat.reduceAdd]
      refine Many.lex_want (by rfl) (rd (v := .int .i64 a) (fun q => by (go_simp; try rfl))) ?_
      simp only [Act.put, List.setIfInBounds_toArray, List.set_cons_succ, List.set_cons_zero, Nat.reduceAdd]
      refine Many.lex_want (by rfl) (rd (v := .pointer (some ⟨wr.heap.size, 1, none⟩)) (fun q => by (go_simp; try rfl))) ?_
      simp only [Act.put, List.setIfInBounds_toArray, List.set_cons_succ, List.set_cons_zero, Nat.reduceAdd]
      refine Many.lex_want (by rfl) (rd (v := .int .i64 c) (fun q => by (go_simp; try rfl))) ?_
      simp only [Act.put, List.setIfInBounds_toArray, List.set_cons_succ, List.set_cons_zero, Nat.reduceAdd]
      refine Many.lex_want (by rfl) (rd (v := .int .i64 a) (fun q => by (go_simp; try rfl))) ?_
      simp only [Act.put, List.setIfInBounds_toArray, List.set_cons_succ, List.set_cons_zero, Nat.reduceAdd]
      refine Many.lex_want (by rfl) (rd (v := .int .i64 c) (fun q => by (go_simp; try rfl))) ?_
      simp only [Act.put, List.setIfInBounds_toArray, List.set_cons_succ, List.set_cons_zero, Nat.reduceAdd]
      refine Many.lex_nil fun s9 W2 hs9 hS9 => ?_
      have hI2 : Keep (GraphH W2 w.heap.size n (adjOf (ps.take k)) ∧ Below w.heap.size w W2) := by
        obtain ⟨q, rfl⟩ := hS9
        have hb := below_dn W1 q
        exact ⟨hI1.out.1.below hb hI1.out.1.lt, hI1.out.2.trans (hb.mono hI1.out.2.size)⟩
      clear hI1 hS9 hs9 r0 r1 c0 c1
      have qa := has_any hI2.out.1.at (a : Int)
      have qc := has_any hI2.out.1.at (c : Int)
      rw [decide_eq_true (by omega)] at qa qc
      have hadj := (hI2.out.1.at).at_ a c (by omega) (by omega)
      rw [e6] at hadj
      go_wp2_with (first
        | (go_at_call 80; (with_reducible refine qa.mono ?_); rintro e w5 ⟨rfl, he5⟩; rw [he5]; clear he5 w5)
        | (go_at_call 80; (with_reducible refine qc.mono ?_); rintro e w5 ⟨rfl, he5⟩; rw [he5]; clear he5 w5))
      clear hadj qa qc
      obtain ⟨A0, hA0⟩ : ∃ A0, adjOf (ps.take k) = A0 := ⟨_, rfl⟩
      have hA2e : ∀ i j, adjOf (ps.take (k + 1)) i j = AX A0 a c true true i j := fun i j => by
        rw [hpush, ← hA0, adjOf_push]
        simp only [AX, Bool.true_and, Bool.or_assoc]
      rw [hA0] at hI2
      obtain ⟨CX, hCXd⟩ : ∃ CX : (Nat → Bool) → World → Prop, CX = fun s0 W => GraphH W w.heap.size n (AX A0 a c (s0 10) (s0 15)) ∧ Below w.heap.size w W := ⟨_, rfl⟩
      have hCk : ∀ i, i ≠ 10 → i ≠ 15 → ∀ s0 W, CX s0 W → CX (Many.upd s0 i) W := fun i h1 h2 s0 W h => by
        rw [hCXd] at h ⊢
        simp only at h ⊢
        rw [show Many.upd s0 i 10 = s0 10 by simp [Many.upd, h1], show Many.upd s0 i 15 = s0 15 by simp [Many.upd, h2]]; exact h
      have hs10 : ∀ s0 W, s0 10 = false → CX s0 W → ((∃ u, W.cell? ⟨w.heap.size, 1 + a * 12 + c, none⟩ = some (.bool u)) ∧ W.frozen? ⟨w.heap.size, 1 + a * 12 + c, none⟩ = false) ∧ CX (Many.upd s0 10) (W.setCell ⟨w.heap.size, 1 + a * 12 + c, none⟩ (.bool true)) := fun s0 W hs h => by
        rw [hCXd] at h ⊢
        simp only at h ⊢
        rw [show Many.upd s0 10 10 = true by simp [Many.upd], show Many.upd s0 10 15 = s0 15 by simp [Many.upd]]
        rw [hs] at h
        refine ⟨⟨⟨_, h.1.at.at_ a c (by omega) (by omega)⟩, h.1.free _⟩, h.1.set (by omega) (by omega) (by simp [AX]) (fun i j _ _ hij => ?_), h.2.setCell (p := ⟨w.heap.size, _, none⟩) (Nat.le_refl _) _⟩
        have hx : (i == a && j == c) = false := by rw [Bool.and_eq_false_iff, beq_eq_false_iff_ne, beq_eq_false_iff_ne]; omega
        simp [AX, hx]
      have hs15 : ∀ s0 W, s0 15 = false → CX s0 W → ((∃ u, W.cell? ⟨w.heap.size, 1 + c * 12 + a, none⟩ = some (.bool u)) ∧ W.frozen? ⟨w.heap.size, 1 + c * 12 + a, none⟩ = false) ∧ CX (Many.upd s0 15) (W.setCell ⟨w.heap.size, 1 + c * 12 + a, none⟩ (.bool true)) := fun s0 W hs h => by
        rw [hCXd] at h ⊢
        simp only at h ⊢
        rw [show Many.upd s0 15 10 = s0 10 by simp [Many.upd], show Many.upd s0 15 15 = true by simp [Many.upd]]
        rw [hs] at h
        refine ⟨⟨⟨_, h.1.at.at_ c a (by omega) (by omega)⟩, h.1.free _⟩, h.1.set (by omega) (by omega) (by simp [AX]) (fun i j _ _ hij => ?_), h.2.setCell (p := ⟨w.heap.size, _, none⟩) (Nat.le_refl _) _⟩
        have hx : (i == c && j == a) = false := by rw [Bool.and_eq_false_iff, beq_eq_false_iff_ne, beq_eq_false_iff_ne]; omega
        simp [AX, hx]
      have hC0 : ∀ s0 : Nat → Bool, s0 10 = false → s0 15 = false → CX s0 W2.drew := fun s0 h1 h2 => by
        rw [hCXd]
        simp only [h1, h2]
        have hb := (Below.refl W2.heap.size W2).drew
        rw [show AX A0 a c false false = A0 by funext i j; simp [AX]]
        exact ⟨hI2.out.1.below hb hI2.out.1.lt, hI2.out.2.trans (hb.mono hI2.out.2.size)⟩
      have hCe : ∀ s0 s1 W, (∀ j, s0 j = s1 j) → CX s0 W → CX s1 W := fun s0 s1 W h hc => by
        rw [hCXd] at hc ⊢; simp only at hc ⊢; rw [← h, ← h]; exact hc
      have hfin : ∀ s0 W, s0 10 = true → s0 15 = true → CX s0 W → Keep (GraphH W w.heap.size n (adjOf (ps.take (k + 1))) ∧ Below w.heap.size w W) := fun s0 W h1 h2 h => by
        rw [hCXd] at h; simp only [h1, h2] at h
        exact ⟨by rw [show adjOf (ps.take (k + 1)) = AX A0 a c true true from funext fun i => funext fun j => hA2e i j]; exact h.1, h.2⟩
      clear hCXd hA2e hI2 hA0
      refine (wpIn_wide (n := 0)).1 ?_
      refine Many.region_many CX hmx (by kernel_rfl) hCe (fun s0 hs => hC0 s0 (hs 10 (by decide)) (hs 15 (by decide))) ?_
      refine Many.lex_want (by rfl) (Many.tr_read (v := .pointer (some ⟨w.heap.size, 0, none⟩)) (fun _ => True) (fun _ _ _ => trivial) (hCk 0 (by decide) (by decide)) (fun W h => by clear h; go_simp; (try rfl); (try (intro hneg; omega)))) ?_
      simp only [Act.put, List.setIfInBounds_toArray, List.set_cons_succ, List.set_cons_zero, Nat.reduceAdd]
      refine Many.lex_want (by rfl) (Many.tr_read (v := .int .i64 a) (fun _ => True) (fun _ _ _ => trivial) (hCk 1 (by decide) (by decide)) (fun W h => by clear h; go_simp; (try rfl); (try (intro hneg; omega)))) ?_
      simp only [Act.put, List.setIfInBounds_toArray, List.set_cons_succ, List.set_cons_zero, Nat.reduceAdd]
      refine Many.lex_want (by rfl) (Many.tr_read (v := .int .i64 c) (fun _ => True) (fun _ _ _ => trivial) (hCk 2 (by decide) (by decide)) (fun W h => by clear h; go_simp; (try rfl); (try (intro hneg; omega)))) ?_
      simp only [Act.put, List.setIfInBounds_toArray, List.set_cons_succ, List.set_cons_zero, Nat.reduceAdd]
      refine Many.lex_want (by rfl) (Many.tr_read (v := .pointer (some ⟨w.heap.size, 0, none⟩)) (fun _ => True) (fun _ _ _ => trivial) (hCk 3 (by decide) (by decide)) (fun W h => by clear h; go_simp; (try rfl); (try (intro hneg; omega)))) ?_
      simp only [Act.put, List.setIfInBounds_toArray, List.set_cons_succ, List.set_cons_zero, Nat.reduceAdd]
      refine Many.lex_want (by rfl) (Many.tr_read (v := .int .i64 c) (fun _ => True) (fun _ _ _ => trivial) (hCk 4 (by decide) (by decide)) (fun W h => by clear h; go_simp; (try rfl); (try (intro hneg; omega)))) ?_
      simp only [Act.put, List.setIfInBounds_toArray, List.set_cons_succ, List.set_cons_zero, Nat.reduceAdd]
      refine Many.lex_want (by rfl) (Many.tr_read (v := .int .i64 a) (fun _ => True) (fun _ _ _ => trivial) (hCk 5 (by decide) (by decide)) (fun W h => by clear h; go_simp; (try rfl); (try (intro hneg; omega)))) ?_
      simp only [Act.put, List.setIfInBounds_toArray, List.set_cons_succ, List.set_cons_zero, Nat.reduceAdd]
      refine Many.lex_want (by rfl) (Many.tr_read (v := .pointer (some ⟨w.heap.size, 0, none⟩)) (fun _ => True) (fun _ _ _ => trivial) (hCk 6 (by decide) (by decide)) (fun W h => by clear h; go_simp; (try rfl); (try (intro hneg; omega)))) ?_
      simp only [Act.put, List.setIfInBounds_toArray, List.set_cons_succ, List.set_cons_zero, Nat.reduceAdd]
      refine Many.lex_want (by rfl) (Many.tr_read (v := .pointer (some ⟨w.heap.size, 1, none⟩)) (fun _ => True) (fun _ _ _ => trivial) (hCk 7 (by decide) (by decide)) (fun W h => by clear h; go_simp; (try rfl); (try (intro hneg; omega)))) ?_
      simp only [Act.put, List.setIfInBounds_toArray, List.set_cons_succ, List.set_cons_zero, Nat.reduceAdd]
      refine Many.lex_want (by rfl) (Many.tr_read (v := .pointer (some ⟨w.heap.size, 1 + a * 12, none⟩)) (fun _ => True) (fun _ _ _ => trivial) (hCk 8 (by decide) (by decide)) (fun W h => by clear h; go_simp; (try rfl); (try (intro hneg; omega)))) ?_
      simp only [Act.put, List.setIfInBounds_toArray, List.set_cons_succ, List.set_cons_zero, Nat.reduceAdd]
      refine Many.lex_want (by rfl) (Many.tr_read (v := .pointer (some ⟨w.heap.size, 1 + a * 12 + c, none⟩)) (fun _ => True) (fun _ _ _ => trivial) (hCk 9 (by decide) (by decide)) (fun W h => by clear h; go_simp; (try rfl); (try (intro hneg; omega)))) ?_
      simp only [Act.put, List.setIfInBounds_toArray, List.set_cons_succ, List.set_cons_zero, Nat.reduceAdd]
      refine Many.lex_want (by rfl) (Many.tr_step (v := undef) (fun s0 W hs hC => ?_)) ?_
      · obtain ⟨⟨⟨u, cz⟩, fz⟩, h2⟩ := hs10 s0 W hs hC
        have h2k := Keep.mk h2
        clear hC h2
        go_simp
        exact ⟨rfl, h2k.out⟩
      simp only [Act.put, List.setIfInBounds_toArray, List.set_cons_succ, List.set_cons_zero, Nat.reduceAdd]
      refine Many.lex_want (by rfl) (Many.tr_read (v := .pointer (some ⟨w.heap.size, 0, none⟩)) (fun _ => True) (fun _ _ _ => trivial) (hCk 11 (by decide) (by decide)) (fun W h => by clear h; go_simp; (try rfl); (try (intro hneg; omega)))) ?_
      simp only [Act.put, List.setIfInBounds_toArray, List.set_cons_succ, List.set_cons_zero, Nat.reduceAdd]
      refine Many.lex_want (by rfl) (Many.tr_read (v := .pointer (some ⟨w.heap.size, 1, none⟩)) (fun _ => True) (fun _ _ _ => trivial) (hCk 12 (by decide) (by decide)) (fun W h => by clear h; go_simp; (try rfl); (try (intro hneg; omega)))) ?_
      simp only [Act.put, List.setIfInBounds_toArray, List.set_cons_succ, List.set_cons_zero, Nat.reduceAdd]
      refine Many.lex_want (by rfl) (Many.tr_read (v := .pointer (some ⟨w.heap.size, 1 + c * 12, none⟩)) (fun _ => True) (fun _ _ _ => trivial) (hCk 13 (by decide) (by decide)) (fun W h => by clear h; go_simp; (try rfl); (try (intro hneg; omega)))) ?_
      simp only [Act.put, List.setIfInBounds_toArray, List.set_cons_succ, List.set_cons_zero, Nat.reduceAdd]
      refine Many.lex_want (by rfl) (Many.tr_read (v := .pointer (some ⟨w.heap.size, 1 + c * 12 + a, none⟩)) (fun _ => True) (fun _ _ _ => trivial) (hCk 14 (by decide) (by decide)) (fun W h => by clear h; go_simp; (try rfl); (try (intro hneg; omega)))) ?_
      simp only [Act.put, List.setIfInBounds_toArray, List.set_cons_succ, List.set_cons_zero, Nat.reduceAdd]
      refine Many.lex_want (by rfl) (Many.tr_step (v := undef) (fun s0 W hs hC => ?_)) ?_
      · obtain ⟨⟨⟨u, cz⟩, fz⟩, h2⟩ := hs15 s0 W hs hC
        have h2k := Keep.mk h2
        clear hC h2
        go_simp
        exact ⟨rfl, h2k.out⟩
      simp only [Act.put, List.setIfInBounds_toArray, List.set_cons_succ, List.set_cons_zero, Nat.reduceAdd]
      refine Many.lex_nil fun s9 W4 hs9 hS4 => ?_
      have hI4 := hfin s9 W4 (hs9 10 (by decide)) (hs9 15 (by decide)) hS4
      clear hS4 hs9
      go_wp2
      exact ⟨⟨k + 1, by omega, by go_num, hI4⟩, by simp [intOf]; omega⟩
    · obtain rfl : k = m := by omega
      have hlt' : ¬ (k : Int) < (k : Int) := by omega
      go_wp2
      refine bodyPost_ret (v := .tuple #[.pointer (some ⟨w.heap.size, 0, none⟩), .bool true]) (by simp [results, Try.results69, go_sem]) rfl ?_
      have h := hI.out.1
      rw [show ps.take k = ps by rw [← hm.out]; simp] at h
      exact ⟨rfl, h, hI.out.2⟩
end Go.Proofs.Yteekigpdiklppaa
set_option linter.unusedSimpArgs false
set_option linter.unusedVariables false
namespace Go.Proofs.Yteekigpdiklppaa
open Go Go.Proofs Go.RowKit Go.Seq
attribute [local go_sem] Oper.semAt_some
/-- A list of ints in memory, from somewhere in a block on. -/
def IntsO (w : World) (v : Value) (zs : List Int) : Prop :=
  ∃ A cap, v = .slice A zs.length cap ∧ ∀ k, k < zs.length → ∃ g o, A = some ⟨g, o, none⟩ ∧ w.cell? ⟨g, o + k, none⟩ = some (.int .i64 (zs.getD k 0))
theorem intsO_below {w w' : World} {v : Value} {l : List Int} (h : IntsO w v l) (b : Below w.heap.size w w') : IntsO w' v l := by
  obtain ⟨A, cap, hv, hc⟩ := h
  refine ⟨A, cap, hv, fun k hk => ?_⟩
  obtain ⟨g, o, hA, hg⟩ := hc k hk
  exact ⟨g, o, hA, cell_below hg b⟩
theorem takez {zs : List Int} {k : Nat} (h : k < zs.length) : zs.take (k + 1) = zs.take k ++ [zs.getD k 0] := by
  rw [List.take_add_one, List.getElem?_eq_getElem h, List.getD_eq_getElem?_getD, List.getElem?_eq_getElem h]; rfl
/-- The places of a list, as a set. -/
def setOf (zs : List Int) (j : Nat) : Bool := zs.any fun z => z == (j : Int)
def lastZ (zs : List Int) : Int := zs.getLast?.getD (-1)
structure ListOk (n : Int) (zs : List Int) : Prop where
  el : ∀ k, k < zs.length → 0 ≤ zs.getD k 0 ∧ zs.getD k 0 < n ∧ lastZ (zs.take k) < zs.getD k 0
structure RsI (w : World) (g g11 n : Nat) (adj : Nat → Nat → Bool) (s z : Nat → Bool) (W : World) : Prop where
  gr : GraphH W g n adj
  t7 : SetAt W w.heap.size z
  s11 : SetAt W g11 s
  bw : Below w.heap.size w W
  lg : w.heap.size < g
  l11 : w.heap.size < g11
  ne : g ≠ g11
theorem RsI.after {w W W' : World} {g g11 n : Nat} {adj : Nat → Nat → Bool} {s z : Nat → Bool} (h : RsI w g g11 n adj s z W) (hb : Below W.heap.size W W') : RsI w g g11 n adj s z W' :=
  ⟨h.gr.below hb h.gr.lt, h.t7.after hb, h.s11.after hb, h.bw.trans (hb.mono h.bw.size), h.lg, h.l11, h.ne⟩
theorem GraphH.other {W : World} {b n : Nat} {adj : Nat → Nat → Bool} (h : GraphH W b n adj) {W' : World} (hh : W'.heap[b]? = W.heap[b]?) : GraphH W' b n adj := by
  obtain ⟨arr, h1, h2⟩ := h.blk
  exact ⟨arr, hh.trans h1, h2⟩
theorem RsI.put {w W : World} {g g11 n : Nat} {adj : Nat → Nat → Bool} {s s' z : Nat → Bool} (h : RsI w g g11 n adj s z W) {u : Nat} (hu : u < 12) (h1 : s' u = true) (h2 : ∀ j, j < 12 → j ≠ u → s' j = s j) : RsI w g g11 n adj s' z (W.setCell ⟨g11, u, none⟩ (.bool true)) :=
  ⟨h.gr.other (Below.heap_setCell W ⟨g11, u, none⟩ _ _ (by show g ≠ g11; exact h.ne)), h.t7.other (by have := h.l11; omega), h.s11.set hu h1 h2, h.bw.setCell (p := ⟨g11, u, none⟩) (by show w.heap.size ≤ g11; have := h.l11; omega) _, h.lg, h.l11, h.ne⟩
theorem RsI.res {w W : World} {g g11 n : Nat} {adj : Nat → Nat → Bool} {s z : Nat → Bool} (y : Nat → Bool) (h : RsI w g g11 n adj s z W) : RsI w g g11 n adj s y (st12 W w.heap.size y) :=
  ⟨h.gr.other (st12_heap _ _ _ (by have := h.lg; omega)), st12_set h.t7, (st12_heap _ _ _ (by have := h.l11; omega)).trans h.s11, st12_below h.bw (Nat.le_refl _), h.lg, h.l11, h.ne⟩
theorem setOf_push (zs : List Int) (u j : Nat) : setOf (zs ++ [(u : Int)]) j = (setOf zs j || j == u) := by
  unfold setOf
  rw [List.any_append]
  congr 1
  simp only [List.any_cons, List.any_nil, Bool.or_false]
  rw [Bool.eq_iff_iff, beq_iff_eq, beq_iff_eq]; omega
set_option maxHeartbeats 2000000 in
set_option maxRecDepth 100000 in
theorem readSet_yes {n : Nat} {v v2 : Value} {ps : Pts} {zs : List Int} {w : World} (hv : PairsOf w v ps) (hok : GrOk n ps) (hl : ps.length ≤ 200) (hv2 : IntsO w v2 zs) (hzk : ListOk n zs) (hl2 : zs.length ≤ 100) :
    Calls Try.prog 57 #[.int .i64 n, v, v2] w fun e w' => ∃ g, e = .returned (.tuple #[.pointer (some ⟨g, 0, none⟩), setV (setOf zs), .bool true]) ∧ GraphH w' g n (adjOf ps) ∧ w.heap.size ≤ g ∧ Below w.heap.size w w' := by
  have hmx : Try.prog.follows .mixedOrders = true := by kernel_rfl
  obtain ⟨wa, hwa⟩ : ∃ wa, w.alloc (.cells (sc (fun _ => false)) 79) = wa := ⟨_, rfl⟩
  have ba : Below w.heap.size w wa := by rw [← hwa]; exact (Below.refl _ _).alloc (Nat.le_refl _) _
  have sa : wa.heap.size = w.heap.size + 1 := by rw [← hwa]; simp
  have fa : SetAt wa w.heap.size (fun _ => false) := by rw [← hwa]; exact SetAt.new _ _
  have q69 := readGraph_yes (pairsOf_below hv ba) hok hl
  obtain ⟨A, cap, rfl, hc⟩ := hv2
  have hck := Keep.mk hc
  have n12 := hok.n12
  have h5k := Keep.mk hzk.el
  obtain ⟨m, hm⟩ : ∃ m, Keep (zs.length = m) := ⟨_, ⟨rfl⟩⟩
  rw [hm.out] at hl2 hck h5k ⊢
  obtain ⟨adj, hadj⟩ : ∃ adj, adjOf ps = adj := ⟨_, rfl⟩
  rw [hadj] at q69 ⊢
  obtain ⟨S, hS⟩ : ∃ S, setOf zs = S := ⟨_, rfl⟩
  rw [hS]
  have hfk := Keep.mk (And.intro fa ba)
  clear hv hc hok hzk fa ba hadj
  unfold setV
  unfold sc at hwa ⊢
  go_enter Try.func57, Try.ntmps57
  go_wp2_with (first
    | (go_at_call 69; (with_reducible refine q69.mono ?_); rintro e w5 ⟨rfl, hg5, hb5⟩
       obtain ⟨w6, hw6⟩ : ∃ w6, w5.alloc (.cells (sc (fun _ => false)) 79) = w6 := ⟨_, rfl⟩
       have hb6 : Below w5.heap.size w5 w6 := by rw [← hw6]; exact (Below.refl _ _).alloc (Nat.le_refl _) _
       have hf6 : SetAt w6 w5.heap.size (fun _ => false) := by rw [← hw6]; exact SetAt.new _ _
       have hz5 := hg5.lt
       have hI : Keep (RsI w (w.heap.size + 1) w5.heap.size n adj (setOf (zs.take 0)) (fun _ => false) w6) := ⟨⟨by rw [← sa]; exact hg5.below hb6 hg5.lt, (hfk.out.1.after hb5).after hb6, by rw [show setOf (zs.take 0) = fun _ => false by funext j; simp [setOf]]; exact hf6, hfk.out.2.trans ((hb5.trans (hb6.mono hb5.size)).mono hfk.out.2.size), by omega, by omega, by omega⟩⟩
       clear hg5 hb5 hb6 hf6
       unfold sc at hw6))
  try rw [hw6]
  clear hw6 q69
  go_loopw [26, 12] (fun i bf wr => ∃ k : Nat, k ≤ m ∧ i = .int .i64 k ∧ bf = .int .i64 (lastZ (zs.take k)) ∧ Keep (RsI w (w.heap.size + 1) w5.heap.size n adj (setOf (zs.take k)) (fun _ => false) wr)) (fun i _ _ => m - (intOf i).toNat)
  case atStart => exact ⟨0, by omega, rfl, by simp [lastZ], hI⟩
  case round =>
    obtain ⟨k, hk, rfl, rfl, hI⟩ := hrel
    have hw1 : IntKind.i64.wrap ((k : Int) + 1) = (k : Int) + 1 := IntWalk.i64_in _ (by omega)
    by_cases hlt : k < m
    · have hlt' : (k : Int) < (m : Int) := by omega
      obtain ⟨g, o, rfl, c0⟩ := hck.out k hlt
      have c0 := cell_below c0 hI.out.bw
      obtain ⟨e1, e2, e3⟩ := h5k.out k hlt
      have hpush := takez (zs := zs) (k := k) (by rw [hm.out]; exact hlt)
      generalize zs.getD k 0 = z at c0 e1 e2 e3 hpush
      obtain ⟨u, hu⟩ : ∃ u : Nat, (u : Int) = z := ⟨z.toNat, by omega⟩
      subst hu
      have hu12 : (u : Int) < 12 := by omega
      have hu0 : ¬ (u : Int) < 0 := by omega
      have hlst : lastZ (zs.take (k + 1)) = (u : Int) := by rw [hpush]; simp [lastZ]
      obtain ⟨bz, hbz⟩ : ∃ bz, lastZ (zs.take k) = bz := ⟨_, rfl⟩
      rw [hbz] at e3
      have hle : ¬ (u : Int) ≤ bz := by omega
      have hI2 := hI.out.put (u := u) (s' := setOf (zs.take (k + 1))) (by omega) (by rw [hpush, setOf_push]; simp) (fun j _ hj => by rw [hpush, setOf_push]; simp [hj])
      obtain ⟨cu, fu⟩ := hI.out.s11.cell (k := u) (by omega)
      have qa := has_any hI.out.gr.at (u : Int)
      rw [decide_eq_true (by omega)] at qa
      have hI2k := Keep.mk hI2
      have hpk := Keep.mk (And.intro hlst hpush)
      rw [hbz]
      clear hI2 hI hlst hpush hbz
      go_wp2_with (first
        | (go_at_call 80; (with_reducible refine qa.mono ?_); rintro e w7 ⟨rfl, he7⟩; rw [he7]; clear he7 w7))
      exact ⟨⟨k + 1, by omega, by go_num, by rw [hpk.out.1], hI2k⟩, by simp [intOf]; omega⟩
    · obtain rfl : k = m := by omega
      have hlt' : ¬ (k : Int) < (k : Int) := by omega
      have hI3 := hI.out
      rw [show zs.take k = zs by rw [← hm.out]; simp, hS] at hI3
      have hI3k := Keep.mk hI3
      clear hI hI3
      go_wp2
      obtain ⟨CX, hCXd⟩ : ∃ CX : (Nat → Bool) → World → Prop, CX = fun s0 W => RsI w (w.heap.size + 1) w5.heap.size n adj S (if s0 3 = true then S else fun _ => false) W := ⟨_, rfl⟩
      have hCk : ∀ i, i ≠ 3 → ∀ s0 W, CX s0 W → CX (Many.upd s0 i) W := fun i h1 s0 W h => by
        rw [hCXd] at h ⊢
        simp only at h ⊢
        rw [show Many.upd s0 i 3 = s0 3 by simp [Many.upd, h1]]; exact h
      have hC0 : ∀ s0 : Nat → Bool, s0 3 = false → CX s0 wr.drew := fun s0 h1 => by
        rw [hCXd]; simp only [h1, Bool.false_eq_true, if_false]; exact hI3k.out.after ((Below.refl _ _).drew)
      have hCe : ∀ s0 s1 W, (∀ j, s0 j = s1 j) → CX s0 W → CX s1 W := fun s0 s1 W h hc => by
        rw [hCXd] at hc ⊢; simp only at hc ⊢; rw [← h]; exact hc
      have hCs : ∀ s0 W, CX s0 W → SetAt W w5.heap.size S := fun s0 W h => by rw [hCXd] at h; exact h.s11
      have hst : ∀ s0 W, s0 3 = false → CX s0 W → SetAt W w.heap.size (fun _ => false) ∧ CX (Many.upd s0 3) (st12 W w.heap.size S) := fun s0 W hs h => by
        rw [hCXd] at h ⊢
        simp only [hs, Bool.false_eq_true, if_false] at h
        show _ ∧ RsI w (w.heap.size + 1) w5.heap.size n adj S (if Many.upd s0 3 3 = true then S else fun _ => false) _
        rw [show Many.upd s0 3 3 = true by simp [Many.upd]]
        simp only [if_true]
        exact ⟨h.t7, h.res S⟩
      have hfin : ∀ s0 W, s0 3 = true → CX s0 W → RsI w (w.heap.size + 1) w5.heap.size n adj S S W := fun s0 W hs h => by
        rw [hCXd] at h; simp only [hs, if_true] at h; exact h
      clear hCXd hI3k
      refine (wpIn_wide (n := 0)).1 ?_
      refine Many.region_many CX hmx (by kernel_rfl) hCe (fun s0 hs => hC0 s0 (hs 3 (by decide))) ?_
      refine Many.lex_want (by rfl) (Many.tr_read (v := .pointer (some ⟨w.heap.size + 1, 0, none⟩)) (fun W => SetAt W w5.heap.size S) hCs (hCk 0 (by decide)) (fun W h => by
        skip
        clear h; go_simp; (try rfl))) ?_
      simp only [Act.put, List.setIfInBounds_toArray, List.set_cons_succ, List.set_cons_zero, Nat.reduceAdd]
      refine Many.lex_want (by rfl) (Many.tr_read (v := .agg #[.bool (S 0), .bool (S 1), .bool (S 2), .bool (S 3), .bool (S 4), .bool (S 5), .bool (S 6), .bool (S 7), .bool (S 8), .bool (S 9), .bool (S 10), .bool (S 11)]) (fun W => SetAt W w5.heap.size S) hCs (hCk 1 (by decide)) (fun W h => by
        obtain ⟨y0, y1, y2, y3, y4, y5, y6, y7, y8, y9, y10, y11⟩ := h.c12
        clear h; go_simp; (try rfl))) ?_
      simp only [Act.put, List.setIfInBounds_toArray, List.set_cons_succ, List.set_cons_zero, Nat.reduceAdd]
      refine Many.lex_want (by rfl) (Many.tr_read (v := .pointer (some ⟨w.heap.size + 1, 0, none⟩)) (fun W => SetAt W w5.heap.size S) hCs (hCk 2 (by decide)) (fun W h => by
        skip
        clear h; go_simp; (try rfl))) ?_
      simp only [Act.put, List.setIfInBounds_toArray, List.set_cons_succ, List.set_cons_zero, Nat.reduceAdd]
      refine Many.lex_want (by rfl) (Many.tr_step (v := undef) (fun s0 W hs hC => ?_)) ?_
      · obtain ⟨hz, h2⟩ := hst s0 W hs hC
        obtain ⟨z0, z1, z2, z3, z4, z5, z6, z7, z8, z9, z10, z11⟩ := hz.c12
        obtain ⟨f0, f1, f2, f3, f4, f5, f6, f7, f8, f9, f10, f11⟩ := hz.f12
        obtain ⟨V9, hV9⟩ : ∃ V9, st12 W w.heap.size S = V9 := ⟨_, rfl⟩
        rw [hV9] at h2
        have h2k := Keep.mk h2
        clear hC h2 hz
        unfold st12 at hV9
        go_simp
        try rw [hV9]
        exact ⟨rfl, h2k.out⟩
      simp only [Act.put, List.setIfInBounds_toArray, List.set_cons_succ, List.set_cons_zero, Nat.reduceAdd]
      refine Many.lex_want (by rfl) (Many.tr_read (v := .bool true) (fun W => SetAt W w5.heap.size S) hCs (hCk 4 (by decide)) (fun W h => by
        skip
        clear h; go_simp; (try rfl))) ?_
      simp only [Act.put, List.setIfInBounds_toArray, List.set_cons_succ, List.set_cons_zero, Nat.reduceAdd]
      refine Many.lex_nil fun s9 W4 hs9 hS4 => ?_
      have hI4 := hfin s9 W4 (hs9 3 (by decide)) hS4
      have hI4k := Keep.mk hI4
      obtain ⟨x0, x1, x2, x3, x4, x5, x6, x7, x8, x9, x10, x11⟩ := hI4.t7.c12
      clear hS4 hs9 hI4
      go_wp2
      refine bodyPost_ret (v := .tuple #[.pointer (some ⟨w.heap.size + 1, 0, none⟩), .agg #[.bool (S 0), .bool (S 1), .bool (S 2), .bool (S 3), .bool (S 4), .bool (S 5), .bool (S 6), .bool (S 7), .bool (S 8), .bool (S 9), .bool (S 10), .bool (S 11)], .bool true]) (by simp [results, Try.results57, go_sem]; try go_simp) rfl ?_
      exact ⟨_, rfl, hI4k.out.gr, by omega, hI4k.out.bw⟩
end Go.Proofs.Yteekigpdiklppaa
set_option linter.unusedSimpArgs false
set_option linter.unusedVariables false
namespace Go.Proofs.Yteekigpdiklppaa
open Go Go.Proofs Go.RowKit Go.Seq
attribute [local go_sem] Oper.semAt_some
set_option maxRecDepth 100000 in
theorem stages_any (s : Nat → Bool) (f : Nat) (bd cp : Array Value) (w : World) : Calls Try.prog 61 #[setV s, .func (.func f) bd cp] w fun e w' => e = .returned (.func (.func 82) #[] #[.pointer (some ⟨w.heap.size, 0, none⟩), .pointer (some ⟨w.heap.size + 1, 0, none⟩)]) ∧ w' = (w.alloc (.cells (sc s) 79)).alloc (.cells #[.func (.func f) bd cp] 93) := by
  unfold setV sc
  go_enter Try.func61, Try.ntmps61
  go_wp2
  go_ret
  exact ⟨rfl, rfl⟩
/-- The last stage of a list, and its number. -/
def lst (s : Nat → Bool) (pre : List (Nat × (Nat → Bool))) : Nat × (Nat → Bool) := pre.getLast?.getD (0, s)
theorem lst_snoc (s : Nat → Bool) (pre : List (Nat × (Nat → Bool))) (x : Nat × (Nat → Bool)) : lst s (pre ++ [x]) = x := by simp [lst]
structure ClI (w : World) (f : Value) (s : Nat → Bool) (R : World → Prop) (x : Nat × (Nat → Bool)) (z : Nat → Bool) (W : World) : Prop where
  t2 : SetAt W w.heap.size x.2
  t4 : SetAt W (w.heap.size + 1) z
  t6 : W.heap[w.heap.size + 1 + 1]? = some (.cells #[.int .i64 x.1] 3 (0, 0))
  fv : W.heap[w.heap.size + 4]? = some (.cells #[f] 93 (0, 0))
  bw : Below w.heap.size w W
  sz : w.heap.size + 5 ≤ W.heap.size
theorem ClI.keepsL {w W W' : World} {f : Value} {s : Nat → Bool} {R : World → Prop} {x : Nat × (Nat → Bool)} {z : Nat → Bool} (h : ClI w f s R x z W) (hk : Pv.KeepsL (w.heap.size + 5) (fun k => k = w.heap.size + 3) W W') : ClI w f s R x z W' := by
  have hsz := h.sz
  exact ⟨(hk.block _ (by omega) (by omega)).trans h.t2, (hk.block _ (by omega) (by omega)).trans h.t4, (hk.block _ (by omega) (by omega)).trans h.t6, (hk.block _ (by omega) (by omega)).trans h.fv,
    h.bw.trans (hk.below (B := w.heap.size) (by intro k hk; omega) (by omega)), Nat.le_trans hsz hk.size⟩
theorem ClI.after {w W W' : World} {f : Value} {s : Nat → Bool} {R : World → Prop} {x : Nat × (Nat → Bool)} {z : Nat → Bool} (h : ClI w f s R x z W) (hb : Below W.heap.size W W') : ClI w f s R x z W' := by
  have hsz := h.sz
  exact ⟨h.t2.after hb, h.t4.after hb, (hb.block _ (by omega)).trans h.t6, (hb.block _ (by omega)).trans h.fv, h.bw.trans (hb.mono h.bw.size), Nat.le_trans hsz hb.size⟩
theorem ClI.next {w W : World} {f : Value} {s : Nat → Bool} {R : World → Prop} {x : Nat × (Nat → Bool)} {z : Nat → Bool} (i : Nat) (F : Nat → Bool) (h : ClI w f s R x z W) : ClI w f s R (i, F) z ((st12 W w.heap.size F).setCell ⟨w.heap.size + 1 + 1, 0, none⟩ (.int .i64 i)) := by
  have h6 : (st12 W w.heap.size F).heap[w.heap.size + 1 + 1]? = some (.cells #[.int .i64 x.1] 3 (0, 0)) := (st12_heap _ _ _ (by omega)).trans h.t6
  refine ⟨(st12_set h.t2).other (by omega), SetAt.other ((st12_heap _ _ _ (by omega)).trans h.t4) (by omega), ?_, (Below.heap_setCell _ _ _ _ (by show w.heap.size + 4 ≠ w.heap.size + 1 + 1; omega)).trans ((st12_heap _ _ _ (by omega)).trans h.fv), (st12_below h.bw (Nat.le_refl _)).setCell (p := ⟨w.heap.size + 1 + 1, 0, none⟩) (by show w.heap.size ≤ w.heap.size + 1 + 1; omega) _, ?_⟩
  · rw [heap_set h6]; rfl
  · have h1 := st12_size W w.heap.size F
    have h2 := h.sz
    simp [World.setCell]; omega
theorem ClI.res {w W : World} {f : Value} {s : Nat → Bool} {R : World → Prop} {x : Nat × (Nat → Bool)} {z y : Nat → Bool} (h : ClI w f s R x z W) : ClI w f s R x y (st12 W (w.heap.size + 1) y) :=
  ⟨(st12_heap _ _ _ (by omega)).trans h.t2, st12_set h.t4, (st12_heap _ _ _ (by omega)).trans h.t6, (st12_heap _ _ _ (by omega)).trans h.fv, st12_below h.bw (by omega), by rw [st12_size]; exact h.sz⟩
set_option maxHeartbeats 4000000 in
set_option maxRecDepth 100000 in
theorem closure_any {K f : Nat} {bd cp : Array Value} {rd : (Nat → Bool) → Nat → Bool} {R : World → Prop} {s : Nat → Bool} {w : World} (hq : Rnd f bd cp rd R) (hK : Stops rd s K)
    (hR : ∀ W, Below w.heap.size w W → R W) :
    Calls Try.prog 58 #[setV s, .func (.func f) bd cp] w fun e w' => e = .returned (.tuple #[setV (stg rd s K), .int .i64 K]) ∧ Below w.heap.size w w' := by
  have hmx : Try.prog.follows .mixedOrders = true := by kernel_rfl
  obtain ⟨fv, hfv⟩ : ∃ fv : Value, .func (.func f) bd cp = fv := ⟨_, rfl⟩
  rw [hfv]
  obtain ⟨wa, hwa⟩ : ∃ wa, w.alloc (.cells (sc s) 79) = wa := ⟨_, rfl⟩
  obtain ⟨wb, hwb⟩ : ∃ wb, wa.alloc (.cells (sc (fun _ => false)) 79) = wb := ⟨_, rfl⟩
  obtain ⟨wc, hwc⟩ : ∃ wc, wb.alloc (.cells #[.int .i64 0] 3) = wc := ⟨_, rfl⟩
  obtain ⟨wd, hwd⟩ : ∃ wd, wc.alloc (.cells (sc s) 79) = wd := ⟨_, rfl⟩
  obtain ⟨we, hwe⟩ : ∃ we, wd.alloc (.cells #[fv] 93) = we := ⟨_, rfl⟩
  have sa : wa.heap.size = w.heap.size + 1 := by rw [← hwa]; simp
  have sb : wb.heap.size = w.heap.size + 1 + 1 := by rw [← hwb]; simp [sa]
  have ss : wc.heap.size = w.heap.size + 1 + 1 + 1 := by rw [← hwc]; simp [sb]
  have sd : wd.heap.size = w.heap.size + 1 + 1 + 1 + 1 := by rw [← hwd]; simp [ss]
  have se : we.heap.size = w.heap.size + 5 := by rw [← hwe]; simp [sd]
  have ba : Below w.heap.size w wa := by rw [← hwa]; exact (Below.refl _ _).alloc (Nat.le_refl _) _
  have bb : Below wa.heap.size wa wb := by rw [← hwb]; exact (Below.refl _ _).alloc (Nat.le_refl _) _
  have bc : Below wb.heap.size wb wc := by rw [← hwc]; exact (Below.refl _ _).alloc (Nat.le_refl _) _
  have bd' : Below wc.heap.size wc wd := by rw [← hwd]; exact (Below.refl _ _).alloc (Nat.le_refl _) _
  have be : Below wd.heap.size wd we := by rw [← hwe]; exact (Below.refl _ _).alloc (Nat.le_refl _) _
  have fa : SetAt wa w.heap.size s := by rw [← hwa]; exact SetAt.new _ _
  have fb : SetAt wb (w.heap.size + 1) (fun _ => false) := by rw [← sa, ← hwb]; exact SetAt.new _ _
  have fc : wc.heap[w.heap.size + 1 + 1]? = some (.cells #[.int .i64 0] 3 (0, 0)) := by rw [← sb, ← hwc]; exact World.alloc_heap_new wb _
  have fd : SetAt wd (w.heap.size + 1 + 1 + 1) s := by rw [← ss, ← hwd]; exact SetAt.new _ _
  have fe : we.heap[w.heap.size + 1 + 1 + 1 + 1]? = some (.cells #[fv] 93 (0, 0)) := by rw [← sd, ← hwe]; exact World.alloc_heap_new wd _
  have bce := bd'.trans (be.mono bd'.size)
  have bbe := bc.trans (bce.mono bc.size)
  have bae := bb.trans (bbe.mono bb.size)
  have hfa3 := fa.after bb
  have hd0 := fd.after be
  have hI : ClI w fv s R (lst s []) (fun _ => false) we := ⟨fa.after bae, fb.after bbe, (bce.block _ (by omega)).trans fc, fe, ba.trans (bae.mono ba.size), by omega⟩
  clear sd ba bb bc bd' be fa fb fc fd fe bce bbe bae
  obtain ⟨x0, x1, x2, x3, x4, x5, x6, x7, x8, x9, x10, x11⟩ := hfa3.c12
  have q61 := fun w => stages_any s f bd cp w
  rw [hfv] at q61
  unfold setV sc at q61
  have hIk := Keep.mk hI
  have hd0k := Keep.mk hd0
  clear hI hd0 hfa3
  unfold setV
  unfold sc at hwa hwb hwd ⊢
  have hwk := Keep.mk (And.intro hwc (And.intro hwd hwe))
  clear hwc hwd hwe
  refine (callsIn_wide (n := 0)).1 ?_
  refine callsIn_of_wp_marks Try.func58 rfl trivial ?_ rfl
  simp only [Try.ntmps58, List.size_toArray, List.length_cons, List.length_nil, Nat.reduceAdd, Nat.reduceSub, Array.replicate_succ, Array.replicate_zero, List.push_toArray, List.append_toArray, List.nil_append, List.cons_append]
  refine wpIn_wide.2 ?_
  go_wp2_with (first
    | (go_at_call 61; (with_reducible refine (q61 _).mono ?_); rintro e w5 ⟨rfl, hw5⟩; rw [hw5]; clear hw5 w5))
  refine (wpIn_wide (n := 0)).1 ?_
  obtain ⟨hwc, hwd, hwe⟩ := hwk.out
  rw [hwc, hwd, hwe]
  clear hwk
  clear hwa hwb hwc hwd hwe sa sb x0 x1 x2 x3 x4 x5 x6 x7 x8 x9 x10 x11 q61
  subst hfv
  refine Pv.range_givesV (gf := 82) (lb := #[.pointer (some ⟨w.heap.size + 1 + 1 + 1, 0, none⟩), .pointer (some ⟨w.heap.size + 1 + 1 + 1 + 1, 0, none⟩)]) (by first | rfl | (simp [ss]; done)) (enters_of Try.func82 (by kernel_rfl) rfl) (encs := encS) (xs := stgs rd s (K + 1))
    (R := fun V => R V ∧ V.cell? ⟨w.heap.size + 4, 0, none⟩ = some (.func (.func f) bd cp)) (fun x => rfl) (fun k => k = w.heap.size + 3) (by intro k hk; omega) (fun W1' h1 hb1 => stages_gives (R := fun V => R V ∧ V.cell? ⟨w.heap.size + 4, 0, none⟩ = some (.func (.func f) bd cp)) ⟨hq.eg, fun s' W' h => hq.call s' W' h.1⟩ hK W1' (fun W' h => h.2) (hd0k.out.below hb1 (by omega)))
    (fun _ _ => true) .ret .ret (.inl ⟨rfl, rfl⟩)
    (fun pre V => ClI w (.func (.func f) bd cp) s R (lst s pre) (fun _ => false) V) (fun pre V => ClI w (.func (.func f) bd cp) s R (lst s pre) (fun _ => false) V) ?_ ?_ ?_ ?_ hIk.out
    (fun x a' V => ∃ g, a' = { tmps := #[.agg #[.bool (s 0), .bool (s 1), .bool (s 2), .bool (s 3), .bool (s 4), .bool (s 5), .bool (s 6), .bool (s 7), .bool (s 8), .bool (s 9), .bool (s 10), .bool (s 11)], .func (.func f) bd cp, .pointer (some ⟨w.heap.size, 0, none⟩), undef, .pointer (some ⟨w.heap.size + 1, 0, none⟩), .int .i64 0, .pointer (some ⟨w.heap.size + 1 + 1, 0, none⟩), .int .i64 x.1, .pointer (some ⟨g, 0, none⟩), .agg #[.bool (s 0), .bool (s 1), .bool (s 2), .bool (s 3), .bool (s 4), .bool (s 5), .bool (s 6), .bool (s 7), .bool (s 8), .bool (s 9), .bool (s 10), .bool (s 11)], .func (.func f) bd cp, .func (.func 82) #[] #[.pointer (some ⟨w.heap.size + 1 + 1 + 1, 0, none⟩), .pointer (some ⟨w.heap.size + 1 + 1 + 1 + 1, 0, none⟩)], .int .i64 x.1, .agg #[.bool (x.2 0), .bool (x.2 1), .bool (x.2 2), .bool (x.2 3), .bool (x.2 4), .bool (x.2 5), .bool (x.2 6), .bool (x.2 7), .bool (x.2 8), .bool (x.2 9), .bool (x.2 10), .bool (x.2 11)], undef, undef, undef, undef], defers := [] } ∧ SetAt V g x.2 ∧ w.heap.size + 7 ≤ g)
    ?_ ?assign ?body ?done ?stop
  · intro pre V V' h hk; rw [se] at hk; exact h.keepsL hk
  · intro pre V V' h hk; rw [se] at hk; exact h.keepsL hk
  · intro pre V h; exact ⟨hR V h.bw, by simp [World.cell?, h.fv]⟩
  · intro pre V h; exact ⟨hR V h.bw, by simp [World.cell?, h.fv]⟩
  · rintro x a' V V' ⟨g, rfl, h1, h2⟩ hs hk
    rw [se] at hk
    exact ⟨g, rfl, (hk.block g h1.lt (by omega)).trans h1, h2⟩
  case assign =>
    intro l2 pre x V K hi hsz2 hK
    obtain ⟨V1, hV1⟩ : ∃ V1, V.alloc (.cells (sc x.2) 79) = V1 := ⟨_, rfl⟩
    have hb1 : Below V.heap.size V V1 := by rw [← hV1]; exact (Below.refl _ _).alloc (Nat.le_refl _) _
    have hn1 : SetAt V1 V.heap.size x.2 := by rw [← hV1]; exact SetAt.new _ _
    unfold encS setV
    unfold sc at hV1 ⊢
    gi_wp2
    try rw [hV1]
    exact hK _ _ hb1 ⟨V.heap.size, rfl, hn1, by omega⟩
  case body =>
    rintro l2 pre x a' V hi ⟨g, rfl, hg, hg7⟩ hsz2 ⟨post, hpost⟩ - -
    obtain ⟨i, F⟩ := x
    simp only at hg
    obtain ⟨c0, c1, c2, c3, c4, c5, c6, c7, c8, c9, c10, c11⟩ := hg.c12
    obtain ⟨d0, d1, d2, d3, d4, d5, d6, d7, d8, d9, d10, d11⟩ := hi.t2.c12
    obtain ⟨f0, f1, f2, f3, f4, f5, f6, f7, f8, f9, f10, f11⟩ := hi.t2.f12
    have c6' : V.cell? ⟨w.heap.size + 1 + 1, 0, none⟩ = some (.int .i64 (lst s pre).1) := by simp [World.cell?, hi.t6]
    have f6' : V.frozen? ⟨w.heap.size + 1 + 1, 0, none⟩ = false := by simp [World.frozen?, hi.t6]
    have hn := hi.next i F
    rw [← lst_snoc s pre (i, F)] at hn
    have hnk := Keep.mk hn
    have hik := Keep.mk hi
    clear hi hn hg
    have hkp : ∀ k, k ≠ w.heap.size → k ≠ w.heap.size + 1 + 1 → ((st12 V w.heap.size F).setCell ⟨w.heap.size + 1 + 1, 0, none⟩ (.int .i64 i)).heap[k]? = V.heap[k]? := fun k h1 h2 => (Below.heap_setCell _ _ _ _ (by show k ≠ w.heap.size + 1 + 1; omega)).trans (st12_heap _ _ _ h1)
    have hn2 := hnk.out
    obtain ⟨V9, hV9⟩ : ∃ V9, (st12 V w.heap.size F).setCell ⟨w.heap.size + 1 + 1, 0, none⟩ (.int .i64 i) = V9 := ⟨_, rfl⟩
    rw [hV9] at hn2 hkp
    have hbb := Keep.mk (And.intro hn2 hkp)
    have hB9 : Below w.heap.size V V9 := by rw [← hV9]; exact (st12_below (Below.refl _ _) (Nat.le_refl _)).setCell (p := ⟨w.heap.size + 1 + 1, 0, none⟩) (by show w.heap.size ≤ w.heap.size + 1 + 1; omega) _
    have hB9k := Keep.mk hB9
    clear hn2 hkp hnk hB9
    unfold st12 at hV9
    gi_wp2
    try rw [hV9]
    obtain ⟨hn2, hkp⟩ := hbb.out
    refine ⟨hn2, ⟨hB9k.out.size, ?_, ?_, ?_⟩, hB9k.out.os, hB9k.out.tape, hB9k.out.output⟩
    · exact hkp _ (by omega) (by omega)
    · exact hkp _ (by omega) (by omega)
    · exact hkp _ (by omega) (by omega)
  case done =>
    intro V hi hgo hsz2 hD
    obtain ⟨F, hF⟩ : ∃ F, stg rd s K = F := ⟨_, rfl⟩
    have hlst : lst s (stgs rd s (K + 1)) = (K, F) := by rw [stgs_succ, lst_snoc, hF]
    rw [hlst] at hi
    gi_wp2
    go_wp2
    refine (wpIn_wide (n := 0)).1 ?_
    refine Many.region_many (fun s0 W => ClI w (.func (.func f) bd cp) s R (K, F) (if s0 2 = true then F else fun _ => false) W ∧ W.heap[we.heap.size]? = some (.deferred (some []))) hmx (by kernel_rfl) (fun s s' W' h hc => by rw [← h]; exact hc) (fun s hs => by rw [hs 2 (by decide)]; exact ⟨hi.after ((Below.refl _ _).drew), hD⟩) ?_
    clear hi hD
    refine Many.lex_want (by rfl) (Many.tr_read (v := .agg #[.bool (F 0), .bool (F 1), .bool (F 2), .bool (F 3), .bool (F 4), .bool (F 5), .bool (F 6), .bool (F 7), .bool (F 8), .bool (F 9), .bool (F 10), .bool (F 11)]) (fun W => ClI w (.func (.func f) bd cp) s R (K, F) (fun _ => false) W ∨ ClI w (.func (.func f) bd cp) s R (K, F) F W) (fun s0 W h => by (by_cases e : s0 2 = true); (· rw [if_pos e] at h; exact .inr h.1); (· rw [if_neg e] at h; exact .inl h.1)) (fun s0 W h => by simpa [Many.upd] using h) (fun W h => by
      have hx : Cells12 W w.heap.size F := by rcases h with h | h <;> exact h.t2.c12
      clear h
      obtain ⟨x0, x1, x2, x3, x4, x5, x6, x7, x8, x9, x10, x11⟩ := hx
      go_simp; try rfl)) ?_
    simp only [Act.put, List.setIfInBounds_toArray, List.set_cons_succ, List.set_cons_zero, Nat.reduceAdd]
    refine Many.lex_want (by rfl) (Many.tr_read (v := .int .i64 K) (fun W => W.cell? ⟨w.heap.size + 1 + 1, 0, none⟩ = some (.int .i64 K)) (fun s0 W h => by simp [World.cell?, h.1.t6]) (fun s0 W h => by simpa [Many.upd] using h) (fun W h => by go_simp; try rfl)) ?_
    simp only [Act.put, List.setIfInBounds_toArray, List.set_cons_succ, List.set_cons_zero, Nat.reduceAdd]
    refine Many.lex_want (by rfl) (Many.tr_step (v := undef) (fun s0 W hs hC => ?_)) ?_
    · rw [hs] at hC
      obtain ⟨hC1, hC2⟩ := hC
      simp only [Bool.false_eq_true, if_false] at hC1
      obtain ⟨z0, z1, z2, z3, z4, z5, z6, z7, z8, z9, z10, z11⟩ := hC1.t4.c12
      obtain ⟨f0, f1, f2, f3, f4, f5, f6, f7, f8, f9, f10, f11⟩ := hC1.t4.f12
      have hn := hC1.res (y := F)
      have hd : (st12 W (w.heap.size + 1) F).heap[we.heap.size]? = some (.deferred (some [])) := (st12_heap _ _ _ (by omega)).trans hC2
      have hnk := Keep.mk (And.intro hn hd)
      clear hC1 hC2 hn hd
      have hup : Many.upd s0 2 2 = true := by simp [Many.upd]
      rw [hup]
      simp only [if_true]
      obtain ⟨V9, hV9⟩ : ∃ V9, st12 W (w.heap.size + 1) F = V9 := ⟨_, rfl⟩
      rw [hV9] at hnk
      unfold st12 at hV9
      go_simp
      try rw [hV9]
      exact ⟨rfl, hnk.out.1, by rw [← se]; exact hnk.out.2⟩
    simp only [Act.put, List.setIfInBounds_toArray, List.set_cons_succ, List.set_cons_zero, Nat.reduceAdd]
    refine Many.lex_want (by rfl) (Many.tr_read (v := .int .i64 K) (fun W => True) (fun s0 W h => trivial) (fun s0 W h => by simpa [Many.upd] using h) (fun W h => by go_simp; try rfl)) ?_
    simp only [Act.put, List.setIfInBounds_toArray, List.set_cons_succ, List.set_cons_zero, Nat.reduceAdd]
    refine Many.lex_nil fun s9 W4 hs9 hS4 => ?_
    rw [hs9 2 (by decide)] at hS4
    obtain ⟨hS, hD⟩ := hS4
    simp only [if_true] at hS
    go_wp2
    refine Qr.leaves_mark hD fun w' hk => ⟨.tuple #[.agg #[.bool (F 0), .bool (F 1), .bool (F 2), .bool (F 3), .bool (F 4), .bool (F 5), .bool (F 6), .bool (F 7), .bool (F 8), .bool (F 9), .bool (F 10), .bool (F 11)], .int .i64 K], ?_, by rw [← hF], hS.bw.trans (hk.below (by omega) (by have := hS.sz; omega))⟩
    have hst2 : SetAt w' (w.heap.size + 1) F := (hk.block _ (by have := hS.sz; omega) (by omega) (by omega)).trans hS.t4
    obtain ⟨c0, c1, c2, c3, c4, c5, c6, c7, c8, c9, c10, c11⟩ := hst2.c12
    first
      | (simp [results, Try.results58, go_sem]; done)
      | (simp [results, Try.results58, go_sem]; go_simp)
  case stop =>
    intro V p x post _ _ h
    cases h
end Go.Proofs.Yteekigpdiklppaa
set_option linter.unusedSimpArgs false
set_option linter.unusedVariables false
namespace Go.Proofs.Yteekigpdiklppaa
open Go Go.Proofs Go.RowKit Go.Seq
attribute [local go_sem] Oper.semAt_some
def fround (adj : Nat → Nat → Bool) (wet : Nat → Bool) : Nat → Bool := fcd adj wet (vsTo wet 12)
theorem rnd_force (b n : Nat) (adj : Nat → Nat → Bool) : Rnd 59 #[.pointer (some ⟨b, 0, none⟩)] #[] (fround adj) (fun W => GraphAt W b n adj) :=
  ⟨enters_of Try.func59 (by kernel_rfl) rfl, fun s W h => by simpa [fround] using force_any s h⟩
theorem rnd_soak (b n bg br : Nat) (adj : Nat → Nat → Bool) (r : Int) (hn : n ≤ 12) : Rnd 86 #[] #[.pointer (some ⟨bg, 0, none⟩), .pointer (some ⟨br, 0, none⟩)] (sokd n adj r) (fun W => GraphAt W b n adj ∧ W.cell? ⟨bg, 0, none⟩ = some (.pointer (some ⟨b, 0, none⟩)) ∧ W.cell? ⟨br, 0, none⟩ = some (.int .i64 r)) :=
  ⟨enters_of Try.func86 (by kernel_rfl) rfl, fun s W h => by simpa using soak1_any s h.1 hn h.2.1 h.2.2⟩
set_option maxRecDepth 100000 in
theorem soak_any (b : Nat) (r : Int) (w : World) : Calls Try.prog 67 #[.pointer (some ⟨b, 0, none⟩), .int .i64 r] w fun e w' => e = .returned (.func (.func 86) #[] #[.pointer (some ⟨w.heap.size, 0, none⟩), .pointer (some ⟨w.heap.size + 1, 0, none⟩)]) ∧ w' = (w.alloc (.cells #[.pointer (some ⟨b, 0, none⟩)] 77)).alloc (.cells #[.int .i64 r] 3) := by
  go_enter Try.func67, Try.ntmps67
  go_wp2
  go_ret
  exact ⟨rfl, rfl⟩
def allS (n : Nat) : Nat → Bool := fun j => decide (j < n)
set_option maxHeartbeats 2000000 in
set_option maxRecDepth 100000 in
theorem wets_any {b n K f : Nat} {bd cp : Array Value} {adj : Nat → Nat → Bool} {rd : (Nat → Bool) → Nat → Bool} {R : World → Prop} {s : Nat → Bool} {w : World} (hg : GraphAt w b n adj) (hn : n ≤ 12) (hq : Rnd f bd cp rd R) (hK : Stops rd s K)
    (hR : ∀ W, Below w.heap.size w W → R W) :
    Calls Try.prog 75 #[.pointer (some ⟨b, 0, none⟩), setV s, .func (.func f) bd cp] w fun e w' => e = .returned (.bool (eqb (stg rd s K) (allS n))) ∧ Below w.heap.size w w' := by
  have hmx : Try.prog.follows .mixedOrders = true := by kernel_rfl
  obtain ⟨F, hF⟩ : ∃ F, stg rd s K = F := ⟨_, rfl⟩
  obtain ⟨A, hA⟩ : ∃ A, allS n = A := ⟨_, rfl⟩
  obtain ⟨wa, hwa⟩ : ∃ wa, w.alloc (.cells (sc s) 79) = wa := ⟨_, rfl⟩
  have ba : Below w.heap.size w wa := by rw [← hwa]; exact (Below.refl _ _).alloc (Nat.le_refl _) _
  have fa : SetAt wa w.heap.size s := by rw [← hwa]; exact SetAt.new _ _
  obtain ⟨x0, x1, x2, x3, x4, x5, x6, x7, x8, x9, x10, x11⟩ := fa.c12
  have q58 := closure_any (w := wa) hq hK (fun W hb => hR W (ba.trans (hb.mono ba.size)))
  have q84 := Keep.mk (fun W (h : GraphAt W b n adj) => all_any h hn)
  rw [hF] at q58 ⊢
  rw [show (fun j => decide (j < n)) = A from hA] at q84
  rw [hA]
  obtain ⟨z, hz⟩ : ∃ z, eqb F A = z := ⟨_, rfl⟩
  have heq := fun w => eq49 F A w
  rw [show ((List.range 12).all fun k => F k == A k) = z from hz] at heq
  rw [hz]
  have hgk := Keep.mk hg
  have bak := Keep.mk ba
  clear fa ba hg hF hA hz
  unfold setV sc at *
  go_enter Try.func75, Try.ntmps75
  go_wp2_with (first
    | (go_at_call 58; (with_reducible refine q58.mono ?_); rintro e w5 ⟨rfl, hb5⟩
       obtain ⟨w6, hw6⟩ : ∃ w6, w5.alloc (.cells (sc F) 79) = w6 := ⟨_, rfl⟩
       have hb6 : Below w5.heap.size w5 w6 := by rw [← hw6]; exact (Below.refl _ _).alloc (Nat.le_refl _) _
       have hf6 : SetAt w6 w5.heap.size F := by rw [← hw6]; exact SetAt.new _ _
       have hbb := Keep.mk (bak.out.trans ((hb5.trans (hb6.mono hb5.size)).mono bak.out.size))
       have hf6k := Keep.mk hf6
       clear hb5 hb6 hf6
       unfold sc at hw6))
  have hI : GraphAt w6 b n adj ∧ SetAt w6 w5.heap.size F ∧ Below w.heap.size w w6 := ⟨hgk.out.below hbb.out hgk.out.lt, hf6k.out, hbb.out⟩
  obtain ⟨CX, hCX⟩ : ∃ CX : World → Prop, CX = fun W => GraphAt W b n adj ∧ SetAt W w5.heap.size F ∧ Below w.heap.size w W := ⟨_, rfl⟩
  have hCa : ∀ W W', CX W → Below W.heap.size W W' → CX W' := fun W W' h hb => by
    rw [hCX] at h ⊢; exact ⟨h.1.below hb h.1.lt, h.2.1.after hb, h.2.2.trans (hb.mono h.2.2.size)⟩
  have hCg : ∀ W, CX W → GraphAt W b n adj ∧ SetAt W w5.heap.size F ∧ Below w.heap.size w W := fun W h => by rw [hCX] at h; exact h
  have hC0 : CX w6 := by rw [hCX]; exact hI
  clear hCX hI hf6k hbb hgk hw6
  refine (wpIn_wide (n := 0)).1 ?_
  refine Many.region_many (fun _ W => CX W) hmx (by kernel_rfl) (fun s s' W' h hc => hc) (fun s hs => hCa _ _ hC0 ((Below.refl _ _).drew)) ?_
  refine Many.lex_want (by rfl) (Many.tr_read (v := .agg #[.bool (F 0), .bool (F 1), .bool (F 2), .bool (F 3), .bool (F 4), .bool (F 5), .bool (F 6), .bool (F 7), .bool (F 8), .bool (F 9), .bool (F 10), .bool (F 11)]) CX (fun s W h => h) (fun s W h => h) (fun W h => by
    obtain ⟨e0, e1, e2, e3, e4, e5, e6, e7, e8, e9, e10, e11⟩ := (hCg W h).2.1.c12
    clear h; go_simp; (try rfl))) ?_
  simp only [Act.put, List.setIfInBounds_toArray, List.set_cons_succ, List.set_cons_zero, Nat.reduceAdd]
  refine Many.lex_want (by rfl) (Many.tr_read (v := .pointer (some ⟨b, 0, none⟩)) CX (fun s W h => h) (fun s W h => h) (fun W h => by clear h; go_simp; (try rfl))) ?_
  simp only [Act.put, List.setIfInBounds_toArray, List.set_cons_succ, List.set_cons_zero, Nat.reduceAdd]
  refine Many.lex_want (by rfl) (Many.tr_call (v := .agg #[.bool (A 0), .bool (A 1), .bool (A 2), .bool (A 3), .bool (A 4), .bool (A 5), .bool (A 6), .bool (A 7), .bool (A 8), .bool (A 9), .bool (A 10), .bool (A 11)]) (f := 84) (args := #[.pointer (some ⟨b, 0, none⟩)]) CX (fun s W h => h) (fun s W h => (q84.out W (hCg W h).1).mono (fun e W' hw' => ⟨hw'.1, hCa _ _ h hw'.2⟩)) (fun W h => by clear h; go_simp; try rfl)) ?_
  simp only [Act.put, List.setIfInBounds_toArray, List.set_cons_succ, List.set_cons_zero, Nat.reduceAdd]
  refine Many.lex_want (by rfl) (Many.tr_read (v := .bool z) CX (fun s W h => h) (fun s W h => h) (fun W h => by clear h; go_simp; (try rfl))) ?_
  simp only [Act.put, List.setIfInBounds_toArray, List.set_cons_succ, List.set_cons_zero, Nat.reduceAdd]
  refine Many.lex_want (by rfl) (Many.tr_read (v := .bool z) CX (fun s W h => h) (fun s W h => h) (fun W h => by clear h; go_simp; (try rfl))) ?_
  simp only [Act.put, List.setIfInBounds_toArray, List.set_cons_succ, List.set_cons_zero, Nat.reduceAdd]
  refine Many.lex_nil fun s9 W4 hs9 hS4 => ?_
  have hb4 := (hCg _ hS4).2.2
  clear hS4
  go_wp2
  go_ret
  exact ⟨rfl, hb4⟩
end Go.Proofs.Yteekigpdiklppaa
