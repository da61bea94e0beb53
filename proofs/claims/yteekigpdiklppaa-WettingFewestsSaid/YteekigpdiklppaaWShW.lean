import Derived.Test.YteekigpdiklppaaWShM
import Derived.Test.YteekigpdiklppaaSeqN
set_option linter.unusedSimpArgs false
set_option linter.unusedVariables false
namespace Go.Proofs.Yteekigpdiklppaa
open Go Go.Proofs Go.RowKit Go.Seq Go.Seq.Stp
attribute [local go_sem] Oper.semAt_some
structure ShI (w : World) (Z n b : Nat) (adj : Nat → Nat → Bool) (r : Int) (sm : Nat) (res : Bool) (W : World) : Prop where
  g : GraphAt W b n adj
  t5 : W.heap[w.heap.size]? = some (.cells #[.int .i64 r] 3 (0, 0))
  t6 : W.heap[w.heap.size + 1]? = some (.cells #[.bool res] 4 (0, 0))
  t7 : W.heap[w.heap.size + 1 + 1]? = some (.cells #[.int .i64 0] 26 (0, 0))
  t8 : W.heap[Z]? = some (.cells #[.pointer (some ⟨b, 0, none⟩)] 77 (0, 0))
  t10 : W.heap[Z + 1]? = some (.cells #[.int .i64 sm] 3 (0, 0))
  ts : W.heap[Z + 2]? = some (.cells #[.pointer (some ⟨b, 0, none⟩)] 77 (0, 0))
  bw : Below w.heap.size w W
  sz : Z + 3 ≤ W.heap.size
theorem ShI.keepsL {w W W' : World} {Z n b : Nat} {adj : Nat → Nat → Bool} {r : Int} {sm : Nat} {res : Bool} (h : ShI w Z n b adj r sm res W) (hb : b < Z) (hz : w.heap.size + 4 ≤ Z) (hk : Pv.KeepsL (Z + 3) Pq.none' W W') : ShI w Z n b adj r sm res W' := by
  have hsz := h.sz
  have hn : ∀ k, k < Z + 3 → ¬ (k = Z + 3 ∨ k = Z + 3 + 1 ∨ Pq.none' k) := fun k hk h => by
    rcases h with h | h | h
    · omega
    · omega
    · exact h
  have hbl : Below w.heap.size W W' := Pv.KeepsV.below hk (fun k hk => by (rcases hk with h | h | h); (· omega); (· omega); (· exact h.elim)) (by omega)
  have hg : Below (b + 1) W W' := Pv.KeepsV.below hk (fun k hk => by (rcases hk with h | h | h); (· omega); (· omega); (· exact h.elim)) (by omega)
  exact ⟨h.g.below hg (by omega), (hk.block _ (by omega) (hn _ (by omega))).trans h.t5, (hk.block _ (by omega) (hn _ (by omega))).trans h.t6, (hk.block _ (by omega) (hn _ (by omega))).trans h.t7, (hk.block _ (by omega) (hn _ (by omega))).trans h.t8, (hk.block _ (by omega) (hn _ (by omega))).trans h.t10, (hk.block _ (by omega) (hn _ (by omega))).trans h.ts, h.bw.trans hbl, Nat.le_trans hsz hk.size⟩
theorem ShI.after {w W W' : World} {Z n b : Nat} {adj : Nat → Nat → Bool} {r : Int} {sm : Nat} {res : Bool} (h : ShI w Z n b adj r sm res W) (hz : w.heap.size + 4 ≤ Z) (hb : Below W.heap.size W W') : ShI w Z n b adj r sm res W' := by
  have hsz := h.sz
  exact ⟨h.g.below hb h.g.lt, (hb.block _ (by omega)).trans h.t5, (hb.block _ (by omega)).trans h.t6, (hb.block _ (by omega)).trans h.t7, (hb.block _ (by omega)).trans h.t8, (hb.block _ (by omega)).trans h.t10, (hb.block _ (by omega)).trans h.ts, h.bw.trans (hb.mono h.bw.size), Nat.le_trans hsz hb.size⟩
theorem two_set {W : World} {a c k : Nat} {x y : Value} (h1 : k ≠ a) (h2 : k ≠ c) : ((W.setCell ⟨a, 0, none⟩ x).setCell ⟨c, 0, none⟩ y).heap[k]? = W.heap[k]? := (Below.heap_setCell _ _ _ _ (by exact h2)).trans (Below.heap_setCell _ _ _ _ (by exact h1))
theorem graph_two {W W' : World} {b n : Nat} {adj : Nat → Nat → Bool} (h : GraphAt W b n adj) (e : W'.heap[b]? = W.heap[b]?) : GraphAt W' b n adj :=
  ⟨(World.cell?_of_block (a := ⟨b, 0, none⟩) e).trans h.size, fun i j hi hj => (World.cell?_of_block (a := ⟨b, 1 + i * 12 + j, none⟩) e).trans (h.at_ i j hi hj)⟩
theorem ShI.setRes {w W : World} {Z n b : Nat} {adj : Nat → Nat → Bool} {r : Int} {sm : Nat} {res : Bool} (h : ShI w Z n b adj r sm res W) (hz : w.heap.size + 4 ≤ Z) (hb : w.heap.size + 1 + 1 + 1 = b) (x : Bool) :
    ShI w Z n b adj r sm x ((W.setCell ⟨w.heap.size + 1, 0, none⟩ (.bool x)).setCell ⟨w.heap.size + 1 + 1, 0, none⟩ (.int .i64 0)) :=
  ⟨graph_two h.g (two_set (by omega) (by omega)), (two_set (by omega) (by omega)).trans h.t5, (Below.heap_setCell _ _ _ _ (by show w.heap.size + 1 ≠ w.heap.size + 1 + 1; omega)).trans (heap_set h.t6 _), heap_set ((Below.heap_setCell _ _ _ _ (by show w.heap.size + 1 + 1 ≠ w.heap.size + 1; omega)).trans h.t7) _, (two_set (by omega) (by omega)).trans h.t8, (two_set (by omega) (by omega)).trans h.t10, (two_set (by omega) (by omega)).trans h.ts, (h.bw.setCell (by show w.heap.size ≤ w.heap.size + 1; omega) _).setCell (by show w.heap.size ≤ w.heap.size + 1 + 1; omega) _, by have := h.sz; simpa [World.setCell] using this⟩
theorem ShI.setSm {w W : World} {Z n b : Nat} {adj : Nat → Nat → Bool} {r : Int} {sm : Nat} {res : Bool} (h : ShI w Z n b adj r sm res W) (hz : w.heap.size + 4 ≤ Z) (hb : w.heap.size + 1 + 1 + 1 = b) (k : Nat) :
    ShI w Z n b adj r k res (W.setCell ⟨Z + 1, 0, none⟩ (.int .i64 k)) :=
  ⟨graph_two h.g (Below.heap_setCell _ _ _ _ (by show b ≠ Z + 1; omega)), (Below.heap_setCell _ _ _ _ (by show w.heap.size ≠ Z + 1; omega)).trans h.t5, (Below.heap_setCell _ _ _ _ (by show w.heap.size + 1 ≠ Z + 1; omega)).trans h.t6, (Below.heap_setCell _ _ _ _ (by show w.heap.size + 1 + 1 ≠ Z + 1; omega)).trans h.t7, (Below.heap_setCell _ _ _ _ (by show Z ≠ Z + 1; omega)).trans h.t8, heap_set h.t10 _, (Below.heap_setCell _ _ _ _ (by show Z + 2 ≠ Z + 1; omega)).trans h.ts, h.bw.setCell (by show w.heap.size ≤ Z + 1; omega) _, by have := h.sz; simpa [World.setCell] using this⟩
/-- The search is over because the sets are too large. -/
def brk (n : Nat) (so : (Nat → Bool) → Bool) (l : List (Nat → Bool)) : Bool := decide (smS n so l.dropLast < sz (l.getLast?.getD fun _ => false))
theorem brk_snoc (n : Nat) (so : (Nat → Bool) → Bool) (p : List (Nat → Bool)) (x : Nat → Bool) : brk n so (p ++ [x]) = decide (smS n so p < sz x) := by unfold brk; simp
def exS (n : Nat) (so : (Nat → Bool) → Bool) (l : List (Nat → Bool)) : Exit := if brk n so l = true then .exit 0 else .ret
def cS (n : Nat) (so : (Nat → Bool) → Bool) (l : List (Nat → Bool)) : Code := if brk n so l = true then .exit 0 else .ret
theorem exS_ok (n : Nat) (so : (Nat → Bool) → Bool) (l : List (Nat → Bool)) : exS n so l = .ret ∧ cS n so l = .ret ∨ ∃ id, exS n so l = .exit id ∧ cS n so l = .exit id := by
  unfold exS cS
  cases brk n so l with
  | true => exact .inr ⟨0, rfl, rfl⟩
  | false => exact .inl ⟨rfl, rfl⟩
set_option maxHeartbeats 4000000 in
set_option maxRecDepth 100000 in
theorem Shared_yes {N : Nat} {E : Pts} {r : Int} {v : Value} {w : World} (hG : GOk N E) (hv : PairsOf w v E) (hr1 : 1 ≤ r) (hr6 : r ≤ 6) :
    Calls Try.prog 40 #[.int .i64 N, v, .int .i64 r] w fun e w' => e = .returned (.tuple #[.bool (sharedOf N E r), .int .i64 0]) ∧ Below w.heap.size w w' := by
  obtain ⟨R, hR⟩ : ∃ R, sharedOf N E r = R := ⟨_, rfl⟩
  rw [hR]
  have q66 := threshold_any r
  rw [decide_eq_true (And.intro hr1 hr6)] at q66
  have q73 := fun b w => sets_any (b := b) w
  obtain ⟨wa, hwa⟩ : ∃ wa, w.alloc (.cells #[.int .i64 r] 3) = wa := ⟨_, rfl⟩
  obtain ⟨wb, hwb⟩ : ∃ wb, wa.alloc (.cells #[.bool false] 4) = wb := ⟨_, rfl⟩
  obtain ⟨wc, hwc⟩ : ∃ wc, wb.alloc (.cells #[.int .i64 0] 26) = wc := ⟨_, rfl⟩
  have sa : wa.heap.size = w.heap.size + 1 := by rw [← hwa]; simp
  have sb : wb.heap.size = w.heap.size + 1 + 1 := by rw [← hwb]; simp [sa]
  have ss : wc.heap.size = w.heap.size + 1 + 1 + 1 := by rw [← hwc]; simp [sb]
  have ba : Below w.heap.size w wa := by rw [← hwa]; exact (Below.refl _ _).alloc (Nat.le_refl _) _
  have bb : Below wa.heap.size wa wb := by rw [← hwb]; exact (Below.refl _ _).alloc (Nat.le_refl _) _
  have bc : Below wb.heap.size wb wc := by rw [← hwc]; exact (Below.refl _ _).alloc (Nat.le_refl _) _
  have fa : wa.heap[w.heap.size]? = some (.cells #[.int .i64 r] 3 (0, 0)) := by rw [← hwa]; exact World.alloc_heap_new w _
  have fb : wb.heap[w.heap.size + 1]? = some (.cells #[.bool false] 4 (0, 0)) := by rw [← sa, ← hwb]; exact World.alloc_heap_new wa _
  have fc : wc.heap[w.heap.size + 1 + 1]? = some (.cells #[.int .i64 0] 26 (0, 0)) := by rw [← sb, ← hwc]; exact World.alloc_heap_new wb _
  have bbc := bb.trans (bc.mono bb.size)
  have bw := ba.trans (bbc.mono ba.size)
  have hvc := pairsOf_below hv bw
  have q69 := readGraph_yes hvc hG.gr hG.len
  have hw : ((w.alloc (.cells #[.int .i64 r] 3)).alloc (.cells #[.bool false] 4)).alloc (.cells #[.int .i64 0] 26) = wc := by rw [hwa, hwb, hwc]
  have hcw := Keep.mk (And.intro ((bbc.block _ (by omega)).trans fa) (And.intro ((bc.block _ (by omega)).trans fb) (And.intro fc bw)))
  rw [ss] at q69
  clear hwa hwb hwc ba bb bc fa fb fc bbc bw hv hvc sa sb
  refine (callsIn_wide (n := 0)).1 ?_
  refine callsIn_of_wp_marks Try.func40 rfl trivial ?_ rfl
  simp only [Try.ntmps40, List.size_toArray, List.length_cons, List.length_nil, Nat.reduceAdd, Nat.reduceSub, Array.replicate_succ, Array.replicate_zero, List.push_toArray, List.append_toArray, List.nil_append, List.cons_append]
  refine wpIn_wide.2 ?_
  go_wp2
  go_step3
  go_wp2_with (first
    | (go_at_call 69; (with_reducible refine q69.mono ?_); rintro e w5 ⟨rfl, hg5, hb5⟩
       obtain ⟨W8, hW8⟩ : ∃ W8, w5.alloc (.cells #[.pointer (some ⟨w.heap.size + 1 + 1 + 1, 0, none⟩)] 77) = W8 := ⟨_, rfl⟩
       have hb8 : Below w5.heap.size w5 W8 := by rw [← hW8]; exact (Below.refl _ _).alloc (Nat.le_refl _) _
       have f8 : W8.heap[w5.heap.size]? = some (.cells #[.pointer (some ⟨w.heap.size + 1 + 1 + 1, 0, none⟩)] 77 (0, 0)) := by rw [← hW8]; exact World.alloc_heap_new w5 _
       have s8 : W8.heap.size = w5.heap.size + 1 := by rw [← hW8]; simp
       have c5 : W8.cell? ⟨w.heap.size, 0, none⟩ = some (.int .i64 r) := by simp [World.cell?, (hb8.block _ (by have := hb5.size; omega)).trans ((hb5.block _ (by omega)).trans hcw.out.1)]
       obtain ⟨W10, hW10⟩ : ∃ W10, W8.alloc (.cells #[.int .i64 N] 3) = W10 := ⟨_, rfl⟩
       have hb10 : Below W8.heap.size W8 W10 := by rw [← hW10]; exact (Below.refl _ _).alloc (Nat.le_refl _) _
       have f10 : W10.heap[w5.heap.size + 1]? = some (.cells #[.int .i64 N] 3 (0, 0)) := by rw [← s8, ← hW10]; exact World.alloc_heap_new W8 _
       have s10 : W10.heap.size = w5.heap.size + 2 := by rw [← hW10]; simp [s8]
       have c8 : W10.cell? ⟨w5.heap.size, 0, none⟩ = some (.pointer (some ⟨w.heap.size + 1 + 1 + 1, 0, none⟩)) := by simp [World.cell?, (hb10.block _ (by omega)).trans f8]
       obtain ⟨wd, hwd⟩ : ∃ wd, W10.alloc (.cells #[.pointer (some ⟨w.heap.size + 1 + 1 + 1, 0, none⟩)] 77) = wd := ⟨_, rfl⟩
       have hbd : Below W10.heap.size W10 wd := by rw [← hwd]; exact (Below.refl _ _).alloc (Nat.le_refl _) _
       have fd : wd.heap[w5.heap.size + 2]? = some (.cells #[.pointer (some ⟨w.heap.size + 1 + 1 + 1, 0, none⟩)] 77 (0, 0)) := by rw [← s10, ← hwd]; exact World.alloc_heap_new W10 _
       have sd : wd.heap.size = w5.heap.size + 3 := by rw [← hwd]; simp [s10]
       have hz5 : w.heap.size + 4 ≤ w5.heap.size := by have := hg5.lt; omega
       have hb5d : Below w5.heap.size w5 wd := hb8.trans ((hb10.trans (hbd.mono hb10.size)).mono hb8.size)
       have hwd2 := Keep.mk hwd
       have hI0 : Keep (ShI w w5.heap.size N (w.heap.size + 1 + 1 + 1) (adjOf E) r N false wd) := ⟨(hg5.at).below hb5d hg5.lt, (hb5d.block _ (by omega)).trans ((hb5.block _ (by omega)).trans hcw.out.1), (hb5d.block _ (by omega)).trans ((hb5.block _ (by omega)).trans hcw.out.2.1), (hb5d.block _ (by omega)).trans ((hb5.block _ (by omega)).trans hcw.out.2.2.1), ((hb10.trans (hbd.mono hb10.size)).block _ (by omega)).trans f8, (hbd.block _ (by omega)).trans f10, fd, hcw.out.2.2.2.trans ((hb5.trans (hb5d.mono (by omega))).mono (by omega)), by omega⟩
       have hsz5 := Keep.mk hz5
       clear hwd hg5 hb5 hb8 f8 hb10 f10 hbd fd hb5d q69)
    | (go_at_call 66; (with_reducible refine (q66 _).mono ?_); rintro e wm ⟨rfl, hem⟩; rw [hem]; clear hem wm q66))
  go_step3
  go_wp2
  try go_step3
  go_wp2_with (first
    | (go_at_call 73; (with_reducible refine (q73 _ _).mono ?_); rintro e wm ⟨rfl, hwm⟩; rw [hwm]; clear hwm wm))
  refine (wpIn_wide (n := 0)).1 ?_
  try rw [hwd2.out]
  obtain ⟨Z, hZ⟩ : ∃ Z, w5.heap.size = Z := ⟨_, rfl⟩
  obtain ⟨b, hbE⟩ : ∃ b, w.heap.size + 1 + 1 + 1 = b := ⟨_, rfl⟩
  have hI1 : Keep (ShI w Z N b (adjOf E) r N false wd) := by rw [← hZ, ← hbE]; exact hI0
  have sdZ : wd.heap.size = Z + 3 := by rw [sd, hZ]
  have hzZ : w.heap.size + 4 ≤ Z := by rw [← hZ]; exact hsz5.out
  try rw [s10]
  simp only [hZ, hbE]
  have hbZ : b < Z := by omega
  have hn := hG.n12
  have q75s : Keep (∀ (x : Nat → Bool) (W : World) (p : Nat), GraphAt W b N (adjOf E) → W.cell? ⟨p, 0, none⟩ = some (.pointer (some ⟨b, 0, none⟩)) → W.cell? ⟨p + 1, 0, none⟩ = some (.int .i64 r) →
      Calls Try.prog 75 #[.pointer (some ⟨b, 0, none⟩), setV x, .func (.func 86) #[] #[.pointer (some ⟨p, 0, none⟩), .pointer (some ⟨p + 1, 0, none⟩)]] W fun e w' => e = .returned (.bool (soaking N E r x)) ∧ Below W.heap.size W w') := ⟨fun x W p hg h1 h2 =>
    wets_any hg hn (rnd_soak b N p (p + 1) (adjOf E) r hn) (stops_kf (infl_soak N (adjOf E) r) x) (fun W' hb => ⟨hg.below hb hg.lt, (hb.cell (cell_lt h1)).trans h1, (hb.cell (cell_lt h2)).trans h2⟩)⟩
  have q75f : Keep (∀ (x : Nat → Bool) (W : World), GraphAt W b N (adjOf E) →
      Calls Try.prog 75 #[.pointer (some ⟨b, 0, none⟩), setV x, .func (.func 59) #[.pointer (some ⟨b, 0, none⟩)] #[]] W fun e w' => e = .returned (.bool (forcing N E x)) ∧ Below W.heap.size W w') := ⟨fun x W hg =>
    wets_any hg hn (rnd_force b N (adjOf E)) (stops_kf (infl_force (adjOf E)) x) (fun W' hb => hg.below hb hg.lt)⟩
  have q67 := fun W => soak_any b r W
  have hdn := Keep.mk (fun hg => shared_done hG hr1 hg)
  have hye := Keep.mk (fun p post x hx hg hs hfo hsm => shared_yes (p := p) (post := post) (x := x) hG hr1 hx hg hs hfo hsm)
  have hst := Keep.mk (fun p post x hx hg hsm => shared_stop (p := p) (post := post) (x := x) hG hr1 hx hg hsm)
  rw [hR] at hdn hye hst
  obtain ⟨so, hso⟩ : ∃ so, soaking N E r = so := ⟨_, rfl⟩
  obtain ⟨fo, hfo⟩ : ∃ fo, forcing N E = fo := ⟨_, rfl⟩
  rw [hso] at hdn hye hst q75s
  rw [hfo] at hdn hye hst q75f
  clear hI0 hsz5 hG hR hso hfo s10 sd hwd2 q73 hcw c5 c8 hW8 hW10 s8
  refine Pq.range_givesN (gf := 88) (lb := #[.pointer (some ⟨Z + 2, 0, none⟩)]) (by first | rfl | (simp; done)) (enters_of Try.func88 (by kernel_rfl) rfl) (encs := encW) (xs := setsTo N N)
    (R := fun V => GraphAt V b N (adjOf E) ∧ V.cell? ⟨Z + 2, 0, none⟩ = some (.pointer (some ⟨b, 0, none⟩))) (fun x => rfl) (fun W1' h1 hb1 => sets_gives hn W1')
    (shG N so fo) (exS N so) (cS N so) (exS_ok N so)
    (fun q pre V => ShI w Z N b (adjOf E) r (smS N so pre) false V) (fun q pre V => ∃ sm, ShI w Z N b (adjOf E) r sm (!brk N so pre) V) ?_ ?_ ?_ ?_ hI1.out
    (fun x a' V => ∃ g, a' = { tmps := #[.int .i64 N, v, .int .i64 r, undef, undef, .pointer (some ⟨w.heap.size, 0, none⟩), .pointer (some ⟨w.heap.size + 1, 0, none⟩), .pointer (some ⟨w.heap.size + 1 + 1, 0, none⟩), .pointer (some ⟨Z, 0, none⟩), .bool true, .pointer (some ⟨Z + 1, 0, none⟩), .pointer (some ⟨g, 0, none⟩), .tuple #[.pointer (some ⟨b, 0, none⟩), .bool true], .int .i64 N, v, .tuple #[.pointer (some ⟨b, 0, none⟩), .bool true], .pointer (some ⟨b, 0, none⟩), .bool true, .bool true, .bool false, .bool false, .int .i64 r, .bool true, .bool false, .bool false, .int .i64 N, .pointer (some ⟨b, 0, none⟩), .func (.func 88) #[] #[.pointer (some ⟨Z + 2, 0, none⟩)], .agg #[.bool (x 0), .bool (x 1), .bool (x 2), .bool (x 3), .bool (x 4), .bool (x 5), .bool (x 6), .bool (x 7), .bool (x 8), .bool (x 9), .bool (x 10), .bool (x 11)], undef, undef, undef, undef, undef, undef, undef, undef, undef, undef, undef, undef, undef, undef, undef, undef, undef, undef, undef, undef, undef], defers := [] } ∧ SetAt V g x ∧ Z + 5 ≤ g)
    ?_ ?assign ?body ?done ?stop
  · intro q q' pre V V' h hk _; rw [sdZ] at hk; exact h.keepsL hbZ hzZ hk
  · rintro q q' pre V V' ⟨sm, h⟩ hk _; rw [sdZ] at hk; exact ⟨sm, h.keepsL hbZ hzZ hk⟩
  · intro q pre V h; exact ⟨h.g, by simp [World.cell?, h.ts]⟩
  · rintro q pre V ⟨sm, h⟩; exact ⟨h.g, by simp [World.cell?, h.ts]⟩
  · rintro x a' V V' ⟨g, rfl, h1, h2⟩ hs hk
    rw [sdZ] at hk
    exact ⟨g, rfl, (hk.block g h1.lt (by rintro (h | h | h); (· omega); (· omega); (· exact h))).trans h1, h2⟩
  case assign =>
    intro l2 q pre x V K hi hsz2 hK
    obtain ⟨V1, hV1⟩ : ∃ V1, V.alloc (.cells (sc x) 79) = V1 := ⟨_, rfl⟩
    have hb1 : Below V.heap.size V V1 := by rw [← hV1]; exact (Below.refl _ _).alloc (Nat.le_refl _) _
    have hn1 : SetAt V1 V.heap.size x := by rw [← hV1]; exact SetAt.new _ _
    unfold encW setV
    unfold sc at hV1 ⊢
    gi_wp2
    try rw [hV1]
    exact hK _ _ hb1 ⟨V.heap.size, rfl, hn1, by omega⟩
  case body =>
    rintro l2 qs pre x a' V hi hqb ⟨g, rfl, hg', hg6⟩ hsz2 ⟨post, hpost⟩ - -
    have hmx : Try.prog.follows .mixedOrders = true := by kernel_rfl
    have hbr := brk_snoc N so pre x
    have hsn := smS_snoc N so pre x
    have hgd : shG N so fo pre x = (!(decide (smS N so pre < sz x)) && !(so x && fo x)) := rfl
    have q74 : ∀ W, Calls Try.prog 74 #[setV x] W fun e w' => e = .returned (.int .i64 (sz x : Nat)) ∧ Below W.heap.size W w' := fun W => size_any x W
    have q75s := Keep.mk (fun W p => q75s.out x W p)
    have q75f := Keep.mk (fun W => q75f.out x W)
    obtain ⟨k, hkz⟩ : ∃ k, sz x = k := ⟨_, rfl⟩
    obtain ⟨m, hm⟩ : ∃ m, smS N so pre = m := ⟨_, rfl⟩
    rw [hkz] at hbr hgd q74 hsn
    rw [hm] at hbr hgd hi hsn
    obtain ⟨sx, hsx⟩ : ∃ sx, so x = sx := ⟨_, rfl⟩
    obtain ⟨fx, hfx⟩ : ∃ fx, fo x = fx := ⟨_, rfl⟩
    rw [hsx] at hgd q75s hsn
    rw [hfx] at hgd q75f
    unfold setV sc at q74 q75s q75f
    have hik := Keep.mk (And.intro hi hg')
    have hfin : Keep (shG N so fo pre x = (!(decide (m < k)) && !(sx && fx)) ∧ brk N so (pre ++ [x]) = decide (m < k) ∧ smS N so (pre ++ [x]) = (if sx = true then k else m)) := ⟨hgd, hbr, hsn⟩
    clear hi hg' hI1 hbr hsn hgd hpost hkz hm hsx hfx hdn hye hst
    by_cases hmk : m < k
    · have hmk' : (k : Int) > (m : Int) := by omega
      refine wpIn_mono (Q := fun e _ W' => e = .exit 0 ∧ Below V.heap.size V W') ?_ ?_
      · obtain ⟨CX, hCX⟩ : ∃ CX : World → Prop, CX = fun W => Below V.heap.size V W := ⟨_, rfl⟩
        have hCa : ∀ W W', CX W → Below W.heap.size W W' → CX W' := fun W W' h1 hb => by rw [hCX] at h1 ⊢; exact h1.trans (hb.mono h1.size)
        have hC0 : CX V.drew := by rw [hCX]; exact (Below.refl _ _).drew
        have hC11 : ∀ W, CX W → Cells12 W g x := fun W h1 => by rw [hCX] at h1; exact (hik.out.2.after h1).c12
        have hC10 : ∀ W, CX W → W.cell? ⟨Z + 1, 0, none⟩ = some (.int .i64 m) := fun W h1 => by rw [hCX] at h1; simp [World.cell?, (hik.out.1.after hzZ h1).t10]
        have hCf : ∀ W, CX W → Keep (Below V.heap.size V W) := fun W h1 => by rw [hCX] at h1; exact ⟨h1⟩
        clear hCX
        gi_wp2
        refine Manyd.region_round (fun _ W => CX W) hmx (by kernel_rfl) (by kernel_rfl) (fun s s' W h1 hc => hc) (fun s hs => hC0) ?_
        refine Manyd.lex_want (by rfl) (rdC (v := .agg #[.bool (x 0), .bool (x 1), .bool (x 2), .bool (x 3), .bool (x 4), .bool (x 5), .bool (x 6), .bool (x 7), .bool (x 8), .bool (x 9), .bool (x 10), .bool (x 11)]) (fun W h1 => by
          obtain ⟨e0, e1, e2, e3, e4, e5, e6, e7, e8, e9, e10, e11⟩ := hC11 W h1
          clear h1; go_simp; (try rfl); (try (intro hneg; omega)))) ?_
        simp only [Act.put, List.setIfInBounds_toArray, List.set_cons_succ, List.set_cons_zero, Nat.reduceAdd]
        refine Manyd.lex_want (by rfl) (callC (v := .int .i64 k) (f := 74) (args := #[.agg #[.bool (x 0), .bool (x 1), .bool (x 2), .bool (x 3), .bool (x 4), .bool (x 5), .bool (x 6), .bool (x 7), .bool (x 8), .bool (x 9), .bool (x 10), .bool (x 11)]]) (fun W h1 => (q74 W).mono fun e W' hw => ⟨hw.1, hCa _ _ h1 hw.2⟩) (fun W h1 => by clear h1; go_simp; try rfl)) ?_
        simp only [Act.put, List.setIfInBounds_toArray, List.set_cons_succ, List.set_cons_zero, Nat.reduceAdd]
        refine Manyd.lex_want (by rfl) (rdC (v := .int .i64 m) (fun W h1 => by
          have c10 := hC10 W h1
          clear h1; go_simp; (try rfl); (try (intro hneg; omega)))) ?_
        simp only [Act.put, List.setIfInBounds_toArray, List.set_cons_succ, List.set_cons_zero, Nat.reduceAdd]
        refine Manyd.lex_want (by rfl) (rdC (v := .bool true) (fun W h1 => by
          skip
          clear h1; go_simp; (try rfl); (try (intro hneg; omega)))) ?_
        simp only [Act.put, List.setIfInBounds_toArray, List.set_cons_succ, List.set_cons_zero, Nat.reduceAdd]
        refine Manyd.lex_want (by rfl) (rdC (v := .bool true) (fun W h1 => by
          skip
          clear h1; go_simp; (try rfl); (try (intro hneg; omega)))) ?_
        simp only [Act.put, List.setIfInBounds_toArray, List.set_cons_succ, List.set_cons_zero, Nat.reduceAdd]
        refine Manyd.lex_nil fun s9 V4 hs9 hS4 => ?_
        have hf4 := hCf _ hS4
        clear hCf hS4 hC10 hC11 hC0 hCa hs9
        gi_wp2
        first | exact ⟨rfl, hf4.out⟩ | exact hf4.out
      · rintro e a3 W3 ⟨rfl, hb⟩
        obtain ⟨h1, h2, h3⟩ := hfin.out
        rw [decide_eq_true hmk] at h1 h2
        exact ⟨.inr ⟨by rw [h1]; rfl, by unfold exS; rw [h2]; rfl, m, by rw [h2]; exact hik.out.1.after hzZ hb⟩, ⟨hb.size, hb.block _ (by omega), hb.block _ (by omega), fun k hk => hb.block k (hqb k hk).2⟩, hb.os, hb.tape, hb.output⟩
    · have hmk' : ¬ (k : Int) > (m : Int) := by omega
      cases sx with
      | false =>
        refine wpIn_mono (Q := fun e _ W' => e = .normal ∧ Below V.heap.size V W') ?_ ?_
        · obtain ⟨CX, hCX⟩ : ∃ CX : World → Prop, CX = fun W => Below V.heap.size V W := ⟨_, rfl⟩
          have hCa : ∀ W W', CX W → Below W.heap.size W W' → CX W' := fun W W' h1 hb => by rw [hCX] at h1 ⊢; exact h1.trans (hb.mono h1.size)
          have hC0 : CX V.drew := by rw [hCX]; exact (Below.refl _ _).drew
          have hC11 : ∀ W, CX W → Cells12 W g x := fun W h1 => by rw [hCX] at h1; exact (hik.out.2.after h1).c12
          have hC10 : ∀ W, CX W → W.cell? ⟨Z + 1, 0, none⟩ = some (.int .i64 m) := fun W h1 => by rw [hCX] at h1; simp [World.cell?, (hik.out.1.after hzZ h1).t10]
          have hCf : ∀ W, CX W → Keep (Below V.heap.size V W) := fun W h1 => by rw [hCX] at h1; exact ⟨h1⟩
          clear hCX
          gi_wp2
          refine Manyd.region_round (fun _ W => CX W) hmx (by kernel_rfl) (by kernel_rfl) (fun s s' W h1 hc => hc) (fun s hs => hC0) ?_
          refine Manyd.lex_want (by rfl) (rdC (v := .agg #[.bool (x 0), .bool (x 1), .bool (x 2), .bool (x 3), .bool (x 4), .bool (x 5), .bool (x 6), .bool (x 7), .bool (x 8), .bool (x 9), .bool (x 10), .bool (x 11)]) (fun W h1 => by
            obtain ⟨e0, e1, e2, e3, e4, e5, e6, e7, e8, e9, e10, e11⟩ := hC11 W h1
            clear h1; go_simp; (try rfl); (try (intro hneg; omega)))) ?_
          simp only [Act.put, List.setIfInBounds_toArray, List.set_cons_succ, List.set_cons_zero, Nat.reduceAdd]
          refine Manyd.lex_want (by rfl) (callC (v := .int .i64 k) (f := 74) (args := #[.agg #[.bool (x 0), .bool (x 1), .bool (x 2), .bool (x 3), .bool (x 4), .bool (x 5), .bool (x 6), .bool (x 7), .bool (x 8), .bool (x 9), .bool (x 10), .bool (x 11)]]) (fun W h1 => (q74 W).mono fun e W' hw => ⟨hw.1, hCa _ _ h1 hw.2⟩) (fun W h1 => by clear h1; go_simp; try rfl)) ?_
          simp only [Act.put, List.setIfInBounds_toArray, List.set_cons_succ, List.set_cons_zero, Nat.reduceAdd]
          refine Manyd.lex_want (by rfl) (rdC (v := .int .i64 m) (fun W h1 => by
            have c10 := hC10 W h1
            clear h1; go_simp; (try rfl); (try (intro hneg; omega)))) ?_
          simp only [Act.put, List.setIfInBounds_toArray, List.set_cons_succ, List.set_cons_zero, Nat.reduceAdd]
          refine Manyd.lex_want (by rfl) (rdC (v := .bool false) (fun W h1 => by
            skip
            clear h1; go_simp; (try rfl); (try (intro hneg; omega)))) ?_
          simp only [Act.put, List.setIfInBounds_toArray, List.set_cons_succ, List.set_cons_zero, Nat.reduceAdd]
          refine Manyd.lex_want (by rfl) (rdC (v := .bool false) (fun W h1 => by
            skip
            clear h1; go_simp; (try rfl); (try (intro hneg; omega)))) ?_
          simp only [Act.put, List.setIfInBounds_toArray, List.set_cons_succ, List.set_cons_zero, Nat.reduceAdd]
          refine Manyd.lex_nil fun s9 V4 hs9 hS4 => ?_
          have hf4 := hCf _ hS4
          clear hCf hS4 hC10 hC11 hC0 hCa hs9
          gi_wp2
          obtain ⟨C8, hC8⟩ : ∃ C8 : (Nat → Bool) → Nat → World → Prop, C8 = fun t p W => Below V4.heap.size V4 W ∧ (t 4 = true → W.cell? ⟨p, 0, none⟩ = some (.pointer (some ⟨b, 0, none⟩)) ∧ W.cell? ⟨p + 1, 0, none⟩ = some (.int .i64 r)) := ⟨_, rfl⟩
          have hi4 := Keep.mk (And.intro (hik.out.1.after hzZ hf4.out) (hik.out.2.after hf4.out))
          have hCk : ∀ i, i ≠ 4 → ∀ t p W, C8 t p W → C8 (Manyd.upd t i) p W := fun i h4 t p W h => by
            rw [hC8] at h ⊢
            simp only at h ⊢
            rw [show Manyd.upd t i 4 = t 4 by simp [Manyd.upd, h4]]; exact h
          have hCc : ∀ t p W W', C8 t p W → Below W.heap.size W W' → C8 t p W' := fun t p W W' h hb => by
            rw [hC8] at h ⊢
            exact ⟨h.1.trans (hb.mono h.1.size), fun e => ⟨(hb.cell (cell_lt (h.2 e).1)).trans (h.2 e).1, (hb.cell (cell_lt (h.2 e).2)).trans (h.2 e).2⟩⟩
          have hCb : ∀ t p W, C8 t p W → Keep (ShI w Z N b (adjOf E) r m false W ∧ SetAt W g x ∧ Below V4.heap.size V4 W) := fun t p W h => by
            rw [hC8] at h
            exact ⟨hi4.out.1.after hzZ h.1, hi4.out.2.after h.1, h.1⟩
          have hCp : ∀ t p W, C8 t p W → t 4 = true → W.cell? ⟨p, 0, none⟩ = some (.pointer (some ⟨b, 0, none⟩)) ∧ W.cell? ⟨p + 1, 0, none⟩ = some (.int .i64 r) := fun t p W h => by rw [hC8] at h; exact h.2
          have hC4 : ∀ t p W W', C8 t p W → W' = (W.alloc (.cells #[.pointer (some ⟨b, 0, none⟩)] 77)).alloc (.cells #[.int .i64 r] 3) → C8 (Manyd.upd t 4) W.heap.size W' := fun t p W W' h hW => by
            have b0 : Below W.heap.size W (W.alloc (.cells #[.pointer (some ⟨b, 0, none⟩)] 77)) := (Below.refl _ _).alloc (Nat.le_refl _) _
            have b1 : Below (W.heap.size + 1) (W.alloc (.cells #[.pointer (some ⟨b, 0, none⟩)] 77)) W' := by rw [hW]; exact (Below.refl _ _).alloc (by simp) _
            have c0 : W'.heap[W.heap.size]? = some (.cells #[.pointer (some ⟨b, 0, none⟩)] 77 (0, 0)) := (b1.block _ (by omega)).trans (World.alloc_heap_new W _)
            have c1 : W'.heap[W.heap.size + 1]? = some (.cells #[.int .i64 r] 3 (0, 0)) := by
              rw [hW, show W.heap.size + 1 = (W.alloc (.cells #[.pointer (some ⟨b, 0, none⟩)] 77)).heap.size by simp]; exact World.alloc_heap_new _ _
            rw [hC8] at h ⊢
            exact ⟨h.1.trans ((b0.trans (b1.mono (by omega))).mono h.1.size), fun _ => ⟨by simp [World.cell?, c0], by simp [World.cell?, c1]⟩⟩
          have hC0 : ∀ t : Nat → Bool, (∀ j, j < 8 → t j = false) → C8 t 0 V4.drew := fun t ht => by
            rw [hC8]
            exact ⟨(Below.refl _ _).drew, fun e => by rw [ht 4 (by decide)] at e; cases e⟩
          clear hC8
          gi_wp2
          refine Inv.region_invR (fun t a W => ∃ p, a = { tmps := #[.int .i64 N, v, .int .i64 r, undef, undef, .pointer (some ⟨w.heap.size, 0, none⟩), .pointer (some ⟨w.heap.size + 1, 0, none⟩), .pointer (some ⟨w.heap.size + 1 + 1, 0, none⟩), .pointer (some ⟨Z, 0, none⟩), .bool true, .pointer (some ⟨Z + 1, 0, none⟩), .pointer (some ⟨g, 0, none⟩), .tuple #[.pointer (some ⟨b, 0, none⟩), .bool true], .int .i64 N, v, .tuple #[.pointer (some ⟨b, 0, none⟩), .bool true], .pointer (some ⟨b, 0, none⟩), .bool true, .bool true, .bool false, .bool false, .int .i64 r, .bool true, .bool false, .bool false, .int .i64 N, .pointer (some ⟨b, 0, none⟩), .func (.func 88) #[] #[.pointer (some ⟨Z + 2, 0, none⟩)], .agg #[.bool (x 0), .bool (x 1), .bool (x 2), .bool (x 3), .bool (x 4), .bool (x 5), .bool (x 6), .bool (x 7), .bool (x 8), .bool (x 9), .bool (x 10), .bool (x 11)], .bool false, .agg #[.bool (x 0), .bool (x 1), .bool (x 2), .bool (x 3), .bool (x 4), .bool (x 5), .bool (x 6), .bool (x 7), .bool (x 8), .bool (x 9), .bool (x 10), .bool (x 11)], .int .i64 k, .int .i64 m, .bool false, if t 7 = true then .bool true else undef, if t 0 = true then .pointer (some ⟨b, 0, none⟩) else undef, if t 1 = true then .agg #[.bool (x 0), .bool (x 1), .bool (x 2), .bool (x 3), .bool (x 4), .bool (x 5), .bool (x 6), .bool (x 7), .bool (x 8), .bool (x 9), .bool (x 10), .bool (x 11)] else undef, if t 2 = true then .pointer (some ⟨b, 0, none⟩) else undef, if t 3 = true then .int .i64 r else undef, if t 4 = true then .func (.func 86) #[] #[.pointer (some ⟨p, 0, none⟩), .pointer (some ⟨p + 1, 0, none⟩)] else undef, if t 5 = true then .bool false else undef, if t 6 = true then .bool true else undef, undef, undef, undef, undef, undef, undef, undef, undef], defers := [] } ∧ C8 t p W) hmx (by kernel_rfl) (by kernel_rfl) ?_ ?_ ?_
          · intro t hs
            refine ⟨0, ?_, hC0 t (fun j hj => hs j hj)⟩
            simp only [hs 0 (by decide), hs 1 (by decide), hs 2 (by decide), hs 3 (by decide), hs 4 (by decide), hs 5 (by decide), hs 6 (by decide), hs 7 (by decide), Bool.false_eq_true, if_false]
          · refine ⟨?_, ?_, ?_, ?_, ?_, ?_, ?_, ?_, trivial⟩
            · rintro t a W hun hdep hbeh ⟨p, rfl, hT⟩
              (try simp only [Nat.reduceAdd] at hun)
              have c8 : W.cell? ⟨Z, 0, none⟩ = some (.pointer (some ⟨b, 0, none⟩)) := by simp [World.cell?, (hCb t p W hT).out.1.t8]
              refine .inl ⟨by rfl, Inv.comesV_val (.pointer (some ⟨b, 0, none⟩)) W (by (clear hT; go_simp; (try rfl); try (intro hneg; omega))) ⟨p, by (simp only [Act.put, List.setIfInBounds_toArray, List.set_cons_succ, List.set_cons_zero, Manyd.upd, Nat.reduceAdd, Nat.reduceBEq, Bool.or_false, Bool.or_true, if_true]), hCk 0 (by decide) t p W hT⟩⟩
            · rintro t a W hun hdep hbeh ⟨p, rfl, hT⟩
              (try simp only [Nat.reduceAdd] at hun)
              obtain ⟨e0, e1, e2, e3, e4, e5, e6, e7, e8, e9, e10, e11⟩ := (hCb t p W hT).out.2.1.c12
              refine .inl ⟨by rfl, Inv.comesV_val (.agg #[.bool (x 0), .bool (x 1), .bool (x 2), .bool (x 3), .bool (x 4), .bool (x 5), .bool (x 6), .bool (x 7), .bool (x 8), .bool (x 9), .bool (x 10), .bool (x 11)]) W (by (clear hT; go_simp; (try rfl); try (intro hneg; omega))) ⟨p, by (simp only [Act.put, List.setIfInBounds_toArray, List.set_cons_succ, List.set_cons_zero, Manyd.upd, Nat.reduceAdd, Nat.reduceBEq, Bool.or_false, Bool.or_true, if_true]), hCk 1 (by decide) t p W hT⟩⟩
            · rintro t a W hun hdep hbeh ⟨p, rfl, hT⟩
              (try simp only [Nat.reduceAdd] at hun)
              have c8 : W.cell? ⟨Z, 0, none⟩ = some (.pointer (some ⟨b, 0, none⟩)) := by simp [World.cell?, (hCb t p W hT).out.1.t8]
              refine .inl ⟨by rfl, Inv.comesV_val (.pointer (some ⟨b, 0, none⟩)) W (by (clear hT; go_simp; (try rfl); try (intro hneg; omega))) ⟨p, by (simp only [Act.put, List.setIfInBounds_toArray, List.set_cons_succ, List.set_cons_zero, Manyd.upd, Nat.reduceAdd, Nat.reduceBEq, Bool.or_false, Bool.or_true, if_true]), hCk 2 (by decide) t p W hT⟩⟩
            · rintro t a W hun hdep hbeh ⟨p, rfl, hT⟩
              (try simp only [Nat.reduceAdd] at hun)
              have c5 : W.cell? ⟨w.heap.size, 0, none⟩ = some (.int .i64 r) := by simp [World.cell?, (hCb t p W hT).out.1.t5]
              refine .inl ⟨by rfl, Inv.comesV_val (.int .i64 r) W (by (clear hT; go_simp; (try rfl); try (intro hneg; omega))) ⟨p, by (simp only [Act.put, List.setIfInBounds_toArray, List.set_cons_succ, List.set_cons_zero, Manyd.upd, Nat.reduceAdd, Nat.reduceBEq, Bool.or_false, Bool.or_true, if_true]), hCk 3 (by decide) t p W hT⟩⟩
            · rintro t a W hun hdep hbeh ⟨p, rfl, hT⟩
              (try simp only [Nat.reduceAdd] at hun)
              have h2 : t 2 = true := Inv.depB_mem 2 hdep (by rfl)
              have h3 : t 3 = true := Inv.depB_mem 3 hdep (by rfl)
              refine .inl ⟨by rfl, Inv.comesV_call 67 #[.pointer (some ⟨b, 0, none⟩), .int .i64 r] W (by (simp only [h2, h3, if_true]; clear hT; go_simp; try rfl)) ((q67 W).mono fun e w5 hw5 => ⟨.func (.func 86) #[] #[.pointer (some ⟨W.heap.size, 0, none⟩), .pointer (some ⟨W.heap.size + 1, 0, none⟩)], hw5.1, W.heap.size, by (simp only [Act.put, List.setIfInBounds_toArray, List.set_cons_succ, List.set_cons_zero, Manyd.upd, Nat.reduceAdd, Nat.reduceBEq, Bool.or_false, Bool.or_true, if_true]), hC4 t p W w5 hT hw5.2⟩)⟩
            · rintro t a W hun hdep hbeh ⟨p, rfl, hT⟩
              (try simp only [Nat.reduceAdd] at hun)
              have h0 : t 0 = true := Inv.depB_mem 0 hdep (by rfl)
              have h1 : t 1 = true := Inv.depB_mem 1 hdep (by rfl)
              have h4 : t 4 = true := Inv.depB_mem 4 hdep (by rfl)
              refine .inl ⟨by rfl, Inv.comesV_call 75 #[.pointer (some ⟨b, 0, none⟩), .agg #[.bool (x 0), .bool (x 1), .bool (x 2), .bool (x 3), .bool (x 4), .bool (x 5), .bool (x 6), .bool (x 7), .bool (x 8), .bool (x 9), .bool (x 10), .bool (x 11)], .func (.func 86) #[] #[.pointer (some ⟨p, 0, none⟩), .pointer (some ⟨p + 1, 0, none⟩)]] W (by (simp only [h0, h1, h4, if_true]; clear hT; go_simp; try rfl)) ((q75s.out W p (hCb t p W hT).out.1.g (hCp t p W hT h4).1 (hCp t p W hT h4).2).mono fun e w5 hw5 => ⟨.bool false, hw5.1, p, by (simp only [Act.put, List.setIfInBounds_toArray, List.set_cons_succ, List.set_cons_zero, Manyd.upd, Nat.reduceAdd, Nat.reduceBEq, Bool.or_false, Bool.or_true, if_true]), hCk 5 (by decide) t p w5 (hCc t p W w5 hT hw5.2)⟩)⟩
            · rintro t a W hun hdep hbeh ⟨p, rfl, hT⟩
              (try simp only [Nat.reduceAdd] at hun)
              have h5 : t 5 = true := Inv.depB_mem 5 hdep (by rfl)
              refine .inl ⟨by rfl, Inv.comesV_val (.bool true) W (by (simp only [h5, if_true]; clear hT; go_simp; (try rfl); try (intro hneg; omega))) ⟨p, by (simp only [Act.put, List.setIfInBounds_toArray, List.set_cons_succ, List.set_cons_zero, Manyd.upd, Nat.reduceAdd, Nat.reduceBEq, Bool.or_false, Bool.or_true, if_true]), hCk 6 (by decide) t p W hT⟩⟩
            · rintro t a W hun hdep hbeh ⟨p, rfl, hT⟩
              (try simp only [Nat.reduceAdd] at hun)
              have h6 : t 6 = true := Inv.depB_mem 6 hdep (by rfl)
              refine .inl ⟨by rfl, Inv.comesV_val (.bool true) W (by (simp only [h6, if_true]; clear hT; go_simp; (try rfl); try (intro hneg; omega))) ⟨p, by (simp only [Act.put, List.setIfInBounds_toArray, List.set_cons_succ, List.set_cons_zero, Manyd.upd, Nat.reduceAdd, Nat.reduceBEq, Bool.or_false, Bool.or_true, if_true]), hCk 7 (by decide) t p W hT⟩⟩
          · rintro t a V5 hs ⟨p, rfl, hT⟩
            simp only [hs 0 (by decide), hs 1 (by decide), hs 2 (by decide), hs 3 (by decide), hs 4 (by decide), hs 5 (by decide), hs 6 (by decide), hs 7 (by decide), if_true]
            have h5 := hCb t p V5 hT
            clear hCk hCc hCb hCp hC4 hC0 hT
            gi_wp2
            first | exact ⟨rfl, hf4.out.trans (h5.out.2.2.mono hf4.out.size)⟩ | exact hf4.out.trans (h5.out.2.2.mono hf4.out.size)
        · rintro e a3 W3 ⟨rfl, hb⟩
          obtain ⟨h1, h2, h3⟩ := hfin.out
          rw [decide_eq_false hmk] at h1 h2
          exact ⟨.inl ⟨by rw [h1]; rfl, rfl, by rw [h3]; exact hik.out.1.after hzZ hb⟩, ⟨hb.size, hb.block _ (by omega), hb.block _ (by omega), fun k hk => hb.block k (hqb k hk).2⟩, hb.os, hb.tape, hb.output⟩
      | true =>
        cases fx with
        | true =>
          refine wpIn_mono (Q := fun e _ W' => e = .ret ∧ ∃ V9, Below V.heap.size V V9 ∧ W' = (V9.setCell ⟨w.heap.size + 1, 0, none⟩ (.bool true)).setCell ⟨w.heap.size + 1 + 1, 0, none⟩ (.int .i64 0)) ?_ ?_
          · obtain ⟨CX, hCX⟩ : ∃ CX : World → Prop, CX = fun W => Below V.heap.size V W := ⟨_, rfl⟩
            have hCa : ∀ W W', CX W → Below W.heap.size W W' → CX W' := fun W W' h1 hb => by rw [hCX] at h1 ⊢; exact h1.trans (hb.mono h1.size)
            have hC0 : CX V.drew := by rw [hCX]; exact (Below.refl _ _).drew
            have hC11 : ∀ W, CX W → Cells12 W g x := fun W h1 => by rw [hCX] at h1; exact (hik.out.2.after h1).c12
            have hC10 : ∀ W, CX W → W.cell? ⟨Z + 1, 0, none⟩ = some (.int .i64 m) := fun W h1 => by rw [hCX] at h1; simp [World.cell?, (hik.out.1.after hzZ h1).t10]
            have hCf : ∀ W, CX W → Keep (Below V.heap.size V W) := fun W h1 => by rw [hCX] at h1; exact ⟨h1⟩
            clear hCX
            gi_wp2
            refine Manyd.region_round (fun _ W => CX W) hmx (by kernel_rfl) (by kernel_rfl) (fun s s' W h1 hc => hc) (fun s hs => hC0) ?_
            refine Manyd.lex_want (by rfl) (rdC (v := .agg #[.bool (x 0), .bool (x 1), .bool (x 2), .bool (x 3), .bool (x 4), .bool (x 5), .bool (x 6), .bool (x 7), .bool (x 8), .bool (x 9), .bool (x 10), .bool (x 11)]) (fun W h1 => by
              obtain ⟨e0, e1, e2, e3, e4, e5, e6, e7, e8, e9, e10, e11⟩ := hC11 W h1
              clear h1; go_simp; (try rfl); (try (intro hneg; omega)))) ?_
            simp only [Act.put, List.setIfInBounds_toArray, List.set_cons_succ, List.set_cons_zero, Nat.reduceAdd]
            refine Manyd.lex_want (by rfl) (callC (v := .int .i64 k) (f := 74) (args := #[.agg #[.bool (x 0), .bool (x 1), .bool (x 2), .bool (x 3), .bool (x 4), .bool (x 5), .bool (x 6), .bool (x 7), .bool (x 8), .bool (x 9), .bool (x 10), .bool (x 11)]]) (fun W h1 => (q74 W).mono fun e W' hw => ⟨hw.1, hCa _ _ h1 hw.2⟩) (fun W h1 => by clear h1; go_simp; try rfl)) ?_
            simp only [Act.put, List.setIfInBounds_toArray, List.set_cons_succ, List.set_cons_zero, Nat.reduceAdd]
            refine Manyd.lex_want (by rfl) (rdC (v := .int .i64 m) (fun W h1 => by
              have c10 := hC10 W h1
              clear h1; go_simp; (try rfl); (try (intro hneg; omega)))) ?_
            simp only [Act.put, List.setIfInBounds_toArray, List.set_cons_succ, List.set_cons_zero, Nat.reduceAdd]
            refine Manyd.lex_want (by rfl) (rdC (v := .bool false) (fun W h1 => by
              skip
              clear h1; go_simp; (try rfl); (try (intro hneg; omega)))) ?_
            simp only [Act.put, List.setIfInBounds_toArray, List.set_cons_succ, List.set_cons_zero, Nat.reduceAdd]
            refine Manyd.lex_want (by rfl) (rdC (v := .bool false) (fun W h1 => by
              skip
              clear h1; go_simp; (try rfl); (try (intro hneg; omega)))) ?_
            simp only [Act.put, List.setIfInBounds_toArray, List.set_cons_succ, List.set_cons_zero, Nat.reduceAdd]
            refine Manyd.lex_nil fun s9 V4 hs9 hS4 => ?_
            have hf4 := hCf _ hS4
            clear hCf hS4 hC10 hC11 hC0 hCa hs9
            gi_wp2
            obtain ⟨C8, hC8⟩ : ∃ C8 : (Nat → Bool) → Nat → World → Prop, C8 = fun t p W => Below V4.heap.size V4 W ∧ (t 4 = true → W.cell? ⟨p, 0, none⟩ = some (.pointer (some ⟨b, 0, none⟩)) ∧ W.cell? ⟨p + 1, 0, none⟩ = some (.int .i64 r)) := ⟨_, rfl⟩
            have hi4 := Keep.mk (And.intro (hik.out.1.after hzZ hf4.out) (hik.out.2.after hf4.out))
            have hCk : ∀ i, i ≠ 4 → ∀ t p W, C8 t p W → C8 (Manyd.upd t i) p W := fun i h4 t p W h => by
              rw [hC8] at h ⊢
              simp only at h ⊢
              rw [show Manyd.upd t i 4 = t 4 by simp [Manyd.upd, h4]]; exact h
            have hCc : ∀ t p W W', C8 t p W → Below W.heap.size W W' → C8 t p W' := fun t p W W' h hb => by
              rw [hC8] at h ⊢
              exact ⟨h.1.trans (hb.mono h.1.size), fun e => ⟨(hb.cell (cell_lt (h.2 e).1)).trans (h.2 e).1, (hb.cell (cell_lt (h.2 e).2)).trans (h.2 e).2⟩⟩
            have hCb : ∀ t p W, C8 t p W → Keep (ShI w Z N b (adjOf E) r m false W ∧ SetAt W g x ∧ Below V4.heap.size V4 W) := fun t p W h => by
              rw [hC8] at h
              exact ⟨hi4.out.1.after hzZ h.1, hi4.out.2.after h.1, h.1⟩
            have hCp : ∀ t p W, C8 t p W → t 4 = true → W.cell? ⟨p, 0, none⟩ = some (.pointer (some ⟨b, 0, none⟩)) ∧ W.cell? ⟨p + 1, 0, none⟩ = some (.int .i64 r) := fun t p W h => by rw [hC8] at h; exact h.2
            have hC4 : ∀ t p W W', C8 t p W → W' = (W.alloc (.cells #[.pointer (some ⟨b, 0, none⟩)] 77)).alloc (.cells #[.int .i64 r] 3) → C8 (Manyd.upd t 4) W.heap.size W' := fun t p W W' h hW => by
              have b0 : Below W.heap.size W (W.alloc (.cells #[.pointer (some ⟨b, 0, none⟩)] 77)) := (Below.refl _ _).alloc (Nat.le_refl _) _
              have b1 : Below (W.heap.size + 1) (W.alloc (.cells #[.pointer (some ⟨b, 0, none⟩)] 77)) W' := by rw [hW]; exact (Below.refl _ _).alloc (by simp) _
              have c0 : W'.heap[W.heap.size]? = some (.cells #[.pointer (some ⟨b, 0, none⟩)] 77 (0, 0)) := (b1.block _ (by omega)).trans (World.alloc_heap_new W _)
              have c1 : W'.heap[W.heap.size + 1]? = some (.cells #[.int .i64 r] 3 (0, 0)) := by
                rw [hW, show W.heap.size + 1 = (W.alloc (.cells #[.pointer (some ⟨b, 0, none⟩)] 77)).heap.size by simp]; exact World.alloc_heap_new _ _
              rw [hC8] at h ⊢
              exact ⟨h.1.trans ((b0.trans (b1.mono (by omega))).mono h.1.size), fun _ => ⟨by simp [World.cell?, c0], by simp [World.cell?, c1]⟩⟩
            have hC0 : ∀ t : Nat → Bool, (∀ j, j < 8 → t j = false) → C8 t 0 V4.drew := fun t ht => by
              rw [hC8]
              exact ⟨(Below.refl _ _).drew, fun e => by rw [ht 4 (by decide)] at e; cases e⟩
            clear hC8
            gi_wp2
            refine Inv.region_invR (fun t a W => ∃ p, a = { tmps := #[.int .i64 N, v, .int .i64 r, undef, undef, .pointer (some ⟨w.heap.size, 0, none⟩), .pointer (some ⟨w.heap.size + 1, 0, none⟩), .pointer (some ⟨w.heap.size + 1 + 1, 0, none⟩), .pointer (some ⟨Z, 0, none⟩), .bool true, .pointer (some ⟨Z + 1, 0, none⟩), .pointer (some ⟨g, 0, none⟩), .tuple #[.pointer (some ⟨b, 0, none⟩), .bool true], .int .i64 N, v, .tuple #[.pointer (some ⟨b, 0, none⟩), .bool true], .pointer (some ⟨b, 0, none⟩), .bool true, .bool true, .bool false, .bool false, .int .i64 r, .bool true, .bool false, .bool false, .int .i64 N, .pointer (some ⟨b, 0, none⟩), .func (.func 88) #[] #[.pointer (some ⟨Z + 2, 0, none⟩)], .agg #[.bool (x 0), .bool (x 1), .bool (x 2), .bool (x 3), .bool (x 4), .bool (x 5), .bool (x 6), .bool (x 7), .bool (x 8), .bool (x 9), .bool (x 10), .bool (x 11)], .bool false, .agg #[.bool (x 0), .bool (x 1), .bool (x 2), .bool (x 3), .bool (x 4), .bool (x 5), .bool (x 6), .bool (x 7), .bool (x 8), .bool (x 9), .bool (x 10), .bool (x 11)], .int .i64 k, .int .i64 m, .bool false, if t 7 = true then .bool false else undef, if t 0 = true then .pointer (some ⟨b, 0, none⟩) else undef, if t 1 = true then .agg #[.bool (x 0), .bool (x 1), .bool (x 2), .bool (x 3), .bool (x 4), .bool (x 5), .bool (x 6), .bool (x 7), .bool (x 8), .bool (x 9), .bool (x 10), .bool (x 11)] else undef, if t 2 = true then .pointer (some ⟨b, 0, none⟩) else undef, if t 3 = true then .int .i64 r else undef, if t 4 = true then .func (.func 86) #[] #[.pointer (some ⟨p, 0, none⟩), .pointer (some ⟨p + 1, 0, none⟩)] else undef, if t 5 = true then .bool true else undef, if t 6 = true then .bool false else undef, undef, undef, undef, undef, undef, undef, undef, undef], defers := [] } ∧ C8 t p W) hmx (by kernel_rfl) (by kernel_rfl) ?_ ?_ ?_
            · intro t hs
              refine ⟨0, ?_, hC0 t (fun j hj => hs j hj)⟩
              simp only [hs 0 (by decide), hs 1 (by decide), hs 2 (by decide), hs 3 (by decide), hs 4 (by decide), hs 5 (by decide), hs 6 (by decide), hs 7 (by decide), Bool.false_eq_true, if_false]
            · refine ⟨?_, ?_, ?_, ?_, ?_, ?_, ?_, ?_, trivial⟩
              · rintro t a W hun hdep hbeh ⟨p, rfl, hT⟩
                (try simp only [Nat.reduceAdd] at hun)
                have c8 : W.cell? ⟨Z, 0, none⟩ = some (.pointer (some ⟨b, 0, none⟩)) := by simp [World.cell?, (hCb t p W hT).out.1.t8]
                refine .inl ⟨by rfl, Inv.comesV_val (.pointer (some ⟨b, 0, none⟩)) W (by (clear hT; go_simp; (try rfl); try (intro hneg; omega))) ⟨p, by (simp only [Act.put, List.setIfInBounds_toArray, List.set_cons_succ, List.set_cons_zero, Manyd.upd, Nat.reduceAdd, Nat.reduceBEq, Bool.or_false, Bool.or_true, if_true]), hCk 0 (by decide) t p W hT⟩⟩
              · rintro t a W hun hdep hbeh ⟨p, rfl, hT⟩
                (try simp only [Nat.reduceAdd] at hun)
                obtain ⟨e0, e1, e2, e3, e4, e5, e6, e7, e8, e9, e10, e11⟩ := (hCb t p W hT).out.2.1.c12
                refine .inl ⟨by rfl, Inv.comesV_val (.agg #[.bool (x 0), .bool (x 1), .bool (x 2), .bool (x 3), .bool (x 4), .bool (x 5), .bool (x 6), .bool (x 7), .bool (x 8), .bool (x 9), .bool (x 10), .bool (x 11)]) W (by (clear hT; go_simp; (try rfl); try (intro hneg; omega))) ⟨p, by (simp only [Act.put, List.setIfInBounds_toArray, List.set_cons_succ, List.set_cons_zero, Manyd.upd, Nat.reduceAdd, Nat.reduceBEq, Bool.or_false, Bool.or_true, if_true]), hCk 1 (by decide) t p W hT⟩⟩
              · rintro t a W hun hdep hbeh ⟨p, rfl, hT⟩
                (try simp only [Nat.reduceAdd] at hun)
                have c8 : W.cell? ⟨Z, 0, none⟩ = some (.pointer (some ⟨b, 0, none⟩)) := by simp [World.cell?, (hCb t p W hT).out.1.t8]
                refine .inl ⟨by rfl, Inv.comesV_val (.pointer (some ⟨b, 0, none⟩)) W (by (clear hT; go_simp; (try rfl); try (intro hneg; omega))) ⟨p, by (simp only [Act.put, List.setIfInBounds_toArray, List.set_cons_succ, List.set_cons_zero, Manyd.upd, Nat.reduceAdd, Nat.reduceBEq, Bool.or_false, Bool.or_true, if_true]), hCk 2 (by decide) t p W hT⟩⟩
              · rintro t a W hun hdep hbeh ⟨p, rfl, hT⟩
                (try simp only [Nat.reduceAdd] at hun)
                have c5 : W.cell? ⟨w.heap.size, 0, none⟩ = some (.int .i64 r) := by simp [World.cell?, (hCb t p W hT).out.1.t5]
                refine .inl ⟨by rfl, Inv.comesV_val (.int .i64 r) W (by (clear hT; go_simp; (try rfl); try (intro hneg; omega))) ⟨p, by (simp only [Act.put, List.setIfInBounds_toArray, List.set_cons_succ, List.set_cons_zero, Manyd.upd, Nat.reduceAdd, Nat.reduceBEq, Bool.or_false, Bool.or_true, if_true]), hCk 3 (by decide) t p W hT⟩⟩
              · rintro t a W hun hdep hbeh ⟨p, rfl, hT⟩
                (try simp only [Nat.reduceAdd] at hun)
                have h2 : t 2 = true := Inv.depB_mem 2 hdep (by rfl)
                have h3 : t 3 = true := Inv.depB_mem 3 hdep (by rfl)
                refine .inl ⟨by rfl, Inv.comesV_call 67 #[.pointer (some ⟨b, 0, none⟩), .int .i64 r] W (by (simp only [h2, h3, if_true]; clear hT; go_simp; try rfl)) ((q67 W).mono fun e w5 hw5 => ⟨.func (.func 86) #[] #[.pointer (some ⟨W.heap.size, 0, none⟩), .pointer (some ⟨W.heap.size + 1, 0, none⟩)], hw5.1, W.heap.size, by (simp only [Act.put, List.setIfInBounds_toArray, List.set_cons_succ, List.set_cons_zero, Manyd.upd, Nat.reduceAdd, Nat.reduceBEq, Bool.or_false, Bool.or_true, if_true]), hC4 t p W w5 hT hw5.2⟩)⟩
              · rintro t a W hun hdep hbeh ⟨p, rfl, hT⟩
                (try simp only [Nat.reduceAdd] at hun)
                have h0 : t 0 = true := Inv.depB_mem 0 hdep (by rfl)
                have h1 : t 1 = true := Inv.depB_mem 1 hdep (by rfl)
                have h4 : t 4 = true := Inv.depB_mem 4 hdep (by rfl)
                refine .inl ⟨by rfl, Inv.comesV_call 75 #[.pointer (some ⟨b, 0, none⟩), .agg #[.bool (x 0), .bool (x 1), .bool (x 2), .bool (x 3), .bool (x 4), .bool (x 5), .bool (x 6), .bool (x 7), .bool (x 8), .bool (x 9), .bool (x 10), .bool (x 11)], .func (.func 86) #[] #[.pointer (some ⟨p, 0, none⟩), .pointer (some ⟨p + 1, 0, none⟩)]] W (by (simp only [h0, h1, h4, if_true]; clear hT; go_simp; try rfl)) ((q75s.out W p (hCb t p W hT).out.1.g (hCp t p W hT h4).1 (hCp t p W hT h4).2).mono fun e w5 hw5 => ⟨.bool true, hw5.1, p, by (simp only [Act.put, List.setIfInBounds_toArray, List.set_cons_succ, List.set_cons_zero, Manyd.upd, Nat.reduceAdd, Nat.reduceBEq, Bool.or_false, Bool.or_true, if_true]), hCk 5 (by decide) t p w5 (hCc t p W w5 hT hw5.2)⟩)⟩
              · rintro t a W hun hdep hbeh ⟨p, rfl, hT⟩
                (try simp only [Nat.reduceAdd] at hun)
                have h5 : t 5 = true := Inv.depB_mem 5 hdep (by rfl)
                refine .inl ⟨by rfl, Inv.comesV_val (.bool false) W (by (simp only [h5, if_true]; clear hT; go_simp; (try rfl); try (intro hneg; omega))) ⟨p, by (simp only [Act.put, List.setIfInBounds_toArray, List.set_cons_succ, List.set_cons_zero, Manyd.upd, Nat.reduceAdd, Nat.reduceBEq, Bool.or_false, Bool.or_true, if_true]), hCk 6 (by decide) t p W hT⟩⟩
              · rintro t a W hun hdep hbeh ⟨p, rfl, hT⟩
                (try simp only [Nat.reduceAdd] at hun)
                have h6 : t 6 = true := Inv.depB_mem 6 hdep (by rfl)
                refine .inl ⟨by rfl, Inv.comesV_val (.bool false) W (by (simp only [h6, if_true]; clear hT; go_simp; (try rfl); try (intro hneg; omega))) ⟨p, by (simp only [Act.put, List.setIfInBounds_toArray, List.set_cons_succ, List.set_cons_zero, Manyd.upd, Nat.reduceAdd, Nat.reduceBEq, Bool.or_false, Bool.or_true, if_true]), hCk 7 (by decide) t p W hT⟩⟩
            · rintro t a V5 hs ⟨p, rfl, hT⟩
              simp only [hs 0 (by decide), hs 1 (by decide), hs 2 (by decide), hs 3 (by decide), hs 4 (by decide), hs 5 (by decide), hs 6 (by decide), hs 7 (by decide), if_true]
              have h5 := hCb t p V5 hT
              clear hCk hCc hCb hCp hC4 hC0 hT
              have c8 : V5.cell? ⟨Z, 0, none⟩ = some (.pointer (some ⟨b, 0, none⟩)) := by simp [World.cell?, h5.out.1.t8]
              obtain ⟨e0, e1, e2, e3, e4, e5, e6, e7, e8, e9, e10, e11⟩ := h5.out.2.1.c12
              have q9 := q75f.out V5 h5.out.1.g
              gi_wp2_with (first
                | (refine ⟨trivial, rfl, ?_⟩; gi_at_call 75; refine (CallsIn.inRound l2 (callsIn_wide.2 q9)).mono ?_; rintro e V9 ⟨rfl, hb9⟩
                   have h9 := h5.out.1.after hzZ hb9
                   have c6 : V9.cell? ⟨w.heap.size + 1, 0, none⟩ = some (.bool false) := by simp [World.cell?, h9.t6]
                   have f6 : V9.frozen? ⟨w.heap.size + 1, 0, none⟩ = false := by simp [World.frozen?, h9.t6]
                   have c7 : V9.cell? ⟨w.heap.size + 1 + 1, 0, none⟩ = some (.int .i64 0) := by simp [World.cell?, h9.t7]
                   have f7 : V9.frozen? ⟨w.heap.size + 1 + 1, 0, none⟩ = false := by simp [World.frozen?, h9.t7]
                   have hbV := Keep.mk (hf4.out.trans ((h5.out.2.2.trans (hb9.mono h5.out.2.2.size)).mono hf4.out.size))
                   clear hb9 h9))
              first | exact ⟨_, hbV.out, rfl⟩ | exact ⟨rfl, _, hbV.out, rfl⟩
          · rintro e a3 W3 ⟨rfl, V9, hb, rfl⟩
            obtain ⟨h1, h2, h3⟩ := hfin.out
            rw [decide_eq_false hmk] at h1 h2
            refine ⟨.inr ⟨by rw [h1]; rfl, by unfold exS; rw [h2]; rfl, m, by rw [h2]; exact (hik.out.1.after hzZ hb).setRes hzZ hbE true⟩, ⟨by have := hb.size; simpa [World.setCell] using this, (two_set (by omega) (by omega)).trans (hb.block _ (by omega)), (two_set (by omega) (by omega)).trans (hb.block _ (by omega)), fun k hk => (two_set (by have := hqb k hk; omega) (by have := hqb k hk; omega)).trans (hb.block k (hqb k hk).2)⟩, hb.os, hb.tape, hb.output⟩
        | false =>
          refine wpIn_mono (Q := fun e _ W' => e = .normal ∧ ∃ V9, Below V.heap.size V V9 ∧ W' = V9.setCell ⟨Z + 1, 0, none⟩ (.int .i64 k)) ?_ ?_
          · obtain ⟨CX, hCX⟩ : ∃ CX : World → Prop, CX = fun W => Below V.heap.size V W := ⟨_, rfl⟩
            have hCa : ∀ W W', CX W → Below W.heap.size W W' → CX W' := fun W W' h1 hb => by rw [hCX] at h1 ⊢; exact h1.trans (hb.mono h1.size)
            have hC0 : CX V.drew := by rw [hCX]; exact (Below.refl _ _).drew
            have hC11 : ∀ W, CX W → Cells12 W g x := fun W h1 => by rw [hCX] at h1; exact (hik.out.2.after h1).c12
            have hC10 : ∀ W, CX W → W.cell? ⟨Z + 1, 0, none⟩ = some (.int .i64 m) := fun W h1 => by rw [hCX] at h1; simp [World.cell?, (hik.out.1.after hzZ h1).t10]
            have hCf : ∀ W, CX W → Keep (Below V.heap.size V W) := fun W h1 => by rw [hCX] at h1; exact ⟨h1⟩
            clear hCX
            gi_wp2
            refine Manyd.region_round (fun _ W => CX W) hmx (by kernel_rfl) (by kernel_rfl) (fun s s' W h1 hc => hc) (fun s hs => hC0) ?_
            refine Manyd.lex_want (by rfl) (rdC (v := .agg #[.bool (x 0), .bool (x 1), .bool (x 2), .bool (x 3), .bool (x 4), .bool (x 5), .bool (x 6), .bool (x 7), .bool (x 8), .bool (x 9), .bool (x 10), .bool (x 11)]) (fun W h1 => by
              obtain ⟨e0, e1, e2, e3, e4, e5, e6, e7, e8, e9, e10, e11⟩ := hC11 W h1
              clear h1; go_simp; (try rfl); (try (intro hneg; omega)))) ?_
            simp only [Act.put, List.setIfInBounds_toArray, List.set_cons_succ, List.set_cons_zero, Nat.reduceAdd]
            refine Manyd.lex_want (by rfl) (callC (v := .int .i64 k) (f := 74) (args := #[.agg #[.bool (x 0), .bool (x 1), .bool (x 2), .bool (x 3), .bool (x 4), .bool (x 5), .bool (x 6), .bool (x 7), .bool (x 8), .bool (x 9), .bool (x 10), .bool (x 11)]]) (fun W h1 => (q74 W).mono fun e W' hw => ⟨hw.1, hCa _ _ h1 hw.2⟩) (fun W h1 => by clear h1; go_simp; try rfl)) ?_
            simp only [Act.put, List.setIfInBounds_toArray, List.set_cons_succ, List.set_cons_zero, Nat.reduceAdd]
            refine Manyd.lex_want (by rfl) (rdC (v := .int .i64 m) (fun W h1 => by
              have c10 := hC10 W h1
              clear h1; go_simp; (try rfl); (try (intro hneg; omega)))) ?_
            simp only [Act.put, List.setIfInBounds_toArray, List.set_cons_succ, List.set_cons_zero, Nat.reduceAdd]
            refine Manyd.lex_want (by rfl) (rdC (v := .bool false) (fun W h1 => by
              skip
              clear h1; go_simp; (try rfl); (try (intro hneg; omega)))) ?_
            simp only [Act.put, List.setIfInBounds_toArray, List.set_cons_succ, List.set_cons_zero, Nat.reduceAdd]
            refine Manyd.lex_want (by rfl) (rdC (v := .bool false) (fun W h1 => by
              skip
              clear h1; go_simp; (try rfl); (try (intro hneg; omega)))) ?_
            simp only [Act.put, List.setIfInBounds_toArray, List.set_cons_succ, List.set_cons_zero, Nat.reduceAdd]
            refine Manyd.lex_nil fun s9 V4 hs9 hS4 => ?_
            have hf4 := hCf _ hS4
            clear hCf hS4 hC10 hC11 hC0 hCa hs9
            gi_wp2
            obtain ⟨C8, hC8⟩ : ∃ C8 : (Nat → Bool) → Nat → World → Prop, C8 = fun t p W => Below V4.heap.size V4 W ∧ (t 4 = true → W.cell? ⟨p, 0, none⟩ = some (.pointer (some ⟨b, 0, none⟩)) ∧ W.cell? ⟨p + 1, 0, none⟩ = some (.int .i64 r)) := ⟨_, rfl⟩
            have hi4 := Keep.mk (And.intro (hik.out.1.after hzZ hf4.out) (hik.out.2.after hf4.out))
            have hCk : ∀ i, i ≠ 4 → ∀ t p W, C8 t p W → C8 (Manyd.upd t i) p W := fun i h4 t p W h => by
              rw [hC8] at h ⊢
              simp only at h ⊢
              rw [show Manyd.upd t i 4 = t 4 by simp [Manyd.upd, h4]]; exact h
            have hCc : ∀ t p W W', C8 t p W → Below W.heap.size W W' → C8 t p W' := fun t p W W' h hb => by
              rw [hC8] at h ⊢
              exact ⟨h.1.trans (hb.mono h.1.size), fun e => ⟨(hb.cell (cell_lt (h.2 e).1)).trans (h.2 e).1, (hb.cell (cell_lt (h.2 e).2)).trans (h.2 e).2⟩⟩
            have hCb : ∀ t p W, C8 t p W → Keep (ShI w Z N b (adjOf E) r m false W ∧ SetAt W g x ∧ Below V4.heap.size V4 W) := fun t p W h => by
              rw [hC8] at h
              exact ⟨hi4.out.1.after hzZ h.1, hi4.out.2.after h.1, h.1⟩
            have hCp : ∀ t p W, C8 t p W → t 4 = true → W.cell? ⟨p, 0, none⟩ = some (.pointer (some ⟨b, 0, none⟩)) ∧ W.cell? ⟨p + 1, 0, none⟩ = some (.int .i64 r) := fun t p W h => by rw [hC8] at h; exact h.2
            have hC4 : ∀ t p W W', C8 t p W → W' = (W.alloc (.cells #[.pointer (some ⟨b, 0, none⟩)] 77)).alloc (.cells #[.int .i64 r] 3) → C8 (Manyd.upd t 4) W.heap.size W' := fun t p W W' h hW => by
              have b0 : Below W.heap.size W (W.alloc (.cells #[.pointer (some ⟨b, 0, none⟩)] 77)) := (Below.refl _ _).alloc (Nat.le_refl _) _
              have b1 : Below (W.heap.size + 1) (W.alloc (.cells #[.pointer (some ⟨b, 0, none⟩)] 77)) W' := by rw [hW]; exact (Below.refl _ _).alloc (by simp) _
              have c0 : W'.heap[W.heap.size]? = some (.cells #[.pointer (some ⟨b, 0, none⟩)] 77 (0, 0)) := (b1.block _ (by omega)).trans (World.alloc_heap_new W _)
              have c1 : W'.heap[W.heap.size + 1]? = some (.cells #[.int .i64 r] 3 (0, 0)) := by
                rw [hW, show W.heap.size + 1 = (W.alloc (.cells #[.pointer (some ⟨b, 0, none⟩)] 77)).heap.size by simp]; exact World.alloc_heap_new _ _
              rw [hC8] at h ⊢
              exact ⟨h.1.trans ((b0.trans (b1.mono (by omega))).mono h.1.size), fun _ => ⟨by simp [World.cell?, c0], by simp [World.cell?, c1]⟩⟩
            have hC0 : ∀ t : Nat → Bool, (∀ j, j < 8 → t j = false) → C8 t 0 V4.drew := fun t ht => by
              rw [hC8]
              exact ⟨(Below.refl _ _).drew, fun e => by rw [ht 4 (by decide)] at e; cases e⟩
            clear hC8
            gi_wp2
            refine Inv.region_invR (fun t a W => ∃ p, a = { tmps := #[.int .i64 N, v, .int .i64 r, undef, undef, .pointer (some ⟨w.heap.size, 0, none⟩), .pointer (some ⟨w.heap.size + 1, 0, none⟩), .pointer (some ⟨w.heap.size + 1 + 1, 0, none⟩), .pointer (some ⟨Z, 0, none⟩), .bool true, .pointer (some ⟨Z + 1, 0, none⟩), .pointer (some ⟨g, 0, none⟩), .tuple #[.pointer (some ⟨b, 0, none⟩), .bool true], .int .i64 N, v, .tuple #[.pointer (some ⟨b, 0, none⟩), .bool true], .pointer (some ⟨b, 0, none⟩), .bool true, .bool true, .bool false, .bool false, .int .i64 r, .bool true, .bool false, .bool false, .int .i64 N, .pointer (some ⟨b, 0, none⟩), .func (.func 88) #[] #[.pointer (some ⟨Z + 2, 0, none⟩)], .agg #[.bool (x 0), .bool (x 1), .bool (x 2), .bool (x 3), .bool (x 4), .bool (x 5), .bool (x 6), .bool (x 7), .bool (x 8), .bool (x 9), .bool (x 10), .bool (x 11)], .bool false, .agg #[.bool (x 0), .bool (x 1), .bool (x 2), .bool (x 3), .bool (x 4), .bool (x 5), .bool (x 6), .bool (x 7), .bool (x 8), .bool (x 9), .bool (x 10), .bool (x 11)], .int .i64 k, .int .i64 m, .bool false, if t 7 = true then .bool false else undef, if t 0 = true then .pointer (some ⟨b, 0, none⟩) else undef, if t 1 = true then .agg #[.bool (x 0), .bool (x 1), .bool (x 2), .bool (x 3), .bool (x 4), .bool (x 5), .bool (x 6), .bool (x 7), .bool (x 8), .bool (x 9), .bool (x 10), .bool (x 11)] else undef, if t 2 = true then .pointer (some ⟨b, 0, none⟩) else undef, if t 3 = true then .int .i64 r else undef, if t 4 = true then .func (.func 86) #[] #[.pointer (some ⟨p, 0, none⟩), .pointer (some ⟨p + 1, 0, none⟩)] else undef, if t 5 = true then .bool true else undef, if t 6 = true then .bool false else undef, undef, undef, undef, undef, undef, undef, undef, undef], defers := [] } ∧ C8 t p W) hmx (by kernel_rfl) (by kernel_rfl) ?_ ?_ ?_
            · intro t hs
              refine ⟨0, ?_, hC0 t (fun j hj => hs j hj)⟩
              simp only [hs 0 (by decide), hs 1 (by decide), hs 2 (by decide), hs 3 (by decide), hs 4 (by decide), hs 5 (by decide), hs 6 (by decide), hs 7 (by decide), Bool.false_eq_true, if_false]
            · refine ⟨?_, ?_, ?_, ?_, ?_, ?_, ?_, ?_, trivial⟩
              · rintro t a W hun hdep hbeh ⟨p, rfl, hT⟩
                (try simp only [Nat.reduceAdd] at hun)
                have c8 : W.cell? ⟨Z, 0, none⟩ = some (.pointer (some ⟨b, 0, none⟩)) := by simp [World.cell?, (hCb t p W hT).out.1.t8]
                refine .inl ⟨by rfl, Inv.comesV_val (.pointer (some ⟨b, 0, none⟩)) W (by (clear hT; go_simp; (try rfl); try (intro hneg; omega))) ⟨p, by (simp only [Act.put, List.setIfInBounds_toArray, List.set_cons_succ, List.set_cons_zero, Manyd.upd, Nat.reduceAdd, Nat.reduceBEq, Bool.or_false, Bool.or_true, if_true]), hCk 0 (by decide) t p W hT⟩⟩
              · rintro t a W hun hdep hbeh ⟨p, rfl, hT⟩
                (try simp only [Nat.reduceAdd] at hun)
                obtain ⟨e0, e1, e2, e3, e4, e5, e6, e7, e8, e9, e10, e11⟩ := (hCb t p W hT).out.2.1.c12
                refine .inl ⟨by rfl, Inv.comesV_val (.agg #[.bool (x 0), .bool (x 1), .bool (x 2), .bool (x 3), .bool (x 4), .bool (x 5), .bool (x 6), .bool (x 7), .bool (x 8), .bool (x 9), .bool (x 10), .bool (x 11)]) W (by (clear hT; go_simp; (try rfl); try (intro hneg; omega))) ⟨p, by (simp only [Act.put, List.setIfInBounds_toArray, List.set_cons_succ, List.set_cons_zero, Manyd.upd, Nat.reduceAdd, Nat.reduceBEq, Bool.or_false, Bool.or_true, if_true]), hCk 1 (by decide) t p W hT⟩⟩
              · rintro t a W hun hdep hbeh ⟨p, rfl, hT⟩
                (try simp only [Nat.reduceAdd] at hun)
                have c8 : W.cell? ⟨Z, 0, none⟩ = some (.pointer (some ⟨b, 0, none⟩)) := by simp [World.cell?, (hCb t p W hT).out.1.t8]
                refine .inl ⟨by rfl, Inv.comesV_val (.pointer (some ⟨b, 0, none⟩)) W (by (clear hT; go_simp; (try rfl); try (intro hneg; omega))) ⟨p, by (simp only [Act.put, List.setIfInBounds_toArray, List.set_cons_succ, List.set_cons_zero, Manyd.upd, Nat.reduceAdd, Nat.reduceBEq, Bool.or_false, Bool.or_true, if_true]), hCk 2 (by decide) t p W hT⟩⟩
              · rintro t a W hun hdep hbeh ⟨p, rfl, hT⟩
                (try simp only [Nat.reduceAdd] at hun)
                have c5 : W.cell? ⟨w.heap.size, 0, none⟩ = some (.int .i64 r) := by simp [World.cell?, (hCb t p W hT).out.1.t5]
                refine .inl ⟨by rfl, Inv.comesV_val (.int .i64 r) W (by (clear hT; go_simp; (try rfl); try (intro hneg; omega))) ⟨p, by (simp only [Act.put, List.setIfInBounds_toArray, List.set_cons_succ, List.set_cons_zero, Manyd.upd, Nat.reduceAdd, Nat.reduceBEq, Bool.or_false, Bool.or_true, if_true]), hCk 3 (by decide) t p W hT⟩⟩
              · rintro t a W hun hdep hbeh ⟨p, rfl, hT⟩
                (try simp only [Nat.reduceAdd] at hun)
                have h2 : t 2 = true := Inv.depB_mem 2 hdep (by rfl)
                have h3 : t 3 = true := Inv.depB_mem 3 hdep (by rfl)
                refine .inl ⟨by rfl, Inv.comesV_call 67 #[.pointer (some ⟨b, 0, none⟩), .int .i64 r] W (by (simp only [h2, h3, if_true]; clear hT; go_simp; try rfl)) ((q67 W).mono fun e w5 hw5 => ⟨.func (.func 86) #[] #[.pointer (some ⟨W.heap.size, 0, none⟩), .pointer (some ⟨W.heap.size + 1, 0, none⟩)], hw5.1, W.heap.size, by (simp only [Act.put, List.setIfInBounds_toArray, List.set_cons_succ, List.set_cons_zero, Manyd.upd, Nat.reduceAdd, Nat.reduceBEq, Bool.or_false, Bool.or_true, if_true]), hC4 t p W w5 hT hw5.2⟩)⟩
              · rintro t a W hun hdep hbeh ⟨p, rfl, hT⟩
                (try simp only [Nat.reduceAdd] at hun)
                have h0 : t 0 = true := Inv.depB_mem 0 hdep (by rfl)
                have h1 : t 1 = true := Inv.depB_mem 1 hdep (by rfl)
                have h4 : t 4 = true := Inv.depB_mem 4 hdep (by rfl)
                refine .inl ⟨by rfl, Inv.comesV_call 75 #[.pointer (some ⟨b, 0, none⟩), .agg #[.bool (x 0), .bool (x 1), .bool (x 2), .bool (x 3), .bool (x 4), .bool (x 5), .bool (x 6), .bool (x 7), .bool (x 8), .bool (x 9), .bool (x 10), .bool (x 11)], .func (.func 86) #[] #[.pointer (some ⟨p, 0, none⟩), .pointer (some ⟨p + 1, 0, none⟩)]] W (by (simp only [h0, h1, h4, if_true]; clear hT; go_simp; try rfl)) ((q75s.out W p (hCb t p W hT).out.1.g (hCp t p W hT h4).1 (hCp t p W hT h4).2).mono fun e w5 hw5 => ⟨.bool true, hw5.1, p, by (simp only [Act.put, List.setIfInBounds_toArray, List.set_cons_succ, List.set_cons_zero, Manyd.upd, Nat.reduceAdd, Nat.reduceBEq, Bool.or_false, Bool.or_true, if_true]), hCk 5 (by decide) t p w5 (hCc t p W w5 hT hw5.2)⟩)⟩
              · rintro t a W hun hdep hbeh ⟨p, rfl, hT⟩
                (try simp only [Nat.reduceAdd] at hun)
                have h5 : t 5 = true := Inv.depB_mem 5 hdep (by rfl)
                refine .inl ⟨by rfl, Inv.comesV_val (.bool false) W (by (simp only [h5, if_true]; clear hT; go_simp; (try rfl); try (intro hneg; omega))) ⟨p, by (simp only [Act.put, List.setIfInBounds_toArray, List.set_cons_succ, List.set_cons_zero, Manyd.upd, Nat.reduceAdd, Nat.reduceBEq, Bool.or_false, Bool.or_true, if_true]), hCk 6 (by decide) t p W hT⟩⟩
              · rintro t a W hun hdep hbeh ⟨p, rfl, hT⟩
                (try simp only [Nat.reduceAdd] at hun)
                have h6 : t 6 = true := Inv.depB_mem 6 hdep (by rfl)
                refine .inl ⟨by rfl, Inv.comesV_val (.bool false) W (by (simp only [h6, if_true]; clear hT; go_simp; (try rfl); try (intro hneg; omega))) ⟨p, by (simp only [Act.put, List.setIfInBounds_toArray, List.set_cons_succ, List.set_cons_zero, Manyd.upd, Nat.reduceAdd, Nat.reduceBEq, Bool.or_false, Bool.or_true, if_true]), hCk 7 (by decide) t p W hT⟩⟩
            · rintro t a V5 hs ⟨p, rfl, hT⟩
              simp only [hs 0 (by decide), hs 1 (by decide), hs 2 (by decide), hs 3 (by decide), hs 4 (by decide), hs 5 (by decide), hs 6 (by decide), hs 7 (by decide), if_true]
              have h5 := hCb t p V5 hT
              clear hCk hCc hCb hCp hC4 hC0 hT
              have c8 : V5.cell? ⟨Z, 0, none⟩ = some (.pointer (some ⟨b, 0, none⟩)) := by simp [World.cell?, h5.out.1.t8]
              obtain ⟨e0, e1, e2, e3, e4, e5, e6, e7, e8, e9, e10, e11⟩ := h5.out.2.1.c12
              have q9 := q75f.out V5 h5.out.1.g
              gi_wp2_with (first
                | (refine ⟨trivial, rfl, ?_⟩; gi_at_call 75; refine (CallsIn.inRound l2 (callsIn_wide.2 q9)).mono ?_; rintro e V9 ⟨rfl, hb9⟩
                   have h9 := Keep.mk (And.intro (h5.out.1.after hzZ hb9) (h5.out.2.1.after hb9))
                   obtain ⟨d0, d1, d2, d3, d4, d5, d6, d7, d8, d9, d10, d11⟩ := h9.out.2.c12
                   have hbV := Keep.mk (hf4.out.trans ((h5.out.2.2.trans (hb9.mono h5.out.2.2.size)).mono hf4.out.size))
                   have q7 := q74 V9
                   clear hb9)
                | (refine ⟨trivial, rfl, ?_⟩; gi_at_call 74; refine (CallsIn.inRound l2 (callsIn_wide.2 q7)).mono ?_; rintro e Va ⟨rfl, hba⟩
                   have ha := h9.out.1.after hzZ hba
                   have c10 : Va.cell? ⟨Z + 1, 0, none⟩ = some (.int .i64 m) := by simp [World.cell?, ha.t10]
                   have f10 : Va.frozen? ⟨Z + 1, 0, none⟩ = false := by simp [World.frozen?, ha.t10]
                   have hbW := Keep.mk (hbV.out.trans (hba.mono hbV.out.size))
                   clear hba ha))
              first | exact ⟨_, hbW.out, rfl⟩ | exact ⟨rfl, _, hbW.out, rfl⟩
          · rintro e a3 W3 ⟨rfl, V9, hb, rfl⟩
            obtain ⟨h1, h2, h3⟩ := hfin.out
            rw [decide_eq_false hmk] at h1 h2
            have hne : ∀ i, i ≠ Z + 1 → (V9.setCell ⟨Z + 1, 0, none⟩ (.int .i64 k)).heap[i]? = V9.heap[i]? := fun i h => Below.heap_setCell _ _ _ _ (by exact h)
            refine ⟨.inl ⟨by rw [h1]; rfl, rfl, by rw [h3]; exact (hik.out.1.after hzZ hb).setSm hzZ hbE k⟩, ⟨by have := hb.size; simpa [World.setCell] using this, (hne _ (by omega)).trans (hb.block _ (by omega)), (hne _ (by omega)).trans (hb.block _ (by omega)), fun k hk => (hne k (by have := hqb k hk; omega)).trans (hb.block k (hqb k hk).2)⟩, hb.os, hb.tape, hb.output⟩
  case done =>
    intro q V hi hgo hsz2 hD
    have hR := hdn.out hgo
    subst hR
    have c6 : V.cell? ⟨w.heap.size + 1, 0, none⟩ = some (.bool false) := by simp [World.cell?, hi.t6]
    have f6 : V.frozen? ⟨w.heap.size + 1, 0, none⟩ = false := by simp [World.frozen?, hi.t6]
    have c7 : V.cell? ⟨w.heap.size + 1 + 1, 0, none⟩ = some (.int .i64 0) := by simp [World.cell?, hi.t7]
    have f7 : V.frozen? ⟨w.heap.size + 1 + 1, 0, none⟩ = false := by simp [World.frozen?, hi.t7]
    have hik := Keep.mk hi
    have hDk := Keep.mk hD
    clear hi hD
    gi_wp2
    try go_wp2
    try rw [Exit.noGoto_ret]
    try show bodyPostM Fence.wide 0 Try.prog Try.f40 _ Exit.ret _ _
    have hr9 := hik.out.setRes hzZ hbE false
    have hDD : ((V.setCell ⟨w.heap.size + 1, 0, none⟩ (.bool false)).setCell ⟨w.heap.size + 1 + 1, 0, none⟩ (.int .i64 0)).heap[Z + 3]? = some (.deferred (some [])) := (two_set (by omega) (by omega)).trans (by rw [← sdZ]; exact hDk.out)
    have hz9 := hr9.sz
    refine Qr.leaves_mark hDD fun w' hk => ⟨.tuple #[.bool false, .int .i64 0], ?_, rfl, hr9.bw.trans (hk.below (by omega) (by omega))⟩
    have c6' : w'.cell? ⟨w.heap.size + 1, 0, none⟩ = some (.bool false) := by simp [World.cell?, (hk.block _ (by omega) (by omega) (by omega)).trans hr9.t6]
    have c7' : w'.cell? ⟨w.heap.size + 1 + 1, 0, none⟩ = some (.int .i64 0) := by simp [World.cell?, (hk.block _ (by omega) (by omega) (by omega)).trans hr9.t7]
    first
      | (simp [results, Try.results40, go_sem, c6', c7']; done)
      | (simp [results, Try.results40, go_sem]; go_simp)
  case stop =>
    rintro q V p x post hx hgo hf ⟨sm, hi⟩ hsz2 hD
    have hbr := brk_snoc N so p x
    by_cases hmk : smS N so p < sz x
    · have hR := hst.out p post x hx hgo hmk
      subst hR
      have hc : cS N so (p ++ [x]) = .exit 0 := by unfold cS; rw [hbr, decide_eq_true hmk]; rfl
      rw [hbr, decide_eq_true hmk] at hi
      rw [hc]
      have c6 : V.cell? ⟨w.heap.size + 1, 0, none⟩ = some (.bool false) := by simp [World.cell?, hi.t6]
      have f6 : V.frozen? ⟨w.heap.size + 1, 0, none⟩ = false := by simp [World.frozen?, hi.t6]
      have c7 : V.cell? ⟨w.heap.size + 1 + 1, 0, none⟩ = some (.int .i64 0) := by simp [World.cell?, hi.t7]
      have f7 : V.frozen? ⟨w.heap.size + 1 + 1, 0, none⟩ = false := by simp [World.frozen?, hi.t7]
      have hik := Keep.mk hi
      have hDk := Keep.mk hD
      clear hi hD
      gi_wp2
      try go_wp2
      try rw [Exit.noGoto_ret]
      try show bodyPostM Fence.wide 0 Try.prog Try.f40 _ Exit.ret _ _
      have hr9 := hik.out.setRes hzZ hbE false
      have hDD : ((V.setCell ⟨w.heap.size + 1, 0, none⟩ (.bool false)).setCell ⟨w.heap.size + 1 + 1, 0, none⟩ (.int .i64 0)).heap[Z + 3]? = some (.deferred (some [])) := (two_set (by omega) (by omega)).trans (by rw [← sdZ]; exact hDk.out)
      have hz9 := hr9.sz
      refine Qr.leaves_mark hDD fun w' hk => ⟨.tuple #[.bool false, .int .i64 0], ?_, rfl, hr9.bw.trans (hk.below (by omega) (by omega))⟩
      have c6' : w'.cell? ⟨w.heap.size + 1, 0, none⟩ = some (.bool false) := by simp [World.cell?, (hk.block _ (by omega) (by omega) (by omega)).trans hr9.t6]
      have c7' : w'.cell? ⟨w.heap.size + 1 + 1, 0, none⟩ = some (.int .i64 0) := by simp [World.cell?, (hk.block _ (by omega) (by omega) (by omega)).trans hr9.t7]
      first
        | (simp [results, Try.results40, go_sem, c6', c7']; done)
        | (simp [results, Try.results40, go_sem]; go_simp)
    · have hsf : so x = true ∧ fo x = true := by
        unfold shG at hf
        rw [decide_eq_false hmk] at hf
        simpa using hf
      have hR := hye.out p post x hx hgo hsf.1 hsf.2 hmk
      subst hR
      have hc : cS N so (p ++ [x]) = .ret := by unfold cS; rw [hbr, decide_eq_false hmk]; rfl
      rw [hbr, decide_eq_false hmk] at hi
      rw [hc]
      have hik := Keep.mk hi
      have hDk := Keep.mk hD
      clear hi hD
      gi_wp2
      try go_wp2
      try rw [Exit.noGoto_ret]
      try show bodyPostM Fence.wide 0 Try.prog Try.f40 _ Exit.ret _ _
      have hr9 := hik.out
      have hDD : V.heap[Z + 3]? = some (.deferred (some [])) := by rw [← sdZ]; exact hDk.out
      have hz9 := hr9.sz
      refine Qr.leaves_mark hDD fun w' hk => ⟨.tuple #[.bool true, .int .i64 0], ?_, rfl, hr9.bw.trans (hk.below (by omega) (by omega))⟩
      have c6' : w'.cell? ⟨w.heap.size + 1, 0, none⟩ = some (.bool true) := by simp [World.cell?, (hk.block _ (by omega) (by omega) (by omega)).trans hr9.t6]
      have c7' : w'.cell? ⟨w.heap.size + 1 + 1, 0, none⟩ = some (.int .i64 0) := by simp [World.cell?, (hk.block _ (by omega) (by omega) (by omega)).trans hr9.t7]
      first
        | (simp [results, Try.results40, go_sem, c6', c7']; done)
        | (simp [results, Try.results40, go_sem]; go_simp)
end Go.Proofs.Yteekigpdiklppaa
