import Derived.Test.YteekigpdiklppaaWRset
import Derived.Test.YteekigpdiklppaaWLeast
import Derived.Test.YteekigpdiklppaaWList
set_option linter.unusedSimpArgs false
set_option linter.unusedVariables false
namespace Go.Proofs.Yteekigpdiklppaa
open Go Go.Proofs Go.RowKit Go.Seq
attribute [local go_sem] Oper.semAt_some
/-- A list of places in memory, at new blocks. -/
def ListV (w w' : World) (v : Value) (s : Nat → Bool) : Prop := w'.ownsRow w.heap.size 3 1 v (vsTo s 12).length ((vsTo s 12).map ik)
theorem row_base {W : World} {B B' e s k : Nat} {v : Value} {xs : List Value} (h : W.ownsRow B e s v k xs) (hB : B' ≤ B) : W.ownsRow B' e s v k xs := by
  obtain ⟨h1, h2⟩ := h
  refine ⟨h1, ?_⟩
  rcases h2 with h2 | ⟨g, cap, cur, rfl, hg, hr⟩
  · exact .inl h2
  · exact .inr ⟨g, cap, cur, rfl, by omega, hr⟩
theorem row_after {W W' : World} {B e s k : Nat} {v : Value} {xs : List Value} (h : W.ownsRow B e s v k xs) (hb : Below W.heap.size W W') : W'.ownsRow B e s v k xs := by
  obtain ⟨h1, h2⟩ := h
  refine ⟨h1, ?_⟩
  rcases h2 with h2 | ⟨g, cap, cur, rfl, hg, hh, hr⟩
  · exact .inl h2
  · exact .inr ⟨g, cap, cur, rfl, hg, (hb.block g (Array.getElem?_eq_some_iff.1 hh).1).trans hh, hr⟩
set_option maxHeartbeats 2000000 in
set_option maxRecDepth 100000 in
theorem close_yes {n K : Nat} {v v2 : Value} {ps : Pts} {zs : List Int} {w : World} (hv : PairsOf w v ps) (hok : GrOk n ps) (hl : ps.length ≤ 200) (hv2 : IntsO w v2 zs) (hzk : ListOk n zs) (hl2 : zs.length ≤ 100)
    (hK : Stops (fround (adjOf ps)) (setOf zs) K) :
    Calls Try.prog 19 #[.int .i64 n, v, v2] w fun e w' => ∃ lv, e = .returned (.tuple #[lv, .int .i64 K, .int .i64 0]) ∧ ListV w w' lv (stg (fround (adjOf ps)) (setOf zs) K) ∧ Below w.heap.size w w' := by
  have q57 := readSet_yes hv hok hl hv2 hzk hl2
  have q58 := Keep.mk (fun (g : Nat) (W : World) (hg : GraphAt W g n (adjOf ps)) => closure_any (w := W) (rnd_force g n (adjOf ps)) hK (fun W' hb => hg.below hb hg.lt))
  obtain ⟨F, hF⟩ : ∃ F, stg (fround (adjOf ps)) (setOf zs) K = F := ⟨_, rfl⟩
  rw [hF] at q58 ⊢
  obtain ⟨S, hS⟩ : ∃ S, setOf zs = S := ⟨_, rfl⟩
  rw [hS] at q57 q58
  have q60 := fun W => list_any F W
  clear hF hS hv hv2
  unfold setV sc at q57 q60
  go_enter Try.func19, Try.ntmps19
  go_wp2_with (first
    | (go_at_call 57; (with_reducible refine q57.mono ?_); rintro e w5 ⟨g, rfl, hg5, hgl, hb5⟩
       obtain ⟨w6, hw6⟩ : ∃ w6, w5.alloc (.cells (sc S) 79) = w6 := ⟨_, rfl⟩
       have hb6 : Below w5.heap.size w5 w6 := by rw [← hw6]; exact (Below.refl _ _).alloc (Nat.le_refl _) _
       have hf6 : SetAt w6 w5.heap.size S := by rw [← hw6]; exact SetAt.new _ _
       have q5 := q58.out g w6 (hg5.below hb6 hg5.lt).at
       obtain ⟨x0, x1, x2, x3, x4, x5, x6, x7, x8, x9, x10, x11⟩ := hf6.c12
       have hbb := Keep.mk (hb5.trans (hb6.mono hb5.size))
       clear hg5 hb5 hb6 hf6
       unfold sc at hw6
       unfold setV sc at q5)
    | (go_at_call 58; (with_reducible refine q5.mono ?_); rintro e w7 ⟨rfl, hb7⟩
       obtain ⟨w8, hw8⟩ : ∃ w8, w7.alloc (.cells (sc F) 79) = w8 := ⟨_, rfl⟩
       have hb8 : Below w7.heap.size w7 w8 := by rw [← hw8]; exact (Below.refl _ _).alloc (Nat.le_refl _) _
       have hf8 : SetAt w8 w7.heap.size F := by rw [← hw8]; exact SetAt.new _ _
       obtain ⟨y0, y1, y2, y3, y4, y5, y6, y7, y8, y9, y10, y11⟩ := hf8.c12
       have hbc := Keep.mk (hbb.out.trans ((hb7.trans (hb8.mono hb7.size)).mono hbb.out.size))
       clear hb7 hb8 hf8 q5
       unfold sc at hw8)
    | (go_at_call 60; (with_reducible refine (q60 _).mono ?_); rintro e w9 ⟨lv, rfl, hrow, hb9⟩
       have hfin := Keep.mk (And.intro hrow hb9)
       clear hrow hb9))
  refine bodyPost_ret (v := .tuple #[lv, .int .i64 K, .int .i64 0]) (by simp [results, Try.results19, go_sem]) rfl ?_
  exact ⟨lv, rfl, row_base hfin.out.1 hbc.out.size, hbc.out.trans (hfin.out.2.mono hbc.out.size)⟩
set_option maxHeartbeats 2000000 in
set_option maxRecDepth 100000 in
theorem Least_yes {n : Nat} {v : Value} {ps : Pts} {w : World} (kf : (Nat → Bool) → Nat) (hv : PairsOf w v ps) (hok : GrOk n ps) (hl : ps.length ≤ 200) (hK : ∀ s, Stops (fround (adjOf ps)) s (kf s)) :
    Calls Try.prog 34 #[.int .i64 n, v] w fun e w' => ∃ lv, e = .returned (.tuple #[lv, .int .i64 0]) ∧ ListV w w' lv (leastOf n fun s => eqb (stg (fround (adjOf ps)) s (kf s)) (allS n)) ∧ Below w.heap.size w w' := by
  have q69 := readGraph_yes hv hok hl
  have hn : n ≤ 12 := by have := hok.n12; omega
  have q70 := Keep.mk (fun (g : Nat) (W : World) (hg : GraphAt W g n (adjOf ps)) => least_any (w := W) kf hg hn (rnd_force g n (adjOf ps)) hK (fun W' hb => hg.below hb hg.lt))
  obtain ⟨F, hF⟩ : ∃ F, (leastOf n fun s => eqb (stg (fround (adjOf ps)) s (kf s)) (allS n)) = F := ⟨_, rfl⟩
  rw [hF] at q70 ⊢
  have q60 := fun W => list_any F W
  clear hF hv
  unfold setV sc at q60
  go_enter Try.func34, Try.ntmps34
  go_wp2_with (first
    | (go_at_call 69; (with_reducible refine q69.mono ?_); rintro e w5 ⟨rfl, hg5, hb5⟩
       have q7 := q70.out w.heap.size w5 hg5.at
       have hbb := Keep.mk hb5
       clear hg5 hb5
       unfold setV sc at q7)
    | (go_at_call 70; (with_reducible refine q7.mono ?_); rintro e w7 ⟨rfl, hb7⟩
       have hbc := Keep.mk (hbb.out.trans (hb7.mono hbb.out.size))
       clear hb7 q7)
    | (go_at_call 60; (with_reducible refine (q60 _).mono ?_); rintro e w9 ⟨lv, rfl, hrow, hb9⟩
       have hfin := Keep.mk (And.intro hrow hb9)
       clear hrow hb9))
  refine bodyPost_ret (v := .tuple #[lv, .int .i64 0]) (by simp [results, Try.results34, go_sem]) rfl ?_
  exact ⟨lv, rfl, row_base hfin.out.1 hbc.out.size, hbc.out.trans (hfin.out.2.mono hbc.out.size)⟩
set_option maxHeartbeats 2000000 in
set_option maxRecDepth 100000 in
theorem Fewest_yes {n : Nat} {r : Int} {v : Value} {ps : Pts} {w : World} (kf : (Nat → Bool) → Nat) (hv : PairsOf w v ps) (hok : GrOk n ps) (hl : ps.length ≤ 200) (hr1 : 1 ≤ r) (hr6 : r ≤ 6) (hK : ∀ s, Stops (sokd n (adjOf ps) r) s (kf s)) :
    Calls Try.prog 39 #[.int .i64 n, v, .int .i64 r] w fun e w' => ∃ lv, e = .returned (.tuple #[lv, .int .i64 0]) ∧ ListV w w' lv (leastOf n fun s => eqb (stg (sokd n (adjOf ps) r) s (kf s)) (allS n)) ∧ Below w.heap.size w w' := by
  have q69 := readGraph_yes hv hok hl
  have hn : n ≤ 12 := by have := hok.n12; omega
  have q66 := threshold_any r
  rw [decide_eq_true (And.intro hr1 hr6)] at q66
  have q67 := fun W => soak_any w.heap.size r W
  have q70 : Keep (∀ (W W1 : World), GraphAt W w.heap.size n (adjOf ps) → w.heap.size < W.heap.size → W1 = (W.alloc (.cells #[.pointer (some ⟨w.heap.size, 0, none⟩)] 77)).alloc (.cells #[.int .i64 r] 3) →
      Calls Try.prog 70 #[.pointer (some ⟨w.heap.size, 0, none⟩), .func (.func 86) #[] #[.pointer (some ⟨W.heap.size, 0, none⟩), .pointer (some ⟨W.heap.size + 1, 0, none⟩)]] W1 fun e w' => e = .returned (setV (leastOf n fun s => eqb (stg (sokd n (adjOf ps) r) s (kf s)) (allS n))) ∧ Below W.heap.size W w') := ⟨fun W W1 hg hlt hW1 => by
    have b0 : Below W.heap.size W (W.alloc (.cells #[.pointer (some ⟨w.heap.size, 0, none⟩)] 77)) := (Below.refl _ _).alloc (Nat.le_refl _) _
    have b1 : Below (W.heap.size + 1) (W.alloc (.cells #[.pointer (some ⟨w.heap.size, 0, none⟩)] 77)) W1 := by rw [hW1]; exact (Below.refl _ _).alloc (by simp) _
    have h0 : W1.heap[W.heap.size]? = some (.cells #[.pointer (some ⟨w.heap.size, 0, none⟩)] 77 (0, 0)) := (b1.block _ (by omega)).trans (World.alloc_heap_new W _)
    have h1 : W1.heap[W.heap.size + 1]? = some (.cells #[.int .i64 r] 3 (0, 0)) := by
      rw [hW1, show W.heap.size + 1 = (W.alloc (.cells #[.pointer (some ⟨w.heap.size, 0, none⟩)] 77)).heap.size by simp]; exact World.alloc_heap_new _ _
    have bw : Below W.heap.size W W1 := b0.trans (b1.mono (by omega))
    have s1 : W1.heap.size = W.heap.size + 2 := by rw [hW1]; simp
    have hg1 := hg.below bw hlt
    refine (least_any (w := W1) kf hg1 hn (rnd_soak w.heap.size n W.heap.size (W.heap.size + 1) (adjOf ps) r hn) hK (fun W' hb => ⟨hg1.below hb (by omega), ?_, ?_⟩)).mono ?_
    · have := (hb.block W.heap.size (by omega)).trans h0
      simp [World.cell?, this]
    · have := (hb.block (W.heap.size + 1) (by omega)).trans h1
      simp [World.cell?, this]
    · rintro e w' ⟨h2, h3⟩
      exact ⟨h2, bw.trans (h3.mono (by omega))⟩⟩
  obtain ⟨F, hF⟩ : ∃ F, (leastOf n fun s => eqb (stg (sokd n (adjOf ps) r) s (kf s)) (allS n)) = F := ⟨_, rfl⟩
  rw [hF] at q70 ⊢
  have q60 := fun W => list_any F W
  clear hF hv
  unfold setV sc at q60
  go_enter Try.func39, Try.ntmps39
  go_wp2_with (first
    | (go_at_call 69; (with_reducible refine q69.mono ?_); rintro e w5 ⟨rfl, hg5, hb5⟩
       have q7 := fun W1 => q70.out w5 W1 hg5.at hg5.lt
       have hbb := Keep.mk hb5
       clear hg5 hb5
       unfold setV sc at q7)
    | (go_at_call 66; (with_reducible refine (q66 _).mono ?_); rintro e w6 ⟨rfl, he6⟩; rw [he6]; clear he6 w6)
    | (go_at_call 67; (with_reducible refine (q67 _).mono ?_); rintro e w6 ⟨rfl, he6⟩; have q8 := q7 w6 he6; clear he6)
    | (go_at_call 70; (with_reducible refine q8.mono ?_); rintro e w7 ⟨rfl, hb7⟩
       have hbc := Keep.mk (hbb.out.trans (hb7.mono hbb.out.size))
       clear hb7 q7)
    | (go_at_call 60; (with_reducible refine (q60 _).mono ?_); rintro e w9 ⟨lv, rfl, hrow, hb9⟩
       have hfin := Keep.mk (And.intro hrow hb9)
       clear hrow hb9))
  refine bodyPost_ret (v := .tuple #[lv, .int .i64 0]) (by simp [results, Try.results39, go_sem]) rfl ?_
  exact ⟨lv, rfl, row_base hfin.out.1 hbc.out.size, hbc.out.trans (hfin.out.2.mono hbc.out.size)⟩
end Go.Proofs.Yteekigpdiklppaa
