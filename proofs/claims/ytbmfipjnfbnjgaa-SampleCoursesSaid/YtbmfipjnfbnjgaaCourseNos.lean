import Derived.Test.YtbmfipjnfbnjgaaIsCourseNo
set_option linter.unusedSimpArgs false
set_option linter.unusedVariables false
namespace Go.Proofs.Ytbmfipjnfbnjgaa
open Go Go.Proofs Go.RowKit Go.Seq Go.Sample
set_option maxHeartbeats 2000000 in
set_option maxRecDepth 100000 in
theorem isCourse_no {b N : Nat} {va vr : Value} {za zr : List Int} {w : World} (hP : Pieces w b N) (ha : IntsO w va za) (hr : IntsO w vr zr) (hla : za.length ≤ 100000) (hlr : zr.length ≤ 100000) (hno : ¬ FitOk N za zr) :
    Calls Try.prog 63 #[.pointer (some ⟨b, 0, none⟩), .agg #[va, vr]] w fun e w' => e = .returned (.bool false) ∧ Below w.heap.size w w' := by
  by_cases hg : zr.length = za.length ∧ 1 ≤ za.length ∧ za.length ≤ N
  · obtain ⟨hl, h1, h2⟩ := hg
    obtain ⟨A, cap, rfl, hca⟩ := ha
    obtain ⟨A', cap', rfl, hcb⟩ := hr
    obtain ⟨g, o, rfl, _⟩ := hca 0 (by omega)
    obtain ⟨g', o', rfl, _⟩ := hcb 0 (by omega)
    rw [hl]
    have hin : CrsIn w ⟨g, o, cap, g', o', cap', za.length, fun k => za.getD k 0, fun k => zr.getD k 0⟩ := by
      refine ⟨fun k hk => ?_, fun k hk => ?_⟩
      · obtain ⟨_, _, h1, h2⟩ := hca k hk
        cases h1; exact h2
      · obtain ⟨_, _, h1, h2⟩ := hcb k (by rw [hl]; exact hk)
        cases h1; exact h2
    refine isCourse_crs (c := ⟨g, o, cap, g', o', cap', za.length, fun k => za.getD k 0, fun k => zr.getD k 0⟩) hP hin h1 h2 (fun hok => hno ⟨hl, h1, by omega, fun k hk => ?_, hok.last⟩)
    obtain ⟨k1, k2, k3⟩ := hok.all k hk
    dsimp only at k1 k2 k3
    exact ⟨by omega, by omega, by omega, by omega, by omega⟩
  · have hlb := hP.lt
    have h36 := hP.h36
    obtain ⟨w0, hw0⟩ : ∃ w0, w.alloc (.cells #[va, vr] 42) = w0 := ⟨_, rfl⟩
    obtain ⟨w1, hw1⟩ : ∃ w1, w0.alloc (.cells #[.bool false] 4) = w1 := ⟨_, rfl⟩
    obtain ⟨w2, hw2⟩ : ∃ w2, w1.alloc (.cells #[.int .i64 za.length] 3) = w2 := ⟨_, rfl⟩
    have e0 : w0.heap.size = w.heap.size + 1 := by rw [← hw0]; simp
    have e1 : w1.heap.size = w.heap.size + 1 + 1 := by rw [← hw1]; simp [e0]
    have b0 : Below w.heap.size w w0 := by rw [← hw0]; exact (Below.refl _ _).alloc (Nat.le_refl _) _
    have b1 : Below w0.heap.size w0 w1 := by rw [← hw1]; exact (Below.refl _ _).alloc (Nat.le_refl _) _
    have b2 : Below w1.heap.size w1 w2 := by rw [← hw2]; exact (Below.refl _ _).alloc (Nat.le_refl _) _
    have b02 := b1.trans (b2.mono b1.size)
    have bw := b0.trans (b02.mono b0.size)
    have hP2 := hP.below bw hlb
    have hO : Own2 w2 w.heap.size va vr := by
      have : Own2 w0 w.heap.size va vr := by rw [← hw0]; exact Own2.new _ _ _ _
      exact this.after b02
    have t4 : w2.heap[w.heap.size + 1]? = some (.cells #[.bool false] 4 (0, 0)) := by
      rw [b2.block _ (by omega), ← e0, ← hw1]; exact World.alloc_heap_new _ _
    have t5 : w2.heap[w.heap.size + 1 + 1]? = some (.cells #[.int .i64 za.length] 3 (0, 0)) := by
      rw [← e1, ← hw2]; exact World.alloc_heap_new _ _
    have c5 : w2.cell? ⟨w.heap.size + 1 + 1, 0, none⟩ = some (.int .i64 za.length) := by simp [World.cell?, t5]
    have hw : ((w.alloc (.cells #[va, vr] 42)).alloc (.cells #[.bool false] 4)).alloc (.cells #[.int .i64 za.length] 3) = w2 := by rw [hw0, hw1, hw2]
    clear hw0 hw1 hw2 e0 e1 b0 b1 b2 b02
    obtain ⟨A, cap, rfl, _⟩ := ha
    obtain ⟨A', cap', rfl, _⟩ := hr
    have c0 := hP2.tab.size
    obtain ⟨d0, d1, _, _⟩ := hO
    refine (callsIn_wide (n := 0)).1 ?_
    refine callsIn_of_wp_marks Try.func63 rfl trivial ?_ rfl
    simp only [Try.ntmps63, List.size_toArray, List.length_cons, List.length_nil, Nat.reduceAdd, Nat.reduceSub, Array.replicate_succ, Array.replicate_zero, List.push_toArray, List.append_toArray, List.nil_append, List.cons_append]
    gi_wp2
    try rw [hw]
    clear hw
    by_cases h1 : za.length < 1
    · have f1 : (za.length : Int) < 1 := by omega
      gi_quiet (fail)
      obtain ⟨w3, hw3⟩ : ∃ w3, w2.drewN nq = w3 := ⟨_, rfl⟩
      have b3 : Below w2.heap.size w2 w3 := by rw [← hw3]; exact below_drewN (Below.refl _ _) nq
      have t4 := (b3.block _ (Array.getElem?_eq_some_iff.1 t4).1).trans t4
      have bw3 := bw.trans (b3.mono bw.size)
      rw [hw3]
      clear hw3
      have u0 : w3.cell? ⟨w.heap.size + 1, 0, none⟩ = some (.bool false) := by simp [World.cell?, t4]
      have u1 : w3.frozen? ⟨w.heap.size + 1, 0, none⟩ = false := by simp [World.frozen?, t4]
      gi_wp2
      have r0 : (w3.setCell ⟨w.heap.size + 1, 0, none⟩ (.bool false)).cell? ⟨w.heap.size + 1, 0, none⟩ = some (.bool false) := by go_simp
      have hbW : Below w.heap.size w (w3.setCell ⟨w.heap.size + 1, 0, none⟩ (.bool false)) := bw3.setCell (p := ⟨w.heap.size + 1, 0, none⟩) (by simp) _
      have hsW := cell_lt r0
      revert r0 hbW hsW
      generalize w3.setCell ⟨w.heap.size + 1, 0, none⟩ (.bool false) = W3
      intro r0 hbW hsW
      refine leaves_marks (lo := W3.heap.size) [] W3 (Laid.nil _ _) fun w' hb' => ⟨.bool false, ?_, rfl, hbW.trans (hb'.mono hbW.size)⟩
      have r1 := (hb'.cell (p := ⟨w.heap.size + 1, 0, none⟩) hsW).trans r0
      first
        | (rw [results_cell rfl]; go_simp)
        | (simp [results, Try.results63, go_sem]; go_simp)
    by_cases h2 : N < za.length
    · have f1 : ¬ (za.length : Int) < 1 := by omega
      have f2 : (N : Int) < (za.length : Int) := by omega
      gi_quiet (fail)
      obtain ⟨w3, hw3⟩ : ∃ w3, w2.drewN nq = w3 := ⟨_, rfl⟩
      have b3 : Below w2.heap.size w2 w3 := by rw [← hw3]; exact below_drewN (Below.refl _ _) nq
      have t4 := (b3.block _ (Array.getElem?_eq_some_iff.1 t4).1).trans t4
      have bw3 := bw.trans (b3.mono bw.size)
      rw [hw3]
      clear hw3
      have u0 : w3.cell? ⟨w.heap.size + 1, 0, none⟩ = some (.bool false) := by simp [World.cell?, t4]
      have u1 : w3.frozen? ⟨w.heap.size + 1, 0, none⟩ = false := by simp [World.frozen?, t4]
      gi_wp2
      have r0 : (w3.setCell ⟨w.heap.size + 1, 0, none⟩ (.bool false)).cell? ⟨w.heap.size + 1, 0, none⟩ = some (.bool false) := by go_simp
      have hbW : Below w.heap.size w (w3.setCell ⟨w.heap.size + 1, 0, none⟩ (.bool false)) := bw3.setCell (p := ⟨w.heap.size + 1, 0, none⟩) (by simp) _
      have hsW := cell_lt r0
      revert r0 hbW hsW
      generalize w3.setCell ⟨w.heap.size + 1, 0, none⟩ (.bool false) = W3
      intro r0 hbW hsW
      refine leaves_marks (lo := W3.heap.size) [] W3 (Laid.nil _ _) fun w' hb' => ⟨.bool false, ?_, rfl, hbW.trans (hb'.mono hbW.size)⟩
      have r1 := (hb'.cell (p := ⟨w.heap.size + 1, 0, none⟩) hsW).trans r0
      first
        | (rw [results_cell rfl]; go_simp)
        | (simp [results, Try.results63, go_sem]; go_simp)
    · have f1 : ¬ (za.length : Int) < 1 := by omega
      have f2 : ¬ (N : Int) < (za.length : Int) := by omega
      have f3 : ((zr.length : Int) == (za.length : Int)) = false := by rw [beq_eq_false_iff_ne]; intro h; exact hg ⟨by omega, by omega, by omega⟩
      gi_quiet (fail)
      obtain ⟨w3, hw3⟩ : ∃ w3, w2.drewN nq = w3 := ⟨_, rfl⟩
      have b3 : Below w2.heap.size w2 w3 := by rw [← hw3]; exact below_drewN (Below.refl _ _) nq
      have t4 := (b3.block _ (Array.getElem?_eq_some_iff.1 t4).1).trans t4
      have bw3 := bw.trans (b3.mono bw.size)
      rw [hw3]
      clear hw3
      have u0 : w3.cell? ⟨w.heap.size + 1, 0, none⟩ = some (.bool false) := by simp [World.cell?, t4]
      have u1 : w3.frozen? ⟨w.heap.size + 1, 0, none⟩ = false := by simp [World.frozen?, t4]
      gi_wp2
      have r0 : (w3.setCell ⟨w.heap.size + 1, 0, none⟩ (.bool false)).cell? ⟨w.heap.size + 1, 0, none⟩ = some (.bool false) := by go_simp
      have hbW : Below w.heap.size w (w3.setCell ⟨w.heap.size + 1, 0, none⟩ (.bool false)) := bw3.setCell (p := ⟨w.heap.size + 1, 0, none⟩) (by simp) _
      have hsW := cell_lt r0
      revert r0 hbW hsW
      generalize w3.setCell ⟨w.heap.size + 1, 0, none⟩ (.bool false) = W3
      intro r0 hbW hsW
      refine leaves_marks (lo := W3.heap.size) [] W3 (Laid.nil _ _) fun w' hb' => ⟨.bool false, ?_, rfl, hbW.trans (hb'.mono hbW.size)⟩
      have r1 := (hb'.cell (p := ⟨w.heap.size + 1, 0, none⟩) hsW).trans r0
      first
        | (rw [results_cell rfl]; go_simp)
        | (simp [results, Try.results63, go_sem]; go_simp)
theorem fits_crs {N : Nat} {va vr : Value} {za zr : List Int} {w : World} (ha : IntsO w va za) (hr : IntsO w vr zr) (h : FitOk N za zr) : ∃ c : Crs, c.val = .agg #[va, vr] ∧ c.L = za.length ∧ CrsIn w c ∧ CrsOk c N ∧ (∀ k, c.A k = za.getD k 0) ∧ (∀ k, c.R k = zr.getD k 0) := by
  obtain ⟨hl, h1, h2, h3, h4⟩ := h
  obtain ⟨A, cap, rfl, hca⟩ := ha
  obtain ⟨A', cap', rfl, hcb⟩ := hr
  obtain ⟨g, o, rfl, _⟩ := hca 0 (by omega)
  obtain ⟨g', o', rfl, _⟩ := hcb 0 (by omega)
  refine ⟨⟨g, o, cap, g', o', cap', za.length, fun k => za.getD k 0, fun k => zr.getD k 0⟩, by rw [hl]; rfl, rfl, ⟨fun k hk => ?_, fun k hk => ?_⟩, ⟨h1, by show za.length ≤ N; omega, fun k hk => ?_, h4⟩, fun _ => rfl, fun _ => rfl⟩
  · obtain ⟨_, _, h1, h2⟩ := hca k hk
    cases h1; exact h2
  · obtain ⟨_, _, h1, h2⟩ := hcb k (by rw [hl]; exact hk)
    cases h1; exact h2
  · obtain ⟨k1, k2, k3, k4, k5⟩ := h3 k hk
    exact ⟨k1, k5, k4⟩
set_option maxHeartbeats 2000000 in
set_option maxRecDepth 100000 in
theorem fits_no {N : Int} {va vr : Value} {za zr : List Int} {w : World} (ha : IntsO w va za) (hr : IntsO w vr zr) (hla : za.length ≤ 100000) (hlr : zr.length ≤ 100000) (hno : ¬ (1 ≤ N ∧ N ≤ 36 ∧ FitOk N za zr)) :
    Calls Try.prog 32 #[.int .i64 N, .agg #[va, vr]] w fun e w' => e = .returned (.int .i64 2) ∧ Below w.heap.size w w' := by
  obtain ⟨w0, hw0⟩ : ∃ w0, w.alloc (.cells #[va, vr] 42) = w0 := ⟨_, rfl⟩
  have hb0 : Below w.heap.size w w0 := by rw [← hw0]; exact (Below.refl _ _).alloc (Nat.le_refl _) _
  have hO : Own2 w0 w.heap.size va vr := by rw [← hw0]; exact Own2.new _ _ _ _
  have ha0 := intsO_below ha hb0
  have hr0 := intsO_below hr hb0
  by_cases hN : 1 ≤ N ∧ N ≤ 36
  · have hf : ¬ FitOk N za zr := fun h => hno ⟨hN.1, hN.2, h⟩
    obtain ⟨n, rfl⟩ : ∃ n : Nat, N = (n : Int) := ⟨N.toNat, by omega⟩
    have hrl := fun w => readLot_any (N := n) (by omega) (by omega) w
    have his := fun W b (h : Pieces W b n) (ha : IntsO W va za) (hr : IntsO W vr zr) => isCourse_no h ha hr hla hlr hf
    obtain ⟨A, cap, rfl, _⟩ := id ha
    obtain ⟨A', cap', rfl, _⟩ := id hr
    clear hno hf hN ha hr
    go_enter Try.func32, Try.ntmps32
    go_wp2_with (first
      | (go_at_call 62; refine (hrl _).mono ?_; rintro e w5 ⟨rfl, hb5, hP5⟩
         obtain ⟨o0, o1, o2, o3⟩ := hO.after hb5
         have ha5 := intsO_below ha0 hb5
         have hr5 := intsO_below hr0 hb5
         have hbw5 := hb0.trans (hb5.mono hb0.size)
         clear hb5 hrl)
      | (go_at_call 63; refine (his _ _ hP5 ha5 hr5).mono ?_; rintro e w6 ⟨rfl, hb6⟩
         have hbw6 := hbw5.trans (hb6.mono hbw5.size)
         clear hb6))
    go_ret
    exact ⟨rfl, hbw6⟩
  · have hrl := fun w => readLot_no (n := N) (by omega) w
    obtain ⟨A, cap, rfl, _⟩ := id ha
    obtain ⟨A', cap', rfl, _⟩ := id hr
    clear hno ha hr
    go_enter Try.func32, Try.ntmps32
    go_wp2_with (first
      | (go_at_call 62; refine (hrl _).mono ?_; rintro e w5 ⟨rfl, rfl⟩))
    go_ret
    exact ⟨rfl, hb0⟩
end Go.Proofs.Ytbmfipjnfbnjgaa
