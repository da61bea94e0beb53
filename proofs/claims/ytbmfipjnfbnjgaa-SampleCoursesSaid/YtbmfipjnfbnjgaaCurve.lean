import Derived.Test.YtbmfipjnfbnjgaaLeftFn
import Derived.Test.YtbmfipjnfbnjgaaEnds
import Derived.Laws.MakeOwn
set_option linter.unusedSimpArgs false
set_option linter.unusedVariables false
namespace Go.Proofs.Ytbmfipjnfbnjgaa
open Go Go.Proofs Go.RowKit Go.Sample
set_option maxRecDepth 100000 in
theorem curve_no {N n c : Int} (hno : ¬ PlanOk N n c) (w : World) :
    Calls Try.prog 40 #[.int .i64 N, .int .i64 n, .int .i64 c] w fun e w' => e = .returned (.tuple #[.slice none 0 0, .int .i64 2]) ∧ Below w.heap.size w w' := by
  have hr := fun w => readSingle_bad hno w
  unfold planV at hr
  go_enter Try.func40, Try.ntmps40
  go_wp2_with (go_at_call 53; refine (hr _).mono ?_; rintro e w5 ⟨rfl, hb⟩)
  all_goals go_ret2
  all_goals exact ⟨rfl, hb.alloc hb.size _⟩
set_option maxRecDepth 100000 in
theorem info27 : (Try.prog.info? 27).map (fun i => (i.zero, i.size, i.bytes)) = some (some (.agg #[.int .i64 0, .int .i64 0]), 2, 16) := by kernel_rfl
set_option maxRecDepth 100000 in
theorem und54 : Try.prog.underlying 54 = some (.slice 27) := by kernel_rfl
def fracZ (N : Nat) : Array Value := madeCells #[.int .i64 0, .int .i64 0] (2 * (N + 1))
theorem fracZ_at (N : Nat) : (fracZ N).size = 2 * (N + 1) ∧ ∀ j, j < 2 * (N + 1) → (fracZ N)[j]? = some (.int .i64 0) := by
  refine ⟨size_madeCells _ _, fun j hj => ?_⟩
  unfold fracZ madeCells
  simp only [Array.getElem?_map, Array.getElem?_range, hj, if_true, Option.map_some]
  rcases Nat.mod_two_eq_zero_or_one j with h | h <;> simp [h]
theorem made54 {N : Nat} (h : N ≤ 36) (w : World) : (Sem.run Try.prog (Instr.makeSlice 54 (.int .i64 ((N : Int) + 1)) (.int .i64 ((N : Int) + 1)))) w = .ok (.slice (some ⟨w.heap.size, 0, none⟩) (N + 1) (N + 1)) (w.alloc (.cells (fracZ N) 27)) := by
  have hi := info27
  cases hI : Try.prog.info? 27 with
  | none => rw [hI] at hi; cases hi
  | some i =>
    rw [hI] at hi
    simp only [Option.map_some, Option.some.injEq, Prod.mk.injEq] at hi
    obtain ⟨z1, z2, z3⟩ := hi
    have r := run_make (P := Try.prog) w 54 27 i _ und54 hI z1 .i64 .i64 ((N : Int) + 1) ((N : Int) + 1) (by omega) (by omega) (by rw [z3]; omega) (by omega)
    rw [show ((N : Int) + 1).toNat = N + 1 by omega, z2, show (N + 1) * 2 = 2 * (N + 1) by omega] at r
    exact r
/-- The cells of the first k chances. -/
def curF (N n c k j : Nat) : Nat := if j / 2 < k then (if j % 2 = 0 then rN (acc n (N - n) (j / 2) (c + 1)) (ch N (j / 2)) else rD (acc n (N - n) (j / 2) (c + 1)) (ch N (j / 2))) else 0
structure CvR (w : World) (N g1 g2 : Nat) (n c : Nat) (f : Nat → Nat) (W : World) : Prop where
  P : Pieces W (w.heap.size + 1) N
  p : Own2 W g1 (.int .i64 n) (.int .i64 c)
  f : NumsAt W g2 (2 * (N + 1)) 27 f
  bw : Below w.heap.size w W
theorem CvR.after {w W W' : World} {N g1 g2 n c : Nat} {f : Nat → Nat} (h : CvR w N g1 g2 n c f W) (hb : Below W.heap.size W W') : CvR w N g1 g2 n c f W' :=
  ⟨h.P.below hb h.P.lt, h.p.after hb, h.f.below hb h.f.lt, h.bw.trans (hb.mono h.bw.size)⟩
theorem CvR.setF {w W : World} {N g1 g2 n c p x : Nat} {f f' : Nat → Nat} (h : CvR w N g1 g2 n c f W) (hp : p < 2 * (N + 1)) (hx : f' p = x) (hf : ∀ j, j ≠ p → f' j = f j) (h1 : w.heap.size + 1 < g1) (h2 : g1 < g2) :
    CvR w N g1 g2 n c f' (W.setCell ⟨g2, p, none⟩ (.int .i64 x)) :=
  ⟨h.P.same (Below.heap_setCell W ⟨g2, p, none⟩ _ _ (show w.heap.size + 1 ≠ g2 by omega)), h.p.other (by omega), h.f.set hp hx (fun j _ hj => hf j hj), h.bw.setCell (p := ⟨g2, p, none⟩) (show w.heap.size ≤ g2 by omega) _⟩
set_option maxHeartbeats 2000000 in
set_option maxRecDepth 100000 in
theorem curve_any {N n c : Nat} (h1 : 1 ≤ N) (h36 : N ≤ 36) (hcn : c < n) (hnN : n ≤ N) (w : World) :
    Calls Try.prog 40 #[.int .i64 N, .int .i64 n, .int .i64 c] w fun e w' => ∃ g, e = .returned (.tuple #[.slice (some ⟨g, 0, none⟩) (N + 1) (N + 1), .int .i64 0]) ∧ Below w.heap.size w w' ∧ w.heap.size ≤ g ∧ NumsAt w' g (2 * (N + 1)) 27 (curF N n c (N + 1)) := by
  have hr := fun w => readSingle_any h1 h36 hcn hnN w
  unfold planV at hr
  have wN : IntKind.i64.wrap ((N : Int) + 1) = (N : Int) + 1 := IntWalk.i64_in _ (by omega)
  have hm := fun w => made54 h36 w
  go_enter Try.func40, Try.ntmps40
  go_wp2_with (go_at_call 53; refine (hr _).mono ?_; rintro e w5 ⟨rfl, hb5, hP5⟩
               obtain ⟨wq, hwq⟩ : ∃ wq, w5.alloc (.cells #[.int .i64 n, .int .i64 c] 96) = wq := ⟨_, rfl⟩
               have hbq : Below w5.heap.size w5 wq := by rw [← hwq]; exact (Below.refl _ _).alloc (Nat.le_refl _) _
               have hPq := hP5.below hbq hP5.lt
               have hpq : Own2 wq w5.heap.size (.int .i64 n) (.int .i64 c) := by rw [← hwq]; exact Own2.new _ _ _ _
               have hbwq := hb5.trans (hbq.mono hb5.size)
               have c6 := hPq.tab.size
               have g56 := hpq.lt
               have hg5 := hP5.lt
               clear hb5 hbq hP5 hr)
  obtain ⟨g1, hg1⟩ : ∃ g1, w5.heap.size = g1 := ⟨_, rfl⟩
  obtain ⟨g2, hg2⟩ : ∃ g2, wq.heap.size = g2 := ⟨_, rfl⟩
  have hb7 : Below wq.heap.size wq (wq.alloc (.cells (fracZ N) 27)) := (Below.refl _ _).alloc (Nat.le_refl _) _
  have hfz := fracZ_at N
  have hC0 : CvR w N g1 g2 n c (curF N n c 0) (wq.alloc (.cells (fracZ N) 27)) := by
    refine ⟨hPq.below hb7 hPq.lt, by rw [← hg1]; exact hpq.after hb7, ?_, hbwq.trans (hb7.mono hbwq.size)⟩
    rw [← hg2]
    exact (NumsAt.new wq (t := 27) hfz.1 hfz.2).fn (fun j hj => by unfold curF; rw [if_neg (by omega)])
  have hg12 : Keep (w.heap.size + 1 < g1 ∧ g1 < g2) := ⟨by omega⟩
  rw [hg1, hg2]
  generalize wq.alloc (.cells (fracZ N) 27) = w8 at *
  clear hb7 hg1 hg2 hPq hpq hbwq c6 g56 hg5 hm hwq hfz
  go_loopw [31] (fun t wr => ∃ k : Nat, k ≤ N + 1 ∧ t = .int .i64 k ∧ CvR w N g1 g2 n c (curF N n c k) wr) (fun t _ => N + 1 - (intOf t).toNat)
  case atStart => exact ⟨0, by omega, rfl, hC0⟩
  case round =>
    obtain ⟨k, hk, rfl, hC⟩ := hrel
    by_cases hkN : k < N + 1
    · have hkN' : (k : Int) < (N : Int) + 1 := by omega
      have q := fun W (h : Pieces W (w.heap.size + 1) N) => chance_any h hcn hnN (d := k) (by omega)
      unfold planV redV fracV at q
      obtain ⟨p0, p1, p2, p3⟩ := id hC.p
      go_wp2_with (go_at_call 55; (with_reducible refine (q _ hC.P).mono ?_); rintro e w6 ⟨rfl, hb6⟩
                   have hD := hC.after hb6
                   obtain ⟨f0, f1⟩ := hD.f.cell (j := k * 2) (by omega)
                   obtain ⟨f2, f3⟩ := hD.f.cell (j := k * 2 + 1) (by omega)
                   clear hb6)
      have hg := hg12.out
      refine ⟨⟨k + 1, by omega, by go_num, (hD.setF (f' := fun j => if j = k * 2 then rN (acc n (N - n) k (c + 1)) (ch N k) else curF N n c k j) (p := k * 2) (by omega) (by simp) (fun j hj => by simp [hj]) (by omega) (by omega)).setF (p := k * 2 + 1) (by omega) ?_ ?_ (by omega) (by omega)⟩, by simp [intOf]; omega⟩
      · unfold curF
        rw [if_pos (by omega), if_neg (by omega), show (k * 2 + 1) / 2 = k by omega]
      · intro j hj
        by_cases e : j = k * 2
        · subst e
          simp only [if_true]
          unfold curF
          rw [if_pos (by omega), if_pos (by omega), show k * 2 / 2 = k by omega]
        · simp only [e, if_false]
          unfold curF
          by_cases h : j / 2 < k
          · rw [if_pos h, if_pos (by omega)]
          · rw [if_neg h, if_neg (by omega)]
    · obtain rfl : k = N + 1 := by omega
      have hkN' : ¬ ((N + 1 : Nat) : Int) < (N : Int) + 1 := by omega
      go_wp2
      go_ret2
      exact ⟨g2, rfl, hC.bw, by have := hg12.out; omega, hC.f⟩
end Go.Proofs.Ytbmfipjnfbnjgaa
