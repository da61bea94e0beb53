import Derived.Test.YtbmfipjnfbnjgaaPieces
import Derived.OwnWalk
set_option linter.unusedSimpArgs false
set_option linter.unusedVariables false
namespace Go.Proofs.Ytbmfipjnfbnjgaa
open Go Go.Proofs Go.RowKit Go.Sample
def In64 (a : Int) : Prop := -9223372036854775808 ≤ a ∧ a < 9223372036854775808
def chZ (n : Nat) (z : Int) : Nat := if z < 0 then 0 else ch n z.toNat
theorem chZ_le {n : Nat} (h : n ≤ 36) (z : Int) : chZ n z ≤ 9075135300 := by
  unfold chZ; split
  · omega
  · exact ch_le h _
theorem has_any {b N : Nat} {z : Int} {w : World} (hP : Pieces w b N) (hz : In64 z) :
    Calls Try.prog 54 #[.pointer (some ⟨b, 0, none⟩), .int .i64 z] w fun e w' => e = .returned (.bool (decide (0 ≤ z ∧ z ≤ (N : Int)))) ∧ w' = w := by
  obtain ⟨z1, z2⟩ := hz
  have c0 := hP.tab.size
  obtain ⟨D, hD⟩ : ∃ D, Keep (decide (0 ≤ z ∧ z ≤ (N : Int)) = D) := ⟨_, ⟨rfl⟩⟩
  rw [hD.out]
  go_enter Try.func54, Try.ntmps54
  by_cases h0 : 0 ≤ z
  · have hDG : Keep (decide (z ≤ (N : Int)) = D) := ⟨by rw [← hD.out]; by_cases h : z ≤ (N : Int) <;> simp [h, h0]⟩
    go_wp2
    go_ret
    exact ⟨by rw [← hDG.out]; rfl, rfl⟩
  · have hDG : Keep (D = false) := ⟨by rw [← hD.out]; simp [h0]⟩
    go_wp2
    go_ret
    exact ⟨by rw [hDG.out]; rfl, rfl⟩
theorem readBad_no {n z : Int} (hno : n < 1 ∨ 36 < n) (w : World) :
    Calls Try.prog 52 #[.int .i64 n, .int .i64 z] w fun e w' => e = .returned (.tuple #[.pointer none, .bool false]) ∧ w' = w := by
  go_enter Try.func52, Try.ntmps52
  go_wp2_with (go_at_call 62; refine (readLot_no hno _).mono ?_; rintro e w5 ⟨rfl, rfl⟩)
  go_ret2
  exact ⟨rfl, rfl⟩
theorem readBad_any {N : Nat} {z : Int} (h1 : 1 ≤ N) (h2 : N ≤ 36) (hz : In64 z) (w : World) :
    Calls Try.prog 52 #[.int .i64 N, .int .i64 z] w fun e w' => e = .returned (.tuple #[.pointer (some ⟨w.heap.size, 0, none⟩), .bool (decide (0 ≤ z ∧ z ≤ (N : Int)))]) ∧ Below w.heap.size w w' ∧ Pieces w' w.heap.size N := by
  obtain ⟨D, hD⟩ : ∃ D, Keep (decide (0 ≤ z ∧ z ≤ (N : Int)) = D) := ⟨_, ⟨rfl⟩⟩
  rw [hD.out]
  go_enter Try.func52, Try.ntmps52
  go_wp2_with (first
    | (go_at_call 62; refine (readLot_any h1 h2 _).mono ?_; rintro e w5 ⟨rfl, hb, hP⟩)
    | (go_at_call 54; refine (has_any hP hz).mono ?_; rintro e w6 ⟨rfl, rfl⟩; rw [hD.out]))
  go_ret2
  exact ⟨rfl, hb, hP⟩
theorem behind_any {b N n : Nat} {z : Int} {w : World} (hP : Pieces w b N) (hn : n ≤ N) (hz : In64 z) :
    Calls Try.prog 70 #[.pointer (some ⟨b, 0, none⟩), .int .i64 n, .int .i64 z] w fun e w' => e = .returned (.int .i64 (chZ (N - n) z : Nat)) ∧ ∃ m, w' = w.drewN m := by
  have h36 := hP.h36
  have c0 := hP.tab.size
  obtain ⟨D, hD⟩ : ∃ D, Keep (decide (0 ≤ z ∧ z ≤ (N : Int)) = D) := ⟨_, ⟨rfl⟩⟩
  obtain ⟨X, hX⟩ : ∃ X, Keep (chZ (N - n) z = X) := ⟨_, ⟨rfl⟩⟩
  rw [hX.out]
  have hh := has_any hP hz
  rw [hD.out] at hh
  by_cases h0 : 0 ≤ z ∧ z ≤ (N : Int)
  · obtain ⟨k, rfl⟩ : ∃ k : Nat, z = (k : Int) := ⟨z.toNat, by omega⟩
    have hk : k ≤ N := by omega
    have hDt : D = true := by rw [← hD.out]; exact decide_eq_true h0
    rw [hDt] at hh
    obtain ⟨m, hm⟩ : ∃ m, Keep (N - n = m) := ⟨_, ⟨rfl⟩⟩
    have c1 := hP.at_ (n := N - n) (k := k) (by omega) (by omega)
    have e1 : ch (N - n) k = X := by rw [← hX.out]; unfold chZ; rw [if_neg (by omega)]; rfl
    rw [e1, hm.out] at c1
    have hw : IntKind.i64.wrap ((N : Int) - (n : Int)) = (m : Int) := by rw [IntWalk.i64_in _ (by omega)]; have := hm.out; omega
    have g1 : m < 37 := by have := hm.out; omega
    have g2 : k < 37 := by omega
    have f1 : (m : Int) < 37 := by omega
    have f2 : (k : Int) < 37 := by omega
    clear e1 h0 hDt
    go_enter Try.func70, Try.ntmps70
    go_wp2_with (go_at_call 54; refine hh.mono ?_; rintro e w6 ⟨rfl, rfl⟩)
    go_quiet (fail)
    go_wp2
    go_ret
    exact ⟨rfl, nq, rfl⟩
  · have hDf : D = false := by rw [← hD.out]; exact decide_eq_false h0
    rw [hDf] at hh
    have hX0 : X = 0 := by
      rw [← hX.out]; unfold chZ
      by_cases h : z < 0
      · rw [if_pos h]
      · rw [if_neg h]; exact ch_gt (by omega)
    subst hX0
    go_enter Try.func70, Try.ntmps70
    go_wp2_with (go_at_call 54; refine hh.mono ?_; rintro e w6 ⟨rfl, rfl⟩)
    go_ret
    exact ⟨rfl, 0, rfl⟩
/-- A variable that holds a fraction: its block. -/
structure Own2 (W : World) (g : Nat) (x y : Value) : Prop where
  c0 : W.cell? ⟨g, 0, none⟩ = some x
  c1 : W.cell? ⟨g, 1, none⟩ = some y
  f0 : W.frozen? ⟨g, 0, none⟩ = false
  f1 : W.frozen? ⟨g, 1, none⟩ = false
theorem Own2.of {W : World} {g : Nat} {x y : Value} {t : TypeId} (h : W.heap[g]? = some (.cells #[x, y] t (0, 0))) : Own2 W g x y :=
  ⟨by simp [World.cell?, h], by simp [World.cell?, h], by simp [World.frozen?, h], by simp [World.frozen?, h]⟩
theorem Own2.new (w : World) (x y : Value) (t : TypeId) : Own2 (w.alloc (.cells #[x, y] t)) w.heap.size x y := by
  have h : (w.alloc (.cells #[x, y] t)).heap[w.heap.size]? = some (.cells #[x, y] t (0, 0)) := by
    show (w.heap.push _)[w.heap.size]? = _
    simp
  exact Own2.of h
theorem Own2.lt {W : World} {g : Nat} {x y : Value} (h : Own2 W g x y) : g < W.heap.size := by
  rcases Nat.lt_or_ge g W.heap.size with h' | h'
  · exact h'
  · have := h.c0; simp [World.cell?, Array.getElem?_eq_none h'] at this
theorem Own2.below {W W' : World} {g B : Nat} {x y : Value} (h : Own2 W g x y) (hb : Below B W W') (hl : g < B) : Own2 W' g x y :=
  ⟨(hb.cell (p := ⟨g, 0, none⟩) hl).trans h.c0, (hb.cell (p := ⟨g, 1, none⟩) hl).trans h.c1, (hb.frozen (p := ⟨g, 0, none⟩) hl).trans h.f0, (hb.frozen (p := ⟨g, 1, none⟩) hl).trans h.f1⟩
theorem Own2.after {W W' : World} {g : Nat} {x y : Value} (h : Own2 W g x y) (hb : Below W.heap.size W W') : Own2 W' g x y := h.below hb h.lt
set_option maxRecDepth 100000 in
theorem share_any {b N d x : Nat} {w : World} (hP : Pieces w b N) (hd : d ≤ N) (hx : x < 9223372036854775808) :
    Calls Try.prog 66 #[.pointer (some ⟨b, 0, none⟩), .int .i64 x, .int .i64 d] w fun e w' => e = .returned (redV x (ch N d)) ∧ Below w.heap.size w w' := by
  have hlt := hP.lt
  have h36 := hP.h36
  have hP1 := hP.below ((Below.refl _ w).alloc (Nat.le_refl _) (.cells #[.int .i64 0, .int .i64 0] 27)) hlt
  have c0 := hP1.tab.size
  have c1 := hP1.at_ (n := N) (k := d) (Nat.le_refl _) (by omega)
  have p1 := ch_pos hd
  have p2 := ch_le h36 d
  obtain ⟨X, hX⟩ : ∃ X, Keep (ch N d = X) := ⟨_, ⟨rfl⟩⟩
  rw [hX.out] at c1 p1 p2 ⊢
  have g1 : N < 37 := by omega
  have g2 : d < 37 := by omega
  have f1 : (N : Int) < 37 := by omega
  have f2 : (d : Int) < 37 := by omega
  have hxk := Keep.mk hx
  have p2k : Keep (X < 9223372036854775808) := ⟨by omega⟩
  clear hx p2
  obtain ⟨W1, hW1⟩ : ∃ W1, w.alloc (.cells #[.int .i64 0, .int .i64 0] 27) = W1 := ⟨_, rfl⟩
  have hO : Own2 W1 w.heap.size (.int .i64 0) (.int .i64 0) := by rw [← hW1]; exact Own2.new _ _ _ _
  have hs1 : w.heap.size < W1.heap.size := by rw [← hW1]; simp
  have hb1 : Below w.heap.size w W1 := by rw [← hW1]; exact (Below.refl _ w).alloc (Nat.le_refl _) _
  rw [hW1] at c0 c1 hP1
  go_enter Try.func66, Try.ntmps66
  go_wp2
  try rw [hW1]
  clear hW1
  go_still_tail 12, (by kernel_rfl)
  change wpList _ _ _ _ _ (World.drew _)
  go_wp2_with (go_at_call 73; refine (lowest_any x X hxk.out p1 p2k.out _).mono ?_; rintro e w5 ⟨rfl, hb⟩
               obtain ⟨x0, x1, y0, y1⟩ := (hO.below (W' := W1.drew) (Below.refl _ W1).drew hs1).after hb
               have hb' : Below w.heap.size w w5 := hb1.drew.trans (hb.mono (by show w.heap.size ≤ W1.heap.size; omega))
               clear hb
               unfold redV fracV)
  all_goals refine bodyPost_ret (v := redV x X) (by unfold redV fracV; simp [results, Try.results66, go_sem]; try go_simp) rfl ?_
  all_goals exact ⟨rfl, (hb'.setCell (p := ⟨w.heap.size, 0, none⟩) (Nat.le_refl _) _).setCell (p := ⟨w.heap.size, 1, none⟩) (Nat.le_refl _) _⟩
end Go.Proofs.Ytbmfipjnfbnjgaa
