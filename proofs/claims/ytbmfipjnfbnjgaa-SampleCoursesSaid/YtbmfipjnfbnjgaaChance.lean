import Derived.Test.YtbmfipjnfbnjgaaSingle
set_option linter.unusedSimpArgs false
set_option linter.unusedVariables false
namespace Go.Proofs.Ytbmfipjnfbnjgaa
open Go Go.Proofs Go.RowKit Go.Sample
def planV (n c : Int) : Value := .agg #[.int .i64 n, .int .i64 c]
theorem readSingle_lot {N : Int} {n c : Int} (hno : N < 1 ∨ 36 < N) (w : World) :
    Calls Try.prog 53 #[.int .i64 N, .int .i64 n, .int .i64 c] w fun e w' => e = .returned (.tuple #[.pointer none, planV 0 0, .bool false]) ∧ Below w.heap.size w w' := by
  unfold planV
  go_enter Try.func53, Try.ntmps53
  go_wp2_with (go_at_call 62; refine (readLot_no hno _).mono ?_; rintro e w5 ⟨rfl, rfl⟩)
  all_goals refine bodyPost_ret (v := .tuple #[.pointer none, .agg #[.int .i64 0, .int .i64 0], .bool false]) (by simp [results, Try.results53, go_sem]; try go_simp) rfl ?_
  all_goals exact ⟨rfl, (Below.refl _ _).alloc (Nat.le_refl _) _⟩
theorem readSingle_no {N : Nat} {n c : Int} (h1 : 1 ≤ N) (h2 : N ≤ 36) (hno : ¬ (0 ≤ c ∧ c < n ∧ n ≤ (N : Int))) (w : World) :
    Calls Try.prog 53 #[.int .i64 N, .int .i64 n, .int .i64 c] w fun e w' => e = .returned (.tuple #[.pointer none, planV 0 0, .bool false]) ∧ Below w.heap.size w w' := by
  unfold planV
  by_cases hc : c < 0
  · go_enter Try.func53, Try.ntmps53
    go_wp2_with (go_at_call 62; refine (readLot_any h1 h2 _).mono ?_; rintro e w5 ⟨rfl, hb, hP⟩
                 obtain ⟨x0, x1, y0, y1⟩ := (Own2.new w (.int .i64 0) (.int .i64 0) 96).after hb
                 have hb' : Below w.heap.size w w5 := ((Below.refl _ w).alloc (Nat.le_refl _) _).trans (hb.mono (by simp))
                 clear hb)
    all_goals refine bodyPost_ret (v := .tuple #[.pointer none, .agg #[.int .i64 0, .int .i64 0], .bool false]) (by simp [results, Try.results53, go_sem]; try go_simp) rfl ?_
    all_goals exact ⟨rfl, (hb'.setCell (p := ⟨w.heap.size, 0, none⟩) (Nat.le_refl _) _).setCell (p := ⟨w.heap.size, 1, none⟩) (Nat.le_refl _) _⟩
  · by_cases hn : c < n
    · have hN : (N : Int) < n := by omega
      go_enter Try.func53, Try.ntmps53
      go_wp2_with (go_at_call 62; refine (readLot_any h1 h2 _).mono ?_; rintro e w5 ⟨rfl, hb, hP⟩
                   obtain ⟨x0, x1, y0, y1⟩ := (Own2.new w (.int .i64 0) (.int .i64 0) 96).after hb
                   have hb' : Below w.heap.size w w5 := ((Below.refl _ w).alloc (Nat.le_refl _) _).trans (hb.mono (by simp))
                   clear hb)
      all_goals refine bodyPost_ret (v := .tuple #[.pointer none, .agg #[.int .i64 0, .int .i64 0], .bool false]) (by simp [results, Try.results53, go_sem]; try go_simp) rfl ?_
      all_goals exact ⟨rfl, (hb'.setCell (p := ⟨w.heap.size, 0, none⟩) (Nat.le_refl _) _).setCell (p := ⟨w.heap.size, 1, none⟩) (Nat.le_refl _) _⟩
    · go_enter Try.func53, Try.ntmps53
      go_wp2_with (go_at_call 62; refine (readLot_any h1 h2 _).mono ?_; rintro e w5 ⟨rfl, hb, hP⟩
                   obtain ⟨x0, x1, y0, y1⟩ := (Own2.new w (.int .i64 0) (.int .i64 0) 96).after hb
                   have hb' : Below w.heap.size w w5 := ((Below.refl _ w).alloc (Nat.le_refl _) _).trans (hb.mono (by simp))
                   clear hb)
      all_goals refine bodyPost_ret (v := .tuple #[.pointer none, .agg #[.int .i64 0, .int .i64 0], .bool false]) (by simp [results, Try.results53, go_sem]; try go_simp) rfl ?_
      all_goals exact ⟨rfl, (hb'.setCell (p := ⟨w.heap.size, 0, none⟩) (Nat.le_refl _) _).setCell (p := ⟨w.heap.size, 1, none⟩) (Nat.le_refl _) _⟩
theorem readSingle_any {N n c : Nat} (h1 : 1 ≤ N) (h2 : N ≤ 36) (hc : c < n) (hn : n ≤ N) (w : World) :
    Calls Try.prog 53 #[.int .i64 N, .int .i64 n, .int .i64 c] w fun e w' => e = .returned (.tuple #[.pointer (some ⟨w.heap.size + 1, 0, none⟩), planV n c, .bool true]) ∧ Below w.heap.size w w' ∧ Pieces w' (w.heap.size + 1) N := by
  unfold planV
  have hc2 : (c : Int) < (n : Int) := by omega
  have hn2 : (n : Int) ≤ (N : Int) := by omega
  go_enter Try.func53, Try.ntmps53
  go_wp2_with (go_at_call 62; refine (readLot_any h1 h2 _).mono ?_; rintro e w5 ⟨rfl, hb, hP⟩
               obtain ⟨x0, x1, y0, y1⟩ := (Own2.new w (.int .i64 0) (.int .i64 0) 96).after hb
               have hb' : Below w.heap.size w w5 := ((Below.refl _ w).alloc (Nat.le_refl _) _).trans (hb.mono (by simp))
               rw [World.size_alloc] at hP
               clear hb)
  all_goals refine bodyPost_ret (v := .tuple #[.pointer (some ⟨w.heap.size + 1, 0, none⟩), .agg #[.int .i64 n, .int .i64 c], .bool true]) (by simp [results, Try.results53, go_sem]; try go_simp) rfl ?_
  all_goals refine ⟨rfl, (hb'.setCell (p := ⟨w.heap.size, 0, none⟩) (Nat.le_refl _) _).setCell (p := ⟨w.heap.size, 1, none⟩) (Nat.le_refl _) _, ?_⟩
  all_goals exact hP.same ((Below.heap_setCell _ ⟨w.heap.size, 1, none⟩ _ _ (by simp)).trans (Below.heap_setCell _ ⟨w.heap.size, 0, none⟩ _ _ (by simp)))
theorem chZ_tm {n m d k : Nat} : ch n k * chZ m ((d : Int) - (k : Int)) = tm n m d k := by
  unfold tm chZ
  by_cases h : k ≤ d
  · rw [if_pos h, if_neg (by omega), show ((d : Int) - (k : Int)).toNat = d - k by omega]
  · rw [if_neg h, if_pos (by omega)]; simp
set_option maxRecDepth 100000 in
theorem chance_any {b N n c d : Nat} {w : World} (hP : Pieces w b N) (hc : c < n) (hn : n ≤ N) (hd : d ≤ N) :
    Calls Try.prog 55 #[.pointer (some ⟨b, 0, none⟩), .int .i64 d, planV n c] w fun e w' => e = .returned (redV (acc n (N - n) d (c + 1)) (ch N d)) ∧ Below w.heap.size w w' := by
  have hlt := hP.lt
  have h36 := hP.h36
  have hall : ∀ k, acc n (N - n) d k ≤ ch N d := fun k => by have := acc_le n (N - n) d k; rwa [show n + (N - n) = N by omega] at this
  have htmle : ∀ k, tm n (N - n) d k ≤ ch N d := fun k => by have := tm_le n (N - n) d k; rwa [show n + (N - n) = N by omega] at this
  have hch := ch_le h36 d
  unfold planV
  go_enter Try.func55, Try.ntmps55
  go_wp2
  obtain ⟨W0, hW0⟩ : ∃ W0, (w.alloc (.cells #[.int .i64 n, .int .i64 c] 96)).alloc (.cells #[.int .i64 0, .int .i64 0] 27) = W0 := ⟨_, rfl⟩
  have hO1 : Own2 W0 w.heap.size (.int .i64 n) (.int .i64 c) := by
    rw [← hW0]; exact (Own2.new w _ _ _).after ((Below.refl _ _).alloc (Nat.le_refl _) _)
  have hO2 : Own2 W0 (w.heap.size + 1) (.int .i64 0) (.int .i64 0) := by
    rw [← hW0]; have := Own2.new (w.alloc (.cells #[.int .i64 n, .int .i64 c] 96)) (.int .i64 0) (.int .i64 0) 27; rwa [World.size_alloc] at this
  have hb0 : Below w.heap.size w W0 := by rw [← hW0]; exact ((Below.refl _ w).alloc (Nat.le_refl _) _).alloc (by simp) _
  have hs0 : W0.heap.size = w.heap.size + 2 := by rw [← hW0]; simp
  rw [hW0]
  clear hW0
  go_loopw [7, 12] (fun s i wr => ∃ k : Nat, k ≤ c + 1 ∧ i = .int .i64 k ∧ s = .int .i64 (acc n (N - n) d k : Nat) ∧ ∃ q, wr = W0.drewN q) (fun _ i _ => c + 1 - (intOf i).toNat)
  case atStart => exact ⟨0, by omega, rfl, rfl, 0, rfl⟩
  case round =>
    obtain ⟨k, hk, rfl, rfl, q, rfl⟩ := hrel
    have hP0 : Pieces W0 b N := hP.below hb0 hlt
    have hPr : Pieces (W0.drewN q) b N := hP0.drewN q
    obtain ⟨a0, a1, a2, a3⟩ := hO1
    by_cases hlt2 : k < c + 1
    · have hlt3 : (k : Int) < (c : Int) + 1 := by omega
      have c1 := hP0.at_ (n := n) (k := k) hn (by omega)
      have hacc := hall k
      have hacc2 := hall (k + 1)
      have hterm := htmle k
      have hbe : ∀ m, Calls Try.prog 70 #[.pointer (some ⟨b, 0, none⟩), .int .i64 n, .int .i64 ((d : Int) - (k : Int))] (W0.drewN (q + m)) fun e w' => e = .returned (.int .i64 (chZ (N - n) ((d : Int) - (k : Int)) : Nat)) ∧ ∃ m', w' = W0.drewN (q + m') := fun m =>
        (behind_any (hP0.drewN (q + m)) hn ⟨by omega, by omega⟩).mono fun e w' h => ⟨h.1, by obtain ⟨m', hm'⟩ := h.2; exact ⟨m + m', by rw [hm', drewN_add, Nat.add_assoc]⟩⟩
      have htm := chZ_tm (n := n) (m := N - n) (d := d) (k := k)
      have hnext : Keep (acc n (N - n) d (k + 1) = acc n (N - n) d k + tm n (N - n) d k) := ⟨rfl⟩
      rw [← htm] at hnext hterm
      obtain ⟨x, hx⟩ : ∃ x, Keep (ch n k = x) := ⟨_, ⟨rfl⟩⟩
      obtain ⟨y, hy⟩ : ∃ y, Keep (chZ (N - n) ((d : Int) - (k : Int)) = y) := ⟨_, ⟨rfl⟩⟩
      obtain ⟨z, hz⟩ : ∃ z, Keep (acc n (N - n) d k = z) := ⟨_, ⟨rfl⟩⟩
      obtain ⟨xy, hxy⟩ : ∃ xy, Keep (x * y = xy) := ⟨_, ⟨rfl⟩⟩
      rw [hx.out, hy.out, hxy.out] at hterm
      rw [hx.out, hy.out, hxy.out, hz.out] at hnext
      rw [hx.out] at c1
      rw [hy.out] at hbe
      rw [hz.out] at hacc ⊢
      have hw1 : IntKind.i64.wrap ((d : Int) - (k : Int)) = (d : Int) - (k : Int) := IntWalk.i64_in _ (by omega)
      have hw2 : IntKind.i64.wrap ((x : Int) * (y : Int)) = (xy : Int) := by rw [← Int.natCast_mul, hxy.out, IntWalk.i64_in _ (by omega)]
      have hw3 : IntKind.i64.wrap ((z : Int) + (xy : Int)) = (z : Int) + (xy : Int) := IntWalk.i64_in _ (by omega)
      have g1 : n < 37 := by omega
      have g2 : k < 37 := by omega
      have f1 : (n : Int) < 37 := by omega
      have f2 : (k : Int) < 37 := by omega
      clear htm hall htmle
      go_wp2
      go_quiet (first | (go_at_call 70; with_reducible exact hbe _))
      go_wp2
      refine ⟨⟨k + 1, by omega, by go_num, ?_, q + nq, by first | rfl | exact drewN_add _ _ _⟩, by simp [intOf]; omega⟩
      rw [hnext.out]; push_cast; rfl
    · have : k = c + 1 := by omega
      subst this
      have hlt3 : ¬ ((c + 1 : Nat) : Int) < (c : Int) + 1 := by omega
      have hacc := hall (c + 1)
      obtain ⟨A, hA⟩ : ∃ A, Keep (acc n (N - n) d (c + 1) = A) := ⟨_, ⟨rfl⟩⟩
      obtain ⟨X, hX⟩ : ∃ X, Keep (ch N d = X) := ⟨_, ⟨rfl⟩⟩
      rw [hA.out] at hacc ⊢
      rw [hX.out] at hacc hch
      have hsh := share_any hPr hd (x := A) (by omega)
      rw [hX.out] at hsh
      have hO2' := hO2.below (below_drewN (Below.refl W0.heap.size W0) q) hO2.lt
      have hbq : Below w.heap.size w (W0.drewN q) := below_drewN hb0 q
      have hsq : (W0.drewN q).heap.size = w.heap.size + 2 := hs0
      clear hall htmle hch hacc
      unfold redV fracV at hsh
      go_wp2_with (go_at_call 66; refine hsh.mono ?_; rintro e w5 ⟨rfl, hb⟩
                   obtain ⟨x0, x1, y0, y1⟩ := hO2'.after hb
                   have hbw : Below w.heap.size w w5 := hbq.trans (hb.mono (by omega))
                   clear hb hsh)
      all_goals refine bodyPost_ret (v := redV A X) (by unfold redV fracV; simp [results, Try.results55, go_sem]; try go_simp) rfl ?_
      all_goals refine ⟨?_, (hbw.setCell (p := ⟨w.heap.size + 1, 0, none⟩) (by simp) _).setCell (p := ⟨w.heap.size + 1, 1, none⟩) (by simp) _⟩
      all_goals rw [← hA.out, ← hX.out]
end Go.Proofs.Ytbmfipjnfbnjgaa
