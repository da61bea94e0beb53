import Derived.Test.YtbmfipjnfbnjgaaChance
set_option linter.unusedSimpArgs false
set_option linter.unusedVariables false
namespace Go.Proofs.Ytbmfipjnfbnjgaa
open Go Go.Proofs Go.RowKit Go.Sample
set_option maxRecDepth 100000 in
theorem left_any {b N n c d : Nat} {w : World} (hP : Pieces w b N) (hc : c < n) (hn : n ≤ N) (hd : d ≤ N) :
    Calls Try.prog 69 #[.pointer (some ⟨b, 0, none⟩), .int .i64 d, planV n c] w fun e w' => e = .returned (redV (lef n (N - n) d (c + 1)) (ch N d)) ∧ Below w.heap.size w w' := by
  have hlt := hP.lt
  have h36 := hP.h36
  have hall : ∀ k, acc n (N - n) d k ≤ ch N d := fun k => by have := acc_le n (N - n) d k; rwa [show n + (N - n) = N by omega] at this
  have htmle : ∀ k, tm n (N - n) d k ≤ ch N d := fun k => by have := tm_le n (N - n) d k; rwa [show n + (N - n) = N by omega] at this
  have hch := ch_le h36 d
  have hlef : ∀ k, lef n (N - n) d k ≤ 9075135300 * 36 := fun k => Nat.le_trans (lef_le n (N - n) d k) (Nat.mul_le_mul (Nat.le_trans (hall k) hch) (by omega))
  unfold planV
  go_enter Try.func69, Try.ntmps69
  go_wp2
  obtain ⟨W0, hW0⟩ : ∃ W0, (w.alloc (.cells #[.int .i64 n, .int .i64 c] 96)).alloc (.cells #[.int .i64 0, .int .i64 0] 27) = W0 := ⟨_, rfl⟩
  have hO1 : Own2 W0 w.heap.size (.int .i64 n) (.int .i64 c) := by
    rw [← hW0]; exact (Own2.new w _ _ _).after ((Below.refl _ _).alloc (Nat.le_refl _) _)
  have hO2 : Own2 W0 (w.heap.size + 1) (.int .i64 0) (.int .i64 0) := by
    rw [← hW0]; have := Own2.new (w.alloc (.cells #[.int .i64 n, .int .i64 c] 96)) (.int .i64 0) (.int .i64 0) 27; rwa [World.size_alloc] at this
  have hb0 : Below w.heap.size w W0 := by rw [← hW0]; exact ((Below.refl _ w).alloc (Nat.le_refl _) _).alloc (by simp) _
  have hs0 : W0.heap.size = w.heap.size + 2 := by rw [← hW0]; simp
  rw [hW0]
  clear hW0
  go_loopw [7, 12] (fun s i wr => ∃ k : Nat, k ≤ c + 1 ∧ i = .int .i64 k ∧ s = .int .i64 (lef n (N - n) d k : Nat) ∧ ∃ q, wr = W0.drewN q) (fun _ i _ => c + 1 - (intOf i).toNat)
  case atStart => exact ⟨0, by omega, rfl, rfl, 0, rfl⟩
  case round =>
    obtain ⟨k, hk, rfl, rfl, q, rfl⟩ := hrel
    have hP0 : Pieces W0 b N := hP.below hb0 hlt
    have hPr : Pieces (W0.drewN q) b N := hP0.drewN q
    obtain ⟨a0, a1, a2, a3⟩ := hO1
    by_cases hlt2 : k < c + 1
    · have hlt3 : (k : Int) < (c : Int) + 1 := by omega
      have c1 := hP0.at_ (n := n) (k := k) hn (by omega)
      have hacc := hlef k
      have hacc2 := hlef (k + 1)
      have hterm := htmle k
      have hbe : ∀ m, Calls Try.prog 70 #[.pointer (some ⟨b, 0, none⟩), .int .i64 n, .int .i64 ((d : Int) - (k : Int))] (W0.drewN (q + m)) fun e w' => e = .returned (.int .i64 (chZ (N - n) ((d : Int) - (k : Int)) : Nat)) ∧ ∃ m', w' = W0.drewN (q + m') := fun m =>
        (behind_any (hP0.drewN (q + m)) hn ⟨by omega, by omega⟩).mono fun e w' h => ⟨h.1, by obtain ⟨m', hm'⟩ := h.2; exact ⟨m + m', by rw [hm', drewN_add, Nat.add_assoc]⟩⟩
      have htm := chZ_tm (n := n) (m := N - n) (d := d) (k := k)
      have hnext : Keep (((lef n (N - n) d (k + 1) : Nat) : Int) = ((lef n (N - n) d k : Nat) : Int) + ((tm n (N - n) d k : Nat) : Int) * ((d : Int) - (k : Int))) := ⟨by
        rw [lef_succ]; push_cast
        by_cases h : k ≤ d
        · rw [show ((d - k : Nat) : Int) = (d : Int) - (k : Int) by omega]
        · have : tm n (N - n) d k = 0 := by unfold tm; rw [if_neg h]
          rw [this]; simp⟩
      have hmul : tm n (N - n) d k * (d - k) ≤ 9075135300 * 36 := Nat.mul_le_mul (Nat.le_trans hterm hch) (by omega)
      have hmul2 : Keep (-9223372036854775808 ≤ ((tm n (N - n) d k : Nat) : Int) * ((d : Int) - (k : Int)) ∧ ((tm n (N - n) d k : Nat) : Int) * ((d : Int) - (k : Int)) ≤ 400000000000) := ⟨by
        by_cases h : k ≤ d
        · rw [show (d : Int) - (k : Int) = ((d - k : Nat) : Int) by omega, ← Int.natCast_mul]; omega
        · have : tm n (N - n) d k = 0 := by unfold tm; rw [if_neg h]
          rw [this]; simp⟩
      rw [← htm] at hnext hterm hmul2
      clear hmul
      obtain ⟨x, hx⟩ : ∃ x, Keep (ch n k = x) := ⟨_, ⟨rfl⟩⟩
      obtain ⟨y, hy⟩ : ∃ y, Keep (chZ (N - n) ((d : Int) - (k : Int)) = y) := ⟨_, ⟨rfl⟩⟩
      obtain ⟨z, hz⟩ : ∃ z, Keep (lef n (N - n) d k = z) := ⟨_, ⟨rfl⟩⟩
      obtain ⟨xy, hxy⟩ : ∃ xy, Keep (x * y = xy) := ⟨_, ⟨rfl⟩⟩
      rw [hx.out, hy.out, hxy.out] at hterm
      rw [hx.out, hy.out, hxy.out, hz.out] at hnext
      rw [hx.out, hy.out, hxy.out] at hmul2
      obtain ⟨t, ht⟩ : ∃ t, Keep ((xy : Int) * ((d : Int) - (k : Int)) = t) := ⟨_, ⟨rfl⟩⟩
      rw [ht.out] at hmul2 hnext
      have hmul3 := hmul2.out
      have hw4 : IntKind.i64.wrap ((xy : Int) * ((d : Int) - (k : Int))) = t := by rw [ht.out, IntWalk.i64_in _ (by omega)]
      rw [hx.out] at c1
      rw [hy.out] at hbe
      rw [hz.out] at hacc ⊢
      have hw1 : IntKind.i64.wrap ((d : Int) - (k : Int)) = (d : Int) - (k : Int) := IntWalk.i64_in _ (by omega)
      have hw2 : IntKind.i64.wrap ((x : Int) * (y : Int)) = (xy : Int) := by rw [← Int.natCast_mul, hxy.out, IntWalk.i64_in _ (by omega)]
      have hw3 : IntKind.i64.wrap ((z : Int) + t) = (z : Int) + t := IntWalk.i64_in _ (by omega)
      clear hmul3
      have g1 : n < 37 := by omega
      have g2 : k < 37 := by omega
      have f1 : (n : Int) < 37 := by omega
      have f2 : (k : Int) < 37 := by omega
      clear htm hall htmle hlef
      go_wp2
      go_quiet (first | (go_at_call 70; with_reducible exact hbe _))
      go_wp2
      refine ⟨⟨k + 1, by omega, by go_num, ?_, q + nq, by first | rfl | exact drewN_add _ _ _⟩, by simp [intOf]; omega⟩
      rw [hnext.out]
    · have : k = c + 1 := by omega
      subst this
      have hlt3 : ¬ ((c + 1 : Nat) : Int) < (c : Int) + 1 := by omega
      have hacc := hlef (c + 1)
      obtain ⟨A, hA⟩ : ∃ A, Keep (lef n (N - n) d (c + 1) = A) := ⟨_, ⟨rfl⟩⟩
      obtain ⟨X, hX⟩ : ∃ X, Keep (ch N d = X) := ⟨_, ⟨rfl⟩⟩
      rw [hA.out] at hacc ⊢
      rw [hX.out] at hch
      have hsh := share_any hPr hd (x := A) (by omega)
      rw [hX.out] at hsh
      have hO2' := hO2.below (below_drewN (Below.refl W0.heap.size W0) q) hO2.lt
      have hbq : Below w.heap.size w (W0.drewN q) := below_drewN hb0 q
      have hsq : (W0.drewN q).heap.size = w.heap.size + 2 := hs0
      clear hall htmle hch hacc hlef
      unfold redV fracV at hsh
      go_wp2_with (go_at_call 66; refine hsh.mono ?_; rintro e w5 ⟨rfl, hb⟩
                   obtain ⟨x0, x1, y0, y1⟩ := hO2'.after hb
                   have hbw : Below w.heap.size w w5 := hbq.trans (hb.mono (by omega))
                   clear hb hsh)
      all_goals refine bodyPost_ret (v := redV A X) (by unfold redV fracV; simp [results, Try.results69, go_sem]; try go_simp) rfl ?_
      all_goals refine ⟨?_, (hbw.setCell (p := ⟨w.heap.size + 1, 0, none⟩) (by simp) _).setCell (p := ⟨w.heap.size + 1, 1, none⟩) (by simp) _⟩
      all_goals rw [← hA.out, ← hX.out]
end Go.Proofs.Ytbmfipjnfbnjgaa
