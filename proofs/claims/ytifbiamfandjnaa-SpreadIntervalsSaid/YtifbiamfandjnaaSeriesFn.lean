import Derived.Test.YtifbiamfandjnaaSeriesRef
import Derived.Test.YtifbiamfandjnaaBestFn
set_option linter.unusedSimpArgs false
set_option linter.unusedVariables false
namespace Go.Proofs.Ytifbiamfandjnaa
open Go Go.Proofs Go.RowKit
def serL (b D n : Nat) : List Int := (List.range n).map fun k : Nat => ((trn b D k 0 : Nat) : Int)
theorem serL_len (b D n : Nat) : (serL b D n).length = n := by simp [serL]
theorem serL_at {b D n k : Nat} (h : k < n) : (serL b D n).getD k 0 = ((trn b D k 0 : Nat) : Int) := by simp [serL, h]
set_option maxHeartbeats 1000000 in
set_option maxRecDepth 100000 in
theorem mlist_any {b D n S : Nat} (hb1 : 2 ≤ b) (hb2 : b ≤ 16) (hS : b ^ D = S) (hS2 : S ≤ 1000) (h1 : 1 ≤ n) (h2 : n ≤ 60) (h3 : n ≤ S) (w : World) :
    Calls Try.prog 77 #[.int .i64 b, .int .i64 S, .int .i64 n] w fun e w' => e = .returned (.slice (some ⟨w.heap.size, 0, none⟩) n n) ∧ IntsAt w' (.slice (some ⟨w.heap.size, 0, none⟩) n n) (serL b D n) ∧ Below w.heap.size w w' := by
  obtain ⟨i0, hi, hz0, hz1, hz2⟩ := info_parts info3
  have hSk := Keep.mk hS
  clear hS
  go_enter Try.func77, Try.ntmps77
  go_wp2_with (at_make; go_loud (
             refine wpList_make_full _ rfl _ _ 22 rfl w.heap.size 3 i0 (.int .i64 0) 1 ty22 hi hz0 hz1 .i64 .i64 (n : Int) (n : Int) n rfl rfl rfl rfl (by rw [hz2]; omega) (by unfold maxLen; omega) (by simp) ?_
             intro w5 hown5 hgrow5
             have hbw5 : Below w.heap.size w w5 := Below.grown (Below.refl _ _) hgrow5 (by simp) (by simp)
             have hGl : Keep (RowAt w5 w.heap.size n (fun _ => 0)) := ⟨row_start hown5⟩
             clear hown5 hgrow5))
  go_loopw [14] (fun i wr => ∃ k : Nat, k ≤ n ∧ i = .int .i64 k ∧ Keep (RowAt wr w.heap.size n (fun j => if j < k then ((trn b D j 0 : Nat) : Int) else 0)) ∧ Below w.heap.size w wr ∧ w.heap.size + 1 ≤ wr.heap.size) (fun i _ => n - (intOf i).toNat)
  case atStart =>
    refine ⟨0, by omega, rfl, ⟨by simpa using hGl.out⟩, hbw5, ?_⟩
    have := (hGl.out 0 (by omega)).1
    rcases Nat.lt_or_ge w.heap.size w5.heap.size with h | h
    · omega
    · simp [World.cell?, Array.getElem?_eq_none h] at this
  case round =>
    obtain ⟨k, hk, rfl, hrow, hbw, hsz⟩ := hrel
    by_cases hlt : k < n
    · obtain ⟨⟨X, Y⟩, hm⟩ : ∃ Z, mir b 20 k 0 1 = Z := ⟨_, rfl⟩
      obtain ⟨a, d, q, r1, r2, hd0, hSd, hqa⟩ := mirror_scaled hb1 (show k < b ^ D by rw [hSk.out]; omega) (by omega) hm
      have q74 := fun w => mirror_any hb1 hb2 (show k ≤ 1000000 by omega) hm w
      rw [r1, r2] at q74
      obtain ⟨T, hT⟩ : ∃ T, Keep (trn b D k 0 = T) := ⟨_, ⟨rfl⟩⟩
      have hTle : T ≤ 1000 := by
        rw [← hT.out]
        exact Nat.le_trans (trn_le hb1 (show k < b ^ D by rw [hSk.out]; omega) (by omega)) (by rw [hSk.out]; exact hS2)
      rw [hT.out] at hqa
      rw [hSk.out] at hSd
      have hq1 : q ≤ S := by rw [hSd]; exact Nat.le_mul_of_pos_left _ hd0
      have hdS : d ≤ S := by
        rw [hSd]
        rcases Nat.eq_zero_or_pos q with h | h
        · subst h; rw [Nat.mul_zero] at hSd; omega
        · exact Nat.le_mul_of_pos_right _ h
      have ed : S / d = q := by rw [hSd]; exact Nat.mul_div_cancel_left _ hd0
      have e1 : IntKind.i64.wrap ((S : Int).tdiv (d : Int)) = (q : Int) := by rw [← ed, IntWalk.up_tdiv rfl rfl, IntWalk.i64_in _ (by rw [ed]; omega)]
      have e2 : IntKind.i64.wrap ((q : Int) * (a : Int)) = (T : Int) := by rw [← Int.natCast_mul, hqa, IntWalk.i64_in _ (by omega)]
      have e2' : wrap64 ((q : Int) * (a : Int)) = (T : Int) := by
        rw [show (q : Int) * (a : Int) = (T : Int) by rw [← Int.natCast_mul, hqa]]; unfold wrap64; omega
      have hd1 : ((d : Int) == 0) = false := by rw [beq_eq_false_iff_ne]; omega
      have e3 : (S : Int) / (d : Int) = (q : Int) := by rw [← ed]; rfl
      have hd00 : ¬ d = 0 := by omega
      have hnext : Keep (∀ W : World, RowAt W w.heap.size n (fun j => if j < k then ((trn b D j 0 : Nat) : Int) else 0) → RowAt (W.setCell ⟨w.heap.size, k, none⟩ (.int .i64 T)) w.heap.size n (fun j => if j < k + 1 then ((trn b D j 0 : Nat) : Int) else 0)) :=
        ⟨fun W h => row_set h hlt (by rw [if_pos (by omega), hT.out]) (fun j _ hj => by
          show (if j < k + 1 then _ else _) = if j < k then _ else _
          by_cases h : j < k
          · rw [if_pos h, if_pos (by omega)]
          · rw [if_neg h, if_neg (by omega)])⟩
      unfold fracV at q74
      clear hSd hqa ed r1 r2 hm hGl hbw5
      go_wp2_with (go_at_call 74; (with_reducible refine (q74 _).mono ?_); rintro e w6 ⟨rfl, hb6⟩)
      have hrow6 : RowAt w6 w.heap.size n (fun j => if j < k then ((trn b D j 0 : Nat) : Int) else 0) := row_below hrow.out hb6
      have hbw6 : Below w.heap.size w w6 := hbw.trans (hb6.mono hbw.size)
      have hs6 : w.heap.size + 1 ≤ w6.heap.size := by have := hb6.size; omega
      have z0 : (w6.alloc (.cells #[.int .i64 a, .int .i64 d] 25)).cell? ⟨w6.heap.size, 0, none⟩ = some (.int .i64 a) := by go_simp
      have z1 : (w6.alloc (.cells #[.int .i64 a, .int .i64 d] 25)).cell? ⟨w6.heap.size, 1, none⟩ = some (.int .i64 d) := by go_simp
      have hrow8 := row_below hrow6 ((Below.refl _ _).alloc (Nat.le_refl _) (.cells #[.int .i64 a, .int .i64 d] 25))
      have hbw8 : Keep (Below w.heap.size w (w6.alloc (.cells #[.int .i64 a, .int .i64 d] 25)) ∧ w.heap.size + 1 ≤ (w6.alloc (.cells #[.int .i64 a, .int .i64 d] 25)).heap.size) := ⟨hbw6.alloc hbw6.size _, by simp; omega⟩
      obtain ⟨W8, hW8⟩ : ∃ W8, w6.alloc (.cells #[.int .i64 a, .int .i64 d] 25) = W8 := ⟨_, rfl⟩
      rw [hW8] at z0 z1 hrow8 hbw8 ⊢
      obtain ⟨c1, c2⟩ := hrow8 k hlt
      have hrowk := Keep.mk (hnext.out W8 hrow8)
      clear hW8 hb6 hrow6 hbw6 hrow8 hnext hrow hbw q74
      simp only [Nat.lt_irrefl, if_false] at c1
      go_region_with (fail)
      all_goals go_wp2
      all_goals refine ⟨⟨k + 1, by omega, by go_num, ⟨?_⟩, below_drewN (hbw8.out.1.setCell (p := ⟨w.heap.size, k, none⟩) (Nat.le_refl _) _) 1, ?_⟩, by simp [intOf]; omega⟩
      all_goals first | (rw [e2']; exact fun j hj => hrowk.out j hj) | exact fun j hj => hrowk.out j hj | exact hbw8.out.2 | (have := hbw8.out.2; simpa using this)
    · have : k = n := by omega
      subst this
      go_wp2
      go_ret
      refine ⟨rfl, ?_, hbw⟩
      refine row_ints hrow.out (serL_len _ _ _) (fun j hj => ?_)
      simp only [hj, if_true]
      rw [serL_at hj]
theorem series_nb {b dg n : Int} (h : digB b dg = false) (w : World) :
    Calls Try.prog 40 #[.int .i64 b, .int .i64 dg, .int .i64 n] w fun e w' => e = .returned (.tuple #[.slice none 0 0, .int .i64 2]) ∧ w' = w := by
  have q76 := fun w => sca_no h w
  clear h
  go_enter Try.func40, Try.ntmps40
  go_wp2_with (go_at_call 76; (with_reducible refine (q76 _).mono ?_); rintro e w' ⟨rfl, rfl⟩)
  go_ret2
  exact ⟨rfl, rfl⟩
theorem series_no {b D : Nat} {n : Int} (hb1 : 2 ≤ b) (hb2 : b ≤ 16) (h1 : 1 ≤ D) (h2 : D ≤ 9) (h : 1000 < b ^ D ∨ n < 1 ∨ 60 < n ∨ ((b ^ D : Nat) : Int) < n) (w : World) :
    Calls Try.prog 40 #[.int .i64 b, .int .i64 D, .int .i64 n] w fun e w' => e = .returned (.tuple #[.slice none 0 0, .int .i64 2]) ∧ w' = w := by
  have q76 := fun w => sca_yes hb1 hb2 h1 h2 w
  obtain ⟨S, hS⟩ : ∃ S, b ^ D = S := ⟨_, rfl⟩
  rw [hS] at q76 h
  clear hS
  by_cases hS1 : S ≤ 1000
  · rw [show decide ((S : Int) ≤ 1000) = true from decide_eq_true (by omega)] at q76
    have h' : n < 1 ∨ (1 ≤ n ∧ 60 < n) ∨ (1 ≤ n ∧ n ≤ 60 ∧ (S : Int) < n) := by omega
    clear h
    go_enter Try.func40, Try.ntmps40
    rcases h' with h | ⟨h, h'⟩ | ⟨h, h', h''⟩
    all_goals go_wp2_with (go_at_call 76; (with_reducible refine (q76 _).mono ?_); rintro e w' ⟨rfl, rfl⟩)
    all_goals go_ret2
    all_goals exact ⟨rfl, rfl⟩
  · rw [show decide ((S : Int) ≤ 1000) = false from decide_eq_false (by omega)] at q76
    clear h
    go_enter Try.func40, Try.ntmps40
    go_wp2_with (go_at_call 76; (with_reducible refine (q76 _).mono ?_); rintro e w' ⟨rfl, rfl⟩)
    go_ret2
    exact ⟨rfl, rfl⟩
theorem series_yes {b D n : Nat} (hb1 : 2 ≤ b) (hb2 : b ≤ 16) (h1 : 1 ≤ D) (h2 : D ≤ 9) (hS : b ^ D ≤ 1000) (h3 : 1 ≤ n) (h4 : n ≤ 60) (h5 : n ≤ b ^ D) (w : World) :
    Calls Try.prog 40 #[.int .i64 b, .int .i64 D, .int .i64 n] w fun e w' => ∃ v, e = .returned (.tuple #[v, .int .i64 0]) ∧ IntsAt w' v (serL b D n) ∧ Below w.heap.size w w' := by
  have q76 := fun w => sca_yes hb1 hb2 h1 h2 w
  obtain ⟨S, hSe⟩ : ∃ S, b ^ D = S := ⟨_, rfl⟩
  rw [hSe] at q76 hS h5
  have q77 := fun w => mlist_any hb1 hb2 hSe hS h3 h4 h5 w
  rw [show decide ((S : Int) ≤ 1000) = true from decide_eq_true (by omega)] at q76
  clear hSe
  go_enter Try.func40, Try.ntmps40
  go_wp2_with (first
    | (go_at_call 76; (with_reducible refine (q76 _).mono ?_); rintro e w' ⟨rfl, rfl⟩)
    | (go_at_call 77; (with_reducible refine (q77 _).mono ?_); rintro e w5 ⟨rfl, hi, hb⟩))
  go_ret2
  exact ⟨_, rfl, hi, hb⟩
end Go.Proofs.Ytifbiamfandjnaa
