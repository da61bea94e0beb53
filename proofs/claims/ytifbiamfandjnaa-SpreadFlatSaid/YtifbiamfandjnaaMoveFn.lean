import Derived.Test.YtifbiamfandjnaaTame
import Derived.Test.YtifbiamfandjnaaAddFn
set_option linter.unusedSimpArgs false
set_option linter.unusedVariables false
namespace Go.Proofs.Ytifbiamfandjnaa
open Go Go.Proofs Go.RowKit
def movL (N : Nat) (zs : List Int) (y : Int) : List Int := zs.map fun z => (z + y) % (N : Int)
theorem movL_at {N : Nat} {zs : List Int} {y : Int} {k : Nat} (h : k < zs.length) : (movL N zs y).getD k 0 = (zs.getD k 0 + y) % (N : Int) := by
  unfold movL
  rw [List.getD_eq_getElem?_getD, List.getElem?_map, List.getD_eq_getElem?_getD, List.getElem?_eq_getElem h]; rfl
theorem fwd (y : Int) {N : Nat} (hN : 1 ≤ N) : ∃ F : Nat, y.tmod (N : Int) + (N : Int) = (F : Int) ∧ F < 2 * N ∧ -(N : Int) < y.tmod (N : Int) ∧ y.tmod (N : Int) < N ∧ ∀ q : Nat, (((q + F) % N : Nat) : Int) = ((q : Int) + y) % (N : Int) := by
  have h1 := Int.tmod_lt_of_pos y (show (0 : Int) < N by omega)
  have h2 : -(N : Int) < y.tmod N := by
    rcases Int.lt_or_le y 0 with h | h
    · have h3 := Int.tmod_lt_of_pos (-y) (show (0 : Int) < N by omega)
      rw [Int.neg_tmod] at h3; omega
    · have := Int.tmod_nonneg (N : Int) h; omega
  refine ⟨(y.tmod N + N).toNat, by omega, by omega, h2, h1, fun q => ?_⟩
  have e : (((y.tmod N + N).toNat : Nat) : Int) = y.tmod N + N := by omega
  rw [Int.natCast_emod, Int.natCast_add, e]
  have h3 : y.tmod (N : Int) = y - N * y.tdiv N := by
    have := Int.tmod_add_mul_tdiv y N; omega
  rw [h3, show (q : Int) + (y - N * y.tdiv N + N) = (q + y) + N * (1 - y.tdiv N) by rw [Int.mul_sub, Int.mul_one]; omega, Int.add_mul_emod_self_left]
theorem move_no {N : Int} {v : Value} {zs : List Int} {y : Int} {w : World} (hv : IntsAt w v zs) (hl : zs.length ≤ 100000) (hN : In64 N) (hno : okLine N zs = false) :
    Calls Try.prog 25 #[.int .i64 N, v, .int .i64 y] w fun e w' => e = .returned (.tuple #[.slice none 0 0, .int .i64 2]) ∧ w' = w := by
  go_enter Try.func25, Try.ntmps25
  go_wp2_with (go_at_call 66; refine (isLine_any hv hl hN.1 hN.2).mono ?_; rintro e w5 ⟨rfl, rfl⟩; rw [hno])
  go_ret2
  exact ⟨rfl, rfl⟩
set_option maxHeartbeats 1000000 in
set_option maxRecDepth 100000 in
theorem move_any {N : Nat} {v : Value} {zs : List Int} {y : Int} {w : World} (hv : IntsAt w v zs) (hy : In64 y) (hok : okLine N zs = true) :
    Calls Try.prog 25 #[.int .i64 N, v, .int .i64 y] w fun e w' => ∃ v', e = .returned (.tuple #[v', .int .i64 0]) ∧ IntsAt w' v' (movL N zs y) ∧ Below w.heap.size w w' := by
  obtain ⟨i0, hi, hz0, hz1, hz2⟩ := info_parts info3
  have hok1 := hok
  unfold okLine at hok1
  rw [Bool.and_eq_true, decide_eq_true_iff] at hok1
  obtain ⟨⟨k1, k2, k3, k4⟩, hall⟩ := hok1
  have hN1 : 1 ≤ N := by omega
  have hN2 : N ≤ 1000 := by omega
  have q66 := isLine_any hv (by omega) (show -9223372036854775808 ≤ (N : Int) by omega) (by omega)
  rw [hok] at q66
  obtain ⟨A, cap, rfl, hc⟩ := hv
  obtain ⟨F, hF, hF2, hR1, hR2, hmod⟩ := fwd y hN1
  obtain ⟨R, hR⟩ : ∃ R, Keep (y.tmod (N : Int) = R) := ⟨_, ⟨rfl⟩⟩
  have e1 : IntKind.i64.wrap (y.tmod (N : Int)) = R := by rw [← hR.out]; exact IntWalk.i64_in _ (by omega)
  rw [hR.out] at hF hR1 hR2
  have e2 : IntKind.i64.wrap (R + (N : Int)) = (F : Int) := by rw [hF]; exact IntWalk.i64_in _ (by omega)
  have eA : Keep (wrap64 (y.tmod (N : Int) + (N : Int)) = (F : Int)) := ⟨by rw [hR.out, hF]; unfold wrap64; omega⟩
  have hN0 : ((N : Int) == 0) = false := by rw [beq_eq_false_iff_ne]; omega
  have hNz : ¬ N = 0 := by omega
  obtain ⟨n, hn⟩ : ∃ n, Keep (zs.length = n) := ⟨_, ⟨rfl⟩⟩
  have hck := Keep.mk hc
  have hallk := Keep.mk hall
  have hmk := Keep.mk hmod
  rw [hn.out] at q66 k3 k4 ⊢
  have k3 : 1 ≤ n := k3
  clear hc hall hok hmod hF k1 k2
  go_enter Try.func25, Try.ntmps25
  go_wp2_with (first
    | (go_at_call 66; refine q66.mono ?_; rintro e w1 ⟨rfl, rfl⟩)
    | (at_make; go_loud (
             refine wpList_make_full _ rfl _ _ 22 rfl w1.heap.size 3 i0 (.int .i64 0) 1 ty22 hi hz0 hz1 .i64 .i64 (n : Int) (n : Int) n rfl rfl rfl rfl (by rw [hz2]; omega) (by unfold maxLen; omega) (by simp) ?_
             intro w5 hown5 hgrow5
             have hbw5 : Below w1.heap.size w1 w5 := Below.grown (Below.refl _ _) hgrow5 (by simp) (by simp)
             have hGl : Keep (RowAt w5 w1.heap.size n (fun _ => 0)) := ⟨row_start hown5⟩
             clear hown5 hgrow5)))
  obtain ⟨G, hG⟩ : ∃ G, G = w1.heap.size := ⟨_, rfl⟩
  have hbG : Keep (∀ W, Below G w1 W → Below w1.heap.size w1 W) := ⟨fun W h => by rw [hG] at h; exact h⟩
  have hcb : Keep (∀ W, Below G w1 W → ∀ k, k < n → ∃ g, A = some ⟨g, 0, none⟩ ∧ W.cell? ⟨g, k, none⟩ = some (.int .i64 (zs.getD k 0))) := ⟨fun W h k hk => by
    rw [hG] at h
    obtain ⟨g, hg, hc⟩ := hck.out k (by rw [hn.out]; exact hk)
    exact ⟨g, hg, cell_below hc h⟩⟩
  rw [← hG] at hGl hbw5 ⊢
  clear hG hck q66
  go_loopw [26] (fun i wr => ∃ k : Nat, k ≤ n ∧ i = .int .i64 k ∧ Keep (RowAt wr G n (fun j => if j < k then (movL N zs y).getD j 0 else 0)) ∧ Below G w1 wr) (fun i _ => n - (intOf i).toNat)
  case atStart => exact ⟨0, by omega, rfl, ⟨by simpa using hGl.out⟩, hbw5⟩
  case round =>
    obtain ⟨k, hk, rfl, hrow, hbw⟩ := hrel
    by_cases hlt : k < n
    · obtain ⟨g, rfl, h1⟩ := hcb.out wr hbw k hlt
      have hkl : k < zs.length := by rw [hn.out]; exact hlt
      have hz := List.all_eq_true.1 hallk.out _ (getz hkl)
      simp only [decide_eq_true_eq] at hz
      have hat := movL_at (N := N) (y := y) hkl
      obtain ⟨q, hq⟩ : ∃ q : Nat, zs.getD k 0 = (q : Int) := ⟨(zs.getD k 0).toNat, by omega⟩
      rw [hq] at h1 hz hat
      rw [← hmk.out q] at hat
      obtain ⟨T, hT⟩ : ∃ T, Keep ((q + F) % N = T) := ⟨_, ⟨rfl⟩⟩
      have hTN : T < N := by rw [← hT.out]; exact Nat.mod_lt _ (by omega)
      rw [hT.out] at hat
      have hqN : q < N := by omega
      obtain ⟨d1, d2⟩ := hrow.out k hlt
      simp only [Nat.lt_irrefl, if_false] at d1
      obtain ⟨M, hM⟩ : ∃ M : Nat, Keep (M = q + F) := ⟨_, ⟨rfl⟩⟩
      have hMle : M ≤ 3000 := by have := hM.out; omega
      have e3 : IntKind.i64.wrap ((q : Int) + (F : Int)) = (M : Int) := by rw [hM.out, IntWalk.i64_in _ (by omega)]; push_cast; rfl
      rw [← hM.out] at hT
      have e4 : IntKind.i64.wrap ((M : Int).tmod (N : Int)) = (T : Int) := by rw [← hT.out, IntWalk.up_tmod rfl rfl, IntWalk.i64_in _ (by rw [hT.out]; omega)]
      have e5 : (M : Int) % (N : Int) = (T : Int) := by rw [← hT.out]; rfl
      have e6 : (q : Int) + (F : Int) = (M : Int) := by rw [hM.out]; push_cast; rfl
      have eB : Keep (wrap64 ((q : Int) + (F : Int)) = (M : Int)) := ⟨by rw [e6]; unfold wrap64; omega⟩
      have eC : Keep ((M : Int).tmod (N : Int) = (T : Int)) := ⟨by rw [← hT.out]; exact IntWalk.up_tmod rfl rfl⟩
      have hnext : Keep (RowAt (wr.setCell ⟨G, k, none⟩ (.int .i64 T)) G n (fun j => if j < k + 1 then (movL N zs y).getD j 0 else 0)) :=
        ⟨row_set hrow.out hlt (by simp only [if_pos (show k < k + 1 by omega)]; exact hat) (fun j _ hj => by
          show (if j < k + 1 then _ else _) = if j < k then _ else _
          by_cases h : j < k
          · rw [if_pos h, if_pos (by omega)]
          · rw [if_neg h, if_neg (by omega)])⟩
      clear hz hat hq hrow hGl hbw5
      go_wp2
      refine ⟨⟨k + 1, by omega, by go_num, ?_, hbw.setCell (p := ⟨G, k, none⟩) (Nat.le_refl _) _⟩, by simp [intOf]; omega⟩
      rw [eA.out, eB.out, eC.out]
      exact hnext
    · have : k = n := by omega
      subst this
      go_wp2
      go_ret2
      refine ⟨_, rfl, ?_, hbG.out _ hbw⟩
      refine row_ints hrow.out (by unfold movL; rw [List.length_map, hn.out]) (fun j hj => ?_)
      simp only [hj, if_true]
end Go.Proofs.Ytifbiamfandjnaa
