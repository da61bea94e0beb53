import Derived.Test.YtifbiamfandjnaaMoveFn
import Derived.Test.YtifbiamfandjnaaLawEven
import Derived.Test.YtifbiamfandjnaaLimFacts
import Derived.Test.YtifbiamfandjnaaRefIntv
import Derived.Test.YtifbiamfandjnaaOpenArgs
import Derived.Test.YtifbiamfandjnaaArgInts
set_option linter.unusedSimpArgs false
set_option linter.unusedVariables false
namespace Go.Proofs.Ytifbiamfandjnaa
open Go Go.Proofs Go.RowKit
set_option maxHeartbeats 1000000 in
set_option maxRecDepth 100000 in
theorem refMove_any {N : Nat} {v : Value} {zs : List Int} {y : Int} {w : World} (hv : IntsAt w v zs) (hy : In64 y) (hok : okLine N zs = true) :
    Calls Try.prog 29 #[.int .i64 N, v, .int .i64 y] w fun e w' => ∃ v', e = .returned v' ∧ IntsAt w' v' (movL N zs y) ∧ Below w.heap.size w w' := by
  obtain ⟨i0, hi, hz0, hz1, hz2⟩ := info_parts info3
  have hok1 := hok
  unfold okLine at hok1
  rw [Bool.and_eq_true, decide_eq_true_iff] at hok1
  obtain ⟨⟨k1, k2, k3, k4⟩, hall⟩ := hok1
  have hN1 : 1 ≤ N := by omega
  have hN2 : N ≤ 1000 := by omega
  obtain ⟨A, cap, rfl, hc⟩ := hv
  obtain ⟨F, hF, hF2, hR1, hR2, hmod⟩ := fwd y hN1
  obtain ⟨S, hS⟩ : ∃ S, Keep (F % N = S) := ⟨_, ⟨rfl⟩⟩
  have hSN : S < N := by rw [← hS.out]; exact Nat.mod_lt _ (by omega)
  have hmod2 : Keep (∀ q : Nat, (((q + S) % N : Nat) : Int) = ((q : Int) + y) % (N : Int)) := ⟨fun q => by rw [← hmod q, ← hS.out, Nat.add_mod_mod]⟩
  obtain ⟨R, hR⟩ : ∃ R, Keep (y.tmod (N : Int) = R) := ⟨_, ⟨rfl⟩⟩
  rw [hR.out] at hF hR1 hR2
  have eA : Keep (wrap64 (y.tmod (N : Int) + (N : Int)) = (F : Int)) := ⟨by rw [hR.out, hF]; unfold wrap64; omega⟩
  have eS : Keep ((F : Int).tmod (N : Int) = (S : Int)) := ⟨by rw [← hS.out]; exact IntWalk.up_tmod rfl rfl⟩
  have hN0 : ((N : Int) == 0) = false := by rw [beq_eq_false_iff_ne]; omega
  have hNz : ¬ N = 0 := by omega
  obtain ⟨n, hn⟩ : ∃ n, Keep (zs.length = n) := ⟨_, ⟨rfl⟩⟩
  have hck := Keep.mk hc
  have hallk := Keep.mk hall
  rw [hn.out] at k3 k4 ⊢
  have k3 : 1 ≤ n := k3
  clear hc hall hok hmod hF k1 k2
  go_enter Try.func29, Try.ntmps29
  go_wp2
  rw [eA.out, eS.out]
  go_loopw [8, 9] (fun v i wr => ∃ k : Nat, k ≤ n ∧ i = .int .i64 k ∧ wr.ownsRow w.heap.size 3 1 v k (((movL N zs y).take k).map vz) ∧ Below w.heap.size w wr) (fun _ i _ => n - (intOf i).toNat)
  case atStart => exact ⟨0, by omega, rfl, World.ownsRow_nil _ _ _ _, Below.refl _ _⟩
  case round =>
    obtain ⟨k, hk, rfl, hown, hbw⟩ := hrel
    have hbz : w.heap.size ≤ wr.heap.size := hbw.size
    have hml : (movL N zs y).length = n := by unfold movL; rw [List.length_map, hn.out]
    by_cases hlt : k < n
    · have hkl : k < zs.length := by rw [hn.out]; exact hlt
      obtain ⟨g, rfl, h1⟩ := hck.out k hkl
      have h1 := cell_below h1 hbw
      have hz := List.all_eq_true.1 hallk.out _ (getz hkl)
      simp only [decide_eq_true_eq] at hz
      have hat := movL_at (N := N) (y := y) hkl
      obtain ⟨q, hq⟩ : ∃ q : Nat, zs.getD k 0 = (q : Int) := ⟨(zs.getD k 0).toNat, by omega⟩
      rw [hq] at h1 hz hat
      rw [← hmod2.out q] at hat
      obtain ⟨T, hT⟩ : ∃ T, Keep ((q + S) % N = T) := ⟨_, ⟨rfl⟩⟩
      have hTN : T < N := by rw [← hT.out]; exact Nat.mod_lt _ (by omega)
      rw [hT.out] at hat
      have hqN : q < N := by omega
      have htk : Keep ((movL N zs y).take (k + 1) = (movL N zs y).take k ++ [(T : Int)]) := ⟨by rw [takez (by rw [hml]; exact hlt), hat]⟩
      obtain ⟨M, hM⟩ : ∃ M : Nat, Keep (M = q + S) := ⟨_, ⟨rfl⟩⟩
      have hMle : M ≤ 3000 := by have := hM.out; omega
      have e3 : IntKind.i64.wrap ((q : Int) + (S : Int)) = (M : Int) := by rw [hM.out, IntWalk.i64_in _ (by omega)]; push_cast; rfl
      rw [← hM.out] at hT
      have e4 : IntKind.i64.wrap ((M : Int).tmod (N : Int)) = (T : Int) := by rw [← hT.out, IntWalk.up_tmod rfl rfl, IntWalk.i64_in _ (by rw [hT.out]; omega)]
      have e5 : (M : Int) % (N : Int) = (T : Int) := by rw [← hT.out]; rfl
      have e6 : (q : Int) + (S : Int) = (M : Int) := by rw [hM.out]; push_cast; rfl
      have e7 : (M : Int).tmod (N : Int) = (T : Int) := by rw [← hT.out]; exact IntWalk.up_tmod rfl rfl
      clear hz hat hq
      go_wp2_with (at_builtin; go_loud (
         refine wpList_append_own _ rfl _ _ 22 rfl w.heap.size 3 i0 (.int .i64 0) 1 8 ty22 hi hz0 hz1 hz2 rfl (by decide) _ _ _ rfl (hown.alloc _) ⟨wr.heap.size, 0, none⟩ 1 1 [.int .i64 T] rfl rfl (cell_one_new _ _ _) (fun x hx => by simp at hx; subst hx; rfl) (by unfold maxLen; omega) (by omega) (by simp; try omega) ?_
         intro v' w3 hown' hgrow3 hnil3
         have hbw3 : Below w.heap.size w w3 := Below.grown (hbw.alloc hbz _) hgrow3 (by simp; omega) (fun j hj => by have := (hown.lt _ hj).1; omega)
         have X : Keep (w3.ownsRow w.heap.size 3 1 v' (k + 1) (((movL N zs y).take k).map vz ++ [.int .i64 T]) ∧ Below w.heap.size w w3) := ⟨⟨hown', hbw3⟩⟩
         clear hown' hgrow3 hnil3 hbw3))
      obtain ⟨x1, x2⟩ := X.out
      refine ⟨⟨k + 1, by omega, by go_num, ?_, x2⟩, by simp [intOf]; omega⟩
      rw [htk.out, List.map_append]
      exact x1
    · have : k = n := by omega
      subst this
      go_wp2
      go_ret
      refine ⟨_, rfl, ?_, hbw⟩
      rw [List.take_of_length_le (by omega)] at hown
      have h2 := hown
      rw [← hml] at h2
      exact own_cellz h2
end Go.Proofs.Ytifbiamfandjnaa
set_option linter.unusedSimpArgs false
set_option linter.unusedVariables false
namespace Go.Proofs.Ytifbiamfandjnaa
open Go Go.Proofs Go.RowKit Gap
theorem memN_dec (zs : List Int) (x : Nat) : zs.contains (x : Int) = true ↔ memN zs x := by unfold memN; simp
theorem found_list {N : Nat} {zs : List Int} {f : Nat → Bool} (hf : ∀ d, f d = true ↔ isGap N (memN zs) d) : GapsOf N zs (((List.range (N + 1)).filter f).map fun d : Nat => (d : Int)) := by
  refine ⟨?_, fun z => ?_⟩
  · rw [List.pairwise_map]
    exact (List.Pairwise.filter _ List.pairwise_lt_range).imp fun h => by omega
  · rw [List.mem_map]
    constructor
    · rintro ⟨d, hd, rfl⟩
      rw [List.mem_filter] at hd
      exact ⟨d, rfl, (hf d).1 hd.2⟩
    · rintro ⟨d, rfl, hd⟩
      refine ⟨d, ?_, rfl⟩
      rw [List.mem_filter, List.mem_range]
      have hd' := hd
      obtain ⟨x, hx, _, h1, h2, _⟩ := hd
      exact ⟨by omega, (hf d).2 hd'⟩
theorem bools_mono {w w' : World} {G N B : Nat} {f : Nat → Bool} (h : BoolsAt w G N f) (b : Below B w w') (hG : G < B) : BoolsAt w' G N f := by
  intro j hj
  obtain ⟨h1, h2⟩ := h j hj
  exact ⟨(b.cell (p := ⟨G, j, none⟩) hG).trans h1, (b.frozen (p := ⟨G, j, none⟩) hG).trans h2⟩
def lstF (f : Nat → Bool) (d : Nat) : List Int := ((List.range d).filter f).map fun d : Nat => (d : Int)
theorem lstF_hit {f : Nat → Bool} {d : Nat} (h : f d = true) : lstF f (d + 1) = lstF f d ++ [(d : Int)] := by
  unfold lstF; rw [List.range_succ, List.filter_append]; simp [h]
theorem lstF_miss {f : Nat → Bool} {d : Nat} (h : f d = false) : lstF f (d + 1) = lstF f d := by
  unfold lstF; rw [List.range_succ, List.filter_append]; simp [h]
theorem lstF_len (f : Nat → Bool) (d : Nat) : (lstF f d).length ≤ d := by
  unfold lstF; rw [List.length_map]; exact Nat.le_trans (List.length_filter_le _ _) (by simp)
theorem found_same {N x : Nat} {zs : List Int} {f : Nat → Bool} (hx : ¬ memN zs x) (h : ∀ d, f d = true ↔ ∃ y, y < x ∧ memN zs y ∧ gapAt N (memN zs) y d) (d : Nat) : f d = true ↔ ∃ y, y < x + 1 ∧ memN zs y ∧ gapAt N (memN zs) y d := by
  rw [h d]
  constructor
  · rintro ⟨y, h1, h2, h3⟩; exact ⟨y, by omega, h2, h3⟩
  · rintro ⟨y, h1, h2, h3⟩
    by_cases e : y = x
    · rw [e] at h2; exact absurd h2 hx
    · exact ⟨y, by omega, h2, h3⟩
theorem found_more {N x D : Nat} {zs : List Int} {f : Nat → Bool} (hx : memN zs x) (hD : gapAt N (memN zs) x D) (h : ∀ d, f d = true ↔ ∃ y, y < x ∧ memN zs y ∧ gapAt N (memN zs) y d) (d : Nat) : (if d = D then true else f d) = true ↔ ∃ y, y < x + 1 ∧ memN zs y ∧ gapAt N (memN zs) y d := by
  by_cases e : d = D
  · rw [if_pos e, e]
    exact ⟨fun _ => ⟨x, by omega, hx, hD⟩, fun _ => rfl⟩
  · rw [if_neg e, h d]
    constructor
    · rintro ⟨y, h1, h2, h3⟩; exact ⟨y, by omega, h2, h3⟩
    · rintro ⟨y, h1, h2, h3⟩
      by_cases e2 : y = x
      · rw [e2] at h3; exact absurd (gapAt_unique h3 hD) e
      · exact ⟨y, by omega, h2, h3⟩
set_option maxHeartbeats 4000000 in
set_option maxRecDepth 100000 in
theorem refGaps_any {N : Nat} {v : Value} {zs : List Int} {w : World} (hv : IntsAt w v zs) (hok : okLine N zs = true) :
    Calls Try.prog 28 #[.int .i64 N, v] w fun e w' => ∃ v' L, e = .returned v' ∧ GapsOf N zs L ∧ L.length ≤ 2000 ∧ IntsAt w' v' L ∧ Below w.heap.size w w' := by
  obtain ⟨i0, hi, hz0, hz1, hz2⟩ := info_parts info4
  obtain ⟨j0, hj, hy0, hy1, hy2⟩ := info_parts info3
  have hok1 := hok
  unfold okLine at hok1
  rw [Bool.and_eq_true, decide_eq_true_iff] at hok1
  obtain ⟨⟨k1, k2, k3, k4⟩, hall⟩ := hok1
  have hN1 : 1 ≤ N := by omega
  have hN2 : N ≤ 1000 := by omega
  obtain ⟨A, cap, rfl, hc⟩ := hv
  obtain ⟨n, hn⟩ : ∃ n, Keep (zs.length = n) := ⟨_, ⟨rfl⟩⟩
  have hck : Keep (∀ k, k < n → ∃ g, A = some ⟨g, 0, none⟩ ∧ w.cell? ⟨g, k, none⟩ = some (.int .i64 (zs.getD k 0))) := ⟨fun k hk => hc k (by rw [hn.out]; exact hk)⟩
  have hin : Keep (∀ k, k < n → 0 ≤ zs.getD k 0 ∧ zs.getD k 0 < (N : Int)) := ⟨fun k hk => by
    have := List.all_eq_true.1 hall _ (getz (zs := zs) (k := k) (by rw [hn.out]; exact hk))
    simpa using this⟩
  rw [hn.out] at k4 ⊢
  have hN0 : ((N : Int) == 0) = false := by rw [beq_eq_false_iff_ne]; omega
  have hNz : ¬ N = 0 := by omega
  clear hc hall hok k1 k2 k3
  go_enter Try.func28, Try.ntmps28
  go_wp2_with (at_make; go_loud (
         refine wpList_make_full _ rfl _ _ 78 rfl w.heap.size 4 i0 (.bool false) 1 ty78 hi hz0 hz1 .i64 .i64 (N : Int) (N : Int) N rfl rfl rfl rfl (by rw [hz2]; omega) (by unfold maxLen; omega) (by simp) ?_
         intro w5 hown5 hgrow5
         have hbw5 : Below w.heap.size w w5 := Below.grown (Below.refl _ _) hgrow5 (by simp) (by simp)
         have hG1 : Keep (BoolsAt w5 w.heap.size N (fun _ => false)) := ⟨bools_start hown5⟩
         clear hown5 hgrow5))
  obtain ⟨G, hG⟩ : ∃ G, G = w.heap.size := ⟨_, rfl⟩
  have hck2 : Keep (∀ W, Below G w W → ∀ k, k < n → ∃ g, A = some ⟨g, 0, none⟩ ∧ W.cell? ⟨g, k, none⟩ = some (.int .i64 (zs.getD k 0))) := ⟨fun W h k hk => by
    rw [hG] at h
    obtain ⟨g, hg, hc⟩ := hck.out k hk
    exact ⟨g, hg, cell_below hc h⟩⟩
  have hGk := Keep.mk hG
  rw [← hG] at hG1 hbw5 ⊢
  clear hG hck
  go_loopw [6] (fun i wr => ∃ k : Nat, k ≤ n ∧ i = .int .i64 k ∧ Keep (BoolsAt wr G N (fun x => (zs.take k).contains (x : Int))) ∧ Below G w wr) (fun i _ => n - (intOf i).toNat)
  case atStart => exact ⟨0, by omega, rfl, ⟨by simpa using hG1.out⟩, hbw5⟩
  case round =>
    obtain ⟨k, hk, rfl, hrow, hbw⟩ := hrel
    by_cases hlt : k < n
    · obtain ⟨g, rfl, h1⟩ := hck2.out wr hbw k hlt
      have hz := hin.out k hlt
      have htk := Keep.mk (takez (zs := zs) (k := k) (by rw [hn.out]; exact hlt))
      obtain ⟨q, hq⟩ : ∃ q : Nat, zs.getD k 0 = (q : Int) := ⟨(zs.getD k 0).toNat, by omega⟩
      rw [hq] at h1 hz htk
      have hqN : q < N := by omega
      obtain ⟨b, hb⟩ : ∃ b, (zs.take k).contains (q : Int) = b := ⟨_, rfl⟩
      obtain ⟨d1, d2⟩ := hrow.out q hqN
      simp only [hb] at d1
      have hnext : Keep (BoolsAt (wr.setCell ⟨G, q, none⟩ (.bool true)) G N (fun x => (zs.take (k + 1)).contains (x : Int))) :=
        ⟨bools_set hrow.out hqN (by rw [htk.out]; simp) (fun j _ hj => by
          rw [htk.out]
          have : ¬ (j : Int) = (q : Int) := by omega
          simp [this])⟩
      clear hq hz hb hrow hG1 htk hbw5
      go_wp2
      exact ⟨⟨k + 1, by omega, by go_num, hnext, hbw.setCell (p := ⟨G, q, none⟩) (Nat.le_refl _) _⟩, by simp [intOf]; omega⟩
    · have hkn : k = n := by omega
      rw [hkn] at hrow ⊢
      rw [List.take_of_length_le (by rw [hn.out]; exact Nat.le_refl _)] at hrow
      obtain ⟨W2, hW2⟩ : ∃ W2, wr = W2 := ⟨_, rfl⟩
      rw [hW2] at hrow hbw ⊢
      clear hW2 hG1 hbw5 hck2 hin
      have hs2 : G < W2.heap.size := by
        rcases Nat.lt_or_ge G W2.heap.size with h' | h'
        · exact h'
        · have := (hrow.out 0 (by omega)).1; simp [World.cell?, Array.getElem?_eq_none h'] at this
      go_wp2_with (at_make; go_loud (
         refine wpList_make_full _ rfl _ _ 78 rfl W2.heap.size 4 i0 (.bool false) 1 ty78 hi hz0 hz1 .i64 .i64 ((N : Int) + 1) ((N : Int) + 1) (N + 1) rfl rfl (by go_num) (by go_num) (by rw [hz2]; omega) (by unfold maxLen; omega) (by simp) ?_
         intro w6 hown6 hgrow6
         have hbw6 : Below W2.heap.size W2 w6 := Below.grown (Below.refl _ _) hgrow6 (by simp) (by simp)
         have hG2 : Keep (BoolsAt w6 W2.heap.size (N + 1) (fun _ => false)) := ⟨bools_start (by simpa using hown6)⟩
         clear hown6 hgrow6))
      obtain ⟨G2, hG2e⟩ : ∃ G2, G2 = W2.heap.size := ⟨_, rfl⟩
      rw [← hG2e] at hG2 hbw6 hs2 ⊢
      have hT2 : Keep (∀ W, Below G2 W2 W → BoolsAt W G N (fun x => zs.contains (x : Int))) := ⟨fun W h => bools_mono hrow.out h hs2⟩
      have hbk := Keep.mk hbw
      have hG2k := Keep.mk hG2e
      clear hrow hbw hlt hk hkn hG2e
      go_loopw [8] (fun i wr => ∃ (x : Nat) (f : Nat → Bool), x ≤ N ∧ i = .int .i64 x ∧ Keep (BoolsAt wr G2 (N + 1) f) ∧ Keep (∀ d, f d = true ↔ ∃ y, y < x ∧ memN zs y ∧ gapAt N (memN zs) y d) ∧ Below G2 W2 wr) (fun i _ => N - (intOf i).toNat)
      case atStart => exact ⟨0, fun _ => false, by omega, rfl, hG2, ⟨fun d => ⟨fun h => by simp at h, fun ⟨y, hy, _⟩ => by omega⟩⟩, hbw6⟩
      case round =>
        obtain ⟨x, f, hx, rfl, hfnd, hff, hbw⟩ := hrel
        by_cases hltx : x < N
        · obtain ⟨W3, hW3⟩ : ∃ W3, W3 = wr := ⟨_, rfl⟩
          subst hW3
          have hT := Keep.mk (hT2.out _ hbw)
          have hbwk := Keep.mk hbw
          clear hbw hG2 hbw6
          go_wp2
          go_loopw [9] (fun i wr => ∃ d : Nat, 1 ≤ d ∧ d ≤ N ∧ i = .int .i64 d ∧ Keep (∀ e, 1 ≤ e → e < d → zs.contains (((x + e) % N : Nat) : Int) = false) ∧ wr = W3) (fun i _ => N - (intOf i).toNat)
          case atStart => exact ⟨1, by omega, hN1, rfl, ⟨fun e h1 h2 => by omega⟩, rfl⟩
          case round =>
            obtain ⟨d, hd1, hdN, rfl, hnone, hwr⟩ := hrel
            subst hwr
            obtain ⟨M, hM⟩ : ∃ M : Nat, Keep (M = x + d) := ⟨_, ⟨rfl⟩⟩
            obtain ⟨T, hTe⟩ : ∃ T, Keep (M % N = T) := ⟨_, ⟨rfl⟩⟩
            have hTN : T < N := by rw [← hTe.out]; exact Nat.mod_lt _ (by omega)
            have hMle : M ≤ 2000 := by have := hM.out; omega
            have e3 : IntKind.i64.wrap ((x : Int) + (d : Int)) = (M : Int) := by rw [hM.out, IntWalk.i64_in _ (by omega)]; push_cast; rfl
            have e4 : IntKind.i64.wrap ((M : Int).tmod (N : Int)) = (T : Int) := by rw [← hTe.out, IntWalk.up_tmod rfl rfl, IntWalk.i64_in _ (by rw [hTe.out]; omega)]
            have e5 : (M : Int) % (N : Int) = (T : Int) := by rw [← hTe.out]; rfl
            have e6 : (x : Int) + (d : Int) = (M : Int) := by rw [hM.out]; push_cast; rfl
            have e7 : (M : Int).tmod (N : Int) = (T : Int) := by rw [← hTe.out]; exact IntWalk.up_tmod rfl rfl
            obtain ⟨b1, b2⟩ := hT.out T hTN
            obtain ⟨c1, c2⟩ := hT.out x hltx
            obtain ⟨q1, q2⟩ := hfnd.out d (by omega)
            obtain ⟨fd, hfd⟩ : ∃ b, f d = b := ⟨_, rfl⟩
            rw [hfd] at q1
            cases hbT : zs.contains (T : Int) with
            | true =>
              simp only [hbT] at b1
              cases hbx : zs.contains (x : Int) with
              | true =>
                simp only [hbx] at c1
                have hga : gapAt N (memN zs) x d := ⟨hd1, hdN, by rw [← hM.out, hTe.out]; exact (memN_dec zs T).1 hbT, fun e h1 h2 hm => by
                  have := hnone.out e h1 h2
                  rw [(memN_dec zs _).2 hm] at this; cases this⟩
                have hnew := Keep.mk (found_more ((memN_dec zs x).1 hbx) hga hff.out)
                have hset : Keep (BoolsAt (wr.setCell ⟨G2, d, none⟩ (.bool true)) G2 (N + 1) (fun e => if e = d then true else f e)) := ⟨bools_set hfnd.out (by omega) (by simp) (fun j _ hj => by simp only [if_neg hj])⟩
                clear hga hfd hnone
                go_wp2
                exact ⟨⟨x + 1, _, by omega, by go_num, hset, hnew, hbwk.out.setCell (p := ⟨G2, d, none⟩) (Nat.le_refl _) _⟩, by simp [intOf]; omega⟩
              | false =>
                simp only [hbx] at c1
                have hnew := Keep.mk (found_same (fun hm => by rw [(memN_dec zs x).2 hm] at hbx; cases hbx) hff.out)
                clear hfd hnone
                go_wp2
                exact ⟨⟨x + 1, f, by omega, by go_num, hfnd, hnew, hbwk.out⟩, by simp [intOf]; omega⟩
            | false =>
              simp only [hbT] at b1
              by_cases hdl : d < N
              · have hnone2 : Keep (∀ e, 1 ≤ e → e < d + 1 → zs.contains (((x + e) % N : Nat) : Int) = false) := ⟨fun e h1 h2 => by
                  by_cases h3 : e = d
                  · rw [h3, ← hM.out, hTe.out]; exact hbT
                  · exact hnone.out e h1 (by omega)⟩
                clear hfd
                go_wp2
                exact ⟨⟨d + 1, by omega, by omega, by go_num, hnone2, by first | trivial | rfl⟩, by simp [intOf]; omega⟩
              · have hdN : d = N := by omega
                have hTx : T = x := by rw [← hTe.out, hM.out, hdN, Nat.add_mod_right, Nat.mod_eq_of_lt hltx]
                have hbx : zs.contains (x : Int) = false := by rw [← hTx]; exact hbT
                simp only [hbx] at c1
                have hnew := Keep.mk (found_same (fun hm => by rw [(memN_dec zs x).2 hm] at hbx; cases hbx) hff.out)
                have hdl' : ¬ (d : Int) < (N : Int) := by omega
                clear hfd hnone hTx hdN
                go_wp2
                exact ⟨⟨x + 1, f, by omega, by go_num, hfnd, hnew, hbwk.out⟩, by simp [intOf]; omega⟩
        · have hxN : x = N := by omega
          rw [hxN] at hff ⊢
          obtain ⟨W3, hW3⟩ : ∃ W3, wr = W3 := ⟨_, rfl⟩
          rw [hW3] at hfnd hbw ⊢
          have hgap : Keep (∀ d, f d = true ↔ isGap N (memN zs) d) := ⟨fun d => (hff.out d).trans ⟨fun ⟨y, a1, a2, a3⟩ => ⟨y, a1, a2, a3⟩, fun ⟨y, a1, a2, a3⟩ => ⟨y, a1, a2, a3⟩⟩⟩
          have hf0 : f 0 = false := by
            cases h : f 0 with
            | false => rfl
            | true => obtain ⟨y, _, _, h1, _⟩ := (hgap.out 0).1 h; omega
          have hall : Keep (Below w.heap.size w W3) := ⟨by
            have h1 := hbk.out.trans (hbw.mono (by omega))
            rw [hGk.out] at h1; exact h1⟩
          have hsW3 : G2 < W3.heap.size := by
            rcases Nat.lt_or_ge G2 W3.heap.size with h' | h'
            · exact h'
            · have := (hfnd.out 0 (by omega)).1; simp [World.cell?, Array.getElem?_eq_none h'] at this
          have hF : Keep (∀ W, Below W3.heap.size W3 W → ∀ d, d ≤ N → W.cell? ⟨G2, d, none⟩ = some (.bool (f d))) := ⟨fun W h d hd => (h.cell (p := ⟨G2, d, none⟩) hsW3).trans (hfnd.out d (by omega)).1⟩
          have hl1 : lstF f 1 = [] := by simp [lstF, hf0]
          clear hW3 hff hfnd hbw hG2 hbw6 hltx hx hxN hT2 hbk
          go_wp2
          go_loopw [10, 11] (fun u i wr => ∃ d : Nat, 1 ≤ d ∧ d ≤ N + 1 ∧ i = .int .i64 d ∧ wr.ownsRow W3.heap.size 3 1 u (lstF f d).length ((lstF f d).map vz) ∧ Below W3.heap.size W3 wr) (fun _ i _ => N + 1 - (intOf i).toNat)
          case atStart => exact ⟨1, by omega, by omega, rfl, by rw [hl1]; exact World.ownsRow_nil _ _ _ _, Below.refl _ _⟩
          case round =>
            obtain ⟨d, hd1, hdN, rfl, hown, hbw⟩ := hrel
            have hbz : W3.heap.size ≤ wr.heap.size := hbw.size
            have hll := lstF_len f d
            by_cases hlt : d ≤ N
            · have hcd := hF.out wr hbw d hlt
              cases hfd : f d with
              | true =>
                rw [hfd] at hcd
                have hpush := Keep.mk (lstF_hit hfd)
                obtain ⟨l, hl⟩ : ∃ l, lstF f d = l := ⟨_, rfl⟩
                rw [hl] at hown hpush hll
                clear hl hfd
                go_wp2_with (at_builtin; go_loud (
                   refine wpList_append_own _ rfl _ _ 22 rfl W3.heap.size 3 j0 (.int .i64 0) 1 8 ty22 hj hy0 hy1 hy2 rfl (by decide) _ _ _ rfl (hown.alloc _) ⟨wr.heap.size, 0, none⟩ 1 1 [.int .i64 d] rfl rfl (cell_one_new _ _ _) (fun x hx => by simp at hx; subst hx; rfl) (by unfold maxLen; omega) (by omega) (by simp; try omega) ?_
                   intro v' w3 hown' hgrow3 hnil3
                   have hbw3 : Below W3.heap.size W3 w3 := Below.grown (hbw.alloc hbz _) hgrow3 (by simp; omega) (fun j hj => by have := (hown.lt _ hj).1; omega)
                   have X : Keep (w3.ownsRow W3.heap.size 3 1 v' (l.length + 1) (l.map vz ++ [.int .i64 d]) ∧ Below W3.heap.size W3 w3) := ⟨⟨hown', hbw3⟩⟩
                   clear hown' hgrow3 hnil3 hbw3))
                obtain ⟨x1, x2⟩ := X.out
                refine ⟨⟨d + 1, by omega, by omega, by go_num, ?_, x2⟩, by simp [intOf]; omega⟩
                rw [hpush.out, List.length_append, List.map_append]
                exact x1
              | false =>
                rw [hfd] at hcd
                have hsame := Keep.mk (lstF_miss hfd)
                clear hfd
                go_wp2
                exact ⟨⟨d + 1, by omega, by omega, by go_num, by rw [hsame.out]; exact hown, hbw⟩, by simp [intOf]; omega⟩
            · have hdN1 : d = N + 1 := by omega
              go_wp2
              go_ret
              refine ⟨_, lstF f d, rfl, ?_, by omega, own_cellz hown, hall.out.trans (hbw.mono hall.out.size)⟩
              rw [hdN1]
              exact found_list hgap.out
end Go.Proofs.Ytifbiamfandjnaa
set_option linter.unusedSimpArgs false
set_option linter.unusedVariables false
namespace Go.Proofs.Ytifbiamfandjnaa
open Go Go.Proofs Go.RowKit Gap
theorem eq39 (a b c d : Int) (w : World) : (Op.equalIn 10000 39 (.agg #[.int .i64 a, .int .i64 b]) (.agg #[.int .i64 c, .int .i64 d])).run Try.prog w = .ok (a == c && b == d) w := by
  have u3 := Try.underlying3
  have a3 := Try.isAgg3
  have z3 := Try.sizeOf3
  rw [show (10000 : Nat) = 9999 + 1 from rfl, Op.equalIn]
  simp only [Sem.run_bind, run_underlying Try.underlying39, Result.andThen_ok]
  simp only [Std.Legacy.Range.forIn_eq_forIn_range', Std.Legacy.Range.size, Nat.sub_zero, Nat.add_sub_cancel, Nat.div_one, List.range'_succ, List.range'_zero, List.forIn_cons, List.forIn_nil]
  go_simp
  by_cases h1 : a = c <;> by_cases h2 : b = d <;> simp [h1, h2]
theorem eqF39 (a b : Int) (w : World) : (Op.equalIn 10000 39 (.agg #[.int .i64 a, .int .i64 b]) (.agg #[.int .i64 a, .int .i64 b])).run Try.prog w = .ok true w := by
  rw [eq39]; simp
set_option maxHeartbeats 2000000 in
set_option maxRecDepth 100000 in
theorem intervals_no {N y : Int} {v : Value} {zs : List Int} {w : World} (hq : Calls Try.prog 15 #[v] w fun e w' => ∃ v', e = .returned v' ∧ IntsAt w' v' zs ∧ Below w.heap.size w w') (hl : zs.length ≤ 61) (hN : In64 N) (hno : okLine N zs = false) :
    Calls Try.prog 4 #[.int .i64 N, v, .int .i64 y] w fun e w' => e = .returned (.bool true) ∧ Below w.heap.size w w' := by
  obtain ⟨n, hn⟩ : ∃ n, Keep (zs.length = n) := ⟨_, ⟨rfl⟩⟩
  have q23 := fun (w : World) (v : Value) (h : IntsAt w v zs) => intv_no h (by omega) hN hno
  have q24 := fun (w : World) (v : Value) (h : IntsAt w v zs) => gaps_no h (by omega) hN hno
  have q25 := fun (w : World) (v : Value) (h : IntsAt w v zs) => move_no (y := y) h (by omega) hN hno
  have q18 := fun (w : World) (v : Value) (h : IntsAt w v zs) => points_any (N := N) h (by omega)
  rw [hno] at q18
  clear hno hN hl
  have e0 := eqF 0 0
  have e1 := eqF39 0 0
  unfold fracV at *
  go_enter Try.func4, Try.ntmps4
  all_goals go_wp2_with (first
    | (go_at_call 15; (with_reducible refine hq.mono ?_); rintro e w1 ⟨v', rfl, hi1, hb1⟩
       have hi1k := hi1
       obtain ⟨A, cap, hv, _⟩ := hi1
       rw [hn.out] at hv
       subst hv
       clear hq)
    | (go_at_call 23; (with_reducible refine (q23 _ _ hi1k).mono ?_); rintro e w2 ⟨rfl, hb2⟩
       have hi2 := ints_below (ints_below hi1k hb2) (((Below.refl _ _).alloc (Nat.le_refl _) (.cells #[.int .i64 0, .int .i64 0] 25)).alloc (by simp) (.cells #[.int .i64 0, .int .i64 0] 39))
       have hbw2 : Below w.heap.size w ((w2.alloc (.cells #[.int .i64 0, .int .i64 0] 25)).alloc (.cells #[.int .i64 0, .int .i64 0] 39)) := ((hb1.trans (hb2.mono hb1.size)).alloc (Nat.le_trans hb1.size hb2.size) _).alloc (by have := Nat.le_trans hb1.size hb2.size; simp; omega) _
       clear hb2 q23 hi1k hb1)
    | (go_at_call 24; (with_reducible refine (q24 _ _ hi2).mono ?_); rintro e w3 ⟨rfl, rfl⟩; clear q24)
    | (go_at_call 25; (with_reducible refine (q25 _ _ hi2).mono ?_); rintro e w3 ⟨rfl, rfl⟩; clear q25)
    | (go_at_call 18; (with_reducible refine (q18 _ _ hi2).mono ?_); rintro e w' ⟨rfl, rfl⟩; clear q18)
    | (go_at_call 19; refine (awake_any _).mono ?_; rintro e w9 ⟨rfl, hb9⟩))
  all_goals go_ret
  all_goals exact ⟨rfl, hbw2.trans (hb9.mono hbw2.size)⟩
set_option maxHeartbeats 4000000 in
set_option maxRecDepth 100000 in
theorem intervals_yes {N : Nat} {y : Int} {v : Value} {zs : List Int} {w : World} (hq : Calls Try.prog 15 #[v] w fun e w' => ∃ v', e = .returned v' ∧ IntsAt w' v' zs ∧ Below w.heap.size w w') (hl : zs.length ≤ 61) (hy : In64 y) (hok : okLine N zs = true) :
    Calls Try.prog 4 #[.int .i64 (N : Int), v, .int .i64 y] w fun e w' => e = .returned (.bool true) ∧ Below w.heap.size w w' := by
  obtain ⟨n, hn⟩ : ∃ n, Keep (zs.length = n) := ⟨_, ⟨rfl⟩⟩
  have hok1 := hok
  unfold okLine at hok1
  rw [Bool.and_eq_true, decide_eq_true_iff] at hok1
  obtain ⟨⟨k1, k2, k3, k4⟩, _⟩ := hok1
  obtain ⟨D, s, t, hp⟩ := pair_exists (by omega : 1 ≤ N) (exc_zero hok)
  have q23 := fun (w : World) (v : Value) (h : IntsAt w v zs) => intv_fix h hok hp
  have q26 : ∀ (w : World) (v : Value), IntsAt w v zs → Calls Try.prog 26 #[.int .i64 N, v] w fun e w' => e = .returned (.tuple #[fracV (redN (D : Int) ((zs.length : Int) * N)) (redD (D : Int) ((zs.length : Int) * N)), .agg #[.int .i64 s, .int .i64 t]]) ∧ Below w.heap.size w w' := fun w v h => by
    refine (refIntv_any h hok).mono ?_
    rintro e w' ⟨D', s', t', rfl, h', hb⟩
    obtain ⟨rfl, rfl, rfl⟩ := pair_unique h' hp
    exact ⟨rfl, hb⟩
  have q24 := fun (w : World) (v : Value) (h : IntsAt w v zs) => gaps_any h hok
  have q28 := fun (w : World) (v : Value) (h : IntsAt w v zs) => refGaps_any h hok
  have q25 := fun (w : World) (v : Value) (h : IntsAt w v zs) => move_any (y := y) h hy hok
  have q29 := fun (w : World) (v : Value) (h : IntsAt w v zs) => refMove_any (y := y) h hy hok
  have q18 := fun (w : World) (v : Value) (h : IntsAt w v zs) => points_any (N := (N : Int)) h (by omega)
  rw [hok] at q18
  obtain ⟨px, hpx⟩ : ∃ x, redN (D : Int) ((zs.length : Int) * N) = x := ⟨_, rfl⟩
  obtain ⟨py, hpy⟩ : ∃ x, redD (D : Int) ((zs.length : Int) * N) = x := ⟨_, rfl⟩
  rw [hpx, hpy] at q23 q26
  have hml : Keep ((movL N zs y).length ≤ 100000) := ⟨by unfold movL; rw [List.length_map]; omega⟩
  obtain ⟨ML, hML⟩ : ∃ ML, movL N zs y = ML := ⟨_, rfl⟩
  rw [hML] at q25 q29 hml
  have e0 := eqF px py
  have e1 := eqF39 (s : Int) (t : Int)
  unfold fracV at q23 q26
  clear hok hp hpx hpy k1 k2 k3 k4 hl hML
  go_enter Try.func4, Try.ntmps4
  go_wp2_with (first
    | (go_at_call 15; (with_reducible refine hq.mono ?_); rintro e w1 ⟨v', rfl, hi1, hb1⟩
       have hi1k := hi1
       obtain ⟨A, cap, hv, _⟩ := hi1
       rw [hn.out] at hv
       subst hv
       clear hq)
    | (go_at_call 23; (with_reducible refine (q23 _ _ hi1k).mono ?_); rintro e w2 ⟨rfl, hb2⟩
       have hi2 := ints_below (ints_below hi1k hb2) (((Below.refl _ _).alloc (Nat.le_refl _) (.cells #[.int .i64 px, .int .i64 py] 25)).alloc (by simp) (.cells #[.int .i64 s, .int .i64 t] 39))
       have hbw2 : Below w.heap.size w ((w2.alloc (.cells #[.int .i64 px, .int .i64 py] 25)).alloc (.cells #[.int .i64 s, .int .i64 t] 39)) := ((hb1.trans (hb2.mono hb1.size)).alloc (Nat.le_trans hb1.size hb2.size) _).alloc (by have := Nat.le_trans hb1.size hb2.size; simp; omega) _
       have R2 : ((w2.alloc (.cells #[.int .i64 px, .int .i64 py] 25)).alloc (.cells #[.int .i64 s, .int .i64 t] 39)).heap[w2.heap.size]? = some (.cells #[.int .i64 px, .int .i64 py] 25 (0, 0)) := by
         rw [Below.heap_alloc _ _ _ (by simp)]; exact World.alloc_heap_new _ _
       have Q2 : ((w2.alloc (.cells #[.int .i64 px, .int .i64 py] 25)).alloc (.cells #[.int .i64 s, .int .i64 t] 39)).heap[w2.heap.size + 1]? = some (.cells #[.int .i64 s, .int .i64 t] 39 (0, 0)) := by
         have := World.alloc_heap_new (w2.alloc (.cells #[.int .i64 px, .int .i64 py] 25)) (.cells #[.int .i64 s, .int .i64 t] 39); simpa using this
       clear hb2 q23 hi1k hb1)
    | (go_at_call 24; (with_reducible refine (q24 _ _ hi2).mono ?_); rintro e w3 ⟨vg, LG, rfl, hLG, hLG60, hg3, hb3⟩
       have hi3 := ints_below hi2 hb3
       have R3 := (hb3.block w2.heap.size (by simp; omega)).trans R2
       have Q3 := (hb3.block (w2.heap.size + 1) (by simp)).trans Q2
       have hbw3 := hbw2.trans (hb3.mono hbw2.size)
       have hs3 : w2.heap.size + 1 < w3.heap.size := (Array.getElem?_eq_some_iff.1 Q3).1
       clear q24 hi2 R2 Q2 hb3 hbw2)
    | (go_at_call 25; (with_reducible refine (q25 _ _ hi3).mono ?_); rintro e w4 ⟨vm, rfl, hm4, hb4⟩
       have hi4 := ints_below hi3 hb4
       have hg4 := ints_below hg3 hb4
       have R4 := (hb4.block w2.heap.size (by omega)).trans R3
       have Q4 := (hb4.block (w2.heap.size + 1) (by omega)).trans Q3
       have hbw4 := hbw3.trans (hb4.mono hbw3.size)
       have hs4 : w2.heap.size + 1 < w4.heap.size := (Array.getElem?_eq_some_iff.1 Q4).1
       clear q25 hi3 hg3 R3 Q3 hb4 hbw3 hs3)
    | (go_at_call 18; (with_reducible refine (q18 _ _ hi4).mono ?_); rintro e w' ⟨rfl, rfl⟩; clear q18)
    | (go_at_call 26; (with_reducible refine (q26 _ _ hi4).mono ?_); rintro e w5 ⟨rfl, hb5⟩
       have hi5 := ints_below (ints_below hi4 hb5) (((Below.refl _ _).alloc (Nat.le_refl _) (.cells #[.int .i64 px, .int .i64 py] 25)).alloc (by simp) (.cells #[.int .i64 s, .int .i64 t] 39))
       have hg5 := ints_below (ints_below hg4 hb5) (((Below.refl _ _).alloc (Nat.le_refl _) (.cells #[.int .i64 px, .int .i64 py] 25)).alloc (by simp) (.cells #[.int .i64 s, .int .i64 t] 39))
       have hm5 := ints_below (ints_below hm4 hb5) (((Below.refl _ _).alloc (Nat.le_refl _) (.cells #[.int .i64 px, .int .i64 py] 25)).alloc (by simp) (.cells #[.int .i64 s, .int .i64 t] 39))
       have R5 := (hb5.block w2.heap.size (by omega)).trans R4
       have Q5 := (hb5.block (w2.heap.size + 1) (by omega)).trans Q4
       have D0 : w5.cell? ⟨w2.heap.size, 0, none⟩ = some (.int .i64 px) := by simp [World.cell?, R5]
       have D1 : w5.cell? ⟨w2.heap.size, 1, none⟩ = some (.int .i64 py) := by simp [World.cell?, R5]
       have D2 : w5.cell? ⟨w2.heap.size + 1, 0, none⟩ = some (.int .i64 s) := by simp [World.cell?, Q5]
       have D3 : w5.cell? ⟨w2.heap.size + 1, 1, none⟩ = some (.int .i64 t) := by simp [World.cell?, Q5]
       have hs5 : w2.heap.size + 1 < w5.heap.size := (Array.getElem?_eq_some_iff.1 Q5).1
       have hs5a : w2.heap.size < w5.heap.size := by omega
       have hbw5 : Below w.heap.size w ((w5.alloc (.cells #[.int .i64 px, .int .i64 py] 25)).alloc (.cells #[.int .i64 s, .int .i64 t] 39)) := ((hbw4.trans (hb5.mono hbw4.size)).alloc (Nat.le_trans hbw4.size hb5.size) _).alloc (by have := Nat.le_trans hbw4.size hb5.size; simp; omega) _
       clear q26 hi4 hg4 hm4 R4 Q4 R5 Q5 hb5 hbw4 hs4)
    | (go_at_call 28; (with_reducible refine (q28 _ _ hi5).mono ?_); rintro e w6 ⟨v6, L6, rfl, hL6, hL6n, hv6, hb6⟩
       obtain rfl := gaps_unique hL6 hLG
       have hi6 := ints_below hi5 hb6
       have hg6 := ints_below hg5 hb6
       have hm6 := ints_below hm5 hb6
       have hbw6 := hbw5.trans (hb6.mono hbw5.size)
       clear q28 hi5 hg5 hm5 hb6 hbw5)
    | (go_at_call 27; (with_reducible refine (ints_any (IntsAt.off hg6) (IntsAt.off hv6) (by omega)).mono ?_); rintro e w7 ⟨rfl, n7, rfl⟩
       rw [show decide (L6 = L6) = true by simp]
       have hi7 : IntsAt (w6.drewN n7) (.slice A n cap) zs := hi6
       have hm7 : IntsAt (w6.drewN n7) vm ML := hm6
       clear hg6 hv6 hi6 hm6)
    | (go_at_call 29; (with_reducible refine (q29 _ _ hi7).mono ?_); rintro e w8 ⟨v8, rfl, hv8, hb8⟩
       have hm8 := ints_below hm7 hb8
       have hbw8 : Below w.heap.size w w8 := (below_drewN hbw6 n7).trans (hb8.mono hbw6.size)
       clear q29 hi7 hm7 hb8)
    | (go_at_call 27; (with_reducible refine (ints_any (IntsAt.off hm8) (IntsAt.off hv8) hml.out).mono ?_); rintro e w9 ⟨rfl, n9, rfl⟩
       rw [show decide (ML = ML) = true by simp])
    | (go_at_call 19; refine (awake_any _).mono ?_; rintro e wa ⟨rfl, hba⟩))
  all_goals go_ret
  all_goals exact ⟨rfl, (below_drewN hbw8 n9).trans (hba.mono hbw8.size)⟩
theorem intervals_any {N y : Int} {v : Value} {zs : List Int} {w : World} (hv : ArgInts w v zs) (hN : In64 N) (hy : In64 y) :
    Calls Try.prog 4 #[.int .i64 N, v, .int .i64 y] w fun e w' => e = .returned (.bool true) ∧ Below w.heap.size w w' := by
  have hq : Calls Try.prog 15 #[v] w fun e w' => ∃ v', e = .returned v' ∧ IntsAt w' v' (zs.take 61) ∧ Below w.heap.size w w' := by
    refine (list_any hv).mono ?_
    rintro e w' ⟨v', he, ho, hb⟩
    exact ⟨v', he, own_cellz ho, hb⟩
  have hl : (zs.take 61).length ≤ 61 := by rw [List.length_take]; omega
  cases hok : okLine N (zs.take 61) with
  | false => exact intervals_no hq hl hN hok
  | true =>
    obtain ⟨M, rfl⟩ : ∃ M : Nat, N = (M : Int) := by
      have h := hok
      unfold okLine at h
      rw [Bool.and_eq_true, decide_eq_true_iff] at h
      exact ⟨N.toNat, by omega⟩
    exact intervals_yes hq hl hy hok
end Go.Proofs.Ytifbiamfandjnaa
