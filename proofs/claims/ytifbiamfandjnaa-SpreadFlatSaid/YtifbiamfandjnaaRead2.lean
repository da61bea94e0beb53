import Derived.Test.YtifbiamfandjnaaReadLine
import Derived.Deep.RegionWith
import Derived.Deep.RegionHeld3
set_option linter.unusedSimpArgs false
set_option linter.unusedVariables false
namespace Go.Proofs.Ytifbiamfandjnaa
open Go Go.Proofs Go.RowKit
theorem readLine_no {N : Int} {v : Value} {zs : List Int} {w : World} (hv : IntsAt w v zs) (hl : zs.length ≤ 100000) (hN1 : -9223372036854775808 ≤ N) (hN2 : N < 9223372036854775808) (hno : okLine N zs = false) :
    Calls Try.prog 52 #[.int .i64 N, v] w fun e w' => e = .returned (.tuple #[.pointer none, .bool false]) ∧ w' = w := by
  go_enter Try.func52, Try.ntmps52
  go_wp2_with (go_at_call 66; refine (isLine_any hv hl hN1 hN2).mono ?_; rintro e w5 ⟨rfl, rfl⟩; rw [hno])
  go_ret2
  exact ⟨rfl, rfl⟩
def cnt1 (zs : List Int) (k : Nat) : Nat := (zs.filter fun z => z + 1 == (k : Int)).length
def belowC (zs : List Int) (k : Nat) : Nat := (zs.filter fun z => decide (z < (k : Int))).length
theorem cnt1_le (zs : List Int) (k : Nat) : cnt1 zs k ≤ zs.length := List.length_filter_le _ _
theorem belowC_le (zs : List Int) (k : Nat) : belowC zs k ≤ zs.length := List.length_filter_le _ _
theorem cnt1_push (zs : List Int) (q k : Nat) : cnt1 (zs ++ [(q : Int)]) k = cnt1 zs k + if k = q + 1 then 1 else 0 := by
  unfold cnt1
  rw [List.filter_append, List.length_append]
  by_cases h : k = q + 1
  · subst h; simp
  · have : (((q : Int) + 1) == (k : Int)) = false := by rw [beq_eq_false_iff_ne]; omega
    simp [this, h]
theorem belowC_succ (zs : List Int) (t : Nat) : belowC zs (t + 1) = cnt1 zs (t + 1) + belowC zs t := by
  unfold cnt1 belowC
  induction zs with
  | nil => rfl
  | cons z l ih =>
    simp only [List.filter_cons]
    by_cases h1 : z < (t : Int)
    · have h2 : z < ((t + 1 : Nat) : Int) := by omega
      have h3 : (z + 1 == ((t + 1 : Nat) : Int)) = false := by rw [beq_eq_false_iff_ne]; omega
      simp only [decide_eq_true h1, decide_eq_true h2, h3, if_true, List.length_cons, Bool.false_eq_true, if_false]; omega
    · by_cases h4 : z = (t : Int)
      · have h2 : z < ((t + 1 : Nat) : Int) := by omega
        have h3 : (z + 1 == ((t + 1 : Nat) : Int)) = true := by rw [beq_iff_eq]; omega
        simp only [decide_eq_false h1, decide_eq_true h2, h3, if_true, List.length_cons, Bool.false_eq_true, if_false]; omega
      · have h2 : ¬ z < ((t + 1 : Nat) : Int) := by omega
        have h3 : (z + 1 == ((t + 1 : Nat) : Int)) = false := by rw [beq_eq_false_iff_ne]; omega
        simp only [decide_eq_false h1, decide_eq_false h2, h3, Bool.false_eq_true, if_false]; exact ih
theorem zero_none {zs : List Int} {N : Int} (h : zs.all (fun z => decide (0 ≤ z ∧ z < N)) = true) : cnt1 zs 0 = 0 ∧ belowC zs 0 = 0 := by
  unfold cnt1 belowC
  constructor <;> rw [List.length_eq_zero_iff, List.filter_eq_nil_iff] <;> intro z hz <;> have := List.all_eq_true.1 h z hz <;> simp at this ⊢ <;> omega
theorem zeros_ok : (Try.zeroCells101.size == 1003 && Try.zeroCells101.toList.all (fun v => match v with | .int .i64 z => z == 0 | _ => false)) = true := by kernel_rfl
theorem zero_at {k : Nat} (hk : k < 1003) : Try.zeroCells101[k]? = some (.int .i64 0) := by
  have h := zeros_ok
  rw [Bool.and_eq_true, beq_iff_eq] at h
  obtain ⟨h1, h2⟩ := h
  have hlt : k < Try.zeroCells101.size := by omega
  rw [Array.getElem?_eq_getElem hlt]
  have := List.all_eq_true.1 h2 _ (Array.getElem_mem_toList hlt)
  generalize Try.zeroCells101[k] = v at this
  split at this
  · rename_i z
    rw [beq_iff_eq] at this
    rw [this]
  · exact absurd this (by simp)
/-- The cells of a line that is being read. -/
structure CellsL (W : World) (B N n : Nat) (c : Nat → Nat) : Prop where
  scale : W.cell? ⟨B, 0, none⟩ = some (.int .i64 N)
  size : W.cell? ⟨B, 1, none⟩ = some (.int .i64 n)
  at_ : ∀ k, k ≤ 1000 → W.cell? ⟨B, 2 + k, none⟩ = some (.int .i64 (c k)) ∧ W.frozen? ⟨B, 2 + k, none⟩ = false
theorem CellsL.set {W : World} {B N n p x : Nat} {c d : Nat → Nat} (h : CellsL W B N n c) (hp : p ≤ 1000) (hx : d p = x) (hd : ∀ k, k ≤ 1000 → k ≠ p → d k = c k) : CellsL (W.setCell ⟨B, 2 + p, none⟩ (.int .i64 x)) B N n d := by
  obtain ⟨h1, h2, h3⟩ := h
  obtain ⟨p1, p2⟩ := h3 p hp
  refine ⟨by go_simp, by go_simp, fun k hk => ?_⟩
  obtain ⟨c1, c2⟩ := h3 k hk
  by_cases hkp : k = p
  · subst hkp
    rw [hx]
    exact ⟨by go_simp, by go_simp⟩
  · rw [hd k hk hkp]
    have hne : ¬ 2 + p = 2 + k := by omega
    generalize c k = y at c1
    clear hx hd h3
    exact ⟨by go_simp; try omega, by go_simp; try omega⟩
theorem CellsL.drew {W : World} {B N n : Nat} {c : Nat → Nat} (h : CellsL W B N n c) : CellsL W.drew B N n c := ⟨h.scale, h.size, h.at_⟩
def mid (zs : List Int) (t k : Nat) : Nat := if k ≤ t then belowC zs k else cnt1 zs k
theorem mid_le (zs : List Int) (t k : Nat) : mid zs t k ≤ zs.length := by unfold mid; split; exact belowC_le _ _; exact cnt1_le _ _
set_option maxHeartbeats 1000000 in
set_option maxRecDepth 100000 in
theorem readLine_any {N : Nat} {v : Value} {zs : List Int} {w : World} (hv : IntsAt w v zs) (hok : okLine N zs = true) :
    Calls Try.prog 52 #[.int .i64 N, v] w fun e w' => e = .returned (.tuple #[.pointer (some ⟨w.heap.size, 0, none⟩), .bool true]) ∧ Below w.heap.size w w' ∧ LineAt w' w.heap.size N zs.length (mid zs N) := by
  have hok1 := hok
  unfold okLine at hok1
  rw [Bool.and_eq_true, decide_eq_true_iff] at hok1
  obtain ⟨⟨k1, k2, k3, k4⟩, hall⟩ := hok1
  have hall' := Keep.mk hall
  clear hall
  have hv0 := hv
  obtain ⟨A, cap, rfl, hc⟩ := hv
  go_enter Try.func52, Try.ntmps52
  go_wp2_with (go_at_call 66; refine (isLine_any hv0 (by omega) (by omega) (by omega)).mono ?_; rintro e w5 ⟨rfl, rfl⟩; rw [hok])
  have hl61 : zs.length ≤ 60 := k4
  obtain ⟨W0, hW0⟩ : ∃ W0, w5.alloc (.cells ((Try.zeroCells101.setIfInBounds 0 (.int .i64 (N : Nat))).setIfInBounds 1 (.int .i64 (zs.length : Nat))) 101) = W0 := ⟨_, rfl⟩
  have hblk : W0.heap[w5.heap.size]? = some (.cells ((Try.zeroCells101.setIfInBounds 0 (.int .i64 (N : Nat))).setIfInBounds 1 (.int .i64 (zs.length : Nat))) 101 (0, 0)) := by
    rw [← hW0]
    show (w5.heap.push _)[w5.heap.size]? = _
    simp
  have hcells : CellsL W0 w5.heap.size N zs.length (cnt1 []) := by
    have hz1003 : Try.zeroCells101.size = 1003 := by have := zeros_ok; rw [Bool.and_eq_true, beq_iff_eq] at this; exact this.1
    refine ⟨?_, ?_, fun k hk => ⟨?_, ?_⟩⟩
    · simp [World.cell?, hblk, Array.getElem?_setIfInBounds, hz1003]
    · simp [World.cell?, hblk, Array.getElem?_setIfInBounds, hz1003]
    · have e : cnt1 [] k = 0 := rfl
      rw [e]
      have := zero_at (k := 2 + k) (by omega)
      simp only [World.cell?, hblk]
      rw [Array.getElem?_setIfInBounds_ne (by omega), Array.getElem?_setIfInBounds_ne (by omega)]
      simpa using this
    · simp [World.frozen?, hblk]
  have hbw0 : Below w5.heap.size w5 W0 := by rw [← hW0]; exact (Below.refl _ _).alloc (Nat.le_refl _) _
  rw [hW0]
  clear hW0 hblk
  go_loopw [21] (fun i wr => ∃ m : Nat, m ≤ zs.length ∧ i = .int .i64 m ∧ Keep (CellsL wr w5.heap.size N zs.length (cnt1 (zs.take m))) ∧ Below w5.heap.size w5 wr) (fun i _ => zs.length - (intOf i).toNat)
  case atStart => exact ⟨0, by omega, rfl, ⟨by simpa using hcells⟩, hbw0⟩
  case round =>
    obtain ⟨m, hm, rfl, hrow, hbw⟩ := hrel
    by_cases hlt : m < zs.length
    · obtain ⟨g, rfl, h1⟩ := hc m hlt
      have h1 := cell_below h1 hbw
      obtain ⟨q, hq⟩ : ∃ q : Nat, Keep (zs.getD m 0 = (q : Int)) := by
        have := List.all_eq_true.1 hall'.out _ (getz hlt)
        rw [decide_eq_true_iff] at this
        exact ⟨(zs.getD m 0).toNat, ⟨by omega⟩⟩
        --(zs.getD m 0).toNat, ⟨by rw [List.getD_eq_getElem?_getD, List.getElem?_eq_getElem hlt] at *; simp at *; omega⟩⟩
      have hqN : q < N := by
        have := List.all_eq_true.1 hall'.out _ (getz hlt)
        rw [hq.out, decide_eq_true_iff] at this
        omega
      rw [hq.out] at h1
      have hnext : Keep (∀ k, cnt1 (zs.take (m + 1)) k = cnt1 (zs.take m) k + if k = q + 1 then 1 else 0) := ⟨fun k => by rw [takez hlt, hq.out, cnt1_push]⟩
      obtain ⟨y, hy⟩ : ∃ y : Nat, Keep (cnt1 (zs.take m) (q + 1) = y) := ⟨_, ⟨rfl⟩⟩
      have hy60 : y ≤ 60 := by
        have := cnt1_le (zs.take m) (q + 1)
        rw [hy.out, List.length_take] at this
        omega
      obtain ⟨c1, c2⟩ := hrow.out.at_ (q + 1) (by omega)
      rw [hy.out] at c1
      obtain ⟨q', hq'⟩ : ∃ q' : Nat, Keep (q' = q + 1) := ⟨_, ⟨rfl⟩⟩
      have hw1 : IntKind.i64.wrap ((q : Int) + 1) = (q' : Int) := by rw [hq'.out, IntWalk.i64_in _ (by omega)]; push_cast; rfl
      have hq1 : q' ≤ 1000 := by have := hq'.out; omega
      rw [← hq'.out] at c1 c2 hy
      clear hc
      go_wp2
      go_region_with (fail)
      all_goals go_wp2
      all_goals refine ⟨⟨m + 1, by omega, by go_num, ⟨CellsL.drew ?_⟩, below_drewN (hbw.setCell (p := ⟨w5.heap.size, 2 + q', none⟩) (Nat.le_refl _) _) 1⟩, by simp [intOf]; omega⟩
      all_goals
        have hx : cnt1 (zs.take (m + 1)) q' = y + 1 := by rw [hnext.out, hy.out, if_pos hq'.out]
        have := hrow.out.set hq1 (d := cnt1 (zs.take (m + 1))) hx (fun k _ hk => by rw [hnext.out, if_neg (fun e => hk (by rw [e, hq'.out]))]; rfl)
        simpa using this
    · have : m = zs.length := by omega
      subst this
      rw [List.take_length] at hrow
      clear hc
      go_wp2
      go_loopw [38] (fun i wr => ∃ t : Nat, t ≤ N ∧ i = .int .i64 t ∧ Keep (CellsL wr w5.heap.size N zs.length (mid zs t)) ∧ Below w5.heap.size w5 wr) (fun i _ => N - (intOf i).toNat)
      case atStart =>
        refine ⟨0, by omega, rfl, ⟨?_⟩, hbw⟩
        obtain ⟨z1, z2⟩ := zero_none hall'.out
        refine ⟨hrow.out.scale, hrow.out.size, fun k hk => ?_⟩
        have e : mid zs 0 k = cnt1 zs k := by
          unfold mid
          by_cases h : k ≤ 0
          · obtain rfl : k = 0 := by omega
            rw [if_pos h, z1, z2]
          · rw [if_neg h]
        rw [e]
        exact hrow.out.at_ k hk
      case round =>
        obtain ⟨t, ht, rfl, hrow2, hbw2⟩ := hrel
        by_cases hlt2 : t < N
        · obtain ⟨c1, c2⟩ := hrow2.out.at_ (t + 1) (by omega)
          obtain ⟨c3, c4⟩ := hrow2.out.at_ t (by omega)
          have e1 : mid zs t (t + 1) = cnt1 zs (t + 1) := by unfold mid; rw [if_neg (by omega)]
          have e2 : mid zs t t = belowC zs t := by unfold mid; rw [if_pos (Nat.le_refl _)]
          rw [e1] at c1
          rw [e2] at c3
          obtain ⟨y1, hy1⟩ : ∃ y1 : Nat, Keep (cnt1 zs (t + 1) = y1) := ⟨_, ⟨rfl⟩⟩
          obtain ⟨y2, hy2⟩ : ∃ y2 : Nat, Keep (belowC zs t = y2) := ⟨_, ⟨rfl⟩⟩
          have l1 : y1 ≤ 60 := by have := cnt1_le zs (t + 1); rw [hy1.out] at this; omega
          have l2 : y2 ≤ 60 := by have := belowC_le zs t; rw [hy2.out] at this; omega
          rw [hy1.out] at c1
          rw [hy2.out] at c3
          obtain ⟨t', ht'⟩ : ∃ t' : Nat, Keep (t' = t + 1) := ⟨_, ⟨rfl⟩⟩
          have hw1 : IntKind.i64.wrap ((t : Int) + 1) = (t' : Int) := by rw [ht'.out, IntWalk.i64_in _ (by omega)]; push_cast; rfl
          have ht1 : t' ≤ 1000 := by have := ht'.out; omega
          rw [← ht'.out] at c1 c2
          have hsum : IntKind.i64.wrap ((y1 : Int) + (y2 : Int)) = (y1 : Int) + (y2 : Int) := IntWalk.i64_in _ (by omega)
          have hi1 : (t' : Int) < 1001 := by omega
          have hi2 : (t : Int) < 1001 := by omega
          have hi3 : t' < 1001 := by omega
          have hi4 : t < 1001 := by omega
          clear e1 e2
          go_wp2
          go_region_with (fail)
          all_goals go_wp2
          all_goals refine ⟨⟨t + 1, by omega, by first | go_num | rw [ht'.out], ⟨CellsL.drew ?_⟩, below_drewN (hbw2.setCell (p := ⟨w5.heap.size, 2 + t', none⟩) (Nat.le_refl _) _) 1⟩, by simp [intOf]; have := ht'.out; omega⟩
          all_goals
            have hx : mid zs (t + 1) t' = y1 + y2 := by unfold mid; rw [ht'.out, if_pos (Nat.le_refl _), belowC_succ, hy1.out, hy2.out]
            have := hrow2.out.set ht1 (d := mid zs (t + 1)) hx (fun k _ hk => by
              unfold mid
              have := ht'.out
              by_cases h : k ≤ t
              · rw [if_pos h, if_pos (by omega)]
              · rw [if_neg h, if_neg (by omega)])
            simpa using this
        · have : t = N := by omega
          subst this
          go_wp2
          go_ret2
          refine ⟨rfl, hbw2, ?_⟩
          exact ⟨hrow2.out.scale, hrow2.out.size, fun k hk => (hrow2.out.at_ k hk).1, by omega, hl61, fun k _ => Nat.le_trans (mid_le _ _ _) hl61⟩
end Go.Proofs.Ytifbiamfandjnaa
