/- Equal awards of the program, in parts of one: level. -/
import Derived.Test.YtbocmbhinjkjlaaIntSort
import Derived.Test.YtbocmbhinjkjlaaTameFn
import Derived.Test.YtbocmbhinjkjlaaAward
import Derived.Laws.MakeOwn
set_option linter.unusedSimpArgs false
set_option linter.unusedVariables false
namespace Go.Proofs.Ytbocmbhinjkjlaa
open Go Go.Proofs Go.RowKit Go.Seq Go.Sort
def intZ (n : Nat) : Array Value := madeCells #[.int .i64 0] n
theorem intZ_size (n : Nat) : (intZ n).size = n := by unfold intZ; exact (size_madeCells _ _)
theorem made23 {N : Nat} (h : N ≤ 12) (w : World) : (Sem.run Try.prog (Instr.makeSlice 23 (.int .i64 (N : Int)) (.int .i64 (N : Int)))) w = .ok (.slice (some ⟨w.heap.size, 0, none⟩) N N) (w.alloc (.cells (intZ N) 3)) := by
  obtain ⟨i, hI, z1, z2, z3⟩ := info_parts info3
  have r := run_make (P := Try.prog) w 23 3 i _ ty23 hI z1 .i64 .i64 (N : Int) (N : Int) (by omega) (by omega) (by rw [z3]; omega) (by omega)
  rw [show (N : Int).toNat = N by omega, z2, show N * 1 = N by omega] at r
  exact r
/-- A row of ints in the making: its first k are laid. -/
def RowK (W : World) (G n : Nat) (f : Nat → Int) (k : Nat) : Prop := ∃ arr : Array Value, BlkAt W G arr 3 ∧ arr.size = n ∧ ∀ i, i < k → arr[i]? = some (.int .i64 (f i))
theorem RowK.start {W : World} {n : Nat} {f : Nat → Int} : RowK (W.alloc (.cells (intZ n) 3)) W.heap.size n f 0 := ⟨intZ n, BlkAt.new _ _ _, intZ_size n, fun i hi => by omega⟩
theorem RowK.after {W W' : World} {G n k : Nat} {f : Nat → Int} (h : RowK W G n f k) (hb : Below W.heap.size W W') : RowK W' G n f k := by
  obtain ⟨arr, h1, h2, h3⟩ := h
  exact ⟨arr, h1.after hb, h2, h3⟩
theorem RowK.store {W : World} {G n k : Nat} {f : Nat → Int} (h : RowK W G n f k) (hk : k < n) : RowK (W.setCell ⟨G, k, none⟩ (.int .i64 (f k))) G n f (k + 1) := by
  obtain ⟨arr, h1, h2, h3⟩ := h
  refine ⟨_, h1.set k _, by simp [h2], fun i hi => ?_⟩
  rcases Nat.lt_or_ge i k with h | h
  · rw [Array.getElem?_setIfInBounds_ne (by omega)]; exact h3 i h
  · obtain rfl : i = k := by omega
    simp [h2, hk]
theorem RowK.can {W : World} {G n k i : Nat} {f : Nat → Int} (h : RowK W G n f k) (hi : i < n) : (∃ u, W.cell? ⟨G, i, none⟩ = some u) ∧ W.frozen? ⟨G, i, none⟩ = false := by
  obtain ⟨arr, h1, h2, h3⟩ := h
  exact ⟨⟨arr[i]'(by omega), by rw [h1.cell]; simp [h2, hi]⟩, h1.free i⟩
theorem RowK.ints {W : World} {G n : Nat} {f : Nat → Int} (h : RowK W G n f n) : IntsO W (.slice (some ⟨G, 0, none⟩) n n) ((List.range n).map f) := by
  obtain ⟨arr, h1, h2, h3⟩ := h
  refine ⟨_, n, by simp, fun k hk => ⟨G, 0, rfl, ?_⟩⟩
  have hk' : k < n := by simpa using hk
  rw [Nat.zero_add, h1.cell, h3 k hk']
  simp [List.getD, hk']
theorem sumI_perm {o l : List Int} (h : o.Perm l) : o.sum = l.sum := by
  induction h with
  | nil => rfl
  | cons x _ ih => rw [List.sum_cons, List.sum_cons, ih]
  | swap x y l => simp only [List.sum_cons]; omega
  | trans _ _ i1 i2 => rw [i1, i2]
/-- What the program's level finds: the smallest J claims are awarded whole, the others get L / N each. -/
structure Lev (zs : List Int) (E : Int) (N L : Int) : Prop where
  ex : ∃ (o : List Int) (J : Nat), AscI zs o ∧ J < zs.length ∧ N = (zs.length : Int) - J ∧ L = E - (o.take J).sum ∧ (∀ j : Nat, j < J → o.getD j 0 * ((zs.length : Int) - j) < E - (o.take j).sum) ∧ L ≤ o.getD J 0 * N
def partF (zs : List Int) (N L : Int) (i : Nat) : Int := if zs.getD i 0 * N < L then zs.getD i 0 * N else L
set_option maxHeartbeats 4000000 in
set_option maxRecDepth 100000 in
theorem level_any {H : Nat} {v E0 S0 : Value} {zs : List Int} {E : Int} {w : World} (hg : Own3 w H v E0 S0) (hc : IntsO w v zs) (hV : Valid zs) (hE : 0 ≤ E ∧ E ≤ zs.sum) :
    Calls Try.prog 111 #[.pointer (some ⟨H, 0, none⟩), .int .i64 E] w fun e w' => ∃ (G : Nat) (N L : Int), e = .returned (.tuple #[.slice (some ⟨G, 0, none⟩) zs.length zs.length, .int .i64 N]) ∧ Lev zs E N L ∧ w.heap.size ≤ G ∧ RowK w' G zs.length (partF zs N L) zs.length ∧ Below w.heap.size w w' := by
  have hcI := Keep.mk hc
  have hmk := fun w => made23 (N := zs.length) (by have := hV.2.1; omega) w
  have hVK := Keep.mk hV
  have hEK := Keep.mk hE
  obtain ⟨A, cap, rfl, hcell⟩ := hc
  have hcK := Keep.mk hcell
  obtain ⟨n, hn⟩ : ∃ n, Keep (zs.length = n) := ⟨_, ⟨rfl⟩⟩
  have hn1 : 1 ≤ n := by have := hV.1; have := hn.out; omega
  have hn10 : n ≤ 10 := by have := hV.2.1; have := hn.out; omega
  rw [hn.out] at hmk hg ⊢
  clear hcell hV hE
  go_enter Try.func111, Try.ntmps111
  go_wp2
  refine (wpIn_wide (n := 0)).1 ?_
  refine Many.region_many (Cb w) mixed_ok (by kernel_rfl) (fun _ _ _ _ h => h) (fun s _ => Cb.start w s) ?_
  refine Many.lex_want (by rfl) (rdb (fun w hb => by (go_simp; try rfl))) ?_
  simp only [Act.put, List.setIfInBounds_toArray, List.set_cons_succ, List.set_cons_zero, Nat.reduceAdd]
  refine Many.lex_want (by rfl) (rdb (fun w hb => by (go_simp; try rfl))) ?_
  simp only [Act.put, List.setIfInBounds_toArray, List.set_cons_succ, List.set_cons_zero, Nat.reduceAdd]
  refine Many.lex_want (by rfl) (rdb (fun w hb => by (go_simp; try rfl))) ?_
  simp only [Act.put, List.setIfInBounds_toArray, List.set_cons_succ, List.set_cons_zero, Nat.reduceAdd]
  refine Many.lex_want (by rfl) (rdb (fun w hb => by (go_simp; try rfl))) ?_
  simp only [Act.put, List.setIfInBounds_toArray, List.set_cons_succ, List.set_cons_zero, Nat.reduceAdd]
  refine Many.lex_want (by rfl) (rdb (v := .slice A n cap) (fun w hb => by (have hx := (hg.after hb).c0; go_simp; try rfl))) ?_
  simp only [Act.put, List.setIfInBounds_toArray, List.set_cons_succ, List.set_cons_zero, Nat.reduceAdd]
  refine Many.lex_want (by rfl) (rdb (fun w hb => by (go_simp; try rfl))) ?_
  simp only [Act.put, List.setIfInBounds_toArray, List.set_cons_succ, List.set_cons_zero, Nat.reduceAdd]
  refine Many.lex_want (by rfl) (rdb (fun w hb => by (go_simp; try rfl))) ?_
  simp only [Act.put, List.setIfInBounds_toArray, List.set_cons_succ, List.set_cons_zero, Nat.reduceAdd]
  refine Many.lex_want (by rfl) (rdb (fun w hb => by (go_simp; try rfl))) ?_
  simp only [Act.put, List.setIfInBounds_toArray, List.set_cons_succ, List.set_cons_zero, Nat.reduceAdd]
  refine Many.lex_nil fun s wa hs hC => ?_
  have hC : Below w.heap.size w wa := hC
  have hba := hC
  have q117 := sortedI_any (intsO_below hcI.out hC) hVK.out.1 hVK.out.2.1
  rw [hn.out] at q117
  have h0 := (hg.after hC).c0
  clear hC hs hcI
  go_wp2_with (go_at_call 117; (with_reducible refine q117.mono ?_); rintro e w1 ⟨v1, o, rfl, ho, hasc, hb1⟩
               have hol : o.length = n := by rw [hasc.perm.length_eq]; exact hn.out
               obtain ⟨B, cb, rfl, hoell⟩ := ho
               rw [hol]
               have hoK := Keep.mk hoell
               have hb1 := hba.trans (hb1.mono hba.size)
               have h0 := (hg.after hb1).c0
               have holK := Keep.mk hol
               clear q117 hoell hol)
  go_loopw [6, 7, 25] (fun l t i wr => ∃ j : Nat, j ≤ n ∧ i = .int .i64 j ∧ l = .int .i64 (E - (o.take j).sum) ∧ t = .int .i64 ((n : Int) - j) ∧ Keep (∀ j' : Nat, j' < j → o.getD j' 0 * ((n : Int) - j') < E - (o.take j').sum) ∧ wr = w1) (fun _ _ i _ => n + 1 - (intOf i).toNat)
  case atStart => exact ⟨0, by omega, rfl, by simp, by simp, ⟨fun j' hj => by omega⟩, rfl⟩
  case round =>
    obtain ⟨j, hj, rfl, rfl, rfl, hall, rfl⟩ := hrel
    have hob : ∀ z ∈ o, 0 ≤ z ∧ z ≤ 1000 := fun z hz => hVK.out.2.2 z (hasc.perm.mem_iff.1 hz)
    have hsb := sum_bound hob j
    have hzs := sum_bound hVK.out.2.2 zs.length
    rw [List.take_length, hn.out] at hzs
    have hEs := hEK.out
    have hjn : j < n := by
      rcases Nat.lt_or_ge j n with h | h
      · exact h
      · exfalso
        obtain rfl : j = n := by omega
        have h1 := hall.out (j - 1) (by omega)
        have h2 := sum_take (zs := o) (k := j - 1) (by have := holK.out; omega)
        rw [show j - 1 + 1 = j by omega] at h2
        have h3 : (o.take j).sum = zs.sum := by rw [List.take_of_length_le (by have := holK.out; omega)]; exact sumI_perm hasc.perm
        have h4 : ((j : Int) - ((j - 1 : Nat) : Int)) = 1 := by omega
        rw [h4, Int.mul_one] at h1
        omega
    obtain ⟨g, oo, rfl, hz⟩ := hoK.out j (by have := holK.out; omega)
    have hzb := hob _ (getz (zs := o) (k := j) (by have := holK.out; omega))
    have hst := Keep.mk (sum_take (zs := o) (k := j) (by have := holK.out; omega))
    have hjn' : (j : Int) < (n : Int) := by omega
    obtain ⟨c, hcc⟩ : ∃ c, Keep (o.getD j 0 = c) := ⟨_, ⟨rfl⟩⟩
    obtain ⟨S, hS⟩ : ∃ S, Keep ((o.take j).sum = S) := ⟨_, ⟨rfl⟩⟩
    rw [hcc.out] at hz hzb
    rw [hcc.out, hS.out] at hst
    rw [hS.out] at hsb ⊢
    obtain ⟨t, ht⟩ : ∃ t, Keep ((n : Int) - j = t) := ⟨_, ⟨rfl⟩⟩
    rw [ht.out]
    have htb : 1 ≤ t ∧ t ≤ 10 := by have := ht.out; omega
    have hmul := mul_in (a := c) (b := t) (A := 1000) (B := 10) hzb.1 hzb.2 (by omega) (by omega)
    obtain ⟨P, hP⟩ : ∃ P, Keep (c * t = P) := ⟨_, ⟨rfl⟩⟩
    rw [hP.out] at hmul
    have wP : IntKind.i64.wrap (c * t) = P := by rw [← hP.out]; exact IntWalk.i64_in _ (by have := hP.out; omega)
    obtain ⟨L, hL⟩ : ∃ L, Keep (E - S = L) := ⟨_, ⟨rfl⟩⟩
    rw [hL.out]
    have hLb : -10000 ≤ L ∧ L ≤ 10000 := by have := hL.out; omega
    by_cases hbr : L ≤ P
    · have hlev : Keep (Lev zs E t L) := ⟨⟨o, j, hasc, by have := hn.out; omega, by rw [hn.out]; exact ht.out.symm, by rw [hS.out]; exact hL.out.symm, by rw [hn.out]; exact hall.out, by rw [hcc.out, hP.out]; exact hbr⟩⟩
      clear hob hsb hzs hEs hall hst hcc hS hL ht hP hzb
      obtain ⟨wo, rfl⟩ : ∃ x, x = wr := ⟨_, rfl⟩
      have hrow0 : RowK (wo.alloc (.cells (intZ n) 3)) wo.heap.size n (partF zs t L) 0 := RowK.start
      have hbA : Below wo.heap.size wo (wo.alloc (.cells (intZ n) 3)) := (Below.refl _ _).alloc (Nat.le_refl _) _
      obtain ⟨w2, hw2⟩ : ∃ w2, Keep (wo.alloc (.cells (intZ n) 3) = w2) := ⟨_, ⟨rfl⟩⟩
      rw [hw2.out] at hrow0 hbA
      have hHl := (hg.after hb1).blk.lt
      have hHn : ¬ H = wo.heap.size := by omega
      have hHn2 : ¬ wo.heap.size = H := by omega
      go_wp2
      (try rw [hw2.out])
      go_wp2
      go_loopw [51] (fun i wq => ∃ k : Nat, k ≤ n ∧ i = .int .i64 k ∧ Below wo.heap.size wo wq ∧ RowK wq wo.heap.size n (partF zs t L) k) (fun i _ => n - (intOf i).toNat)
      case atStart => exact ⟨0, by omega, rfl, hbA, hrow0⟩
      case round =>
        obtain ⟨k, hk, rfl, hbk, hrow⟩ := hrel
        have hbkz := hbk.size
        by_cases hkn : k < n
        · have hkn' : (k : Int) < (n : Int) := by omega
          obtain ⟨gz, oz, rfl, hzk⟩ := hcK.out k (by have := hn.out; omega)
          have hzk := cell_below hzk (hb1.trans (hbk.mono hb1.size))
          have hzb := hVK.out.2.2 _ (getz (zs := zs) (k := k) (by have := hn.out; omega))
          obtain ⟨⟨u, hcu⟩, hfu⟩ := hrow.can hkn
          have hst := Keep.mk (hrow.store hkn)
          have hpf : Keep (partF zs t L k = if zs.getD k 0 * t < L then zs.getD k 0 * t else L) := ⟨rfl⟩
          generalize zs.getD k 0 = c2 at *
          have hmul2 := mul_in (a := c2) (b := t) (A := 1000) (B := 10) hzb.1 hzb.2 (by omega) (by omega)
          obtain ⟨P2, hP2⟩ : ∃ P, Keep (c2 * t = P) := ⟨_, ⟨rfl⟩⟩
          rw [hP2.out] at hmul2 hpf
          have wP2 : IntKind.i64.wrap (c2 * t) = P2 := by rw [← hP2.out]; exact IntWalk.i64_in _ (by have := hP2.out; omega)
          clear hzb hP2 hrow
          have hv : Keep (partF zs t L k = min P2 L) := ⟨by rw [hpf.out]; split <;> omega⟩
          rw [hv.out] at hst
          clear hpf hv
          go_wp2
          exact ⟨⟨k + 1, by omega, by go_num, hbk.setCell (p := ⟨wo.heap.size, k, none⟩) (Nat.le_refl _) _, hst.out⟩, by simp [intOf]; omega⟩
        · obtain rfl : k = n := by omega
          go_wp2
          go_ret2
          exact ⟨wo.heap.size, t, L, rfl, hlev.out, hb1.size, hrow, hb1.trans (hbk.mono hb1.size)⟩
    · have hnbr : P < L := by omega
      have w1' : IntKind.i64.wrap (L - c) = L - c := IntWalk.i64_in _ (by omega)
      have w2' : IntKind.i64.wrap (t - 1) = t - 1 := IntWalk.i64_in _ (by omega)
      have hall2 : Keep (∀ j' : Nat, j' < j + 1 → o.getD j' 0 * ((n : Int) - j') < E - (o.take j').sum) := ⟨fun j' hj' => by
        rcases Nat.lt_or_ge j' j with h | h
        · exact hall.out j' h
        · obtain rfl : j' = j := by omega
          rw [hcc.out, hS.out, ht.out, hP.out, hL.out]; exact hnbr⟩
      have e1 : Keep (L - c = E - (o.take (j + 1)).sum) := ⟨by rw [hst.out]; have := hL.out; omega⟩
      have e2 : Keep (t - 1 = (n : Int) - ((j + 1 : Nat) : Int)) := ⟨by have := ht.out; omega⟩
      clear hob hsb hzs hEs hall hst hcc hS hL ht hP hzb
      go_wp2
      exact ⟨⟨j + 1, by omega, by go_num, by rw [e1.out], by rw [e2.out], hall2, by first | rfl | trivial⟩, by simp [intOf]; omega⟩
end Go.Proofs.Ytbocmbhinjkjlaa
