/- For SharesSums: numbers from a list, equal lists, and the mathematics of sums and sorted lists. -/
import Derived.Test.YtbocmbhinjkjlaaRankMath
import Derived.Test.YtbocmbhinjkjlaaLawAgrees
set_option linter.unusedSimpArgs false
set_option linter.unusedVariables false
namespace Go.Proofs.Ytbocmbhinjkjlaa
open Go Go.Proofs Go.RowKit Go.Seq
def modN (x : Int) (m : Nat) : Nat := (IntKind.u64.wrap x).toNat % m
theorem modN_lt (x : Int) {m : Nat} (h : 1 ≤ m) : modN x m < m := Nat.mod_lt _ (by omega)
theorem mod_any (x : Int) {m : Nat} (h1 : 1 ≤ m) (h2 : m ≤ 1000000000) (w : World) :
    Calls Try.prog 57 #[.int .i64 x, .int .i64 m] w fun e w' => e = .returned (.int .i64 (modN x m : Nat)) ∧ w' = w := by
  obtain ⟨q, hq⟩ : ∃ q : Nat, IntKind.u64.wrap x = (q : Int) ∧ q < 18446744073709551616 := by
    have : IntKind.u64.wrap x = x % 18446744073709551616 := rfl
    exact ⟨(x % 18446744073709551616).toNat, by rw [this]; omega, by omega⟩
  obtain ⟨hq1, hq2⟩ := hq
  have hmod : modN x m = q % m := by unfold modN; rw [hq1]; rfl
  rw [hmod]
  have e2 : IntKind.u64.wrap (m : Int) = (m : Int) := IntWalk.u64_in _ (by omega)
  have hm0 : ((m : Int) == 0) = false := by rw [beq_eq_false_iff_ne]; omega
  have hm : q % m < m := Nat.mod_lt _ (by omega)
  obtain ⟨r, hr⟩ : ∃ r, Keep (q % m = r) := ⟨_, ⟨rfl⟩⟩
  have hw : IntKind.u64.wrap ((q : Int).tmod (m : Int)) = (r : Int) := by
    rw [← hr.out, IntWalk.up_tmod rfl rfl, IntWalk.u64_in _ (by omega)]
  rw [hr.out] at hm ⊢
  have e4 : IntKind.i64.wrap (r : Int) = (r : Int) := IntWalk.i64_in _ (by omega)
  have e5 : wrap64 ((q : Int) % (m : Int)) = (r : Int) := by
    have : ((q : Int) % (m : Int)) = (r : Int) := by rw [← hr.out]; rfl
    rw [this]; unfold wrap64; omega
  have hmz : ¬ m = 0 := by omega
  clear hm h1 h2 hq2 hmod
  go_enter Try.func57, Try.ntmps57
  go_wp2
  go_ret
  exact ⟨by simp [e5], rfl⟩
set_option maxHeartbeats 1000000 in
set_option maxRecDepth 100000 in
theorem same_any {a b : Value} {l : Pts} {w : World} (ha : FracsO w a l) (hb : FracsO w b l) (hl : l.length ≤ 100000) :
    Calls Try.prog 27 #[a, b] w fun e w' => e = .returned (.bool true) ∧ Below w.heap.size w w' := by
  obtain ⟨A, ca, rfl, hca⟩ := ha
  obtain ⟨B, cb, rfl, hcb⟩ := hb
  have haK := Keep.mk hca
  have hbK := Keep.mk hcb
  clear hca hcb
  go_enter Try.func27, Try.ntmps27
  go_wp2
  go_loopw [5] (fun i wr => ∃ k : Nat, k ≤ l.length ∧ i = .int .i64 k ∧ Below w.heap.size w wr) (fun i _ => l.length - (intOf i).toNat)
  case atStart => exact ⟨0, by omega, rfl, Below.refl _ _⟩
  case round =>
    obtain ⟨k, hk, rfl, hbw⟩ := hrel
    have hbz := hbw.size
    by_cases hlt : k < l.length
    · obtain ⟨ga, oa, rfl, ha1, ha2⟩ := haK.out k hlt
      obtain ⟨gb, ob, rfl, hbb1, hbb2⟩ := hbK.out k hlt
      have ha1 := cell_below ha1 hbw
      have ha2 := cell_below ha2 hbw
      have hbb1 := cell_below hbb1 hbw
      have hbb2 := cell_below hbb2 hbw
      generalize l.getD k (0, 0) = z at *
      obtain ⟨n, d⟩ := z
      simp only at ha1 ha2 hbb1 hbb2
      have e1 := eqS n d
      go_wp2
      refine (wpIn_wide (n := 0)).1 ?_
      refine Many.region_many (Cb wr) mixed_ok (by kernel_rfl) (fun _ _ _ _ h => h) (fun s _ => Cb.start wr s) ?_
      refine Many.lex_want (by rfl) (rdb (fun w hb => by (go_simp; try rfl))) ?_
      simp only [Act.put, List.setIfInBounds_toArray, List.set_cons_succ, List.set_cons_zero, Nat.reduceAdd]
      refine Many.lex_want (by rfl) (rdb (fun w hb => by (go_simp; try rfl))) ?_
      simp only [Act.put, List.setIfInBounds_toArray, List.set_cons_succ, List.set_cons_zero, Nat.reduceAdd]
      refine Many.lex_want (by rfl) (rdb (v := .pointer (some ⟨ga, oa + k * 2, none⟩)) (fun w hb => by (skip; go_simp; try rfl))) ?_
      simp only [Act.put, List.setIfInBounds_toArray, List.set_cons_succ, List.set_cons_zero, Nat.reduceAdd]
      refine Many.lex_want (by rfl) (rdb (v := .agg #[.int .i64 n, .int .i64 d]) (fun w hb => by (have c0 := cell_below ha1 hb; have c1 := cell_below ha2 hb; go_simp; try rfl))) ?_
      simp only [Act.put, List.setIfInBounds_toArray, List.set_cons_succ, List.set_cons_zero, Nat.reduceAdd]
      refine Many.lex_want (by rfl) (rdb (fun w hb => by (go_simp; try rfl))) ?_
      simp only [Act.put, List.setIfInBounds_toArray, List.set_cons_succ, List.set_cons_zero, Nat.reduceAdd]
      refine Many.lex_want (by rfl) (rdb (fun w hb => by (go_simp; try rfl))) ?_
      simp only [Act.put, List.setIfInBounds_toArray, List.set_cons_succ, List.set_cons_zero, Nat.reduceAdd]
      refine Many.lex_want (by rfl) (rdb (v := .pointer (some ⟨gb, ob + k * 2, none⟩)) (fun w hb => by (skip; go_simp; try rfl))) ?_
      simp only [Act.put, List.setIfInBounds_toArray, List.set_cons_succ, List.set_cons_zero, Nat.reduceAdd]
      refine Many.lex_want (by rfl) (rdb (v := .agg #[.int .i64 n, .int .i64 d]) (fun w hb => by (have c0 := cell_below hbb1 hb; have c1 := cell_below hbb2 hb; go_simp; try rfl))) ?_
      simp only [Act.put, List.setIfInBounds_toArray, List.set_cons_succ, List.set_cons_zero, Nat.reduceAdd]
      refine Many.lex_want (by rfl) (rdb (v := .bool false) (fun w hb => by (have e := e1; go_simp; try rfl))) ?_
      simp only [Act.put, List.setIfInBounds_toArray, List.set_cons_succ, List.set_cons_zero, Nat.reduceAdd]
      refine Many.lex_nil fun s W1 hs hC => ?_
      have hC : Below wr.heap.size wr W1 := hC
      have hbn := hbw.trans (hC.mono hbz)
      clear hC hs
      go_wp2
      exact ⟨⟨k + 1, by omega, by go_num, hbn⟩, by simp [intOf]; omega⟩
    · obtain rfl : k = l.length := by omega
      go_wp2
      go_ret
      exact ⟨rfl, hbw⟩
theorem sumT_cons (x : Int × Int) (l : Pts) : sumT (x :: l) = x.1 * (MM / x.2) + sumT l := by simp [sumT]
theorem sumT_perm {l o : Pts} (h : o.Perm l) : sumT o = sumT l := by
  induction h with
  | nil => rfl
  | cons x _ ih => rw [sumT_cons, sumT_cons, ih]
  | swap x y l => rw [sumT_cons, sumT_cons, sumT_cons, sumT_cons]; omega
  | trans _ _ i1 i2 => rw [i1, i2]
theorem sumT_app (l o : Pts) : sumT (l ++ o) = sumT l + sumT o := by
  induction l with
  | nil => simp [sumT]
  | cons x l ih => rw [List.cons_append, sumT_cons, sumT_cons, ih]; omega
def negP (z : Int × Int) : Int × Int := (-z.1, z.2)
theorem sumT_neg (l : Pts) : sumT (l.map negP) = - sumT l := by
  induction l with
  | nil => simp [sumT]
  | cons x l ih =>
    rw [List.map_cons, sumT_cons, sumT_cons, ih]
    unfold negP
    simp only [Int.neg_mul]
    omega
theorem okT_neg {z : Int × Int} (h : okT z = true) : okT (negP z) = true := by
  obtain ⟨h1, h2, h3, h4, h5⟩ := okT_bounds h
  unfold negP
  exact decide_eq_true ⟨h1, h2, by omega, by omega, by rw [Int.neg_gcd]; exact h5⟩
theorem sumT_both (l : Pts) : sumT (l ++ l.map negP) = 0 := by rw [sumT_app, sumT_neg]; omega
def leP (x y : Int × Int) : Prop := ¬ y.1 * x.2 < x.1 * y.2
theorem asc_pair {l o : Pts} (h : Asc l o) : o.Pairwise leP := by
  rw [List.pairwise_iff_getElem]
  intro i j hi hj hij
  have := h.ord i j hij hj
  have e1 : o.getD i (0, 0) = o[i] := by rw [List.getD_eq_getElem?_getD, List.getElem?_eq_getElem hi]; rfl
  have e2 : o.getD j (0, 0) = o[j] := by rw [List.getD_eq_getElem?_getD, List.getElem?_eq_getElem hj]; rfl
  rw [e1, e2] at this
  exact this
theorem asc_asc {l s t : Pts} (h1 : Asc l s) (h2 : Asc s t) (hok : ∀ z ∈ l, okT z = true) : s = t := by
  refine List.Perm.eq_of_pairwise (le := leP) (fun a b ha hb x y => ?_) (asc_pair h1) (asc_pair h2) h2.perm.symm
  have oa := hok a (h1.perm.mem_iff.1 ha)
  have ob := hok b (h1.perm.mem_iff.1 (h2.perm.mem_iff.1 hb))
  unfold leP at x y
  exact okT_same oa ob (by omega)
theorem cmp_neg (a b : Int) : cmpI a b = - cmpI b a := by
  unfold cmpI
  by_cases h1 : a < b
  · rw [if_pos h1, if_neg (by omega), if_pos h1]
  · by_cases h2 : b < a
    · rw [if_neg h1, if_pos h2, if_pos h2]; rfl
    · rw [if_neg h1, if_neg h2, if_neg h2, if_neg h1]; rfl
theorem cmp_bounds (a b : Int) : -1 ≤ cmpI a b ∧ cmpI a b ≤ 1 := by
  unfold cmpI
  split
  · omega
  · split <;> omega
theorem made_ok (x y : Int) : okT (redN (((modN x 2001 : Nat) : Int) - 1000) (1 + ((modN y 20 : Nat) : Int)), redD (((modN x 2001 : Nat) : Int) - 1000) (1 + ((modN y 20 : Nat) : Int))) = true := by
  have h1 : modN x 2001 < 2001 := by unfold modN; exact Nat.mod_lt _ (by omega)
  have h2 : modN y 20 < 20 := by unfold modN; exact Nat.mod_lt _ (by omega)
  generalize modN x 2001 = m at *
  generalize modN y 20 = d at *
  obtain ⟨g, g1, p1, p2, p3, p4⟩ := red_parts ((m : Int) - 1000) (b := 1 + (d : Int)) (by omega)
  obtain ⟨b1, b2, b3⟩ := red_le ((m : Int) - 1000) (b := 1 + (d : Int)) (by omega)
  exact decide_eq_true ⟨p3, by omega, by omega, by omega, p4⟩
end Go.Proofs.Ytbocmbhinjkjlaa
