import Derived.Test.YtbmfipjnfbnjgaaBounds
import Derived.Sort.QuietIn
set_option linter.unusedSimpArgs false
set_option linter.unusedVariables false
namespace Go.Proofs.Ytbmfipjnfbnjgaa
open Go Go.Proofs Go.RowKit Go.Seq Go.Sample
attribute [local go_sem] Oper.semAt_some
/-- A course for a lot of N pieces. -/
structure CrsOk (c : Crs) (N : Nat) : Prop where
  l1 : 1 ≤ c.L
  l2 : c.L ≤ N
  all : ∀ k, k < c.L → -1 ≤ c.A k ∧ c.A k < c.R k ∧ c.R k ≤ (c.L : Int) + 1
  last : c.R (c.L - 1) = c.A (c.L - 1) + 1
set_option maxHeartbeats 1000000 in
set_option maxRecDepth 100000 in
theorem isCourse_yes {b N : Nat} {c : Crs} {w : World} (hP : Pieces w b N) (hc : CrsIn w c) (hok : CrsOk c N) :
    Calls Try.prog 63 #[.pointer (some ⟨b, 0, none⟩), c.val] w fun e w' => e = .returned (.bool true) ∧ Below w.heap.size w w' := by
  have h36 := hP.h36
  obtain ⟨l1, l2, hall, hlast⟩ := hok
  have hallk := Keep.mk hall
  have hlastk := Keep.mk hlast
  clear hall hlast
  have hmx : Try.prog.follows .mixedOrders = true := by kernel_rfl
  have hlb := hP.lt
  have hga : c.ga < w.heap.size := cell_lt (hc.las 0 (by omega))
  have hgr : c.gr < w.heap.size := cell_lt (hc.lrs 0 (by omega))
  obtain ⟨w0, hw0⟩ : ∃ w0, (((w.alloc (.cells #[c.sa, c.sr] 42)).alloc (.cells #[.bool false] 4)).alloc (.cells #[.int .i64 c.L] 3)) = w0 := ⟨_, rfl⟩
  have hs0 : w0.heap.size = w.heap.size + 3 := by rw [← hw0]; simp
  have hb0 : Below w.heap.size w w0 := by rw [← hw0]; exact (((Below.refl _ w).alloc (Nat.le_refl _) _).alloc (by simp) _).alloc (by simp; omega) _
  have hB0 : CrsBox w0 w.heap.size c := by
    rw [← hw0]; exact ((CrsBox.new hc 42).after ((Below.refl _ _).alloc (Nat.le_refl _) _)).after ((Below.refl _ _).alloc (Nat.le_refl _) _)
  have hl0 : w0.cell? ⟨w.heap.size + 1 + 1, 0, none⟩ = some (.int .i64 c.L) := by
    have h := World.alloc_heap_new ((w.alloc (.cells #[c.sa, c.sr] 42)).alloc (.cells #[.bool false] 4)) (.cells #[.int .i64 c.L] 3)
    rw [hw0] at h
    have h2 : w0.heap[w.heap.size + 1 + 1]? = some (.cells #[.int .i64 c.L] 3 (0, 0)) := by simpa using h
    simp [World.cell?, h2]
  have ht0 : w0.heap[w.heap.size + 1]? = some (.cells #[.bool false] 4 (0, 0)) := by
    rw [← hw0, Below.heap_alloc _ _ _ (by simp)]
    have h := World.alloc_heap_new (w.alloc (.cells #[c.sa, c.sr] 42)) (.cells #[.bool false] 4)
    simpa using h
  unfold Crs.sa Crs.sr at hw0
  unfold Crs.val Crs.sa Crs.sr
  refine (callsIn_wide (n := 0)).1 ?_
  refine callsIn_of_wp_marks Try.func63 rfl trivial ?_ rfl
  simp only [Try.ntmps63, List.size_toArray, List.length_cons, List.length_nil, Nat.reduceAdd, Nat.reduceSub, Array.replicate_succ, Array.replicate_zero, List.push_toArray, List.append_toArray, List.nil_append, List.cons_append]
  gi_wp2
  try rw [hw0]
  clear hw0
  have hP0 : Pieces w0 b N := hP.below hb0 hlb
  have hn0 := hP0.tab.size
  obtain ⟨⟨d0, d1, _, _⟩, _⟩ := hB0
  unfold Crs.sa at d0
  unfold Crs.sr at d1
  have f1 : ¬ (c.L : Int) < 1 := by omega
  have f2 : ¬ (N : Int) < (c.L : Int) := by omega
  gi_quiet (fail)
  obtain ⟨w1, hw1⟩ : ∃ w1, w0.drewN nq = w1 := ⟨_, rfl⟩
  have hb01 : Below w0.heap.size w0 w1 := by rw [← hw1]; exact below_drewN (Below.refl _ _) nq
  have hcw1 : CrsIn w1 c := (hc.after (hb0)).after hb01
  have hbs := bounds_any hcw1
  unfold Crs.val Crs.sa Crs.sr at hbs
  have hl1 := cell_below hl0 hb01
  have ht1 := (hb01.block (w.heap.size + 1) (by omega)).trans ht0
  have hs1 : w1.heap.size = w.heap.size + 3 := by rw [← hw1]; exact hs0
  have hbw1 : Below w.heap.size w w1 := hb0.trans (hb01.mono (by omega))
  have d0 := cell_below d0 hb01
  have d1 := cell_below d1 hb01
  rw [hw1]
  gi_wp2_with (refine ⟨trivial, rfl, ?_⟩; gi_at_call 65; refine (callsIn_wide.2 hbs).mono ?_; rintro e w' ⟨rfl, rfl⟩)
  have hB2 : CrsBox (w1.alloc (.cells #[c.sa, c.sr] 42)) w1.heap.size c := CrsBox.new hcw1 42
  have hb12 : Below w1.heap.size w1 (w1.alloc (.cells #[c.sa, c.sr] 42)) := (Below.refl _ _).alloc (Nat.le_refl _) _
  have hl2 := cell_below hl1 hb12
  have ht2 := (hb12.block (w.heap.size + 1) (by omega)).trans ht1
  have hbw2 : Below w.heap.size w _ := hbw1.trans (hb12.mono (by omega))
  unfold Crs.sa Crs.sr at hB2 hl2 ht2 hbw2
  have hs2 : (w1.alloc (.cells #[.slice (some ⟨c.ga, c.oa, none⟩) c.L c.ca, .slice (some ⟨c.gr, c.ro, none⟩) c.L c.cr] 42)).heap.size = w.heap.size + 4 := by simp [hs1]
  rw [hs1] at hB2
  revert hB2 hl2 ht2 hbw2 hs2
  generalize w1.alloc (.cells #[.slice (some ⟨c.ga, c.oa, none⟩) c.L c.ca, .slice (some ⟨c.gr, c.ro, none⟩) c.L c.cr] 42) = w2
  intro hB2 hl2 ht2 hbw2 hs2
  clear hl1 ht1 hl0 ht0 hb12 hbs
  refine range_gives (gf := 72) (lb := #[.pointer (some ⟨w.heap.size + 3, 0, none⟩)]) rfl (enters_of Try.func72 (by kernel_rfl) rfl) (encs := encB) (xs := bnds c)
    (R := fun W => CrsBox W (w.heap.size + 3) c) (fun x => rfl) (fun W1' _ _ => bounds_gives (by omega) W1')
    (fun pre W => CrsBox W (w.heap.size + 3) c ∧ W.heap[w.heap.size + 1]? = some (.cells #[.bool false] 4 (0, 0)) ∧ W.cell? ⟨w.heap.size + 1 + 1, 0, none⟩ = some (.int .i64 c.L) ∧ Below w.heap.size w W)
    ?_ (fun pre W h => h.1) ⟨hB2, ht2, hl2, hbw2⟩
    (fun x a' W => ∃ Bx, w2.heap.size + 2 ≤ Bx ∧ W.heap[Bx]? = some (.cells #[.int .i64 x.2.1, .int .i64 x.2.2] 121 (0, 0)) ∧ a' = { tmps := #[.pointer (some ⟨b, 0, none⟩), .agg #[Value.slice (some ⟨c.ga, c.oa, none⟩) c.L c.ca, Value.slice (some ⟨c.gr, c.ro, none⟩) c.L c.cr], undef, .pointer (some ⟨w.heap.size, 0, none⟩), .pointer (some ⟨w.heap.size + 1, 0, none⟩), .pointer (some ⟨w.heap.size + 1 + 1, 0, none⟩), .int .i64 (x.1 : Nat), .pointer (some ⟨Bx, 0, none⟩), .pointer (some ⟨w.heap.size, 0, none⟩), Value.slice (some ⟨c.ga, c.oa, none⟩) c.L c.ca, .int .i64 c.L, .int .i64 c.L, .bool false, .bool false, .int .i64 c.L, .pointer (some ⟨b, 0, none⟩), .pointer (some ⟨b, 0, none⟩), .pointer (some ⟨b, 0, none⟩), .int .i64 N, .bool false, .bool false, .bool false, .pointer (some ⟨w.heap.size, 1, none⟩), Value.slice (some ⟨c.gr, c.ro, none⟩) c.L c.cr, .int .i64 c.L, .int .i64 c.L, .bool false, .bool false, .agg #[Value.slice (some ⟨c.ga, c.oa, none⟩) c.L c.ca, Value.slice (some ⟨c.gr, c.ro, none⟩) c.L c.cr], .func (.func 72) #[] #[.pointer (some ⟨w.heap.size + 3, 0, none⟩)], .int .i64 (x.1 : Nat), .agg #[.int .i64 x.2.1, .int .i64 x.2.2], undef, undef, undef, undef, undef, undef, undef, undef, undef, undef, undef, undef, undef, undef, undef, undef, undef, undef, undef, undef, undef, undef, undef, undef, undef, undef, undef, undef], defers := [] })
    ?_ ?assign ?body ?done
  · rintro pre W W' ⟨k1, k2, k3, k4⟩ hb
    have z1 := cell_lt k1.own.c0
    refine ⟨⟨k1.own.below hb (by omega), k1.inn.below hb (by omega) (by omega)⟩, (hb.block _ (by omega)).trans k2, (hb.cell (p := ⟨w.heap.size + 1 + 1, 0, none⟩) (by show w.heap.size + 1 + 1 < _; omega)).trans k3, k4.trans (hb.mono (by omega))⟩
  · rintro x a' W W' ⟨Bx, k1, k2, k3⟩ hf
    exact ⟨Bx, k1, (hf.2 Bx k1 (Array.getElem?_eq_some_iff.1 k2).1).trans k2, k3⟩
  case assign =>
    intro l2 pre x W K hi hsz2 hK
    simp only [encB]
    gi_wp2
    exact hK _ _ ((Below.refl _ W).alloc (Nat.le_refl _) _) ⟨W.heap.size, by omega, World.alloc_heap_new W _, rfl⟩
  case body =>
    rintro l2 pre x a' W ⟨k1, k2, k3, k4⟩ ⟨Bx, hBx, hbx, rfl⟩ hsz2 ⟨post, hpost⟩
    obtain ⟨k, hk, hkx⟩ : ∃ k, k < c.L ∧ x = bndAt c k := by
      have hm : x ∈ bnds c := by rw [hpost]; simp
      unfold bnds bndTo at hm
      rw [List.mem_map] at hm
      obtain ⟨k, hk, rfl⟩ := hm
      exact ⟨k, by simpa using hk, rfl⟩
    obtain ⟨u1, u2, u3⟩ := hallk.out k hk
    have hlst : Keep (k + 1 = c.L → c.R k = c.A k + 1) := ⟨fun h => by have := hlastk.out; rwa [show c.L - 1 = k by omega] at this⟩
    obtain ⟨a, ha⟩ : ∃ a, Keep (c.A k = a) := ⟨_, ⟨rfl⟩⟩
    obtain ⟨r, hr⟩ : ∃ r, Keep (c.R k = r) := ⟨_, ⟨rfl⟩⟩
    subst hkx
    simp only [bndAt] at hbx ⊢
    rw [ha.out, hr.out] at hbx u2 hlst ⊢
    rw [ha.out] at u1
    rw [hr.out] at u3
    have c0 : W.cell? ⟨Bx, 0, none⟩ = some (.int .i64 a) := by simp [World.cell?, hbx]
    have c1 : W.cell? ⟨Bx, 1, none⟩ = some (.int .i64 r) := by simp [World.cell?, hbx]
    have w1 : IntKind.i64.wrap ((c.L : Int) + 1) = (c.L : Int) + 1 := IntWalk.i64_in _ (by omega)
    have w2' : IntKind.i64.wrap (a + 1) = a + 1 := IntWalk.i64_in _ (by omega)
    have v1 : ¬ a < -1 := by omega
    have v2 : ¬ r ≤ a := by omega
    have v3 : ¬ (c.L : Int) + 1 < r := by omega
    by_cases hkl : k + 1 = c.L
    · have e1 := hlst.out hkl
      have e2 : (((k + 1 : Nat) : Int) == (c.L : Int)) = true := by rw [beq_iff_eq]; omega
      have e3 : (r == a + 1) = true := by rw [beq_iff_eq]; omega
      clear e1
      gi_wp2
      exact From.refl _ _
    · have e2 : (((k + 1 : Nat) : Int) == (c.L : Int)) = false := by rw [beq_eq_false_iff_ne]; omega
      gi_wp2
      exact From.refl _ _
  case done =>
    intro W ⟨k1, k2, k3, k4⟩ hszW hD
    have t0 : W.cell? ⟨w.heap.size + 1, 0, none⟩ = some (.bool false) := by simp [World.cell?, k2]
    have t1 : W.frozen? ⟨w.heap.size + 1, 0, none⟩ = false := by simp [World.frozen?, k2]
    gi_wp2
    have hD2 : (W.setCell ⟨w.heap.size + 1, 0, none⟩ (.bool true)).heap[w2.heap.size]? = some (.deferred (some [])) :=
      (Below.heap_setCell W ⟨w.heap.size + 1, 0, none⟩ _ _ (by simp; omega)).trans hD
    have r0 : (W.setCell ⟨w.heap.size + 1, 0, none⟩ (.bool true)).cell? ⟨w.heap.size + 1, 0, none⟩ = some (.bool true) := by go_simp
    have hbW : Below w.heap.size w (W.setCell ⟨w.heap.size + 1, 0, none⟩ (.bool true)) := k4.setCell (p := ⟨w.heap.size + 1, 0, none⟩) (by simp) _
    have hsW : w.heap.size + 1 < (W.setCell ⟨w.heap.size + 1, 0, none⟩ (.bool true)).heap.size := by simp [World.setCell]; omega
    revert hD2 r0 hbW hsW
    generalize W.setCell ⟨w.heap.size + 1, 0, none⟩ (.bool true) = W3
    intro hD2 r0 hbW hsW
    have hlaid : Laid [w2.heap.size] w2.heap.size W3 := ⟨by simp, by simp only [List.mem_singleton]; rintro D rfl; exact ⟨Nat.le_refl _, hD2⟩⟩
    refine leaves_marks [w2.heap.size] W3 hlaid fun w' hb' => ⟨.bool true, ?_, rfl, hbW.trans (hb'.mono (by omega))⟩
    have r1 := (hb'.cell (p := ⟨w.heap.size + 1, 0, none⟩) (by show w.heap.size + 1 < _; omega)).trans r0
    first
      | (rw [results_cell rfl]; go_simp)
      | (simp [results, Try.results63, go_sem]; go_simp)
end Go.Proofs.Ytbmfipjnfbnjgaa
