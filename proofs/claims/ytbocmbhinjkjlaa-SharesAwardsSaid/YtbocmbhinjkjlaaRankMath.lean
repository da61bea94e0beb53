/- The place of an element in an ascending list, counted; Compare of the program. -/
import Derived.Test.YtbocmbhinjkjlaaSortedFn
set_option linter.unusedSimpArgs false
set_option linter.unusedVariables false
namespace Go.Proofs.Ytbocmbhinjkjlaa
open Go Go.Proofs Go.RowKit Go.Seq
def sameP (y x : Int × Int) : Bool := x.1 == y.1 && x.2 == y.2
def lessP (y x : Int × Int) : Bool := !sameP y x && decide (x.1 * y.2 < y.1 * x.2)
theorem sameP_iff {x y : Int × Int} : sameP y x = true ↔ x = y := by
  obtain ⟨a, b⟩ := x
  obtain ⟨c, d⟩ := y
  simp [sameP]
theorem countP_take {p : Int × Int → Bool} {l : Pts} {k : Nat} (h : k < l.length) : (l.take (k + 1)).countP p = (l.take k).countP p + (if p (l.getD k (0, 0)) = true then 1 else 0) := by
  have e : l.take (k + 1) = l.take k ++ [l.getD k (0, 0)] := by
    rw [List.take_add_one, List.getElem?_eq_getElem h, List.getD_eq_getElem?_getD, List.getElem?_eq_getElem h]; rfl
  rw [e, List.countP_append, List.countP_singleton]
theorem okT_same {x y : Int × Int} (hx : okT x = true) (hy : okT y = true) (e : x.1 * y.2 = y.1 * x.2) : x = y := by
  obtain ⟨h1, _, _, _, h5⟩ := okT_bounds hx
  obtain ⟨k1, _, _, _, k5⟩ := okT_bounds hy
  have r := red_same h1 k1 e
  have a := red_self h1 h5
  have b := red_self k1 k5
  obtain ⟨n, d⟩ := x
  obtain ⟨m, q⟩ := y
  simp only at *
  rw [a.1, a.2, b.1, b.2] at r
  rw [r.1, r.2]
theorem countP_le_length (p : Int × Int → Bool) (l : Pts) : l.countP p ≤ l.length := List.countP_le_length
theorem countP_or (p q : Int × Int → Bool) : ∀ l : Pts, l.countP (fun x => p x || q x) ≤ l.countP p + l.countP q
  | [] => by simp
  | x :: l => by
    have ih := countP_or p q l
    simp only [List.countP_cons]
    cases p x <;> cases q x <;> simp <;> omega
theorem rank {l o : Pts} (ha : Asc l o) (hok : ∀ z ∈ l, okT z = true) {i : Nat} (hi : i < o.length) :
    l.countP (lessP (o.getD i (0, 0))) ≤ i ∧ i < l.countP (lessP (o.getD i (0, 0))) + l.countP (sameP (o.getD i (0, 0))) := by
  have hoo : ∀ z ∈ o, okT z = true := fun z hz => hok z (ha.perm.mem_iff.1 hz)
  rw [← ha.perm.countP_eq, ← ha.perm.countP_eq]
  have hord := ha.ord
  generalize hy : o.getD i (0, 0) = y
  have hyo : okT y = true := by rw [← hy]; exact hoo _ (getp hi)
  refine ⟨?_, ?_⟩
  · have e : o.countP (lessP y) = (o.take i).countP (lessP y) + (o.drop i).countP (lessP y) := by
      rw [← List.countP_append, List.take_append_drop]
    have e0 : (o.drop i).countP (lessP y) = 0 := by
      rw [List.countP_eq_zero]
      intro z hz
      obtain ⟨j, hj, rfl⟩ := List.mem_iff_getElem.1 hz
      rw [List.length_drop] at hj
      rw [List.getElem_drop]
      have hz' : o[i + j]'(by omega) = o.getD (i + j) (0, 0) := by
        rw [List.getD_eq_getElem?_getD, List.getElem?_eq_getElem (by omega)]; rfl
      rw [hz']
      rcases Nat.eq_zero_or_pos j with h0 | h0
      · subst h0
        rw [Nat.add_zero, hy]
        simp [lessP]
      · have := hord i (i + j) (by omega) (by omega)
        rw [hy] at this
        simp only [lessP, Bool.and_eq_true, decide_eq_true_eq, not_and]
        exact fun _ => this
    have hle := countP_le_length (lessP y) (o.take i)
    rw [List.length_take] at hle
    omega
  · have e : o.countP (fun x => lessP y x || sameP y x) = (o.take (i + 1)).countP (fun x => lessP y x || sameP y x) + (o.drop (i + 1)).countP (fun x => lessP y x || sameP y x) := by
      rw [← List.countP_append, List.take_append_drop]
    have e1 : (o.take (i + 1)).countP (fun x => lessP y x || sameP y x) = (o.take (i + 1)).length := by
      rw [List.countP_eq_length]
      intro z hz
      obtain ⟨j, hj, rfl⟩ := List.mem_iff_getElem.1 hz
      rw [List.length_take] at hj
      rw [List.getElem_take]
      have hz' : o[j]'(by omega) = o.getD j (0, 0) := by
        rw [List.getD_eq_getElem?_getD, List.getElem?_eq_getElem (by omega)]; rfl
      rw [hz']
      have hzo : okT (o.getD j (0, 0)) = true := hoo _ (getp (by omega))
      cases hs : sameP y (o.getD j (0, 0)) with
      | true => simp
      | false =>
        rcases Nat.lt_or_ge j i with h0 | h0
        · have := hord j i h0 hi
          rw [hy] at this
          have hne : o.getD j (0, 0) ≠ y := fun e => by rw [sameP_iff.2 e] at hs; cases hs
          have hn2 : ¬ (o.getD j (0, 0)).1 * y.2 = y.1 * (o.getD j (0, 0)).2 := fun e => hne (okT_same hzo hyo e)
          unfold lessP
          rw [hs]
          simp only [Bool.not_false, Bool.true_and, Bool.or_false, decide_eq_true_eq]
          omega
        · have : j = i := by omega
          subst this
          rw [hy, sameP_iff.2 rfl] at hs; cases hs
    have h3 := countP_or (lessP y) (sameP y) o
    rw [List.length_take] at e1
    omega
set_option maxHeartbeats 1000000 in
set_option maxRecDepth 100000 in
theorem compareFn_no {f g : Int × Int} (hf : In64 f.1 ∧ In64 f.2) (hg : In64 g.1 ∧ In64 g.2) (hno : (okT f && okT g) = false) (w : World) :
    Calls Try.prog 54 #[fracV f.1 f.2, fracV g.1 g.2] w fun e w' => e = .returned (.tuple #[.int .i64 0, .int .i64 2]) ∧ Below w.heap.size w w' := by
  obtain ⟨n, d⟩ := f
  obtain ⟨m, q⟩ := g
  simp only at hf hg
  have hD : okTs [(n, d), (m, q)] = false := by
    refine decide_eq_false fun h => ?_
    rw [h.2 (n, d) (by simp), h.2 (m, q) (by simp)] at hno
    cases hno
  have q83 : ∀ (W : World) (G c : Nat), BlkAt W G #[.int .i64 n, .int .i64 d, .int .i64 m, .int .i64 q] 37 → Calls Try.prog 83 #[.slice (some ⟨G, 0, none⟩) 2 c] W fun e w' => e = .returned (.bool false) ∧ Below W.heap.size W w' := fun W G c hb => by
    have hv : FracsO W (.slice (some ⟨G, 0, none⟩) 2 c) [(n, d), (m, q)] := ⟨_, c, rfl, fun k hk => ⟨G, 0, rfl, by
      simp only [List.length_cons, List.length_nil] at hk
      rw [Nat.zero_add, hb.cell]
      rcases (by omega : k = 0 ∨ k = 1) with rfl | rfl <;> rfl, by
      simp only [List.length_cons, List.length_nil] at hk
      rw [Nat.zero_add, hb.cell]
      rcases (by omega : k = 0 ∨ k = 1) with rfl | rfl <;> rfl⟩⟩
    have := areTerms_any hv (fun z hz => by simp only [List.mem_cons, List.not_mem_nil, or_false] at hz; rcases hz with rfl | rfl <;> assumption) (by simp)
    rw [hD] at this
    exact this
  unfold fracV
  clear hf hg hno hD
  go_enter Try.func54, Try.ntmps54
  go_wp2_with (go_at_call 83; (with_reducible refine (q83 _ _ _ (BlkAt.at (by simp) _ _)).mono ?_); rintro e w5 ⟨rfl, hb5⟩)
  go_ret2
  exact ⟨rfl, ((((Below.refl _ w).alloc (Nat.le_refl _) _).alloc (by simp) _).alloc (by simp; omega) _).trans (hb5.mono (by simp; omega))⟩
set_option maxHeartbeats 1000000 in
set_option maxRecDepth 100000 in
theorem compareFn_yes {f g : Int × Int} (hf : okT f = true) (hg : okT g = true) (w : World) :
    Calls Try.prog 54 #[fracV f.1 f.2, fracV g.1 g.2] w fun e w' => e = .returned (.tuple #[.int .i64 (cmpI (f.1 * g.2) (g.1 * f.2)), .int .i64 0]) ∧ Below w.heap.size w w' := by
  have k1 := okT_mul hf hg
  have k2 := okT_mul hg hf
  obtain ⟨n, d⟩ := f
  obtain ⟨m, q⟩ := g
  simp only at *
  have hD : okTs [(n, d), (m, q)] = true := decide_eq_true ⟨by simp, fun z hz => by simp only [List.mem_cons, List.not_mem_nil, or_false] at hz; rcases hz with rfl | rfl <;> assumption⟩
  obtain ⟨b1, b2, b3, b4, _⟩ := okT_bounds hf
  obtain ⟨b5, b6, b7, b8, _⟩ := okT_bounds hg
  simp only at b1 b2 b3 b4 b5 b6 b7 b8
  have hw : Wide [(n, d), (m, q)] := fun z hz => by
    simp only [List.mem_cons, List.not_mem_nil, or_false] at hz
    rcases hz with rfl | rfl
    · exact ⟨⟨by show -9223372036854775808 ≤ n; omega, by show n < 9223372036854775808; omega⟩, ⟨by show -9223372036854775808 ≤ d; omega, by show d < 9223372036854775808; omega⟩⟩
    · exact ⟨⟨by show -9223372036854775808 ≤ m; omega, by show m < 9223372036854775808; omega⟩, ⟨by show -9223372036854775808 ≤ q; omega, by show q < 9223372036854775808; omega⟩⟩
  have q83 : ∀ (W : World) (G c : Nat), BlkAt W G #[.int .i64 n, .int .i64 d, .int .i64 m, .int .i64 q] 37 → Calls Try.prog 83 #[.slice (some ⟨G, 0, none⟩) 2 c] W fun e w' => e = .returned (.bool true) ∧ Below W.heap.size W w' := fun W G c hb => by
    have hv : FracsO W (.slice (some ⟨G, 0, none⟩) 2 c) [(n, d), (m, q)] := ⟨_, c, rfl, fun k hk => ⟨G, 0, rfl, by
      simp only [List.length_cons, List.length_nil] at hk
      rw [Nat.zero_add, hb.cell]
      rcases (by omega : k = 0 ∨ k = 1) with rfl | rfl <;> rfl, by
      simp only [List.length_cons, List.length_nil] at hk
      rw [Nat.zero_add, hb.cell]
      rcases (by omega : k = 0 ∨ k = 1) with rfl | rfl <;> rfl⟩⟩
    have := areTerms_any hv hw (by simp)
    rw [hD] at this
    exact this
  have q87 := fun w => compare_any (a := n) (b := d) (c := m) (d := q) k1 k2 w
  generalize cmpI (n * q) (m * d) = R at *
  unfold fracV at *
  clear hf hg hD hw k1 k2 b1 b2 b3 b4 b5 b6 b7 b8
  go_enter Try.func54, Try.ntmps54
  go_wp2_with (first
    | (go_at_call 83; (with_reducible refine (q83 _ _ _ (BlkAt.at (by simp) _ _)).mono ?_); rintro e w5 ⟨rfl, hb5⟩
       have o2 := (Own2.at (W := w) (g := w.heap.size) rfl (.int .i64 n) (.int .i64 d) 37).below (W' := (w.alloc (.cells #[.int .i64 n, .int .i64 d] 37) |>.alloc (.cells #[.int .i64 m, .int .i64 q] 37)).alloc (.cells #[.int .i64 n, .int .i64 d, .int .i64 m, .int .i64 q] 37)) (((Below.refl _ _).alloc (Nat.le_refl _) _).alloc (by simp) _) (by simp)
       have o3 := (Own2.at (W := w.alloc (.cells #[.int .i64 n, .int .i64 d] 37)) (g := w.heap.size + 1) (by simp) (.int .i64 m) (.int .i64 q) 37).below (W' := (w.alloc (.cells #[.int .i64 n, .int .i64 d] 37) |>.alloc (.cells #[.int .i64 m, .int .i64 q] 37)).alloc (.cells #[.int .i64 n, .int .i64 d, .int .i64 m, .int .i64 q] 37)) ((Below.refl _ _).alloc (Nat.le_refl _) _) (by simp)
       obtain ⟨c20, c21, f20, f21⟩ := o2.after hb5
       obtain ⟨c30, c31, f30, f31⟩ := o3.after hb5
       have hbw5 : Below w.heap.size w w5 := ((((Below.refl _ w).alloc (Nat.le_refl _) _).alloc (by simp) _).alloc (by simp; omega) _).trans (hb5.mono (by simp; omega))
       clear hb5)
    | (go_at_call 87; (with_reducible refine (q87 _).mono ?_); rintro e w6 ⟨rfl, hb6⟩))
  go_ret2
  exact ⟨rfl, hbw5.trans (hb6.mono hbw5.size)⟩
end Go.Proofs.Ytbocmbhinjkjlaa
