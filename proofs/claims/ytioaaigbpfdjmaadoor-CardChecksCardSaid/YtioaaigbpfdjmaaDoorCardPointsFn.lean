import Derived.Test.YtioaaigbpfdjmaaDoorReadCube
set_option linter.unusedSimpArgs false
set_option linter.unusedVariables false
namespace Go.Proofs.YtioaaigbpfdjmaaDoor
open Go Go.Proofs Go.RowKit
theorem dig_fit {s : ByteArray} {F V : Nat} (_hc : okCube s = true) (hF : fixB s F s.size) (hV : valB s V s.size) (p : Nat) : inSet F V p = inC s p := by
  rw [Bool.eq_iff_iff]
  simp only [inSet, beq_iff_eq, inC, List.all_eq_true, List.mem_range]
  constructor
  · intro h k hk
    have hb : (p &&& F).testBit k = V.testBit k := by rw [h]
    rw [Nat.testBit_and, hF, hV] at hb
    simp only [hk, decide_true, Bool.true_and] at hb
    rw [digB]
    revert hb
    cases (s.data.toList.getD k 0 == 45) <;> cases p.testBit k <;> cases (s.data.toList.getD k 0 == 49) <;> simp
  · intro h
    apply Nat.eq_of_testBit_eq
    intro k
    rw [Nat.testBit_and, hF, hV]
    by_cases hk : k < s.size
    · have hd := h k hk
      rw [digB] at hd
      have h49 : (s.data.toList.getD k 0 == 45) = true → (s.data.toList.getD k 0 == 49) = false := fun e => by
        rw [beq_iff_eq.1 e]; rfl
      simp only [hk, decide_true, Bool.true_and]
      revert hd h49
      cases (s.data.toList.getD k 0 == 45) <;> cases p.testBit k <;> cases (s.data.toList.getD k 0 == 49) <;> simp
    · simp [hk]
theorem filter_range (q : Nat → Bool) (N : Nat) : ∀ M, N ≤ M → (List.range M).filter (fun p => decide (p < N) && q p) = (List.range N).filter q
  | 0, h => by have : N = 0 := by omega
               subst this; rfl
  | M + 1, h => by
    rcases Nat.lt_or_ge M N with h' | h'
    · have : N = M + 1 := by omega
      subst this
      apply List.filter_congr
      intro x hx
      simp [List.mem_range.1 hx]
    · rw [List.range_succ, List.filter_append, filter_range q N M h']
      have : ¬ M < N := by omega
      simp [this]
theorem bits_pts {s : ByteArray} {F V a N : Nat} (hN : N ≤ 32) (hc : okCube s = true) (hF : fixB s F s.size) (hV : valB s V s.size) (ha : ∀ p, a.testBit p = (decide (p < N) && inSet F V p)) : bitsOf a = ptsTo s N := by
  unfold bitsOf ptsTo
  rw [← filter_range (inC s) N 32 hN]
  apply List.filter_congr
  intro p _
  rw [ha, dig_fit hc hF hV]
theorem own_less {w : World} {B B' : Nat} {e : TypeId} {size : Nat} {v : Value} {n : Nat} {xs : List Value} (h : w.ownsRow B e size v n xs) (hB : B' ≤ B) : w.ownsRow B' e size v n xs := by
  obtain ⟨h1, h2⟩ := h
  refine ⟨h1, ?_⟩
  rcases h2 with h2 | ⟨g, cap, cur, a, b, c⟩
  · exact .inl h2
  · exact .inr ⟨g, cap, cur, a, by omega, c⟩
set_option maxRecDepth 100000 in
theorem cardPoints_yes (s : ByteArray) (h1 : 1 ≤ s.size) (h5 : s.size ≤ 5) (N : Nat) (hN : N = 2 ^ s.size) (hc : okCube s = true) (w : World) (hT : TabW w) :
    Calls Tryd.prog 52 #[.string s] w fun e w' => ∃ v, e = .returned (.tuple #[v, .int .i64 0]) ∧ w'.ownsRow w.heap.size 3 1 v (ptsTo s N).length ((ptsTo s N).map vi) ∧ Below w.heap.size w w' := by
  have hpow : N ≤ 32 := hN ▸ Nat.pow_le_pow_right (n := 2) (by decide) h5
  go_enter Tryd.func52, Tryd.ntmps52
  go_wp2_with (first
    | (go_at_call 91; refine (read_any s h5 _).mono ?_; rintro e w1 ⟨⟨F, V, rfl, hfv⟩, hb1⟩
       obtain ⟨f1, f2, f3, f4⟩ := hfv hc)
    | (go_at_call 92; go_loud (
       refine (points_any F V f1 s.size N h5 hN _).mono ?_; rintro e w2 ⟨⟨a, ha, rfl, hbits⟩, hb2⟩
       have hw2 : Below w.heap.size w w2 := below_trans ((hb1).alloc hb1.size _) hb2 (by simp; exact Nat.le_succ_of_le hb1.size)
       have hp := bits_pts hpow hc f3 f4 hbits
       have hT2 := tab_below hT hw2
       have hz2 : w.heap.size ≤ w2.heap.size := hw2.size))
    | (go_at_call 78; go_loud (
       refine (list_any a ha _ hT2).mono ?_; rintro e w3 ⟨v, rfl, hown, hb3⟩
       rw [hp] at hown
       have hown' : w3.ownsRow w.heap.size 3 1 v (ptsTo s N).length ((ptsTo s N).map vi) := own_less hown hz2
       have hw3 : Below w.heap.size w w3 := below_trans hw2 hb3 hz2
       clear hown)))
  go_ret2
  exact ⟨_, rfl, hown', hw3⟩
end Go.Proofs.YtioaaigbpfdjmaaDoor
