import Derived.Test.YtioaaigbpfdjmaaDoorSize
import Derived.Test.YtioaaigbpfdjmaaDoorLeast
import Derived.Test.YtioaaigbpfdjmaaDoorRefPoints
set_option linter.unusedSimpArgs false
set_option linter.unusedVariables false
namespace Go.Proofs.YtioaaigbpfdjmaaDoor
open Go Go.Proofs Go.RowKit
def bitsOf (m : Nat) : List Nat := (List.range 32).filter m.testBit
theorem filter_first {p q : Nat → Bool} {k : Nat} (hp : p k = true) (hlt : ∀ i, i ≤ k → q i = false) (hl : ∀ i, i < k → p i = false) (he : ∀ i, k < i → p i = q i) :
    ∀ n, (n ≤ k → (List.range n).filter p = [] ∧ (List.range n).filter q = []) ∧ (k < n → (List.range n).filter p = k :: (List.range n).filter q)
  | 0 => ⟨fun _ => ⟨rfl, rfl⟩, fun h => by omega⟩
  | n + 1 => by
    obtain ⟨h1, h2⟩ := filter_first hp hlt hl he n
    refine ⟨fun hn => ?_, fun hn => ?_⟩
    · obtain ⟨a, b⟩ := h1 (by omega)
      rw [List.range_succ, List.filter_append, List.filter_append, a, b]
      simp [hl n (by omega), hlt n (by omega)]
    · rw [List.range_succ, List.filter_append, List.filter_append]
      rcases Nat.lt_or_ge k n with h | h
      · rw [h2 h]
        simp only [List.cons_append, List.filter_cons, List.filter_nil, he n h]
      · have : n = k := by omega
        subst this
        obtain ⟨a, b⟩ := h1 (Nat.le_refl _)
        rw [a, b]
        simp [hp, hlt n (Nat.le_refl _)]
theorem low_bits (k m i : Nat) : (2 ^ k * (2 * m + 1)).testBit i = (decide (i = k) || (decide (k < i) && m.testBit (i - (k + 1)))) ∧ (2 ^ k * (2 * m + 1) - 1).testBit i = (decide (i < k) || (decide (k < i) && m.testBit (i - (k + 1)))) := by
  have e1 : 2 ^ k * (2 * m + 1) = 2 ^ (k + 1) * m + 2 ^ k := by rw [Nat.pow_succ, Nat.mul_add, Nat.mul_one, Nat.mul_assoc]
  have hpos : 0 < 2 ^ k := Nat.two_pow_pos k
  have hlt : 2 ^ k < 2 ^ (k + 1) := by rw [Nat.pow_succ]; omega
  have e2 : 2 ^ k * (2 * m + 1) - 1 = 2 ^ (k + 1) * m + (2 ^ k - 1) := by omega
  rw [e2, e1, Nat.testBit_two_pow_mul_add _ hlt, Nat.testBit_two_pow_mul_add _ (by omega), Nat.testBit_two_pow, Nat.testBit_two_pow_sub_one]
  rcases Nat.lt_trichotomy i k with h | h | h
  · have a : i < k + 1 := by omega
    have b : ¬ i = k := by omega
    have c : ¬ k < i := by omega
    have d : ¬ k = i := by omega
    simp [a, b, c, h, d]
  · subst h; simp
  · have a : ¬ i < k + 1 := by omega
    have b : ¬ i = k := by omega
    have c : ¬ i < k := by omega
    simp [a, b, c, h]
theorem bits_step (x : Nat) (h0 : x ≠ 0) (hx : x < 4294967296) : bitsOf x = Lib.ctz 32 x :: bitsOf (x &&& (x - 1)) ∧ x &&& (x - 1) < x := by
  obtain ⟨m, hm, hk⟩ := Lib.ctzFrom_spec 32 x (by omega) hx
  have e : Lib.ctz 32 x = Lib.ctzFrom 32 x := by simp [Lib.ctz, h0]
  rw [e]
  generalize Lib.ctzFrom 32 x = k at hm hk
  have hb : ∀ i, (x &&& (x - 1)).testBit i = (decide (k < i) && m.testBit (i - (k + 1))) := fun i => by
    obtain ⟨l1, l2⟩ := low_bits k m i
    rw [Nat.testBit_and, hm, l1, l2]
    rcases Nat.lt_trichotomy i k with h | h | h
    · have b : ¬ i = k := by omega
      have c : ¬ k < i := by omega
      simp [b, c]
    · subst h; simp
    · have b : ¬ i = k := by omega
      have c : ¬ i < k := by omega
      simp [b, c, h]
  have hx' : ∀ i, x.testBit i = (decide (i = k) || (decide (k < i) && m.testBit (i - (k + 1)))) := fun i => by rw [hm]; exact (low_bits k m i).1
  refine ⟨?_, ?_⟩
  · refine (filter_first (p := x.testBit) (q := (x &&& (x - 1)).testBit) (k := k) ?_ ?_ ?_ ?_ 32).2 hk
    · rw [hx']; simp
    · intro i hi; rw [hb]; have c : ¬ k < i := by omega
      simp [c]
    · intro i hi; rw [hx']; have c : ¬ k < i := by omega
      have b : ¬ i = k := by omega
      simp [b, c]
    · intro i hi; rw [hx', hb]; have b : ¬ i = k := by omega
      simp [b, hi]
  · have := Nat.and_le_right (n := x) (m := x - 1)
    omega
theorem tab_below {w w' : World} (hT : TabW w) (b : Below w.heap.size w w') : TabW w' := fun i hi => by
  have h := hT i hi
  have h1 : 1 < w.heap.size := by
    rcases Nat.lt_or_ge 1 w.heap.size with h' | h'
    · exact h'
    · simp [World.cell?, Array.getElem?_eq_none h'] at h
  rw [b.cell (p := ⟨1, i, none⟩) h1]; exact h
theorem and_step (x : Nat) (hx : x < 4294967296) (h0 : x ≠ 0) : bits .and .u32 (x : Int) ((x : Int) - 1) = ((x &&& (x - 1) : Nat) : Int) := by
  have e : ((x : Int) - 1) = ((x - 1 : Nat) : Int) := by omega
  rw [e]
  exact bits_and_u32_nat x (x - 1) hx (by omega)
set_option maxRecDepth 100000 in
theorem list_any (m : Nat) (hm : m < 4294967296) (w : World) (hT : TabW w) :
    Calls Tryd.prog 78 #[.int .u32 m] w fun e w' => ∃ v, e = .returned v ∧ w'.ownsRow w.heap.size 3 1 v (bitsOf m).length ((bitsOf m).map vi) ∧ Below w.heap.size w w' := by
  obtain ⟨i0, hi, hz0, hz1, hz2⟩ := info_parts info3
  go_enter Tryd.func78, Tryd.ntmps78
  go_wp2_with (first
    | (go_at_call 77; refine (size_any m hm _).mono ?_; rintro e w1 ⟨⟨n, hn, rfl⟩, hb1⟩)
    | (at_make; go_loud (
       refine wpList_make_own _ rfl _ _ 27 rfl w.heap.size 3 i0 (.int .i64 0) 1 ty27 hi hz0 hz1 _ _ (n : Int) n rfl rfl rfl (by rw [hz2]; omega) (by unfold maxLen; omega) hb1.size ?_
       intro w2 hown2 hgrow2
       have hbw2 : Below w.heap.size w w2 := Below.grown hb1 hgrow2 hb1.size (by simp)
       clear hgrow2)))
  go_loopw [0, 3] (fun i v wr => ∃ (x : Nat) (acc : List Nat), x < 4294967296 ∧ i = .int .u32 x ∧ acc.length ≤ 4294967296 - x ∧ acc ++ bitsOf x = bitsOf m ∧ wr.ownsRow w.heap.size 3 1 v acc.length (acc.map vi) ∧ Below w.heap.size w wr) (fun i _ _ => (intOf i).toNat)
  case atStart => exact ⟨m, [], hm, rfl, by simp, rfl, hown2, hbw2⟩
  case round =>
    obtain ⟨x, acc, hx, rfl, hlen, hacc, hown, hbw⟩ := hrel
    have hbz : w.heap.size ≤ wr.heap.size := hbw.size
    have hTr : TabW wr := tab_below hT hbw
    by_cases h0 : x = 0
    · subst h0
      go_wp2
      go_ret
      have e0 : bitsOf 0 = [] := by decide
      rw [e0, List.append_nil] at hacc
      exact ⟨_, rfl, hacc ▸ hown, hbw⟩
    · obtain ⟨hs1, hs2⟩ := bits_step x h0 hx
      have hand := and_step x hx h0
      go_wp2_with (first
        | (go_at_call 101; refine (least_any x h0 hx _ hTr).mono ?_; rintro e w5 ⟨rfl, rfl⟩)
        | (at_builtin; go_loud (
           refine wpList_append_own _ rfl _ _ 27 rfl w.heap.size 3 i0 (.int .i64 0) 1 8 ty27 hi hz0 hz1 hz2 rfl (by decide) _ _ _ rfl (hown.alloc _) ⟨w5.heap.size, 0, none⟩ 1 1 [.int .i64 (Lib.ctz 32 x : Nat)] rfl rfl (cell_one_new _ _ _) (fun x hx => by simp at hx; subst hx; rfl) (by unfold maxLen; omega) (by omega) (by simp; omega) ?_
           intro v' w3 hown' hgrow3 hnil3
           have hbw3 : Below w.heap.size w w3 := Below.grown (hbw.alloc (by omega) _) hgrow3 (by simp; omega) (fun j hj => by have := (hown.lt _ hj).1; omega)
           have X : Side (w3.ownsRow w.heap.size 3 1 v' (acc.length + 1) (acc.map vi ++ [.int .i64 (Lib.ctz 32 x : Nat)]) ∧ Below w.heap.size w w3) := ⟨⟨hown', hbw3⟩⟩
           clear hown' hgrow3 hnil3 hbw3)))
      obtain ⟨q1, q2⟩ := X.out
      refine ⟨⟨x &&& (x - 1), acc ++ [Lib.ctz 32 x], by omega, rfl, by simp only [List.length_append, List.length_cons, List.length_nil]; omega, by rw [List.append_assoc, ← hacc, hs1]; rfl, ?_, q2⟩, by simp [intOf]; omega⟩
      simp only [List.length_append, List.map_append, List.length_cons, List.length_nil, List.map_cons, List.map_nil]
      exact q1
end Go.Proofs.YtioaaigbpfdjmaaDoor
