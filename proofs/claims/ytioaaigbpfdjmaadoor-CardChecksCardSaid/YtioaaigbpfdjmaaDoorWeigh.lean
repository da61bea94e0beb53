import Derived.Test.YtioaaigbpfdjmaaDoorTotal
import Derived.Test.YtioaaigbpfdjmaaDoorMoved
set_option linter.unusedSimpArgs false
set_option linter.unusedVariables false
namespace Go.Proofs.YtioaaigbpfdjmaaDoor
open Go Go.Proofs Go.RowKit
set_option maxRecDepth 100000 in
theorem refTotal_any (s : ByteArray) (h40 : s.size ≤ 40) (w : World) :
    Calls Tryd.prog 37 #[.string s] w fun e w' => e = .returned (.bool (decide (totOf s ≠ 0))) ∧ w' = w := by
  obtain ⟨n, hn⟩ : ∃ n, Keep (varsOf s = n) := ⟨_, ⟨rfl⟩⟩
  go_enter Tryd.func37, Tryd.ntmps37
  go_wp2
  go_loop [3] (fun i => ∃ k : Nat, k ≤ s.size ∧ i = .int .i64 k ∧ (s.data.toList.take k).all (fun b => !(b == 45)) = true) (fun i => s.size - (intOf i).toNat)
  case atStart => exact ⟨0, by omega, rfl, by simp⟩
  case round =>
    obtain ⟨k, hk, rfl, hall⟩ := hrel
    by_cases hlt : k < s.size
    · by_cases h45 : (s[k].toNat : Int) = 45
      · have hD : totOf s = 0 := by
          have : hasDash s = true := by
            unfold hasDash
            rw [List.any_eq_true]
            refine ⟨s[k], ?_, ?_⟩
            · rw [ByteArray.getElem_eq_getElem_data]; simp
            · rw [u8_of (n := 45) (by omega) h45]; rfl
          unfold totOf
          rw [this]; rfl
        go_wp2
        go_ret
        exact ⟨by first | rfl | (rw [hD]; rfl), rfl⟩
      · have hb : (fun b : UInt8 => !(b == 45)) s[k] = true := by
          simp only [Bool.not_eq_true', beq_eq_false_iff_ne]
          intro hc
          rw [hc] at h45
          exact h45 rfl
        go_wp2
        exact ⟨⟨k + 1, by omega, by go_num, take_succ_all (p := fun b => !(b == 45)) hlt hall hb⟩, by simp [intOf]; omega⟩
    · have : k = s.size := by omega
      subst this
      have hD : Keep (totOf s = n) := ⟨by
        have e : s.data.toList.take s.size = s.data.toList := List.take_of_length_le (by simp)
        rw [e] at hall
        have : hasDash s = false := by
          unfold hasDash
          rw [List.any_eq_false]
          intro b hb
          have := List.all_eq_true.1 hall b hb
          simpa using this
        unfold totOf
        rw [this, hn.out]; rfl⟩
      clear hall
      go_wp2_with (go_at_call 19; refine (vars_any s h40 _).mono ?_; rintro e w ⟨rfl, rfl⟩; rw [hn.out])
      go_ret
      refine ⟨?_, rfl⟩
      rw [hD.out]
      have : decide (n ≠ 0) = decide (0 < n) := by
        rw [decide_eq_decide]; omega
      rw [this]
      rfl
/-- The sum of the weights at a point. -/
def sumW (p : Nat) (zs : List Int) : Nat → Int
  | 0 => 0
  | k + 1 => sumW p zs k + zs.getD k 0 * (bitN p k : Nat)
def smallW (zs : List Int) : Bool := zs.all fun z => decide (-1000000 ≤ z ∧ z ≤ 1000000)
theorem small_get {zs : List Int} (h : smallW zs = true) {k : Nat} (hk : k < zs.length) : -1000000 ≤ zs.getD k 0 ∧ zs.getD k 0 ≤ 1000000 := by
  have := List.all_eq_true.1 h _ (getz hk)
  simpa using this
theorem sumW_le (p : Nat) {zs : List Int} (h : smallW zs = true) : ∀ k, k ≤ zs.length → -(1000000 * (k : Int)) ≤ sumW p zs k ∧ sumW p zs k ≤ 1000000 * (k : Int)
  | 0, _ => by simp [sumW]
  | k + 1, hk => by
    obtain ⟨h1, h2⟩ := sumW_le p h k (by omega)
    obtain ⟨h3, h4⟩ := small_get h (k := k) (by omega)
    simp only [sumW]
    rcases bitN_two p k with hb | hb <;> rw [hb] <;> push_cast <;> omega
def CapOK (v : Value) : Prop := ∃ A l c, v = .slice A l c ∧ l ≤ c
theorem cap_own {w : World} {B : Nat} {e : TypeId} {size : Nat} {v : Value} {n : Nat} {xs : List Value} (h : w.ownsRow B e size v n xs) : CapOK v := by
  obtain ⟨h1, h2⟩ := h
  rcases h2 with ⟨rfl, h0⟩ | ⟨g, cap, cur, rfl, hg, hh, hn, _⟩
  · exact ⟨none, 0, 0, rfl, by omega⟩
  · exact ⟨_, _, _, rfl, hn⟩
set_option maxRecDepth 100000 in
theorem reaches_any {v : Value} {zs : List Int} {n p : Nat} {w : World} (hv : IntsAt w v zs) (hcap : CapOK v) (hl : Keep (zs.length = n + 1)) (hn5 : n ≤ 5) (hp : p < 32) (hs : smallW zs = true) :
    Calls Tryd.prog 86 #[v, .int .i64 p] w fun e w' => e = .returned (.bool (decide (zs.getD n 0 ≤ sumW p zs n))) ∧ w' = w := by
  obtain ⟨A, cap, rfl, hc⟩ := hv
  have hcap' : zs.length ≤ cap := by
    obtain ⟨A', l, c, h1, h2⟩ := hcap
    injection h1 with h1 h3 h4
    omega
  rw [hl.out] at hc hcap' ⊢
  obtain ⟨g, rfl, hgn⟩ := hc n (by omega)
  have hc' : Keep (∀ k, k < n + 1 → w.cell? ⟨g, k, none⟩ = some (.int .i64 (zs.getD k 0))) := ⟨fun k hk => by
    obtain ⟨g', h1, h2⟩ := hc k hk
    obtain rfl : g = g' := by injection h1 with h; injection h
    exact h2⟩
  have hsum : Keep (∀ k, k ≤ n → -5000000 ≤ sumW p zs k ∧ sumW p zs k ≤ 5000000) := ⟨fun k hk => by
    have := sumW_le p hs k (by have := hl.out; omega)
    omega⟩
  have hsm : Keep (∀ k, k < n + 1 → -1000000 ≤ zs.getD k 0 ∧ zs.getD k 0 ≤ 1000000) := ⟨fun k hk => small_get hs (by have := hl.out; omega)⟩
  obtain ⟨y, hy⟩ : ∃ y, Keep (zs.getD n 0 = y) := ⟨_, ⟨rfl⟩⟩
  rw [hy.out] at hgn ⊢
  clear hc hcap
  go_enter Tryd.func86, Tryd.ntmps86
  go_wp2
  go_loop [16, 6] (fun i a => ∃ (k : Nat) (m : Int), k ≤ n ∧ i = .int .i64 k ∧ a = .int .i64 m ∧ Keep (m = sumW p zs k)) (fun i _ => n - (intOf i).toNat)
  case atStart => exact ⟨0, 0, by omega, rfl, rfl, ⟨rfl⟩⟩
  case round =>
    obtain ⟨k, m, hk, rfl, rfl, hm⟩ := hrel
    by_cases hkn : k < n
    · have hg := hc'.out k (by omega)
      obtain ⟨z, hz⟩ : ∃ z, Keep (zs.getD k 0 = z) := ⟨_, ⟨rfl⟩⟩
      rw [hz.out] at hg
      have hz6 := hsm.out k (by omega)
      rw [hz.out] at hz6
      have hmb := hsum.out k (by omega)
      rw [← hm.out] at hmb
      have hbit := bit_i64 p k hp
      have hnext : Keep (sumW p zs (k + 1) = m + z * (bitN p k : Nat)) := ⟨by rw [sumW, hz.out, hm.out]⟩
      rcases bitN_two p k with hb | hb
      · rw [hb] at hbit hnext
        go_wp2
        exact ⟨⟨k + 1, m, by omega, by go_num, rfl, ⟨by rw [hnext.out]; simp⟩⟩, by simp [intOf]; omega⟩
      · rw [hb] at hbit hnext
        go_wp2
        exact ⟨⟨k + 1, m + z, by omega, by go_num, by go_num, ⟨by rw [hnext.out]; simp⟩⟩, by simp [intOf]; omega⟩
    · have : n = k := by omega
      subst this
      go_wp2
      go_ret
      exact ⟨by rw [← hm.out]; rfl, rfl⟩
theorem bit_of {a k : Nat} : (a &&& 2 ^ k != 0) = a.testBit k := by
  cases h : a.testBit k
  · have : a &&& 2 ^ k = 0 := by
      apply Nat.eq_of_testBit_eq
      intro i
      rw [Nat.testBit_and, Nat.testBit_two_pow, Nat.zero_testBit]
      by_cases hi : k = i
      · subst hi; simp [h]
      · simp [hi]
    rw [this]; rfl
  · rw [bne_iff_ne]
    intro h0
    have h2 : (a &&& 2 ^ k).testBit k = true := by rw [Nat.testBit_and, h, Nat.testBit_two_pow]; simp
    rw [h0, Nat.zero_testBit] at h2
    cases h2
theorem and_pow (a k : Nat) (ha : a < 4294967296) (hk : k < 32) : bits .and .u32 (a : Int) (2 ^ k % 4294967296) = ((a &&& 2 ^ k : Nat) : Int) := by
  have hp : 2 ^ k < 2 ^ 32 := Nat.pow_lt_pow_right (by decide) hk
  have e : ((2 : Int) ^ k % 4294967296) = ((2 ^ k : Nat) : Int) := by
    have : ((2 : Int) ^ k) = ((2 ^ k : Nat) : Int) := by push_cast; rfl
    rw [this]
    generalize 2 ^ k = q at hp
    omega
  rw [e]
  exact bits_and_u32_nat a (2 ^ k) ha (by omega)
set_option maxRecDepth 100000 in
theorem has_any (a k : Nat) (ha : a < 4294967296) (hk : k < 32) (w : World) :
    Calls Tryd.prog 76 #[.int .u32 a, .int .i64 k] w fun e w' => e = .returned (.bool (a.testBit k)) ∧ w' = w := by
  have hand := and_pow a k ha hk
  have hb : Keep ((((a &&& 2 ^ k : Nat) : Int) != 0) = a.testBit k) := ⟨by
    rw [← bit_of, Bool.eq_iff_iff]
    simp only [bne_iff_ne, ne_eq]
    omega⟩
  go_enter Tryd.func76, Tryd.ntmps76
  go_wp2_with (go_at_call 93; refine (single_any k hk _).mono ?_; rintro e w ⟨rfl, rfl⟩)
  go_ret
  exact ⟨by rw [← hb.out]; rfl, rfl⟩
set_option maxRecDepth 100000 in
theorem refWeights_any {v : Value} {zs : List Int} {n : Nat} {w : World} (hv : IntsAt w v zs) (hn5 : n ≤ 5) (hl : zs.length ≤ 1001) :
    Calls Tryd.prog 42 #[v, .int .i64 n] w fun e w' => e = .returned (.bool (smallW zs && decide (zs.length = n + 1))) ∧ Below w.heap.size w w' := by
  obtain ⟨A, cap, rfl, hc⟩ := hv
  go_enter Tryd.func42, Tryd.ntmps42
  go_wp2
  go_loopw [5] (fun i wr => ∃ k : Nat, k ≤ zs.length ∧ i = .int .i64 k ∧ smallW (zs.take k) = true ∧ Below w.heap.size w wr) (fun i _ => zs.length - (intOf i).toNat)
  case atStart => exact ⟨0, by omega, rfl, rfl, Below.refl _ _⟩
  case round =>
    obtain ⟨k, hk, rfl, hall, hbw⟩ := hrel
    by_cases hlt : k < zs.length
    · obtain ⟨g, rfl, hg⟩ := hc k hlt
      have hgr := cell_below hg hbw
      obtain ⟨z, hz⟩ : ∃ z, Keep (zs.getD k 0 = z) := ⟨_, ⟨rfl⟩⟩
      rw [hz.out] at hgr
      have hbad : ¬ (-1000000 ≤ z ∧ z ≤ 1000000) → smallW zs = false := fun h => by
        unfold smallW
        rw [List.all_eq_false]
        exact ⟨_, getz hlt, by rw [hz.out]; simpa using h⟩
      by_cases h0 : z < -1000000
      · have hD : smallW zs = false := hbad (by omega)
        clear hbad
        go_wp2
        go_ret
        exact ⟨by first | rfl | (rw [hD]; rfl), hbw⟩
      · by_cases h1 : 1000000 < z
        · have hD : smallW zs = false := hbad (by omega)
          clear hbad
          go_wp2
          go_ret
          exact ⟨by first | rfl | (rw [hD]; rfl), hbw⟩
        · clear hbad
          have hnext : Keep (smallW (zs.take (k + 1)) = true) := ⟨by
            unfold smallW at hall ⊢
            rw [takez hlt, List.all_append, hall, hz.out]
            simp
            omega⟩
          go_wp2
          exact ⟨⟨k + 1, by omega, by go_num, hnext.out, hbw⟩, by simp [intOf]; omega⟩
    · have : k = zs.length := by omega
      subst this
      rw [List.take_length] at hall
      have hD : Keep (smallW zs = true) := ⟨hall⟩
      clear hall
      go_wp2
      go_ret
      refine ⟨?_, hbw⟩
      rw [hD.out, Bool.true_and]
      have : decide (zs.length = n + 1) = ((zs.length : Int) == (n : Int) + 1) := by
        rw [Bool.eq_iff_iff]; simp; omega
      rw [this]
      rfl
end Go.Proofs.YtioaaigbpfdjmaaDoor
