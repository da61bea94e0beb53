import Derived.Test.YtioaaigbpfdjmaaDoorFlipMath
set_option linter.unusedSimpArgs false
set_option linter.unusedVariables false
namespace Go.Proofs.YtioaaigbpfdjmaaDoor
open Go Go.Proofs Go.RowKit
theorem flip_at : ∀ i, i < 5 → ∀ p, p < 32 → ∀ v, v < 32 → v.testBit i = false → ((p ^^^ 2 ^ i) &&& v == p &&& v) = true := by decide +kernel
theorem flip_in2 : ∀ n, n ≤ 5 → ∀ i, i < n → ∀ p, p < 2 ^ n → p ^^^ 2 ^ i < 2 ^ n := by decide +kernel
/-- A set that decides holds all the variables that count alone. -/
theorem sens_le_dig {b : Nat → Bool} {N n p v : Nat} (hn : n ≤ 5) (hN : N = 2 ^ n) (hp : p < N) (hv : v < 32) (hd : decN b N p v = true) : sensK b p n ≤ digN v := by
  have h32 : 2 ^ n ≤ 2 ^ 5 := Nat.pow_le_pow_right (by decide) hn
  unfold sensK digN
  have hsub : ∀ i, i ∈ List.range n → (b p != b (p ^^^ 2 ^ i)) = true → v.testBit i = true := by
    intro i hi h2
    rw [List.mem_range] at hi
    cases hb : v.testBit i
    · exfalso
      have hin := flip_at i (by omega) p (by omega) v hv hb
      have hx : p ^^^ 2 ^ i < N := by rw [hN]; exact flip_in2 n hn i hi p (by omega)
      have := List.all_eq_true.1 hd (p ^^^ 2 ^ i) (by rw [List.mem_range]; exact hx)
      rw [hin] at this
      simp at this h2
      exact h2 this.symm
    · rfl
  have h1 : ((List.range n).filter (fun i => b p != b (p ^^^ 2 ^ i))).length ≤ ((List.range n).filter v.testBit).length := by
    rw [← List.countP_eq_length_filter, ← List.countP_eq_length_filter]
    exact List.countP_mono_left hsub
  have h2 : ((List.range n).filter v.testBit).length ≤ ((List.range 5).filter v.testBit).length :=
    ((List.range_sublist.2 hn).filter _).length_le
  exact Nat.le_trans h1 h2
theorem sens_le_cert {b : Nat → Bool} {N n p : Nat} (hn : n ≤ 5) (hN : N = 2 ^ n) (hp : p < N) : ∀ k, k ≤ N → sensK b p n ≤ certK b N n p k
  | 0, _ => by simpa [certK] using sensK_le b p n
  | k + 1, hk => by
    have h32 : 2 ^ n ≤ 2 ^ 5 := Nat.pow_le_pow_right (by decide) hn
    rw [certK_push]
    have ih := sens_le_cert (b := b) hn hN hp k (by omega)
    cases hd : decN b N p k
    · exact ih
    · have := sens_le_dig hn hN hp (by omega) hd
      simp only [if_true]
      omega
theorem sensM_le_certM {b : Nat → Bool} {N n : Nat} (hn : n ≤ 5) (hN : N = 2 ^ n) : ∀ k, k ≤ N → sensM b n k ≤ certM b N n k
  | 0, _ => by simp [sensM, certM]
  | k + 1, hk => by
    have ih := sensM_le_certM (b := b) hn hN k (by omega)
    have := sens_le_cert (b := b) hn hN (show k < N by omega) N (Nat.le_refl _)
    rw [sensM_push, certM_push]
    omega
theorem dig_lt : ∀ n, n ≤ 5 → ∀ p, p < 2 ^ n → digN p ≤ n := by decide +kernel
theorem degN_len {R : Nat → Bool} {n : Nat} (hn : n ≤ 5) : ∀ k, k ≤ 2 ^ n → degN R k ≤ n
  | 0, _ => by simp [degN]
  | k + 1, hk => by
    rw [degN_push]
    have ih := degN_len (R := R) hn k (by omega)
    have := dig_lt n hn k (by omega)
    split <;> omega
/-! the complement -/
theorem ones_not {b c : Nat → Bool} {N : Nat} (h : ∀ q, q < N → c q = !b q) : ∀ k, k ≤ N → onesK b k + onesK c k = k
  | 0, _ => by simp [onesK]
  | k + 1, hk => by
    have ih := ones_not h k (by omega)
    rw [onesK_push, onesK_push, h k (by omega)]
    cases b k <;> simp <;> omega
theorem sens_not {b c : Nat → Bool} {N n p : Nat} (hn : n ≤ 5) (hN : N = 2 ^ n) (hp : p < N) (h : ∀ q, q < N → c q = !b q) : sensK c p n = sensK b p n := by
  unfold sensK
  congr 1
  apply List.filter_congr
  intro i hi
  rw [List.mem_range] at hi
  rw [h p hp, h _ (by rw [hN]; exact flip_in2 n hn i hi p (by omega))]
  cases b p <;> cases b (p ^^^ 2 ^ i) <;> rfl
theorem dec_not {b c : Nat → Bool} {N p v : Nat} (hp : p < N) (h : ∀ q, q < N → c q = !b q) : decN c N p v = decN b N p v := by
  unfold decN
  rw [Bool.eq_iff_iff, List.all_eq_true, List.all_eq_true]
  constructor
  · intro H q hq
    have := H q hq
    rw [List.mem_range] at hq
    rw [h q hq, h p hp] at this
    revert this
    cases b q <;> cases b p <;> simp
  · intro H q hq
    have := H q hq
    rw [List.mem_range] at hq
    rw [h q hq, h p hp]
    revert this
    cases b q <;> cases b p <;> simp
theorem cert_not {b c : Nat → Bool} {N n p : Nat} (hp : p < N) (h : ∀ q, q < N → c q = !b q) : ∀ k, certK c N n p k = certK b N n p k
  | 0 => rfl
  | k + 1 => by rw [certK_push, certK_push, cert_not hp h k, dec_not hp h]
theorem sensM_not {b c : Nat → Bool} {N n : Nat} (hn : n ≤ 5) (hN : N = 2 ^ n) (h : ∀ q, q < N → c q = !b q) : ∀ k, k ≤ N → sensM c n k = sensM b n k
  | 0, _ => rfl
  | k + 1, hk => by rw [sensM_push, sensM_push, sensM_not hn hN h k (by omega), sens_not hn hN (by omega) h]
theorem certM_not {b c : Nat → Bool} {N n : Nat} (h : ∀ q, q < N → c q = !b q) : ∀ k, k ≤ N → certM c N n k = certM b N n k
  | 0, _ => rfl
  | k + 1, hk => by rw [certM_push, certM_push, certM_not h k (by omega), cert_not (by omega) h]
theorem xs_all_true : ∀ q, q < 32 → xs (fun r => sub r q) (fun _ => true) 32 = (q == 0) := by decide +kernel
theorem rnd_not {b c : Nat → Bool} {n q : Nat} (hn : n ≤ 5) (hq : q < 2 ^ n) (h : ∀ q, q < 2 ^ n → c q = !b q) : rnd c n q = Bool.xor (rnd b n q) (q == 0) := by
  have h32 : 2 ^ n ≤ 2 ^ 5 := Nat.pow_le_pow_right (by decide) hn
  rw [rnd_congr hn hq (h := fun r => Bool.xor (b r) true) (fun r hr => by rw [h r hr]; cases b r <;> rfl), rnd_all _ hn hq, rnd_all _ hn hq, xs_xor2, xs_all_true q (by omega)]
theorem degN_not {b c : Nat → Bool} {n : Nat} (hn : n ≤ 5) (h : ∀ q, q < 2 ^ n → c q = !b q) : ∀ k, k ≤ 2 ^ n → degN (rnd c n) k = degN (rnd b n) k
  | 0, _ => rfl
  | k + 1, hk => by
    rw [degN_push, degN_push, degN_not hn h k (by omega), rnd_not hn (by omega) h]
    by_cases e : k = 0
    · subst e
      have : digN 0 = 0 := by decide
      rw [this]
      cases rnd b n 0 <;> simp
    · have : (k == 0) = false := by rw [beq_eq_false_iff_ne]; exact e
      rw [this, Bool.xor_false]
/-! constant functions -/
def constB (b : Nat → Bool) (N : Nat) : Prop := ∀ q, q < N → b q = b 0
theorem ones_zero {b : Nat → Bool} {N : Nat} : onesK b N = 0 ↔ ∀ q, q < N → b q = false := by
  unfold onesK
  rw [List.length_eq_zero_iff, List.filter_eq_nil_iff]
  constructor
  · intro h q hq; simpa using h q (by rw [List.mem_range]; exact hq)
  · intro h q hq; rw [List.mem_range] at hq; simp [h q hq]
theorem ones_all {b : Nat → Bool} {N : Nat} : onesK b N = N ↔ ∀ q, q < N → b q = true := by
  have h1 := ones_not (b := b) (c := fun q => !b q) (N := N) (fun q _ => rfl) N (Nat.le_refl _)
  have h2 := ones_zero (b := fun q => !b q) (N := N)
  constructor
  · intro h q hq
    have := h2.1 (by omega) q hq
    simpa using this
  · intro h
    have := h2.2 (fun q hq => by simp [h q hq])
    omega
theorem const_ones {b : Nat → Bool} {N : Nat} (h1 : 1 ≤ N) : (onesK b N = 0 ∨ onesK b N = N) ↔ constB b N := by
  rw [ones_zero, ones_all]
  constructor
  · rintro (h | h) q hq
    · rw [h q hq, h 0 (by omega)]
    · rw [h q hq, h 0 (by omega)]
  · intro h
    cases e : b 0
    · exact .inl fun q hq => by rw [h q hq, e]
    · exact .inr fun q hq => by rw [h q hq, e]
theorem sensM_zero {b : Nat → Bool} {n : Nat} : ∀ k, sensM b n k = 0 ↔ ∀ p, p < k → sensK b p n = 0
  | 0 => by simp [sensM]
  | k + 1 => by
    rw [sensM_push]
    have ih := sensM_zero (b := b) (n := n) k
    constructor
    · intro h p hp
      by_cases e : p = k
      · subst e; omega
      · exact ih.1 (by omega) p (by omega)
    · intro h
      have := h k (by omega)
      have := ih.2 fun p hp => h p (by omega)
      omega
theorem certM_zero {b : Nat → Bool} {N n : Nat} : ∀ k, certM b N n k = 0 ↔ ∀ p, p < k → certK b N n p N = 0
  | 0 => by simp [certM]
  | k + 1 => by
    rw [certM_push]
    have ih := certM_zero (b := b) (N := N) (n := n) k
    constructor
    · intro h p hp
      by_cases e : p = k
      · subst e; omega
      · exact ih.1 (by omega) p (by omega)
    · intro h
      have := h k (by omega)
      have := ih.2 fun p hp => h p (by omega)
      omega
theorem sensK_zero {b : Nat → Bool} {p n : Nat} : sensK b p n = 0 ↔ ∀ i, i < n → b (p ^^^ 2 ^ i) = b p := by
  unfold sensK
  rw [List.length_eq_zero_iff, List.filter_eq_nil_iff]
  constructor
  · intro h i hi
    have := h i (by rw [List.mem_range]; exact hi)
    simp at this
    exact this.symm
  · intro h i hi
    rw [List.mem_range] at hi
    simp [h i hi]
theorem low_flip : ∀ p, 0 < p → p < 32 → ∃ i, i < 5 ∧ p.testBit i = true := by
  intro p h1 h2
  have : ∀ p, p < 32 → 0 < p → (List.range 5).any p.testBit = true := by decide +kernel
  have := this p h2 h1
  rw [List.any_eq_true] at this
  obtain ⟨i, hi, hb⟩ := this
  exact ⟨i, by rwa [List.mem_range] at hi, hb⟩
theorem bit_in : ∀ n, n ≤ 5 → ∀ p, p < 2 ^ n → ∀ i, i < 5 → p.testBit i = true → i < n := by decide +kernel
theorem const_sens {b : Nat → Bool} {n N : Nat} (hn : n ≤ 5) (hN : N = 2 ^ n) : sensM b n N = 0 ↔ constB b N := by
  have h32 : 2 ^ n ≤ 2 ^ 5 := Nat.pow_le_pow_right (by decide) hn
  rw [sensM_zero]
  constructor
  · intro h q
    induction q using Nat.strongRecOn with
    | ind q ih =>
      intro hq
      by_cases e : q = 0
      · rw [e]
      · obtain ⟨i, hi, hb⟩ := low_flip q (by omega) (by omega)
        have hin := bit_in n hn q (by omega) i hi hb
        obtain ⟨hl, _⟩ := flip_less hi (by omega) hb
        rw [← sensK_zero.1 (h q hq) i hin]
        exact ih _ hl (by omega)
  · intro h p hp
    rw [sensK_zero]
    intro i hi
    rw [h _ (by rw [hN]; exact flip_in2 n hn i hi p (by omega)), h p hp]
theorem dig_zero : ∀ v, v < 32 → digN v = 0 → v = 0 := by decide +kernel
theorem certK_zero {b : Nat → Bool} {N n p : Nat} (h1 : 1 ≤ n) (h32 : N ≤ 32) : ∀ k, k ≤ N → (certK b N n p k = 0 ↔ 0 < k ∧ decN b N p 0 = true)
  | 0, _ => by simp [certK]; omega
  | k + 1, hk => by
    have ih := certK_zero (b := b) (p := p) h1 h32 k (by omega)
    rw [certK_push]
    by_cases e : k = 0
    · subst e
      have d0 : digN 0 = 0 := by decide
      have c0 : certK b N n p 0 = n := rfl
      rw [d0, c0]
      cases hd : decN b N p 0 <;> simp <;> omega
    · have hk0 : digN k ≠ 0 := fun h => e (dig_zero k (by omega) h)
      constructor
      · intro h
        have : certK b N n p k = 0 := by
          cases hd : decN b N p k
          · rw [hd] at h; simpa using h
          · rw [hd] at h; simp only [if_true] at h; omega
        exact ⟨by omega, (ih.1 this).2⟩
      · intro h
        have := ih.2 ⟨by omega, h.2⟩
        rw [this]
        cases decN b N p k <;> simp
theorem dec_zero {b : Nat → Bool} {N p : Nat} (hp : p < N) : decN b N p 0 = true ↔ ∀ q, q < N → b q = b p := by
  unfold decN
  rw [List.all_eq_true]
  constructor
  · intro h q hq
    have := h q (by rw [List.mem_range]; exact hq)
    simpa using this
  · intro h q hq
    rw [List.mem_range] at hq
    simp [h q hq]
theorem const_cert {b : Nat → Bool} {n N : Nat} (h1 : 1 ≤ n) (hN1 : 1 ≤ N) (h32 : N ≤ 32) : certM b N n N = 0 ↔ constB b N := by
  rw [certM_zero]
  constructor
  · intro h q hq
    have := ((certK_zero h1 h32 N (Nat.le_refl _)).1 (h 0 (by omega))).2
    exact (dec_zero (by omega)).1 this q hq
  · intro h p hp
    exact (certK_zero h1 h32 N (Nat.le_refl _)).2 ⟨by omega, (dec_zero hp).2 fun q hq => by rw [h q hq, h p hp]⟩
theorem degN_zero {R : Nat → Bool} (h32 : ∀ k, k < 32 → True) : ∀ k, k ≤ 32 → (degN R k = 0 ↔ ∀ q, q < k → q ≠ 0 → R q = false)
  | 0, _ => by simp [degN]
  | k + 1, hk => by
    rw [degN_push]
    have ih := degN_zero (R := R) h32 k (by omega)
    constructor
    · intro h q hq hq0
      have hk' : degN R k = 0 := by split at h <;> omega
      by_cases e : q = k
      · subst e
        cases hr : R q
        · rfl
        · rw [hr] at h
          simp only [if_true] at h
          exact absurd (dig_zero q (by omega) (by omega)) hq0
      · exact ih.1 hk' q (by omega) hq0
    · intro h
      have h0 := ih.2 fun q hq hq0 => h q (by omega) hq0
      by_cases e : k = 0
      · subst e
        have d0 : digN 0 = 0 := by decide
        rw [h0, d0]; split <;> rfl
      · rw [h k (by omega) e, h0]; rfl
theorem const_deg {b : Nat → Bool} {n : Nat} (hn : n ≤ 5) : degN (rnd b n) (2 ^ n) = 0 ↔ constB b (2 ^ n) := by
  have h32 : 2 ^ n ≤ 2 ^ 5 := Nat.pow_le_pow_right (by decide) hn
  have hpos : 0 < 2 ^ n := Nat.two_pow_pos n
  rw [degN_zero (fun _ _ => trivial) _ (by omega)]
  constructor
  · intro h q hq
    have key : ∀ q, q < 2 ^ n → b q = rnd b n 0 := fun q hq => by
      rw [← xs_twice b (by omega : q < 32)]
      have e : xs (fun r => sub r q) (fun r => xs (fun t => sub t r) b 32) 32 = xs (fun r => r == 0) (rnd b n) 32 := by
        refine xs_congr 32 fun r hr => ?_
        cases hs : sub r q
        · have : (r == 0) = false := by
            rw [beq_eq_false_iff_ne]; rintro rfl
            unfold sub at hs; simp at hs
          rw [this]; rfl
        · have hle := sub_le hs
          rw [← rnd_all b hn (show r < 2 ^ n by omega)]
          by_cases e : r = 0
          · subst e; simp
          · have e2 : (r == 0) = false := by rw [beq_eq_false_iff_ne]; exact e
            rw [h r (by omega) e, e2]; rfl
      rw [e, xs_one 0 32 (by omega)]
    rw [key q hq, key 0 hpos]
  · intro h q hq hq0
    rw [rnd_congr hn hq (h := fun r => Bool.xor (Bool.xor (b 0) true) true) (fun r hr => by rw [h r hr]; cases b 0 <;> rfl)]
    rw [rnd_all _ hn hq, xs_xor2, xs_xor2, xs_all_true q (by omega)]
    have e0 : (q == 0) = false := by rw [beq_eq_false_iff_ne]; exact hq0
    rw [e0]
    cases b 0
    · rw [xs_none 32 (fun q _ => by simp)]; rfl
    · rw [xs_all_true q (by omega), e0]; rfl
end Go.Proofs.YtioaaigbpfdjmaaDoor
