set_option linter.unusedSimpArgs false
set_option linter.unusedVariables false
namespace Go.Proofs.YtioaaigbpfdjmaaDoor
/-- An odd number of the chosen ones below K. -/
def xs (c g : Nat → Bool) : Nat → Bool
  | 0 => false
  | k + 1 => Bool.xor (xs c g k) (c k && g k)
def sub (q p : Nat) : Bool := q &&& p == q
/-- The round of a variable. -/
def rnd (g : Nat → Bool) : Nat → Nat → Bool
  | 0, p => g p
  | i + 1, p => if p.testBit i then Bool.xor (rnd g i p) (rnd g i (p ^^^ 2 ^ i)) else rnd g i p
def cnd (i q p : Nat) : Bool := sub q p && (q / 2 ^ i == p / 2 ^ i)
theorem xs_xor (a b g : Nat → Bool) : ∀ K, xs (fun q => Bool.xor (a q) (b q)) g K = Bool.xor (xs a g K) (xs b g K)
  | 0 => rfl
  | K + 1 => by
    simp only [xs, xs_xor a b g K]
    cases xs a g K <;> cases xs b g K <;> cases a K <;> cases b K <;> cases g K <;> rfl
theorem xs_xor2 (a g h : Nat → Bool) : ∀ K, xs a (fun q => Bool.xor (g q) (h q)) K = Bool.xor (xs a g K) (xs a h K)
  | 0 => rfl
  | K + 1 => by
    simp only [xs, xs_xor2 a g h K]
    cases xs a g K <;> cases xs a h K <;> cases a K <;> cases g K <;> cases h K <;> rfl
theorem xs_congr {a b g h : Nat → Bool} : ∀ K, (∀ q, q < K → (a q && g q) = (b q && h q)) → xs a g K = xs b h K
  | 0, _ => rfl
  | K + 1, H => by simp only [xs, xs_congr K fun q hq => H q (by omega), H K (by omega)]
theorem xs_none {a g : Nat → Bool} : ∀ K, (∀ q, q < K → (a q && g q) = false) → xs a g K = false
  | 0, _ => rfl
  | K + 1, H => by simp only [xs, xs_none K fun q hq => H q (by omega), H K (by omega)]; rfl
theorem xs_one {g : Nat → Bool} (p : Nat) : ∀ K, p < K → xs (fun q => q == p) g K = g p
  | 0, h => by omega
  | K + 1, h => by
    simp only [xs]
    by_cases e : K = p
    · subst e
      have h0 : xs (fun q => q == K) g K = false := xs_none K fun q hq => by
        have : (q == K) = false := by rw [beq_eq_false_iff_ne]; omega
        rw [this]; rfl
      rw [h0]
      show Bool.xor false ((K == K) && g K) = g K
      rw [beq_self_eq_true]; cases g K <;> rfl
    · rw [xs_one p K (by omega)]
      have e2 : (K == p) = false := by rw [beq_eq_false_iff_ne]; exact e
      show Bool.xor (g p) ((K == p) && g K) = g p
      rw [e2]; cases g p <;> rfl
theorem xs_more {a g : Nat → Bool} (k : Nat) : ∀ K, k ≤ K → (∀ q, k ≤ q → q < K → (a q && g q) = false) → xs a g K = xs a g k
  | 0, h, _ => by rw [show k = 0 by omega]
  | K + 1, h, H => by
    by_cases e : k = K + 1
    · rw [e]
    · simp only [xs, H K (by omega) (by omega), xs_more k K (by omega) fun q h1 h2 => H q h1 (by omega)]
      simp
theorem cnd_step : ∀ i, i < 5 → ∀ p, p < 32 → ∀ q, q < 32 → cnd (i + 1) q p = if p.testBit i then Bool.xor (cnd i q p) (cnd i q (p ^^^ 2 ^ i)) else cnd i q p := by decide +kernel
theorem flip_lt : ∀ i, i < 5 → ∀ p, p < 32 → p ^^^ 2 ^ i < 32 := by decide +kernel
theorem cnd_zero (q p : Nat) : cnd 0 q p = (q == p) := by
  unfold cnd sub
  by_cases h : q = p
  · subst h; simp
  · simp [h]
theorem rnd_xs (g : Nat → Bool) : ∀ i, i ≤ 5 → ∀ p, p < 32 → rnd g i p = xs (fun q => cnd i q p) g 32
  | 0, _, p, hp => by
    have e : (fun q => cnd 0 q p) = fun q => q == p := funext fun q => cnd_zero q p
    rw [e, xs_one p 32 hp]; rfl
  | i + 1, hi, p, hp => by
    have h1 := rnd_xs g i (by omega) p hp
    have h2 := rnd_xs g i (by omega) _ (flip_lt i (by omega) p hp)
    simp only [rnd]
    rw [h1, h2, ← xs_xor]
    split
    · rename_i hb
      refine xs_congr 32 fun q hq => ?_
      rw [cnd_step i (by omega) p hp q hq, if_pos hb]
    · rename_i hb
      refine xs_congr 32 fun q hq => ?_
      rw [cnd_step i (by omega) p hp q hq, if_neg hb]
theorem cnd_last : ∀ n, n ≤ 5 → ∀ p, p < 2 ^ n → ∀ q, q < 32 → cnd n q p = sub q p := by decide +kernel
/-- All rounds: an odd number of the points below. -/
theorem rnd_all (g : Nat → Bool) {n p : Nat} (hn : n ≤ 5) (hp : p < 2 ^ n) : rnd g n p = xs (fun q => sub q p) g 32 := by
  have h32 : 2 ^ n ≤ 2 ^ 5 := Nat.pow_le_pow_right (by decide) hn
  rw [rnd_xs g n hn p (by omega)]
  exact xs_congr 32 fun q hq => by rw [cnd_last n hn p hp q hq]
theorem sub_le {q p : Nat} (h : sub q p = true) : q ≤ p := by
  unfold sub at h
  have := beq_iff_eq.1 h
  rw [← this]
  exact Nat.and_le_right
theorem xs_short (g : Nat → Bool) {p : Nat} (hp : p < 32) : xs (fun q => sub q p) g 32 = xs (fun q => sub q p) g (p + 1) :=
  xs_more (p + 1) 32 (by omega) fun q h1 _ => by
    cases h : sub q p
    · rfl
    · have := sub_le h; omega
theorem fubini (a : Nat → Nat → Bool) (c g : Nat → Bool) : ∀ K L, xs c (fun q => xs (fun r => a r q) g L) K = xs (fun r => xs c (fun q => a r q) K) g L
  | 0, L => by
    have h0 : xs (fun r => xs c (fun q => a r q) 0) g L = false := xs_none L fun q _ => rfl
    rw [h0]; rfl
  | K + 1, L => by
    simp only [xs, fubini a c g K L]
    cases hc : c K
    · simp only [Bool.false_and, Bool.xor_false]
    · simp only [Bool.true_and]
      rw [← xs_xor]
theorem sub_sub : ∀ p, p < 32 → ∀ r, r < 32 → xs (fun q => sub q p) (fun q => sub r q) 32 = (r == p) := by decide +kernel
/-- The sum of the sum. -/
theorem xs_twice (g : Nat → Bool) {p : Nat} (hp : p < 32) : xs (fun q => sub q p) (fun q => xs (fun r => sub r q) g 32) 32 = g p := by
  rw [fubini (fun r q => sub r q), ← xs_one (g := g) p 32 hp]
  exact xs_congr 32 fun r hr => by rw [sub_sub p hp r hr]
theorem xs_flip (g : Nat → Bool) (p q K : Nat) (h : p < K) : xs (fun r => sub r q) (fun r => Bool.xor (g r) (r == p)) K = Bool.xor (xs (fun r => sub r q) g K) (sub p q) := by
  rw [xs_xor2]
  congr 1
  have e : xs (fun r => sub r q) (fun r => r == p) K = xs (fun r => r == p) (fun r => sub r q) K := xs_congr K fun r _ => Bool.and_comm _ _
  rw [e, xs_one p K h]
theorem xs_count (g : Nat → Bool) : ∀ K, xs (fun _ => true) g K = decide ((((List.range K).filter g).length) % 2 = 1)
  | 0 => rfl
  | K + 1 => by
    rw [xs, xs_count g K, List.range_succ, List.filter_append, List.length_append]
    generalize ((List.range K).filter g).length = m
    cases h : g K
    · simp [h]
    · simp only [Bool.and_true, List.filter_cons, h, if_true, List.filter_nil, List.length_cons, List.length_nil]
      rw [Bool.eq_iff_iff]
      have : m % 2 = 0 ∨ m % 2 = 1 := by omega
      rcases this with e | e <;> simp [e] <;> omega
end Go.Proofs.YtioaaigbpfdjmaaDoor
