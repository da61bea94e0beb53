import Derived.Test.YtioaaigbpfdjmaaDoorRefSum
import Derived.Test.YtioaaigbpfdjmaaDoorMeasMath
set_option linter.unusedSimpArgs false
set_option linter.unusedVariables false
namespace Go.Proofs.YtioaaigbpfdjmaaDoor
open Go Go.Proofs Go.RowKit
/-- A total function of n variables. -/
def FnOK (f : ByteArray) (n : Nat) : Prop := f.size = 2 ^ n ∧ ∀ q (h : q < f.size), f[q] = 48 ∨ f[q] = 49
theorem fn_list {f : ByteArray} {n : Nat} (h : FnOK f n) : ∀ b ∈ f.data.toList, b = 48 ∨ b = 49 := by
  intro b hb
  obtain ⟨i, hi, rfl⟩ := List.getElem_of_mem hb
  have hi' : i < f.size := by simpa using hi
  have := h.2 i hi'
  rw [ByteArray.getElem_eq_getElem_data] at this
  simpa using this
theorem fn_tot {f : ByteArray} {n : Nat} (h : FnOK f n) (h1 : 1 ≤ n) (h5 : n ≤ 5) : totOf f = n ∧ varsOf f = n := by
  have hl := fn_list h
  have hok : okCube f = true := by
    unfold okCube
    rw [List.all_eq_true]
    intro b hb
    rcases hl b hb with rfl | rfl <;> rfl
  have hd : hasDash f = false := by
    unfold hasDash
    rw [List.any_eq_false]
    intro b hb
    rcases hl b hb with rfl | rfl <;> decide
  have hv : varsOf f = n := by unfold varsOf; rw [hok, h.1, vars_pow h1 h5]; rfl
  exact ⟨by unfold totOf; rw [hd]; exact hv, hv⟩
theorem fn_ext {f g : ByteArray} {n : Nat} (hf : FnOK f n) (hg : FnOK g n) (h : ∀ q, q < 2 ^ n → fb f q = fb g q) : f = g := by
  apply ByteArray.ext
  apply Array.ext
  · have h1 := hf.1; have h2 := hg.1
    show f.size = g.size
    omega
  · intro i h1 h2
    have hi : i < f.size := h1
    have hi2 : i < g.size := h2
    have := h i (by rw [← hf.1]; exact hi)
    rw [fb_at hi, fb_at hi2] at this
    have e1 : f.data[i] = f[i] := rfl
    have e2 : g.data[i] = g[i] := rfl
    rw [e1, e2]
    rcases hf.2 i hi with a | a <;> rcases hg.2 i hi2 with b | b <;> rw [a, b] at this <;> rw [a, b] <;> exact absurd this (by decide)
theorem sum_fn {f T : ByteArray} {n N : Nat} (hN : N = 2 ^ n) (hT : T = ⟨(sumL f n N).toArray⟩) : FnOK T n ∧ ∀ q, q < N → fb T q = rnd (fb f) n q := by
  have hs : T.size = N := by rw [hT]; show (sumL f n N).toArray.size = N; rw [List.size_toArray, sumL_len]
  have hget : ∀ q (h : q < T.size), T[q] = if rnd (fb f) n q then 49 else 48 := fun q h => by
    have hq : q < N := by omega
    rw [← getD_at (s := T) h, hT]
    exact sumL_get hq
  refine ⟨⟨by rw [hs, hN], fun q h => ?_⟩, fun q hq => ?_⟩
  · rw [hget q h]; cases rnd (fb f) n q
    · exact .inl rfl
    · exact .inr rfl
  · have h : q < T.size := by omega
    rw [fb_at h, hget q h]; cases rnd (fb f) n q <;> rfl
theorem rnd_congr {g h : Nat → Bool} {n p : Nat} (hn : n ≤ 5) (hp : p < 2 ^ n) (e : ∀ q, q < 2 ^ n → g q = h q) : rnd g n p = rnd h n p := by
  have h32 : 2 ^ n ≤ 2 ^ 5 := Nat.pow_le_pow_right (by decide) hn
  rw [rnd_all g hn hp, rnd_all h hn hp, xs_short g (by omega), xs_short h (by omega)]
  exact xs_congr _ fun q hq => by rw [e q (by omega)]
/-- The sum of the sum is the function. -/
theorem sum_twice {f T U : ByteArray} {n N : Nat} (hf : FnOK f n) (h5 : n ≤ 5) (hN : N = 2 ^ n) (hT : T = ⟨(sumL f n N).toArray⟩) (hU : U = ⟨(sumL T n N).toArray⟩) : U = f := by
  have h32 : 2 ^ n ≤ 2 ^ 5 := Nat.pow_le_pow_right (by decide) h5
  obtain ⟨t1, t2⟩ := sum_fn hN hT
  obtain ⟨u1, u2⟩ := sum_fn hN hU
  refine fn_ext u1 hf fun q hq => ?_
  rw [u2 q (by omega), rnd_congr h5 hq (h := rnd (fb f) n) (fun r hr => t2 r (by omega)), rnd_all _ h5 hq, xs_short _ (by omega)]
  have e : xs (fun r => sub r q) (rnd (fb f) n) (q + 1) = xs (fun r => sub r q) (fun r => xs (fun t => sub t r) (fb f) 32) (q + 1) :=
    xs_congr _ fun r hr => by rw [rnd_all (fb f) h5 (by omega : r < 2 ^ n)]
  rw [e, ← xs_short _ (by omega), xs_twice (fb f) (by omega)]
/-- The sums of two functions that differ at a point. -/
theorem sum_differ {f g : ByteArray} {n p q : Nat} (h5 : n ≤ 5) (hp : p < 2 ^ n) (hq : q < 2 ^ n) (hd : ∀ r, r < 2 ^ n → fb g r = Bool.xor (fb f r) (r == p)) : rnd (fb g) n q = Bool.xor (rnd (fb f) n q) (sub p q) := by
  have h32 : 2 ^ n ≤ 2 ^ 5 := Nat.pow_le_pow_right (by decide) h5
  rw [rnd_congr h5 hq (h := fun r => Bool.xor (fb f r) (r == p)) hd, rnd_all _ h5 hq, rnd_all _ h5 hq]
  exact xs_flip (fb f) p q 32 (by omega)
theorem sub_top : ∀ n, n ≤ 5 → ∀ q, q < 2 ^ n → sub q (2 ^ n - 1) = true := by decide +kernel
/-- The sum's last position counts the ones. -/
theorem sum_last {f : ByteArray} {n : Nat} (h5 : n ≤ 5) : rnd (fb f) n (2 ^ n - 1) = decide (onesK (fb f) (2 ^ n) % 2 = 1) := by
  have h32 : 2 ^ n ≤ 2 ^ 5 := Nat.pow_le_pow_right (by decide) h5
  have hpos : 0 < 2 ^ n := Nat.two_pow_pos n
  rw [rnd_all _ h5 (by omega), xs_short _ (by omega), show 2 ^ n - 1 + 1 = 2 ^ n by omega]
  unfold onesK
  rw [← xs_count]
  exact xs_congr _ fun q hq => by rw [sub_top n h5 q hq]
end Go.Proofs.YtioaaigbpfdjmaaDoor
