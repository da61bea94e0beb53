set_option linter.unusedSimpArgs false
set_option linter.unusedVariables false
namespace Go.Proofs.YtioaaigbpfdjmaaDoor
/-- The numbers of a list, gathered by or. -/
def maskOf (l : List Nat) : Nat := l.foldl (fun a i => a ||| 2 ^ i) 0
def sumsOf (l : List Nat) : Nat := l.foldl (fun a i => a + 2 ^ i) 0
theorem or_add : ∀ a, a < 32 → ∀ i, i < 5 → a.testBit i = false → a ||| 2 ^ i = a + 2 ^ i := by decide
theorem mask_push (l : List Nat) (x : Nat) : maskOf (l ++ [x]) = maskOf l ||| 2 ^ x := by simp [maskOf]
theorem sums_push (l : List Nat) (x : Nat) : sumsOf (l ++ [x]) = sumsOf l + 2 ^ x := by simp [sumsOf]
theorem take_push {l : List Nat} {k : Nat} (h : k < l.length) : l.take (k + 1) = l.take k ++ [l.getD k 0] := by
  rw [List.take_add_one, List.getElem?_eq_getElem h, List.getD_eq_getElem?_getD, List.getElem?_eq_getElem h]; rfl
theorem mask_take (l : List Nat) (h5 : ∀ x ∈ l, x < 5) : ∀ k, k ≤ l.length → maskOf (l.take k) < 32 ∧ (∀ j, (maskOf (l.take k)).testBit j = decide (j ∈ l.take k))
  | 0, _ => by simp [maskOf]
  | k + 1, h => by
    obtain ⟨h1, h2⟩ := mask_take l h5 k (by omega)
    rw [take_push h, mask_push]
    have hm : l.getD k 0 ∈ l := by rw [List.getD_eq_getElem?_getD, List.getElem?_eq_getElem (show k < l.length from h)]; exact List.getElem_mem _
    have hp : 2 ^ (l.getD k 0) < 2 ^ 5 := Nat.pow_lt_pow_right (by decide) (h5 _ hm)
    refine ⟨Nat.or_lt_two_pow (n := 5) h1 hp, fun j => ?_⟩
    rw [Nat.testBit_or, h2, Nat.testBit_two_pow]
    simp [eq_comm]
theorem mask_sums (l : List Nat) (h5 : ∀ x ∈ l, x < 5) (hd : l.Nodup) : ∀ k, k ≤ l.length → maskOf (l.take k) = sumsOf (l.take k)
  | 0, _ => by simp [maskOf, sumsOf]
  | k + 1, h => by
    obtain ⟨h1, h2⟩ := mask_take l h5 k (by omega)
    have ih := mask_sums l h5 hd k (by omega)
    have hk : k < l.length := h
    have hm : l.getD k 0 ∈ l := by rw [List.getD_eq_getElem?_getD, List.getElem?_eq_getElem hk]; exact List.getElem_mem _
    rw [take_push h, mask_push, sums_push, ← ih]
    refine or_add _ h1 _ (h5 _ hm) ?_
    rw [h2]
    simp only [decide_eq_false_iff_not]
    intro hc
    have hn : (l.take k ++ [l.getD k 0]).Nodup := by rw [← take_push h]; exact hd.sublist (List.take_sublist _ _)
    rw [List.nodup_append] at hn
    exact hn.2.2 _ hc _ (by simp) rfl
def bitN (p k : Nat) : Nat := p / 2 ^ k % 2
def movK (p : Nat) (o : List Nat) : Nat → Nat
  | 0 => 0
  | k + 1 => movK p o k ||| bitN p k * 2 ^ (o.getD k 0)
def sumK (p : Nat) (o : List Nat) : Nat → Nat
  | 0 => 0
  | k + 1 => sumK p o k + bitN p k * 2 ^ (o.getD k 0)
theorem bitN_two (p k : Nat) : bitN p k = 0 ∨ bitN p k = 1 := by unfold bitN; omega
theorem mov_sum (p : Nat) (o : List Nat) (h5 : ∀ x ∈ o, x < 5) (hd : o.Nodup) : ∀ k, k ≤ o.length → movK p o k < 32 ∧ (∀ j, (movK p o k).testBit j = true → j ∈ o.take k) ∧ movK p o k = sumK p o k
  | 0, _ => by simp [movK, sumK]
  | k + 1, h => by
    obtain ⟨h1, h2, h3⟩ := mov_sum p o h5 hd k (by omega)
    have hk : k < o.length := h
    have hm : o.getD k 0 ∈ o := by rw [List.getD_eq_getElem?_getD, List.getElem?_eq_getElem hk]; exact List.getElem_mem _
    have h5' := h5 _ hm
    have hp : 2 ^ (o.getD k 0) < 2 ^ 5 := Nat.pow_lt_pow_right (by decide) h5'
    simp only [movK, sumK, ← h3]
    rw [take_push hk]
    rcases bitN_two p k with hb | hb
    · rw [hb]
      simp only [Nat.zero_mul, Nat.or_zero, Nat.add_zero]
      exact ⟨h1, fun j hj => List.mem_append_left _ (h2 j hj), trivial⟩
    · rw [hb, Nat.one_mul]
      refine ⟨Nat.or_lt_two_pow (n := 5) h1 hp, fun j hj => ?_, ?_⟩
      · rw [Nat.testBit_or, Nat.testBit_two_pow, Bool.or_eq_true] at hj
        rcases hj with hj | hj
        · exact List.mem_append_left _ (h2 j hj)
        · have e : o.getD k 0 = j := by simpa using hj
          rw [e]
          exact List.mem_append_right _ (by simp)
      · refine or_add _ h1 _ h5' ?_
        rw [← Bool.not_eq_true]
        intro hc
        have hc := h2 _ hc
        have hn : (o.take k ++ [o.getD k 0]).Nodup := by rw [← take_push h]; exact hd.sublist (List.take_sublist _ _)
        rw [List.nodup_append] at hn
        exact hn.2.2 _ hc _ (by simp) rfl
theorem mov_lt (p n : Nat) (o : List Nat) (hn : ∀ x ∈ o, x < n) : ∀ k, k ≤ o.length → movK p o k < 2 ^ n
  | 0, _ => Nat.two_pow_pos n
  | k + 1, h => by
    have h1 := mov_lt p n o hn k (by omega)
    have hk : k < o.length := h
    have hm : o.getD k 0 ∈ o := by rw [List.getD_eq_getElem?_getD, List.getElem?_eq_getElem hk]; exact List.getElem_mem _
    have hp : 2 ^ (o.getD k 0) < 2 ^ n := Nat.pow_lt_pow_right (by decide) (hn _ hm)
    simp only [movK]
    rcases bitN_two p k with hb | hb
    · rw [hb, Nat.zero_mul, Nat.or_zero]; exact h1
    · rw [hb, Nat.one_mul]; exact Nat.or_lt_two_pow h1 hp
end Go.Proofs.YtioaaigbpfdjmaaDoor
