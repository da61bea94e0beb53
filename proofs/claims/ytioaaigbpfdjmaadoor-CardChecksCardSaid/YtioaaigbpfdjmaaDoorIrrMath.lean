import Derived.Test.YtioaaigbpfdjmaaDoorReadCover
set_option linter.unusedSimpArgs false
set_option linter.unusedVariables false
namespace Go.Proofs.YtioaaigbpfdjmaaDoor
open Go Go.Proofs Go.RowKit
theorem one_exists : ∀ (az : List Nat), (∀ a ∈ az, a < 4294967296) → ∃ o t : Nat, o < 4294967296 ∧ t < 4294967296 ∧ (∀ q, o.testBit q = decide (1 ≤ cntS az q)) ∧ ∀ q, t.testBit q = decide (2 ≤ cntS az q)
  | [], _ => ⟨0, 0, by omega, by omega, fun q => by simp [cntS], fun q => by simp [cntS]⟩
  | a :: l, h => by
    obtain ⟨o, t, ho, ht, h1, h2⟩ := one_exists l fun b hb => h b (List.mem_cons_of_mem _ hb)
    have ha := h a (List.mem_cons_self ..)
    have hc : ∀ q, cntS (a :: l) q = (a.testBit q).toNat + cntS l q := fun q => by
      unfold cntS
      rw [List.filter_cons]
      cases a.testBit q <;> simp; omega
    refine ⟨a ||| o, t ||| (a &&& o), Nat.or_lt_two_pow (n := 32) ha ho, Nat.or_lt_two_pow (n := 32) ht (Nat.lt_of_le_of_lt Nat.and_le_left ha), fun q => ?_, fun q => ?_⟩
    · rw [Nat.testBit_or, h1, hc]
      generalize cntS l q = m
      rw [Bool.eq_iff_iff]
      cases a.testBit q <;> simp
      all_goals (try omega)
    · rw [Nat.testBit_or, Nat.testBit_and, h1, h2, hc]
      generalize cntS l q = m
      rw [Bool.eq_iff_iff]
      cases a.testBit q <;> simp
      all_goals (try omega)
theorem one_bits (az : List Nat) (h : ∀ a ∈ az, a < 4294967296) : ∃ c : Nat, c < 4294967296 ∧ ∀ q, c.testBit q = (cntS az q == 1) := by
  obtain ⟨o, t, ho, ht, h1, h2⟩ := one_exists az h
  refine ⟨o ^^^ t, Nat.xor_lt_two_pow (n := 32) ho ht, fun q => ?_⟩
  rw [Nat.testBit_xor, h1, h2]
  generalize cntS az q = m
  rw [Bool.eq_iff_iff]
  by_cases h1 : 1 ≤ m <;> by_cases h2 : 2 ≤ m <;> simp [h1, h2] <;> omega
/-- The list without its element i. -/
def wo (ls : List ByteArray) (i : Nat) : List ByteArray := ls.take i ++ ls.drop (i + 1)
def irrB (f : ByteArray) (ls : List ByteArray) : Bool := (List.range ls.length).all fun i => !covB f (wo ls i)
def cntL (ls : List ByteArray) (p : Nat) : Nat := (ls.filter fun c => inC c p).length
theorem cnt_eq {ls : List ByteArray} {az : List Nat} {p : Nat} (hl : az.length = ls.length) (h : ∀ j, j < ls.length → (az.getD j 0).testBit p = inC (ls.getD j ByteArray.empty) p) : cntS az p = cntL ls p := by
  have e : az.map (fun a => a.testBit p) = ls.map (fun c => inC c p) := by
    apply List.ext_getElem (by simp [hl])
    intro j h1 h2
    have hj : j < ls.length := by simpa using h2
    have := h j hj
    rw [List.getD_eq_getElem?_getD, List.getD_eq_getElem?_getD, List.getElem?_eq_getElem (by omega), List.getElem?_eq_getElem hj] at this
    simpa using this
  have h1 : cntS az p = (az.map (fun a => a.testBit p)).countP id := by
    rw [List.countP_map, cntS, ← List.countP_eq_length_filter]; rfl
  have h2 : cntL ls p = (ls.map (fun c => inC c p)).countP id := by
    rw [List.countP_map, cntL, ← List.countP_eq_length_filter]; rfl
  rw [h1, h2, e]
theorem cnt_split {ls : List ByteArray} {i p : Nat} (h : i < ls.length) : cntL ls p = cntL (wo ls i) p + (inC (ls.getD i ByteArray.empty) p).toNat := by
  have e : ls = ls.take i ++ (ls.getD i ByteArray.empty :: ls.drop (i + 1)) := by
    rw [List.getD_eq_getElem?_getD, List.getElem?_eq_getElem h]
    simp
  have : cntL ls p = cntL (ls.take i ++ (ls.getD i ByteArray.empty :: ls.drop (i + 1))) p := by rw [← e]
  rw [this]
  unfold cntL wo
  rw [List.filter_append, List.filter_append, List.length_append, List.length_append, List.filter_cons]
  cases inC (ls.getD i ByteArray.empty) p <;> simp; omega
theorem any_cnt (ls : List ByteArray) (p : Nat) : inAny ls p = decide (1 ≤ cntL ls p) := by
  unfold inAny cntL
  rw [Bool.eq_iff_iff, List.any_eq_true, decide_eq_true_iff, Nat.succ_le_iff, List.length_pos_iff_exists_mem]
  constructor
  · rintro ⟨c, h1, h2⟩; exact ⟨c, List.mem_filter.2 ⟨h1, h2⟩⟩
  · rintro ⟨c, h⟩; exact ⟨c, (List.mem_filter.1 h).1, (List.mem_filter.1 h).2⟩
/-- A cube may be left out where its points that are in no other one are not asked for. -/
theorem irr_bit {f : ByteArray} {ls : List ByteArray} {az : List Nat} {O c i : Nat} (hcov : covB f ls = true) (hl : az.length = ls.length) (hi : i < ls.length)
    (hs : ∀ j, j < ls.length → ∀ p, (az.getD j 0).testBit p = (decide (p < f.size) && inC (ls.getD j ByteArray.empty) p)) (hO : charB f 49 O f.size) (hc : ∀ q, c.testBit q = (cntS az q == 1)) :
    covB f (wo ls i) = ((az.getD i 0 &&& (O &&& c)) == 0) := by
  unfold covB at hcov
  rw [List.all_eq_true] at hcov
  rw [Bool.eq_iff_iff, beq_iff_eq]
  unfold covB
  rw [List.all_eq_true]
  have key : ∀ p, p < f.size → (covAt f (wo ls i) p = !((az.getD i 0 &&& (O &&& c)).testBit p)) := by
    intro p hp
    have h1 := hcov p (List.mem_range.2 hp)
    have hcnt : cntS az p = cntL ls p := cnt_eq hl fun j hj => by rw [hs j hj p]; simp [hp]
    rw [Nat.testBit_and, Nat.testBit_and, hs i hi, hO, hc, hcnt, decide_eq_true hp]
    unfold covAt at h1 ⊢
    rw [any_cnt] at h1 ⊢
    have hsp := cnt_split (p := p) hi
    generalize cntL ls p = M at h1 hsp ⊢
    generalize cntL (wo ls i) p = M' at hsp ⊢
    generalize f.data.toList.getD p 0 = b at h1 ⊢
    have hb : ¬ ((b == 48) = true ∧ (b == 49) = true) := by
      rintro ⟨h1, h2⟩
      rw [beq_iff_eq] at h1 h2
      rw [h1] at h2
      exact absurd h2 (by decide)
    cases hx : inC (ls.getD i ByteArray.empty) p <;> cases h48 : (b == 48) <;> cases h49 : (b == 49) <;> simp_all
    all_goals (rw [Bool.eq_iff_iff]; simp; omega)
  constructor
  · intro h
    apply Nat.eq_of_testBit_eq
    intro p
    rw [Nat.zero_testBit]
    by_cases hp : p < f.size
    · have h1 := h p (List.mem_range.2 hp)
      rw [key p hp] at h1
      cases hh : (az.getD i 0 &&& (O &&& c)).testBit p
      · rfl
      · rw [hh] at h1; cases h1
    · rw [Nat.testBit_and, hs i hi]; simp [hp]
  · intro h p hp
    rw [key p (List.mem_range.1 hp), h, Nat.zero_testBit]; rfl
end Go.Proofs.YtioaaigbpfdjmaaDoor
