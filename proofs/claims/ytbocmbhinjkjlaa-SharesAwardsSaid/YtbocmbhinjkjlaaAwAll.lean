/- The mathematics of awards: what level finds adds up, is the only one, and grows with the estate; all five rules. -/
import Derived.Test.YtbocmbhinjkjlaaLevel
import Derived.Test.YtbocmbhinjkjlaaEqAw
import Derived.Test.YtbocmbhinjkjlaaLawGarments
import Derived.MapKept
import Derived.Carry
set_option linter.unusedSimpArgs false
set_option linter.unusedVariables false
namespace Go.Proofs.Ytbocmbhinjkjlaa
open Go Go.Proofs Go.RowKit Go.Seq Go.Sort
def mnI (a b : Int) : Int := if a < b then a else b
theorem mnI_cases (a b : Int) : (a < b ∧ mnI a b = a) ∨ (b ≤ a ∧ mnI a b = b) := by
  unfold mnI
  by_cases h : a < b
  · exact .inl ⟨h, if_pos h⟩
  · exact .inr ⟨by omega, if_neg h⟩
theorem partF_mn (zs : List Int) (N L : Int) (i : Nat) : partF zs N L i = mnI (zs.getD i 0 * N) L := rfl
theorem sum_mul_all {f : Int → Int} {N : Int} : ∀ {l : List Int}, (∀ z ∈ l, f z = z * N) → (l.map f).sum = l.sum * N
  | [], _ => by simp
  | x :: l, h => by
    rw [List.map_cons, List.sum_cons, List.sum_cons, Int.add_mul, h x (by simp), sum_mul_all (l := l) (fun z hz => h z (by simp [hz]))]
theorem sum_const_all {f : Int → Int} {L : Int} : ∀ {l : List Int}, (∀ z ∈ l, f z = L) → (l.map f).sum = (l.length : Int) * L
  | [], _ => by simp
  | x :: l, h => by
    rw [List.map_cons, List.sum_cons, h x (by simp), sum_const_all (l := l) (fun z hz => h z (by simp [hz])), List.length_cons, Int.natCast_add, Int.add_mul]
    omega
theorem sum_le_all {f g : Int → Int} : ∀ {l : List Int}, (∀ z ∈ l, f z ≤ g z) → (l.map f).sum ≤ (l.map g).sum
  | [], _ => by simp
  | x :: l, h => by
    have h1 := h x (by simp)
    have h2 := sum_le_all (l := l) (fun z hz => h z (by simp [hz]))
    rw [List.map_cons, List.sum_cons, List.map_cons, List.sum_cons]
    omega
theorem sum_eq_all {f g : Int → Int} : ∀ {l : List Int}, (∀ z ∈ l, f z ≤ g z) → (l.map g).sum ≤ (l.map f).sum → ∀ z ∈ l, f z = g z
  | [], _, _ => by simp
  | x :: l, h, hs => by
    have h1 := h x (by simp)
    have h2 := sum_le_all (l := l) (fun z hz => h z (by simp [hz]))
    rw [List.map_cons, List.sum_cons, List.map_cons, List.sum_cons] at hs
    intro z hz
    rcases List.mem_cons.1 hz with rfl | hz
    · omega
    · exact sum_eq_all (l := l) (fun z hz => h z (by simp [hz])) (by omega) z hz
theorem sum_scale {f : Int → Int} {k : Int} : ∀ {l : List Int}, (l.map fun z => f z * k).sum = (l.map f).sum * k
  | [] => by simp
  | x :: l => by rw [List.map_cons, List.sum_cons, List.map_cons, List.sum_cons, sum_scale (l := l), Int.add_mul]
theorem sum_sub_all {f g : Int → Int} : ∀ {l : List Int}, (l.map fun z => f z - g z).sum = (l.map f).sum - (l.map g).sum
  | [] => by simp
  | x :: l => by rw [List.map_cons, List.sum_cons, List.map_cons, List.sum_cons, List.map_cons, List.sum_cons, sum_sub_all (l := l)]; omega
theorem sum_add_all {f g : Int → Int} : ∀ {l : List Int}, (l.map fun z => f z + g z).sum = (l.map f).sum + (l.map g).sum
  | [] => by simp
  | x :: l => by rw [List.map_cons, List.sum_cons, List.map_cons, List.sum_cons, List.map_cons, List.sum_cons, sum_add_all (l := l)]; omega
theorem get_mem {l : List Int} {z : Int} (h : z ∈ l) : ∃ k, k < l.length ∧ l.getD k 0 = z := by
  obtain ⟨k, hk, he⟩ := List.mem_iff_getElem.1 h
  exact ⟨k, hk, by rw [List.getD_eq_getElem?_getD, List.getElem?_eq_getElem hk]; exact he⟩
theorem Lev.n1 {zs : List Int} {E N L : Int} (h : Lev zs E N L) : 1 ≤ N := by
  obtain ⟨o, J, hasc, hJ, hN, hL, hall, hle⟩ := h.ex
  omega
theorem Lev.sum {zs : List Int} {E N L : Int} (h : Lev zs E N L) : (zs.map fun c => mnI (c * N) L).sum = E * N := by
  obtain ⟨o, J, hasc, hJ, hN, hL, hall, hle⟩ := h.ex
  have hol : o.length = zs.length := hasc.perm.length_eq
  have hN1 : 1 ≤ N := by omega
  have ho : ∀ i j, i ≤ j → j < o.length → o.getD i 0 ≤ o.getD j 0 := fun i j hij hj => by
    rcases Nat.lt_or_ge i j with h | h
    · exact hasc.ord i j h hj
    · rw [show i = j by omega]; exact Int.le_refl _
  rw [← sumI_perm (hasc.perm.map _)]
  have h1 : ((o.take J).map fun c => mnI (c * N) L).sum = (o.take J).sum * N := sum_mul_all fun z hz => by
    obtain ⟨k, hk, rfl⟩ := get_mem hz
    rw [List.length_take] at hk
    rw [take_getz (by omega)]
    obtain ⟨m, rfl⟩ : ∃ m, J = m + 1 := ⟨J - 1, by omega⟩
    have a1 := ho k m (by omega) (by omega)
    have a2 := hall m (by omega)
    have a3 := sum_take (zs := o) (k := m) (by omega)
    have a4 : o.getD k 0 * N ≤ o.getD m 0 * N := Int.mul_le_mul_of_nonneg_right a1 (by omega)
    have a5 : o.getD m 0 * ((zs.length : Int) - (m : Nat)) = o.getD m 0 * N + o.getD m 0 := by
      rw [show ((zs.length : Int) - (m : Nat)) = N + 1 by omega, Int.mul_add, Int.mul_one]
    rcases mnI_cases (o.getD k 0 * N) L with ⟨_, h⟩ | ⟨h0, h⟩
    · exact h
    · exfalso; omega
  have h2 : ((o.drop J).map fun c => mnI (c * N) L).sum = ((o.drop J).length : Int) * L := sum_const_all fun z hz => by
    obtain ⟨k, hk, rfl⟩ := get_mem hz
    rw [List.length_drop] at hk
    have e : (o.drop J).getD k 0 = o.getD (J + k) 0 := by rw [List.getD_eq_getElem?_getD, List.getElem?_drop, List.getD_eq_getElem?_getD]
    rw [e]
    have a1 := ho J (J + k) (by omega) (by omega)
    have a4 : o.getD J 0 * N ≤ o.getD (J + k) 0 * N := Int.mul_le_mul_of_nonneg_right a1 (by omega)
    rcases mnI_cases (o.getD (J + k) 0 * N) L with ⟨h0, h⟩ | ⟨_, h⟩
    · exfalso; omega
    · exact h
  have hs : (o.map fun c => mnI (c * N) L).sum = ((o.take J).map fun c => mnI (c * N) L).sum + ((o.drop J).map fun c => mnI (c * N) L).sum := by
    rw [← List.sum_append, ← List.map_append, List.take_append_drop]
  rw [hs, h1, h2, List.length_drop, show (((o.length - J : Nat)) : Int) = N by omega]
  rw [Int.mul_comm N L, ← Int.add_mul]
  congr 1
  omega
theorem mn_mono {c N L M K : Int} (hN : 1 ≤ N) (hM : 1 ≤ M) (h : L * M ≤ K * N) : mnI (c * N) L * M ≤ mnI (c * M) K * N := by
  have a1 : mnI (c * N) L * M ≤ c * N * M := Int.mul_le_mul_of_nonneg_right (by rcases mnI_cases (c * N) L with ⟨_, h⟩ | ⟨_, h⟩ <;> omega) (by omega)
  have a2 : mnI (c * N) L * M ≤ L * M := Int.mul_le_mul_of_nonneg_right (by rcases mnI_cases (c * N) L with ⟨_, h⟩ | ⟨_, h⟩ <;> omega) (by omega)
  rcases mnI_cases (c * M) K with ⟨_, h⟩ | ⟨_, h⟩
  · rw [h, show c * M * N = c * N * M by ac_rfl]; exact a1
  · rw [h]; omega
theorem Lev.le {zs : List Int} {E N L E' M K : Int} (h : Lev zs E N L) (k : Lev zs E' M K) (hE : E ≤ E') : ∀ c ∈ zs, mnI (c * N) L * M ≤ mnI (c * M) K * N := by
  have hN := h.n1
  have hM := k.n1
  rcases Int.le_total (L * M) (K * N) with hc | hc
  · exact fun c _ => mn_mono hN hM hc
  · have s1 := h.sum
    have s2 := k.sum
    have hle : ∀ c ∈ zs, mnI (c * M) K * N ≤ mnI (c * N) L * M := fun c _ => mn_mono hM hN hc
    have e1 : (zs.map fun c => mnI (c * M) K * N).sum = E' * M * N := by rw [sum_scale (f := fun c => mnI (c * M) K), s2]
    have e2 : (zs.map fun c => mnI (c * N) L * M).sum = E * N * M := by rw [sum_scale (f := fun c => mnI (c * N) L), s1]
    have e3 : E * N * M ≤ E' * M * N := by
      rw [show E * N * M = E * (N * M) by ac_rfl, show E' * M * N = E' * (N * M) by ac_rfl]
      exact Int.mul_le_mul_of_nonneg_right hE (Int.mul_nonneg (by omega) (by omega))
    have := sum_eq_all hle (by rw [e1, e2]; exact e3)
    exact fun c hc => by have := this c hc; omega
theorem Lev.same {zs : List Int} {E N L M K : Int} (h : Lev zs E N L) (k : Lev zs E M K) : ∀ c ∈ zs, mnI (c * N) L * M = mnI (c * M) K * N := fun c hc => by
  have := h.le k (Int.le_refl _) c hc
  have := k.le h (Int.le_refl _) c hc
  omega
theorem Lev.l0 {zs : List Int} {E N L : Int} (h : Lev zs E N L) (hV : ∀ z ∈ zs, 0 ≤ z) (hE : 0 ≤ E) : 0 ≤ L := by
  rcases Int.lt_or_le L 0 with hl | hl
  · exfalso
    have h1 := h.sum
    have h2 : (zs.map fun c => mnI (c * N) L).sum = (zs.length : Int) * L := sum_const_all fun z hz => by
      have := Int.mul_nonneg (hV z hz) (show 0 ≤ N by have := h.n1; omega)
      rcases mnI_cases (z * N) L with ⟨h0, h⟩ | ⟨_, h⟩
      · omega
      · exact h
    have h3 : 0 ≤ E * N := Int.mul_nonneg hE (by have := h.n1; omega)
    have h4 : 1 ≤ zs.length := by obtain ⟨o, J, _, hJ, _⟩ := h.ex; omega
    have h5 : (zs.length : Int) * L ≤ 1 * L := Int.mul_le_mul_of_nonpos_right (by omega) (by omega)
    omega
  · exact hl
/-- The estate that a rule hands to level. -/
def awE (r : Nat) (S E : Int) : Int := match r with
  | 0 => E
  | 1 => E
  | 2 => S - E
  | 3 => if 2 * E ≤ S then 2 * E else 2 * (S - E)
  | _ => if 2 * E ≤ S then 2 * E else 2 * E - S
/-- The share of a claim, by a rule: awX parts, of which awD are one. -/
def awX (r : Nat) (S E N L c : Int) : Int := match r with
  | 0 => c * E
  | 1 => mnI (c * N) L
  | 2 => c * N - mnI (c * N) L
  | 3 => if 2 * E ≤ S then mnI (c * N) L else c * (2 * N) - mnI (c * N) L
  | _ => if 2 * E ≤ S then mnI (c * N) L else c * N + mnI (c * N) L
def awD (r : Nat) (S N : Int) : Int := match r with
  | 0 => if 1 < S then S else 1
  | 1 => N
  | 2 => N
  | _ => 2 * N
/-- What is known of the level of a rule; the proportional one has none. -/
structure LevR (r : Nat) (zs : List Int) (E N L : Int) : Prop where
  n1 : 1 ≤ N
  n10 : N ≤ 10
  l0 : 0 ≤ L
  l1 : L ≤ 10000
  lev : r ≠ 0 → Lev zs (awE r zs.sum E) N L
theorem awE_in {r : Nat} {S E : Int} (hE : 0 ≤ E ∧ E ≤ S) : 0 ≤ awE r S E ∧ awE r S E ≤ S := by
  unfold awE
  split
  · omega
  · omega
  · omega
  · split <;> omega
  · split <;> omega
theorem awD_one {r : Nat} {S N : Int} (hN : 1 ≤ N) : 1 ≤ awD r S N := by
  unfold awD
  split
  · split <;> omega
  · omega
  · omega
  · omega
theorem awD_most {r : Nat} {S N : Int} (hN : N ≤ 10) (hS : S ≤ 10000) : awD r S N ≤ 10000 := by
  unfold awD
  split
  · split <;> omega
  · omega
  · omega
  · omega
theorem awX_in {r : Nat} {S E N L c : Int} (hr : r ≤ 4) (hE : 0 ≤ E ∧ E ≤ S) (hN : 1 ≤ N) (hL : 0 ≤ L) (hc : 0 ≤ c) : 0 ≤ awX r S E N L c ∧ awX r S E N L c ≤ c * awD r S N := by
  have h1 : 0 ≤ c * N := Int.mul_nonneg hc (by omega)
  have h2 : c * (2 * N) = 2 * (c * N) := by ac_rfl
  have h3 := mnI_cases (c * N) L
  obtain rfl | rfl | rfl | rfl | rfl : r = 0 ∨ r = 1 ∨ r = 2 ∨ r = 3 ∨ r = 4 := by omega
  · refine ⟨Int.mul_nonneg hc hE.1, ?_⟩
    show c * E ≤ c * (if 1 < S then S else 1)
    split <;> exact Int.mul_le_mul_of_nonneg_left (by omega) hc
  · show 0 ≤ mnI (c * N) L ∧ mnI (c * N) L ≤ c * N
    omega
  · show 0 ≤ c * N - mnI (c * N) L ∧ c * N - mnI (c * N) L ≤ c * N
    omega
  · show 0 ≤ (if 2 * E ≤ S then mnI (c * N) L else c * (2 * N) - mnI (c * N) L) ∧ (if 2 * E ≤ S then mnI (c * N) L else c * (2 * N) - mnI (c * N) L) ≤ c * (2 * N)
    split <;> omega
  · show 0 ≤ (if 2 * E ≤ S then mnI (c * N) L else c * N + mnI (c * N) L) ∧ (if 2 * E ≤ S then mnI (c * N) L else c * N + mnI (c * N) L) ≤ c * (2 * N)
    split <;> omega
theorem aw_sum {r : Nat} {zs : List Int} {E N L : Int} (h : LevR r zs E N L) (hE : 0 ≤ E ∧ E ≤ zs.sum) (hr : r ≤ 4) : (zs.map fun c => awX r zs.sum E N L c).sum = E * awD r zs.sum N := by
  have s := fun k => (h.lev k).sum
  have idm : (zs.map fun c => c * N).sum = zs.sum * N := sum_mul_all fun z _ => rfl
  have idm2 : (zs.map fun c => c * (2 * N)).sum = zs.sum * (2 * N) := sum_mul_all fun z _ => rfl
  generalize hS : zs.sum = S at *
  clear h
  obtain rfl | rfl | rfl | rfl | rfl : r = 0 ∨ r = 1 ∨ r = 2 ∨ r = 3 ∨ r = 4 := by omega
  · show (zs.map fun c => c * E).sum = E * (if 1 < S then S else 1)
    rw [sum_mul_all (N := E) (fun z _ => rfl), hS]
    split
    · exact Int.mul_comm _ _
    · rcases Int.lt_or_le S 1 with h | h
      · rw [show S = 0 by omega, show E = 0 by omega]; simp
      · rw [show S = 1 by omega]; simp
  · exact s (by omega)
  · have s := s (by omega)
    show (zs.map fun c => c * N - mnI (c * N) L).sum = E * N
    have e : awE 2 S E = S - E := rfl
    rw [sum_sub_all (f := fun c => c * N) (g := fun c => mnI (c * N) L), s, idm, e, Int.sub_mul]
    omega
  · have s := s (by omega)
    show (zs.map fun c => if 2 * E ≤ S then mnI (c * N) L else c * (2 * N) - mnI (c * N) L).sum = E * (2 * N)
    have e : awE 3 S E = if 2 * E ≤ S then 2 * E else 2 * (S - E) := rfl
    rw [e] at s
    by_cases hb : 2 * E ≤ S
    · simp only [if_pos hb] at s ⊢
      rw [s]; ac_rfl
    · simp only [if_neg hb] at s ⊢
      rw [sum_sub_all (f := fun c => c * (2 * N)) (g := fun c => mnI (c * N) L), s, idm2]
      rw [show S * (2 * N) = 2 * (S * N) by ac_rfl, show E * (2 * N) = 2 * (E * N) by ac_rfl, show 2 * (S - E) * N = 2 * ((S - E) * N) by ac_rfl, Int.sub_mul]
      omega
  · have s := s (by omega)
    show (zs.map fun c => if 2 * E ≤ S then mnI (c * N) L else c * N + mnI (c * N) L).sum = E * (2 * N)
    have e : awE 4 S E = if 2 * E ≤ S then 2 * E else 2 * E - S := rfl
    rw [e] at s
    by_cases hb : 2 * E ≤ S
    · simp only [if_pos hb] at s ⊢
      rw [s]; ac_rfl
    · simp only [if_neg hb] at s ⊢
      rw [sum_add_all (f := fun c => c * N) (g := fun c => mnI (c * N) L), s, idm]
      rw [show E * (2 * N) = 2 * (E * N) by ac_rfl, Int.sub_mul, show 2 * E * N = 2 * (E * N) by ac_rfl]
      omega
theorem aw_order {r : Nat} {S E N L c c' : Int} (hr : r ≤ 4) (hE : 0 ≤ E) (hN : 1 ≤ N) (h : c ≤ c') : awX r S E N L c ≤ awX r S E N L c' := by
  have h1 : c * N ≤ c' * N := Int.mul_le_mul_of_nonneg_right h (by omega)
  have h2 : c * (2 * N) = 2 * (c * N) := by ac_rfl
  have h3 : c' * (2 * N) = 2 * (c' * N) := by ac_rfl
  have k1 := mnI_cases (c * N) L
  have k2 := mnI_cases (c' * N) L
  obtain rfl | rfl | rfl | rfl | rfl : r = 0 ∨ r = 1 ∨ r = 2 ∨ r = 3 ∨ r = 4 := by omega
  · exact Int.mul_le_mul_of_nonneg_right h hE
  · show mnI (c * N) L ≤ mnI (c' * N) L
    omega
  · show c * N - mnI (c * N) L ≤ c' * N - mnI (c' * N) L
    omega
  · show (if 2 * E ≤ S then mnI (c * N) L else c * (2 * N) - mnI (c * N) L) ≤ (if 2 * E ≤ S then mnI (c' * N) L else c' * (2 * N) - mnI (c' * N) L)
    split <;> omega
  · show (if 2 * E ≤ S then mnI (c * N) L else c * N + mnI (c * N) L) ≤ (if 2 * E ≤ S then mnI (c' * N) L else c' * N + mnI (c' * N) L)
    split <;> omega
theorem awX_eq0 (S E N L c : Int) : awX 0 S E N L c = c * E := rfl
theorem aw_grows {r : Nat} {zs : List Int} {E E' N L M K : Int} (hr : r ≤ 4) (h : LevR r zs E N L) (k : LevR r zs E' M K) (hV : ∀ z ∈ zs, 0 ≤ z) (h0 : 0 ≤ E) (hE : E ≤ E') (hS : E' ≤ zs.sum) :
    ∀ c ∈ zs, awX r zs.sum E N L c * awD r zs.sum M ≤ awX r zs.sum E' M K c * awD r zs.sum N := by
  intro c hc
  have hN := h.n1
  have hM := k.n1
  have hc0 := hV c hc
  have h := h.lev
  have k := k.lev
  generalize hT : zs.sum = S at *
  have a1 : c * N * M = c * M * N := by ac_rfl
  have b1 := mnI_cases (c * N) L
  have b2 := mnI_cases (c * M) K
  have hcNM : 0 ≤ c * M * N := Int.mul_nonneg (Int.mul_nonneg hc0 (by omega)) (by omega)
  have up1 : mnI (c * N) L * M ≤ c * N * M := Int.mul_le_mul_of_nonneg_right (by omega) (by omega)
  have up2 : mnI (c * M) K * N ≤ c * M * N := Int.mul_le_mul_of_nonneg_right (by omega) (by omega)
  obtain rfl | rfl | rfl | rfl | rfl : r = 0 ∨ r = 1 ∨ r = 2 ∨ r = 3 ∨ r = 4 := by omega
  · show c * E * (if 1 < S then S else 1) ≤ c * E' * (if 1 < S then S else 1)
    exact Int.mul_le_mul_of_nonneg_right (Int.mul_le_mul_of_nonneg_left hE hc0) (by split <;> omega)
  · have h := h (by omega)
    have k := k (by omega)
    show mnI (c * N) L * M ≤ mnI (c * M) K * N
    exact h.le k (show awE 1 S E ≤ awE 1 S E' from hE) c hc
  · have h := h (by omega)
    have k := k (by omega)
    show (c * N - mnI (c * N) L) * M ≤ (c * M - mnI (c * M) K) * N
    have := k.le h (show S - E' ≤ S - E by omega) c hc
    rw [Int.sub_mul, Int.sub_mul]
    omega
  · have h := h (by omega)
    have k := k (by omega)
    show (if 2 * E ≤ S then mnI (c * N) L else c * (2 * N) - mnI (c * N) L) * (2 * M) ≤ (if 2 * E' ≤ S then mnI (c * M) K else c * (2 * M) - mnI (c * M) K) * (2 * N)
    have e : ∀ E, awE 3 S E = if 2 * E ≤ S then 2 * E else 2 * (S - E) := fun _ => rfl
    have g : ∀ A B : Int, A * M ≤ B * N → A * (2 * M) ≤ B * (2 * N) := fun A B h => by
      rw [show A * (2 * M) = 2 * (A * M) by ac_rfl, show B * (2 * N) = 2 * (B * N) by ac_rfl]; omega
    refine g _ _ ?_
    rw [e] at h k
    by_cases hb : 2 * E ≤ S <;> by_cases hb' : 2 * E' ≤ S
    · rw [if_pos hb] at h ⊢; rw [if_pos hb'] at k ⊢
      have := h.le k (by omega) c hc
      omega
    · rw [if_pos hb] at h ⊢; rw [if_neg hb'] at k ⊢
      rw [Int.sub_mul, show c * (2 * M) * N = 2 * (c * M * N) by ac_rfl]
      omega
    · omega
    · rw [if_neg hb] at h ⊢; rw [if_neg hb'] at k ⊢
      have := k.le h (by omega) c hc
      rw [Int.sub_mul, Int.sub_mul, show c * (2 * M) * N = 2 * (c * M * N) by ac_rfl, show c * (2 * N) * M = 2 * (c * M * N) by ac_rfl]
      omega
  · have h := h (by omega)
    have k := k (by omega)
    show (if 2 * E ≤ S then mnI (c * N) L else c * N + mnI (c * N) L) * (2 * M) ≤ (if 2 * E' ≤ S then mnI (c * M) K else c * M + mnI (c * M) K) * (2 * N)
    have e : ∀ E, awE 4 S E = if 2 * E ≤ S then 2 * E else 2 * E - S := fun _ => rfl
    have g : ∀ A B : Int, A * M ≤ B * N → A * (2 * M) ≤ B * (2 * N) := fun A B h => by
      rw [show A * (2 * M) = 2 * (A * M) by ac_rfl, show B * (2 * N) = 2 * (B * N) by ac_rfl]; omega
    refine g _ _ ?_
    rw [e] at h k
    by_cases hb : 2 * E ≤ S <;> by_cases hb' : 2 * E' ≤ S
    · rw [if_pos hb] at h ⊢; rw [if_pos hb'] at k ⊢
      have := h.le k (by omega) c hc
      omega
    · rw [if_pos hb] at h ⊢; rw [if_neg hb'] at k ⊢
      have hK := k.l0 hV (by omega)
      have : 0 ≤ mnI (c * M) K := by have := Int.mul_nonneg hc0 (show 0 ≤ M by omega); omega
      have : 0 ≤ mnI (c * M) K * N := Int.mul_nonneg this (by omega)
      rw [Int.add_mul]
      omega
    · omega
    · rw [if_neg hb] at h ⊢; rw [if_neg hb'] at k ⊢
      have := h.le k (by omega) c hc
      rw [Int.add_mul, Int.add_mul]
      omega
/-- Rules that are dual: 0 and 0, 1 and 2, 2 and 1, 3 and 3. -/
theorem aw_dual {r r' : Nat} {zs : List Int} {E N L M K : Int} (hr : (r = 0 ∧ r' = 0) ∨ (r = 1 ∧ r' = 2) ∨ (r = 2 ∧ r' = 1) ∨ (r = 3 ∧ r' = 3)) (h : LevR r zs E N L) (k : LevR r' zs (zs.sum - E) M K) (hV : ∀ z ∈ zs, 0 ≤ z) (h0 : 0 ≤ E) (hS : E ≤ zs.sum) :
    ∀ c ∈ zs, awX r zs.sum E N L c * awD r' zs.sum M + awX r' zs.sum (zs.sum - E) M K c * awD r zs.sum N = c * (awD r zs.sum N * awD r' zs.sum M) := by
  intro c hc
  have hN := h.n1
  have hM := k.n1
  have hc0 := hV c hc
  have h := h.lev
  have k := k.lev
  have idm : (zs.map fun c => c * N).sum = zs.sum * N := sum_mul_all fun z _ => rfl
  have hz : zs.sum = 0 → c = 0 := fun h => by
    have := sum_eq_all (l := zs) (f := fun _ => 0) (g := fun c => c) (fun z hz => hV z hz) (by rw [List.map_id', h, sum_const_all (L := 0) (fun z _ => rfl)]; simp) c hc
    exact this.symm
  generalize hT : zs.sum = S at *
  rcases hr with ⟨rfl, rfl⟩ | ⟨rfl, rfl⟩ | ⟨rfl, rfl⟩ | ⟨rfl, rfl⟩
  · show c * E * (if 1 < S then S else 1) + c * (S - E) * (if 1 < S then S else 1) = c * ((if 1 < S then S else 1) * (if 1 < S then S else 1))
    rw [← Int.add_mul, ← Int.mul_add, show E + (S - E) = S by omega]
    split
    · ac_rfl
    · rcases Int.lt_or_le S 1 with h | h
      · rw [hz (by omega)]; simp
      · rw [show S = 1 by omega]; simp
  · have h := h (by omega)
    have k := k (by omega)
    show mnI (c * N) L * M + (c * M - mnI (c * M) K) * N = c * (N * M)
    have k : Lev zs (S - (S - E)) M K := k
    rw [show S - (S - E) = E by omega] at k
    have := h.same (show Lev zs E M K from k) c hc
    rw [Int.sub_mul, show c * (N * M) = c * M * N by ac_rfl]
    omega
  · have h := h (by omega)
    have k := k (by omega)
    show (c * N - mnI (c * N) L) * M + mnI (c * M) K * N = c * (N * M)
    have := (show Lev zs (S - E) N L from h).same k c hc
    rw [Int.sub_mul, show c * (N * M) = c * N * M by ac_rfl]
    omega
  · have h := h (by omega)
    have k := k (by omega)
    have sm := h.sum
    show (if 2 * E ≤ S then mnI (c * N) L else c * (2 * N) - mnI (c * N) L) * (2 * M) + (if 2 * (S - E) ≤ S then mnI (c * M) K else c * (2 * M) - mnI (c * M) K) * (2 * N) = c * (2 * N * (2 * M))
    have e : ∀ E, awE 3 S E = if 2 * E ≤ S then 2 * E else 2 * (S - E) := fun _ => rfl
    have g : ∀ A B : Int, A * M + B * N = 2 * (c * M * N) → A * (2 * M) + B * (2 * N) = c * (2 * N * (2 * M)) := fun A B h => by
      rw [show A * (2 * M) = 2 * (A * M) by ac_rfl, show B * (2 * N) = 2 * (B * N) by ac_rfl, show c * (2 * N * (2 * M)) = 2 * (2 * (c * M * N)) by ac_rfl]; omega
    refine g _ _ ?_
    rw [e] at h k sm
    by_cases hb : 2 * E ≤ S <;> by_cases hb' : 2 * (S - E) ≤ S
    · have hSE : 2 * E = S := by omega
      rw [if_pos hb] at h sm ⊢; rw [if_pos hb'] at k ⊢
      rw [show 2 * (S - E) = 2 * E by omega] at k
      have a := h.same k c hc
      have b := sum_eq_all (l := zs) (f := fun c => mnI (c * N) L) (g := fun c => c * N) (fun z _ => by show mnI (z * N) L ≤ z * N; rcases mnI_cases (z * N) L with ⟨_, h⟩ | ⟨_, h⟩ <;> omega) (by rw [idm, sm, hSE]; exact Int.le_refl _) c hc
      have b : mnI (c * N) L = c * N := b
      rw [b] at a ⊢
      have : c * N * M = c * M * N := by ac_rfl
      omega
    · rw [if_pos hb] at h sm ⊢; rw [if_neg hb'] at k ⊢
      rw [show 2 * (S - (S - E)) = 2 * E by omega] at k
      have a := h.same k c hc
      rw [Int.sub_mul, show c * (2 * M) * N = 2 * (c * M * N) by ac_rfl]
      omega
    · rw [if_neg hb] at h sm ⊢; rw [if_pos hb'] at k ⊢
      have a := h.same k c hc
      rw [Int.sub_mul, show c * (2 * N) * M = 2 * (c * M * N) by ac_rfl]
      omega
    · exfalso; omega
end Go.Proofs.Ytbocmbhinjkjlaa
set_option linter.unusedSimpArgs false
set_option linter.unusedVariables false
namespace Go.Proofs.Ytbocmbhinjkjlaa
open Go Go.Proofs Go.RowKit Go.Seq Go.Sort
def awF (r : Nat) (zs : List Int) (E N L : Int) (i : Nat) : Int × Int := (redN (awX r zs.sum E N L (zs.getD i 0)) (awD r zs.sum N), redD (awX r zs.sum E N L (zs.getD i 0)) (awD r zs.sum N))
/-- What a rule answers. -/
def AwR (r : Nat) (zs : List Int) (E : Int) (w : World) (e : Ending) (w' : World) : Prop := ∃ (G : Nat) (N L : Int), e = .returned (.slice (some ⟨G, 0, none⟩) zs.length zs.length) ∧ LevR r zs E N L ∧ w.heap.size ≤ G ∧ RowF w' G zs.length (awF r zs E N L) zs.length ∧ Below w.heap.size w w'
theorem sum_in {zs : List Int} (hV : Valid zs) : 0 ≤ zs.sum ∧ zs.sum ≤ 10000 := by
  have h2 := sum_bound hV.2.2 zs.length
  rw [List.take_length] at h2
  have := hV.2.1
  omega
theorem levR_of {r : Nat} {zs : List Int} {E N L : Int} (h : Lev zs (awE r zs.sum E) N L) (hV : Valid zs) (hE : 0 ≤ E ∧ E ≤ zs.sum) : LevR r zs E N L := by
  have hb := h.bounds hV (awE_in hE)
  have h0 := h.l0 (fun z hz => (hV.2.2 z hz).1) (awE_in (r := r) hE).1
  exact ⟨by omega, by omega, h0, by omega, fun _ => h⟩
/-- The class of a drawn region whose call, operation c, hides where its result lies; what hangs on it is listed behind it. -/
structure HcI (W0 : World) (c m : Nat) (R : Nat → Int → Int → World → Prop) (t : Nat → Bool) (G : Nat) (N L : Int) (W : World) : Prop where
  bw : Below W0.heap.size W0 W
  res : t c = true → R G N L W
  late : ∀ i, c < i → i < m → t i = true → t c = true
section
variable {W0 W W' : World} {c i m G : Nat} {N L : Int} {R : Nat → Int → Int → World → Prop} {t : Nat → Bool}
theorem HcI.start (hs : ∀ j, j < m → t j = false) (hc : c < m) : HcI W0 c m R t G N L W0.drew :=
  ⟨(Below.refl _ _).drew, (fun k => by rw [hs c hc] at k; cases k), fun i hi hm k => by rw [hs i hm] at k; cases k⟩
theorem upd_late {i j : Nat} (h : Manyd.upd t i j = true) (hn : j ≠ i) : t j = true := by
  have : (i == j) = false := by simp; omega
  simpa [Manyd.upd, this] using h
theorem HcI.keep (hi : i < c) (h : HcI W0 c m R t G N L W) : HcI W0 c m R (Manyd.upd t i) G N L W :=
  ⟨h.bw, (fun k => h.res (upd_late k (by omega))), fun j hj hm k => upd_keep (h.late j hj hm (upd_late k (by omega)))⟩
theorem HcI.post (hc : t c = true) (h : HcI W0 c m R t G N L W) : HcI W0 c m R (Manyd.upd t i) G N L W :=
  ⟨h.bw, (fun _ => h.res hc), fun j hj hm k => upd_keep hc⟩
theorem HcI.call {G' : Nat} {N' L' : Int} (hb : Below W.heap.size W W') (hr : R G' N' L' W') (h : HcI W0 c m R t G N L W) : HcI W0 c m R (Manyd.upd t c) G' N' L' W' :=
  ⟨h.bw.trans (hb.mono h.bw.size), (fun _ => hr), fun j hj hm k => by simp [Manyd.upd]⟩
theorem HcI.no (j : Nat) (h : HcI W0 c m R t G N L W) (hc : t c = false) (hj : c < j) (hm : j < m) : t j = false := by
  cases e : t j with
  | false => rfl
  | true => rw [h.late j hj hm e] at hc; cases hc
end
/-- The class of a drawn region that stores into a row, operation L, behind operation m. -/
structure StI (W0 : World) (B : Nat) (R0 R1 : World → Prop) (L m : Nat) (t : Nat → Bool) (W : World) : Prop where
  bw : Below B W0 W
  r0 : t L = false → R0 W
  r1 : t L = true → R1 W
  eL : t L = true → t m = true
section
variable {W0 W W' : World} {B L m i : Nat} {R0 R1 : World → Prop} {t : Nat → Bool}
theorem StI.start (h : R0 W0.drew) (hL : t L = false) : StI W0 B R0 R1 L m t W0.drew :=
  ⟨(Below.refl _ _).drew, fun _ => h, (fun k => by rw [hL] at k; cases k), (fun k => by rw [hL] at k; cases k)⟩
theorem StI.keep (hi : (i == L) = false) (h : StI W0 B R0 R1 L m t W) : StI W0 B R0 R1 L m (Manyd.upd t i) W :=
  ⟨h.bw, by rw [upd_ne hi]; exact h.r0, by rw [upd_ne hi]; exact h.r1, by rw [upd_ne hi]; exact fun k => by simp [Manyd.upd, h.eL k]⟩
theorem StI.call (hi : (i == L) = false) (h0 : R0 W → R0 W') (h1 : R1 W → R1 W') (hb : Below W.heap.size W W') (hB : B ≤ W.heap.size) (h : StI W0 B R0 R1 L m t W) : StI W0 B R0 R1 L m (Manyd.upd t i) W' :=
  ⟨h.bw.trans (hb.mono hB), by rw [upd_ne hi]; exact fun k => h0 (h.r0 k), by rw [upd_ne hi]; exact fun k => h1 (h.r1 k), by rw [upd_ne hi]; exact fun k => by simp [Manyd.upd, h.eL k]⟩
theorem StI.set (hm : t m = true) (hb : Below B W0 W') (h1 : R1 W') : StI W0 B R0 R1 L m (Manyd.upd t L) W' :=
  ⟨hb, (fun k => by simp [Manyd.upd] at k), fun _ => h1, (fun _ => by simp [Manyd.upd, hm])⟩
theorem StI.no (hm : t m = false) (h : StI W0 B R0 R1 L m t W) : t L = false := by
  cases e : t L with
  | false => rfl
  | true => rw [h.eL e] at hm; cases hm
theorem RowF.drew {n k : Nat} {G : Nat} {f : Nat → Int × Int} (h : RowF W G n f k) : RowF W.drew G n f k := h.after (Below.refl _ _).drew
end
theorem Own3.c2 {w : World} {g : Nat} {a b c : Value} (h : Own3 w g a b c) : w.cell? ⟨g, 2, none⟩ = some c := by rw [h.blk.cell]; rfl
theorem Own3.below {w w' : World} {B g : Nat} {a b c : Value} (h : Own3 w g a b c) (hb : Below B w w') (hl : g < B) : Own3 w' g a b c := ⟨h.blk.below hb hl⟩
def mixF (f g : Nat → Int × Int) (k i : Nat) : Int × Int := if i < k then f i else g i
theorem RowF.cell {W : World} {G n k i : Nat} {f : Nat → Int × Int} (h : RowF W G n f k) (hi : i < k) : W.cell? ⟨G, i * 2, none⟩ = some (.int .i64 (f i).1) ∧ W.cell? ⟨G, i * 2 + 1, none⟩ = some (.int .i64 (f i).2) := by
  obtain ⟨arr, h1, h2, h3⟩ := h
  rw [h1.cell, h1.cell]
  exact h3 i hi
theorem RowF.ext {W : World} {G n k : Nat} {f g : Nat → Int × Int} (h : RowF W G n f k) (he : ∀ i, i < k → f i = g i) : RowF W G n g k := by
  obtain ⟨arr, h1, h2, h3⟩ := h
  exact ⟨arr, h1, h2, fun i hi => by rw [← he i hi]; exact h3 i hi⟩
theorem RowF.mix {W : World} {G n k : Nat} {f g : Nat → Int × Int} (h : RowF W G n (mixF f g k) n) (hk : k < n) : RowF ((W.setCell ⟨G, k * 2, none⟩ (.int .i64 (f k).1)).setCell ⟨G, k * 2 + 1, none⟩ (.int .i64 (f k).2)) G n (mixF f g (k + 1)) n := by
  obtain ⟨arr, h1, h2, h3⟩ := h
  refine ⟨_, (h1.set (k * 2) _).set (k * 2 + 1) _, by simp [h2], fun i hi => ?_⟩
  by_cases h : i = k
  · subst h
    have e : mixF f g (i + 1) i = f i := if_pos (by omega)
    rw [e]
    constructor
    · rw [Array.getElem?_setIfInBounds_ne (by omega), Array.getElem?_setIfInBounds_self_of_lt (by omega)]
    · rw [Array.getElem?_setIfInBounds_self_of_lt (by simp; omega)]
  · have e : mixF f g (k + 1) i = mixF f g k i := by
      unfold mixF
      by_cases h' : i < k
      · rw [if_pos h', if_pos (by omega)]
      · rw [if_neg h', if_neg (by omega)]
    rw [e]
    have := h3 i hi
    constructor
    · rw [Array.getElem?_setIfInBounds_ne (by omega), Array.getElem?_setIfInBounds_ne (by omega)]; exact this.1
    · rw [Array.getElem?_setIfInBounds_ne (by omega), Array.getElem?_setIfInBounds_ne (by omega)]; exact this.2
theorem red_diff {c p q : Int} (hq : 1 ≤ q) : redN (c * redD p q + -(redN p q) * 1) (1 * redD p q) = redN (c * q - p) q ∧ redD (c * redD p q + -(redN p q) * 1) (1 * redD p q) = redD (c * q - p) q := by
  obtain ⟨g, g1, p1, p2, p3, p4⟩ := red_parts p hq
  refine red_same (by omega) hq ?_
  generalize redN p q = n at *
  generalize redD p q = d at *
  subst p1 p2
  rw [Int.mul_one, Int.one_mul, Int.add_mul, Int.sub_mul, Int.neg_mul]
  have e1 : c * d * (d * g) = c * (d * g) * d := by ac_rfl
  have e2 : n * (d * g) = n * g * d := by ac_rfl
  omega
theorem redV_inj {a b c d : Int} (h : redV a b = redV c d) : redN a b = redN c d ∧ redD a b = redD c d := by
  simpa [redV, fracV] using h
theorem red_plus {c p N : Int} (hN : 1 ≤ N) : redN (redN c 2 * redD p (2 * N) + redN p (2 * N) * redD c 2) (redD c 2 * redD p (2 * N)) = redN (c * N + p) (2 * N) ∧ redD (redN c 2 * redD p (2 * N) + redN p (2 * N) * redD c 2) (redD c 2 * redD p (2 * N)) = redD (c * N + p) (2 * N) := by
  refine redV_inj ?_
  rw [red_add (p := c) (q := 2) (p' := p) (q' := 2 * N) (by omega) (by omega)]
  refine redV_same (by omega) (by omega) ?_
  rw [Int.add_mul, Int.add_mul]
  have e1 : c * (2 * N) * (2 * N) = c * N * (2 * (2 * N)) := by ac_rfl
  have e2 : p * 2 * (2 * N) = p * (2 * (2 * N)) := by ac_rfl
  omega
end Go.Proofs.Ytbocmbhinjkjlaa
set_option linter.unusedSimpArgs false
set_option linter.unusedVariables false
namespace Go.Proofs.Ytbocmbhinjkjlaa
open Go Go.Proofs Go.RowKit Go.Seq Go.Sort
set_option maxHeartbeats 4000000 in
set_option maxRecDepth 100000 in
theorem proportional_any {H : Nat} {v : Value} {zs : List Int} {E : Int} {w : World} (hg : Own3 w H v (.int .i64 E) (.int .i64 zs.sum)) (hc : IntsO w v zs) (hV : Valid zs) (hE : 0 ≤ E ∧ E ≤ zs.sum) :
    Calls Try.prog 91 #[.pointer (some ⟨H, 0, none⟩)] w (AwR 0 zs E w) := by
  unfold AwR
  have hS := sum_in hV
  have hmk := fun w => made24 (N := zs.length) (by have := hV.2.1; omega) w
  have hVK := Keep.mk hV
  obtain ⟨A, cap, rfl, hcell⟩ := hc
  have hcK := Keep.mk hcell
  obtain ⟨n, hn⟩ : ∃ n, Keep (zs.length = n) := ⟨_, ⟨rfl⟩⟩
  have hn10 : n ≤ 10 := by have := hV.2.1; have := hn.out; omega
  rw [hn.out] at hmk hg ⊢
  obtain ⟨f, hf⟩ : ∃ f, Keep (awF 0 zs E 1 0 = f) := ⟨_, ⟨rfl⟩⟩
  obtain ⟨D, hD⟩ : ∃ D, Keep ((if 1 < zs.sum then zs.sum else 1) = D) := ⟨_, ⟨rfl⟩⟩
  have hDb : 1 ≤ D ∧ D ≤ 10000 := by have := hD.out; split at this <;> omega
  have hLR : Keep (LevR 0 zs E 1 0) := ⟨⟨by omega, by omega, by omega, by omega, fun h => absurd rfl h⟩⟩
  have hfe : Keep (∀ i, f i = (redN (zs.getD i 0 * E) D, redD (zs.getD i 0 * E) D)) := ⟨fun i => by rw [← hf.out, ← hD.out]; rfl⟩
  generalize hSS : zs.sum = S at *
  have hDe := hD.out
  have hSK := Keep.mk hSS
  have h0 := hg.c0
  have h1 := hg.c1
  have h2 := hg.c2
  have hHl := hg.blk.lt
  have hrow0 : RowF (w.alloc (.cells (fracZ n) 37)) w.heap.size n f 0 := RowF.start
  have hbA : Below w.heap.size w (w.alloc (.cells (fracZ n) 37)) := (Below.refl _ _).alloc (Nat.le_refl _) _
  clear hcell hV hSS
  have hDK := Keep.mk hDe
  clear hD hDe
  go_enter Try.func91, Try.ntmps91
  go_wp2
  go_loopw [17] (fun i wq => ∃ k : Nat, k ≤ n ∧ i = .int .i64 k ∧ Below w.heap.size w wq ∧ RowF wq w.heap.size n f k) (fun i _ => n - (intOf i).toNat)
  case atStart => exact ⟨0, by omega, rfl, hbA, hrow0⟩
  case round =>
    obtain ⟨k, hk, rfl, hbk, hrow⟩ := hrel
    have hbkz := hbk.size
    by_cases hkn : k < n
    · have hkn' : (k : Int) < (n : Int) := by omega
      obtain ⟨gz, oz, rfl, hzk⟩ := hcK.out k (by have := hn.out; omega)
      have hzk := cell_below hzk hbk
      have hgk := hg.after hbk
      have hzb := hVK.out.2.2 _ (getz (zs := zs) (k := k) (by have := hn.out; omega))
      have hfk := Keep.mk (hfe.out k)
      have hst := fun W (h : RowF W w.heap.size n f k) => h.store hkn
      rw [hfk.out] at hst
      generalize zs.getD k 0 = c at *
      have hmul := mul_in (a := c) (b := E) (A := 1000) (B := 10000) hzb.1 hzb.2 (by omega) (by omega)
      obtain ⟨P, hP⟩ : ∃ P, Keep (c * E = P) := ⟨_, ⟨rfl⟩⟩
      have wP : IntKind.i64.wrap (c * E) = P := by rw [← hP.out]; exact IntWalk.i64_in _ (by have := hP.out; omega)
      rw [hP.out] at hmul hst
      have q96 := fun w => lowest_any P D (by omega) (by omega) (by omega) (by omega) w
      obtain ⟨x0, hx0⟩ : ∃ x, Keep (redN P D = x) := ⟨_, ⟨rfl⟩⟩
      obtain ⟨x1, hx1⟩ : ∃ x, Keep (redD P D = x) := ⟨_, ⟨rfl⟩⟩
      rw [hx0.out, hx1.out] at q96 hst
      unfold fracV at q96
      clear hfk hzb hP hx0 hx1 hmul
      go_wp2
      refine (wpIn_wide (n := 0)).1 ?_
      refine Inv.region_inv (fun t act W => act = { tmps := #[Value.pointer (some ⟨H, 0, none⟩), undef, Value.slice none 0 0, Value.slice (some ⟨w.heap.size, 0, none⟩) n n, Value.int IntKind.i64 (k : Nat), Value.int IntKind.i64 c, Value.pointer (some ⟨H, 0, none⟩), Value.pointer (some ⟨H, 0, none⟩), Value.pointer (some ⟨H, 0, none⟩), Value.slice (some ⟨gz, oz, none⟩) n cap, Value.int IntKind.i64 (n : Nat), Value.slice (some ⟨w.heap.size, 0, none⟩) n n, Value.pointer (some ⟨H, 0, none⟩), Value.pointer (some ⟨H, 0, none⟩), Value.pointer (some ⟨H, 0, none⟩), Value.slice (some ⟨gz, oz, none⟩) n cap, Value.int IntKind.i64 (n : Nat), Value.int IntKind.i64 (k : Nat), Value.bool true, Value.int IntKind.i64 (k : Nat), Value.pointer (some ⟨gz, oz + k, none⟩), Value.int IntKind.i64 c, if t 0 = true then .slice (some ⟨w.heap.size, 0, none⟩) n n else u22, if t 1 = true then .int .i64 (k : Nat) else u23, if t 2 = true then .int .i64 c else u24, if t 3 = true then .pointer (some ⟨H, 0, none⟩) else u25, if t 4 = true then .pointer (some ⟨H, 0, none⟩) else u26, if t 5 = true then .pointer (some ⟨H, 1, none⟩) else u27, if t 6 = true then .int .i64 E else u28, if t 7 = true then .int .i64 P else u29, if t 8 = true then .pointer (some ⟨H, 0, none⟩) else u30, if t 9 = true then .pointer (some ⟨H, 0, none⟩) else u31, if t 10 = true then .pointer (some ⟨H, 2, none⟩) else u32, if t 11 = true then .int .i64 S else u33, if t 12 = true then .int .i64 D else u34, if t 13 = true then .agg #[.int .i64 x0, .int .i64 x1] else u35, if t 14 = true then .pointer (some ⟨w.heap.size, k * 2, none⟩) else u36, u37, undef], defers := [] } ∧ StI wr w.heap.size (fun W => RowF W w.heap.size n f k) (fun W => RowF W w.heap.size n f (k + 1)) 15 13 t  W) mixed_ok (by kernel_rfl) ?_ ?_ ?_
      · intro t hs
        refine ⟨?_, StI.start hrow.drew (hs 15 (by decide))⟩
        simp only [hs 0 (by decide), hs 1 (by decide), hs 2 (by decide), hs 3 (by decide), hs 4 (by decide), hs 5 (by decide), hs 6 (by decide), hs 7 (by decide), hs 8 (by decide), hs 9 (by decide), hs 10 (by decide), hs 11 (by decide), hs 12 (by decide), hs 13 (by decide), hs 14 (by decide), hs 15 (by decide), Bool.false_eq_true, if_false]
      · refine ⟨?_, ?_, ?_, ?_, ?_, ?_, ?_, ?_, ?_, ?_, ?_, ?_, ?_, ?_, ?_, ?_, trivial⟩
        · rintro t act W hun hdep hbeh ⟨rfl, hT⟩
          (try simp only [Nat.reduceAdd] at hun)
          refine .inl ⟨by rfl, Inv.comesV_val (.slice (some ⟨w.heap.size, 0, none⟩) n n) W (by (go_simp; try rfl)) ⟨by (simp only [Act.put, List.setIfInBounds_toArray, List.set_cons_succ, List.set_cons_zero, Manyd.upd, Nat.reduceAdd, Nat.reduceBEq, Bool.or_false, Bool.or_true, if_true]), StI.keep (i := 0) (by decide) hT⟩⟩
        · rintro t act W hun hdep hbeh ⟨rfl, hT⟩
          (try simp only [Nat.reduceAdd] at hun)
          refine .inl ⟨by rfl, Inv.comesV_val (.int .i64 (k : Nat)) W (by (go_simp; try rfl)) ⟨by (simp only [Act.put, List.setIfInBounds_toArray, List.set_cons_succ, List.set_cons_zero, Manyd.upd, Nat.reduceAdd, Nat.reduceBEq, Bool.or_false, Bool.or_true, if_true]), StI.keep (i := 1) (by decide) hT⟩⟩
        · rintro t act W hun hdep hbeh ⟨rfl, hT⟩
          (try simp only [Nat.reduceAdd] at hun)
          refine .inl ⟨by rfl, Inv.comesV_val (.int .i64 c) W (by (go_simp; try rfl)) ⟨by (simp only [Act.put, List.setIfInBounds_toArray, List.set_cons_succ, List.set_cons_zero, Manyd.upd, Nat.reduceAdd, Nat.reduceBEq, Bool.or_false, Bool.or_true, if_true]), StI.keep (i := 2) (by decide) hT⟩⟩
        · rintro t act W hun hdep hbeh ⟨rfl, hT⟩
          (try simp only [Nat.reduceAdd] at hun)
          refine .inl ⟨by rfl, Inv.comesV_val (.pointer (some ⟨H, 0, none⟩)) W (by (go_simp; try rfl)) ⟨by (simp only [Act.put, List.setIfInBounds_toArray, List.set_cons_succ, List.set_cons_zero, Manyd.upd, Nat.reduceAdd, Nat.reduceBEq, Bool.or_false, Bool.or_true, if_true]), StI.keep (i := 3) (by decide) hT⟩⟩
        · rintro t act W hun hdep hbeh ⟨rfl, hT⟩
          (try simp only [Nat.reduceAdd] at hun)
          have h3 : t 3 = true := Inv.depB_mem 3 hdep (by rfl)
          refine .inl ⟨by rfl, Inv.comesV_val (.pointer (some ⟨H, 0, none⟩)) W (by (simp only [h3, if_true, Bool.false_eq_true, if_false]; go_simp; try rfl)) ⟨by (simp only [Act.put, List.setIfInBounds_toArray, List.set_cons_succ, List.set_cons_zero, Manyd.upd, Nat.reduceAdd, Nat.reduceBEq, Bool.or_false, Bool.or_true, if_true]), StI.keep (i := 4) (by decide) hT⟩⟩
        · rintro t act W hun hdep hbeh ⟨rfl, hT⟩
          (try simp only [Nat.reduceAdd] at hun)
          have h4 : t 4 = true := Inv.depB_mem 4 hdep (by rfl)
          refine .inl ⟨by rfl, Inv.comesV_val (.pointer (some ⟨H, 1, none⟩)) W (by (simp only [h4, if_true, Bool.false_eq_true, if_false]; go_simp; try rfl)) ⟨by (simp only [Act.put, List.setIfInBounds_toArray, List.set_cons_succ, List.set_cons_zero, Manyd.upd, Nat.reduceAdd, Nat.reduceBEq, Bool.or_false, Bool.or_true, if_true]), StI.keep (i := 5) (by decide) hT⟩⟩
        · rintro t act W hun hdep hbeh ⟨rfl, hT⟩
          (try simp only [Nat.reduceAdd] at hun)
          have h5 : t 5 = true := Inv.depB_mem 5 hdep (by rfl)
          have c1 := (hgk.below hT.bw (by omega)).c1
          refine .inl ⟨by rfl, Inv.comesV_val (.int .i64 E) W (by (simp only [h5, if_true, Bool.false_eq_true, if_false]; go_simp; try rfl)) ⟨by (simp only [Act.put, List.setIfInBounds_toArray, List.set_cons_succ, List.set_cons_zero, Manyd.upd, Nat.reduceAdd, Nat.reduceBEq, Bool.or_false, Bool.or_true, if_true]), StI.keep (i := 6) (by decide) hT⟩⟩
        · rintro t act W hun hdep hbeh ⟨rfl, hT⟩
          (try simp only [Nat.reduceAdd] at hun)
          have h2 : t 2 = true := Inv.depB_mem 2 hdep (by rfl)
          have h6 : t 6 = true := Inv.depB_mem 6 hdep (by rfl)
          refine .inl ⟨by rfl, Inv.comesV_val (.int .i64 P) W (by (simp only [h2, h6, if_true, Bool.false_eq_true, if_false]; go_simp; try rfl)) ⟨by (simp only [Act.put, List.setIfInBounds_toArray, List.set_cons_succ, List.set_cons_zero, Manyd.upd, Nat.reduceAdd, Nat.reduceBEq, Bool.or_false, Bool.or_true, if_true]), StI.keep (i := 7) (by decide) hT⟩⟩
        · rintro t act W hun hdep hbeh ⟨rfl, hT⟩
          (try simp only [Nat.reduceAdd] at hun)
          refine .inl ⟨by rfl, Inv.comesV_val (.pointer (some ⟨H, 0, none⟩)) W (by (go_simp; try rfl)) ⟨by (simp only [Act.put, List.setIfInBounds_toArray, List.set_cons_succ, List.set_cons_zero, Manyd.upd, Nat.reduceAdd, Nat.reduceBEq, Bool.or_false, Bool.or_true, if_true]), StI.keep (i := 8) (by decide) hT⟩⟩
        · rintro t act W hun hdep hbeh ⟨rfl, hT⟩
          (try simp only [Nat.reduceAdd] at hun)
          have h8 : t 8 = true := Inv.depB_mem 8 hdep (by rfl)
          refine .inl ⟨by rfl, Inv.comesV_val (.pointer (some ⟨H, 0, none⟩)) W (by (simp only [h8, if_true, Bool.false_eq_true, if_false]; go_simp; try rfl)) ⟨by (simp only [Act.put, List.setIfInBounds_toArray, List.set_cons_succ, List.set_cons_zero, Manyd.upd, Nat.reduceAdd, Nat.reduceBEq, Bool.or_false, Bool.or_true, if_true]), StI.keep (i := 9) (by decide) hT⟩⟩
        · rintro t act W hun hdep hbeh ⟨rfl, hT⟩
          (try simp only [Nat.reduceAdd] at hun)
          have h9 : t 9 = true := Inv.depB_mem 9 hdep (by rfl)
          refine .inl ⟨by rfl, Inv.comesV_val (.pointer (some ⟨H, 2, none⟩)) W (by (simp only [h9, if_true, Bool.false_eq_true, if_false]; go_simp; try rfl)) ⟨by (simp only [Act.put, List.setIfInBounds_toArray, List.set_cons_succ, List.set_cons_zero, Manyd.upd, Nat.reduceAdd, Nat.reduceBEq, Bool.or_false, Bool.or_true, if_true]), StI.keep (i := 10) (by decide) hT⟩⟩
        · rintro t act W hun hdep hbeh ⟨rfl, hT⟩
          (try simp only [Nat.reduceAdd] at hun)
          have h10 : t 10 = true := Inv.depB_mem 10 hdep (by rfl)
          have c2 := (hgk.below hT.bw (by omega)).c2
          refine .inl ⟨by rfl, Inv.comesV_val (.int .i64 S) W (by (simp only [h10, if_true, Bool.false_eq_true, if_false]; go_simp; try rfl)) ⟨by (simp only [Act.put, List.setIfInBounds_toArray, List.set_cons_succ, List.set_cons_zero, Manyd.upd, Nat.reduceAdd, Nat.reduceBEq, Bool.or_false, Bool.or_true, if_true]), StI.keep (i := 11) (by decide) hT⟩⟩
        · rintro t act W hun hdep hbeh ⟨rfl, hT⟩
          (try simp only [Nat.reduceAdd] at hun)
          have h11 : t 11 = true := Inv.depB_mem 11 hdep (by rfl)
          have hDe : max 1 S = D := by (have h := hDK.out; split at h <;> omega)
          refine .inl ⟨by rfl, Inv.comesV_val (.int .i64 D) W (by (simp only [h11, if_true, Bool.false_eq_true, if_false]; go_simp; try rfl)) ⟨by (simp only [Act.put, List.setIfInBounds_toArray, List.set_cons_succ, List.set_cons_zero, Manyd.upd, Nat.reduceAdd, Nat.reduceBEq, Bool.or_false, Bool.or_true, if_true]), StI.keep (i := 12) (by decide) hT⟩⟩
        · rintro t act W hun hdep hbeh ⟨rfl, hT⟩
          (try simp only [Nat.reduceAdd] at hun)
          have h7 : t 7 = true := Inv.depB_mem 7 hdep (by rfl)
          have h12 : t 12 = true := Inv.depB_mem 12 hdep (by rfl)
          refine .inl ⟨by rfl, Inv.comesV_call 96 #[.int .i64 P, .int .i64 D] W (by (simp only [h7, h12, if_true, Bool.false_eq_true, if_false]; go_simp; try rfl)) ((q96 W).mono fun e w5 hw5 => ⟨_, hw5.1, by (simp only [Act.put, List.setIfInBounds_toArray, List.set_cons_succ, List.set_cons_zero, Manyd.upd, Nat.reduceAdd, Nat.reduceBEq, Bool.or_false, Bool.or_true, if_true]), StI.call (i := 13) (by decide) (fun h => h.after hw5.2) (fun h => h.after hw5.2) hw5.2 (Nat.le_trans hbkz (hT.bw.size)) hT⟩)⟩
        · rintro t act W hun hdep hbeh ⟨rfl, hT⟩
          (try simp only [Nat.reduceAdd] at hun)
          have h0 : t 0 = true := Inv.depB_mem 0 hdep (by rfl)
          have h1 : t 1 = true := Inv.depB_mem 1 hdep (by rfl)
          refine .inl ⟨by rfl, Inv.comesV_val (.pointer (some ⟨w.heap.size, k * 2, none⟩)) W (by (simp only [h0, h1, if_true, Bool.false_eq_true, if_false]; go_simp; try rfl)) ⟨by (simp only [Act.put, List.setIfInBounds_toArray, List.set_cons_succ, List.set_cons_zero, Manyd.upd, Nat.reduceAdd, Nat.reduceBEq, Bool.or_false, Bool.or_true, if_true]), StI.keep (i := 14) (by decide) hT⟩⟩
        · rintro t act W hun hdep hbeh ⟨rfl, hT⟩
          (try simp only [Nat.reduceAdd] at hun)
          have h13 : t 13 = true := Inv.depB_mem 13 hdep (by rfl)
          have h14 : t 14 = true := Inv.depB_mem 14 hdep (by rfl)
          obtain ⟨⟨u0, hu0⟩, hf0⟩ := (hT.r0 hun).can (i := k * 2) (by omega)
          obtain ⟨⟨u1, hu1⟩, hf1⟩ := (hT.r0 hun).can (i := k * 2 + 1) (by omega)
          refine .inl ⟨by rfl, Inv.comesV_skip ((W.setCell ⟨w.heap.size, k * 2, none⟩ (.int .i64 x0)).setCell ⟨w.heap.size, k * 2 + 1, none⟩ (.int .i64 x1)) (by (simp only [h13, h14, if_true, Bool.false_eq_true, if_false]; go_simp; try rfl)) ⟨by (simp only [Act.put, List.setIfInBounds_toArray, List.set_cons_succ, List.set_cons_zero, Manyd.upd, Nat.reduceAdd, Nat.reduceBEq, Bool.or_false, Bool.or_true, if_true]), StI.set h13 ((hT.bw.setCell (p := ⟨w.heap.size, k * 2, none⟩) (Nat.le_refl _) _).setCell (p := ⟨w.heap.size, k * 2 + 1, none⟩) (Nat.le_refl _) _) (hst _ (hT.r0 hun))⟩⟩
      rintro t a' W1 hs ⟨rfl, hT⟩
      simp only [hs 0 (by decide), hs 1 (by decide), hs 2 (by decide), hs 3 (by decide), hs 4 (by decide), hs 5 (by decide), hs 6 (by decide), hs 7 (by decide), hs 8 (by decide), hs 9 (by decide), hs 10 (by decide), hs 11 (by decide), hs 12 (by decide), hs 13 (by decide), hs 14 (by decide), hs 15 (by decide), if_true]
      have hb2 := hbk.trans hT.bw
      have hrow2 := hT.r1 (hs 15 (by decide))
      clear hT hs
      go_wp2
      exact ⟨⟨k + 1, by omega, by go_num, hb2, hrow2⟩, by simp [intOf]; omega⟩
    · obtain rfl : k = n := by omega
      go_wp2
      go_ret
      exact ⟨w.heap.size, 1, 0, rfl, hLR.out, Nat.le_refl _, by rw [hf.out]; exact hrow, hbk⟩
end Go.Proofs.Ytbocmbhinjkjlaa
set_option linter.unusedSimpArgs false
set_option linter.unusedVariables false
namespace Go.Proofs.Ytbocmbhinjkjlaa
open Go Go.Proofs Go.RowKit Go.Seq Go.Sort
set_option maxHeartbeats 4000000 in
set_option maxRecDepth 100000 in
theorem equalLosses_any {H : Nat} {v : Value} {zs : List Int} {E : Int} {w : World} (hg : Own3 w H v (.int .i64 E) (.int .i64 zs.sum)) (hc : IntsO w v zs) (hV : Valid zs) (hE : 0 ≤ E ∧ E ≤ zs.sum) :
    Calls Try.prog 93 #[.pointer (some ⟨H, 0, none⟩)] w (AwR 2 zs E w) := by
  unfold AwR
  have hS := sum_in hV
  have hgK := Keep.mk hg
  have hcI := Keep.mk hc
  have hVK := Keep.mk hV
  have hEK := Keep.mk hE
  have q111 := fun w (hb : Own3 w H v (.int .i64 E) (.int .i64 zs.sum)) (hc : IntsO w v zs) => level_any (E := zs.sum - E) hb hc hV (by omega)
  have hmk := fun w => made24 (N := zs.length) (by have := hV.2.1; omega) w
  obtain ⟨A, cap, rfl, hcell⟩ := hc
  have hcK := Keep.mk hcell
  obtain ⟨n, hn⟩ : ∃ n, Keep (zs.length = n) := ⟨_, ⟨rfl⟩⟩
  have hn10 : n ≤ 10 := by have := hV.2.1; have := hn.out; omega
  have hHl := hg.blk.lt
  rw [hn.out] at hmk q111 hg hgK hcI ⊢
  have wS : IntKind.i64.wrap (zs.sum - E) = zs.sum - E := IntWalk.i64_in _ (by omega)
  obtain ⟨S, hSS⟩ : ∃ S, Keep (zs.sum = S) := ⟨_, ⟨rfl⟩⟩
  obtain ⟨T, hT0⟩ : ∃ T, Keep (zs.sum - E = T) := ⟨_, ⟨rfl⟩⟩
  have hTe : Keep (awE 2 zs.sum E = T) := ⟨hT0.out⟩
  have wS2 : IntKind.i64.wrap (S - E) = T := by rw [← hSS.out, wS]; exact hT0.out
  clear wS
  rw [hT0.out] at q111
  rw [hSS.out] at hg hgK q111
  clear hcell hV hE hS
  go_enter Try.func93, Try.ntmps93
  go_wp2
  refine (wpIn_wide (n := 0)).1 ?_
  refine Inv.region_inv (fun t act W => ∃ G, ∃ N, ∃ L, act = { tmps := #[Value.pointer (some ⟨H, 0, none⟩), undef, Value.slice none 0 0, if t 14 = true then .slice (some ⟨G, 0, none⟩) n n else undef, if t 15 = true then .int .i64 N else undef, undef, undef, undef, if t 11 = true then .tuple #[.slice (some ⟨G, 0, none⟩) n n, .int .i64 N] else undef, if t 0 = true then .pointer (some ⟨H, 0, none⟩) else undef, if t 1 = true then .pointer (some ⟨H, 0, none⟩) else undef, if t 2 = true then .pointer (some ⟨H, 0, none⟩) else undef, if t 3 = true then .pointer (some ⟨H, 2, none⟩) else undef, if t 4 = true then .int .i64 S else undef, if t 5 = true then .pointer (some ⟨H, 0, none⟩) else undef, if t 6 = true then .pointer (some ⟨H, 0, none⟩) else undef, if t 7 = true then .pointer (some ⟨H, 1, none⟩) else undef, if t 8 = true then .int .i64 E else undef, if t 9 = true then .int .i64 T else undef, if t 10 = true then .tuple #[.slice (some ⟨G, 0, none⟩) n n, .int .i64 N] else undef, if t 12 = true then .slice (some ⟨G, 0, none⟩) n n else undef, if t 13 = true then .int .i64 N else undef, undef, undef, undef, undef, undef, undef, undef, undef, undef, undef, undef, undef, undef, undef, undef, undef, undef, undef, undef, undef, undef, undef, undef, undef, undef, undef, undef, undef], defers := [] } ∧ HcI w 10 16 (fun G N L W => Lev zs T N L ∧ w.heap.size ≤ G ∧ RowK W G n (partF zs N L) n) t G N L W) mixed_ok (by kernel_rfl) ?_ ?_ ?_
  · intro t hs
    refine ⟨0, 0, 0, ?_, HcI.start hs (by decide)⟩
    simp only [hs 0 (by decide), hs 1 (by decide), hs 2 (by decide), hs 3 (by decide), hs 4 (by decide), hs 5 (by decide), hs 6 (by decide), hs 7 (by decide), hs 8 (by decide), hs 9 (by decide), hs 10 (by decide), hs 11 (by decide), hs 12 (by decide), hs 13 (by decide), hs 14 (by decide), hs 15 (by decide), Bool.false_eq_true, if_false]
  · refine ⟨?_, ?_, ?_, ?_, ?_, ?_, ?_, ?_, ?_, ?_, ?_, ?_, ?_, ?_, ?_, ?_, trivial⟩
    · rintro t act W hun hdep hbeh ⟨G, N, L, rfl, hT⟩
      (try simp only [Nat.reduceAdd] at hun)
      refine .inl ⟨by rfl, Inv.comesV_val (.pointer (some ⟨H, 0, none⟩)) W (by (go_simp; try rfl)) ⟨G, N, L, by (simp only [Act.put, List.setIfInBounds_toArray, List.set_cons_succ, List.set_cons_zero, Manyd.upd, Nat.reduceAdd, Nat.reduceBEq, Bool.or_false, Bool.or_true, if_true]), HcI.keep (i := 0) (by decide) hT⟩⟩
    · rintro t act W hun hdep hbeh ⟨G, N, L, rfl, hT⟩
      (try simp only [Nat.reduceAdd] at hun)
      refine .inl ⟨by rfl, Inv.comesV_val (.pointer (some ⟨H, 0, none⟩)) W (by (go_simp; try rfl)) ⟨G, N, L, by (simp only [Act.put, List.setIfInBounds_toArray, List.set_cons_succ, List.set_cons_zero, Manyd.upd, Nat.reduceAdd, Nat.reduceBEq, Bool.or_false, Bool.or_true, if_true]), HcI.keep (i := 1) (by decide) hT⟩⟩
    · rintro t act W hun hdep hbeh ⟨G, N, L, rfl, hT⟩
      (try simp only [Nat.reduceAdd] at hun)
      have h1 : t 1 = true := Inv.depB_mem 1 hdep (by rfl)
      refine .inl ⟨by rfl, Inv.comesV_val (.pointer (some ⟨H, 0, none⟩)) W (by (simp only [h1, if_true, Bool.false_eq_true, if_false]; go_simp; try rfl)) ⟨G, N, L, by (simp only [Act.put, List.setIfInBounds_toArray, List.set_cons_succ, List.set_cons_zero, Manyd.upd, Nat.reduceAdd, Nat.reduceBEq, Bool.or_false, Bool.or_true, if_true]), HcI.keep (i := 2) (by decide) hT⟩⟩
    · rintro t act W hun hdep hbeh ⟨G, N, L, rfl, hT⟩
      (try simp only [Nat.reduceAdd] at hun)
      have h2 : t 2 = true := Inv.depB_mem 2 hdep (by rfl)
      refine .inl ⟨by rfl, Inv.comesV_val (.pointer (some ⟨H, 2, none⟩)) W (by (simp only [h2, if_true, Bool.false_eq_true, if_false]; go_simp; try rfl)) ⟨G, N, L, by (simp only [Act.put, List.setIfInBounds_toArray, List.set_cons_succ, List.set_cons_zero, Manyd.upd, Nat.reduceAdd, Nat.reduceBEq, Bool.or_false, Bool.or_true, if_true]), HcI.keep (i := 3) (by decide) hT⟩⟩
    · rintro t act W hun hdep hbeh ⟨G, N, L, rfl, hT⟩
      (try simp only [Nat.reduceAdd] at hun)
      have h3 : t 3 = true := Inv.depB_mem 3 hdep (by rfl)
      have c2 := (hg.after hT.bw).c2
      refine .inl ⟨by rfl, Inv.comesV_val (.int .i64 S) W (by (simp only [h3, if_true, Bool.false_eq_true, if_false]; go_simp; try rfl)) ⟨G, N, L, by (simp only [Act.put, List.setIfInBounds_toArray, List.set_cons_succ, List.set_cons_zero, Manyd.upd, Nat.reduceAdd, Nat.reduceBEq, Bool.or_false, Bool.or_true, if_true]), HcI.keep (i := 4) (by decide) hT⟩⟩
    · rintro t act W hun hdep hbeh ⟨G, N, L, rfl, hT⟩
      (try simp only [Nat.reduceAdd] at hun)
      refine .inl ⟨by rfl, Inv.comesV_val (.pointer (some ⟨H, 0, none⟩)) W (by (go_simp; try rfl)) ⟨G, N, L, by (simp only [Act.put, List.setIfInBounds_toArray, List.set_cons_succ, List.set_cons_zero, Manyd.upd, Nat.reduceAdd, Nat.reduceBEq, Bool.or_false, Bool.or_true, if_true]), HcI.keep (i := 5) (by decide) hT⟩⟩
    · rintro t act W hun hdep hbeh ⟨G, N, L, rfl, hT⟩
      (try simp only [Nat.reduceAdd] at hun)
      have h5 : t 5 = true := Inv.depB_mem 5 hdep (by rfl)
      refine .inl ⟨by rfl, Inv.comesV_val (.pointer (some ⟨H, 0, none⟩)) W (by (simp only [h5, if_true, Bool.false_eq_true, if_false]; go_simp; try rfl)) ⟨G, N, L, by (simp only [Act.put, List.setIfInBounds_toArray, List.set_cons_succ, List.set_cons_zero, Manyd.upd, Nat.reduceAdd, Nat.reduceBEq, Bool.or_false, Bool.or_true, if_true]), HcI.keep (i := 6) (by decide) hT⟩⟩
    · rintro t act W hun hdep hbeh ⟨G, N, L, rfl, hT⟩
      (try simp only [Nat.reduceAdd] at hun)
      have h6 : t 6 = true := Inv.depB_mem 6 hdep (by rfl)
      refine .inl ⟨by rfl, Inv.comesV_val (.pointer (some ⟨H, 1, none⟩)) W (by (simp only [h6, if_true, Bool.false_eq_true, if_false]; go_simp; try rfl)) ⟨G, N, L, by (simp only [Act.put, List.setIfInBounds_toArray, List.set_cons_succ, List.set_cons_zero, Manyd.upd, Nat.reduceAdd, Nat.reduceBEq, Bool.or_false, Bool.or_true, if_true]), HcI.keep (i := 7) (by decide) hT⟩⟩
    · rintro t act W hun hdep hbeh ⟨G, N, L, rfl, hT⟩
      (try simp only [Nat.reduceAdd] at hun)
      have h7 : t 7 = true := Inv.depB_mem 7 hdep (by rfl)
      have c1 := (hg.after hT.bw).c1
      refine .inl ⟨by rfl, Inv.comesV_val (.int .i64 E) W (by (simp only [h7, if_true, Bool.false_eq_true, if_false]; go_simp; try rfl)) ⟨G, N, L, by (simp only [Act.put, List.setIfInBounds_toArray, List.set_cons_succ, List.set_cons_zero, Manyd.upd, Nat.reduceAdd, Nat.reduceBEq, Bool.or_false, Bool.or_true, if_true]), HcI.keep (i := 8) (by decide) hT⟩⟩
    · rintro t act W hun hdep hbeh ⟨G, N, L, rfl, hT⟩
      (try simp only [Nat.reduceAdd] at hun)
      have h4 : t 4 = true := Inv.depB_mem 4 hdep (by rfl)
      have h8 : t 8 = true := Inv.depB_mem 8 hdep (by rfl)
      refine .inl ⟨by rfl, Inv.comesV_val (.int .i64 T) W (by (simp only [h4, h8, if_true, Bool.false_eq_true, if_false]; go_simp; try rfl)) ⟨G, N, L, by (simp only [Act.put, List.setIfInBounds_toArray, List.set_cons_succ, List.set_cons_zero, Manyd.upd, Nat.reduceAdd, Nat.reduceBEq, Bool.or_false, Bool.or_true, if_true]), HcI.keep (i := 9) (by decide) hT⟩⟩
    · rintro t act W hun hdep hbeh ⟨G, N, L, rfl, hT⟩
      (try simp only [Nat.reduceAdd] at hun)
      have h0 : t 0 = true := Inv.depB_mem 0 hdep (by rfl)
      have h9 : t 9 = true := Inv.depB_mem 9 hdep (by rfl)
      refine .inl ⟨by rfl, Inv.comesV_call 111 #[.pointer (some ⟨H, 0, none⟩), .int .i64 T] W (by (simp only [h0, h9, if_true, Bool.false_eq_true, if_false]; go_simp; try rfl)) ((q111 W (hg.after hT.bw) (intsO_below hcI.out hT.bw)).mono fun e w5 hw5 => ?_)⟩
      obtain ⟨G, N, L, rfl, hlev, hG, hrow, hb⟩ := hw5
      have n11 : t 11 = false := hT.no 11 hun (by decide) (by decide)
      have n12 : t 12 = false := hT.no 12 hun (by decide) (by decide)
      have n13 : t 13 = false := hT.no 13 hun (by decide) (by decide)
      have n14 : t 14 = false := hT.no 14 hun (by decide) (by decide)
      have n15 : t 15 = false := hT.no 15 hun (by decide) (by decide)
      exact ⟨_, rfl, G, N, L, by (simp only [Act.put, List.setIfInBounds_toArray, List.set_cons_succ, List.set_cons_zero, Manyd.upd, Nat.reduceAdd, Nat.reduceBEq, Bool.or_false, Bool.or_true, if_true, n11, n12, n13, n14, n15, Bool.false_eq_true, if_false]), HcI.call hb ⟨hlev, Nat.le_trans hT.bw.size hG, hrow⟩ hT⟩
    · rintro t act W hun hdep hbeh ⟨G, N, L, rfl, hT⟩
      (try simp only [Nat.reduceAdd] at hun)
      have h10 : t 10 = true := Inv.depB_mem 10 hdep (by rfl)
      refine .inl ⟨by rfl, Inv.comesV_val (.tuple #[.slice (some ⟨G, 0, none⟩) n n, .int .i64 N]) W (by (simp only [h10, if_true, Bool.false_eq_true, if_false]; go_simp; try rfl)) ⟨G, N, L, by (simp only [Act.put, List.setIfInBounds_toArray, List.set_cons_succ, List.set_cons_zero, Manyd.upd, Nat.reduceAdd, Nat.reduceBEq, Bool.or_false, Bool.or_true, if_true]), HcI.post (i := 11) h10 hT⟩⟩
    · rintro t act W hun hdep hbeh ⟨G, N, L, rfl, hT⟩
      (try simp only [Nat.reduceAdd] at hun)
      have h11 : t 11 = true := Inv.depB_mem 11 hdep (by rfl)
      refine .inl ⟨by rfl, Inv.comesV_val (.slice (some ⟨G, 0, none⟩) n n) W (by (simp only [h11, if_true, Bool.false_eq_true, if_false]; go_simp; try rfl)) ⟨G, N, L, by (simp only [Act.put, List.setIfInBounds_toArray, List.set_cons_succ, List.set_cons_zero, Manyd.upd, Nat.reduceAdd, Nat.reduceBEq, Bool.or_false, Bool.or_true, if_true]), HcI.post (i := 12) (hT.late 11 (by decide) (by decide) h11) hT⟩⟩
    · rintro t act W hun hdep hbeh ⟨G, N, L, rfl, hT⟩
      (try simp only [Nat.reduceAdd] at hun)
      have h11 : t 11 = true := Inv.depB_mem 11 hdep (by rfl)
      refine .inl ⟨by rfl, Inv.comesV_val (.int .i64 N) W (by (simp only [h11, if_true, Bool.false_eq_true, if_false]; go_simp; try rfl)) ⟨G, N, L, by (simp only [Act.put, List.setIfInBounds_toArray, List.set_cons_succ, List.set_cons_zero, Manyd.upd, Nat.reduceAdd, Nat.reduceBEq, Bool.or_false, Bool.or_true, if_true]), HcI.post (i := 13) (hT.late 11 (by decide) (by decide) h11) hT⟩⟩
    · rintro t act W hun hdep hbeh ⟨G, N, L, rfl, hT⟩
      (try simp only [Nat.reduceAdd] at hun)
      have h12 : t 12 = true := Inv.depB_mem 12 hdep (by rfl)
      refine .inl ⟨by rfl, Inv.comesV_val (.slice (some ⟨G, 0, none⟩) n n) W (by (simp only [h12, if_true, Bool.false_eq_true, if_false]; go_simp; try rfl)) ⟨G, N, L, by (simp only [Act.put, List.setIfInBounds_toArray, List.set_cons_succ, List.set_cons_zero, Manyd.upd, Nat.reduceAdd, Nat.reduceBEq, Bool.or_false, Bool.or_true, if_true]), HcI.post (i := 14) (hT.late 12 (by decide) (by decide) h12) hT⟩⟩
    · rintro t act W hun hdep hbeh ⟨G, N, L, rfl, hT⟩
      (try simp only [Nat.reduceAdd] at hun)
      have h13 : t 13 = true := Inv.depB_mem 13 hdep (by rfl)
      refine .inl ⟨by rfl, Inv.comesV_val (.int .i64 N) W (by (simp only [h13, if_true, Bool.false_eq_true, if_false]; go_simp; try rfl)) ⟨G, N, L, by (simp only [Act.put, List.setIfInBounds_toArray, List.set_cons_succ, List.set_cons_zero, Manyd.upd, Nat.reduceAdd, Nat.reduceBEq, Bool.or_false, Bool.or_true, if_true]), HcI.post (i := 15) (hT.late 13 (by decide) (by decide) h13) hT⟩⟩
  rintro t a' w1 hs ⟨G, N, L, rfl, hT⟩
  simp only [hs 0 (by decide), hs 1 (by decide), hs 2 (by decide), hs 3 (by decide), hs 4 (by decide), hs 5 (by decide), hs 6 (by decide), hs 7 (by decide), hs 8 (by decide), hs 9 (by decide), hs 10 (by decide), hs 11 (by decide), hs 12 (by decide), hs 13 (by decide), hs 14 (by decide), hs 15 (by decide), if_true]
  have hbw := hT.bw
  have hR := hT.res (hs 10 (by decide))
  clear hT hs
  have hrowP := hR.2.2
  have hrow0 : RowF (w1.alloc (.cells (fracZ n) 37)) w1.heap.size n (awF 2 zs E N L) 0 := RowF.start
  have hbA : Below w1.heap.size w1 (w1.alloc (.cells (fracZ n) 37)) := (Below.refl _ _).alloc (Nat.le_refl _) _
  have hLR : Keep (LevR 2 zs E N L) := ⟨levR_of (by rw [hTe.out]; exact hR.1) hVK.out hEK.out⟩
  have hb1 := hbw
  have hrK := Keep.mk hrowP
  have hN1 := hLR.out.n1
  have hN10 := hLR.out.n10
  have hg1 := hgK.out.after hb1
  have hG1 := hR.2.1
  clear hR hrowP
  go_wp2
  go_loopw [27] (fun i wq => ∃ k : Nat, k ≤ n ∧ i = .int .i64 k ∧ Below w1.heap.size w1 wq ∧ RowF wq w1.heap.size n (awF 2 zs E N L) k) (fun i _ => n - (intOf i).toNat)
  case atStart => exact ⟨0, by omega, rfl, hbA, hrow0⟩
  case round =>
    obtain ⟨k, hk, rfl, hbk, hrow⟩ := hrel
    have hbkz := hbk.size
    by_cases hkn : k < n
    · have hkn' : (k : Int) < (n : Int) := by omega
      have hc1 := cell_below (hrK.out.cell hkn) hbk
      obtain ⟨gz, oz, rfl, hzk⟩ := hcK.out k (by have := hn.out; omega)
      have hzk := cell_below hzk (hb1.trans (hbk.mono hb1.size))
      have h0 := (hg1.after hbk).c0
      have hzb := hVK.out.2.2 _ (getz (zs := zs) (k := k) (by have := hn.out; omega))
      have hpf : Keep (awF 2 zs E N L k = (redN (zs.getD k 0 * N - partF zs N L k) N, redD (zs.getD k 0 * N - partF zs N L k) N)) := ⟨rfl⟩
      have hpc : (zs.getD k 0 * N < L ∧ partF zs N L k = zs.getD k 0 * N) ∨ (L ≤ zs.getD k 0 * N ∧ partF zs N L k = L) := mnI_cases _ _
      have hl0 := hLR.out.l0
      have hl1 := hLR.out.l1
      have hst := fun W (h : RowF W w1.heap.size n (awF 2 zs E N L) k) => h.store hkn
      rw [hpf.out] at hst
      have hm := mul_in (a := zs.getD k 0) (b := N) (A := 1000) (B := 10) hzb.1 hzb.2 (by omega) (by omega)
      generalize partF zs N L k = P at *
      generalize zs.getD k 0 = c at *
      obtain ⟨M, hM⟩ : ∃ M, Keep (c * N = M) := ⟨_, ⟨rfl⟩⟩
      have wM : IntKind.i64.wrap (c * N) = M := by rw [← hM.out]; exact IntWalk.i64_in _ (by omega)
      rw [hM.out] at hm hpc hst
      have wMP : IntKind.i64.wrap (M - P) = M - P := IntWalk.i64_in _ (by omega)
      have q96 := fun w => lowest_any (M - P) N (by omega) (by omega) (by omega) (by omega) w
      obtain ⟨x0, hx0⟩ : ∃ x, Keep (redN (M - P) N = x) := ⟨_, ⟨rfl⟩⟩
      obtain ⟨x1, hx1⟩ : ∃ x, Keep (redD (M - P) N = x) := ⟨_, ⟨rfl⟩⟩
      rw [hx0.out, hx1.out] at q96 hst
      unfold fracV at q96
      clear hpf hzb hpc hx0 hx1 hm hM hl0 hl1
      go_wp2_with (go_at_call 96; (with_reducible refine (q96 _).mono ?_); rintro e w5 ⟨rfl, hb5⟩
                   have hrow5 := hrow.after hb5
                   have hst5 := hst _ hrow5
                   have hb15 := hbk.trans (hb5.mono hbkz)
                   obtain ⟨⟨u0, hu0⟩, hf0⟩ := hrow5.can (i := k * 2) (by omega)
                   obtain ⟨⟨u1, hu1⟩, hf1⟩ := hrow5.can (i := k * 2 + 1) (by omega)
                   clear hb5)
      exact ⟨⟨k + 1, by omega, by go_num, (hb15.setCell (p := ⟨w1.heap.size, k * 2, none⟩) (Nat.le_refl _) _).setCell (p := ⟨w1.heap.size, k * 2 + 1, none⟩) (Nat.le_refl _) _, hst5⟩, by simp [intOf]; omega⟩
    · obtain rfl : k = n := by omega
      go_wp2
      go_ret
      exact ⟨w1.heap.size, N, L, rfl, hLR.out, hb1.size, hrow, hb1.trans (hbk.mono hb1.size)⟩
end Go.Proofs.Ytbocmbhinjkjlaa
set_option linter.unusedSimpArgs false
set_option linter.unusedVariables false
namespace Go.Proofs.Ytbocmbhinjkjlaa
open Go Go.Proofs Go.RowKit Go.Seq Go.Sort
theorem bnd {a b p q : Int} (h : Bd a b) (k : Bd p q) (hb : b = 1 := by rfl) : SumOk a b (-(redN p q)) (redD p q) := by
  have k := k.red
  have k' : Bd (-(redN p q)) (redD p q) := ⟨by have := k.hi; omega, by have := k.lo; omega, k.q1, k.q2⟩
  exact h.sumOk k'
theorem half_low3 {zs : List Int} {E N L : Int} (h : 2 * E ≤ zs.sum) : awF 3 zs E N L = halfF zs N L := by
  funext i
  have e : awX 3 zs.sum E N L (zs.getD i 0) = partF zs N L i := if_pos h
  show (redN (awX 3 zs.sum E N L (zs.getD i 0)) (2 * N), redD (awX 3 zs.sum E N L (zs.getD i 0)) (2 * N)) = _
  rw [e]; rfl
theorem high3 {zs : List Int} {E N L : Int} (h : ¬ 2 * E ≤ zs.sum) (i : Nat) : awF 3 zs E N L i = (redN (zs.getD i 0 * (2 * N) - partF zs N L i) (2 * N), redD (zs.getD i 0 * (2 * N) - partF zs N L i) (2 * N)) := by
  have e : awX 3 zs.sum E N L (zs.getD i 0) = zs.getD i 0 * (2 * N) - partF zs N L i := if_neg h
  show (redN (awX 3 zs.sum E N L (zs.getD i 0)) (2 * N), redD (awX 3 zs.sum E N L (zs.getD i 0)) (2 * N)) = _
  rw [e]
set_option maxHeartbeats 4000000 in
set_option maxRecDepth 100000 in
theorem talmud_any {H : Nat} {v : Value} {zs : List Int} {E : Int} {w : World} (hg : Own3 w H v (.int .i64 E) (.int .i64 zs.sum)) (hc : IntsO w v zs) (hV : Valid zs) (hE : 0 ≤ E ∧ E ≤ zs.sum) :
    Calls Try.prog 94 #[.pointer (some ⟨H, 0, none⟩)] w (AwR 3 zs E w) := by
  unfold AwR
  have hS := sum_in hV
  have hgK := Keep.mk hg
  have hcI := Keep.mk hc
  have hVK := Keep.mk hV
  have hEK := Keep.mk hE
  obtain ⟨A, cap, rfl, hcell⟩ := hc
  have hcK := Keep.mk hcell
  obtain ⟨n, hn⟩ : ∃ n, Keep (zs.length = n) := ⟨_, ⟨rfl⟩⟩
  have hn10 : n ≤ 10 := by have := hV.2.1; have := hn.out; omega
  have hHl := hg.blk.lt
  have w2E : IntKind.i64.wrap (2 * E) = 2 * E := IntWalk.i64_in _ (by omega)
  have hlow := Keep.mk (fun N L => half_low3 (zs := zs) (E := E) (N := N) (L := L))
  have hhigh := Keep.mk (fun N L => high3 (zs := zs) (E := E) (N := N) (L := L))
  have hae : Keep (awE 3 zs.sum E = if 2 * E ≤ zs.sum then 2 * E else 2 * (zs.sum - E)) := ⟨rfl⟩
  have q112 := fun w T (hT : 0 ≤ T ∧ T ≤ zs.sum) (hb : Own3 w H (.slice A zs.length cap) (.int .i64 E) (.int .i64 zs.sum)) (hc : IntsO w (.slice A zs.length cap) zs) => halves_any (E := T) hb hc hV hT
  rw [hn.out] at q112 hg hgK hcI ⊢
  obtain ⟨S, hSS⟩ : ∃ S, Keep (zs.sum = S) := ⟨_, ⟨rfl⟩⟩
  rw [hSS.out] at q112 hg hgK hlow hhigh hae hE hS
  have h1 := hg.c1
  have h2 := hg.c2
  clear hcell hV
  by_cases hb : 2 * E ≤ S
  · have hlr : Keep (∀ N L, Lev zs (2 * E) N L → LevR 3 zs E N L) := ⟨fun N L h => levR_of (by rw [hSS.out, hae.out, if_pos hb]; exact h) hVK.out (by rw [hSS.out]; exact hE)⟩
    have hlow2 := Keep.mk (fun N L => hlow.out N L hb)
    go_enter Try.func94, Try.ntmps94
    go_wp2
    refine (wpIn_wide (n := 0)).1 ?_
    refine Many.region_many (Cb w) mixed_ok (by kernel_rfl) (fun _ _ _ _ h => h) (fun s _ => Cb.start w s) ?_
    refine Many.lex_want (by rfl) (rdb (fun w hb => by (go_simp; try rfl))) ?_
    simp only [Act.put, List.setIfInBounds_toArray, List.set_cons_succ, List.set_cons_zero, Nat.reduceAdd]
    refine Many.lex_want (by rfl) (rdb (fun w hb => by (go_simp; try rfl))) ?_
    simp only [Act.put, List.setIfInBounds_toArray, List.set_cons_succ, List.set_cons_zero, Nat.reduceAdd]
    refine Many.lex_want (by rfl) (rdb (fun w hb => by (go_simp; try rfl))) ?_
    simp only [Act.put, List.setIfInBounds_toArray, List.set_cons_succ, List.set_cons_zero, Nat.reduceAdd]
    refine Many.lex_want (by rfl) (rdb (v := .int .i64 E) (fun w hb => by (have c1 := (hg.after hb).c1; go_simp; try rfl))) ?_
    simp only [Act.put, List.setIfInBounds_toArray, List.set_cons_succ, List.set_cons_zero, Nat.reduceAdd]
    refine Many.lex_want (by rfl) (rdb (fun w hb => by (go_simp; try rfl))) ?_
    simp only [Act.put, List.setIfInBounds_toArray, List.set_cons_succ, List.set_cons_zero, Nat.reduceAdd]
    refine Many.lex_want (by rfl) (rdb (fun w hb => by (go_simp; try rfl))) ?_
    simp only [Act.put, List.setIfInBounds_toArray, List.set_cons_succ, List.set_cons_zero, Nat.reduceAdd]
    refine Many.lex_want (by rfl) (rdb (fun w hb => by (go_simp; try rfl))) ?_
    simp only [Act.put, List.setIfInBounds_toArray, List.set_cons_succ, List.set_cons_zero, Nat.reduceAdd]
    refine Many.lex_want (by rfl) (rdb (fun w hb => by (go_simp; try rfl))) ?_
    simp only [Act.put, List.setIfInBounds_toArray, List.set_cons_succ, List.set_cons_zero, Nat.reduceAdd]
    refine Many.lex_want (by rfl) (rdb (v := .int .i64 S) (fun w hb => by (have c2 := (hg.after hb).c2; go_simp; try rfl))) ?_
    simp only [Act.put, List.setIfInBounds_toArray, List.set_cons_succ, List.set_cons_zero, Nat.reduceAdd]
    refine Many.lex_want (by rfl) (rdb (fun w hb => by (go_simp; try rfl))) ?_
    simp only [Act.put, List.setIfInBounds_toArray, List.set_cons_succ, List.set_cons_zero, Nat.reduceAdd]
    refine Many.lex_nil fun s wa hs hC => ?_
    have hC : Below w.heap.size w wa := hC
    have hgw := hg.after hC
    have hIw := intsO_below hcI.out hC
    have q112 := q112 wa (2 * E) (by omega) hgw hIw
    have c1 := hgw.c1
    have hbw := hC
    clear hC hs
    go_wp2_with (go_at_call 112; (with_reducible refine q112.mono ?_); rintro e w4 ⟨G, N, L, rfl, hlev, hG, hrow, hb4⟩)
    go_ret
    exact ⟨G, N, L, rfl, hlr.out N L hlev, Nat.le_trans hbw.size hG, by rw [hlow2.out]; exact hrow, hbw.trans (hb4.mono hbw.size)⟩
  · have hnb := Keep.mk hb
    obtain ⟨T, hT0⟩ : ∃ T, Keep (2 * (S - E) = T) := ⟨_, ⟨rfl⟩⟩
    have hTb : 0 ≤ T ∧ T ≤ S := by have := hT0.out; omega
    have w1 : IntKind.i64.wrap (S - E) = S - E := IntWalk.i64_in _ (by omega)
    have w2 : IntKind.i64.wrap (2 * (S - E)) = T := by rw [← hT0.out]; exact IntWalk.i64_in _ (by omega)
    have hlr : Keep (∀ N L, Lev zs T N L → LevR 3 zs E N L) := ⟨fun N L h => levR_of (by rw [hSS.out, hae.out, if_neg hb, hT0.out]; exact h) hVK.out (by rw [hSS.out]; exact hE)⟩
    have hhigh2 := Keep.mk (fun N L => hhigh.out N L hb)
    have q112 := fun w hb hc => q112 w T hTb hb hc
    clear hhigh hlow hae
    go_enter Try.func94, Try.ntmps94
    go_wp2
    refine (wpIn_wide (n := 0)).1 ?_
    refine Many.region_many (Cb w) mixed_ok (by kernel_rfl) (fun _ _ _ _ h => h) (fun s _ => Cb.start w s) ?_
    refine Many.lex_want (by rfl) (rdb (fun w hb => by (go_simp; try rfl))) ?_
    simp only [Act.put, List.setIfInBounds_toArray, List.set_cons_succ, List.set_cons_zero, Nat.reduceAdd]
    refine Many.lex_want (by rfl) (rdb (fun w hb => by (go_simp; try rfl))) ?_
    simp only [Act.put, List.setIfInBounds_toArray, List.set_cons_succ, List.set_cons_zero, Nat.reduceAdd]
    refine Many.lex_want (by rfl) (rdb (fun w hb => by (go_simp; try rfl))) ?_
    simp only [Act.put, List.setIfInBounds_toArray, List.set_cons_succ, List.set_cons_zero, Nat.reduceAdd]
    refine Many.lex_want (by rfl) (rdb (v := .int .i64 E) (fun w hb => by (have c1 := (hg.after hb).c1; go_simp; try rfl))) ?_
    simp only [Act.put, List.setIfInBounds_toArray, List.set_cons_succ, List.set_cons_zero, Nat.reduceAdd]
    refine Many.lex_want (by rfl) (rdb (fun w hb => by (go_simp; try rfl))) ?_
    simp only [Act.put, List.setIfInBounds_toArray, List.set_cons_succ, List.set_cons_zero, Nat.reduceAdd]
    refine Many.lex_want (by rfl) (rdb (fun w hb => by (go_simp; try rfl))) ?_
    simp only [Act.put, List.setIfInBounds_toArray, List.set_cons_succ, List.set_cons_zero, Nat.reduceAdd]
    refine Many.lex_want (by rfl) (rdb (fun w hb => by (go_simp; try rfl))) ?_
    simp only [Act.put, List.setIfInBounds_toArray, List.set_cons_succ, List.set_cons_zero, Nat.reduceAdd]
    refine Many.lex_want (by rfl) (rdb (fun w hb => by (go_simp; try rfl))) ?_
    simp only [Act.put, List.setIfInBounds_toArray, List.set_cons_succ, List.set_cons_zero, Nat.reduceAdd]
    refine Many.lex_want (by rfl) (rdb (v := .int .i64 S) (fun w hb => by (have c2 := (hg.after hb).c2; go_simp; try rfl))) ?_
    simp only [Act.put, List.setIfInBounds_toArray, List.set_cons_succ, List.set_cons_zero, Nat.reduceAdd]
    refine Many.lex_want (by rfl) (rdb (fun w hb => by (go_simp; try rfl))) ?_
    simp only [Act.put, List.setIfInBounds_toArray, List.set_cons_succ, List.set_cons_zero, Nat.reduceAdd]
    refine Many.lex_nil fun s wa hs hC => ?_
    have hC : Below w.heap.size w wa := hC
    have hgw := hg.after hC
    have hIw := intsO_below hcI.out hC
    have hbw := hC
    have hHa := hgw.blk.lt
    clear hC hs
    go_wp2
    refine (wpIn_wide (n := 0)).1 ?_
    refine Inv.region_inv (fun t act W => ∃ G, ∃ N, ∃ L, act = { tmps := #[Value.pointer (some ⟨H, 0, none⟩), undef, Value.slice none 0 0, if t 12 = true then .slice (some ⟨G, 0, none⟩) n n else undef, undef, undef, Value.pointer (some ⟨H, 0, none⟩), Value.pointer (some ⟨H, 0, none⟩), Value.pointer (some ⟨H, 1, none⟩), Value.int IntKind.i64 E, Value.int IntKind.i64 (2 * E), Value.pointer (some ⟨H, 0, none⟩), Value.pointer (some ⟨H, 0, none⟩), Value.pointer (some ⟨H, 2, none⟩), Value.int IntKind.i64 S, Value.bool (decide (2 * E ≤ S)), undef, undef, undef, undef, undef, undef, undef, if t 0 = true then .pointer (some ⟨H, 0, none⟩) else undef, if t 1 = true then .pointer (some ⟨H, 0, none⟩) else undef, if t 2 = true then .pointer (some ⟨H, 0, none⟩) else undef, if t 3 = true then .pointer (some ⟨H, 2, none⟩) else undef, if t 4 = true then .int .i64 S else undef, if t 5 = true then .pointer (some ⟨H, 0, none⟩) else undef, if t 6 = true then .pointer (some ⟨H, 0, none⟩) else undef, if t 7 = true then .pointer (some ⟨H, 1, none⟩) else undef, if t 8 = true then .int .i64 E else undef, if t 9 = true then .int .i64 (S - E) else undef, if t 10 = true then .int .i64 T else undef, if t 11 = true then .slice (some ⟨G, 0, none⟩) n n else undef, undef, undef, undef, undef, undef, undef, undef, undef, undef, undef, undef, undef, undef, undef, undef, undef, undef, undef, undef, undef, undef, undef], defers := [] } ∧ HcI wa 11 13 (fun G N L W => Lev zs T N L ∧ wa.heap.size ≤ G ∧ RowF W G n (halfF zs N L) n) t G N L W) mixed_ok (by kernel_rfl) ?_ ?_ ?_
    · intro t hs
      refine ⟨0, 0, 0, ?_, HcI.start hs (by decide)⟩
      simp only [hs 0 (by decide), hs 1 (by decide), hs 2 (by decide), hs 3 (by decide), hs 4 (by decide), hs 5 (by decide), hs 6 (by decide), hs 7 (by decide), hs 8 (by decide), hs 9 (by decide), hs 10 (by decide), hs 11 (by decide), hs 12 (by decide), Bool.false_eq_true, if_false]
    · refine ⟨?_, ?_, ?_, ?_, ?_, ?_, ?_, ?_, ?_, ?_, ?_, ?_, ?_, trivial⟩
      · rintro t act W hun hdep hbeh ⟨G, N, L, rfl, hT⟩
        (try simp only [Nat.reduceAdd] at hun)
        refine .inl ⟨by rfl, Inv.comesV_val (.pointer (some ⟨H, 0, none⟩)) W (by (go_simp; try rfl)) ⟨G, N, L, by (simp only [Act.put, List.setIfInBounds_toArray, List.set_cons_succ, List.set_cons_zero, Manyd.upd, Nat.reduceAdd, Nat.reduceBEq, Bool.or_false, Bool.or_true, if_true]), HcI.keep (i := 0) (by decide) hT⟩⟩
      · rintro t act W hun hdep hbeh ⟨G, N, L, rfl, hT⟩
        (try simp only [Nat.reduceAdd] at hun)
        refine .inl ⟨by rfl, Inv.comesV_val (.pointer (some ⟨H, 0, none⟩)) W (by (go_simp; try rfl)) ⟨G, N, L, by (simp only [Act.put, List.setIfInBounds_toArray, List.set_cons_succ, List.set_cons_zero, Manyd.upd, Nat.reduceAdd, Nat.reduceBEq, Bool.or_false, Bool.or_true, if_true]), HcI.keep (i := 1) (by decide) hT⟩⟩
      · rintro t act W hun hdep hbeh ⟨G, N, L, rfl, hT⟩
        (try simp only [Nat.reduceAdd] at hun)
        have h1 : t 1 = true := Inv.depB_mem 1 hdep (by rfl)
        refine .inl ⟨by rfl, Inv.comesV_val (.pointer (some ⟨H, 0, none⟩)) W (by (simp only [h1, if_true, Bool.false_eq_true, if_false]; go_simp; try rfl)) ⟨G, N, L, by (simp only [Act.put, List.setIfInBounds_toArray, List.set_cons_succ, List.set_cons_zero, Manyd.upd, Nat.reduceAdd, Nat.reduceBEq, Bool.or_false, Bool.or_true, if_true]), HcI.keep (i := 2) (by decide) hT⟩⟩
      · rintro t act W hun hdep hbeh ⟨G, N, L, rfl, hT⟩
        (try simp only [Nat.reduceAdd] at hun)
        have h2 : t 2 = true := Inv.depB_mem 2 hdep (by rfl)
        refine .inl ⟨by rfl, Inv.comesV_val (.pointer (some ⟨H, 2, none⟩)) W (by (simp only [h2, if_true, Bool.false_eq_true, if_false]; go_simp; try rfl)) ⟨G, N, L, by (simp only [Act.put, List.setIfInBounds_toArray, List.set_cons_succ, List.set_cons_zero, Manyd.upd, Nat.reduceAdd, Nat.reduceBEq, Bool.or_false, Bool.or_true, if_true]), HcI.keep (i := 3) (by decide) hT⟩⟩
      · rintro t act W hun hdep hbeh ⟨G, N, L, rfl, hT⟩
        (try simp only [Nat.reduceAdd] at hun)
        have h3 : t 3 = true := Inv.depB_mem 3 hdep (by rfl)
        have c2 := (hgw.after hT.bw).c2
        refine .inl ⟨by rfl, Inv.comesV_val (.int .i64 S) W (by (simp only [h3, if_true, Bool.false_eq_true, if_false]; go_simp; try rfl)) ⟨G, N, L, by (simp only [Act.put, List.setIfInBounds_toArray, List.set_cons_succ, List.set_cons_zero, Manyd.upd, Nat.reduceAdd, Nat.reduceBEq, Bool.or_false, Bool.or_true, if_true]), HcI.keep (i := 4) (by decide) hT⟩⟩
      · rintro t act W hun hdep hbeh ⟨G, N, L, rfl, hT⟩
        (try simp only [Nat.reduceAdd] at hun)
        refine .inl ⟨by rfl, Inv.comesV_val (.pointer (some ⟨H, 0, none⟩)) W (by (go_simp; try rfl)) ⟨G, N, L, by (simp only [Act.put, List.setIfInBounds_toArray, List.set_cons_succ, List.set_cons_zero, Manyd.upd, Nat.reduceAdd, Nat.reduceBEq, Bool.or_false, Bool.or_true, if_true]), HcI.keep (i := 5) (by decide) hT⟩⟩
      · rintro t act W hun hdep hbeh ⟨G, N, L, rfl, hT⟩
        (try simp only [Nat.reduceAdd] at hun)
        have h5 : t 5 = true := Inv.depB_mem 5 hdep (by rfl)
        refine .inl ⟨by rfl, Inv.comesV_val (.pointer (some ⟨H, 0, none⟩)) W (by (simp only [h5, if_true, Bool.false_eq_true, if_false]; go_simp; try rfl)) ⟨G, N, L, by (simp only [Act.put, List.setIfInBounds_toArray, List.set_cons_succ, List.set_cons_zero, Manyd.upd, Nat.reduceAdd, Nat.reduceBEq, Bool.or_false, Bool.or_true, if_true]), HcI.keep (i := 6) (by decide) hT⟩⟩
      · rintro t act W hun hdep hbeh ⟨G, N, L, rfl, hT⟩
        (try simp only [Nat.reduceAdd] at hun)
        have h6 : t 6 = true := Inv.depB_mem 6 hdep (by rfl)
        refine .inl ⟨by rfl, Inv.comesV_val (.pointer (some ⟨H, 1, none⟩)) W (by (simp only [h6, if_true, Bool.false_eq_true, if_false]; go_simp; try rfl)) ⟨G, N, L, by (simp only [Act.put, List.setIfInBounds_toArray, List.set_cons_succ, List.set_cons_zero, Manyd.upd, Nat.reduceAdd, Nat.reduceBEq, Bool.or_false, Bool.or_true, if_true]), HcI.keep (i := 7) (by decide) hT⟩⟩
      · rintro t act W hun hdep hbeh ⟨G, N, L, rfl, hT⟩
        (try simp only [Nat.reduceAdd] at hun)
        have h7 : t 7 = true := Inv.depB_mem 7 hdep (by rfl)
        have c1 := (hgw.after hT.bw).c1
        refine .inl ⟨by rfl, Inv.comesV_val (.int .i64 E) W (by (simp only [h7, if_true, Bool.false_eq_true, if_false]; go_simp; try rfl)) ⟨G, N, L, by (simp only [Act.put, List.setIfInBounds_toArray, List.set_cons_succ, List.set_cons_zero, Manyd.upd, Nat.reduceAdd, Nat.reduceBEq, Bool.or_false, Bool.or_true, if_true]), HcI.keep (i := 8) (by decide) hT⟩⟩
      · rintro t act W hun hdep hbeh ⟨G, N, L, rfl, hT⟩
        (try simp only [Nat.reduceAdd] at hun)
        have h4 : t 4 = true := Inv.depB_mem 4 hdep (by rfl)
        have h8 : t 8 = true := Inv.depB_mem 8 hdep (by rfl)
        refine .inl ⟨by rfl, Inv.comesV_val (.int .i64 (S - E)) W (by (simp only [h4, h8, if_true, Bool.false_eq_true, if_false]; go_simp; try rfl)) ⟨G, N, L, by (simp only [Act.put, List.setIfInBounds_toArray, List.set_cons_succ, List.set_cons_zero, Manyd.upd, Nat.reduceAdd, Nat.reduceBEq, Bool.or_false, Bool.or_true, if_true]), HcI.keep (i := 9) (by decide) hT⟩⟩
      · rintro t act W hun hdep hbeh ⟨G, N, L, rfl, hT⟩
        (try simp only [Nat.reduceAdd] at hun)
        have h9 : t 9 = true := Inv.depB_mem 9 hdep (by rfl)
        refine .inl ⟨by rfl, Inv.comesV_val (.int .i64 T) W (by (simp only [h9, if_true, Bool.false_eq_true, if_false]; go_simp; try rfl)) ⟨G, N, L, by (simp only [Act.put, List.setIfInBounds_toArray, List.set_cons_succ, List.set_cons_zero, Manyd.upd, Nat.reduceAdd, Nat.reduceBEq, Bool.or_false, Bool.or_true, if_true]), HcI.keep (i := 10) (by decide) hT⟩⟩
      · rintro t act W hun hdep hbeh ⟨G, N, L, rfl, hT⟩
        (try simp only [Nat.reduceAdd] at hun)
        have h0 : t 0 = true := Inv.depB_mem 0 hdep (by rfl)
        have h10 : t 10 = true := Inv.depB_mem 10 hdep (by rfl)
        refine .inl ⟨by rfl, Inv.comesV_call 112 #[.pointer (some ⟨H, 0, none⟩), .int .i64 T] W (by (simp only [h0, h10, if_true, Bool.false_eq_true, if_false]; go_simp; try rfl)) ((q112 W (hgw.after hT.bw) (intsO_below hIw hT.bw)).mono fun e w5 hw5 => ?_)⟩
        obtain ⟨G, N, L, rfl, hlev, hG, hrow, hb⟩ := hw5
        have n12 : t 12 = false := hT.no 12 hun (by decide) (by decide)
        exact ⟨_, rfl, G, N, L, by (simp only [Act.put, List.setIfInBounds_toArray, List.set_cons_succ, List.set_cons_zero, Manyd.upd, Nat.reduceAdd, Nat.reduceBEq, Bool.or_false, Bool.or_true, if_true, n12, Bool.false_eq_true, if_false]), HcI.call hb ⟨hlev, Nat.le_trans hT.bw.size hG, hrow⟩ hT⟩
      · rintro t act W hun hdep hbeh ⟨G, N, L, rfl, hT⟩
        (try simp only [Nat.reduceAdd] at hun)
        have h11 : t 11 = true := Inv.depB_mem 11 hdep (by rfl)
        refine .inl ⟨by rfl, Inv.comesV_val (.slice (some ⟨G, 0, none⟩) n n) W (by (simp only [h11, if_true, Bool.false_eq_true, if_false]; go_simp; try rfl)) ⟨G, N, L, by (simp only [Act.put, List.setIfInBounds_toArray, List.set_cons_succ, List.set_cons_zero, Manyd.upd, Nat.reduceAdd, Nat.reduceBEq, Bool.or_false, Bool.or_true, if_true]), HcI.post (i := 12) h11 hT⟩⟩
    rintro t a' w1 hs ⟨G, N, L, rfl, hT⟩
    simp only [hs 0 (by decide), hs 1 (by decide), hs 2 (by decide), hs 3 (by decide), hs 4 (by decide), hs 5 (by decide), hs 6 (by decide), hs 7 (by decide), hs 8 (by decide), hs 9 (by decide), hs 10 (by decide), hs 11 (by decide), hs 12 (by decide), if_true]
    have hb1 := hbw.trans (hT.bw.mono hbw.size)
    obtain ⟨hlev, hG, hrow⟩ := hT.res (hs 11 (by decide))
    have hG := Nat.le_trans hbw.size hG
    have hc0 := (hgw.after hT.bw).c0
    clear hT hs hgw hIw
    have hLR : Keep (LevR 3 zs E N L) := ⟨hlr.out N L hlev⟩
    have hN1 := hLR.out.n1
    have hN10 := hLR.out.n10
    have hl0 := hLR.out.l0
    have hl1 := hLR.out.l1
    have hrow := hrow.ext (g := mixF (awF 3 zs E N L) (halfF zs N L) 0) (fun i hi => by rw [mixF, if_neg (by omega)])
    clear hlr hlev
    go_wp2
    go_loopw [40] (fun i wq => ∃ k : Nat, k ≤ n ∧ i = .int .i64 k ∧ Below w.heap.size w wq ∧ RowF wq G n (mixF (awF 3 zs E N L) (halfF zs N L) k) n) (fun i _ => n - (intOf i).toNat)
    case atStart => exact ⟨0, by omega, rfl, hb1, hrow⟩
    case round =>
      obtain ⟨k, hk, rfl, hbk, hrow⟩ := hrel
      have hbkz := hbk.size
      by_cases hkn : k < n
      · have hkn' : (k : Int) < (n : Int) := by omega
        obtain ⟨gz, oz, rfl, hzk⟩ := hcK.out k (by have := hn.out; omega)
        have hzk := cell_below hzk hbk
        have hzb := hVK.out.2.2 _ (getz (zs := zs) (k := k) (by have := hn.out; omega))
        have hfk := Keep.mk (hhigh2.out N L k)
        have hst := fun W (h : RowF W G n (mixF (awF 3 zs E N L) (halfF zs N L) k) n) => h.mix hkn
        have hat := fun W (h : RowF W G n (mixF (awF 3 zs E N L) (halfF zs N L) k) n) => h.cell hkn
        rw [show mixF (awF 3 zs E N L) (halfF zs N L) k k = (redN (partF zs N L k) (2 * N), redD (partF zs N L k) (2 * N)) from if_neg (by omega)] at hat
        rw [hfk.out] at hst
        have hpc : (zs.getD k 0 * N < L ∧ partF zs N L k = zs.getD k 0 * N) ∨ (L ≤ zs.getD k 0 * N ∧ partF zs N L k = L) := mnI_cases _ _
        have hm := mul_in (a := zs.getD k 0) (b := N) (A := 1000) (B := 10) hzb.1 hzb.2 (by omega) (by omega)
        generalize partF zs N L k = P at *
        generalize zs.getD k 0 = c at *
        have bP : Bd P (2 * N) := ⟨by omega, by omega, by omega, by omega⟩
        have bc : Bd c 1 := ⟨by omega, by omega, by omega, by omega⟩
        have qD := fun w => diff_any (a := c) (b := 1) (c := redN P (2 * N)) (d := redD P (2 * N)) (bnd bc bP) (by have := bP.red; have := this.lo; have := bP.red.hi; omega) w
        rw [(red_diff (c := c) (p := P) (q := 2 * N) (by omega)).1, (red_diff (c := c) (p := P) (q := 2 * N) (by omega)).2] at qD
        have qW := fun w => whole_any c w
        obtain ⟨y0, hy0⟩ : ∃ x, Keep (redN P (2 * N) = x) := ⟨_, ⟨rfl⟩⟩
        obtain ⟨y1, hy1⟩ : ∃ x, Keep (redD P (2 * N) = x) := ⟨_, ⟨rfl⟩⟩
        obtain ⟨x0, hx0⟩ : ∃ x, Keep (redN (c * (2 * N) - P) (2 * N) = x) := ⟨_, ⟨rfl⟩⟩
        obtain ⟨x1, hx1⟩ : ∃ x, Keep (redD (c * (2 * N) - P) (2 * N) = x) := ⟨_, ⟨rfl⟩⟩
        rw [hy0.out, hy1.out] at hat qD
        rw [hx0.out, hx1.out] at hst qD
        unfold fracV at qD qW
        clear hy0 hy1 hx0 hx1 bc
        clear hfk hzb hpc hm bP
        go_wp2
        refine (wpIn_wide (n := 0)).1 ?_
        refine Inv.region_inv (fun t act W => act = { tmps := #[Value.pointer (some ⟨H, 0, none⟩), undef, Value.slice none 0 0, Value.slice (some ⟨G, 0, none⟩) n n, Value.int IntKind.i64 (k : Nat), Value.int IntKind.i64 c, Value.pointer (some ⟨H, 0, none⟩), Value.pointer (some ⟨H, 0, none⟩), Value.pointer (some ⟨H, 1, none⟩), Value.int IntKind.i64 E, Value.int IntKind.i64 (2 * E), Value.pointer (some ⟨H, 0, none⟩), Value.pointer (some ⟨H, 0, none⟩), Value.pointer (some ⟨H, 2, none⟩), Value.int IntKind.i64 S, Value.bool (decide (2 * E ≤ S)), undef, undef, undef, undef, undef, undef, undef, Value.pointer (some ⟨H, 0, none⟩), Value.pointer (some ⟨H, 0, none⟩), Value.pointer (some ⟨H, 0, none⟩), Value.pointer (some ⟨H, 2, none⟩), Value.int IntKind.i64 S, Value.pointer (some ⟨H, 0, none⟩), Value.pointer (some ⟨H, 0, none⟩), Value.pointer (some ⟨H, 1, none⟩), Value.int IntKind.i64 E, Value.int IntKind.i64 (S - E), Value.int IntKind.i64 T, Value.slice (some ⟨G, 0, none⟩) n n, Value.pointer (some ⟨H, 0, none⟩), Value.pointer (some ⟨H, 0, none⟩), Value.pointer (some ⟨H, 0, none⟩), Value.slice (some ⟨gz, oz, none⟩) n cap, Value.int IntKind.i64 (n : Nat), Value.int IntKind.i64 (k : Nat), Value.bool true, Value.int IntKind.i64 (k : Nat), Value.pointer (some ⟨gz, oz + k, none⟩), Value.int IntKind.i64 c, if t 0 = true then .slice (some ⟨G, 0, none⟩) n n else u45, if t 1 = true then .int .i64 (k : Nat) else u46, if t 2 = true then .int .i64 c else u47, if t 3 = true then .agg #[.int .i64 c, .int .i64 1] else u48, if t 4 = true then .slice (some ⟨G, 0, none⟩) n n else u49, if t 5 = true then .int .i64 (k : Nat) else u50, if t 6 = true then .pointer (some ⟨G, k * 2, none⟩) else u51, if t 7 = true then .agg #[.int .i64 y0, .int .i64 y1] else u52, if t 8 = true then .agg #[.int .i64 x0, .int .i64 x1] else u53, if t 9 = true then .pointer (some ⟨G, k * 2, none⟩) else u54, u55, undef], defers := [] } ∧ StI wr w.heap.size (fun W => RowF W G n (mixF (awF 3 zs E N L) (halfF zs N L) k) n) (fun W => RowF W G n (mixF (awF 3 zs E N L) (halfF zs N L) (k + 1)) n) 10 8 t  W) mixed_ok (by kernel_rfl) ?_ ?_ ?_
        · intro t hs
          refine ⟨?_, StI.start hrow.drew (hs 10 (by decide))⟩
          simp only [hs 0 (by decide), hs 1 (by decide), hs 2 (by decide), hs 3 (by decide), hs 4 (by decide), hs 5 (by decide), hs 6 (by decide), hs 7 (by decide), hs 8 (by decide), hs 9 (by decide), hs 10 (by decide), Bool.false_eq_true, if_false]
        · refine ⟨?_, ?_, ?_, ?_, ?_, ?_, ?_, ?_, ?_, ?_, ?_, trivial⟩
          · rintro t act W hun hdep hbeh ⟨rfl, hT⟩
            (try simp only [Nat.reduceAdd] at hun)
            refine .inl ⟨by rfl, Inv.comesV_val (.slice (some ⟨G, 0, none⟩) n n) W (by (go_simp; try rfl)) ⟨by (simp only [Act.put, List.setIfInBounds_toArray, List.set_cons_succ, List.set_cons_zero, Manyd.upd, Nat.reduceAdd, Nat.reduceBEq, Bool.or_false, Bool.or_true, if_true]), StI.keep (i := 0) (by decide) hT⟩⟩
          · rintro t act W hun hdep hbeh ⟨rfl, hT⟩
            (try simp only [Nat.reduceAdd] at hun)
            refine .inl ⟨by rfl, Inv.comesV_val (.int .i64 (k : Nat)) W (by (go_simp; try rfl)) ⟨by (simp only [Act.put, List.setIfInBounds_toArray, List.set_cons_succ, List.set_cons_zero, Manyd.upd, Nat.reduceAdd, Nat.reduceBEq, Bool.or_false, Bool.or_true, if_true]), StI.keep (i := 1) (by decide) hT⟩⟩
          · rintro t act W hun hdep hbeh ⟨rfl, hT⟩
            (try simp only [Nat.reduceAdd] at hun)
            refine .inl ⟨by rfl, Inv.comesV_val (.int .i64 c) W (by (go_simp; try rfl)) ⟨by (simp only [Act.put, List.setIfInBounds_toArray, List.set_cons_succ, List.set_cons_zero, Manyd.upd, Nat.reduceAdd, Nat.reduceBEq, Bool.or_false, Bool.or_true, if_true]), StI.keep (i := 2) (by decide) hT⟩⟩
          · rintro t act W hun hdep hbeh ⟨rfl, hT⟩
            (try simp only [Nat.reduceAdd] at hun)
            have h2 : t 2 = true := Inv.depB_mem 2 hdep (by rfl)
            refine .inl ⟨by rfl, Inv.comesV_call 84 #[.int .i64 c] W (by (simp only [h2, if_true, Bool.false_eq_true, if_false]; go_simp; try rfl)) ((qW W).mono fun e w5 hw5 => ⟨_, hw5.1, by (simp only [Act.put, List.setIfInBounds_toArray, List.set_cons_succ, List.set_cons_zero, Manyd.upd, Nat.reduceAdd, Nat.reduceBEq, Bool.or_false, Bool.or_true, if_true]), StI.call (i := 3) (by decide) (fun h => h.after hw5.2) (fun h => h.after hw5.2) hw5.2 (Nat.le_trans hbkz (hT.bw.size)) hT⟩)⟩
          · rintro t act W hun hdep hbeh ⟨rfl, hT⟩
            (try simp only [Nat.reduceAdd] at hun)
            refine .inl ⟨by rfl, Inv.comesV_val (.slice (some ⟨G, 0, none⟩) n n) W (by (go_simp; try rfl)) ⟨by (simp only [Act.put, List.setIfInBounds_toArray, List.set_cons_succ, List.set_cons_zero, Manyd.upd, Nat.reduceAdd, Nat.reduceBEq, Bool.or_false, Bool.or_true, if_true]), StI.keep (i := 4) (by decide) hT⟩⟩
          · rintro t act W hun hdep hbeh ⟨rfl, hT⟩
            (try simp only [Nat.reduceAdd] at hun)
            refine .inl ⟨by rfl, Inv.comesV_val (.int .i64 (k : Nat)) W (by (go_simp; try rfl)) ⟨by (simp only [Act.put, List.setIfInBounds_toArray, List.set_cons_succ, List.set_cons_zero, Manyd.upd, Nat.reduceAdd, Nat.reduceBEq, Bool.or_false, Bool.or_true, if_true]), StI.keep (i := 5) (by decide) hT⟩⟩
          · rintro t act W hun hdep hbeh ⟨rfl, hT⟩
            (try simp only [Nat.reduceAdd] at hun)
            have h4 : t 4 = true := Inv.depB_mem 4 hdep (by rfl)
            have h5 : t 5 = true := Inv.depB_mem 5 hdep (by rfl)
            refine .inl ⟨by rfl, Inv.comesV_val (.pointer (some ⟨G, k * 2, none⟩)) W (by (simp only [h4, h5, if_true, Bool.false_eq_true, if_false]; go_simp; try rfl)) ⟨by (simp only [Act.put, List.setIfInBounds_toArray, List.set_cons_succ, List.set_cons_zero, Manyd.upd, Nat.reduceAdd, Nat.reduceBEq, Bool.or_false, Bool.or_true, if_true]), StI.keep (i := 6) (by decide) hT⟩⟩
          · rintro t act W hun hdep hbeh ⟨rfl, hT⟩
            (try simp only [Nat.reduceAdd] at hun)
            have h6 : t 6 = true := Inv.depB_mem 6 hdep (by rfl)
            have n8 : t 8 = false := hbeh 8 (by kernel_rfl)
            obtain ⟨c0, c1⟩ := hat _ (hT.r0 (hT.no n8))
            refine .inl ⟨by rfl, Inv.comesV_val (.agg #[.int .i64 y0, .int .i64 y1]) W (by (simp only [h6, if_true, Bool.false_eq_true, if_false]; go_simp; try rfl)) ⟨by (simp only [Act.put, List.setIfInBounds_toArray, List.set_cons_succ, List.set_cons_zero, Manyd.upd, Nat.reduceAdd, Nat.reduceBEq, Bool.or_false, Bool.or_true, if_true]), StI.keep (i := 7) (by decide) hT⟩⟩
          · rintro t act W hun hdep hbeh ⟨rfl, hT⟩
            (try simp only [Nat.reduceAdd] at hun)
            have h3 : t 3 = true := Inv.depB_mem 3 hdep (by rfl)
            have h7 : t 7 = true := Inv.depB_mem 7 hdep (by rfl)
            refine .inl ⟨by rfl, Inv.comesV_call 113 #[.agg #[.int .i64 c, .int .i64 1], .agg #[.int .i64 y0, .int .i64 y1]] W (by (simp only [h3, h7, if_true, Bool.false_eq_true, if_false]; go_simp; try rfl)) ((qD W).mono fun e w5 hw5 => ⟨_, hw5.1, by (simp only [Act.put, List.setIfInBounds_toArray, List.set_cons_succ, List.set_cons_zero, Manyd.upd, Nat.reduceAdd, Nat.reduceBEq, Bool.or_false, Bool.or_true, if_true]), StI.call (i := 8) (by decide) (fun h => h.after hw5.2) (fun h => h.after hw5.2) hw5.2 (Nat.le_trans hbkz (hT.bw.size)) hT⟩)⟩
          · rintro t act W hun hdep hbeh ⟨rfl, hT⟩
            (try simp only [Nat.reduceAdd] at hun)
            have h0 : t 0 = true := Inv.depB_mem 0 hdep (by rfl)
            have h1 : t 1 = true := Inv.depB_mem 1 hdep (by rfl)
            refine .inl ⟨by rfl, Inv.comesV_val (.pointer (some ⟨G, k * 2, none⟩)) W (by (simp only [h0, h1, if_true, Bool.false_eq_true, if_false]; go_simp; try rfl)) ⟨by (simp only [Act.put, List.setIfInBounds_toArray, List.set_cons_succ, List.set_cons_zero, Manyd.upd, Nat.reduceAdd, Nat.reduceBEq, Bool.or_false, Bool.or_true, if_true]), StI.keep (i := 9) (by decide) hT⟩⟩
          · rintro t act W hun hdep hbeh ⟨rfl, hT⟩
            (try simp only [Nat.reduceAdd] at hun)
            have h8 : t 8 = true := Inv.depB_mem 8 hdep (by rfl)
            have h9 : t 9 = true := Inv.depB_mem 9 hdep (by rfl)
            obtain ⟨⟨u0, hu0⟩, hf0⟩ := (hT.r0 hun).can (i := k * 2) (by omega)
            obtain ⟨⟨u1, hu1⟩, hf1⟩ := (hT.r0 hun).can (i := k * 2 + 1) (by omega)
            refine .inl ⟨by rfl, Inv.comesV_skip ((W.setCell ⟨G, k * 2, none⟩ (.int .i64 x0)).setCell ⟨G, k * 2 + 1, none⟩ (.int .i64 x1)) (by (simp only [h8, h9, if_true, Bool.false_eq_true, if_false]; go_simp; try rfl)) ⟨by (simp only [Act.put, List.setIfInBounds_toArray, List.set_cons_succ, List.set_cons_zero, Manyd.upd, Nat.reduceAdd, Nat.reduceBEq, Bool.or_false, Bool.or_true, if_true]), StI.set h8 ((hT.bw.setCell (p := ⟨G, k * 2, none⟩) hG _).setCell (p := ⟨G, k * 2 + 1, none⟩) hG _) (hst _ (hT.r0 hun))⟩⟩
        rintro t a' W1 hs ⟨rfl, hT⟩
        simp only [hs 0 (by decide), hs 1 (by decide), hs 2 (by decide), hs 3 (by decide), hs 4 (by decide), hs 5 (by decide), hs 6 (by decide), hs 7 (by decide), hs 8 (by decide), hs 9 (by decide), hs 10 (by decide), if_true]
        have hb2 := hbk.trans hT.bw
        have hrow2 := hT.r1 (hs 10 (by decide))
        clear hT hs
        go_wp2
        exact ⟨⟨k + 1, by omega, by go_num, hb2, hrow2⟩, by simp [intOf]; omega⟩
      · obtain rfl : k = n := by omega
        go_wp2
        go_ret
        exact ⟨G, N, L, rfl, hLR.out, hG, hrow.ext (fun i hi => by rw [mixF, if_pos hi]), hbk⟩
end Go.Proofs.Ytbocmbhinjkjlaa
set_option linter.unusedSimpArgs false
set_option linter.unusedVariables false
namespace Go.Proofs.Ytbocmbhinjkjlaa
open Go Go.Proofs Go.RowKit Go.Seq Go.Sort
theorem plus_eq (c P N : Int) : (c * (2 * N) + P * 2) * (2 * N) = (c * N + P) * (2 * (2 * N)) := by
  rw [Int.add_mul, Int.add_mul]
  have e1 : c * (2 * N) * (2 * N) = c * N * (2 * (2 * N)) := by ac_rfl
  have e2 : P * 2 * (2 * N) = P * (2 * (2 * N)) := by ac_rfl
  omega
theorem half_low4 {zs : List Int} {E N L : Int} (h : 2 * E ≤ zs.sum) : awF 4 zs E N L = halfF zs N L := by
  funext i
  have e : awX 4 zs.sum E N L (zs.getD i 0) = partF zs N L i := if_pos h
  show (redN (awX 4 zs.sum E N L (zs.getD i 0)) (2 * N), redD (awX 4 zs.sum E N L (zs.getD i 0)) (2 * N)) = _
  rw [e]; rfl
theorem high4 {zs : List Int} {E N L : Int} (h : ¬ 2 * E ≤ zs.sum) (i : Nat) : awF 4 zs E N L i = (redN (zs.getD i 0 * N + partF zs N L i) (2 * N), redD (zs.getD i 0 * N + partF zs N L i) (2 * N)) := by
  have e : awX 4 zs.sum E N L (zs.getD i 0) = zs.getD i 0 * N + partF zs N L i := if_neg h
  show (redN (awX 4 zs.sum E N L (zs.getD i 0)) (2 * N), redD (awX 4 zs.sum E N L (zs.getD i 0)) (2 * N)) = _
  rw [e]
set_option maxHeartbeats 4000000 in
set_option maxRecDepth 100000 in
theorem piniles_any {H : Nat} {v : Value} {zs : List Int} {E : Int} {w : World} (hg : Own3 w H v (.int .i64 E) (.int .i64 zs.sum)) (hc : IntsO w v zs) (hV : Valid zs) (hE : 0 ≤ E ∧ E ≤ zs.sum) :
    Calls Try.prog 95 #[.pointer (some ⟨H, 0, none⟩)] w (AwR 4 zs E w) := by
  unfold AwR
  have hS := sum_in hV
  have hgK := Keep.mk hg
  have hcI := Keep.mk hc
  have hVK := Keep.mk hV
  have hEK := Keep.mk hE
  obtain ⟨A, cap, rfl, hcell⟩ := hc
  have hcK := Keep.mk hcell
  obtain ⟨n, hn⟩ : ∃ n, Keep (zs.length = n) := ⟨_, ⟨rfl⟩⟩
  have hn10 : n ≤ 10 := by have := hV.2.1; have := hn.out; omega
  have hHl := hg.blk.lt
  have w2E : IntKind.i64.wrap (2 * E) = 2 * E := IntWalk.i64_in _ (by omega)
  have hlow := Keep.mk (fun N L => half_low4 (zs := zs) (E := E) (N := N) (L := L))
  have hhigh := Keep.mk (fun N L => high4 (zs := zs) (E := E) (N := N) (L := L))
  have hae : Keep (awE 4 zs.sum E = if 2 * E ≤ zs.sum then 2 * E else 2 * E - zs.sum) := ⟨rfl⟩
  have q112 := fun w T (hT : 0 ≤ T ∧ T ≤ zs.sum) (hb : Own3 w H (.slice A zs.length cap) (.int .i64 E) (.int .i64 zs.sum)) (hc : IntsO w (.slice A zs.length cap) zs) => halves_any (E := T) hb hc hV hT
  rw [hn.out] at q112 hg hgK hcI ⊢
  obtain ⟨S, hSS⟩ : ∃ S, Keep (zs.sum = S) := ⟨_, ⟨rfl⟩⟩
  rw [hSS.out] at q112 hg hgK hlow hhigh hae hE hS
  have h1 := hg.c1
  have h2 := hg.c2
  clear hcell hV
  by_cases hb : 2 * E ≤ S
  · have hlr : Keep (∀ N L, Lev zs (2 * E) N L → LevR 4 zs E N L) := ⟨fun N L h => levR_of (by rw [hSS.out, hae.out, if_pos hb]; exact h) hVK.out (by rw [hSS.out]; exact hE)⟩
    have hlow2 := Keep.mk (fun N L => hlow.out N L hb)
    go_enter Try.func95, Try.ntmps95
    go_wp2
    refine (wpIn_wide (n := 0)).1 ?_
    refine Many.region_many (Cb w) mixed_ok (by kernel_rfl) (fun _ _ _ _ h => h) (fun s _ => Cb.start w s) ?_
    refine Many.lex_want (by rfl) (rdb (fun w hb => by (go_simp; try rfl))) ?_
    simp only [Act.put, List.setIfInBounds_toArray, List.set_cons_succ, List.set_cons_zero, Nat.reduceAdd]
    refine Many.lex_want (by rfl) (rdb (fun w hb => by (go_simp; try rfl))) ?_
    simp only [Act.put, List.setIfInBounds_toArray, List.set_cons_succ, List.set_cons_zero, Nat.reduceAdd]
    refine Many.lex_want (by rfl) (rdb (fun w hb => by (go_simp; try rfl))) ?_
    simp only [Act.put, List.setIfInBounds_toArray, List.set_cons_succ, List.set_cons_zero, Nat.reduceAdd]
    refine Many.lex_want (by rfl) (rdb (v := .int .i64 E) (fun w hb => by (have c1 := (hg.after hb).c1; go_simp; try rfl))) ?_
    simp only [Act.put, List.setIfInBounds_toArray, List.set_cons_succ, List.set_cons_zero, Nat.reduceAdd]
    refine Many.lex_want (by rfl) (rdb (fun w hb => by (go_simp; try rfl))) ?_
    simp only [Act.put, List.setIfInBounds_toArray, List.set_cons_succ, List.set_cons_zero, Nat.reduceAdd]
    refine Many.lex_want (by rfl) (rdb (fun w hb => by (go_simp; try rfl))) ?_
    simp only [Act.put, List.setIfInBounds_toArray, List.set_cons_succ, List.set_cons_zero, Nat.reduceAdd]
    refine Many.lex_want (by rfl) (rdb (fun w hb => by (go_simp; try rfl))) ?_
    simp only [Act.put, List.setIfInBounds_toArray, List.set_cons_succ, List.set_cons_zero, Nat.reduceAdd]
    refine Many.lex_want (by rfl) (rdb (fun w hb => by (go_simp; try rfl))) ?_
    simp only [Act.put, List.setIfInBounds_toArray, List.set_cons_succ, List.set_cons_zero, Nat.reduceAdd]
    refine Many.lex_want (by rfl) (rdb (v := .int .i64 S) (fun w hb => by (have c2 := (hg.after hb).c2; go_simp; try rfl))) ?_
    simp only [Act.put, List.setIfInBounds_toArray, List.set_cons_succ, List.set_cons_zero, Nat.reduceAdd]
    refine Many.lex_want (by rfl) (rdb (fun w hb => by (go_simp; try rfl))) ?_
    simp only [Act.put, List.setIfInBounds_toArray, List.set_cons_succ, List.set_cons_zero, Nat.reduceAdd]
    refine Many.lex_nil fun s wa hs hC => ?_
    have hC : Below w.heap.size w wa := hC
    have hgw := hg.after hC
    have hIw := intsO_below hcI.out hC
    have q112 := q112 wa (2 * E) (by omega) hgw hIw
    have c1 := hgw.c1
    have hbw := hC
    clear hC hs
    go_wp2_with (go_at_call 112; (with_reducible refine q112.mono ?_); rintro e w4 ⟨G, N, L, rfl, hlev, hG, hrow, hb4⟩)
    go_ret
    exact ⟨G, N, L, rfl, hlr.out N L hlev, Nat.le_trans hbw.size hG, by rw [hlow2.out]; exact hrow, hbw.trans (hb4.mono hbw.size)⟩
  · have hnb := Keep.mk hb
    obtain ⟨T, hT0⟩ : ∃ T, Keep (2 * E - S = T) := ⟨_, ⟨rfl⟩⟩
    have hTb : 0 ≤ T ∧ T ≤ S := by have := hT0.out; omega
    have w1 : IntKind.i64.wrap (2 * E - S) = T := by rw [← hT0.out]; exact IntWalk.i64_in _ (by omega)
    have hlr : Keep (∀ N L, Lev zs T N L → LevR 4 zs E N L) := ⟨fun N L h => levR_of (by rw [hSS.out, hae.out, if_neg hb, hT0.out]; exact h) hVK.out (by rw [hSS.out]; exact hE)⟩
    have hhigh2 := Keep.mk (fun N L => hhigh.out N L hb)
    have q112 := fun w hb hc => q112 w T hTb hb hc
    clear hhigh hlow hae
    go_enter Try.func95, Try.ntmps95
    go_wp2
    refine (wpIn_wide (n := 0)).1 ?_
    refine Many.region_many (Cb w) mixed_ok (by kernel_rfl) (fun _ _ _ _ h => h) (fun s _ => Cb.start w s) ?_
    refine Many.lex_want (by rfl) (rdb (fun w hb => by (go_simp; try rfl))) ?_
    simp only [Act.put, List.setIfInBounds_toArray, List.set_cons_succ, List.set_cons_zero, Nat.reduceAdd]
    refine Many.lex_want (by rfl) (rdb (fun w hb => by (go_simp; try rfl))) ?_
    simp only [Act.put, List.setIfInBounds_toArray, List.set_cons_succ, List.set_cons_zero, Nat.reduceAdd]
    refine Many.lex_want (by rfl) (rdb (fun w hb => by (go_simp; try rfl))) ?_
    simp only [Act.put, List.setIfInBounds_toArray, List.set_cons_succ, List.set_cons_zero, Nat.reduceAdd]
    refine Many.lex_want (by rfl) (rdb (v := .int .i64 E) (fun w hb => by (have c1 := (hg.after hb).c1; go_simp; try rfl))) ?_
    simp only [Act.put, List.setIfInBounds_toArray, List.set_cons_succ, List.set_cons_zero, Nat.reduceAdd]
    refine Many.lex_want (by rfl) (rdb (fun w hb => by (go_simp; try rfl))) ?_
    simp only [Act.put, List.setIfInBounds_toArray, List.set_cons_succ, List.set_cons_zero, Nat.reduceAdd]
    refine Many.lex_want (by rfl) (rdb (fun w hb => by (go_simp; try rfl))) ?_
    simp only [Act.put, List.setIfInBounds_toArray, List.set_cons_succ, List.set_cons_zero, Nat.reduceAdd]
    refine Many.lex_want (by rfl) (rdb (fun w hb => by (go_simp; try rfl))) ?_
    simp only [Act.put, List.setIfInBounds_toArray, List.set_cons_succ, List.set_cons_zero, Nat.reduceAdd]
    refine Many.lex_want (by rfl) (rdb (fun w hb => by (go_simp; try rfl))) ?_
    simp only [Act.put, List.setIfInBounds_toArray, List.set_cons_succ, List.set_cons_zero, Nat.reduceAdd]
    refine Many.lex_want (by rfl) (rdb (v := .int .i64 S) (fun w hb => by (have c2 := (hg.after hb).c2; go_simp; try rfl))) ?_
    simp only [Act.put, List.setIfInBounds_toArray, List.set_cons_succ, List.set_cons_zero, Nat.reduceAdd]
    refine Many.lex_want (by rfl) (rdb (fun w hb => by (go_simp; try rfl))) ?_
    simp only [Act.put, List.setIfInBounds_toArray, List.set_cons_succ, List.set_cons_zero, Nat.reduceAdd]
    refine Many.lex_nil fun s wa hs hC => ?_
    have hC : Below w.heap.size w wa := hC
    have hgw := hg.after hC
    have hIw := intsO_below hcI.out hC
    have hbw := hC
    have hHa := hgw.blk.lt
    clear hC hs
    go_wp2
    refine (wpIn_wide (n := 0)).1 ?_
    refine Inv.region_inv (fun t act W => ∃ G, ∃ N, ∃ L, act = { tmps := #[Value.pointer (some ⟨H, 0, none⟩), undef, Value.slice none 0 0, if t 12 = true then .slice (some ⟨G, 0, none⟩) n n else undef, undef, undef, Value.pointer (some ⟨H, 0, none⟩), Value.pointer (some ⟨H, 0, none⟩), Value.pointer (some ⟨H, 1, none⟩), Value.int IntKind.i64 E, Value.int IntKind.i64 (2 * E), Value.pointer (some ⟨H, 0, none⟩), Value.pointer (some ⟨H, 0, none⟩), Value.pointer (some ⟨H, 2, none⟩), Value.int IntKind.i64 S, Value.bool (decide (2 * E ≤ S)), undef, undef, undef, undef, undef, undef, undef, if t 0 = true then .pointer (some ⟨H, 0, none⟩) else undef, if t 1 = true then .pointer (some ⟨H, 0, none⟩) else undef, if t 2 = true then .pointer (some ⟨H, 0, none⟩) else undef, if t 3 = true then .pointer (some ⟨H, 1, none⟩) else undef, if t 4 = true then .int .i64 E else undef, if t 5 = true then .int .i64 (2 * E) else undef, if t 6 = true then .pointer (some ⟨H, 0, none⟩) else undef, if t 7 = true then .pointer (some ⟨H, 0, none⟩) else undef, if t 8 = true then .pointer (some ⟨H, 2, none⟩) else undef, if t 9 = true then .int .i64 S else undef, if t 10 = true then .int .i64 T else undef, if t 11 = true then .slice (some ⟨G, 0, none⟩) n n else undef, undef, undef, undef, undef, undef, undef, undef, undef, undef, undef, undef, undef, undef, undef, undef, undef, undef, undef, undef, undef, undef, undef], defers := [] } ∧ HcI wa 11 13 (fun G N L W => Lev zs T N L ∧ wa.heap.size ≤ G ∧ RowF W G n (halfF zs N L) n) t G N L W) mixed_ok (by kernel_rfl) ?_ ?_ ?_
    · intro t hs
      refine ⟨0, 0, 0, ?_, HcI.start hs (by decide)⟩
      simp only [hs 0 (by decide), hs 1 (by decide), hs 2 (by decide), hs 3 (by decide), hs 4 (by decide), hs 5 (by decide), hs 6 (by decide), hs 7 (by decide), hs 8 (by decide), hs 9 (by decide), hs 10 (by decide), hs 11 (by decide), hs 12 (by decide), Bool.false_eq_true, if_false]
    · refine ⟨?_, ?_, ?_, ?_, ?_, ?_, ?_, ?_, ?_, ?_, ?_, ?_, ?_, trivial⟩
      · rintro t act W hun hdep hbeh ⟨G, N, L, rfl, hT⟩
        (try simp only [Nat.reduceAdd] at hun)
        refine .inl ⟨by rfl, Inv.comesV_val (.pointer (some ⟨H, 0, none⟩)) W (by (go_simp; try rfl)) ⟨G, N, L, by (simp only [Act.put, List.setIfInBounds_toArray, List.set_cons_succ, List.set_cons_zero, Manyd.upd, Nat.reduceAdd, Nat.reduceBEq, Bool.or_false, Bool.or_true, if_true]), HcI.keep (i := 0) (by decide) hT⟩⟩
      · rintro t act W hun hdep hbeh ⟨G, N, L, rfl, hT⟩
        (try simp only [Nat.reduceAdd] at hun)
        refine .inl ⟨by rfl, Inv.comesV_val (.pointer (some ⟨H, 0, none⟩)) W (by (go_simp; try rfl)) ⟨G, N, L, by (simp only [Act.put, List.setIfInBounds_toArray, List.set_cons_succ, List.set_cons_zero, Manyd.upd, Nat.reduceAdd, Nat.reduceBEq, Bool.or_false, Bool.or_true, if_true]), HcI.keep (i := 1) (by decide) hT⟩⟩
      · rintro t act W hun hdep hbeh ⟨G, N, L, rfl, hT⟩
        (try simp only [Nat.reduceAdd] at hun)
        have h1 : t 1 = true := Inv.depB_mem 1 hdep (by rfl)
        refine .inl ⟨by rfl, Inv.comesV_val (.pointer (some ⟨H, 0, none⟩)) W (by (simp only [h1, if_true, Bool.false_eq_true, if_false]; go_simp; try rfl)) ⟨G, N, L, by (simp only [Act.put, List.setIfInBounds_toArray, List.set_cons_succ, List.set_cons_zero, Manyd.upd, Nat.reduceAdd, Nat.reduceBEq, Bool.or_false, Bool.or_true, if_true]), HcI.keep (i := 2) (by decide) hT⟩⟩
      · rintro t act W hun hdep hbeh ⟨G, N, L, rfl, hT⟩
        (try simp only [Nat.reduceAdd] at hun)
        have h2 : t 2 = true := Inv.depB_mem 2 hdep (by rfl)
        refine .inl ⟨by rfl, Inv.comesV_val (.pointer (some ⟨H, 1, none⟩)) W (by (simp only [h2, if_true, Bool.false_eq_true, if_false]; go_simp; try rfl)) ⟨G, N, L, by (simp only [Act.put, List.setIfInBounds_toArray, List.set_cons_succ, List.set_cons_zero, Manyd.upd, Nat.reduceAdd, Nat.reduceBEq, Bool.or_false, Bool.or_true, if_true]), HcI.keep (i := 3) (by decide) hT⟩⟩
      · rintro t act W hun hdep hbeh ⟨G, N, L, rfl, hT⟩
        (try simp only [Nat.reduceAdd] at hun)
        have h3 : t 3 = true := Inv.depB_mem 3 hdep (by rfl)
        have c1 := (hgw.after hT.bw).c1
        refine .inl ⟨by rfl, Inv.comesV_val (.int .i64 E) W (by (simp only [h3, if_true, Bool.false_eq_true, if_false]; go_simp; try rfl)) ⟨G, N, L, by (simp only [Act.put, List.setIfInBounds_toArray, List.set_cons_succ, List.set_cons_zero, Manyd.upd, Nat.reduceAdd, Nat.reduceBEq, Bool.or_false, Bool.or_true, if_true]), HcI.keep (i := 4) (by decide) hT⟩⟩
      · rintro t act W hun hdep hbeh ⟨G, N, L, rfl, hT⟩
        (try simp only [Nat.reduceAdd] at hun)
        have h4 : t 4 = true := Inv.depB_mem 4 hdep (by rfl)
        refine .inl ⟨by rfl, Inv.comesV_val (.int .i64 (2 * E)) W (by (simp only [h4, if_true, Bool.false_eq_true, if_false]; go_simp; try rfl)) ⟨G, N, L, by (simp only [Act.put, List.setIfInBounds_toArray, List.set_cons_succ, List.set_cons_zero, Manyd.upd, Nat.reduceAdd, Nat.reduceBEq, Bool.or_false, Bool.or_true, if_true]), HcI.keep (i := 5) (by decide) hT⟩⟩
      · rintro t act W hun hdep hbeh ⟨G, N, L, rfl, hT⟩
        (try simp only [Nat.reduceAdd] at hun)
        refine .inl ⟨by rfl, Inv.comesV_val (.pointer (some ⟨H, 0, none⟩)) W (by (go_simp; try rfl)) ⟨G, N, L, by (simp only [Act.put, List.setIfInBounds_toArray, List.set_cons_succ, List.set_cons_zero, Manyd.upd, Nat.reduceAdd, Nat.reduceBEq, Bool.or_false, Bool.or_true, if_true]), HcI.keep (i := 6) (by decide) hT⟩⟩
      · rintro t act W hun hdep hbeh ⟨G, N, L, rfl, hT⟩
        (try simp only [Nat.reduceAdd] at hun)
        have h6 : t 6 = true := Inv.depB_mem 6 hdep (by rfl)
        refine .inl ⟨by rfl, Inv.comesV_val (.pointer (some ⟨H, 0, none⟩)) W (by (simp only [h6, if_true, Bool.false_eq_true, if_false]; go_simp; try rfl)) ⟨G, N, L, by (simp only [Act.put, List.setIfInBounds_toArray, List.set_cons_succ, List.set_cons_zero, Manyd.upd, Nat.reduceAdd, Nat.reduceBEq, Bool.or_false, Bool.or_true, if_true]), HcI.keep (i := 7) (by decide) hT⟩⟩
      · rintro t act W hun hdep hbeh ⟨G, N, L, rfl, hT⟩
        (try simp only [Nat.reduceAdd] at hun)
        have h7 : t 7 = true := Inv.depB_mem 7 hdep (by rfl)
        refine .inl ⟨by rfl, Inv.comesV_val (.pointer (some ⟨H, 2, none⟩)) W (by (simp only [h7, if_true, Bool.false_eq_true, if_false]; go_simp; try rfl)) ⟨G, N, L, by (simp only [Act.put, List.setIfInBounds_toArray, List.set_cons_succ, List.set_cons_zero, Manyd.upd, Nat.reduceAdd, Nat.reduceBEq, Bool.or_false, Bool.or_true, if_true]), HcI.keep (i := 8) (by decide) hT⟩⟩
      · rintro t act W hun hdep hbeh ⟨G, N, L, rfl, hT⟩
        (try simp only [Nat.reduceAdd] at hun)
        have h8 : t 8 = true := Inv.depB_mem 8 hdep (by rfl)
        have c2 := (hgw.after hT.bw).c2
        refine .inl ⟨by rfl, Inv.comesV_val (.int .i64 S) W (by (simp only [h8, if_true, Bool.false_eq_true, if_false]; go_simp; try rfl)) ⟨G, N, L, by (simp only [Act.put, List.setIfInBounds_toArray, List.set_cons_succ, List.set_cons_zero, Manyd.upd, Nat.reduceAdd, Nat.reduceBEq, Bool.or_false, Bool.or_true, if_true]), HcI.keep (i := 9) (by decide) hT⟩⟩
      · rintro t act W hun hdep hbeh ⟨G, N, L, rfl, hT⟩
        (try simp only [Nat.reduceAdd] at hun)
        have h5 : t 5 = true := Inv.depB_mem 5 hdep (by rfl)
        have h9 : t 9 = true := Inv.depB_mem 9 hdep (by rfl)
        refine .inl ⟨by rfl, Inv.comesV_val (.int .i64 T) W (by (simp only [h5, h9, if_true, Bool.false_eq_true, if_false]; go_simp; try rfl)) ⟨G, N, L, by (simp only [Act.put, List.setIfInBounds_toArray, List.set_cons_succ, List.set_cons_zero, Manyd.upd, Nat.reduceAdd, Nat.reduceBEq, Bool.or_false, Bool.or_true, if_true]), HcI.keep (i := 10) (by decide) hT⟩⟩
      · rintro t act W hun hdep hbeh ⟨G, N, L, rfl, hT⟩
        (try simp only [Nat.reduceAdd] at hun)
        have h0 : t 0 = true := Inv.depB_mem 0 hdep (by rfl)
        have h10 : t 10 = true := Inv.depB_mem 10 hdep (by rfl)
        refine .inl ⟨by rfl, Inv.comesV_call 112 #[.pointer (some ⟨H, 0, none⟩), .int .i64 T] W (by (simp only [h0, h10, if_true, Bool.false_eq_true, if_false]; go_simp; try rfl)) ((q112 W (hgw.after hT.bw) (intsO_below hIw hT.bw)).mono fun e w5 hw5 => ?_)⟩
        obtain ⟨G, N, L, rfl, hlev, hG, hrow, hb⟩ := hw5
        have n12 : t 12 = false := hT.no 12 hun (by decide) (by decide)
        exact ⟨_, rfl, G, N, L, by (simp only [Act.put, List.setIfInBounds_toArray, List.set_cons_succ, List.set_cons_zero, Manyd.upd, Nat.reduceAdd, Nat.reduceBEq, Bool.or_false, Bool.or_true, if_true, n12, Bool.false_eq_true, if_false]), HcI.call hb ⟨hlev, Nat.le_trans hT.bw.size hG, hrow⟩ hT⟩
      · rintro t act W hun hdep hbeh ⟨G, N, L, rfl, hT⟩
        (try simp only [Nat.reduceAdd] at hun)
        have h11 : t 11 = true := Inv.depB_mem 11 hdep (by rfl)
        refine .inl ⟨by rfl, Inv.comesV_val (.slice (some ⟨G, 0, none⟩) n n) W (by (simp only [h11, if_true, Bool.false_eq_true, if_false]; go_simp; try rfl)) ⟨G, N, L, by (simp only [Act.put, List.setIfInBounds_toArray, List.set_cons_succ, List.set_cons_zero, Manyd.upd, Nat.reduceAdd, Nat.reduceBEq, Bool.or_false, Bool.or_true, if_true]), HcI.post (i := 12) h11 hT⟩⟩
    rintro t a' w1 hs ⟨G, N, L, rfl, hT⟩
    simp only [hs 0 (by decide), hs 1 (by decide), hs 2 (by decide), hs 3 (by decide), hs 4 (by decide), hs 5 (by decide), hs 6 (by decide), hs 7 (by decide), hs 8 (by decide), hs 9 (by decide), hs 10 (by decide), hs 11 (by decide), hs 12 (by decide), if_true]
    have hb1 := hbw.trans (hT.bw.mono hbw.size)
    obtain ⟨hlev, hG, hrow⟩ := hT.res (hs 11 (by decide))
    have hG := Nat.le_trans hbw.size hG
    have hc0 := (hgw.after hT.bw).c0
    clear hT hs hgw hIw
    have hLR : Keep (LevR 4 zs E N L) := ⟨hlr.out N L hlev⟩
    have hN1 := hLR.out.n1
    have hN10 := hLR.out.n10
    have hl0 := hLR.out.l0
    have hl1 := hLR.out.l1
    have hrow := hrow.ext (g := mixF (awF 4 zs E N L) (halfF zs N L) 0) (fun i hi => by rw [mixF, if_neg (by omega)])
    clear hlr hlev
    go_wp2
    go_loopw [40] (fun i wq => ∃ k : Nat, k ≤ n ∧ i = .int .i64 k ∧ Below w.heap.size w wq ∧ RowF wq G n (mixF (awF 4 zs E N L) (halfF zs N L) k) n) (fun i _ => n - (intOf i).toNat)
    case atStart => exact ⟨0, by omega, rfl, hb1, hrow⟩
    case round =>
      obtain ⟨k, hk, rfl, hbk, hrow⟩ := hrel
      have hbkz := hbk.size
      by_cases hkn : k < n
      · have hkn' : (k : Int) < (n : Int) := by omega
        obtain ⟨gz, oz, rfl, hzk⟩ := hcK.out k (by have := hn.out; omega)
        have hzk := cell_below hzk hbk
        have hzb := hVK.out.2.2 _ (getz (zs := zs) (k := k) (by have := hn.out; omega))
        have hfk := Keep.mk (hhigh2.out N L k)
        have hst := fun W (h : RowF W G n (mixF (awF 4 zs E N L) (halfF zs N L) k) n) => h.mix hkn
        have hat := fun W (h : RowF W G n (mixF (awF 4 zs E N L) (halfF zs N L) k) n) => h.cell hkn
        rw [show mixF (awF 4 zs E N L) (halfF zs N L) k k = (redN (partF zs N L k) (2 * N), redD (partF zs N L k) (2 * N)) from if_neg (by omega)] at hat
        rw [hfk.out] at hst
        have hpc : (zs.getD k 0 * N < L ∧ partF zs N L k = zs.getD k 0 * N) ∨ (L ≤ zs.getD k 0 * N ∧ partF zs N L k = L) := mnI_cases _ _
        have hm := mul_in (a := zs.getD k 0) (b := N) (A := 1000) (B := 10) hzb.1 hzb.2 (by omega) (by omega)
        generalize partF zs N L k = P at *
        generalize zs.getD k 0 = c at *
        have bP : Bd P (2 * N) := ⟨by omega, by omega, by omega, by omega⟩
        have bc : Bd c 2 := ⟨by omega, by omega, by omega, by omega⟩
        have qD := fun w => sum_red bc bP w
        rw [redV_same (a := c * (2 * N) + P * 2) (b := 2 * (2 * N)) (c := c * N + P) (d := 2 * N) (by omega) (by omega) (plus_eq c P N)] at qD
        have qW := fun w => lowest_any c 2 (by omega) (by omega) (by omega) (by omega) w
        unfold redV at qD
        obtain ⟨y0, hy0⟩ : ∃ x, Keep (redN P (2 * N) = x) := ⟨_, ⟨rfl⟩⟩
        obtain ⟨y1, hy1⟩ : ∃ x, Keep (redD P (2 * N) = x) := ⟨_, ⟨rfl⟩⟩
        obtain ⟨x0, hx0⟩ : ∃ x, Keep (redN (c * N + P) (2 * N) = x) := ⟨_, ⟨rfl⟩⟩
        obtain ⟨x1, hx1⟩ : ∃ x, Keep (redD (c * N + P) (2 * N) = x) := ⟨_, ⟨rfl⟩⟩
        obtain ⟨z0, hz0⟩ : ∃ x, Keep (redN c 2 = x) := ⟨_, ⟨rfl⟩⟩
        obtain ⟨z1, hz1⟩ : ∃ x, Keep (redD c 2 = x) := ⟨_, ⟨rfl⟩⟩
        rw [hy0.out, hy1.out] at hat qD
        rw [hx0.out, hx1.out] at hst qD
        rw [hz0.out, hz1.out] at qW qD
        unfold fracV at qD qW
        clear hy0 hy1 hx0 hx1 hz0 hz1 bc
        clear hfk hzb hpc hm bP
        go_wp2
        refine (wpIn_wide (n := 0)).1 ?_
        refine Inv.region_inv (fun t act W => act = { tmps := #[Value.pointer (some ⟨H, 0, none⟩), undef, Value.slice none 0 0, Value.slice (some ⟨G, 0, none⟩) n n, Value.int IntKind.i64 (k : Nat), Value.int IntKind.i64 c, Value.pointer (some ⟨H, 0, none⟩), Value.pointer (some ⟨H, 0, none⟩), Value.pointer (some ⟨H, 1, none⟩), Value.int IntKind.i64 E, Value.int IntKind.i64 (2 * E), Value.pointer (some ⟨H, 0, none⟩), Value.pointer (some ⟨H, 0, none⟩), Value.pointer (some ⟨H, 2, none⟩), Value.int IntKind.i64 S, Value.bool (decide (2 * E ≤ S)), undef, undef, undef, undef, undef, undef, undef, Value.pointer (some ⟨H, 0, none⟩), Value.pointer (some ⟨H, 0, none⟩), Value.pointer (some ⟨H, 0, none⟩), Value.pointer (some ⟨H, 1, none⟩), Value.int IntKind.i64 E, Value.int IntKind.i64 (2 * E), Value.pointer (some ⟨H, 0, none⟩), Value.pointer (some ⟨H, 0, none⟩), Value.pointer (some ⟨H, 2, none⟩), Value.int IntKind.i64 S, Value.int IntKind.i64 T, Value.slice (some ⟨G, 0, none⟩) n n, Value.pointer (some ⟨H, 0, none⟩), Value.pointer (some ⟨H, 0, none⟩), Value.pointer (some ⟨H, 0, none⟩), Value.slice (some ⟨gz, oz, none⟩) n cap, Value.int IntKind.i64 (n : Nat), Value.int IntKind.i64 (k : Nat), Value.bool true, Value.int IntKind.i64 (k : Nat), Value.pointer (some ⟨gz, oz + k, none⟩), Value.int IntKind.i64 c, if t 0 = true then .slice (some ⟨G, 0, none⟩) n n else u45, if t 1 = true then .int .i64 (k : Nat) else u46, if t 2 = true then .int .i64 c else u47, if t 3 = true then .agg #[.int .i64 z0, .int .i64 z1] else u48, if t 4 = true then .slice (some ⟨G, 0, none⟩) n n else u49, if t 5 = true then .int .i64 (k : Nat) else u50, if t 6 = true then .pointer (some ⟨G, k * 2, none⟩) else u51, if t 7 = true then .agg #[.int .i64 y0, .int .i64 y1] else u52, if t 8 = true then .agg #[.int .i64 x0, .int .i64 x1] else u53, if t 9 = true then .pointer (some ⟨G, k * 2, none⟩) else u54, u55, undef], defers := [] } ∧ StI wr w.heap.size (fun W => RowF W G n (mixF (awF 4 zs E N L) (halfF zs N L) k) n) (fun W => RowF W G n (mixF (awF 4 zs E N L) (halfF zs N L) (k + 1)) n) 10 8 t  W) mixed_ok (by kernel_rfl) ?_ ?_ ?_
        · intro t hs
          refine ⟨?_, StI.start hrow.drew (hs 10 (by decide))⟩
          simp only [hs 0 (by decide), hs 1 (by decide), hs 2 (by decide), hs 3 (by decide), hs 4 (by decide), hs 5 (by decide), hs 6 (by decide), hs 7 (by decide), hs 8 (by decide), hs 9 (by decide), hs 10 (by decide), Bool.false_eq_true, if_false]
        · refine ⟨?_, ?_, ?_, ?_, ?_, ?_, ?_, ?_, ?_, ?_, ?_, trivial⟩
          · rintro t act W hun hdep hbeh ⟨rfl, hT⟩
            (try simp only [Nat.reduceAdd] at hun)
            refine .inl ⟨by rfl, Inv.comesV_val (.slice (some ⟨G, 0, none⟩) n n) W (by (go_simp; try rfl)) ⟨by (simp only [Act.put, List.setIfInBounds_toArray, List.set_cons_succ, List.set_cons_zero, Manyd.upd, Nat.reduceAdd, Nat.reduceBEq, Bool.or_false, Bool.or_true, if_true]), StI.keep (i := 0) (by decide) hT⟩⟩
          · rintro t act W hun hdep hbeh ⟨rfl, hT⟩
            (try simp only [Nat.reduceAdd] at hun)
            refine .inl ⟨by rfl, Inv.comesV_val (.int .i64 (k : Nat)) W (by (go_simp; try rfl)) ⟨by (simp only [Act.put, List.setIfInBounds_toArray, List.set_cons_succ, List.set_cons_zero, Manyd.upd, Nat.reduceAdd, Nat.reduceBEq, Bool.or_false, Bool.or_true, if_true]), StI.keep (i := 1) (by decide) hT⟩⟩
          · rintro t act W hun hdep hbeh ⟨rfl, hT⟩
            (try simp only [Nat.reduceAdd] at hun)
            refine .inl ⟨by rfl, Inv.comesV_val (.int .i64 c) W (by (go_simp; try rfl)) ⟨by (simp only [Act.put, List.setIfInBounds_toArray, List.set_cons_succ, List.set_cons_zero, Manyd.upd, Nat.reduceAdd, Nat.reduceBEq, Bool.or_false, Bool.or_true, if_true]), StI.keep (i := 2) (by decide) hT⟩⟩
          · rintro t act W hun hdep hbeh ⟨rfl, hT⟩
            (try simp only [Nat.reduceAdd] at hun)
            have h2 : t 2 = true := Inv.depB_mem 2 hdep (by rfl)
            refine .inl ⟨by rfl, Inv.comesV_call 96 #[.int .i64 c, .int .i64 2] W (by (simp only [h2, if_true, Bool.false_eq_true, if_false]; go_simp; try rfl)) ((qW W).mono fun e w5 hw5 => ⟨_, hw5.1, by (simp only [Act.put, List.setIfInBounds_toArray, List.set_cons_succ, List.set_cons_zero, Manyd.upd, Nat.reduceAdd, Nat.reduceBEq, Bool.or_false, Bool.or_true, if_true]), StI.call (i := 3) (by decide) (fun h => h.after hw5.2) (fun h => h.after hw5.2) hw5.2 (Nat.le_trans hbkz (hT.bw.size)) hT⟩)⟩
          · rintro t act W hun hdep hbeh ⟨rfl, hT⟩
            (try simp only [Nat.reduceAdd] at hun)
            refine .inl ⟨by rfl, Inv.comesV_val (.slice (some ⟨G, 0, none⟩) n n) W (by (go_simp; try rfl)) ⟨by (simp only [Act.put, List.setIfInBounds_toArray, List.set_cons_succ, List.set_cons_zero, Manyd.upd, Nat.reduceAdd, Nat.reduceBEq, Bool.or_false, Bool.or_true, if_true]), StI.keep (i := 4) (by decide) hT⟩⟩
          · rintro t act W hun hdep hbeh ⟨rfl, hT⟩
            (try simp only [Nat.reduceAdd] at hun)
            refine .inl ⟨by rfl, Inv.comesV_val (.int .i64 (k : Nat)) W (by (go_simp; try rfl)) ⟨by (simp only [Act.put, List.setIfInBounds_toArray, List.set_cons_succ, List.set_cons_zero, Manyd.upd, Nat.reduceAdd, Nat.reduceBEq, Bool.or_false, Bool.or_true, if_true]), StI.keep (i := 5) (by decide) hT⟩⟩
          · rintro t act W hun hdep hbeh ⟨rfl, hT⟩
            (try simp only [Nat.reduceAdd] at hun)
            have h4 : t 4 = true := Inv.depB_mem 4 hdep (by rfl)
            have h5 : t 5 = true := Inv.depB_mem 5 hdep (by rfl)
            refine .inl ⟨by rfl, Inv.comesV_val (.pointer (some ⟨G, k * 2, none⟩)) W (by (simp only [h4, h5, if_true, Bool.false_eq_true, if_false]; go_simp; try rfl)) ⟨by (simp only [Act.put, List.setIfInBounds_toArray, List.set_cons_succ, List.set_cons_zero, Manyd.upd, Nat.reduceAdd, Nat.reduceBEq, Bool.or_false, Bool.or_true, if_true]), StI.keep (i := 6) (by decide) hT⟩⟩
          · rintro t act W hun hdep hbeh ⟨rfl, hT⟩
            (try simp only [Nat.reduceAdd] at hun)
            have h6 : t 6 = true := Inv.depB_mem 6 hdep (by rfl)
            have n8 : t 8 = false := hbeh 8 (by kernel_rfl)
            obtain ⟨c0, c1⟩ := hat _ (hT.r0 (hT.no n8))
            refine .inl ⟨by rfl, Inv.comesV_val (.agg #[.int .i64 y0, .int .i64 y1]) W (by (simp only [h6, if_true, Bool.false_eq_true, if_false]; go_simp; try rfl)) ⟨by (simp only [Act.put, List.setIfInBounds_toArray, List.set_cons_succ, List.set_cons_zero, Manyd.upd, Nat.reduceAdd, Nat.reduceBEq, Bool.or_false, Bool.or_true, if_true]), StI.keep (i := 7) (by decide) hT⟩⟩
          · rintro t act W hun hdep hbeh ⟨rfl, hT⟩
            (try simp only [Nat.reduceAdd] at hun)
            have h3 : t 3 = true := Inv.depB_mem 3 hdep (by rfl)
            have h7 : t 7 = true := Inv.depB_mem 7 hdep (by rfl)
            refine .inl ⟨by rfl, Inv.comesV_call 85 #[.agg #[.int .i64 z0, .int .i64 z1], .agg #[.int .i64 y0, .int .i64 y1]] W (by (simp only [h3, h7, if_true, Bool.false_eq_true, if_false]; go_simp; try rfl)) ((qD W).mono fun e w5 hw5 => ⟨_, hw5.1, by (simp only [Act.put, List.setIfInBounds_toArray, List.set_cons_succ, List.set_cons_zero, Manyd.upd, Nat.reduceAdd, Nat.reduceBEq, Bool.or_false, Bool.or_true, if_true]), StI.call (i := 8) (by decide) (fun h => h.after hw5.2) (fun h => h.after hw5.2) hw5.2 (Nat.le_trans hbkz (hT.bw.size)) hT⟩)⟩
          · rintro t act W hun hdep hbeh ⟨rfl, hT⟩
            (try simp only [Nat.reduceAdd] at hun)
            have h0 : t 0 = true := Inv.depB_mem 0 hdep (by rfl)
            have h1 : t 1 = true := Inv.depB_mem 1 hdep (by rfl)
            refine .inl ⟨by rfl, Inv.comesV_val (.pointer (some ⟨G, k * 2, none⟩)) W (by (simp only [h0, h1, if_true, Bool.false_eq_true, if_false]; go_simp; try rfl)) ⟨by (simp only [Act.put, List.setIfInBounds_toArray, List.set_cons_succ, List.set_cons_zero, Manyd.upd, Nat.reduceAdd, Nat.reduceBEq, Bool.or_false, Bool.or_true, if_true]), StI.keep (i := 9) (by decide) hT⟩⟩
          · rintro t act W hun hdep hbeh ⟨rfl, hT⟩
            (try simp only [Nat.reduceAdd] at hun)
            have h8 : t 8 = true := Inv.depB_mem 8 hdep (by rfl)
            have h9 : t 9 = true := Inv.depB_mem 9 hdep (by rfl)
            obtain ⟨⟨u0, hu0⟩, hf0⟩ := (hT.r0 hun).can (i := k * 2) (by omega)
            obtain ⟨⟨u1, hu1⟩, hf1⟩ := (hT.r0 hun).can (i := k * 2 + 1) (by omega)
            refine .inl ⟨by rfl, Inv.comesV_skip ((W.setCell ⟨G, k * 2, none⟩ (.int .i64 x0)).setCell ⟨G, k * 2 + 1, none⟩ (.int .i64 x1)) (by (simp only [h8, h9, if_true, Bool.false_eq_true, if_false]; go_simp; try rfl)) ⟨by (simp only [Act.put, List.setIfInBounds_toArray, List.set_cons_succ, List.set_cons_zero, Manyd.upd, Nat.reduceAdd, Nat.reduceBEq, Bool.or_false, Bool.or_true, if_true]), StI.set h8 ((hT.bw.setCell (p := ⟨G, k * 2, none⟩) hG _).setCell (p := ⟨G, k * 2 + 1, none⟩) hG _) (hst _ (hT.r0 hun))⟩⟩
        rintro t a' W1 hs ⟨rfl, hT⟩
        simp only [hs 0 (by decide), hs 1 (by decide), hs 2 (by decide), hs 3 (by decide), hs 4 (by decide), hs 5 (by decide), hs 6 (by decide), hs 7 (by decide), hs 8 (by decide), hs 9 (by decide), hs 10 (by decide), if_true]
        have hb2 := hbk.trans hT.bw
        have hrow2 := hT.r1 (hs 10 (by decide))
        clear hT hs
        go_wp2
        exact ⟨⟨k + 1, by omega, by go_num, hb2, hrow2⟩, by simp [intOf]; omega⟩
      · obtain rfl : k = n := by omega
        go_wp2
        go_ret
        exact ⟨G, N, L, rfl, hLR.out, hG, hrow.ext (fun i hi => by rw [mixF, if_pos hi]), hbk⟩
end Go.Proofs.Ytbocmbhinjkjlaa
set_option linter.unusedSimpArgs false
set_option linter.unusedVariables false
namespace Go.Proofs.Ytbocmbhinjkjlaa
open Go Go.Proofs Go.RowKit Go.Seq Go.Sort
def setB (w : World) (r : Nat) (o : Obj) : World := { w with heap := w.heap.setIfInBounds r o }
theorem setB_below {B r : Nat} {w w' : World} {o : Obj} (h : Below B w w') (hr : B ≤ r) : Below B w (setB w' r o) :=
  ⟨h.os, h.tape, h.output, by simpa [setB] using h.size, fun k hk => by
    rw [← h.block k hk]
    show (w'.heap.setIfInBounds r o)[k]? = _
    rw [Array.getElem?_setIfInBounds_ne (by omega)]⟩
theorem setB_at {w : World} {r : Nat} {o o' : Obj} (h : w.heap[r]? = some o') : (setB w r o).heap[r]? = some o := by
  obtain ⟨hr, _⟩ := Array.getElem?_eq_some_iff.1 h
  show (w.heap.setIfInBounds r o)[r]? = _
  rw [Array.getElem?_setIfInBounds_self_of_lt hr]
theorem ty98 : Try.prog.underlying 98 = some (.map 3 96) := by kernel_rfl
theorem put98 {W : World} {r clock : Nat} {es : Array MapEntry} {k : Int} {v : Value} (hb : W.heap[r]? = some (.map es clock)) (hn : Instr.findNow (.int .i64) (.int .i64 k) es.toList 0 = some none) :
    (Instr.mapUpdate 98 (.map (some r)) (.int .i64 k) v).run Try.prog W = .ok () (setB W r (.map (es.push ⟨.int .i64 k, v, clock⟩) (clock + 1))) := by
  have hc := MapKept.run_checkKey (w := W) (k := .int .i64 k) ty3 (by first | exact trivial | simp [MapKept.IsKey]) false 9999
  have hf : (Instr.findKey 3 (.int .i64 k) es.toList).run Try.prog W = .ok none W := by
    simp [Instr.findKey, run_underlying ty3, hn]
  simp [Instr.mapUpdate, run_underlying ty98, MapKept.run_getObj_map hb, hc, hf, MapKept.run_setObj_map _ hb, Result.andThen, setB]
theorem look98 {W : World} {r clock : Nat} {es : Array MapEntry} {k : Int} {i : Nat} {v : Value} (hb : W.heap[r]? = some (.map es clock)) (hn : Instr.findNow (.int .i64) (.int .i64 k) es.toList 0 = some (some (i, v))) :
    (Instr.lookup 98 (.map (some r)) (.int .i64 k) true).run Try.prog W = .ok (.tuple #[v, .bool true]) W := by
  have hc := fun e => MapKept.run_checkKey (w := W) (k := .int .i64 k) ty3 (by first | exact trivial | simp [MapKept.IsKey]) e 9999
  have hf : (Instr.findKey 3 (.int .i64 k) es.toList).run Try.prog W = .ok (some (i, v)) W := by
    simp [Instr.findKey, run_underlying ty3, hn]
  simp [Instr.lookup, run_underlying ty98, MapKept.run_getObj_map hb, hc, hf, Result.andThen]
theorem look98_no {W : World} {r clock : Nat} {es : Array MapEntry} {k : Int} (hb : W.heap[r]? = some (.map es clock)) (hn : Instr.findNow (.int .i64) (.int .i64 k) es.toList 0 = some none) :
    ∃ z, (Instr.lookup 98 (.map (some r)) (.int .i64 k) true).run Try.prog W = .ok (.tuple #[z, .bool false]) W := by
  have hc := fun e => MapKept.run_checkKey (w := W) (k := .int .i64 k) ty3 (by first | exact trivial | simp [MapKept.IsKey]) e 9999
  have hf : (Instr.findKey 3 (.int .i64 k) es.toList).run Try.prog W = .ok none W := by
    simp [Instr.findKey, run_underlying ty3, hn]
  have hz := Try.zeroValue96
  simp [Instr.lookup, run_underlying ty98, MapKept.run_getObj_map hb, hc, hf, Result.andThen, hz]
def meth (H f : Nat) : Value := .func (.func f) #[.pointer (some ⟨H, 0, none⟩)] #[]
def fiveM (H : Nat) : Array MapEntry := #[⟨.int .i64 0, meth H 91, 0⟩, ⟨.int .i64 1, meth H 92, 1⟩, ⟨.int .i64 2, meth H 93, 2⟩, ⟨.int .i64 3, meth H 94, 3⟩, ⟨.int .i64 4, meth H 95, 4⟩]
set_option maxHeartbeats 1000000 in
theorem rules_any {H : Nat} (w : World) : Calls Try.prog 63 #[.pointer (some ⟨H, 0, none⟩)] w fun e w' => e = .returned (.map (some w.heap.size)) ∧ w'.heap[w.heap.size]? = some (.map (fiveM H) 5) ∧ Below w.heap.size w w' := by
  have hmm := run_makeMap (P := Try.prog) 98 w
  obtain ⟨w1, hw1⟩ : ∃ w1, w.alloc (.map #[] 0) = w1 := ⟨_, rfl⟩
  have b1 : w1.heap[w.heap.size]? = some (.map #[] 0) := by rw [← hw1]; show (w.heap.push _)[w.heap.size]? = _; simp
  have k1 : Below w.heap.size w w1 := by rw [← hw1]; exact (Below.refl _ _).alloc (Nat.le_refl _) _
  have p1 := put98 (k := 0) (v := meth H 91) b1 (by rfl)
  have b2 := setB_at (o := .map ((#[] : Array MapEntry).push ⟨.int .i64 0, meth H 91, 0⟩) (0 + 1)) b1
  have k2 := setB_below (o := .map ((#[] : Array MapEntry).push ⟨.int .i64 0, meth H 91, 0⟩) (0 + 1)) k1 (Nat.le_refl _)
  generalize setB w1 w.heap.size (.map ((#[] : Array MapEntry).push ⟨.int .i64 0, meth H 91, 0⟩) (0 + 1)) = w2 at *
  have p2 := put98 (k := 1) (v := meth H 92) b2 (by rfl)
  have b3 := setB_at (o := .map (((#[] : Array MapEntry).push ⟨.int .i64 0, meth H 91, 0⟩).push ⟨.int .i64 1, meth H 92, 0 + 1⟩) (0 + 1 + 1)) b2
  have k3 := setB_below (o := .map (((#[] : Array MapEntry).push ⟨.int .i64 0, meth H 91, 0⟩).push ⟨.int .i64 1, meth H 92, 0 + 1⟩) (0 + 1 + 1)) k2 (Nat.le_refl _)
  generalize setB w2 w.heap.size _ = w3 at *
  have p3 := put98 (k := 2) (v := meth H 93) b3 (by rfl)
  have b4 := setB_at (o := .map ((((#[] : Array MapEntry).push ⟨.int .i64 0, meth H 91, 0⟩).push ⟨.int .i64 1, meth H 92, 0 + 1⟩).push ⟨.int .i64 2, meth H 93, 0 + 1 + 1⟩) (0 + 1 + 1 + 1)) b3
  have k4 := setB_below (o := .map ((((#[] : Array MapEntry).push ⟨.int .i64 0, meth H 91, 0⟩).push ⟨.int .i64 1, meth H 92, 0 + 1⟩).push ⟨.int .i64 2, meth H 93, 0 + 1 + 1⟩) (0 + 1 + 1 + 1)) k3 (Nat.le_refl _)
  generalize setB w3 w.heap.size _ = w4 at *
  have p4 := put98 (k := 3) (v := meth H 94) b4 (by rfl)
  have b5 := setB_at (o := .map (((((#[] : Array MapEntry).push ⟨.int .i64 0, meth H 91, 0⟩).push ⟨.int .i64 1, meth H 92, 0 + 1⟩).push ⟨.int .i64 2, meth H 93, 0 + 1 + 1⟩).push ⟨.int .i64 3, meth H 94, 0 + 1 + 1 + 1⟩) (0 + 1 + 1 + 1 + 1)) b4
  have k5 := setB_below (o := .map (((((#[] : Array MapEntry).push ⟨.int .i64 0, meth H 91, 0⟩).push ⟨.int .i64 1, meth H 92, 0 + 1⟩).push ⟨.int .i64 2, meth H 93, 0 + 1 + 1⟩).push ⟨.int .i64 3, meth H 94, 0 + 1 + 1 + 1⟩) (0 + 1 + 1 + 1 + 1)) k4 (Nat.le_refl _)
  generalize setB w4 w.heap.size _ = w5 at *
  have p5 := put98 (k := 4) (v := meth H 95) b5 (by rfl)
  have b6 := setB_at (o := .map ((((((#[] : Array MapEntry).push ⟨.int .i64 0, meth H 91, 0⟩).push ⟨.int .i64 1, meth H 92, 0 + 1⟩).push ⟨.int .i64 2, meth H 93, 0 + 1 + 1⟩).push ⟨.int .i64 3, meth H 94, 0 + 1 + 1 + 1⟩).push ⟨.int .i64 4, meth H 95, 0 + 1 + 1 + 1 + 1⟩) (0 + 1 + 1 + 1 + 1 + 1)) b5
  have k6 := setB_below (o := .map ((((((#[] : Array MapEntry).push ⟨.int .i64 0, meth H 91, 0⟩).push ⟨.int .i64 1, meth H 92, 0 + 1⟩).push ⟨.int .i64 2, meth H 93, 0 + 1 + 1⟩).push ⟨.int .i64 3, meth H 94, 0 + 1 + 1 + 1⟩).push ⟨.int .i64 4, meth H 95, 0 + 1 + 1 + 1 + 1⟩) (0 + 1 + 1 + 1 + 1 + 1)) k5 (Nat.le_refl _)
  generalize setB w5 w.heap.size _ = w6 at *
  have hfin : w6.heap[w.heap.size]? = some (.map (fiveM H) 5) ∧ Below w.heap.size w w6 := ⟨b6, k6⟩
  clear b1 b2 b3 b4 b5 b6 k1 k2 k3 k4 k5 k6
  unfold meth at *
  go_enter Try.func63, Try.ntmps63
  go_wp2
  go_ret
  exact ⟨rfl, hfin⟩
end Go.Proofs.Ytbocmbhinjkjlaa
set_option linter.unusedSimpArgs false
set_option linter.unusedVariables false
namespace Go.Proofs.Ytbocmbhinjkjlaa
open Go Go.Proofs Go.RowKit Go.Seq Go.Sort
theorem equalAwards_aw {H : Nat} {v : Value} {zs : List Int} {E : Int} {w : World} (hg : Own3 w H v (.int .i64 E) (.int .i64 zs.sum)) (hc : IntsO w v zs) (hV : Valid zs) (hE : 0 ≤ E ∧ E ≤ zs.sum) :
    Calls Try.prog 92 #[.pointer (some ⟨H, 0, none⟩)] w (AwR 1 zs E w) := by
  refine (equalAwards_any (E0 := undef) hg hc hV hE).mono ?_
  rintro e w' ⟨G, N, L, rfl, hl, h1, h2, h3⟩
  exact ⟨G, N, L, rfl, levR_of hl hV hE, h1, h2, h3⟩
/-- What Award answers. -/
def AwA (r : Nat) (zs : List Int) (E : Int) (w : World) (e : Ending) (w' : World) : Prop := ∃ (G : Nat) (N L : Int), e = .returned (.tuple #[.slice (some ⟨G, 0, none⟩) zs.length zs.length, .int .i64 0]) ∧ LevR r zs E N L ∧ w.heap.size ≤ G ∧ RowF w' G zs.length (awF r zs E N L) zs.length ∧ Below w.heap.size w w'
set_option maxHeartbeats 1000000 in
theorem award0 {v : Value} {zs : List Int} {E : Int} {w : World} (hc : IntsO w v zs) (hV : Valid zs) (hE : 0 ≤ E ∧ E ≤ zs.sum) : Calls Try.prog 22 #[.int .i64 0, v, .int .i64 E] w (AwA 0 zs E w) := by
  unfold AwA
  have q62 := readHeirs_any (e := E) hc hV
  rw [decide_eq_true hE] at q62
  obtain ⟨H, hH⟩ : ∃ H, Keep (w.heap.size = H) := ⟨_, ⟨rfl⟩⟩
  have qF := fun w2 (hb : Below w.heap.size w w2) (hg : BlkAt w2 H #[v, .int .i64 E, .int .i64 zs.sum] 122) => proportional_any ⟨hg⟩ (intsO_below hc hb) hV hE
  unfold AwR at qF
  rw [hH.out] at q62
  have q63 := fun w => rules_any (H := H) w
  generalize zs.length = n at *
  obtain ⟨A, cap, rfl, hcell⟩ := hc
  clear hcell hV hE
  go_enter Try.func22, Try.ntmps22
  go_wp2_with (first
    | (go_at_call 62; (with_reducible refine q62.mono ?_); rintro e w2 ⟨rfl, hb2, hg2⟩)
    | (go_at_call 63; (with_reducible refine (q63 _).mono ?_); rintro e w3 ⟨rfl, hm3, hb3⟩
       have hl := look98 (k := 0) (i := 0) (v := meth H 91) hm3 (by rfl)
       unfold meth at hl
       have hb2 : Below w.heap.size w w2 := by rw [hH.out]; exact hb2
       have hg3 := hg2.after hb3
       have hb23 := hb2.trans (hb3.mono hb2.size)
       clear hb3 hm3)
    | (go_at_call 91; (with_reducible refine (qF _ hb23 hg3).mono ?_); rintro e w4 ⟨G, N, L, rfl, hlr, hG, hrow, hb4⟩))
  go_ret2
  exact ⟨G, N, L, rfl, hlr, Nat.le_trans hb23.size hG, hrow, hb23.trans (hb4.mono hb23.size)⟩
set_option maxHeartbeats 1000000 in
theorem award1 {v : Value} {zs : List Int} {E : Int} {w : World} (hc : IntsO w v zs) (hV : Valid zs) (hE : 0 ≤ E ∧ E ≤ zs.sum) : Calls Try.prog 22 #[.int .i64 1, v, .int .i64 E] w (AwA 1 zs E w) := by
  unfold AwA
  have q62 := readHeirs_any (e := E) hc hV
  rw [decide_eq_true hE] at q62
  obtain ⟨H, hH⟩ : ∃ H, Keep (w.heap.size = H) := ⟨_, ⟨rfl⟩⟩
  have qF := fun w2 (hb : Below w.heap.size w w2) (hg : BlkAt w2 H #[v, .int .i64 E, .int .i64 zs.sum] 122) => equalAwards_aw ⟨hg⟩ (intsO_below hc hb) hV hE
  unfold AwR at qF
  rw [hH.out] at q62
  have q63 := fun w => rules_any (H := H) w
  generalize zs.length = n at *
  obtain ⟨A, cap, rfl, hcell⟩ := hc
  clear hcell hV hE
  go_enter Try.func22, Try.ntmps22
  go_wp2_with (first
    | (go_at_call 62; (with_reducible refine q62.mono ?_); rintro e w2 ⟨rfl, hb2, hg2⟩)
    | (go_at_call 63; (with_reducible refine (q63 _).mono ?_); rintro e w3 ⟨rfl, hm3, hb3⟩
       have hl := look98 (k := 1) (i := 1) (v := meth H 92) hm3 (by rfl)
       unfold meth at hl
       have hb2 : Below w.heap.size w w2 := by rw [hH.out]; exact hb2
       have hg3 := hg2.after hb3
       have hb23 := hb2.trans (hb3.mono hb2.size)
       clear hb3 hm3)
    | (go_at_call 92; (with_reducible refine (qF _ hb23 hg3).mono ?_); rintro e w4 ⟨G, N, L, rfl, hlr, hG, hrow, hb4⟩))
  go_ret2
  exact ⟨G, N, L, rfl, hlr, Nat.le_trans hb23.size hG, hrow, hb23.trans (hb4.mono hb23.size)⟩
set_option maxHeartbeats 1000000 in
theorem award2 {v : Value} {zs : List Int} {E : Int} {w : World} (hc : IntsO w v zs) (hV : Valid zs) (hE : 0 ≤ E ∧ E ≤ zs.sum) : Calls Try.prog 22 #[.int .i64 2, v, .int .i64 E] w (AwA 2 zs E w) := by
  unfold AwA
  have q62 := readHeirs_any (e := E) hc hV
  rw [decide_eq_true hE] at q62
  obtain ⟨H, hH⟩ : ∃ H, Keep (w.heap.size = H) := ⟨_, ⟨rfl⟩⟩
  have qF := fun w2 (hb : Below w.heap.size w w2) (hg : BlkAt w2 H #[v, .int .i64 E, .int .i64 zs.sum] 122) => equalLosses_any ⟨hg⟩ (intsO_below hc hb) hV hE
  unfold AwR at qF
  rw [hH.out] at q62
  have q63 := fun w => rules_any (H := H) w
  generalize zs.length = n at *
  obtain ⟨A, cap, rfl, hcell⟩ := hc
  clear hcell hV hE
  go_enter Try.func22, Try.ntmps22
  go_wp2_with (first
    | (go_at_call 62; (with_reducible refine q62.mono ?_); rintro e w2 ⟨rfl, hb2, hg2⟩)
    | (go_at_call 63; (with_reducible refine (q63 _).mono ?_); rintro e w3 ⟨rfl, hm3, hb3⟩
       have hl := look98 (k := 2) (i := 2) (v := meth H 93) hm3 (by rfl)
       unfold meth at hl
       have hb2 : Below w.heap.size w w2 := by rw [hH.out]; exact hb2
       have hg3 := hg2.after hb3
       have hb23 := hb2.trans (hb3.mono hb2.size)
       clear hb3 hm3)
    | (go_at_call 93; (with_reducible refine (qF _ hb23 hg3).mono ?_); rintro e w4 ⟨G, N, L, rfl, hlr, hG, hrow, hb4⟩))
  go_ret2
  exact ⟨G, N, L, rfl, hlr, Nat.le_trans hb23.size hG, hrow, hb23.trans (hb4.mono hb23.size)⟩
set_option maxHeartbeats 1000000 in
theorem award3 {v : Value} {zs : List Int} {E : Int} {w : World} (hc : IntsO w v zs) (hV : Valid zs) (hE : 0 ≤ E ∧ E ≤ zs.sum) : Calls Try.prog 22 #[.int .i64 3, v, .int .i64 E] w (AwA 3 zs E w) := by
  unfold AwA
  have q62 := readHeirs_any (e := E) hc hV
  rw [decide_eq_true hE] at q62
  obtain ⟨H, hH⟩ : ∃ H, Keep (w.heap.size = H) := ⟨_, ⟨rfl⟩⟩
  have qF := fun w2 (hb : Below w.heap.size w w2) (hg : BlkAt w2 H #[v, .int .i64 E, .int .i64 zs.sum] 122) => talmud_any ⟨hg⟩ (intsO_below hc hb) hV hE
  unfold AwR at qF
  rw [hH.out] at q62
  have q63 := fun w => rules_any (H := H) w
  generalize zs.length = n at *
  obtain ⟨A, cap, rfl, hcell⟩ := hc
  clear hcell hV hE
  go_enter Try.func22, Try.ntmps22
  go_wp2_with (first
    | (go_at_call 62; (with_reducible refine q62.mono ?_); rintro e w2 ⟨rfl, hb2, hg2⟩)
    | (go_at_call 63; (with_reducible refine (q63 _).mono ?_); rintro e w3 ⟨rfl, hm3, hb3⟩
       have hl := look98 (k := 3) (i := 3) (v := meth H 94) hm3 (by rfl)
       unfold meth at hl
       have hb2 : Below w.heap.size w w2 := by rw [hH.out]; exact hb2
       have hg3 := hg2.after hb3
       have hb23 := hb2.trans (hb3.mono hb2.size)
       clear hb3 hm3)
    | (go_at_call 94; (with_reducible refine (qF _ hb23 hg3).mono ?_); rintro e w4 ⟨G, N, L, rfl, hlr, hG, hrow, hb4⟩))
  go_ret2
  exact ⟨G, N, L, rfl, hlr, Nat.le_trans hb23.size hG, hrow, hb23.trans (hb4.mono hb23.size)⟩
set_option maxHeartbeats 1000000 in
theorem award4 {v : Value} {zs : List Int} {E : Int} {w : World} (hc : IntsO w v zs) (hV : Valid zs) (hE : 0 ≤ E ∧ E ≤ zs.sum) : Calls Try.prog 22 #[.int .i64 4, v, .int .i64 E] w (AwA 4 zs E w) := by
  unfold AwA
  have q62 := readHeirs_any (e := E) hc hV
  rw [decide_eq_true hE] at q62
  obtain ⟨H, hH⟩ : ∃ H, Keep (w.heap.size = H) := ⟨_, ⟨rfl⟩⟩
  have qF := fun w2 (hb : Below w.heap.size w w2) (hg : BlkAt w2 H #[v, .int .i64 E, .int .i64 zs.sum] 122) => piniles_any ⟨hg⟩ (intsO_below hc hb) hV hE
  unfold AwR at qF
  rw [hH.out] at q62
  have q63 := fun w => rules_any (H := H) w
  generalize zs.length = n at *
  obtain ⟨A, cap, rfl, hcell⟩ := hc
  clear hcell hV hE
  go_enter Try.func22, Try.ntmps22
  go_wp2_with (first
    | (go_at_call 62; (with_reducible refine q62.mono ?_); rintro e w2 ⟨rfl, hb2, hg2⟩)
    | (go_at_call 63; (with_reducible refine (q63 _).mono ?_); rintro e w3 ⟨rfl, hm3, hb3⟩
       have hl := look98 (k := 4) (i := 4) (v := meth H 95) hm3 (by rfl)
       unfold meth at hl
       have hb2 : Below w.heap.size w w2 := by rw [hH.out]; exact hb2
       have hg3 := hg2.after hb3
       have hb23 := hb2.trans (hb3.mono hb2.size)
       clear hb3 hm3)
    | (go_at_call 95; (with_reducible refine (qF _ hb23 hg3).mono ?_); rintro e w4 ⟨G, N, L, rfl, hlr, hG, hrow, hb4⟩))
  go_ret2
  exact ⟨G, N, L, rfl, hlr, Nat.le_trans hb23.size hG, hrow, hb23.trans (hb4.mono hb23.size)⟩
set_option maxHeartbeats 1000000 in
theorem award_any {r : Nat} {v : Value} {zs : List Int} {E : Int} {w : World} (hr : r ≤ 4) (hc : IntsO w v zs) (hV : Valid zs) (hE : 0 ≤ E ∧ E ≤ zs.sum) : Calls Try.prog 22 #[.int .i64 (r : Nat), v, .int .i64 E] w (AwA r zs E w) := by
  obtain rfl | rfl | rfl | rfl | rfl : r = 0 ∨ r = 1 ∨ r = 2 ∨ r = 3 ∨ r = 4 := by omega
  · exact award0 hc hV hE
  · exact award1 hc hV hE
  · exact award2 hc hV hE
  · exact award3 hc hV hE
  · exact award4 hc hV hE
end Go.Proofs.Ytbocmbhinjkjlaa
