/- Equal awards of the reference. -/
import Derived.Test.YtbocmbhinjkjlaaFvReg
import Derived.Laws.OwnMore
set_option linter.unusedSimpArgs false
set_option linter.unusedVariables false
namespace Go.Proofs.Ytbocmbhinjkjlaa
open Go Go.Proofs Go.RowKit Go.Seq Go.Sort
theorem info4 : (Try.prog.info? 4).map (fun i => (i.zero, i.size, i.bytes)) = some (some (.bool false), 1, 1) := by kernel_rfl
theorem ty112 : Try.prog.underlying 112 = some (.slice 4) := by kernel_rfl
def boolZ (n : Nat) : Array Value := madeCells #[.bool false] n
theorem boolZ_at {n i : Nat} (h : i < n) : (boolZ n)[i]? = some (.bool false) := by
  have := toList_madeCells_one (.bool false) n
  have h2 : (boolZ n).toList[i]? = some (.bool false) := by
    show (madeCells #[.bool false] n).toList[i]? = _
    rw [this, List.getElem?_replicate, if_pos h]
  simpa using h2
theorem made112 {N : Nat} (h : N ≤ 12) (w : World) : (Sem.run Try.prog (Instr.makeSlice 112 (.int .i64 (N : Int)) (.int .i64 (N : Int)))) w = .ok (.slice (some ⟨w.heap.size, 0, none⟩) N N) (w.alloc (.cells (boolZ N) 4)) := by
  obtain ⟨i, hI, z1, z2, z3⟩ := info_parts info4
  have r := run_make (P := Try.prog) w 112 4 i _ ty112 hI z1 .i64 .i64 (N : Int) (N : Int) (by omega) (by omega) (by rw [z3]; omega) (by omega)
  rw [show (N : Int).toNat = N by omega, z2, show N * 1 = N by omega] at r
  exact r
/-- A row of bools. -/
def RowB (W : World) (G n : Nat) (d : Nat → Bool) : Prop := ∃ arr : Array Value, BlkAt W G arr 4 ∧ arr.size = n ∧ ∀ i, i < n → arr[i]? = some (.bool (d i))
def setT (d : Nat → Bool) (i : Nat) : Nat → Bool := fun k => if k = i then true else d k
theorem RowB.start {W : World} {n : Nat} : RowB (W.alloc (.cells (boolZ n) 4)) W.heap.size n fun _ => false := ⟨boolZ n, BlkAt.new _ _ _, size_madeCells _ _, fun i hi => boolZ_at hi⟩
theorem RowB.after {W W' : World} {G n : Nat} {d : Nat → Bool} (h : RowB W G n d) (hb : Below W.heap.size W W') : RowB W' G n d := by
  obtain ⟨arr, h1, h2, h3⟩ := h
  exact ⟨arr, h1.after hb, h2, h3⟩
theorem RowB.cell {W : World} {G n i : Nat} {d : Nat → Bool} (h : RowB W G n d) (hi : i < n) : W.cell? ⟨G, i, none⟩ = some (.bool (d i)) := by
  obtain ⟨arr, h1, h2, h3⟩ := h
  rw [h1.cell, h3 i hi]
theorem RowB.can {W : World} {G n i : Nat} {d : Nat → Bool} (h : RowB W G n d) : W.frozen? ⟨G, i, none⟩ = false := by
  obtain ⟨arr, h1, h2, h3⟩ := h
  exact h1.free i
theorem RowB.set {W : World} {G n i : Nat} {d : Nat → Bool} (h : RowB W G n d) (hi : i < n) : RowB (W.setCell ⟨G, i, none⟩ (.bool true)) G n (setT d i) := by
  obtain ⟨arr, h1, h2, h3⟩ := h
  refine ⟨_, h1.set i _, by simp [h2], fun k hk => ?_⟩
  unfold setT
  by_cases e : k = i
  · subst e; rw [if_pos rfl, Array.getElem?_setIfInBounds_self_of_lt (by omega)]
  · rw [if_neg e, Array.getElem?_setIfInBounds_ne (by omega)]; exact h3 k hk
theorem RowB.other {W : World} {G n : Nat} {d : Nat → Bool} (h : RowB W G n d) {p : Addr} (hp : G ≠ p.block) (v : Value) : RowB (W.setCell p v) G n d := by
  obtain ⟨arr, h1, h2, h3⟩ := h
  exact ⟨arr, h1.other hp v, h2, h3⟩
/-- A row of fractions of which some are laid. -/
def RowP (W : World) (G n : Nat) (d : Nat → Bool) (f : Nat → Int × Int) : Prop := ∃ arr : Array Value, BlkAt W G arr 37 ∧ arr.size = n * 2 ∧ ∀ i, i < n → d i = true → arr[i * 2]? = some (.int .i64 (f i).1) ∧ arr[i * 2 + 1]? = some (.int .i64 (f i).2)
theorem RowP.start {W : World} {n : Nat} {f : Nat → Int × Int} : RowP (W.alloc (.cells (fracZ n) 37)) W.heap.size n (fun _ => false) f := ⟨fracZ n, BlkAt.new _ _ _, fracZ_size n, fun i hi h => by cases h⟩
theorem RowP.after {W W' : World} {G n : Nat} {d : Nat → Bool} {f : Nat → Int × Int} (h : RowP W G n d f) (hb : Below W.heap.size W W') : RowP W' G n d f := by
  obtain ⟨arr, h1, h2, h3⟩ := h
  exact ⟨arr, h1.after hb, h2, h3⟩
theorem RowP.can {W : World} {G n i : Nat} {d : Nat → Bool} {f : Nat → Int × Int} (h : RowP W G n d f) (hi : i < n * 2) : (∃ u, W.cell? ⟨G, i, none⟩ = some u) ∧ W.frozen? ⟨G, i, none⟩ = false := by
  obtain ⟨arr, h1, h2, h3⟩ := h
  exact ⟨⟨arr[i]'(by omega), by rw [h1.cell]; simp [h2, hi]⟩, h1.free i⟩
theorem RowP.set {W : World} {G n i : Nat} {d : Nat → Bool} {f : Nat → Int × Int} (h : RowP W G n d f) (hi : i < n) (x y : Int) (hf : f i = (x, y)) : RowP ((W.setCell ⟨G, i * 2, none⟩ (.int .i64 x)).setCell ⟨G, i * 2 + 1, none⟩ (.int .i64 y)) G n (setT d i) f := by
  obtain ⟨arr, h1, h2, h3⟩ := h
  refine ⟨_, (h1.set (i * 2) _).set (i * 2 + 1) _, by simp [h2], fun k hk hd => ?_⟩
  unfold setT at hd
  by_cases e : k = i
  · subst e
    rw [hf]
    constructor
    · rw [Array.getElem?_setIfInBounds_ne (by omega), Array.getElem?_setIfInBounds_self_of_lt (by omega)]
    · rw [Array.getElem?_setIfInBounds_self_of_lt (by simp; omega)]
  · rw [if_neg e] at hd
    have := h3 k hk hd
    constructor
    · rw [Array.getElem?_setIfInBounds_ne (by omega), Array.getElem?_setIfInBounds_ne (by omega)]; exact this.1
    · rw [Array.getElem?_setIfInBounds_ne (by omega), Array.getElem?_setIfInBounds_ne (by omega)]; exact this.2
theorem RowP.other {W : World} {G n : Nat} {d : Nat → Bool} {f : Nat → Int × Int} (h : RowP W G n d f) {p : Addr} (hp : G ≠ p.block) (v : Value) : RowP (W.setCell p v) G n d f := by
  obtain ⟨arr, h1, h2, h3⟩ := h
  exact ⟨arr, h1.other hp v, h2, h3⟩
theorem RowP.ext {W : World} {G n : Nat} {d d' : Nat → Bool} {f g : Nat → Int × Int} (h : RowP W G n d f) (he : ∀ i, i < n → d' i = true → d i = true ∧ f i = g i) : RowP W G n d' g := by
  obtain ⟨arr, h1, h2, h3⟩ := h
  exact ⟨arr, h1, h2, fun i hi hd => by rw [← (he i hi hd).2]; exact h3 i hi (he i hi hd).1⟩
theorem RowP.full {W : World} {G n : Nat} {d : Nat → Bool} {f : Nat → Int × Int} (h : RowP W G n d f) (hd : ∀ i, i < n → d i = true) : RowF W G n f n := by
  obtain ⟨arr, h1, h2, h3⟩ := h
  exact ⟨arr, h1, h2, fun i hi => h3 i hi (hd i hi)⟩
def dsum (zs : List Int) (d : Nat → Bool) : Nat → Int
  | 0 => 0
  | k + 1 => dsum zs d k + (if d k then zs.getD k 0 else 0)
def dcnt (d : Nat → Bool) : Nat → Int
  | 0 => 0
  | k + 1 => dcnt d k + (if d k then 0 else 1)
theorem dsum_none (zs : List Int) : ∀ k, dsum zs (fun _ => false) k = 0
  | 0 => rfl
  | k + 1 => by show dsum zs (fun _ => false) k + 0 = 0; rw [dsum_none zs k]; rfl
theorem dcnt_none : ∀ k : Nat, dcnt (fun _ => false) k = k
  | 0 => rfl
  | k + 1 => by show dcnt (fun _ => false) k + 1 = _; rw [dcnt_none k]; omega
theorem dsum_set (zs : List Int) (d : Nat → Bool) {i : Nat} (hd : d i = false) : ∀ k, dsum zs (setT d i) k = dsum zs d k + (if i < k then zs.getD i 0 else 0)
  | 0 => rfl
  | k + 1 => by
    have ih := dsum_set zs d hd k
    show dsum zs (setT d i) k + (if setT d i k then zs.getD k 0 else 0) = dsum zs d k + (if d k then zs.getD k 0 else 0) + _
    rw [ih]
    unfold setT
    by_cases e : k = i
    · subst e; rw [if_pos rfl, hd]; simp
    · rw [if_neg e]
      by_cases h : i < k
      · rw [if_pos h, if_pos (show i < k + 1 by omega)]; omega
      · rw [if_neg h, if_neg (show ¬ i < k + 1 by omega)]; omega
theorem dcnt_set (d : Nat → Bool) {i : Nat} (hd : d i = false) : ∀ k, dcnt (setT d i) k = dcnt d k - (if i < k then 1 else 0)
  | 0 => rfl
  | k + 1 => by
    have ih := dcnt_set d hd k
    show dcnt (setT d i) k + (if setT d i k then 0 else 1) = dcnt d k + (if d k then 0 else 1) - _
    rw [ih]
    unfold setT
    by_cases e : k = i
    · subst e; rw [if_pos rfl, hd]; simp
    · rw [if_neg e]
      by_cases h : i < k
      · rw [if_pos h, if_pos (show i < k + 1 by omega)]; omega
      · rw [if_neg h, if_neg (show ¬ i < k + 1 by omega)]; omega
theorem dcnt_pos (d : Nat → Bool) : ∀ k, 0 ≤ dcnt d k ∧ dcnt d k ≤ k
  | 0 => ⟨Int.le_refl _, Int.le_refl _⟩
  | k + 1 => by
    have := dcnt_pos d k
    show 0 ≤ dcnt d k + (if d k then 0 else 1) ∧ dcnt d k + (if d k then 0 else 1) ≤ _
    split <;> omega
theorem dcnt_one {d : Nat → Bool} {i : Nat} (hd : d i = false) : ∀ k, i < k → 1 ≤ dcnt d k
  | 0, h => by omega
  | k + 1, h => by
    have := dcnt_pos d k
    show 1 ≤ dcnt d k + (if d k then 0 else 1)
    by_cases e : k = i
    · subst e; rw [hd]; simp; omega
    · have := dcnt_one hd k (by omega)
      split <;> omega
theorem dsum_final {zs : List Int} {d : Nat → Bool} {g : Int → Int} {M K : Int} : ∀ k, k ≤ zs.length → (∀ i, i < k → g (zs.getD i 0) = if d i then zs.getD i 0 * M else K) → ((zs.take k).map g).sum = dsum zs d k * M + dcnt d k * K
  | 0, _, _ => by simp [dsum, dcnt]
  | k + 1, hk, h => by
    have ih := dsum_final (zs := zs) (d := d) (g := g) (M := M) (K := K) k (by omega) (fun i hi => h i (by omega))
    rw [takez (by omega), List.map_append, List.sum_append, ih]
    show _ + ([zs.getD k 0].map g).sum = (dsum zs d k + (if d k then zs.getD k 0 else 0)) * M + (dcnt d k + (if d k then 0 else 1)) * K
    rw [List.map_singleton, List.sum_singleton, h k (by omega), Int.add_mul, Int.add_mul]
    split <;> simp <;> omega
theorem dsum_all {zs : List Int} {d : Nat → Bool} : ∀ k, k ≤ zs.length → (∀ i, i < k → d i = true) → dsum zs d k = (zs.take k).sum
  | 0, _, _ => by simp [dsum]
  | k + 1, hk, h => by
    show dsum zs d k + (if d k then zs.getD k 0 else 0) = _
    rw [sum_take (show k < zs.length by omega), dsum_all k (by omega) (fun i hi => h i (by omega)), h k (by omega), if_pos rfl]
theorem dcnt_zero {d : Nat → Bool} : ∀ k, dcnt d k = 0 → ∀ i, i < k → d i = true
  | 0, _, i, hi => by omega
  | k + 1, h, i, hi => by
    cases hd : d i with
    | true => rfl
    | false => have := dcnt_one hd (k + 1) hi; omega
/-- A level that adds up to the estate. -/
structure LvE (zs : List Int) (E M K : Int) : Prop where
  m1 : 1 ≤ M
  m10 : M ≤ 10
  k0 : -100000 ≤ K
  k1 : K ≤ 100000
  sum : (zs.map fun c => mnI (c * M) K).sum = E * M
theorem LvE.le {zs : List Int} {E N L M K : Int} (h : Lev zs E N L) (k : LvE zs E M K) : ∀ c ∈ zs, mnI (c * N) L * M = mnI (c * M) K * N := by
  have hN := h.n1
  have hM := k.m1
  have s1 := h.sum
  have s2 := k.sum
  have e1 : (zs.map fun c => mnI (c * M) K * N).sum = E * M * N := by rw [sum_scale (f := fun c => mnI (c * M) K), s2]
  have e2 : (zs.map fun c => mnI (c * N) L * M).sum = E * N * M := by rw [sum_scale (f := fun c => mnI (c * N) L), s1]
  have e3 : E * N * M = E * M * N := by ac_rfl
  rcases Int.le_total (L * M) (K * N) with hc | hc
  · exact sum_eq_all (f := fun c => mnI (c * N) L * M) (g := fun c => mnI (c * M) K * N) (fun c _ => mn_mono hN hM hc) (by rw [e1, e2, e3]; exact Int.le_refl _)
  · exact fun c hc' => (sum_eq_all (f := fun c => mnI (c * M) K * N) (g := fun c => mnI (c * N) L * M) (fun c _ => mn_mono hM hN hc) (by rw [e1, e2, e3]; exact Int.le_refl _) c hc').symm
/-- What holds while the reference gives whole claims away. -/
structure EqS (zs : List Int) (E e : Int) (d : Nat → Bool) : Prop where
  est : e = E - dsum zs d zs.length
  e0 : 0 ≤ e
  ok : ∀ i, i < zs.length → d i = true → zs.getD i 0 * dcnt d zs.length ≤ e
theorem EqS.start {zs : List Int} {E : Int} (hE : 0 ≤ E) : EqS zs E E fun _ => false := ⟨by rw [dsum_none]; omega, hE, fun i _ h => by cases h⟩
theorem EqS.step {zs : List Int} {E e : Int} {d : Nat → Bool} (h : EqS zs E e d) (hz : ∀ z ∈ zs, 0 ≤ z) {i : Nat} (hi : i < zs.length) (hd : d i = false) (hle : zs.getD i 0 * dcnt d zs.length ≤ e) : EqS zs E (e - zs.getD i 0) (setT d i) := by
  have h1 := dcnt_one hd _ hi
  have z0 := hz _ (getz hi)
  have c1 : dcnt (setT d i) zs.length = dcnt d zs.length - 1 := by rw [dcnt_set d hd, if_pos hi]
  refine ⟨by rw [dsum_set zs d hd, if_pos hi, h.est]; omega, ?_, fun k hk hdk => ?_⟩
  · have : zs.getD i 0 * 1 ≤ zs.getD i 0 * dcnt d zs.length := Int.mul_le_mul_of_nonneg_left h1 z0
    omega
  · rw [c1]
    have hok := h.ok
    generalize dcnt d zs.length = t at *
    have hk0 := hz _ (getz hk)
    have e1 : zs.getD k 0 * (t - 1) = zs.getD k 0 * t - zs.getD k 0 := by rw [Int.mul_sub, Int.mul_one]
    have hkt : zs.getD k 0 * t ≤ e := by
      unfold setT at hdk
      by_cases ee : k = i
      · subst ee; exact hle
      · rw [if_neg ee] at hdk; exact hok k hk hdk
    rw [e1]
    generalize zs.getD k 0 = a at *
    generalize zs.getD i 0 = b at *
    rcases Int.le_total a b with hab | hab
    · have m1 : a * (t - 1) ≤ b * (t - 1) := Int.mul_le_mul_of_nonneg_right hab (by omega)
      rw [e1, Int.mul_sub, Int.mul_one] at m1
      omega
    · omega
def eqF (zs : List Int) (M K : Int) (i : Nat) : Int × Int := (redN (mnI (zs.getD i 0 * M) K) M, redD (mnI (zs.getD i 0 * M) K) M)
theorem EqS.fin {zs : List Int} {E e : Int} {d : Nat → Bool} (h : EqS zs E e d) (hV : Valid zs) (hE : 0 ≤ E ∧ E ≤ zs.sum) (hall : ∀ i, i < zs.length → d i = true ∨ e < zs.getD i 0 * dcnt d zs.length) :
    ∃ M K, LvE zs E M K ∧ (∀ i, i < zs.length → d i = true → eqF zs M K i = (zs.getD i 0, 1)) ∧ (∀ i, i < zs.length → d i = false → eqF zs M K i = (redN e (dcnt d zs.length), redD e (dcnt d zs.length))) := by
  have hc := dcnt_pos d zs.length
  have hS := sum_in hV
  have one : ∀ c M : Int, 1 ≤ M → redN (c * M) M = c ∧ redD (c * M) M = 1 := fun c M hM => by
    have := red_same (a := c * M) (b := M) (c := c) (d := 1) hM (by omega) (by rw [Int.mul_one])
    rw [(red_one c).1, (red_one c).2] at this
    exact this
  have hsm : ∀ k, 0 ≤ dsum zs d k := fun k => by
    induction k with
    | zero => exact Int.le_refl _
    | succ k ih =>
      show 0 ≤ dsum zs d k + (if d k then zs.getD k 0 else 0)
      split
      · rcases Nat.lt_or_ge k zs.length with hk | hk
        · have := (hV.2.2 _ (getz hk)).1; omega
        · rw [List.getD_eq_getElem?_getD, List.getElem?_eq_none hk]; simpa using ih
      · omega
  have heE : e ≤ E := by rw [h.est]; have := hsm zs.length; omega
  by_cases h0 : dcnt d zs.length = 0
  · have hd := dcnt_zero _ h0
    have hsum := dsum_all (zs := zs) (d := d) zs.length (Nat.le_refl _) hd
    rw [List.take_length] at hsum
    have heq : E = zs.sum := by have := h.est; have := h.e0; omega
    have hm : ∀ c ∈ zs, mnI (c * 1) 2000 = c := fun c hc' => by
      have := hV.2.2 c hc'
      rw [Int.mul_one]
      rcases mnI_cases c 2000 with ⟨_, e⟩ | ⟨_, e⟩
      · exact e
      · omega
    refine ⟨1, 2000, ⟨by omega, by omega, by omega, by omega, ?_⟩, fun i hi _ => ?_, fun i hi hf => by rw [hd i hi] at hf; cases hf⟩
    · rw [List.map_congr_left (g := fun c => c) hm, List.map_id', heq, Int.mul_one]
    · unfold eqF
      rw [hm _ (getz hi), (red_one _).1, (red_one _).2]
  · have h1 : 1 ≤ dcnt d zs.length := by omega
    have hval : ∀ i, i < zs.length → mnI (zs.getD i 0 * dcnt d zs.length) e = if d i then zs.getD i 0 * dcnt d zs.length else e := fun i hi => by
      cases hd : d i with
      | true =>
        have := h.ok i hi hd
        rw [if_pos rfl]
        rcases mnI_cases (zs.getD i 0 * dcnt d zs.length) e with ⟨_, e⟩ | ⟨_, e⟩ <;> omega
      | false =>
        have := (hall i hi).resolve_left (by rw [hd]; decide)
        rw [if_neg (by decide)]
        rcases mnI_cases (zs.getD i 0 * dcnt d zs.length) e with ⟨_, e⟩ | ⟨_, e⟩ <;> omega
    have hlen := hV.2.1
    refine ⟨dcnt d zs.length, e, ⟨h1, by omega, by have := h.e0; omega, by omega, ?_⟩, fun i hi hd => ?_, fun i hi hd => ?_⟩
    · have := dsum_final (zs := zs) (d := d) (g := fun c => mnI (c * dcnt d zs.length) e) (M := dcnt d zs.length) (K := e) zs.length (Nat.le_refl _) hval
      rw [List.take_length] at this
      rw [this, Int.mul_comm (dcnt d zs.length) e, ← Int.add_mul]
      congr 1
      have := h.est
      omega
    · unfold eqF
      rw [hval i hi, hd, if_pos rfl, (one _ _ h1).1, (one _ _ h1).2]
    · unfold eqF
      rw [hval i hi, hd, if_neg (by decide)]
end Go.Proofs.Ytbocmbhinjkjlaa
set_option linter.unusedSimpArgs false
set_option linter.unusedVariables false
namespace Go.Proofs.Ytbocmbhinjkjlaa
open Go Go.Proofs Go.RowKit Go.Seq Go.Sort
set_option maxHeartbeats 4000000 in
set_option maxRecDepth 100000 in
theorem refEqual_any {v : Value} {zs : List Int} {E : Int} {w : World} (hc : IntsO w v zs) (hV : Valid zs) (hE : 0 ≤ E ∧ E ≤ zs.sum) :
    Calls Try.prog 66 #[v, .int .i64 E] w fun e w' => ∃ (G : Nat) (M K : Int), e = .returned (.slice (some ⟨G, 0, none⟩) zs.length zs.length) ∧ LvE zs E M K ∧ w.heap.size ≤ G ∧ RowF w' G zs.length (eqF zs M K) zs.length ∧ Below w.heap.size w w' := by
  have hS := sum_in hV
  have hVK := Keep.mk hV
  have hEK := Keep.mk hE
  obtain ⟨A, cap, rfl, hcell⟩ := hc
  have hcK := Keep.mk hcell
  obtain ⟨n, hn⟩ : ∃ n, Keep (zs.length = n) := ⟨_, ⟨rfl⟩⟩
  have hn10 : n ≤ 10 := by have := hV.2.1; have := hn.out; omega
  obtain ⟨w1, hw1⟩ : ∃ w1, w.alloc (.cells (fracZ n) 37) = w1 := ⟨_, rfl⟩
  obtain ⟨w2, hw2⟩ : ∃ w2, w1.alloc (.cells (boolZ n) 4) = w2 := ⟨_, rfl⟩
  have hmkA : (Sem.run Try.prog (Instr.makeSlice 24 (.int .i64 (n : Int)) (.int .i64 (n : Int)))) w = .ok (.slice (some ⟨w.heap.size, 0, none⟩) n n) w1 := by rw [← hw1]; exact made24 (by omega) w
  have hmkB : (Sem.run Try.prog (Instr.makeSlice 112 (.int .i64 (n : Int)) (.int .i64 (n : Int)))) w1 = .ok (.slice (some ⟨w1.heap.size, 0, none⟩) n n) w2 := by rw [← hw2]; exact made112 (by omega) w1
  have hp1 : RowP w1 w.heap.size n (fun _ => false) (fun i => (zs.getD i 0, 1)) := by rw [← hw1]; exact RowP.start
  have hb1 : Below w.heap.size w w1 := by rw [← hw1]; exact (Below.refl _ _).alloc (Nat.le_refl _) _
  have hb2 : Below w1.heap.size w1 w2 := by rw [← hw2]; exact (Below.refl _ _).alloc (Nat.le_refl _) _
  have hq2 : RowB w2 w1.heap.size n (fun _ => false) := by rw [← hw2]; exact RowB.start
  have hp2 := hp1.after hb2
  have hbw2 := hb1.trans (hb2.mono hb1.size)
  have hsz : w1.heap.size = w.heap.size + 1 := by rw [← hw1]; simp
  obtain ⟨G, hG⟩ : ∃ G, Keep (w.heap.size = G) := ⟨_, ⟨rfl⟩⟩
  obtain ⟨Gd, hGd⟩ : ∃ Gd, Keep (w1.heap.size = Gd) := ⟨_, ⟨rfl⟩⟩
  have hne : ¬ G = Gd := by have := hG.out; have := hGd.out; omega
  have hne2 : ¬ Gd = G := fun e => hne e.symm
  have hGG : G ≤ Gd := by have := hG.out; have := hGd.out; omega
  rw [hG.out] at hp2 hmkA
  rw [hGd.out] at hq2 hmkB
  rw [hn.out]
  have hst0 : Keep (EqS zs E E fun _ => false) := ⟨EqS.start hE.1⟩
  clear hcell hV hE hp1 hb1 hb2 hw1 hw2 hsz
  go_enter Try.func66, Try.ntmps66
  go_wp2
  go_loopw [1, 7, 8] (fun ev lv iv wr => ∃ (d : Nat → Bool) (i : Nat) (e : Int), i ≤ n ∧ iv = .int .i64 i ∧ ev = .int .i64 e ∧ lv = .int .i64 (dcnt d n) ∧ Keep (EqS zs E e d) ∧ Keep (∀ k, k < i → d k = true ∨ e < zs.getD k 0 * dcnt d n) ∧ Below w.heap.size w wr ∧ RowP wr G n d (fun i => (zs.getD i 0, 1)) ∧ RowB wr Gd n d) (fun _ lv iv _ => (intOf lv).toNat * (n + 1) + (n - (intOf iv).toNat))
  case atStart => exact ⟨fun _ => false, 0, E, by omega, rfl, rfl, by rw [dcnt_none], hst0, ⟨fun k hk => by omega⟩, hbw2, hp2, hq2⟩
  case round =>
    obtain ⟨d, i, e, hi, rfl, rfl, rfl, hst, hall, hbw, hp, hq⟩ := hrel
    have hcb := dcnt_pos d n
    have heb : 0 ≤ e ∧ e ≤ 10000 := by
      have h1 := hst.out.e0
      refine ⟨h1, ?_⟩
      have hs : 0 ≤ dsum zs d zs.length := by
        have : ∀ k, 0 ≤ dsum zs d k := fun k => by
          induction k with
          | zero => exact Int.le_refl _
          | succ k ih =>
            show 0 ≤ dsum zs d k + (if d k then zs.getD k 0 else 0)
            split
            · rcases Nat.lt_or_ge k zs.length with hk | hk
              · have := (hVK.out.2.2 _ (getz hk)).1; omega
              · rw [List.getD_eq_getElem?_getD, List.getElem?_eq_none hk]; simpa using ih
            · omega
        exact this _
      have h2 := hst.out.est
      have := hEK.out
      omega
    by_cases hin : i < n
    · have hin' : (i : Int) < (n : Int) := by omega
      have hil : i < zs.length := by have := hn.out; omega
      obtain ⟨gz, oz, rfl, hz0⟩ := hcK.out i hil
      have hz := cell_below hz0 hbw
      have hzb := hVK.out.2.2 _ (getz hil)
      have hdc := hq.cell hin
      obtain ⟨t, ht⟩ : ∃ t, Keep (dcnt d n = t) := ⟨_, ⟨rfl⟩⟩
      rw [ht.out] at hcb ⊢
      have hmul := mul_in (a := zs.getD i 0) (b := t) (A := 1000) (B := 10) hzb.1 hzb.2 (by omega) (by omega)
      obtain ⟨P, hP⟩ : ∃ P, Keep (zs.getD i 0 * t = P) := ⟨_, ⟨rfl⟩⟩
      have wP : IntKind.i64.wrap (zs.getD i 0 * t) = P := by rw [← hP.out]; exact IntWalk.i64_in _ (by have := hP.out; omega)
      have hgo : Keep (d i = true ∨ e < P → ∀ k, k < i + 1 → d k = true ∨ e < zs.getD k 0 * dcnt d n) := ⟨fun h k hk => by
        rcases Nat.lt_or_ge k i with h' | h'
        · exact hall.out k h'
        · obtain rfl : k = i := by omega
          rw [ht.out, hP.out]; exact h⟩
      cases hd : d i with
      | true =>
        rw [hd] at hdc
        have hgo := Keep.mk (hgo.out (.inl hd))
        have hdK := Keep.mk hd
        have htK := ht
        generalize zs.getD i 0 = c at *
        clear hzb hmul hd
        go_wp2
        exact ⟨⟨d, i + 1, e, by omega, by go_num, rfl, by rw [htK.out], hst, hgo, hbw, hp, hq⟩, by simp [intOf]; omega⟩
      | false =>
        rw [hd] at hdc
        by_cases hgt : e < P
        · have hgo := Keep.mk (hgo.out (.inr hgt))
          have hdK := Keep.mk hd
          have htK := ht
          generalize zs.getD i 0 = c at *
          clear hzb hmul hd
          go_wp2
          exact ⟨⟨d, i + 1, e, by omega, by go_num, rfl, by rw [htK.out], hst, hgo, hbw, hp, hq⟩, by simp [intOf]; omega⟩
        · have hge : P ≤ e := by omega
          have hst2 := Keep.mk (hst.out.step (fun z hz => (hVK.out.2.2 z hz).1) hil hd (by rw [hn.out, ht.out, hP.out]; exact hge))
          have hc2 : Keep (dcnt (setT d i) n = t - 1) := ⟨by rw [dcnt_set d hd, if_pos hin, ht.out]⟩
          have ht1 : 1 ≤ t := by rw [← ht.out]; exact dcnt_one hd n hin
          have q29 := fun w => refWhole_any (zs.getD i 0) w
          unfold fracV at q29
          have wt : IntKind.i64.wrap (t - 1) = t - 1 := IntWalk.i64_in _ (by omega)
          have we : IntKind.i64.wrap (e - zs.getD i 0) = e - zs.getD i 0 := IntWalk.i64_in _ (by omega)
          have hq2 := hq.set hin
          have hpo := hp.other (p := ⟨Gd, i, none⟩) (by exact hne) (.bool true)
          have hbo := hbw.setCell (p := ⟨Gd, i, none⟩) (by show w.heap.size ≤ Gd; have := hG.out; omega) (.bool true)
          have hfz := hq.can (i := i)
          have hpset := fun W (h : RowP W G n d fun i => (zs.getD i 0, 1)) => h.set hin (zs.getD i 0) 1 rfl
          have hzo : ∀ W, Below w.heap.size w W → W.cell? ⟨gz, oz + i, none⟩ = some (.int .i64 (zs.getD i 0)) := fun W hb => cell_below hz0 hb
          have hGle : w.heap.size ≤ G := by have := hG.out; omega
          obtain ⟨c, hc⟩ : ∃ c, Keep (zs.getD i 0 = c) := ⟨_, ⟨rfl⟩⟩
          rw [hc.out] at hz hzb wP q29 we hpset hzo
          have hst2' : Keep (EqS zs E (e - c) (setT d i)) := ⟨by rw [← hc.out]; exact hst2.out⟩
          obtain ⟨wb, hwb⟩ : ∃ wb, wr.setCell ⟨Gd, i, none⟩ (.bool true) = wb := ⟨_, rfl⟩
          rw [hwb] at hq2 hpo hbo
          have hzB := hzo _ hbo
          clear hmul hd hst2 hst hall hgo hz0
          go_wp2_with (go_at_call 29; (with_reducible refine (q29 _).mono ?_); rintro e' w5 ⟨rfl, hb5⟩
                       have hp5 := hpo.after hb5
                       have hq5 := hq2.after hb5
                       have hb05 := hbo.trans (hb5.mono hbo.size)
                       have hz5 := hzo _ ((hb05.setCell (p := ⟨G, i * 2, none⟩) hGle (.int .i64 c)).setCell (p := ⟨G, i * 2 + 1, none⟩) hGle (.int .i64 1))
                       obtain ⟨⟨u0, hu0⟩, hf0⟩ := hp5.can (i := i * 2) (by omega)
                       obtain ⟨⟨u1, hu1⟩, hf1⟩ := hp5.can (i := i * 2 + 1) (by omega)
                       have hps := hpset _ hp5
                       have hqs := (hq5.other (p := ⟨G, i * 2, none⟩) (by exact hne2) (.int .i64 c)).other (p := ⟨G, i * 2 + 1, none⟩) (by exact hne2) (.int .i64 1)
                       have hbs := (hb05.setCell (p := ⟨G, i * 2, none⟩) hGle (.int .i64 c)).setCell (p := ⟨G, i * 2 + 1, none⟩) hGle (.int .i64 1)
                       clear hb5)
          exact ⟨⟨setT d i, 0, e - c, by omega, rfl, by first | rfl | simp, by rw [hc2.out], hst2', ⟨fun k hk => by omega⟩, hbs, hps, hqs⟩, by
            simp only [intOf]
            have e1 : t.toNat = (t - 1).toNat + 1 := by omega
            rw [e1, Nat.add_mul]
            omega⟩
    · obtain rfl : n = i := by omega
      have hall2 : ∀ i, i < zs.length → d i = true ∨ e < zs.getD i 0 * dcnt d zs.length := fun k hk => by
        have h := hall.out k (by have := hn.out; omega)
        rwa [hn.out]
      obtain ⟨M, K, hlv, hy, hno⟩ := hst.out.fin hVK.out hEK.out hall2
      have hlvK := Keep.mk hlv
      have hpE : RowP wr G n (fun k => d k || decide (k < 0)) (eqF zs M K) := hp.ext fun k hk hd => by
        have hd : d k = true := by simpa using hd
        exact ⟨hd, (hy k (by have := hn.out; omega) hd).symm⟩
      have hyK := Keep.mk hy
      have hnoK := Keep.mk hno
      have hone : ∀ k, k < n → d k = false → 1 ≤ dcnt d n := fun k hk h => dcnt_one h n hk
      obtain ⟨wo, rfl⟩ : ∃ x, x = wr := ⟨_, rfl⟩
      have hGle : w.heap.size ≤ G := by have := hG.out; omega
      clear hst hall hall2 hy hno hlv hp
      go_wp2
      go_loopw [9] (fun jv wr => ∃ j : Nat, j ≤ n ∧ jv = .int .i64 j ∧ Below w.heap.size w wr ∧ RowP wr G n (fun k => d k || decide (k < j)) (eqF zs M K) ∧ RowB wr Gd n d) (fun jv _ => n - (intOf jv).toNat)
      case atStart => exact ⟨0, by omega, rfl, hbw, hpE, hq⟩
      case round =>
        obtain ⟨j, hj, rfl, hbq, hpj, hqj⟩ := hrel
        by_cases hjn : j < n
        · have hjn' : (j : Int) < (n : Int) := by omega
          have hdc := hqj.cell hjn
          cases hd : d j with
          | true =>
            rw [hd] at hdc
            have hp2 : RowP wr G n (fun k => d k || decide (k < j + 1)) (eqF zs M K) := hpj.ext fun k hk h => ⟨by
              by_cases e : k = j
              · subst e; rw [hd]; rfl
              · rw [Bool.or_eq_true, decide_eq_true_eq] at h ⊢
                rcases h with h | h
                · exact .inl h
                · exact .inr (by omega), rfl⟩
            clear hd
            go_wp2
            exact ⟨⟨j + 1, by omega, by go_num, hbq, hp2, hqj⟩, by simp [intOf]; omega⟩
          | false =>
            rw [hd] at hdc
            have h1 := hone j hjn hd
            have hv := hnoK.out j (by have := hn.out; omega) hd
            rw [hn.out] at hv
            have q60 := fun w => reduced_any e (dcnt d n) (by omega) (by omega) h1 (by omega) w
            have hset := fun W (h : RowP W G n (fun k => d k || decide (k < j)) (eqF zs M K)) => h.set hjn _ _ hv
            have hext : ∀ W, RowP W G n (setT (fun k => d k || decide (k < j)) j) (eqF zs M K) → RowP W G n (fun k => d k || decide (k < j + 1)) (eqF zs M K) := fun W h => h.ext fun k hk h => ⟨by
              unfold setT
              by_cases e : k = j
              · rw [if_pos e]
              · rw [if_neg e]
                rw [Bool.or_eq_true, decide_eq_true_eq] at h ⊢
                rcases h with h | h
                · exact .inl h
                · exact .inr (by omega), rfl⟩
            generalize dcnt d n = t at *
            obtain ⟨x0, hx0⟩ : ∃ x, Keep (redN e t = x) := ⟨_, ⟨rfl⟩⟩
            obtain ⟨x1, hx1⟩ : ∃ x, Keep (redD e t = x) := ⟨_, ⟨rfl⟩⟩
            rw [hx0.out, hx1.out] at q60 hset
            unfold fracV at q60
            clear hd hv hx0 hx1
            go_wp2_with (go_at_call 60; (with_reducible refine (q60 _).mono ?_); rintro e' w5 ⟨rfl, hb5⟩
                         have hp5 := hpj.after hb5
                         have hq5 := hqj.after hb5
                         have hb05 := hbq.trans (hb5.mono hbq.size)
                         obtain ⟨⟨u0, hu0⟩, hf0⟩ := hp5.can (i := j * 2) (by omega)
                         obtain ⟨⟨u1, hu1⟩, hf1⟩ := hp5.can (i := j * 2 + 1) (by omega)
                         have hps := hext _ (hset _ hp5)
                         have hqs := (hq5.other (p := ⟨G, j * 2, none⟩) (by exact hne2) (.int .i64 x0)).other (p := ⟨G, j * 2 + 1, none⟩) (by exact hne2) (.int .i64 x1)
                         have hbs := (hb05.setCell (p := ⟨G, j * 2, none⟩) hGle (.int .i64 x0)).setCell (p := ⟨G, j * 2 + 1, none⟩) hGle (.int .i64 x1)
                         clear hb5)
            exact ⟨⟨j + 1, by omega, by go_num, hbs, hps, hqs⟩, by simp [intOf]; omega⟩
        · obtain rfl : n = j := by omega
          go_wp2
          go_ret
          exact ⟨G, M, K, rfl, hlvK.out, hGle, hpj.full (fun i hi => by simp [hi]), hbq⟩
end Go.Proofs.Ytbocmbhinjkjlaa
set_option linter.unusedSimpArgs false
set_option linter.unusedVariables false
namespace Go.Proofs.Ytbocmbhinjkjlaa
open Go Go.Proofs Go.RowKit Go.Seq Go.Sort
theorem own_aft {W W' : World} {B n : Nat} {v : Value} {xs : List Value} (h : W.ownsRow B 37 2 v n xs) (hb : Below W.heap.size W W') : W'.ownsRow B 37 2 v n xs := by
  obtain ⟨h1, h2⟩ := h
  refine ⟨h1, ?_⟩
  rcases h2 with h | ⟨g, cap, cur, hv, hg, hh, r⟩
  · exact .inl h
  · exact .inr ⟨g, cap, cur, hv, hg, (hb.block _ (Array.getElem?_eq_some_iff.1 hh).1).trans hh, r⟩
theorem own_shp {W : World} {B n : Nat} {v : Value} {xs : List Value} (h : W.ownsRow B 37 2 v n xs) : ∃ C c, v = .slice C n c := by
  rcases h.2 with ⟨rfl, rfl⟩ | ⟨g, cap, cur, rfl, _⟩
  · exact ⟨none, 0, rfl⟩
  · exact ⟨_, cap, rfl⟩
/-- Operation c is a call that hides its result; operation L stores into the variable p; lt is what hangs on c. -/
structure QcI (W0 : World) (B c L : Nat) (lt : List Nat) (p : Nat) (old new : Array Value) (R : Nat → World → Prop) (t : Nat → Bool) (G : Nat) (W : World) : Prop where
  bw : Below B W0 W
  size : W0.heap.size ≤ W.heap.size
  res : t c = true → R G W
  late : ∀ i, lt.contains i = true → t i = true → t c = true
  var : BlkAt W p (if t L = true then new else old) 37
section
variable {W0 W W' : World} {B c L i p G : Nat} {lt : List Nat} {old new : Array Value} {R : Nat → World → Prop} {t : Nat → Bool}
theorem QcI.start (hv : BlkAt W0 p old 37) (hc : t c = false) (hL : t L = false) (hl : ∀ i, lt.contains i = true → t i = false) : QcI W0 B c L lt p old new R t G W0.drew :=
  ⟨(Below.refl _ _).drew, Nat.le_refl _, (fun k => by rw [hc] at k; cases k), (fun i hi k => by rw [hl i hi] at k; cases k), by rw [hL]; exact hv⟩
theorem QcI.keep (hi : lt.contains i = false) (hc : i ≠ c) (hL : i ≠ L) (h : QcI W0 B c L lt p old new R t G W) : QcI W0 B c L lt p old new R (Manyd.upd t i) G W :=
  ⟨h.bw, h.size, by rw [upd_off hc]; exact h.res, fun j hj k => by
    have hji : i ≠ j := fun e => by subst e; rw [hi] at hj; cases hj
    rw [upd_off hji] at k
    rw [upd_off hc]; exact h.late j hj k, by rw [upd_off hL]; exact h.var⟩
theorem QcI.post (ht : t c = true) (hc : i ≠ c) (hL : i ≠ L) (h : QcI W0 B c L lt p old new R t G W) : QcI W0 B c L lt p old new R (Manyd.upd t i) G W :=
  ⟨h.bw, h.size, by rw [upd_off hc]; exact h.res, fun j hj k => by rw [upd_off hc]; exact ht, by rw [upd_off hL]; exact h.var⟩
theorem QcI.callk (ht : t c = true) (hc : i ≠ c) (hL : i ≠ L) (hr : R G W → R G W') (hb : Below W.heap.size W W') (hB : B ≤ W0.heap.size) (h : QcI W0 B c L lt p old new R t G W) : QcI W0 B c L lt p old new R (Manyd.upd t i) G W' :=
  ⟨h.bw.trans (hb.mono (Nat.le_trans hB h.size)), Nat.le_trans h.size hb.size, by rw [upd_off hc]; exact fun k => hr (h.res k), fun j hj k => by rw [upd_off hc]; exact ht, by rw [upd_off hL]; exact h.var.after hb⟩
theorem QcI.call {G' : Nat} (hL : c ≠ L) (hr : R G' W') (hb : Below W.heap.size W W') (hB : B ≤ W0.heap.size) (h : QcI W0 B c L lt p old new R t G W) : QcI W0 B c L lt p old new R (Manyd.upd t c) G' W' :=
  ⟨h.bw.trans (hb.mono (Nat.le_trans hB h.size)), Nat.le_trans h.size hb.size, fun _ => hr, fun j hj k => upd_on, by rw [upd_off hL]; exact h.var.after hb⟩
theorem QcI.no (j : Nat) (h : QcI W0 B c L lt p old new R t G W) (hc : t c = false) (hj : lt.contains j = true) : t j = false := by
  cases e : t j with
  | false => rfl
  | true => rw [h.late j hj e] at hc; cases hc
theorem QcI.set {x y : Value} {o0 o1 : Value} (ht : t c = true) (hc : L ≠ c) (hun : t L = false) (hp : B ≤ p) (hR : R G W → R G ((W.setCell ⟨p, 0, none⟩ x).setCell ⟨p, 1, none⟩ y)) (h : QcI W0 B c L lt p #[o0, o1] #[x, y] R t G W) : QcI W0 B c L lt p #[o0, o1] #[x, y] R (Manyd.upd t L) G ((W.setCell ⟨p, 0, none⟩ x).setCell ⟨p, 1, none⟩ y) := by
  have hv := h.var
  rw [hun] at hv
  refine ⟨(h.bw.setCell (p := ⟨p, 0, none⟩) hp _).setCell (p := ⟨p, 1, none⟩) hp _, by simpa [World.setCell] using h.size, by rw [upd_off hc]; exact fun k => hR (h.res k), fun j hj k => by rw [upd_off hc]; exact ht, ?_⟩
  rw [if_pos upd_on]
  exact (hv.set 0 x).set 1 y
theorem QcI.own {x0 y0 : Value} (h : QcI W0 B c L lt p #[x0, y0] new R t G W) (hL : t L = false) : Own2 W p x0 y0 := by
  have := h.var
  rw [hL] at this
  exact Own2.of this
end
theorem RowF.other {W : World} {G n k : Nat} {f : Nat → Int × Int} (h : RowF W G n f k) {p : Addr} (hp : G ≠ p.block) (v : Value) : RowF (W.setCell p v) G n f k := by
  obtain ⟨arr, h1, h2, h3⟩ := h
  exact ⟨arr, h1.other hp v, h2, h3⟩
/-- equal of the reference, by the level of the program. -/
def lvF (zs : List Int) (N L : Int) (i : Nat) : Int × Int := (redN (mnI (zs.getD i 0 * N) L) N, redD (mnI (zs.getD i 0 * N) L) N)
theorem refEqual_lev {v : Value} {zs : List Int} {T N L : Int} {w : World} (hc : IntsO w v zs) (hV : Valid zs) (hT : 0 ≤ T ∧ T ≤ zs.sum) (hl : Lev zs T N L) :
    Calls Try.prog 66 #[v, .int .i64 T] w fun e w' => ∃ (G : Nat), e = .returned (.slice (some ⟨G, 0, none⟩) zs.length zs.length) ∧ w.heap.size ≤ G ∧ RowF w' G zs.length (lvF zs N L) zs.length ∧ Below w.heap.size w w' := by
  refine (refEqual_any hc hV hT).mono ?_
  rintro e w' ⟨G, M, K, rfl, h1, h2, h3, h4⟩
  refine ⟨G, rfl, h2, h3.ext fun i hi => ?_, h4⟩
  have := h1.le hl _ (getz (zs := zs) hi)
  have k := red_same (a := mnI (zs.getD i 0 * M) K) (b := M) (c := mnI (zs.getD i 0 * N) L) (d := N) h1.m1 hl.n1 this.symm
  unfold eqF lvF
  rw [k.1, k.2]
end Go.Proofs.Ytbocmbhinjkjlaa
set_option linter.unusedSimpArgs false
set_option linter.unusedVariables false
namespace Go.Proofs.Ytbocmbhinjkjlaa
open Go Go.Proofs Go.RowKit Go.Seq Go.Sort
set_option maxHeartbeats 8000000 in
set_option maxRecDepth 100000 in
theorem refAward0p {v : Value} {zs : List Int} {E N L : Int} {w : World} (hc : IntsO w v zs) (hV : Valid zs) (hE : 0 ≤ E ∧ E ≤ zs.sum) (hLR : LevR 0 zs E N L) (hc0 : 0 < zs.sum) :
    Calls Try.prog 26 #[.int .i64 0, v, .int .i64 E] w fun e w' => ∃ v', e = .returned v' ∧ w'.ownsRow w.heap.size 37 2 v' zs.length (enc2 (awL 0 zs E N L)) ∧ Below w.heap.size w w' := by
  obtain ⟨i0, hi0, hz0, hz1, hz2⟩ := info_parts info37
  have hS := sum_in hV
  have hVK := Keep.mk hV
  have hEK := Keep.mk hE
  have hcI := Keep.mk hc
  have q65 := total_any hc hV.2.1 hV.2.2
  obtain ⟨A, cap, rfl, hcell⟩ := hc
  have hcK := Keep.mk hcell
  obtain ⟨n, hn⟩ : ∃ n, Keep (zs.length = n) := ⟨_, ⟨rfl⟩⟩
  have hn10 : n ≤ 10 := by have := hV.2.1; have := hn.out; omega
  have hBd := Keep.mk (fun c hc => aw_Bd (r := 0) (c := c) (by omega) hV hE hLR hc)
  obtain ⟨aw, haw⟩ : ∃ aw, Keep (awL 0 zs E N L = aw) := ⟨_, ⟨rfl⟩⟩
  have hal : aw.length = n := by rw [← haw.out, awL_len]; exact hn.out
  have halK := Keep.mk hal
  have hLK := Keep.mk hLR
  rw [hn.out] at q65 hcI ⊢
  rw [haw.out]
  have hfv : Keep (∀ i, i < n → aw.getD i (0, 0) = (redN (zs.getD i 0 * E) (awD 0 zs.sum N), redD (zs.getD i 0 * E) (awD 0 zs.sum N))) := ⟨fun i hi => by rw [← haw.out, awL_get (by have := hn.out; omega)]; rfl⟩
  obtain ⟨S, hSS⟩ : ∃ S, Keep (zs.sum = S) := ⟨_, ⟨rfl⟩⟩
  rw [hSS.out] at q65 hE hS hfv hBd hc0
  have hD0 : Keep (awD 0 S N = S) := ⟨by show (if 1 < S then S else 1) = S; split <;> omega⟩
  rw [hD0.out] at hfv hBd
  have q290 := fun w => refWhole_any 0 w
  unfold fracV at q290
  clear hcell hV hLR hal
  go_enter Try.func26, Try.ntmps26
  go_wp2_with (go_at_call 65; (with_reducible refine q65.mono ?_); rintro e w1 ⟨rfl, rfl⟩)
  go_loopw [8, 9] (fun s iv wr => ∃ k : Nat, k ≤ n ∧ iv = .int .i64 k ∧ (∃ C c, s = .slice C k c) ∧ Keep (wr.ownsRow w1.heap.size 37 2 s k (enc2 (aw.take k))) ∧ Below w1.heap.size w1 wr) (fun _ iv _ => n - (intOf iv).toNat)
  case atStart => exact ⟨0, by omega, rfl, ⟨none, 0, rfl⟩, ⟨World.ownsRow_nil _ _ _ _⟩, Below.refl _ _⟩
  case round =>
    obtain ⟨k, hk, rfl, ⟨C, cc, rfl⟩, hown, hbw⟩ := hrel
    have hbz := hbw.size
    by_cases hkn : k < n
    · have hkn' : (k : Int) < (n : Int) := by omega
      have hkl : k < zs.length := by have := hn.out; omega
      obtain ⟨gz, oz, rfl, hz00⟩ := hcK.out k hkl
      have hz := cell_below hz00 hbw
      have hcm := getz (zs := zs) hkl
      have hzb := hVK.out.2.2 _ hcm
      have hfk := Keep.mk (hfv.out k hkn)
      have hBc := hBd.out _ hcm
      have htk : Keep (aw.take (k + 1) = aw.take k ++ [aw.getD k (0, 0)]) := ⟨by
        rw [List.take_add_one, List.getElem?_eq_getElem (by have := halK.out; omega)]
        simp [List.getD, halK.out, hkn]⟩
      have hIn := fun W (hb : Below wr.heap.size wr W) => intsO_below hcI.out (hbw.trans (hb.mono hbz))
      skip
      generalize zs.getD k 0 = c at *
      have Bc : Bd c 1 := ⟨by omega, by omega, by omega, by omega⟩
      have q29c := fun w => refWhole_any c w
      unfold fracV at q29c
      have hmul := mul_in (a := c) (b := E) (A := 1000) (B := 10000) hzb.1 hzb.2 (by omega) (by omega)
      obtain ⟨P, hP⟩ : ∃ P, Keep (c * E = P) := ⟨_, ⟨rfl⟩⟩
      have wP : IntKind.i64.wrap (c * E) = P := by rw [← hP.out]; exact IntWalk.i64_in _ (by have := hP.out; omega)
      rw [hP.out] at hmul hfk
      have q60 := fun w => reduced_any P S (by omega) (by omega) (by omega) (by omega) w
      obtain ⟨u0, hu0⟩ : ∃ z, Keep (redN (P) (S) = z) := ⟨_, ⟨rfl⟩⟩
      obtain ⟨u1, hu1⟩ : ∃ z, Keep (redD (P) (S) = z) := ⟨_, ⟨rfl⟩⟩
      rw [hu0.out, hu1.out] at hfk
      have hmap : Keep (∀ (W : World) (v' : Value), W.ownsRow w1.heap.size 37 2 v' (k + 1) (enc2 (aw.take k) ++ [.int .i64 u0, .int .i64 u1]) → W.ownsRow w1.heap.size 37 2 v' (k + 1) (enc2 (aw.take (k + 1)))) := ⟨fun W v' h => by rw [htk.out, hfk.out, enc2_push]; exact h⟩
      rw [hu0.out, hu1.out] at q60
      unfold fracV at q60
      clear hmul hP hu0 hu1
      clear hcm hBc Bc hz00
      obtain ⟨wi, hwi⟩ : ∃ x, x = wr := ⟨_, rfl⟩
      subst hwi
      go_wp2_with (first
        | (go_at_call 29; (with_reducible refine (q29c _).mono ?_); rintro e w5 ⟨rfl, hb5⟩
           obtain ⟨w6, hw6⟩ : ∃ w6, w5.alloc (.cells #[.int .i64 c, .int .i64 1] 37) = w6 := ⟨_, rfl⟩
           have hb6 : Below w5.heap.size w5 w6 := by rw [← hw6]; exact (Below.refl _ _).alloc (Nat.le_refl _) _
           have o10 : Own2 w6 w5.heap.size (.int .i64 c) (.int .i64 1) := by rw [← hw6]; exact Own2.new _ _ _ _
           have hbr6 := hb5.trans (hb6.mono hb5.size)
           have hg10 : w5.heap.size < w6.heap.size := o10.lt
           clear hb5 hb6 q29c)
        | (go_at_call 29; (with_reducible refine (q290 _).mono ?_); rintro e w7 ⟨rfl, hb7⟩
           obtain ⟨w8, hw8⟩ : ∃ w8, w7.alloc (.cells #[.int .i64 0, .int .i64 1] 37) = w8 := ⟨_, rfl⟩
           have hb8 : Below w7.heap.size w7 w8 := by rw [← hw8]; exact (Below.refl _ _).alloc (Nat.le_refl _) _
           have b11 : BlkAt w8 w7.heap.size #[.int .i64 0, .int .i64 1] 37 := by rw [← hw8]; exact BlkAt.new _ _ _
           have o10 := (o10.after hb7).after hb8
           have hbr7 := hbr6.trans (hb7.mono hbr6.size)
           have hbr8 := hbr7.trans (hb8.mono hbr7.size)
           have hg11 : wi.heap.size ≤ w7.heap.size := hbr7.size
           have hne : ¬ w5.heap.size = w7.heap.size := by have := hb7.size; omega
           have hz8 := cell_below hz hbr8
           have hg57 : w5.heap.size < w7.heap.size := Nat.lt_of_lt_of_le hg10 hb7.size
           have hp8 : w7.heap.size < w8.heap.size := b11.lt
           clear hb7 hb8 q290)
        | (go_at_call 60; (with_reducible refine (q60 _).mono ?_); rintro e w9 ⟨rfl, hb9⟩
           have hbr9 := hbr8.trans (hb9.mono hbr8.size)
           have b11 := b11.after hb9
           obtain ⟨c110, c111, f110, f111⟩ := Own2.of b11
           obtain ⟨wx, hwx⟩ : ∃ wx, (w9.setCell ⟨w7.heap.size, 0, none⟩ (.int .i64 u0)).setCell ⟨w7.heap.size, 1, none⟩ (.int .i64 u1) = wx := ⟨_, rfl⟩
           have ox : Own2 wx w7.heap.size (.int .i64 u0) (.int .i64 u1) := by rw [← hwx]; exact Own2.of ((b11.set 0 _).set 1 _)
           have hbrx : Below wi.heap.size wi wx := by rw [← hwx]; exact (hbr9.setCell (p := ⟨w7.heap.size, 0, none⟩) hg11 _).setCell (p := ⟨w7.heap.size, 1, none⟩) hg11 _
           obtain ⟨wy, hwy⟩ : ∃ wy, wx.alloc (.cells #[.int .i64 u0, .int .i64 u1] 37) = wy := ⟨_, rfl⟩
           have hby : Below wx.heap.size wx wy := by rw [← hwy]; exact (Below.refl _ _).alloc (Nat.le_refl _) _
           have hbry := hbrx.trans (hby.mono hbrx.size)
           have hownY := own_aft hown.out hbry
           have hbY := hbw.trans (hbry.mono hbz)
           have hszY := hbY.size
           have hcY : ∀ j u, ([.int .i64 u0, .int .i64 u1] : List Value)[j]? = some u → wy.cell? ((⟨wx.heap.size, 0, none⟩ : Addr).add j) = some u := by
             intro j u hj
             rw [plain_add, Nat.zero_add, ← hwy, (BlkAt.new wx #[.int .i64 u0, .int .i64 u1] 37).cell]
             match j, hj with
             | 0, hj => simpa using hj
             | 1, hj => simpa using hj
             | j + 2, hj => simp at hj
           obtain ⟨cx0, cx1, fx0, fx1⟩ := ox
           clear hb9 q60)
        | (at_builtin; go_loud (
           refine wpList_append_own _ rfl _ _ 24 rfl w1.heap.size 37 i0 (.agg #[.int .i64 0, .int .i64 0]) 2 16 ty24 hi0 hz0 hz1 hz2 rfl (by decide) _ k (enc2 (aw.take k)) rfl hownY ⟨wx.heap.size, 0, none⟩ 1 1 [.int .i64 u0, .int .i64 u1] rfl rfl hcY (fun u hu => by simp only [List.mem_cons, List.not_mem_nil, or_false] at hu; rcases hu with rfl | rfl <;> rfl) (by unfold maxLen; omega) (by omega) hszY ?_
           intro v' w3 hown' hgrow3 hnil3
           have hbw3 : Below w1.heap.size w1 w3 := hbY.grown hgrow3 hszY (fun q hq => by
             rcases hownY.2 with ⟨h, _⟩ | ⟨gg, cc, cur, hh, hg', _⟩
             · injection h with h1 _ _; subst h1; cases hq
             · injection hh with h1 _ _; subst h1; cases hq; exact hg')
           have hres := hmap.out _ _ hown'
           obtain ⟨C6, c6, rfl⟩ := own_shp hres
           have hownK := Keep.mk hres
           clear hown' hres)))
      exact ⟨⟨k + 1, by omega, by go_num, ⟨C6, c6, rfl⟩, hownK, hbw3⟩, by simp [intOf]; omega⟩
    · obtain rfl : n = k := by omega
      have htake : aw.take n = aw := List.take_of_length_le (by have := halK.out; omega)
      have hown := hown.out
      rw [htake] at hown
      go_wp2
      go_ret
      exact ⟨_, rfl, hown, hbw⟩
set_option maxHeartbeats 8000000 in
set_option maxRecDepth 100000 in
theorem refAward0z {v : Value} {zs : List Int} {E N L : Int} {w : World} (hc : IntsO w v zs) (hV : Valid zs) (hE : 0 ≤ E ∧ E ≤ zs.sum) (hLR : LevR 0 zs E N L) (hc0 : ¬ 0 < zs.sum) :
    Calls Try.prog 26 #[.int .i64 0, v, .int .i64 E] w fun e w' => ∃ v', e = .returned v' ∧ w'.ownsRow w.heap.size 37 2 v' zs.length (enc2 (awL 0 zs E N L)) ∧ Below w.heap.size w w' := by
  obtain ⟨i0, hi0, hz0, hz1, hz2⟩ := info_parts info37
  have hS := sum_in hV
  have hVK := Keep.mk hV
  have hEK := Keep.mk hE
  have hcI := Keep.mk hc
  have q65 := total_any hc hV.2.1 hV.2.2
  obtain ⟨A, cap, rfl, hcell⟩ := hc
  have hcK := Keep.mk hcell
  obtain ⟨n, hn⟩ : ∃ n, Keep (zs.length = n) := ⟨_, ⟨rfl⟩⟩
  have hn10 : n ≤ 10 := by have := hV.2.1; have := hn.out; omega
  have hBd := Keep.mk (fun c hc => aw_Bd (r := 0) (c := c) (by omega) hV hE hLR hc)
  obtain ⟨aw, haw⟩ : ∃ aw, Keep (awL 0 zs E N L = aw) := ⟨_, ⟨rfl⟩⟩
  have hal : aw.length = n := by rw [← haw.out, awL_len]; exact hn.out
  have halK := Keep.mk hal
  have hLK := Keep.mk hLR
  rw [hn.out] at q65 hcI ⊢
  rw [haw.out]
  have hfv : Keep (∀ i, i < n → aw.getD i (0, 0) = (redN (zs.getD i 0 * E) (awD 0 zs.sum N), redD (zs.getD i 0 * E) (awD 0 zs.sum N))) := ⟨fun i hi => by rw [← haw.out, awL_get (by have := hn.out; omega)]; rfl⟩
  obtain ⟨S, hSS⟩ : ∃ S, Keep (zs.sum = S) := ⟨_, ⟨rfl⟩⟩
  rw [hSS.out] at q65 hE hS hfv hBd hc0
  have hD0 : Keep (awD 0 S N = 1) := ⟨by show (if 1 < S then S else 1) = 1; split <;> omega⟩
  rw [hD0.out] at hfv hBd
  have q290 := fun w => refWhole_any 0 w
  unfold fracV at q290
  clear hcell hV hLR hal
  go_enter Try.func26, Try.ntmps26
  go_wp2_with (go_at_call 65; (with_reducible refine q65.mono ?_); rintro e w1 ⟨rfl, rfl⟩)
  go_loopw [8, 9] (fun s iv wr => ∃ k : Nat, k ≤ n ∧ iv = .int .i64 k ∧ (∃ C c, s = .slice C k c) ∧ Keep (wr.ownsRow w1.heap.size 37 2 s k (enc2 (aw.take k))) ∧ Below w1.heap.size w1 wr) (fun _ iv _ => n - (intOf iv).toNat)
  case atStart => exact ⟨0, by omega, rfl, ⟨none, 0, rfl⟩, ⟨World.ownsRow_nil _ _ _ _⟩, Below.refl _ _⟩
  case round =>
    obtain ⟨k, hk, rfl, ⟨C, cc, rfl⟩, hown, hbw⟩ := hrel
    have hbz := hbw.size
    by_cases hkn : k < n
    · have hkn' : (k : Int) < (n : Int) := by omega
      have hkl : k < zs.length := by have := hn.out; omega
      obtain ⟨gz, oz, rfl, hz00⟩ := hcK.out k hkl
      have hz := cell_below hz00 hbw
      have hcm := getz (zs := zs) hkl
      have hzb := hVK.out.2.2 _ hcm
      have hfk := Keep.mk (hfv.out k hkn)
      have hBc := hBd.out _ hcm
      have htk : Keep (aw.take (k + 1) = aw.take k ++ [aw.getD k (0, 0)]) := ⟨by
        rw [List.take_add_one, List.getElem?_eq_getElem (by have := halK.out; omega)]
        simp [List.getD, halK.out, hkn]⟩
      have hIn := fun W (hb : Below wr.heap.size wr W) => intsO_below hcI.out (hbw.trans (hb.mono hbz))
      skip
      generalize zs.getD k 0 = c at *
      have Bc : Bd c 1 := ⟨by omega, by omega, by omega, by omega⟩
      have q29c := fun w => refWhole_any c w
      unfold fracV at q29c
      obtain ⟨P, hP⟩ : ∃ P, Keep (c * E = P) := ⟨_, ⟨rfl⟩⟩
      have hE0 : E = 0 := by omega
      have hP0 : P = 0 := by rw [← hP.out, hE0, Int.mul_zero]
      rw [hP.out, hP0, (red_one 0).1, (red_one 0).2] at hfk
      have hmap : Keep (∀ (W : World) (v' : Value), W.ownsRow w1.heap.size 37 2 v' (k + 1) (enc2 (aw.take k) ++ [.int .i64 0, .int .i64 1]) → W.ownsRow w1.heap.size 37 2 v' (k + 1) (enc2 (aw.take (k + 1)))) := ⟨fun W v' h => by rw [htk.out, hfk.out, enc2_push]; exact h⟩
      clear hP hE0 hP0
      clear hcm hBc Bc hz00
      obtain ⟨wi, hwi⟩ : ∃ x, x = wr := ⟨_, rfl⟩
      subst hwi
      go_wp2_with (first
        | (go_at_call 29; (with_reducible refine (q29c _).mono ?_); rintro e w5 ⟨rfl, hb5⟩
           obtain ⟨w6, hw6⟩ : ∃ w6, w5.alloc (.cells #[.int .i64 c, .int .i64 1] 37) = w6 := ⟨_, rfl⟩
           have hb6 : Below w5.heap.size w5 w6 := by rw [← hw6]; exact (Below.refl _ _).alloc (Nat.le_refl _) _
           have o10 : Own2 w6 w5.heap.size (.int .i64 c) (.int .i64 1) := by rw [← hw6]; exact Own2.new _ _ _ _
           have hbr6 := hb5.trans (hb6.mono hb5.size)
           have hg10 : w5.heap.size < w6.heap.size := o10.lt
           clear hb5 hb6 q29c)
        | (go_at_call 29; (with_reducible refine (q290 _).mono ?_); rintro e w7 ⟨rfl, hb7⟩
           obtain ⟨w8, hw8⟩ : ∃ w8, w7.alloc (.cells #[.int .i64 0, .int .i64 1] 37) = w8 := ⟨_, rfl⟩
           have hb8 : Below w7.heap.size w7 w8 := by rw [← hw8]; exact (Below.refl _ _).alloc (Nat.le_refl _) _
           have b11 : BlkAt w8 w7.heap.size #[.int .i64 0, .int .i64 1] 37 := by rw [← hw8]; exact BlkAt.new _ _ _
           have o10 := (o10.after hb7).after hb8
           have hbr7 := hbr6.trans (hb7.mono hbr6.size)
           have hbr8 := hbr7.trans (hb8.mono hbr7.size)
           have hg11 : wi.heap.size ≤ w7.heap.size := hbr7.size
           have hne : ¬ w5.heap.size = w7.heap.size := by have := hb7.size; omega
           have hz8 := cell_below hz hbr8
           have hg57 : w5.heap.size < w7.heap.size := Nat.lt_of_lt_of_le hg10 hb7.size
           have hp8 : w7.heap.size < w8.heap.size := b11.lt
           clear hb7 hb8 q290
           have ox : Own2 w8 w7.heap.size (.int .i64 0) (.int .i64 1) := Own2.of b11
           have hbrx : Below wi.heap.size wi w8 := hbr8
           obtain ⟨wy, hwy⟩ : ∃ wy, w8.alloc (.cells #[.int .i64 0, .int .i64 1] 37) = wy := ⟨_, rfl⟩
           have hby : Below w8.heap.size w8 wy := by rw [← hwy]; exact (Below.refl _ _).alloc (Nat.le_refl _) _
           have hbry := hbrx.trans (hby.mono hbrx.size)
           have hownY := own_aft hown.out hbry
           have hbY := hbw.trans (hbry.mono hbz)
           have hszY := hbY.size
           have hcY : ∀ j u, ([.int .i64 0, .int .i64 1] : List Value)[j]? = some u → wy.cell? ((⟨w8.heap.size, 0, none⟩ : Addr).add j) = some u := by
             intro j u hj
             rw [plain_add, Nat.zero_add, ← hwy, (BlkAt.new w8 #[.int .i64 0, .int .i64 1] 37).cell]
             match j, hj with
             | 0, hj => simpa using hj
             | 1, hj => simpa using hj
             | j + 2, hj => simp at hj
           obtain ⟨cx0, cx1, fx0, fx1⟩ := ox)
        | (at_builtin; go_loud (
           refine wpList_append_own _ rfl _ _ 24 rfl w1.heap.size 37 i0 (.agg #[.int .i64 0, .int .i64 0]) 2 16 ty24 hi0 hz0 hz1 hz2 rfl (by decide) _ k (enc2 (aw.take k)) rfl hownY ⟨w8.heap.size, 0, none⟩ 1 1 [.int .i64 0, .int .i64 1] rfl rfl hcY (fun u hu => by simp only [List.mem_cons, List.not_mem_nil, or_false] at hu; rcases hu with rfl | rfl <;> rfl) (by unfold maxLen; omega) (by omega) hszY ?_
           intro v' w3 hown' hgrow3 hnil3
           have hbw3 : Below w1.heap.size w1 w3 := hbY.grown hgrow3 hszY (fun q hq => by
             rcases hownY.2 with ⟨h, _⟩ | ⟨gg, cc, cur, hh, hg', _⟩
             · injection h with h1 _ _; subst h1; cases hq
             · injection hh with h1 _ _; subst h1; cases hq; exact hg')
           have hres := hmap.out _ _ hown'
           obtain ⟨C6, c6, rfl⟩ := own_shp hres
           have hownK := Keep.mk hres
           clear hown' hres)))
      exact ⟨⟨k + 1, by omega, by go_num, ⟨C6, c6, rfl⟩, hownK, hbw3⟩, by simp [intOf]; omega⟩
    · obtain rfl : n = k := by omega
      have htake : aw.take n = aw := List.take_of_length_le (by have := halK.out; omega)
      have hown := hown.out
      rw [htake] at hown
      go_wp2
      go_ret
      exact ⟨_, rfl, hown, hbw⟩
set_option maxHeartbeats 8000000 in
set_option maxRecDepth 100000 in
theorem refAward1 {v : Value} {zs : List Int} {E N L : Int} {w : World} (hc : IntsO w v zs) (hV : Valid zs) (hE : 0 ≤ E ∧ E ≤ zs.sum) (hLR : LevR 1 zs E N L) :
    Calls Try.prog 26 #[.int .i64 1, v, .int .i64 E] w fun e w' => ∃ v', e = .returned v' ∧ w'.ownsRow w.heap.size 37 2 v' zs.length (enc2 (awL 1 zs E N L)) ∧ Below w.heap.size w w' := by
  obtain ⟨i0, hi0, hz0, hz1, hz2⟩ := info_parts info37
  have hS := sum_in hV
  have hVK := Keep.mk hV
  have hEK := Keep.mk hE
  have hcI := Keep.mk hc
  have q65 := total_any hc hV.2.1 hV.2.2
  obtain ⟨A, cap, rfl, hcell⟩ := hc
  have hcK := Keep.mk hcell
  obtain ⟨n, hn⟩ : ∃ n, Keep (zs.length = n) := ⟨_, ⟨rfl⟩⟩
  have hn10 : n ≤ 10 := by have := hV.2.1; have := hn.out; omega
  have hBd := Keep.mk (fun c hc => aw_Bd (r := 1) (c := c) (by omega) hV hE hLR hc)
  obtain ⟨aw, haw⟩ : ∃ aw, Keep (awL 1 zs E N L = aw) := ⟨_, ⟨rfl⟩⟩
  have hal : aw.length = n := by rw [← haw.out, awL_len]; exact hn.out
  have halK := Keep.mk hal
  have hLK := Keep.mk hLR
  have hT : 0 ≤ E ∧ E ≤ zs.sum := by omega
  have hlev : Lev zs (E) N L := by
    have h := hLR.lev (by omega)
    have e : awE 1 zs.sum E = E := rfl
    rwa [e] at h
  have q66 := fun w (h : IntsO w (.slice A zs.length cap) zs) => refEqual_lev h hV hT hlev
  rw [hn.out] at q65 hcI q66 ⊢
  rw [haw.out]
  have hfv : Keep (∀ i, i < n → aw.getD i (0, 0) = (redN (awX 1 zs.sum E N L (zs.getD i 0)) (awD 1 zs.sum N), redD (awX 1 zs.sum E N L (zs.getD i 0)) (awD 1 zs.sum N))) := ⟨fun i hi => by rw [← haw.out, awL_get (by have := hn.out; omega)]; rfl⟩
  obtain ⟨S, hSS⟩ : ∃ S, Keep (zs.sum = S) := ⟨_, ⟨rfl⟩⟩
  rw [hSS.out] at q65 hE hS hfv hBd
  have q290 := fun w => refWhole_any 0 w
  unfold fracV at q290
  clear hcell hV hlev hT hLR hal
  go_enter Try.func26, Try.ntmps26
  go_wp2_with (go_at_call 65; (with_reducible refine q65.mono ?_); rintro e w1 ⟨rfl, rfl⟩)
  go_loopw [8, 9] (fun s iv wr => ∃ k : Nat, k ≤ n ∧ iv = .int .i64 k ∧ (∃ C c, s = .slice C k c) ∧ Keep (wr.ownsRow w1.heap.size 37 2 s k (enc2 (aw.take k))) ∧ Below w1.heap.size w1 wr) (fun _ iv _ => n - (intOf iv).toNat)
  case atStart => exact ⟨0, by omega, rfl, ⟨none, 0, rfl⟩, ⟨World.ownsRow_nil _ _ _ _⟩, Below.refl _ _⟩
  case round =>
    obtain ⟨k, hk, rfl, ⟨C, cc, rfl⟩, hown, hbw⟩ := hrel
    have hbz := hbw.size
    by_cases hkn : k < n
    · have hkn' : (k : Int) < (n : Int) := by omega
      have hkl : k < zs.length := by have := hn.out; omega
      obtain ⟨gz, oz, rfl, hz00⟩ := hcK.out k hkl
      have hz := cell_below hz00 hbw
      have hcm := getz (zs := zs) hkl
      have hzb := hVK.out.2.2 _ hcm
      have hfk := Keep.mk (hfv.out k hkn)
      have hBc := hBd.out _ hcm
      have htk : Keep (aw.take (k + 1) = aw.take k ++ [aw.getD k (0, 0)]) := ⟨by
        rw [List.take_add_one, List.getElem?_eq_getElem (by have := halK.out; omega)]
        simp [List.getD, halK.out, hkn]⟩
      have hIn := fun W (hb : Below wr.heap.size wr W) => intsO_below hcI.out (hbw.trans (hb.mono hbz))
      have hlk : ∀ W (G : Nat), RowF W G n (lvF zs N L) n → W.cell? ⟨G, k * 2, none⟩ = some (.int .i64 (redN (mnI (zs.getD k 0 * N) L) N)) ∧ W.cell? ⟨G, k * 2 + 1, none⟩ = some (.int .i64 (redD (mnI (zs.getD k 0 * N) L) N)) := fun W G h => h.cell hkn
      have hN1 := hLK.out.n1
      have hN10 := hLK.out.n10
      have hl0 := hLK.out.l0
      have hl1 := hLK.out.l1
      have hmc := mnI_cases (zs.getD k 0 * N) L
      have hmul := mul_in (a := zs.getD k 0) (b := N) (A := 1000) (B := 10) hzb.1 hzb.2 (by omega) (by omega)
      rw [show awX 1 S E N L (zs.getD k 0) = mnI (zs.getD k 0 * N) L from rfl, show awD 1 S N = N from rfl] at hfk
      generalize mnI (zs.getD k 0 * N) L = m at *
      generalize zs.getD k 0 = c at *
      have Bc : Bd c 1 := ⟨by omega, by omega, by omega, by omega⟩
      have q29c := fun w => refWhole_any c w
      unfold fracV at q29c
      have Bm : Bd m N := ⟨by omega, by omega, by omega, by omega⟩
      obtain ⟨y0, hy0⟩ : ∃ z, Keep (redN m N = z) := ⟨_, ⟨rfl⟩⟩
      obtain ⟨y1, hy1⟩ : ∃ z, Keep (redD m N = z) := ⟨_, ⟨rfl⟩⟩
      obtain ⟨u0, hu0⟩ : ∃ z, Keep (redN (m) (N) = z) := ⟨_, ⟨rfl⟩⟩
      obtain ⟨u1, hu1⟩ : ∃ z, Keep (redD (m) (N) = z) := ⟨_, ⟨rfl⟩⟩
      rw [hu0.out, hu1.out] at hfk
      have hmap : Keep (∀ (W : World) (v' : Value), W.ownsRow w1.heap.size 37 2 v' (k + 1) (enc2 (aw.take k) ++ [.int .i64 u0, .int .i64 u1]) → W.ownsRow w1.heap.size 37 2 v' (k + 1) (enc2 (aw.take (k + 1)))) := ⟨fun W v' h => by rw [htk.out, hfk.out, enc2_push]; exact h⟩
      rw [hu0.out, hu1.out] at hlk
      clear hmc hmul Bm hy0 hy1 hu0 hu1
      clear hcm hBc Bc hz00
      obtain ⟨wi, hwi⟩ : ∃ x, x = wr := ⟨_, rfl⟩
      subst hwi
      go_wp2_with (first
        | (go_at_call 29; (with_reducible refine (q29c _).mono ?_); rintro e w5 ⟨rfl, hb5⟩
           obtain ⟨w6, hw6⟩ : ∃ w6, w5.alloc (.cells #[.int .i64 c, .int .i64 1] 37) = w6 := ⟨_, rfl⟩
           have hb6 : Below w5.heap.size w5 w6 := by rw [← hw6]; exact (Below.refl _ _).alloc (Nat.le_refl _) _
           have o10 : Own2 w6 w5.heap.size (.int .i64 c) (.int .i64 1) := by rw [← hw6]; exact Own2.new _ _ _ _
           have hbr6 := hb5.trans (hb6.mono hb5.size)
           have hg10 : w5.heap.size < w6.heap.size := o10.lt
           clear hb5 hb6 q29c)
        | (go_at_call 29; (with_reducible refine (q290 _).mono ?_); rintro e w7 ⟨rfl, hb7⟩
           obtain ⟨w8, hw8⟩ : ∃ w8, w7.alloc (.cells #[.int .i64 0, .int .i64 1] 37) = w8 := ⟨_, rfl⟩
           have hb8 : Below w7.heap.size w7 w8 := by rw [← hw8]; exact (Below.refl _ _).alloc (Nat.le_refl _) _
           have b11 : BlkAt w8 w7.heap.size #[.int .i64 0, .int .i64 1] 37 := by rw [← hw8]; exact BlkAt.new _ _ _
           have o10 := (o10.after hb7).after hb8
           have hbr7 := hbr6.trans (hb7.mono hbr6.size)
           have hbr8 := hbr7.trans (hb8.mono hbr7.size)
           have hg11 : wi.heap.size ≤ w7.heap.size := hbr7.size
           have hne : ¬ w5.heap.size = w7.heap.size := by have := hb7.size; omega
           have hz8 := cell_below hz hbr8
           have hg57 : w5.heap.size < w7.heap.size := Nat.lt_of_lt_of_le hg10 hb7.size
           have hp8 : w7.heap.size < w8.heap.size := b11.lt
           clear hb7 hb8 q290)
        | (go_at_call 66; (with_reducible refine (q66 _ (hIn _ hbr8)).mono ?_); rintro e w9 ⟨G, rfl, hG, hrow, hb9⟩
           obtain ⟨ca0, ca1⟩ := hlk _ _ hrow
           have hbr9 := hbr8.trans (hb9.mono hbr8.size)
           have b11 := b11.after hb9
           obtain ⟨c110, c111, f110, f111⟩ := Own2.of b11
           obtain ⟨wx, hwx⟩ : ∃ wx, (w9.setCell ⟨w7.heap.size, 0, none⟩ (.int .i64 u0)).setCell ⟨w7.heap.size, 1, none⟩ (.int .i64 u1) = wx := ⟨_, rfl⟩
           have ox : Own2 wx w7.heap.size (.int .i64 u0) (.int .i64 u1) := by rw [← hwx]; exact Own2.of ((b11.set 0 _).set 1 _)
           have hbrx : Below wi.heap.size wi wx := by rw [← hwx]; exact (hbr9.setCell (p := ⟨w7.heap.size, 0, none⟩) hg11 _).setCell (p := ⟨w7.heap.size, 1, none⟩) hg11 _
           obtain ⟨wy, hwy⟩ : ∃ wy, wx.alloc (.cells #[.int .i64 u0, .int .i64 u1] 37) = wy := ⟨_, rfl⟩
           have hby : Below wx.heap.size wx wy := by rw [← hwy]; exact (Below.refl _ _).alloc (Nat.le_refl _) _
           have hbry := hbrx.trans (hby.mono hbrx.size)
           have hownY := own_aft hown.out hbry
           have hbY := hbw.trans (hbry.mono hbz)
           have hszY := hbY.size
           have hcY : ∀ j u, ([.int .i64 u0, .int .i64 u1] : List Value)[j]? = some u → wy.cell? ((⟨wx.heap.size, 0, none⟩ : Addr).add j) = some u := by
             intro j u hj
             rw [plain_add, Nat.zero_add, ← hwy, (BlkAt.new wx #[.int .i64 u0, .int .i64 u1] 37).cell]
             match j, hj with
             | 0, hj => simpa using hj
             | 1, hj => simpa using hj
             | j + 2, hj => simp at hj
           obtain ⟨cx0, cx1, fx0, fx1⟩ := ox
           clear hb9 q66)
        | (at_builtin; go_loud (
           refine wpList_append_own _ rfl _ _ 24 rfl w1.heap.size 37 i0 (.agg #[.int .i64 0, .int .i64 0]) 2 16 ty24 hi0 hz0 hz1 hz2 rfl (by decide) _ k (enc2 (aw.take k)) rfl hownY ⟨wx.heap.size, 0, none⟩ 1 1 [.int .i64 u0, .int .i64 u1] rfl rfl hcY (fun u hu => by simp only [List.mem_cons, List.not_mem_nil, or_false] at hu; rcases hu with rfl | rfl <;> rfl) (by unfold maxLen; omega) (by omega) hszY ?_
           intro v' w3 hown' hgrow3 hnil3
           have hbw3 : Below w1.heap.size w1 w3 := hbY.grown hgrow3 hszY (fun q hq => by
             rcases hownY.2 with ⟨h, _⟩ | ⟨gg, cc, cur, hh, hg', _⟩
             · injection h with h1 _ _; subst h1; cases hq
             · injection hh with h1 _ _; subst h1; cases hq; exact hg')
           have hres := hmap.out _ _ hown'
           obtain ⟨C6, c6, rfl⟩ := own_shp hres
           have hownK := Keep.mk hres
           clear hown' hres)))
      exact ⟨⟨k + 1, by omega, by go_num, ⟨C6, c6, rfl⟩, hownK, hbw3⟩, by simp [intOf]; omega⟩
    · obtain rfl : n = k := by omega
      have htake : aw.take n = aw := List.take_of_length_le (by have := halK.out; omega)
      have hown := hown.out
      rw [htake] at hown
      go_wp2
      go_ret
      exact ⟨_, rfl, hown, hbw⟩
set_option maxHeartbeats 8000000 in
set_option maxRecDepth 100000 in
theorem refAward3l {v : Value} {zs : List Int} {E N L : Int} {w : World} (hc : IntsO w v zs) (hV : Valid zs) (hE : 0 ≤ E ∧ E ≤ zs.sum) (hLR : LevR 3 zs E N L) (hc0 : 2 * E ≤ zs.sum) :
    Calls Try.prog 26 #[.int .i64 3, v, .int .i64 E] w fun e w' => ∃ v', e = .returned v' ∧ w'.ownsRow w.heap.size 37 2 v' zs.length (enc2 (awL 3 zs E N L)) ∧ Below w.heap.size w w' := by
  obtain ⟨i0, hi0, hz0, hz1, hz2⟩ := info_parts info37
  have hS := sum_in hV
  have hVK := Keep.mk hV
  have hEK := Keep.mk hE
  have hcI := Keep.mk hc
  have q65 := total_any hc hV.2.1 hV.2.2
  obtain ⟨A, cap, rfl, hcell⟩ := hc
  have hcK := Keep.mk hcell
  obtain ⟨n, hn⟩ : ∃ n, Keep (zs.length = n) := ⟨_, ⟨rfl⟩⟩
  have hn10 : n ≤ 10 := by have := hV.2.1; have := hn.out; omega
  have hBd := Keep.mk (fun c hc => aw_Bd (r := 3) (c := c) (by omega) hV hE hLR hc)
  obtain ⟨aw, haw⟩ : ∃ aw, Keep (awL 3 zs E N L = aw) := ⟨_, ⟨rfl⟩⟩
  have hal : aw.length = n := by rw [← haw.out, awL_len]; exact hn.out
  have halK := Keep.mk hal
  have hLK := Keep.mk hLR
  have hT : 0 ≤ 2 * E ∧ 2 * E ≤ zs.sum := by omega
  have hlev : Lev zs (2 * E) N L := by
    have h := hLR.lev (by omega)
    have e : awE 3 zs.sum E = 2 * E := if_pos hc0
    rwa [e] at h
  have q66 := fun w (h : IntsO w (.slice A zs.length cap) zs) => refEqual_lev h hV hT hlev
  rw [hn.out] at q65 hcI q66 ⊢
  rw [haw.out]
  have hfv : Keep (∀ i, i < n → aw.getD i (0, 0) = (redN (awX 3 zs.sum E N L (zs.getD i 0)) (awD 3 zs.sum N), redD (awX 3 zs.sum E N L (zs.getD i 0)) (awD 3 zs.sum N))) := ⟨fun i hi => by rw [← haw.out, awL_get (by have := hn.out; omega)]; rfl⟩
  obtain ⟨S, hSS⟩ : ∃ S, Keep (zs.sum = S) := ⟨_, ⟨rfl⟩⟩
  rw [hSS.out] at q65 hE hS hfv hBd hc0
  obtain ⟨T, hTT⟩ : ∃ T, Keep (2 * E = T) := ⟨_, ⟨rfl⟩⟩
  have wT : IntKind.i64.wrap (2 * E) = T := by rw [← hTT.out]; exact IntWalk.i64_in _ (by omega)
  rw [hTT.out] at q66
  have hc1 : T ≤ S := by rw [← hTT.out]; exact hc0
  have q290 := fun w => refWhole_any 0 w
  unfold fracV at q290
  clear hcell hV hlev hT hLR hal
  go_enter Try.func26, Try.ntmps26
  go_wp2_with (go_at_call 65; (with_reducible refine q65.mono ?_); rintro e w1 ⟨rfl, rfl⟩)
  go_loopw [8, 9] (fun s iv wr => ∃ k : Nat, k ≤ n ∧ iv = .int .i64 k ∧ (∃ C c, s = .slice C k c) ∧ Keep (wr.ownsRow w1.heap.size 37 2 s k (enc2 (aw.take k))) ∧ Below w1.heap.size w1 wr) (fun _ iv _ => n - (intOf iv).toNat)
  case atStart => exact ⟨0, by omega, rfl, ⟨none, 0, rfl⟩, ⟨World.ownsRow_nil _ _ _ _⟩, Below.refl _ _⟩
  case round =>
    obtain ⟨k, hk, rfl, ⟨C, cc, rfl⟩, hown, hbw⟩ := hrel
    have hbz := hbw.size
    by_cases hkn : k < n
    · have hkn' : (k : Int) < (n : Int) := by omega
      have hkl : k < zs.length := by have := hn.out; omega
      obtain ⟨gz, oz, rfl, hz00⟩ := hcK.out k hkl
      have hz := cell_below hz00 hbw
      have hcm := getz (zs := zs) hkl
      have hzb := hVK.out.2.2 _ hcm
      have hfk := Keep.mk (hfv.out k hkn)
      have hBc := hBd.out _ hcm
      have htk : Keep (aw.take (k + 1) = aw.take k ++ [aw.getD k (0, 0)]) := ⟨by
        rw [List.take_add_one, List.getElem?_eq_getElem (by have := halK.out; omega)]
        simp [List.getD, halK.out, hkn]⟩
      have hIn := fun W (hb : Below wr.heap.size wr W) => intsO_below hcI.out (hbw.trans (hb.mono hbz))
      have hlk : ∀ W (G : Nat), RowF W G n (lvF zs N L) n → W.cell? ⟨G, k * 2, none⟩ = some (.int .i64 (redN (mnI (zs.getD k 0 * N) L) N)) ∧ W.cell? ⟨G, k * 2 + 1, none⟩ = some (.int .i64 (redD (mnI (zs.getD k 0 * N) L) N)) := fun W G h => h.cell hkn
      have hN1 := hLK.out.n1
      have hN10 := hLK.out.n10
      have hl0 := hLK.out.l0
      have hl1 := hLK.out.l1
      have hmc := mnI_cases (zs.getD k 0 * N) L
      have hmul := mul_in (a := zs.getD k 0) (b := N) (A := 1000) (B := 10) hzb.1 hzb.2 (by omega) (by omega)
      rw [show awX 3 S E N L (zs.getD k 0) = mnI (zs.getD k 0 * N) L from if_pos hc0, show awD 3 S N = 2 * N from rfl] at hfk
      generalize mnI (zs.getD k 0 * N) L = m at *
      generalize zs.getD k 0 = c at *
      have Bc : Bd c 1 := ⟨by omega, by omega, by omega, by omega⟩
      have q29c := fun w => refWhole_any c w
      unfold fracV at q29c
      have Bm : Bd m N := ⟨by omega, by omega, by omega, by omega⟩
      obtain ⟨y0, hy0⟩ : ∃ z, Keep (redN m N = z) := ⟨_, ⟨rfl⟩⟩
      obtain ⟨y1, hy1⟩ : ∃ z, Keep (redD m N = z) := ⟨_, ⟨rfl⟩⟩
      have q67 := fun w => half_red Bm w
      unfold redV at q67
      obtain ⟨u0, hu0⟩ : ∃ z, Keep (redN (m) (2 * N) = z) := ⟨_, ⟨rfl⟩⟩
      obtain ⟨u1, hu1⟩ : ∃ z, Keep (redD (m) (2 * N) = z) := ⟨_, ⟨rfl⟩⟩
      rw [hu0.out, hu1.out] at hfk
      have hmap : Keep (∀ (W : World) (v' : Value), W.ownsRow w1.heap.size 37 2 v' (k + 1) (enc2 (aw.take k) ++ [.int .i64 u0, .int .i64 u1]) → W.ownsRow w1.heap.size 37 2 v' (k + 1) (enc2 (aw.take (k + 1)))) := ⟨fun W v' h => by rw [htk.out, hfk.out, enc2_push]; exact h⟩
      rw [hy0.out, hy1.out, hu0.out, hu1.out] at q67
      rw [hy0.out, hy1.out] at hlk
      unfold fracV at q67
      clear hmc hmul Bm hy0 hy1 hu0 hu1
      clear hcm hBc Bc hz00
      obtain ⟨wi, hwi⟩ : ∃ x, x = wr := ⟨_, rfl⟩
      subst hwi
      go_wp2_with (first
        | (go_at_call 29; (with_reducible refine (q29c _).mono ?_); rintro e w5 ⟨rfl, hb5⟩
           obtain ⟨w6, hw6⟩ : ∃ w6, w5.alloc (.cells #[.int .i64 c, .int .i64 1] 37) = w6 := ⟨_, rfl⟩
           have hb6 : Below w5.heap.size w5 w6 := by rw [← hw6]; exact (Below.refl _ _).alloc (Nat.le_refl _) _
           have o10 : Own2 w6 w5.heap.size (.int .i64 c) (.int .i64 1) := by rw [← hw6]; exact Own2.new _ _ _ _
           have hbr6 := hb5.trans (hb6.mono hb5.size)
           have hg10 : w5.heap.size < w6.heap.size := o10.lt
           clear hb5 hb6 q29c)
        | (go_at_call 29; (with_reducible refine (q290 _).mono ?_); rintro e w7 ⟨rfl, hb7⟩
           obtain ⟨w8, hw8⟩ : ∃ w8, w7.alloc (.cells #[.int .i64 0, .int .i64 1] 37) = w8 := ⟨_, rfl⟩
           have hb8 : Below w7.heap.size w7 w8 := by rw [← hw8]; exact (Below.refl _ _).alloc (Nat.le_refl _) _
           have b11 : BlkAt w8 w7.heap.size #[.int .i64 0, .int .i64 1] 37 := by rw [← hw8]; exact BlkAt.new _ _ _
           have o10 := (o10.after hb7).after hb8
           have hbr7 := hbr6.trans (hb7.mono hbr6.size)
           have hbr8 := hbr7.trans (hb8.mono hbr7.size)
           have hg11 : wi.heap.size ≤ w7.heap.size := hbr7.size
           have hne : ¬ w5.heap.size = w7.heap.size := by have := hb7.size; omega
           have hz8 := cell_below hz hbr8
           have hg57 : w5.heap.size < w7.heap.size := Nat.lt_of_lt_of_le hg10 hb7.size
           have hp8 : w7.heap.size < w8.heap.size := b11.lt
           clear hb7 hb8 q290)
        | (go_at_call 66; (with_reducible refine (q66 _ (hIn _ hbr8)).mono ?_); rintro e w9 ⟨G, rfl, hG, hrow, hb9⟩
           obtain ⟨ca0, ca1⟩ := hlk _ _ hrow
           have hbr9 := hbr8.trans (hb9.mono hbr8.size)
           have b11 := b11.after hb9
           clear hb9 q66)
        | (go_at_call 67; (with_reducible refine (q67 _).mono ?_); rintro e w12 ⟨rfl, hb12⟩
           have hbr12 := hbr9.trans (hb12.mono hbr9.size)
           have b11 := b11.after hb12
           obtain ⟨c110, c111, f110, f111⟩ := Own2.of b11
           obtain ⟨wx, hwx⟩ : ∃ wx, (w12.setCell ⟨w7.heap.size, 0, none⟩ (.int .i64 u0)).setCell ⟨w7.heap.size, 1, none⟩ (.int .i64 u1) = wx := ⟨_, rfl⟩
           have ox : Own2 wx w7.heap.size (.int .i64 u0) (.int .i64 u1) := by rw [← hwx]; exact Own2.of ((b11.set 0 _).set 1 _)
           have hbrx : Below wi.heap.size wi wx := by rw [← hwx]; exact (hbr12.setCell (p := ⟨w7.heap.size, 0, none⟩) hg11 _).setCell (p := ⟨w7.heap.size, 1, none⟩) hg11 _
           obtain ⟨wy, hwy⟩ : ∃ wy, wx.alloc (.cells #[.int .i64 u0, .int .i64 u1] 37) = wy := ⟨_, rfl⟩
           have hby : Below wx.heap.size wx wy := by rw [← hwy]; exact (Below.refl _ _).alloc (Nat.le_refl _) _
           have hbry := hbrx.trans (hby.mono hbrx.size)
           have hownY := own_aft hown.out hbry
           have hbY := hbw.trans (hbry.mono hbz)
           have hszY := hbY.size
           have hcY : ∀ j u, ([.int .i64 u0, .int .i64 u1] : List Value)[j]? = some u → wy.cell? ((⟨wx.heap.size, 0, none⟩ : Addr).add j) = some u := by
             intro j u hj
             rw [plain_add, Nat.zero_add, ← hwy, (BlkAt.new wx #[.int .i64 u0, .int .i64 u1] 37).cell]
             match j, hj with
             | 0, hj => simpa using hj
             | 1, hj => simpa using hj
             | j + 2, hj => simp at hj
           obtain ⟨cx0, cx1, fx0, fx1⟩ := ox
           clear hb12 q67)
        | (at_builtin; go_loud (
           refine wpList_append_own _ rfl _ _ 24 rfl w1.heap.size 37 i0 (.agg #[.int .i64 0, .int .i64 0]) 2 16 ty24 hi0 hz0 hz1 hz2 rfl (by decide) _ k (enc2 (aw.take k)) rfl hownY ⟨wx.heap.size, 0, none⟩ 1 1 [.int .i64 u0, .int .i64 u1] rfl rfl hcY (fun u hu => by simp only [List.mem_cons, List.not_mem_nil, or_false] at hu; rcases hu with rfl | rfl <;> rfl) (by unfold maxLen; omega) (by omega) hszY ?_
           intro v' w3 hown' hgrow3 hnil3
           have hbw3 : Below w1.heap.size w1 w3 := hbY.grown hgrow3 hszY (fun q hq => by
             rcases hownY.2 with ⟨h, _⟩ | ⟨gg, cc, cur, hh, hg', _⟩
             · injection h with h1 _ _; subst h1; cases hq
             · injection hh with h1 _ _; subst h1; cases hq; exact hg')
           have hres := hmap.out _ _ hown'
           obtain ⟨C6, c6, rfl⟩ := own_shp hres
           have hownK := Keep.mk hres
           clear hown' hres)))
      exact ⟨⟨k + 1, by omega, by go_num, ⟨C6, c6, rfl⟩, hownK, hbw3⟩, by simp [intOf]; omega⟩
    · obtain rfl : n = k := by omega
      have htake : aw.take n = aw := List.take_of_length_le (by have := halK.out; omega)
      have hown := hown.out
      rw [htake] at hown
      go_wp2
      go_ret
      exact ⟨_, rfl, hown, hbw⟩
set_option maxHeartbeats 8000000 in
set_option maxRecDepth 100000 in
theorem refAward4l {v : Value} {zs : List Int} {E N L : Int} {w : World} (hc : IntsO w v zs) (hV : Valid zs) (hE : 0 ≤ E ∧ E ≤ zs.sum) (hLR : LevR 4 zs E N L) (hc0 : 2 * E ≤ zs.sum) :
    Calls Try.prog 26 #[.int .i64 4, v, .int .i64 E] w fun e w' => ∃ v', e = .returned v' ∧ w'.ownsRow w.heap.size 37 2 v' zs.length (enc2 (awL 4 zs E N L)) ∧ Below w.heap.size w w' := by
  obtain ⟨i0, hi0, hz0, hz1, hz2⟩ := info_parts info37
  have hS := sum_in hV
  have hVK := Keep.mk hV
  have hEK := Keep.mk hE
  have hcI := Keep.mk hc
  have q65 := total_any hc hV.2.1 hV.2.2
  obtain ⟨A, cap, rfl, hcell⟩ := hc
  have hcK := Keep.mk hcell
  obtain ⟨n, hn⟩ : ∃ n, Keep (zs.length = n) := ⟨_, ⟨rfl⟩⟩
  have hn10 : n ≤ 10 := by have := hV.2.1; have := hn.out; omega
  have hBd := Keep.mk (fun c hc => aw_Bd (r := 4) (c := c) (by omega) hV hE hLR hc)
  obtain ⟨aw, haw⟩ : ∃ aw, Keep (awL 4 zs E N L = aw) := ⟨_, ⟨rfl⟩⟩
  have hal : aw.length = n := by rw [← haw.out, awL_len]; exact hn.out
  have halK := Keep.mk hal
  have hLK := Keep.mk hLR
  have hT : 0 ≤ 2 * E ∧ 2 * E ≤ zs.sum := by omega
  have hlev : Lev zs (2 * E) N L := by
    have h := hLR.lev (by omega)
    have e : awE 4 zs.sum E = 2 * E := if_pos hc0
    rwa [e] at h
  have q66 := fun w (h : IntsO w (.slice A zs.length cap) zs) => refEqual_lev h hV hT hlev
  rw [hn.out] at q65 hcI q66 ⊢
  rw [haw.out]
  have hfv : Keep (∀ i, i < n → aw.getD i (0, 0) = (redN (awX 4 zs.sum E N L (zs.getD i 0)) (awD 4 zs.sum N), redD (awX 4 zs.sum E N L (zs.getD i 0)) (awD 4 zs.sum N))) := ⟨fun i hi => by rw [← haw.out, awL_get (by have := hn.out; omega)]; rfl⟩
  obtain ⟨S, hSS⟩ : ∃ S, Keep (zs.sum = S) := ⟨_, ⟨rfl⟩⟩
  rw [hSS.out] at q65 hE hS hfv hBd hc0
  obtain ⟨T, hTT⟩ : ∃ T, Keep (2 * E = T) := ⟨_, ⟨rfl⟩⟩
  have wT : IntKind.i64.wrap (2 * E) = T := by rw [← hTT.out]; exact IntWalk.i64_in _ (by omega)
  rw [hTT.out] at q66
  have hc1 : T ≤ S := by rw [← hTT.out]; exact hc0
  have q290 := fun w => refWhole_any 0 w
  unfold fracV at q290
  clear hcell hV hlev hT hLR hal
  go_enter Try.func26, Try.ntmps26
  go_wp2_with (go_at_call 65; (with_reducible refine q65.mono ?_); rintro e w1 ⟨rfl, rfl⟩)
  go_loopw [8, 9] (fun s iv wr => ∃ k : Nat, k ≤ n ∧ iv = .int .i64 k ∧ (∃ C c, s = .slice C k c) ∧ Keep (wr.ownsRow w1.heap.size 37 2 s k (enc2 (aw.take k))) ∧ Below w1.heap.size w1 wr) (fun _ iv _ => n - (intOf iv).toNat)
  case atStart => exact ⟨0, by omega, rfl, ⟨none, 0, rfl⟩, ⟨World.ownsRow_nil _ _ _ _⟩, Below.refl _ _⟩
  case round =>
    obtain ⟨k, hk, rfl, ⟨C, cc, rfl⟩, hown, hbw⟩ := hrel
    have hbz := hbw.size
    by_cases hkn : k < n
    · have hkn' : (k : Int) < (n : Int) := by omega
      have hkl : k < zs.length := by have := hn.out; omega
      obtain ⟨gz, oz, rfl, hz00⟩ := hcK.out k hkl
      have hz := cell_below hz00 hbw
      have hcm := getz (zs := zs) hkl
      have hzb := hVK.out.2.2 _ hcm
      have hfk := Keep.mk (hfv.out k hkn)
      have hBc := hBd.out _ hcm
      have htk : Keep (aw.take (k + 1) = aw.take k ++ [aw.getD k (0, 0)]) := ⟨by
        rw [List.take_add_one, List.getElem?_eq_getElem (by have := halK.out; omega)]
        simp [List.getD, halK.out, hkn]⟩
      have hIn := fun W (hb : Below wr.heap.size wr W) => intsO_below hcI.out (hbw.trans (hb.mono hbz))
      have hlk : ∀ W (G : Nat), RowF W G n (lvF zs N L) n → W.cell? ⟨G, k * 2, none⟩ = some (.int .i64 (redN (mnI (zs.getD k 0 * N) L) N)) ∧ W.cell? ⟨G, k * 2 + 1, none⟩ = some (.int .i64 (redD (mnI (zs.getD k 0 * N) L) N)) := fun W G h => h.cell hkn
      have hN1 := hLK.out.n1
      have hN10 := hLK.out.n10
      have hl0 := hLK.out.l0
      have hl1 := hLK.out.l1
      have hmc := mnI_cases (zs.getD k 0 * N) L
      have hmul := mul_in (a := zs.getD k 0) (b := N) (A := 1000) (B := 10) hzb.1 hzb.2 (by omega) (by omega)
      rw [show awX 4 S E N L (zs.getD k 0) = mnI (zs.getD k 0 * N) L from if_pos hc0, show awD 4 S N = 2 * N from rfl] at hfk
      generalize mnI (zs.getD k 0 * N) L = m at *
      generalize zs.getD k 0 = c at *
      have Bc : Bd c 1 := ⟨by omega, by omega, by omega, by omega⟩
      have q29c := fun w => refWhole_any c w
      unfold fracV at q29c
      have Bm : Bd m N := ⟨by omega, by omega, by omega, by omega⟩
      obtain ⟨y0, hy0⟩ : ∃ z, Keep (redN m N = z) := ⟨_, ⟨rfl⟩⟩
      obtain ⟨y1, hy1⟩ : ∃ z, Keep (redD m N = z) := ⟨_, ⟨rfl⟩⟩
      have q67 := fun w => half_red Bm w
      unfold redV at q67
      obtain ⟨u0, hu0⟩ : ∃ z, Keep (redN (m) (2 * N) = z) := ⟨_, ⟨rfl⟩⟩
      obtain ⟨u1, hu1⟩ : ∃ z, Keep (redD (m) (2 * N) = z) := ⟨_, ⟨rfl⟩⟩
      rw [hu0.out, hu1.out] at hfk
      have hmap : Keep (∀ (W : World) (v' : Value), W.ownsRow w1.heap.size 37 2 v' (k + 1) (enc2 (aw.take k) ++ [.int .i64 u0, .int .i64 u1]) → W.ownsRow w1.heap.size 37 2 v' (k + 1) (enc2 (aw.take (k + 1)))) := ⟨fun W v' h => by rw [htk.out, hfk.out, enc2_push]; exact h⟩
      rw [hy0.out, hy1.out, hu0.out, hu1.out] at q67
      rw [hy0.out, hy1.out] at hlk
      unfold fracV at q67
      clear hmc hmul Bm hy0 hy1 hu0 hu1
      clear hcm hBc Bc hz00
      obtain ⟨wi, hwi⟩ : ∃ x, x = wr := ⟨_, rfl⟩
      subst hwi
      go_wp2_with (first
        | (go_at_call 29; (with_reducible refine (q29c _).mono ?_); rintro e w5 ⟨rfl, hb5⟩
           obtain ⟨w6, hw6⟩ : ∃ w6, w5.alloc (.cells #[.int .i64 c, .int .i64 1] 37) = w6 := ⟨_, rfl⟩
           have hb6 : Below w5.heap.size w5 w6 := by rw [← hw6]; exact (Below.refl _ _).alloc (Nat.le_refl _) _
           have o10 : Own2 w6 w5.heap.size (.int .i64 c) (.int .i64 1) := by rw [← hw6]; exact Own2.new _ _ _ _
           have hbr6 := hb5.trans (hb6.mono hb5.size)
           have hg10 : w5.heap.size < w6.heap.size := o10.lt
           clear hb5 hb6 q29c)
        | (go_at_call 29; (with_reducible refine (q290 _).mono ?_); rintro e w7 ⟨rfl, hb7⟩
           obtain ⟨w8, hw8⟩ : ∃ w8, w7.alloc (.cells #[.int .i64 0, .int .i64 1] 37) = w8 := ⟨_, rfl⟩
           have hb8 : Below w7.heap.size w7 w8 := by rw [← hw8]; exact (Below.refl _ _).alloc (Nat.le_refl _) _
           have b11 : BlkAt w8 w7.heap.size #[.int .i64 0, .int .i64 1] 37 := by rw [← hw8]; exact BlkAt.new _ _ _
           have o10 := (o10.after hb7).after hb8
           have hbr7 := hbr6.trans (hb7.mono hbr6.size)
           have hbr8 := hbr7.trans (hb8.mono hbr7.size)
           have hg11 : wi.heap.size ≤ w7.heap.size := hbr7.size
           have hne : ¬ w5.heap.size = w7.heap.size := by have := hb7.size; omega
           have hz8 := cell_below hz hbr8
           have hg57 : w5.heap.size < w7.heap.size := Nat.lt_of_lt_of_le hg10 hb7.size
           have hp8 : w7.heap.size < w8.heap.size := b11.lt
           clear hb7 hb8 q290)
        | (go_at_call 66; (with_reducible refine (q66 _ (hIn _ hbr8)).mono ?_); rintro e w9 ⟨G, rfl, hG, hrow, hb9⟩
           obtain ⟨ca0, ca1⟩ := hlk _ _ hrow
           have hbr9 := hbr8.trans (hb9.mono hbr8.size)
           have b11 := b11.after hb9
           clear hb9 q66)
        | (go_at_call 67; (with_reducible refine (q67 _).mono ?_); rintro e w12 ⟨rfl, hb12⟩
           have hbr12 := hbr9.trans (hb12.mono hbr9.size)
           have b11 := b11.after hb12
           obtain ⟨c110, c111, f110, f111⟩ := Own2.of b11
           obtain ⟨wx, hwx⟩ : ∃ wx, (w12.setCell ⟨w7.heap.size, 0, none⟩ (.int .i64 u0)).setCell ⟨w7.heap.size, 1, none⟩ (.int .i64 u1) = wx := ⟨_, rfl⟩
           have ox : Own2 wx w7.heap.size (.int .i64 u0) (.int .i64 u1) := by rw [← hwx]; exact Own2.of ((b11.set 0 _).set 1 _)
           have hbrx : Below wi.heap.size wi wx := by rw [← hwx]; exact (hbr12.setCell (p := ⟨w7.heap.size, 0, none⟩) hg11 _).setCell (p := ⟨w7.heap.size, 1, none⟩) hg11 _
           obtain ⟨wy, hwy⟩ : ∃ wy, wx.alloc (.cells #[.int .i64 u0, .int .i64 u1] 37) = wy := ⟨_, rfl⟩
           have hby : Below wx.heap.size wx wy := by rw [← hwy]; exact (Below.refl _ _).alloc (Nat.le_refl _) _
           have hbry := hbrx.trans (hby.mono hbrx.size)
           have hownY := own_aft hown.out hbry
           have hbY := hbw.trans (hbry.mono hbz)
           have hszY := hbY.size
           have hcY : ∀ j u, ([.int .i64 u0, .int .i64 u1] : List Value)[j]? = some u → wy.cell? ((⟨wx.heap.size, 0, none⟩ : Addr).add j) = some u := by
             intro j u hj
             rw [plain_add, Nat.zero_add, ← hwy, (BlkAt.new wx #[.int .i64 u0, .int .i64 u1] 37).cell]
             match j, hj with
             | 0, hj => simpa using hj
             | 1, hj => simpa using hj
             | j + 2, hj => simp at hj
           obtain ⟨cx0, cx1, fx0, fx1⟩ := ox
           clear hb12 q67)
        | (at_builtin; go_loud (
           refine wpList_append_own _ rfl _ _ 24 rfl w1.heap.size 37 i0 (.agg #[.int .i64 0, .int .i64 0]) 2 16 ty24 hi0 hz0 hz1 hz2 rfl (by decide) _ k (enc2 (aw.take k)) rfl hownY ⟨wx.heap.size, 0, none⟩ 1 1 [.int .i64 u0, .int .i64 u1] rfl rfl hcY (fun u hu => by simp only [List.mem_cons, List.not_mem_nil, or_false] at hu; rcases hu with rfl | rfl <;> rfl) (by unfold maxLen; omega) (by omega) hszY ?_
           intro v' w3 hown' hgrow3 hnil3
           have hbw3 : Below w1.heap.size w1 w3 := hbY.grown hgrow3 hszY (fun q hq => by
             rcases hownY.2 with ⟨h, _⟩ | ⟨gg, cc, cur, hh, hg', _⟩
             · injection h with h1 _ _; subst h1; cases hq
             · injection hh with h1 _ _; subst h1; cases hq; exact hg')
           have hres := hmap.out _ _ hown'
           obtain ⟨C6, c6, rfl⟩ := own_shp hres
           have hownK := Keep.mk hres
           clear hown' hres)))
      exact ⟨⟨k + 1, by omega, by go_num, ⟨C6, c6, rfl⟩, hownK, hbw3⟩, by simp [intOf]; omega⟩
    · obtain rfl : n = k := by omega
      have htake : aw.take n = aw := List.take_of_length_le (by have := halK.out; omega)
      have hown := hown.out
      rw [htake] at hown
      go_wp2
      go_ret
      exact ⟨_, rfl, hown, hbw⟩
end Go.Proofs.Ytbocmbhinjkjlaa
set_option linter.unusedSimpArgs false
set_option linter.unusedVariables false
namespace Go.Proofs.Ytbocmbhinjkjlaa
open Go Go.Proofs Go.RowKit Go.Seq Go.Sort
set_option maxHeartbeats 8000000 in
set_option maxRecDepth 100000 in
theorem refAward2 {v : Value} {zs : List Int} {E N L : Int} {w : World} (hc : IntsO w v zs) (hV : Valid zs) (hE : 0 ≤ E ∧ E ≤ zs.sum) (hLR : LevR 2 zs E N L) :
    Calls Try.prog 26 #[.int .i64 2, v, .int .i64 E] w fun e w' => ∃ v', e = .returned v' ∧ w'.ownsRow w.heap.size 37 2 v' zs.length (enc2 (awL 2 zs E N L)) ∧ Below w.heap.size w w' := by
  obtain ⟨i0, hi0, hz0, hz1, hz2⟩ := info_parts info37
  have hS := sum_in hV
  have hVK := Keep.mk hV
  have hEK := Keep.mk hE
  have hcI := Keep.mk hc
  have q65 := total_any hc hV.2.1 hV.2.2
  obtain ⟨A, cap, rfl, hcell⟩ := hc
  have hcK := Keep.mk hcell
  obtain ⟨n, hn⟩ : ∃ n, Keep (zs.length = n) := ⟨_, ⟨rfl⟩⟩
  have hn10 : n ≤ 10 := by have := hV.2.1; have := hn.out; omega
  have hBd := Keep.mk (fun c hc => aw_Bd (r := 2) (c := c) (by omega) hV hE hLR hc)
  obtain ⟨aw, haw⟩ : ∃ aw, Keep (awL 2 zs E N L = aw) := ⟨_, ⟨rfl⟩⟩
  have hal : aw.length = n := by rw [← haw.out, awL_len]; exact hn.out
  have halK := Keep.mk hal
  have hLK := Keep.mk hLR
  have hT : 0 ≤ zs.sum - E ∧ zs.sum - E ≤ zs.sum := by omega
  have hlev : Lev zs (zs.sum - E) N L := by
    have h := hLR.lev (by omega)
    have e : awE 2 zs.sum E = zs.sum - E := rfl
    rwa [e] at h
  have q66 := fun w (h : IntsO w (.slice A zs.length cap) zs) => refEqual_lev h hV hT hlev
  rw [hn.out] at q65 hcI q66 ⊢
  rw [haw.out]
  have hfv : Keep (∀ i, i < n → aw.getD i (0, 0) = (redN (awX 2 zs.sum E N L (zs.getD i 0)) (awD 2 zs.sum N), redD (awX 2 zs.sum E N L (zs.getD i 0)) (awD 2 zs.sum N))) := ⟨fun i hi => by rw [← haw.out, awL_get (by have := hn.out; omega)]; rfl⟩
  obtain ⟨S, hSS⟩ : ∃ S, Keep (zs.sum = S) := ⟨_, ⟨rfl⟩⟩
  rw [hSS.out] at q65 hE hS hfv hBd q66
  obtain ⟨T, hTT⟩ : ∃ T, Keep (S - E = T) := ⟨_, ⟨rfl⟩⟩
  have wT : IntKind.i64.wrap (S - E) = T := by rw [← hTT.out]; exact IntWalk.i64_in _ (by omega)
  rw [hTT.out] at q66
  have q290 := fun w => refWhole_any 0 w
  unfold fracV at q290
  clear hcell hV hlev hT hLR hal
  go_enter Try.func26, Try.ntmps26
  go_wp2_with (go_at_call 65; (with_reducible refine q65.mono ?_); rintro e w1 ⟨rfl, rfl⟩)
  go_loopw [8, 9] (fun s iv wr => ∃ k : Nat, k ≤ n ∧ iv = .int .i64 k ∧ (∃ C c, s = .slice C k c) ∧ Keep (wr.ownsRow w1.heap.size 37 2 s k (enc2 (aw.take k))) ∧ Below w1.heap.size w1 wr) (fun _ iv _ => n - (intOf iv).toNat)
  case atStart => exact ⟨0, by omega, rfl, ⟨none, 0, rfl⟩, ⟨World.ownsRow_nil _ _ _ _⟩, Below.refl _ _⟩
  case round =>
    obtain ⟨k, hk, rfl, ⟨C, cc, rfl⟩, hown, hbw⟩ := hrel
    have hbz := hbw.size
    by_cases hkn : k < n
    · have hkn' : (k : Int) < (n : Int) := by omega
      have hkl : k < zs.length := by have := hn.out; omega
      obtain ⟨gz, oz, rfl, hz00⟩ := hcK.out k hkl
      have hz := cell_below hz00 hbw
      have hcm := getz (zs := zs) hkl
      have hzb := hVK.out.2.2 _ hcm
      have hfk := Keep.mk (hfv.out k hkn)
      have hBc := hBd.out _ hcm
      have htk : Keep (aw.take (k + 1) = aw.take k ++ [aw.getD k (0, 0)]) := ⟨by
        rw [List.take_add_one, List.getElem?_eq_getElem (by have := halK.out; omega)]
        simp [List.getD, halK.out, hkn]⟩
      have hIn := fun W (hb : Below wr.heap.size wr W) => intsO_below hcI.out (hbw.trans (hb.mono hbz))
      have hlk : ∀ W (G : Nat), RowF W G n (lvF zs N L) n → W.cell? ⟨G, k * 2, none⟩ = some (.int .i64 (redN (mnI (zs.getD k 0 * N) L) N)) ∧ W.cell? ⟨G, k * 2 + 1, none⟩ = some (.int .i64 (redD (mnI (zs.getD k 0 * N) L) N)) := fun W G h => h.cell hkn
      have hN1 := hLK.out.n1
      have hN10 := hLK.out.n10
      have hl0 := hLK.out.l0
      have hl1 := hLK.out.l1
      have hmc := mnI_cases (zs.getD k 0 * N) L
      have hmul := mul_in (a := zs.getD k 0) (b := N) (A := 1000) (B := 10) hzb.1 hzb.2 (by omega) (by omega)
      rw [show awX 2 S E N L (zs.getD k 0) = zs.getD k 0 * N - mnI (zs.getD k 0 * N) L from rfl, show awD 2 S N = N from rfl] at hfk
      generalize mnI (zs.getD k 0 * N) L = m at *
      generalize zs.getD k 0 = c at *
      have Bc : Bd c 1 := ⟨by omega, by omega, by omega, by omega⟩
      have q29c := fun w => refWhole_any c w
      unfold fracV at q29c
      have Bm : Bd m N := ⟨by omega, by omega, by omega, by omega⟩
      obtain ⟨y0, hy0⟩ : ∃ z, Keep (redN m N = z) := ⟨_, ⟨rfl⟩⟩
      obtain ⟨y1, hy1⟩ : ∃ z, Keep (redD m N = z) := ⟨_, ⟨rfl⟩⟩
      have q58 := fun w => refSub_red Bc Bm w
      rw [redV_one, Int.mul_one, Int.one_mul] at q58
      unfold redV at q58
      obtain ⟨u0, hu0⟩ : ∃ z, Keep (redN (c * N - m) (N) = z) := ⟨_, ⟨rfl⟩⟩
      obtain ⟨u1, hu1⟩ : ∃ z, Keep (redD (c * N - m) (N) = z) := ⟨_, ⟨rfl⟩⟩
      rw [hu0.out, hu1.out] at hfk
      have hmap : Keep (∀ (W : World) (v' : Value), W.ownsRow w1.heap.size 37 2 v' (k + 1) (enc2 (aw.take k) ++ [.int .i64 u0, .int .i64 u1]) → W.ownsRow w1.heap.size 37 2 v' (k + 1) (enc2 (aw.take (k + 1)))) := ⟨fun W v' h => by rw [htk.out, hfk.out, enc2_push]; exact h⟩
      rw [hy0.out, hy1.out, hu0.out, hu1.out] at q58
      rw [hy0.out, hy1.out] at hlk
      unfold fracV at q58
      clear hmc hmul Bm hy0 hy1 hu0 hu1
      clear hcm hBc Bc hz00
      obtain ⟨wi, hwi⟩ : ∃ x, x = wr := ⟨_, rfl⟩
      subst hwi
      go_wp2_with (first
        | (go_at_call 29; (with_reducible refine (q29c _).mono ?_); rintro e w5 ⟨rfl, hb5⟩
           obtain ⟨w6, hw6⟩ : ∃ w6, w5.alloc (.cells #[.int .i64 c, .int .i64 1] 37) = w6 := ⟨_, rfl⟩
           have hb6 : Below w5.heap.size w5 w6 := by rw [← hw6]; exact (Below.refl _ _).alloc (Nat.le_refl _) _
           have o10 : Own2 w6 w5.heap.size (.int .i64 c) (.int .i64 1) := by rw [← hw6]; exact Own2.new _ _ _ _
           have hbr6 := hb5.trans (hb6.mono hb5.size)
           have hg10 : w5.heap.size < w6.heap.size := o10.lt
           clear hb5 hb6 q29c)
        | (go_at_call 29; (with_reducible refine (q290 _).mono ?_); rintro e w7 ⟨rfl, hb7⟩
           obtain ⟨w8, hw8⟩ : ∃ w8, w7.alloc (.cells #[.int .i64 0, .int .i64 1] 37) = w8 := ⟨_, rfl⟩
           have hb8 : Below w7.heap.size w7 w8 := by rw [← hw8]; exact (Below.refl _ _).alloc (Nat.le_refl _) _
           have b11 : BlkAt w8 w7.heap.size #[.int .i64 0, .int .i64 1] 37 := by rw [← hw8]; exact BlkAt.new _ _ _
           have o10 := (o10.after hb7).after hb8
           have hbr7 := hbr6.trans (hb7.mono hbr6.size)
           have hbr8 := hbr7.trans (hb8.mono hbr7.size)
           have hg11 : wi.heap.size ≤ w7.heap.size := hbr7.size
           have hne : ¬ w5.heap.size = w7.heap.size := by have := hb7.size; omega
           have hz8 := cell_below hz hbr8
           have hg57 : w5.heap.size < w7.heap.size := Nat.lt_of_lt_of_le hg10 hb7.size
           have hp8 : w7.heap.size < w8.heap.size := b11.lt
           clear hb7 hb8 q290))
      skip
      have hB0 : w7.heap.size ≤ w8.heap.size := Nat.le_of_lt hp8
      have hB1 := hg57
      refine (wpIn_wide (n := 0)).1 ?_
      refine Inv.region_inv (fun t act W => ∃ G, act = { tmps := #[Value.int IntKind.i64 2, Value.slice (some ⟨gz, oz, none⟩) n cap, Value.int IntKind.i64 E, undef, undef, undef, Value.slice none 0 0, Value.int IntKind.i64 S, Value.slice C k cc, Value.int IntKind.i64 (k : Nat), Value.pointer (some ⟨w5.heap.size, 0, none⟩), Value.pointer (some ⟨w7.heap.size, 0, none⟩), Value.slice (some ⟨gz, oz, none⟩) n cap, Value.int IntKind.i64 S, Value.int IntKind.i64 (k : Nat), Value.slice (some ⟨gz, oz, none⟩) n cap, Value.int IntKind.i64 (n : Nat), Value.bool true, u18, u19, Value.slice (some ⟨gz, oz, none⟩) n cap, Value.int IntKind.i64 (k : Nat), Value.pointer (some ⟨gz, oz + k, none⟩), Value.int IntKind.i64 c, Value.agg #[Value.int IntKind.i64 c, Value.int IntKind.i64 1], Value.agg #[Value.int IntKind.i64 0, Value.int IntKind.i64 1], Value.bool false, Value.int IntKind.i64 2, Value.bool false, Value.bool false, undef, undef, Value.bool false, u33, u34, u35, u36, u37, u38, u39, u40, Value.bool false, Value.int IntKind.i64 2, Value.bool false, u44, u45, u46, u47, u48, u49, Value.bool true, Value.int IntKind.i64 2, Value.bool true, if t 0 = true then .agg #[.int .i64 c, .int .i64 1] else u53, if t 1 = true then .slice (some ⟨gz, oz, none⟩) n cap else u54, if t 2 = true then .int .i64 S else u55, if t 3 = true then .int .i64 E else u56, if t 4 = true then .int .i64 T else u57, if t 5 = true then .slice (some ⟨G, 0, none⟩) n n else u58, if t 6 = true then .int .i64 (k : Nat) else u59, if t 7 = true then .pointer (some ⟨G, k * 2, none⟩) else u60, if t 8 = true then .agg #[.int .i64 y0, .int .i64 y1] else u61, if t 9 = true then .agg #[.int .i64 u0, .int .i64 u1] else u62, u63, u64, u65, u66, u67, u68, u69, u70, u71, u72, u73, u74, u75, u76, u77, u78, u79, u80, u81, u82, u83, u84, u85, u86, u87, u88, u89, u90, u91, u92, u93, u94, u95, u96, u97, u98, u99, u100, u101, u102, u103, u104, u105, u106, u107, u108, u109, u110, u111, u112, u113, undef], defers := [] } ∧ QcI w8 w7.heap.size 5 10 [7, 8, 9, 10] w7.heap.size #[.int .i64 0, .int .i64 1] #[.int .i64 u0, .int .i64 u1] (fun G W => w8.heap.size ≤ G ∧ RowF W G n (lvF zs N L) n) t G W) mixed_ok (by kernel_rfl) ?_ ?_ ?_
      · intro t hs
        refine ⟨0, ?_, QcI.start b11 (hs 5 (by decide)) (hs 10 (by decide)) (fun i hi => hs i (by simp at hi; simp; omega))⟩
        simp only [hs 0 (by decide), hs 1 (by decide), hs 2 (by decide), hs 3 (by decide), hs 4 (by decide), hs 5 (by decide), hs 6 (by decide), hs 7 (by decide), hs 8 (by decide), hs 9 (by decide), hs 10 (by decide), Bool.false_eq_true, if_false]
      · refine ⟨?_, ?_, ?_, ?_, ?_, ?_, ?_, ?_, ?_, ?_, ?_, trivial⟩
        · rintro t act W hun hdep hbeh ⟨G, rfl, hT⟩
          (try simp only [Nat.reduceAdd] at hun)
          obtain ⟨c0, c1, f0, f1⟩ := o10.below hT.bw hB1
          refine .inl ⟨by rfl, Inv.comesV_val (.agg #[.int .i64 c, .int .i64 1]) W (by (go_simp; try rfl)) ⟨G, by (simp only [Act.put, List.setIfInBounds_toArray, List.set_cons_succ, List.set_cons_zero, Manyd.upd, Nat.reduceAdd, Nat.reduceBEq, Bool.or_false, Bool.or_true, if_true]), QcI.keep (i := 0) (by decide) (by decide) (by decide) hT⟩⟩
        · rintro t act W hun hdep hbeh ⟨G, rfl, hT⟩
          (try simp only [Nat.reduceAdd] at hun)
          refine .inl ⟨by rfl, Inv.comesV_val (.slice (some ⟨gz, oz, none⟩) n cap) W (by (go_simp; try rfl)) ⟨G, by (simp only [Act.put, List.setIfInBounds_toArray, List.set_cons_succ, List.set_cons_zero, Manyd.upd, Nat.reduceAdd, Nat.reduceBEq, Bool.or_false, Bool.or_true, if_true]), QcI.keep (i := 1) (by decide) (by decide) (by decide) hT⟩⟩
        · rintro t act W hun hdep hbeh ⟨G, rfl, hT⟩
          (try simp only [Nat.reduceAdd] at hun)
          refine .inl ⟨by rfl, Inv.comesV_val (.int .i64 S) W (by (go_simp; try rfl)) ⟨G, by (simp only [Act.put, List.setIfInBounds_toArray, List.set_cons_succ, List.set_cons_zero, Manyd.upd, Nat.reduceAdd, Nat.reduceBEq, Bool.or_false, Bool.or_true, if_true]), QcI.keep (i := 2) (by decide) (by decide) (by decide) hT⟩⟩
        · rintro t act W hun hdep hbeh ⟨G, rfl, hT⟩
          (try simp only [Nat.reduceAdd] at hun)
          refine .inl ⟨by rfl, Inv.comesV_val (.int .i64 E) W (by (go_simp; try rfl)) ⟨G, by (simp only [Act.put, List.setIfInBounds_toArray, List.set_cons_succ, List.set_cons_zero, Manyd.upd, Nat.reduceAdd, Nat.reduceBEq, Bool.or_false, Bool.or_true, if_true]), QcI.keep (i := 3) (by decide) (by decide) (by decide) hT⟩⟩
        · rintro t act W hun hdep hbeh ⟨G, rfl, hT⟩
          (try simp only [Nat.reduceAdd] at hun)
          have h2 : t 2 = true := Inv.depB_mem 2 hdep (by rfl)
          have h3 : t 3 = true := Inv.depB_mem 3 hdep (by rfl)
          refine .inl ⟨by rfl, Inv.comesV_val (.int .i64 T) W (by (simp only [h2, h3, if_true, Bool.false_eq_true, if_false]; go_simp; try rfl)) ⟨G, by (simp only [Act.put, List.setIfInBounds_toArray, List.set_cons_succ, List.set_cons_zero, Manyd.upd, Nat.reduceAdd, Nat.reduceBEq, Bool.or_false, Bool.or_true, if_true]), QcI.keep (i := 4) (by decide) (by decide) (by decide) hT⟩⟩
        · rintro t act W hun hdep hbeh ⟨G, rfl, hT⟩
          (try simp only [Nat.reduceAdd] at hun)
          have h1 : t 1 = true := Inv.depB_mem 1 hdep (by rfl)
          have h4 : t 4 = true := Inv.depB_mem 4 hdep (by rfl)
          refine .inl ⟨by rfl, Inv.comesV_call 66 #[.slice (some ⟨gz, oz, none⟩) n cap, .int .i64 T] W (by (simp only [h1, h4, if_true, Bool.false_eq_true, if_false]; go_simp; try rfl)) ((q66 W (hIn _ (hbr8.trans (hT.bw.mono hg11)))).mono fun e w5 hw5 => ?_)⟩
          obtain ⟨G, rfl, hG, hrow, hb⟩ := hw5
          have n7 : t 7 = false := hT.no 7 hun (by decide)
          have n8 : t 8 = false := hT.no 8 hun (by decide)
          have n9 : t 9 = false := hT.no 9 hun (by decide)
          have n10 : t 10 = false := hT.no 10 hun (by decide)
          exact ⟨_, rfl, G, by (simp only [Act.put, List.setIfInBounds_toArray, List.set_cons_succ, List.set_cons_zero, Manyd.upd, Nat.reduceAdd, Nat.reduceBEq, Bool.or_false, Bool.or_true, if_true, n7, n8, n9, n10, Bool.false_eq_true, if_false]), QcI.call (by decide) ⟨Nat.le_trans hT.size hG, hrow⟩ hb hB0 hT⟩
        · rintro t act W hun hdep hbeh ⟨G, rfl, hT⟩
          (try simp only [Nat.reduceAdd] at hun)
          refine .inl ⟨by rfl, Inv.comesV_val (.int .i64 (k : Nat)) W (by (go_simp; try rfl)) ⟨G, by (simp only [Act.put, List.setIfInBounds_toArray, List.set_cons_succ, List.set_cons_zero, Manyd.upd, Nat.reduceAdd, Nat.reduceBEq, Bool.or_false, Bool.or_true, if_true]), QcI.keep (i := 6) (by decide) (by decide) (by decide) hT⟩⟩
        · rintro t act W hun hdep hbeh ⟨G, rfl, hT⟩
          (try simp only [Nat.reduceAdd] at hun)
          have h5 : t 5 = true := Inv.depB_mem 5 hdep (by rfl)
          have h6 : t 6 = true := Inv.depB_mem 6 hdep (by rfl)
          refine .inl ⟨by rfl, Inv.comesV_val (.pointer (some ⟨G, k * 2, none⟩)) W (by (simp only [h5, h6, if_true, Bool.false_eq_true, if_false]; go_simp; try rfl)) ⟨G, by (simp only [Act.put, List.setIfInBounds_toArray, List.set_cons_succ, List.set_cons_zero, Manyd.upd, Nat.reduceAdd, Nat.reduceBEq, Bool.or_false, Bool.or_true, if_true]), QcI.post (i := 7) h5 (by decide) (by decide) hT⟩⟩
        · rintro t act W hun hdep hbeh ⟨G, rfl, hT⟩
          (try simp only [Nat.reduceAdd] at hun)
          have h7 : t 7 = true := Inv.depB_mem 7 hdep (by rfl)
          obtain ⟨c0, c1⟩ := hlk _ _ (hT.res (hT.late 7 (by decide) h7)).2
          refine .inl ⟨by rfl, Inv.comesV_val (.agg #[.int .i64 y0, .int .i64 y1]) W (by (simp only [h7, if_true, Bool.false_eq_true, if_false]; go_simp; try rfl)) ⟨G, by (simp only [Act.put, List.setIfInBounds_toArray, List.set_cons_succ, List.set_cons_zero, Manyd.upd, Nat.reduceAdd, Nat.reduceBEq, Bool.or_false, Bool.or_true, if_true]), QcI.post (i := 8) (hT.late 7 (by decide) h7) (by decide) (by decide) hT⟩⟩
        · rintro t act W hun hdep hbeh ⟨G, rfl, hT⟩
          (try simp only [Nat.reduceAdd] at hun)
          have h0 : t 0 = true := Inv.depB_mem 0 hdep (by rfl)
          have h8 : t 8 = true := Inv.depB_mem 8 hdep (by rfl)
          refine .inl ⟨by rfl, Inv.comesV_call 58 #[.agg #[.int .i64 c, .int .i64 1], .agg #[.int .i64 y0, .int .i64 y1]] W (by (simp only [h0, h8, if_true, Bool.false_eq_true, if_false]; go_simp; try rfl)) ((q58 W).mono fun e w5 hw5 => ⟨_, hw5.1, G, by (simp only [Act.put, List.setIfInBounds_toArray, List.set_cons_succ, List.set_cons_zero, Manyd.upd, Nat.reduceAdd, Nat.reduceBEq, Bool.or_false, Bool.or_true, if_true]), QcI.callk (i := 9) (hT.late 8 (by decide) h8) (by decide) (by decide) (fun h => ⟨h.1, h.2.after hw5.2⟩) hw5.2 hB0 hT⟩)⟩
        · rintro t act W hun hdep hbeh ⟨G, rfl, hT⟩
          (try simp only [Nat.reduceAdd] at hun)
          have h9 : t 9 = true := Inv.depB_mem 9 hdep (by rfl)
          obtain ⟨c50, c51, f50, f51⟩ := hT.own hun
          refine .inl ⟨by rfl, Inv.comesV_skip ((W.setCell ⟨w7.heap.size, 0, none⟩ (.int .i64 u0)).setCell ⟨w7.heap.size, 1, none⟩ (.int .i64 u1)) (by (simp only [h9, if_true, Bool.false_eq_true, if_false]; go_simp; try rfl)) ⟨G, by (simp only [Act.put, List.setIfInBounds_toArray, List.set_cons_succ, List.set_cons_zero, Manyd.upd, Nat.reduceAdd, Nat.reduceBEq, Bool.or_false, Bool.or_true, if_true]), QcI.set (hT.late 9 (by decide) h9) (by decide) hun (Nat.le_refl _) (fun h => ⟨h.1, (h.2.other (p := ⟨w7.heap.size, 0, none⟩) (by show ¬ G = w7.heap.size; have := h.1; omega) _).other (p := ⟨w7.heap.size, 1, none⟩) (by show ¬ G = w7.heap.size; have := h.1; omega) _⟩) hT⟩⟩
      rintro t a' wx hs ⟨G, rfl, hT⟩
      simp only [hs 0 (by decide), hs 1 (by decide), hs 2 (by decide), hs 3 (by decide), hs 4 (by decide), hs 5 (by decide), hs 6 (by decide), hs 7 (by decide), hs 8 (by decide), hs 9 (by decide), hs 10 (by decide), if_true]
      have ox := Own2.of (by have h := hT.var; rwa [if_pos (hs 10 (by decide))] at h)
      have hbrx : Below wi.heap.size wi wx := hbr8.trans (hT.bw.mono hg11)
      clear hT hs
      obtain ⟨wy, hwy⟩ : ∃ wy, wx.alloc (.cells #[.int .i64 u0, .int .i64 u1] 37) = wy := ⟨_, rfl⟩
      have hby : Below wx.heap.size wx wy := by rw [← hwy]; exact (Below.refl _ _).alloc (Nat.le_refl _) _
      have hbry := hbrx.trans (hby.mono hbrx.size)
      have hownY := own_aft hown.out hbry
      have hbY := hbw.trans (hbry.mono hbz)
      have hszY := hbY.size
      have hcY : ∀ j u, ([.int .i64 u0, .int .i64 u1] : List Value)[j]? = some u → wy.cell? ((⟨wx.heap.size, 0, none⟩ : Addr).add j) = some u := by
        intro j u hj
        rw [plain_add, Nat.zero_add, ← hwy, (BlkAt.new wx #[.int .i64 u0, .int .i64 u1] 37).cell]
        match j, hj with
        | 0, hj => simpa using hj
        | 1, hj => simpa using hj
        | j + 2, hj => simp at hj
      obtain ⟨cx0, cx1, fx0, fx1⟩ := ox
      go_wp2_with (first
        | (at_builtin; go_loud (
           refine wpList_append_own _ rfl _ _ 24 rfl w1.heap.size 37 i0 (.agg #[.int .i64 0, .int .i64 0]) 2 16 ty24 hi0 hz0 hz1 hz2 rfl (by decide) _ k (enc2 (aw.take k)) rfl hownY ⟨wx.heap.size, 0, none⟩ 1 1 [.int .i64 u0, .int .i64 u1] rfl rfl hcY (fun u hu => by simp only [List.mem_cons, List.not_mem_nil, or_false] at hu; rcases hu with rfl | rfl <;> rfl) (by unfold maxLen; omega) (by omega) hszY ?_
           intro v' w3 hown' hgrow3 hnil3
           have hbw3 : Below w1.heap.size w1 w3 := hbY.grown hgrow3 hszY (fun q hq => by
             rcases hownY.2 with ⟨h, _⟩ | ⟨gg, cc, cur, hh, hg', _⟩
             · injection h with h1 _ _; subst h1; cases hq
             · injection hh with h1 _ _; subst h1; cases hq; exact hg')
           have hres := hmap.out _ _ hown'
           obtain ⟨C6, c6, rfl⟩ := own_shp hres
           have hownK := Keep.mk hres
           clear hown' hres)))
      exact ⟨⟨k + 1, by omega, by go_num, ⟨C6, c6, rfl⟩, hownK, hbw3⟩, by simp [intOf]; omega⟩
    · obtain rfl : n = k := by omega
      have htake : aw.take n = aw := List.take_of_length_le (by have := halK.out; omega)
      have hown := hown.out
      rw [htake] at hown
      go_wp2
      go_ret
      exact ⟨_, rfl, hown, hbw⟩
end Go.Proofs.Ytbocmbhinjkjlaa
set_option linter.unusedSimpArgs false
set_option linter.unusedVariables false
namespace Go.Proofs.Ytbocmbhinjkjlaa
open Go Go.Proofs Go.RowKit Go.Seq Go.Sort
set_option maxHeartbeats 8000000 in
set_option maxRecDepth 100000 in
theorem refAward3h {v : Value} {zs : List Int} {E N L : Int} {w : World} (hc : IntsO w v zs) (hV : Valid zs) (hE : 0 ≤ E ∧ E ≤ zs.sum) (hLR : LevR 3 zs E N L) (hc0 : ¬ 2 * E ≤ zs.sum) :
    Calls Try.prog 26 #[.int .i64 3, v, .int .i64 E] w fun e w' => ∃ v', e = .returned v' ∧ w'.ownsRow w.heap.size 37 2 v' zs.length (enc2 (awL 3 zs E N L)) ∧ Below w.heap.size w w' := by
  obtain ⟨i0, hi0, hz0, hz1, hz2⟩ := info_parts info37
  have hS := sum_in hV
  have hVK := Keep.mk hV
  have hEK := Keep.mk hE
  have hcI := Keep.mk hc
  have q65 := total_any hc hV.2.1 hV.2.2
  obtain ⟨A, cap, rfl, hcell⟩ := hc
  have hcK := Keep.mk hcell
  obtain ⟨n, hn⟩ : ∃ n, Keep (zs.length = n) := ⟨_, ⟨rfl⟩⟩
  have hn10 : n ≤ 10 := by have := hV.2.1; have := hn.out; omega
  have hBd := Keep.mk (fun c hc => aw_Bd (r := 3) (c := c) (by omega) hV hE hLR hc)
  obtain ⟨aw, haw⟩ : ∃ aw, Keep (awL 3 zs E N L = aw) := ⟨_, ⟨rfl⟩⟩
  have hal : aw.length = n := by rw [← haw.out, awL_len]; exact hn.out
  have halK := Keep.mk hal
  have hLK := Keep.mk hLR
  have hT : 0 ≤ 2 * (zs.sum - E) ∧ 2 * (zs.sum - E) ≤ zs.sum := by omega
  have hlev : Lev zs (2 * (zs.sum - E)) N L := by
    have h := hLR.lev (by omega)
    have e : awE 3 zs.sum E = 2 * (zs.sum - E) := if_neg hc0
    rwa [e] at h
  have q66 := fun w (h : IntsO w (.slice A zs.length cap) zs) => refEqual_lev h hV hT hlev
  rw [hn.out] at q65 hcI q66 ⊢
  rw [haw.out]
  have hfv : Keep (∀ i, i < n → aw.getD i (0, 0) = (redN (awX 3 zs.sum E N L (zs.getD i 0)) (awD 3 zs.sum N), redD (awX 3 zs.sum E N L (zs.getD i 0)) (awD 3 zs.sum N))) := ⟨fun i hi => by rw [← haw.out, awL_get (by have := hn.out; omega)]; rfl⟩
  obtain ⟨S, hSS⟩ : ∃ S, Keep (zs.sum = S) := ⟨_, ⟨rfl⟩⟩
  rw [hSS.out] at q65 hE hS hfv hBd hc0 q66
  obtain ⟨T, hTT⟩ : ∃ T, Keep (2 * (S - E) = T) := ⟨_, ⟨rfl⟩⟩
  have wT0 : IntKind.i64.wrap (S - E) = S - E := IntWalk.i64_in _ (by omega)
  have wT : IntKind.i64.wrap (2 * (S - E)) = T := by rw [← hTT.out]; exact IntWalk.i64_in _ (by omega)
  rw [hTT.out] at q66
  have w2E : IntKind.i64.wrap (2 * E) = 2 * E := IntWalk.i64_in _ (by omega)
  have q290 := fun w => refWhole_any 0 w
  unfold fracV at q290
  clear hcell hV hlev hT hLR hal
  go_enter Try.func26, Try.ntmps26
  go_wp2_with (go_at_call 65; (with_reducible refine q65.mono ?_); rintro e w1 ⟨rfl, rfl⟩)
  go_loopw [8, 9] (fun s iv wr => ∃ k : Nat, k ≤ n ∧ iv = .int .i64 k ∧ (∃ C c, s = .slice C k c) ∧ Keep (wr.ownsRow w1.heap.size 37 2 s k (enc2 (aw.take k))) ∧ Below w1.heap.size w1 wr) (fun _ iv _ => n - (intOf iv).toNat)
  case atStart => exact ⟨0, by omega, rfl, ⟨none, 0, rfl⟩, ⟨World.ownsRow_nil _ _ _ _⟩, Below.refl _ _⟩
  case round =>
    obtain ⟨k, hk, rfl, ⟨C, cc, rfl⟩, hown, hbw⟩ := hrel
    have hbz := hbw.size
    by_cases hkn : k < n
    · have hkn' : (k : Int) < (n : Int) := by omega
      have hkl : k < zs.length := by have := hn.out; omega
      obtain ⟨gz, oz, rfl, hz00⟩ := hcK.out k hkl
      have hz := cell_below hz00 hbw
      have hcm := getz (zs := zs) hkl
      have hzb := hVK.out.2.2 _ hcm
      have hfk := Keep.mk (hfv.out k hkn)
      have hBc := hBd.out _ hcm
      have htk : Keep (aw.take (k + 1) = aw.take k ++ [aw.getD k (0, 0)]) := ⟨by
        rw [List.take_add_one, List.getElem?_eq_getElem (by have := halK.out; omega)]
        simp [List.getD, halK.out, hkn]⟩
      have hIn := fun W (hb : Below wr.heap.size wr W) => intsO_below hcI.out (hbw.trans (hb.mono hbz))
      have hlk : ∀ W (G : Nat), RowF W G n (lvF zs N L) n → W.cell? ⟨G, k * 2, none⟩ = some (.int .i64 (redN (mnI (zs.getD k 0 * N) L) N)) ∧ W.cell? ⟨G, k * 2 + 1, none⟩ = some (.int .i64 (redD (mnI (zs.getD k 0 * N) L) N)) := fun W G h => h.cell hkn
      have hN1 := hLK.out.n1
      have hN10 := hLK.out.n10
      have hl0 := hLK.out.l0
      have hl1 := hLK.out.l1
      have hmc := mnI_cases (zs.getD k 0 * N) L
      have hmul := mul_in (a := zs.getD k 0) (b := N) (A := 1000) (B := 10) hzb.1 hzb.2 (by omega) (by omega)
      rw [show awX 3 S E N L (zs.getD k 0) = zs.getD k 0 * (2 * N) - mnI (zs.getD k 0 * N) L from if_neg (by omega), show awD 3 S N = 2 * N from rfl] at hfk
      generalize mnI (zs.getD k 0 * N) L = m at *
      generalize zs.getD k 0 = c at *
      have Bc : Bd c 1 := ⟨by omega, by omega, by omega, by omega⟩
      have q29c := fun w => refWhole_any c w
      unfold fracV at q29c
      have Bm : Bd m N := ⟨by omega, by omega, by omega, by omega⟩
      obtain ⟨y0, hy0⟩ : ∃ z, Keep (redN m N = z) := ⟨_, ⟨rfl⟩⟩
      obtain ⟨y1, hy1⟩ : ∃ z, Keep (redD m N = z) := ⟨_, ⟨rfl⟩⟩
      have q67 := fun w => half_red Bm w
      have q58 := fun w => refSub_red Bc (show Bd m (2 * N) from ⟨by omega, by omega, by omega, by omega⟩) w
      rw [redV_one, Int.mul_one, Int.one_mul] at q58
      unfold redV at q67 q58
      obtain ⟨u0, hu0⟩ : ∃ z, Keep (redN (c * (2 * N) - m) (2 * N) = z) := ⟨_, ⟨rfl⟩⟩
      obtain ⟨u1, hu1⟩ : ∃ z, Keep (redD (c * (2 * N) - m) (2 * N) = z) := ⟨_, ⟨rfl⟩⟩
      rw [hu0.out, hu1.out] at hfk
      have hmap : Keep (∀ (W : World) (v' : Value), W.ownsRow w1.heap.size 37 2 v' (k + 1) (enc2 (aw.take k) ++ [.int .i64 u0, .int .i64 u1]) → W.ownsRow w1.heap.size 37 2 v' (k + 1) (enc2 (aw.take (k + 1)))) := ⟨fun W v' h => by rw [htk.out, hfk.out, enc2_push]; exact h⟩
      obtain ⟨x0, hx0⟩ : ∃ z, Keep (redN m (2 * N) = z) := ⟨_, ⟨rfl⟩⟩
      obtain ⟨x1, hx1⟩ : ∃ z, Keep (redD m (2 * N) = z) := ⟨_, ⟨rfl⟩⟩
      rw [hy0.out, hy1.out, hx0.out, hx1.out] at q67
      rw [hx0.out, hx1.out, hu0.out, hu1.out] at q58
      rw [hy0.out, hy1.out] at hlk
      unfold fracV at q67 q58
      clear hmc hmul Bm hy0 hy1 hu0 hu1 hx0 hx1
      clear hcm hBc Bc hz00
      obtain ⟨wi, hwi⟩ : ∃ x, x = wr := ⟨_, rfl⟩
      subst hwi
      go_wp2_with (first
        | (go_at_call 29; (with_reducible refine (q29c _).mono ?_); rintro e w5 ⟨rfl, hb5⟩
           obtain ⟨w6, hw6⟩ : ∃ w6, w5.alloc (.cells #[.int .i64 c, .int .i64 1] 37) = w6 := ⟨_, rfl⟩
           have hb6 : Below w5.heap.size w5 w6 := by rw [← hw6]; exact (Below.refl _ _).alloc (Nat.le_refl _) _
           have o10 : Own2 w6 w5.heap.size (.int .i64 c) (.int .i64 1) := by rw [← hw6]; exact Own2.new _ _ _ _
           have hbr6 := hb5.trans (hb6.mono hb5.size)
           have hg10 : w5.heap.size < w6.heap.size := o10.lt
           clear hb5 hb6 q29c)
        | (go_at_call 29; (with_reducible refine (q290 _).mono ?_); rintro e w7 ⟨rfl, hb7⟩
           obtain ⟨w8, hw8⟩ : ∃ w8, w7.alloc (.cells #[.int .i64 0, .int .i64 1] 37) = w8 := ⟨_, rfl⟩
           have hb8 : Below w7.heap.size w7 w8 := by rw [← hw8]; exact (Below.refl _ _).alloc (Nat.le_refl _) _
           have b11 : BlkAt w8 w7.heap.size #[.int .i64 0, .int .i64 1] 37 := by rw [← hw8]; exact BlkAt.new _ _ _
           have o10 := (o10.after hb7).after hb8
           have hbr7 := hbr6.trans (hb7.mono hbr6.size)
           have hbr8 := hbr7.trans (hb8.mono hbr7.size)
           have hg11 : wi.heap.size ≤ w7.heap.size := hbr7.size
           have hne : ¬ w5.heap.size = w7.heap.size := by have := hb7.size; omega
           have hz8 := cell_below hz hbr8
           have hg57 : w5.heap.size < w7.heap.size := Nat.lt_of_lt_of_le hg10 hb7.size
           have hp8 : w7.heap.size < w8.heap.size := b11.lt
           clear hb7 hb8 q290))
      skip
      have hB0 : w7.heap.size ≤ w8.heap.size := Nat.le_of_lt hp8
      have hB1 := hg57
      refine (wpIn_wide (n := 0)).1 ?_
      refine Inv.region_inv (fun t act W => ∃ G, act = { tmps := #[Value.int IntKind.i64 3, Value.slice (some ⟨gz, oz, none⟩) n cap, Value.int IntKind.i64 E, undef, undef, undef, Value.slice none 0 0, Value.int IntKind.i64 S, Value.slice C k cc, Value.int IntKind.i64 (k : Nat), Value.pointer (some ⟨w5.heap.size, 0, none⟩), Value.pointer (some ⟨w7.heap.size, 0, none⟩), Value.slice (some ⟨gz, oz, none⟩) n cap, Value.int IntKind.i64 S, Value.int IntKind.i64 (k : Nat), Value.slice (some ⟨gz, oz, none⟩) n cap, Value.int IntKind.i64 (n : Nat), Value.bool true, u18, u19, Value.slice (some ⟨gz, oz, none⟩) n cap, Value.int IntKind.i64 (k : Nat), Value.pointer (some ⟨gz, oz + k, none⟩), Value.int IntKind.i64 c, Value.agg #[Value.int IntKind.i64 c, Value.int IntKind.i64 1], Value.agg #[Value.int IntKind.i64 0, Value.int IntKind.i64 1], Value.bool false, Value.int IntKind.i64 3, Value.bool false, Value.bool false, undef, undef, Value.bool false, u33, u34, u35, u36, u37, u38, u39, u40, Value.bool false, Value.int IntKind.i64 3, Value.bool false, u44, u45, u46, u47, u48, u49, Value.bool false, Value.int IntKind.i64 3, Value.bool false, u53, u54, u55, u56, u57, u58, u59, u60, u61, u62, Value.bool (decide (2 * E ≤ S)), Value.int IntKind.i64 3, Value.bool true, Value.bool true, Value.int IntKind.i64 E, Value.int IntKind.i64 (2 * E), Value.int IntKind.i64 S, Value.bool (decide (2 * E ≤ S)), Value.bool (decide (2 * E ≤ S)), u72, u73, u74, u75, u76, u77, u78, u79, Value.bool true, Value.int IntKind.i64 3, Value.bool true, if t 0 = true then .agg #[.int .i64 c, .int .i64 1] else u83, if t 1 = true then .slice (some ⟨gz, oz, none⟩) n cap else u84, if t 2 = true then .int .i64 S else u85, if t 3 = true then .int .i64 E else u86, if t 4 = true then .int .i64 (S - E) else u87, if t 5 = true then .int .i64 T else u88, if t 6 = true then .slice (some ⟨G, 0, none⟩) n n else u89, if t 7 = true then .int .i64 (k : Nat) else u90, if t 8 = true then .pointer (some ⟨G, k * 2, none⟩) else u91, if t 9 = true then .agg #[.int .i64 y0, .int .i64 y1] else u92, if t 10 = true then .agg #[.int .i64 x0, .int .i64 x1] else u93, if t 11 = true then .agg #[.int .i64 u0, .int .i64 u1] else u94, u95, u96, u97, u98, u99, u100, u101, u102, u103, u104, u105, u106, u107, u108, u109, u110, u111, u112, u113, undef], defers := [] } ∧ QcI w8 w7.heap.size 6 12 [8, 9, 10, 11, 12] w7.heap.size #[.int .i64 0, .int .i64 1] #[.int .i64 u0, .int .i64 u1] (fun G W => w8.heap.size ≤ G ∧ RowF W G n (lvF zs N L) n) t G W) mixed_ok (by kernel_rfl) ?_ ?_ ?_
      · intro t hs
        refine ⟨0, ?_, QcI.start b11 (hs 6 (by decide)) (hs 12 (by decide)) (fun i hi => hs i (by simp at hi; simp; omega))⟩
        simp only [hs 0 (by decide), hs 1 (by decide), hs 2 (by decide), hs 3 (by decide), hs 4 (by decide), hs 5 (by decide), hs 6 (by decide), hs 7 (by decide), hs 8 (by decide), hs 9 (by decide), hs 10 (by decide), hs 11 (by decide), hs 12 (by decide), Bool.false_eq_true, if_false]
      · refine ⟨?_, ?_, ?_, ?_, ?_, ?_, ?_, ?_, ?_, ?_, ?_, ?_, ?_, trivial⟩
        · rintro t act W hun hdep hbeh ⟨G, rfl, hT⟩
          (try simp only [Nat.reduceAdd] at hun)
          obtain ⟨c0, c1, f0, f1⟩ := o10.below hT.bw hB1
          refine .inl ⟨by rfl, Inv.comesV_val (.agg #[.int .i64 c, .int .i64 1]) W (by (go_simp; try rfl)) ⟨G, by (simp only [Act.put, List.setIfInBounds_toArray, List.set_cons_succ, List.set_cons_zero, Manyd.upd, Nat.reduceAdd, Nat.reduceBEq, Bool.or_false, Bool.or_true, if_true]), QcI.keep (i := 0) (by decide) (by decide) (by decide) hT⟩⟩
        · rintro t act W hun hdep hbeh ⟨G, rfl, hT⟩
          (try simp only [Nat.reduceAdd] at hun)
          refine .inl ⟨by rfl, Inv.comesV_val (.slice (some ⟨gz, oz, none⟩) n cap) W (by (go_simp; try rfl)) ⟨G, by (simp only [Act.put, List.setIfInBounds_toArray, List.set_cons_succ, List.set_cons_zero, Manyd.upd, Nat.reduceAdd, Nat.reduceBEq, Bool.or_false, Bool.or_true, if_true]), QcI.keep (i := 1) (by decide) (by decide) (by decide) hT⟩⟩
        · rintro t act W hun hdep hbeh ⟨G, rfl, hT⟩
          (try simp only [Nat.reduceAdd] at hun)
          refine .inl ⟨by rfl, Inv.comesV_val (.int .i64 S) W (by (go_simp; try rfl)) ⟨G, by (simp only [Act.put, List.setIfInBounds_toArray, List.set_cons_succ, List.set_cons_zero, Manyd.upd, Nat.reduceAdd, Nat.reduceBEq, Bool.or_false, Bool.or_true, if_true]), QcI.keep (i := 2) (by decide) (by decide) (by decide) hT⟩⟩
        · rintro t act W hun hdep hbeh ⟨G, rfl, hT⟩
          (try simp only [Nat.reduceAdd] at hun)
          refine .inl ⟨by rfl, Inv.comesV_val (.int .i64 E) W (by (go_simp; try rfl)) ⟨G, by (simp only [Act.put, List.setIfInBounds_toArray, List.set_cons_succ, List.set_cons_zero, Manyd.upd, Nat.reduceAdd, Nat.reduceBEq, Bool.or_false, Bool.or_true, if_true]), QcI.keep (i := 3) (by decide) (by decide) (by decide) hT⟩⟩
        · rintro t act W hun hdep hbeh ⟨G, rfl, hT⟩
          (try simp only [Nat.reduceAdd] at hun)
          have h2 : t 2 = true := Inv.depB_mem 2 hdep (by rfl)
          have h3 : t 3 = true := Inv.depB_mem 3 hdep (by rfl)
          refine .inl ⟨by rfl, Inv.comesV_val (.int .i64 (S - E)) W (by (simp only [h2, h3, if_true, Bool.false_eq_true, if_false]; go_simp; try rfl)) ⟨G, by (simp only [Act.put, List.setIfInBounds_toArray, List.set_cons_succ, List.set_cons_zero, Manyd.upd, Nat.reduceAdd, Nat.reduceBEq, Bool.or_false, Bool.or_true, if_true]), QcI.keep (i := 4) (by decide) (by decide) (by decide) hT⟩⟩
        · rintro t act W hun hdep hbeh ⟨G, rfl, hT⟩
          (try simp only [Nat.reduceAdd] at hun)
          have h4 : t 4 = true := Inv.depB_mem 4 hdep (by rfl)
          refine .inl ⟨by rfl, Inv.comesV_val (.int .i64 T) W (by (simp only [h4, if_true, Bool.false_eq_true, if_false]; go_simp; try rfl)) ⟨G, by (simp only [Act.put, List.setIfInBounds_toArray, List.set_cons_succ, List.set_cons_zero, Manyd.upd, Nat.reduceAdd, Nat.reduceBEq, Bool.or_false, Bool.or_true, if_true]), QcI.keep (i := 5) (by decide) (by decide) (by decide) hT⟩⟩
        · rintro t act W hun hdep hbeh ⟨G, rfl, hT⟩
          (try simp only [Nat.reduceAdd] at hun)
          have h1 : t 1 = true := Inv.depB_mem 1 hdep (by rfl)
          have h5 : t 5 = true := Inv.depB_mem 5 hdep (by rfl)
          refine .inl ⟨by rfl, Inv.comesV_call 66 #[.slice (some ⟨gz, oz, none⟩) n cap, .int .i64 T] W (by (simp only [h1, h5, if_true, Bool.false_eq_true, if_false]; go_simp; try rfl)) ((q66 W (hIn _ (hbr8.trans (hT.bw.mono hg11)))).mono fun e w5 hw5 => ?_)⟩
          obtain ⟨G, rfl, hG, hrow, hb⟩ := hw5
          have n8 : t 8 = false := hT.no 8 hun (by decide)
          have n9 : t 9 = false := hT.no 9 hun (by decide)
          have n10 : t 10 = false := hT.no 10 hun (by decide)
          have n11 : t 11 = false := hT.no 11 hun (by decide)
          have n12 : t 12 = false := hT.no 12 hun (by decide)
          exact ⟨_, rfl, G, by (simp only [Act.put, List.setIfInBounds_toArray, List.set_cons_succ, List.set_cons_zero, Manyd.upd, Nat.reduceAdd, Nat.reduceBEq, Bool.or_false, Bool.or_true, if_true, n8, n9, n10, n11, n12, Bool.false_eq_true, if_false]), QcI.call (by decide) ⟨Nat.le_trans hT.size hG, hrow⟩ hb hB0 hT⟩
        · rintro t act W hun hdep hbeh ⟨G, rfl, hT⟩
          (try simp only [Nat.reduceAdd] at hun)
          refine .inl ⟨by rfl, Inv.comesV_val (.int .i64 (k : Nat)) W (by (go_simp; try rfl)) ⟨G, by (simp only [Act.put, List.setIfInBounds_toArray, List.set_cons_succ, List.set_cons_zero, Manyd.upd, Nat.reduceAdd, Nat.reduceBEq, Bool.or_false, Bool.or_true, if_true]), QcI.keep (i := 7) (by decide) (by decide) (by decide) hT⟩⟩
        · rintro t act W hun hdep hbeh ⟨G, rfl, hT⟩
          (try simp only [Nat.reduceAdd] at hun)
          have h6 : t 6 = true := Inv.depB_mem 6 hdep (by rfl)
          have h7 : t 7 = true := Inv.depB_mem 7 hdep (by rfl)
          refine .inl ⟨by rfl, Inv.comesV_val (.pointer (some ⟨G, k * 2, none⟩)) W (by (simp only [h6, h7, if_true, Bool.false_eq_true, if_false]; go_simp; try rfl)) ⟨G, by (simp only [Act.put, List.setIfInBounds_toArray, List.set_cons_succ, List.set_cons_zero, Manyd.upd, Nat.reduceAdd, Nat.reduceBEq, Bool.or_false, Bool.or_true, if_true]), QcI.post (i := 8) h6 (by decide) (by decide) hT⟩⟩
        · rintro t act W hun hdep hbeh ⟨G, rfl, hT⟩
          (try simp only [Nat.reduceAdd] at hun)
          have h8 : t 8 = true := Inv.depB_mem 8 hdep (by rfl)
          obtain ⟨c0, c1⟩ := hlk _ _ (hT.res (hT.late 8 (by decide) h8)).2
          refine .inl ⟨by rfl, Inv.comesV_val (.agg #[.int .i64 y0, .int .i64 y1]) W (by (simp only [h8, if_true, Bool.false_eq_true, if_false]; go_simp; try rfl)) ⟨G, by (simp only [Act.put, List.setIfInBounds_toArray, List.set_cons_succ, List.set_cons_zero, Manyd.upd, Nat.reduceAdd, Nat.reduceBEq, Bool.or_false, Bool.or_true, if_true]), QcI.post (i := 9) (hT.late 8 (by decide) h8) (by decide) (by decide) hT⟩⟩
        · rintro t act W hun hdep hbeh ⟨G, rfl, hT⟩
          (try simp only [Nat.reduceAdd] at hun)
          have h9 : t 9 = true := Inv.depB_mem 9 hdep (by rfl)
          refine .inl ⟨by rfl, Inv.comesV_call 67 #[.agg #[.int .i64 y0, .int .i64 y1]] W (by (simp only [h9, if_true, Bool.false_eq_true, if_false]; go_simp; try rfl)) ((q67 W).mono fun e w5 hw5 => ⟨_, hw5.1, G, by (simp only [Act.put, List.setIfInBounds_toArray, List.set_cons_succ, List.set_cons_zero, Manyd.upd, Nat.reduceAdd, Nat.reduceBEq, Bool.or_false, Bool.or_true, if_true]), QcI.callk (i := 10) (hT.late 9 (by decide) h9) (by decide) (by decide) (fun h => ⟨h.1, h.2.after hw5.2⟩) hw5.2 hB0 hT⟩)⟩
        · rintro t act W hun hdep hbeh ⟨G, rfl, hT⟩
          (try simp only [Nat.reduceAdd] at hun)
          have h0 : t 0 = true := Inv.depB_mem 0 hdep (by rfl)
          have h10 : t 10 = true := Inv.depB_mem 10 hdep (by rfl)
          refine .inl ⟨by rfl, Inv.comesV_call 58 #[.agg #[.int .i64 c, .int .i64 1], .agg #[.int .i64 x0, .int .i64 x1]] W (by (simp only [h0, h10, if_true, Bool.false_eq_true, if_false]; go_simp; try rfl)) ((q58 W).mono fun e w5 hw5 => ⟨_, hw5.1, G, by (simp only [Act.put, List.setIfInBounds_toArray, List.set_cons_succ, List.set_cons_zero, Manyd.upd, Nat.reduceAdd, Nat.reduceBEq, Bool.or_false, Bool.or_true, if_true]), QcI.callk (i := 11) (hT.late 10 (by decide) h10) (by decide) (by decide) (fun h => ⟨h.1, h.2.after hw5.2⟩) hw5.2 hB0 hT⟩)⟩
        · rintro t act W hun hdep hbeh ⟨G, rfl, hT⟩
          (try simp only [Nat.reduceAdd] at hun)
          have h11 : t 11 = true := Inv.depB_mem 11 hdep (by rfl)
          obtain ⟨c50, c51, f50, f51⟩ := hT.own hun
          refine .inl ⟨by rfl, Inv.comesV_skip ((W.setCell ⟨w7.heap.size, 0, none⟩ (.int .i64 u0)).setCell ⟨w7.heap.size, 1, none⟩ (.int .i64 u1)) (by (simp only [h11, if_true, Bool.false_eq_true, if_false]; go_simp; try rfl)) ⟨G, by (simp only [Act.put, List.setIfInBounds_toArray, List.set_cons_succ, List.set_cons_zero, Manyd.upd, Nat.reduceAdd, Nat.reduceBEq, Bool.or_false, Bool.or_true, if_true]), QcI.set (hT.late 11 (by decide) h11) (by decide) hun (Nat.le_refl _) (fun h => ⟨h.1, (h.2.other (p := ⟨w7.heap.size, 0, none⟩) (by show ¬ G = w7.heap.size; have := h.1; omega) _).other (p := ⟨w7.heap.size, 1, none⟩) (by show ¬ G = w7.heap.size; have := h.1; omega) _⟩) hT⟩⟩
      rintro t a' wx hs ⟨G, rfl, hT⟩
      simp only [hs 0 (by decide), hs 1 (by decide), hs 2 (by decide), hs 3 (by decide), hs 4 (by decide), hs 5 (by decide), hs 6 (by decide), hs 7 (by decide), hs 8 (by decide), hs 9 (by decide), hs 10 (by decide), hs 11 (by decide), hs 12 (by decide), if_true]
      have ox := Own2.of (by have h := hT.var; rwa [if_pos (hs 12 (by decide))] at h)
      have hbrx : Below wi.heap.size wi wx := hbr8.trans (hT.bw.mono hg11)
      clear hT hs
      obtain ⟨wy, hwy⟩ : ∃ wy, wx.alloc (.cells #[.int .i64 u0, .int .i64 u1] 37) = wy := ⟨_, rfl⟩
      have hby : Below wx.heap.size wx wy := by rw [← hwy]; exact (Below.refl _ _).alloc (Nat.le_refl _) _
      have hbry := hbrx.trans (hby.mono hbrx.size)
      have hownY := own_aft hown.out hbry
      have hbY := hbw.trans (hbry.mono hbz)
      have hszY := hbY.size
      have hcY : ∀ j u, ([.int .i64 u0, .int .i64 u1] : List Value)[j]? = some u → wy.cell? ((⟨wx.heap.size, 0, none⟩ : Addr).add j) = some u := by
        intro j u hj
        rw [plain_add, Nat.zero_add, ← hwy, (BlkAt.new wx #[.int .i64 u0, .int .i64 u1] 37).cell]
        match j, hj with
        | 0, hj => simpa using hj
        | 1, hj => simpa using hj
        | j + 2, hj => simp at hj
      obtain ⟨cx0, cx1, fx0, fx1⟩ := ox
      go_wp2_with (first
        | (at_builtin; go_loud (
           refine wpList_append_own _ rfl _ _ 24 rfl w1.heap.size 37 i0 (.agg #[.int .i64 0, .int .i64 0]) 2 16 ty24 hi0 hz0 hz1 hz2 rfl (by decide) _ k (enc2 (aw.take k)) rfl hownY ⟨wx.heap.size, 0, none⟩ 1 1 [.int .i64 u0, .int .i64 u1] rfl rfl hcY (fun u hu => by simp only [List.mem_cons, List.not_mem_nil, or_false] at hu; rcases hu with rfl | rfl <;> rfl) (by unfold maxLen; omega) (by omega) hszY ?_
           intro v' w3 hown' hgrow3 hnil3
           have hbw3 : Below w1.heap.size w1 w3 := hbY.grown hgrow3 hszY (fun q hq => by
             rcases hownY.2 with ⟨h, _⟩ | ⟨gg, cc, cur, hh, hg', _⟩
             · injection h with h1 _ _; subst h1; cases hq
             · injection hh with h1 _ _; subst h1; cases hq; exact hg')
           have hres := hmap.out _ _ hown'
           obtain ⟨C6, c6, rfl⟩ := own_shp hres
           have hownK := Keep.mk hres
           clear hown' hres)))
      exact ⟨⟨k + 1, by omega, by go_num, ⟨C6, c6, rfl⟩, hownK, hbw3⟩, by simp [intOf]; omega⟩
    · obtain rfl : n = k := by omega
      have htake : aw.take n = aw := List.take_of_length_le (by have := halK.out; omega)
      have hown := hown.out
      rw [htake] at hown
      go_wp2
      go_ret
      exact ⟨_, rfl, hown, hbw⟩
end Go.Proofs.Ytbocmbhinjkjlaa
set_option linter.unusedSimpArgs false
set_option linter.unusedVariables false
namespace Go.Proofs.Ytbocmbhinjkjlaa
open Go Go.Proofs Go.RowKit Go.Seq Go.Sort
set_option maxHeartbeats 8000000 in
set_option maxRecDepth 100000 in
theorem refAward4h {v : Value} {zs : List Int} {E N L : Int} {w : World} (hc : IntsO w v zs) (hV : Valid zs) (hE : 0 ≤ E ∧ E ≤ zs.sum) (hLR : LevR 4 zs E N L) (hc0 : ¬ 2 * E ≤ zs.sum) :
    Calls Try.prog 26 #[.int .i64 4, v, .int .i64 E] w fun e w' => ∃ v', e = .returned v' ∧ w'.ownsRow w.heap.size 37 2 v' zs.length (enc2 (awL 4 zs E N L)) ∧ Below w.heap.size w w' := by
  obtain ⟨i0, hi0, hz0, hz1, hz2⟩ := info_parts info37
  have hS := sum_in hV
  have hVK := Keep.mk hV
  have hEK := Keep.mk hE
  have hcI := Keep.mk hc
  have q65 := total_any hc hV.2.1 hV.2.2
  obtain ⟨A, cap, rfl, hcell⟩ := hc
  have hcK := Keep.mk hcell
  obtain ⟨n, hn⟩ : ∃ n, Keep (zs.length = n) := ⟨_, ⟨rfl⟩⟩
  have hn10 : n ≤ 10 := by have := hV.2.1; have := hn.out; omega
  have hBd := Keep.mk (fun c hc => aw_Bd (r := 4) (c := c) (by omega) hV hE hLR hc)
  obtain ⟨aw, haw⟩ : ∃ aw, Keep (awL 4 zs E N L = aw) := ⟨_, ⟨rfl⟩⟩
  have hal : aw.length = n := by rw [← haw.out, awL_len]; exact hn.out
  have halK := Keep.mk hal
  have hLK := Keep.mk hLR
  have hT : 0 ≤ 2 * E - zs.sum ∧ 2 * E - zs.sum ≤ zs.sum := by omega
  have hlev : Lev zs (2 * E - zs.sum) N L := by
    have h := hLR.lev (by omega)
    have e : awE 4 zs.sum E = 2 * E - zs.sum := if_neg hc0
    rwa [e] at h
  have q66 := fun w (h : IntsO w (.slice A zs.length cap) zs) => refEqual_lev h hV hT hlev
  rw [hn.out] at q65 hcI q66 ⊢
  rw [haw.out]
  have hfv : Keep (∀ i, i < n → aw.getD i (0, 0) = (redN (awX 4 zs.sum E N L (zs.getD i 0)) (awD 4 zs.sum N), redD (awX 4 zs.sum E N L (zs.getD i 0)) (awD 4 zs.sum N))) := ⟨fun i hi => by rw [← haw.out, awL_get (by have := hn.out; omega)]; rfl⟩
  obtain ⟨S, hSS⟩ : ∃ S, Keep (zs.sum = S) := ⟨_, ⟨rfl⟩⟩
  rw [hSS.out] at q65 hE hS hfv hBd hc0 q66
  obtain ⟨T, hTT⟩ : ∃ T, Keep (2 * E - S = T) := ⟨_, ⟨rfl⟩⟩
  have wT : IntKind.i64.wrap (2 * E - S) = T := by rw [← hTT.out]; exact IntWalk.i64_in _ (by omega)
  rw [hTT.out] at q66
  have w2E : IntKind.i64.wrap (2 * E) = 2 * E := IntWalk.i64_in _ (by omega)
  have q290 := fun w => refWhole_any 0 w
  unfold fracV at q290
  clear hcell hV hlev hT hLR hal
  go_enter Try.func26, Try.ntmps26
  go_wp2_with (go_at_call 65; (with_reducible refine q65.mono ?_); rintro e w1 ⟨rfl, rfl⟩)
  go_loopw [8, 9] (fun s iv wr => ∃ k : Nat, k ≤ n ∧ iv = .int .i64 k ∧ (∃ C c, s = .slice C k c) ∧ Keep (wr.ownsRow w1.heap.size 37 2 s k (enc2 (aw.take k))) ∧ Below w1.heap.size w1 wr) (fun _ iv _ => n - (intOf iv).toNat)
  case atStart => exact ⟨0, by omega, rfl, ⟨none, 0, rfl⟩, ⟨World.ownsRow_nil _ _ _ _⟩, Below.refl _ _⟩
  case round =>
    obtain ⟨k, hk, rfl, ⟨C, cc, rfl⟩, hown, hbw⟩ := hrel
    have hbz := hbw.size
    by_cases hkn : k < n
    · have hkn' : (k : Int) < (n : Int) := by omega
      have hkl : k < zs.length := by have := hn.out; omega
      obtain ⟨gz, oz, rfl, hz00⟩ := hcK.out k hkl
      have hz := cell_below hz00 hbw
      have hcm := getz (zs := zs) hkl
      have hzb := hVK.out.2.2 _ hcm
      have hfk := Keep.mk (hfv.out k hkn)
      have hBc := hBd.out _ hcm
      have htk : Keep (aw.take (k + 1) = aw.take k ++ [aw.getD k (0, 0)]) := ⟨by
        rw [List.take_add_one, List.getElem?_eq_getElem (by have := halK.out; omega)]
        simp [List.getD, halK.out, hkn]⟩
      have hIn := fun W (hb : Below wr.heap.size wr W) => intsO_below hcI.out (hbw.trans (hb.mono hbz))
      have hlk : ∀ W (G : Nat), RowF W G n (lvF zs N L) n → W.cell? ⟨G, k * 2, none⟩ = some (.int .i64 (redN (mnI (zs.getD k 0 * N) L) N)) ∧ W.cell? ⟨G, k * 2 + 1, none⟩ = some (.int .i64 (redD (mnI (zs.getD k 0 * N) L) N)) := fun W G h => h.cell hkn
      have hN1 := hLK.out.n1
      have hN10 := hLK.out.n10
      have hl0 := hLK.out.l0
      have hl1 := hLK.out.l1
      have hmc := mnI_cases (zs.getD k 0 * N) L
      have hmul := mul_in (a := zs.getD k 0) (b := N) (A := 1000) (B := 10) hzb.1 hzb.2 (by omega) (by omega)
      rw [show awX 4 S E N L (zs.getD k 0) = zs.getD k 0 * N + mnI (zs.getD k 0 * N) L from if_neg (by omega), show awD 4 S N = 2 * N from rfl] at hfk
      generalize mnI (zs.getD k 0 * N) L = m at *
      generalize zs.getD k 0 = c at *
      have Bc : Bd c 1 := ⟨by omega, by omega, by omega, by omega⟩
      have q29c := fun w => refWhole_any c w
      unfold fracV at q29c
      have Bm : Bd m N := ⟨by omega, by omega, by omega, by omega⟩
      obtain ⟨y0, hy0⟩ : ∃ z, Keep (redN m N = z) := ⟨_, ⟨rfl⟩⟩
      obtain ⟨y1, hy1⟩ : ∃ z, Keep (redD m N = z) := ⟨_, ⟨rfl⟩⟩
      have q52 := fun w => refAdd_red Bc Bm w
      rw [redV_one, Int.mul_one, Int.one_mul] at q52
      have q67 := fun w => half_red (show Bd (c * N + m) N from ⟨by omega, by omega, by omega, by omega⟩) w
      unfold redV at q67 q52
      obtain ⟨u0, hu0⟩ : ∃ z, Keep (redN (c * N + m) (2 * N) = z) := ⟨_, ⟨rfl⟩⟩
      obtain ⟨u1, hu1⟩ : ∃ z, Keep (redD (c * N + m) (2 * N) = z) := ⟨_, ⟨rfl⟩⟩
      rw [hu0.out, hu1.out] at hfk
      have hmap : Keep (∀ (W : World) (v' : Value), W.ownsRow w1.heap.size 37 2 v' (k + 1) (enc2 (aw.take k) ++ [.int .i64 u0, .int .i64 u1]) → W.ownsRow w1.heap.size 37 2 v' (k + 1) (enc2 (aw.take (k + 1)))) := ⟨fun W v' h => by rw [htk.out, hfk.out, enc2_push]; exact h⟩
      obtain ⟨x0, hx0⟩ : ∃ z, Keep (redN (c * N + m) N = z) := ⟨_, ⟨rfl⟩⟩
      obtain ⟨x1, hx1⟩ : ∃ z, Keep (redD (c * N + m) N = z) := ⟨_, ⟨rfl⟩⟩
      rw [hy0.out, hy1.out, hx0.out, hx1.out] at q52
      rw [hx0.out, hx1.out, hu0.out, hu1.out] at q67
      rw [hy0.out, hy1.out] at hlk
      unfold fracV at q67 q52
      clear hmc hmul Bm hy0 hy1 hu0 hu1 hx0 hx1
      clear hcm hBc Bc hz00
      obtain ⟨wi, hwi⟩ : ∃ x, x = wr := ⟨_, rfl⟩
      subst hwi
      go_wp2_with (first
        | (go_at_call 29; (with_reducible refine (q29c _).mono ?_); rintro e w5 ⟨rfl, hb5⟩
           obtain ⟨w6, hw6⟩ : ∃ w6, w5.alloc (.cells #[.int .i64 c, .int .i64 1] 37) = w6 := ⟨_, rfl⟩
           have hb6 : Below w5.heap.size w5 w6 := by rw [← hw6]; exact (Below.refl _ _).alloc (Nat.le_refl _) _
           have o10 : Own2 w6 w5.heap.size (.int .i64 c) (.int .i64 1) := by rw [← hw6]; exact Own2.new _ _ _ _
           have hbr6 := hb5.trans (hb6.mono hb5.size)
           have hg10 : w5.heap.size < w6.heap.size := o10.lt
           clear hb5 hb6 q29c)
        | (go_at_call 29; (with_reducible refine (q290 _).mono ?_); rintro e w7 ⟨rfl, hb7⟩
           obtain ⟨w8, hw8⟩ : ∃ w8, w7.alloc (.cells #[.int .i64 0, .int .i64 1] 37) = w8 := ⟨_, rfl⟩
           have hb8 : Below w7.heap.size w7 w8 := by rw [← hw8]; exact (Below.refl _ _).alloc (Nat.le_refl _) _
           have b11 : BlkAt w8 w7.heap.size #[.int .i64 0, .int .i64 1] 37 := by rw [← hw8]; exact BlkAt.new _ _ _
           have o10 := (o10.after hb7).after hb8
           have hbr7 := hbr6.trans (hb7.mono hbr6.size)
           have hbr8 := hbr7.trans (hb8.mono hbr7.size)
           have hg11 : wi.heap.size ≤ w7.heap.size := hbr7.size
           have hne : ¬ w5.heap.size = w7.heap.size := by have := hb7.size; omega
           have hz8 := cell_below hz hbr8
           have hg57 : w5.heap.size < w7.heap.size := Nat.lt_of_lt_of_le hg10 hb7.size
           have hp8 : w7.heap.size < w8.heap.size := b11.lt
           clear hb7 hb8 q290))
      skip
      have hB0 : w7.heap.size ≤ w8.heap.size := Nat.le_of_lt hp8
      have hB1 := hg57
      refine (wpIn_wide (n := 0)).1 ?_
      refine Inv.region_inv (fun t act W => ∃ G, act = { tmps := #[Value.int IntKind.i64 4, Value.slice (some ⟨gz, oz, none⟩) n cap, Value.int IntKind.i64 E, undef, undef, undef, Value.slice none 0 0, Value.int IntKind.i64 S, Value.slice C k cc, Value.int IntKind.i64 (k : Nat), Value.pointer (some ⟨w5.heap.size, 0, none⟩), Value.pointer (some ⟨w7.heap.size, 0, none⟩), Value.slice (some ⟨gz, oz, none⟩) n cap, Value.int IntKind.i64 S, Value.int IntKind.i64 (k : Nat), Value.slice (some ⟨gz, oz, none⟩) n cap, Value.int IntKind.i64 (n : Nat), Value.bool true, u18, u19, Value.slice (some ⟨gz, oz, none⟩) n cap, Value.int IntKind.i64 (k : Nat), Value.pointer (some ⟨gz, oz + k, none⟩), Value.int IntKind.i64 c, Value.agg #[Value.int IntKind.i64 c, Value.int IntKind.i64 1], Value.agg #[Value.int IntKind.i64 0, Value.int IntKind.i64 1], Value.bool false, Value.int IntKind.i64 4, Value.bool false, Value.bool false, undef, undef, Value.bool false, u33, u34, u35, u36, u37, u38, u39, u40, Value.bool false, Value.int IntKind.i64 4, Value.bool false, u44, u45, u46, u47, u48, u49, Value.bool false, Value.int IntKind.i64 4, Value.bool false, u53, u54, u55, u56, u57, u58, u59, u60, u61, u62, Value.bool (decide (2 * E ≤ S)), Value.int IntKind.i64 4, Value.bool true, Value.bool true, Value.int IntKind.i64 E, Value.int IntKind.i64 (2 * E), Value.int IntKind.i64 S, Value.bool (decide (2 * E ≤ S)), Value.bool (decide (2 * E ≤ S)), u72, u73, u74, u75, u76, u77, u78, u79, Value.bool false, Value.int IntKind.i64 4, Value.bool false, u83, u84, u85, u86, u87, u88, u89, u90, u91, u92, u93, u94, Value.bool true, Value.int IntKind.i64 4, Value.bool true, if t 0 = true then .agg #[.int .i64 c, .int .i64 1] else u98, if t 1 = true then .slice (some ⟨gz, oz, none⟩) n cap else u99, if t 2 = true then .int .i64 E else u100, if t 3 = true then .int .i64 (2 * E) else u101, if t 4 = true then .int .i64 S else u102, if t 5 = true then .int .i64 T else u103, if t 6 = true then .slice (some ⟨G, 0, none⟩) n n else u104, if t 7 = true then .int .i64 (k : Nat) else u105, if t 8 = true then .pointer (some ⟨G, k * 2, none⟩) else u106, if t 9 = true then .agg #[.int .i64 y0, .int .i64 y1] else u107, if t 10 = true then .agg #[.int .i64 x0, .int .i64 x1] else u108, if t 11 = true then .agg #[.int .i64 u0, .int .i64 u1] else u109, u110, u111, u112, u113, undef], defers := [] } ∧ QcI w8 w7.heap.size 6 12 [8, 9, 10, 11, 12] w7.heap.size #[.int .i64 0, .int .i64 1] #[.int .i64 u0, .int .i64 u1] (fun G W => w8.heap.size ≤ G ∧ RowF W G n (lvF zs N L) n) t G W) mixed_ok (by kernel_rfl) ?_ ?_ ?_
      · intro t hs
        refine ⟨0, ?_, QcI.start b11 (hs 6 (by decide)) (hs 12 (by decide)) (fun i hi => hs i (by simp at hi; simp; omega))⟩
        simp only [hs 0 (by decide), hs 1 (by decide), hs 2 (by decide), hs 3 (by decide), hs 4 (by decide), hs 5 (by decide), hs 6 (by decide), hs 7 (by decide), hs 8 (by decide), hs 9 (by decide), hs 10 (by decide), hs 11 (by decide), hs 12 (by decide), Bool.false_eq_true, if_false]
      · refine ⟨?_, ?_, ?_, ?_, ?_, ?_, ?_, ?_, ?_, ?_, ?_, ?_, ?_, trivial⟩
        · rintro t act W hun hdep hbeh ⟨G, rfl, hT⟩
          (try simp only [Nat.reduceAdd] at hun)
          obtain ⟨c0, c1, f0, f1⟩ := o10.below hT.bw hB1
          refine .inl ⟨by rfl, Inv.comesV_val (.agg #[.int .i64 c, .int .i64 1]) W (by (go_simp; try rfl)) ⟨G, by (simp only [Act.put, List.setIfInBounds_toArray, List.set_cons_succ, List.set_cons_zero, Manyd.upd, Nat.reduceAdd, Nat.reduceBEq, Bool.or_false, Bool.or_true, if_true]), QcI.keep (i := 0) (by decide) (by decide) (by decide) hT⟩⟩
        · rintro t act W hun hdep hbeh ⟨G, rfl, hT⟩
          (try simp only [Nat.reduceAdd] at hun)
          refine .inl ⟨by rfl, Inv.comesV_val (.slice (some ⟨gz, oz, none⟩) n cap) W (by (go_simp; try rfl)) ⟨G, by (simp only [Act.put, List.setIfInBounds_toArray, List.set_cons_succ, List.set_cons_zero, Manyd.upd, Nat.reduceAdd, Nat.reduceBEq, Bool.or_false, Bool.or_true, if_true]), QcI.keep (i := 1) (by decide) (by decide) (by decide) hT⟩⟩
        · rintro t act W hun hdep hbeh ⟨G, rfl, hT⟩
          (try simp only [Nat.reduceAdd] at hun)
          refine .inl ⟨by rfl, Inv.comesV_val (.int .i64 E) W (by (go_simp; try rfl)) ⟨G, by (simp only [Act.put, List.setIfInBounds_toArray, List.set_cons_succ, List.set_cons_zero, Manyd.upd, Nat.reduceAdd, Nat.reduceBEq, Bool.or_false, Bool.or_true, if_true]), QcI.keep (i := 2) (by decide) (by decide) (by decide) hT⟩⟩
        · rintro t act W hun hdep hbeh ⟨G, rfl, hT⟩
          (try simp only [Nat.reduceAdd] at hun)
          have h2 : t 2 = true := Inv.depB_mem 2 hdep (by rfl)
          refine .inl ⟨by rfl, Inv.comesV_val (.int .i64 (2 * E)) W (by (simp only [h2, if_true, Bool.false_eq_true, if_false]; go_simp; try rfl)) ⟨G, by (simp only [Act.put, List.setIfInBounds_toArray, List.set_cons_succ, List.set_cons_zero, Manyd.upd, Nat.reduceAdd, Nat.reduceBEq, Bool.or_false, Bool.or_true, if_true]), QcI.keep (i := 3) (by decide) (by decide) (by decide) hT⟩⟩
        · rintro t act W hun hdep hbeh ⟨G, rfl, hT⟩
          (try simp only [Nat.reduceAdd] at hun)
          refine .inl ⟨by rfl, Inv.comesV_val (.int .i64 S) W (by (go_simp; try rfl)) ⟨G, by (simp only [Act.put, List.setIfInBounds_toArray, List.set_cons_succ, List.set_cons_zero, Manyd.upd, Nat.reduceAdd, Nat.reduceBEq, Bool.or_false, Bool.or_true, if_true]), QcI.keep (i := 4) (by decide) (by decide) (by decide) hT⟩⟩
        · rintro t act W hun hdep hbeh ⟨G, rfl, hT⟩
          (try simp only [Nat.reduceAdd] at hun)
          have h3 : t 3 = true := Inv.depB_mem 3 hdep (by rfl)
          have h4 : t 4 = true := Inv.depB_mem 4 hdep (by rfl)
          refine .inl ⟨by rfl, Inv.comesV_val (.int .i64 T) W (by (simp only [h3, h4, if_true, Bool.false_eq_true, if_false]; go_simp; try rfl)) ⟨G, by (simp only [Act.put, List.setIfInBounds_toArray, List.set_cons_succ, List.set_cons_zero, Manyd.upd, Nat.reduceAdd, Nat.reduceBEq, Bool.or_false, Bool.or_true, if_true]), QcI.keep (i := 5) (by decide) (by decide) (by decide) hT⟩⟩
        · rintro t act W hun hdep hbeh ⟨G, rfl, hT⟩
          (try simp only [Nat.reduceAdd] at hun)
          have h1 : t 1 = true := Inv.depB_mem 1 hdep (by rfl)
          have h5 : t 5 = true := Inv.depB_mem 5 hdep (by rfl)
          refine .inl ⟨by rfl, Inv.comesV_call 66 #[.slice (some ⟨gz, oz, none⟩) n cap, .int .i64 T] W (by (simp only [h1, h5, if_true, Bool.false_eq_true, if_false]; go_simp; try rfl)) ((q66 W (hIn _ (hbr8.trans (hT.bw.mono hg11)))).mono fun e w5 hw5 => ?_)⟩
          obtain ⟨G, rfl, hG, hrow, hb⟩ := hw5
          have n8 : t 8 = false := hT.no 8 hun (by decide)
          have n9 : t 9 = false := hT.no 9 hun (by decide)
          have n10 : t 10 = false := hT.no 10 hun (by decide)
          have n11 : t 11 = false := hT.no 11 hun (by decide)
          have n12 : t 12 = false := hT.no 12 hun (by decide)
          exact ⟨_, rfl, G, by (simp only [Act.put, List.setIfInBounds_toArray, List.set_cons_succ, List.set_cons_zero, Manyd.upd, Nat.reduceAdd, Nat.reduceBEq, Bool.or_false, Bool.or_true, if_true, n8, n9, n10, n11, n12, Bool.false_eq_true, if_false]), QcI.call (by decide) ⟨Nat.le_trans hT.size hG, hrow⟩ hb hB0 hT⟩
        · rintro t act W hun hdep hbeh ⟨G, rfl, hT⟩
          (try simp only [Nat.reduceAdd] at hun)
          refine .inl ⟨by rfl, Inv.comesV_val (.int .i64 (k : Nat)) W (by (go_simp; try rfl)) ⟨G, by (simp only [Act.put, List.setIfInBounds_toArray, List.set_cons_succ, List.set_cons_zero, Manyd.upd, Nat.reduceAdd, Nat.reduceBEq, Bool.or_false, Bool.or_true, if_true]), QcI.keep (i := 7) (by decide) (by decide) (by decide) hT⟩⟩
        · rintro t act W hun hdep hbeh ⟨G, rfl, hT⟩
          (try simp only [Nat.reduceAdd] at hun)
          have h6 : t 6 = true := Inv.depB_mem 6 hdep (by rfl)
          have h7 : t 7 = true := Inv.depB_mem 7 hdep (by rfl)
          refine .inl ⟨by rfl, Inv.comesV_val (.pointer (some ⟨G, k * 2, none⟩)) W (by (simp only [h6, h7, if_true, Bool.false_eq_true, if_false]; go_simp; try rfl)) ⟨G, by (simp only [Act.put, List.setIfInBounds_toArray, List.set_cons_succ, List.set_cons_zero, Manyd.upd, Nat.reduceAdd, Nat.reduceBEq, Bool.or_false, Bool.or_true, if_true]), QcI.post (i := 8) h6 (by decide) (by decide) hT⟩⟩
        · rintro t act W hun hdep hbeh ⟨G, rfl, hT⟩
          (try simp only [Nat.reduceAdd] at hun)
          have h8 : t 8 = true := Inv.depB_mem 8 hdep (by rfl)
          obtain ⟨c0, c1⟩ := hlk _ _ (hT.res (hT.late 8 (by decide) h8)).2
          refine .inl ⟨by rfl, Inv.comesV_val (.agg #[.int .i64 y0, .int .i64 y1]) W (by (simp only [h8, if_true, Bool.false_eq_true, if_false]; go_simp; try rfl)) ⟨G, by (simp only [Act.put, List.setIfInBounds_toArray, List.set_cons_succ, List.set_cons_zero, Manyd.upd, Nat.reduceAdd, Nat.reduceBEq, Bool.or_false, Bool.or_true, if_true]), QcI.post (i := 9) (hT.late 8 (by decide) h8) (by decide) (by decide) hT⟩⟩
        · rintro t act W hun hdep hbeh ⟨G, rfl, hT⟩
          (try simp only [Nat.reduceAdd] at hun)
          have h0 : t 0 = true := Inv.depB_mem 0 hdep (by rfl)
          have h9 : t 9 = true := Inv.depB_mem 9 hdep (by rfl)
          refine .inl ⟨by rfl, Inv.comesV_call 52 #[.agg #[.int .i64 c, .int .i64 1], .agg #[.int .i64 y0, .int .i64 y1]] W (by (simp only [h0, h9, if_true, Bool.false_eq_true, if_false]; go_simp; try rfl)) ((q52 W).mono fun e w5 hw5 => ⟨_, hw5.1, G, by (simp only [Act.put, List.setIfInBounds_toArray, List.set_cons_succ, List.set_cons_zero, Manyd.upd, Nat.reduceAdd, Nat.reduceBEq, Bool.or_false, Bool.or_true, if_true]), QcI.callk (i := 10) (hT.late 9 (by decide) h9) (by decide) (by decide) (fun h => ⟨h.1, h.2.after hw5.2⟩) hw5.2 hB0 hT⟩)⟩
        · rintro t act W hun hdep hbeh ⟨G, rfl, hT⟩
          (try simp only [Nat.reduceAdd] at hun)
          have h10 : t 10 = true := Inv.depB_mem 10 hdep (by rfl)
          refine .inl ⟨by rfl, Inv.comesV_call 67 #[.agg #[.int .i64 x0, .int .i64 x1]] W (by (simp only [h10, if_true, Bool.false_eq_true, if_false]; go_simp; try rfl)) ((q67 W).mono fun e w5 hw5 => ⟨_, hw5.1, G, by (simp only [Act.put, List.setIfInBounds_toArray, List.set_cons_succ, List.set_cons_zero, Manyd.upd, Nat.reduceAdd, Nat.reduceBEq, Bool.or_false, Bool.or_true, if_true]), QcI.callk (i := 11) (hT.late 10 (by decide) h10) (by decide) (by decide) (fun h => ⟨h.1, h.2.after hw5.2⟩) hw5.2 hB0 hT⟩)⟩
        · rintro t act W hun hdep hbeh ⟨G, rfl, hT⟩
          (try simp only [Nat.reduceAdd] at hun)
          have h11 : t 11 = true := Inv.depB_mem 11 hdep (by rfl)
          obtain ⟨c50, c51, f50, f51⟩ := hT.own hun
          refine .inl ⟨by rfl, Inv.comesV_skip ((W.setCell ⟨w7.heap.size, 0, none⟩ (.int .i64 u0)).setCell ⟨w7.heap.size, 1, none⟩ (.int .i64 u1)) (by (simp only [h11, if_true, Bool.false_eq_true, if_false]; go_simp; try rfl)) ⟨G, by (simp only [Act.put, List.setIfInBounds_toArray, List.set_cons_succ, List.set_cons_zero, Manyd.upd, Nat.reduceAdd, Nat.reduceBEq, Bool.or_false, Bool.or_true, if_true]), QcI.set (hT.late 11 (by decide) h11) (by decide) hun (Nat.le_refl _) (fun h => ⟨h.1, (h.2.other (p := ⟨w7.heap.size, 0, none⟩) (by show ¬ G = w7.heap.size; have := h.1; omega) _).other (p := ⟨w7.heap.size, 1, none⟩) (by show ¬ G = w7.heap.size; have := h.1; omega) _⟩) hT⟩⟩
      rintro t a' wx hs ⟨G, rfl, hT⟩
      simp only [hs 0 (by decide), hs 1 (by decide), hs 2 (by decide), hs 3 (by decide), hs 4 (by decide), hs 5 (by decide), hs 6 (by decide), hs 7 (by decide), hs 8 (by decide), hs 9 (by decide), hs 10 (by decide), hs 11 (by decide), hs 12 (by decide), if_true]
      have ox := Own2.of (by have h := hT.var; rwa [if_pos (hs 12 (by decide))] at h)
      have hbrx : Below wi.heap.size wi wx := hbr8.trans (hT.bw.mono hg11)
      clear hT hs
      obtain ⟨wy, hwy⟩ : ∃ wy, wx.alloc (.cells #[.int .i64 u0, .int .i64 u1] 37) = wy := ⟨_, rfl⟩
      have hby : Below wx.heap.size wx wy := by rw [← hwy]; exact (Below.refl _ _).alloc (Nat.le_refl _) _
      have hbry := hbrx.trans (hby.mono hbrx.size)
      have hownY := own_aft hown.out hbry
      have hbY := hbw.trans (hbry.mono hbz)
      have hszY := hbY.size
      have hcY : ∀ j u, ([.int .i64 u0, .int .i64 u1] : List Value)[j]? = some u → wy.cell? ((⟨wx.heap.size, 0, none⟩ : Addr).add j) = some u := by
        intro j u hj
        rw [plain_add, Nat.zero_add, ← hwy, (BlkAt.new wx #[.int .i64 u0, .int .i64 u1] 37).cell]
        match j, hj with
        | 0, hj => simpa using hj
        | 1, hj => simpa using hj
        | j + 2, hj => simp at hj
      obtain ⟨cx0, cx1, fx0, fx1⟩ := ox
      go_wp2_with (first
        | (at_builtin; go_loud (
           refine wpList_append_own _ rfl _ _ 24 rfl w1.heap.size 37 i0 (.agg #[.int .i64 0, .int .i64 0]) 2 16 ty24 hi0 hz0 hz1 hz2 rfl (by decide) _ k (enc2 (aw.take k)) rfl hownY ⟨wx.heap.size, 0, none⟩ 1 1 [.int .i64 u0, .int .i64 u1] rfl rfl hcY (fun u hu => by simp only [List.mem_cons, List.not_mem_nil, or_false] at hu; rcases hu with rfl | rfl <;> rfl) (by unfold maxLen; omega) (by omega) hszY ?_
           intro v' w3 hown' hgrow3 hnil3
           have hbw3 : Below w1.heap.size w1 w3 := hbY.grown hgrow3 hszY (fun q hq => by
             rcases hownY.2 with ⟨h, _⟩ | ⟨gg, cc, cur, hh, hg', _⟩
             · injection h with h1 _ _; subst h1; cases hq
             · injection hh with h1 _ _; subst h1; cases hq; exact hg')
           have hres := hmap.out _ _ hown'
           obtain ⟨C6, c6, rfl⟩ := own_shp hres
           have hownK := Keep.mk hres
           clear hown' hres)))
      exact ⟨⟨k + 1, by omega, by go_num, ⟨C6, c6, rfl⟩, hownK, hbw3⟩, by simp [intOf]; omega⟩
    · obtain rfl : n = k := by omega
      have htake : aw.take n = aw := List.take_of_length_le (by have := halK.out; omega)
      have hown := hown.out
      rw [htake] at hown
      go_wp2
      go_ret
      exact ⟨_, rfl, hown, hbw⟩
end Go.Proofs.Ytbocmbhinjkjlaa
