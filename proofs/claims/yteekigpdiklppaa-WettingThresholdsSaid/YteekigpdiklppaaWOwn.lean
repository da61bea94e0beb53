import Derived.Test.YteekigpdiklppaaWMono
set_option linter.unusedSimpArgs false
set_option linter.unusedVariables false
namespace Go.Proofs.Yteekigpdiklppaa
open Go Go.Proofs Go.RowKit Go.Seq
attribute [local go_sem] Oper.semAt_some
theorem kf_cg {rd : (Nat → Bool) → Nat → Bool} (hr : Infl rd) {s t : Nat → Bool} (h : ∀ j, j < 12 → s j = t j) : kfOf rd s = kfOf rd t := by
  unfold kfOf
  have e : (fun k => eqb (stg rd s (k + 1)) (stg rd s k)) = fun k => eqb (stg rd t (k + 1)) (stg rd t k) := by
    funext k
    exact eqb_cg (stg_cg hr h (k + 1)) (stg_cg hr h k)
  rw [e]
theorem clo_cg {rd : (Nat → Bool) → Nat → Bool} (hr : Infl rd) {s t : Nat → Bool} (h : ∀ j, j < 12 → s j = t j) : ∀ j, j < 12 → clo rd s j = clo rd t j := by
  unfold clo
  rw [kf_cg hr h]
  exact stg_cg hr h _
theorem zsOf_cg {s t : Nat → Bool} (h : ∀ j, j < 12 → s j = t j) : zsOf s = zsOf t := by unfold zsOf; rw [vsTo_cg 12 h]
theorem kf_closed {rd : (Nat → Bool) → Nat → Bool} {c : Nat → Bool} (h : ∀ j, j < 12 → rd c j = c j) : kfOf rd c = 0 := by
  have e : eqb (stg rd c (0 + 1)) (stg rd c 0) = true := eqb_iff.2 h
  have h13 : List.range 13 = 0 :: (List.range 12).map (· + 1) := by rfl
  unfold kfOf
  rw [h13, List.find?_cons_of_pos (p := fun k => eqb (stg rd c (k + 1)) (stg rd c k)) e]
  rfl
/-- A graph that tame gives. -/
structure GOk (N : Nat) (E : Pts) : Prop where
  n1 : 1 ≤ N
  n12 : N ≤ 12
  ok : TOk N E
theorem GOk.gr {N : Nat} {E : Pts} (h : GOk N E) : GrOk N E := ⟨by have := h.n1; omega, by have := h.n12; omega, h.ok.ed⟩
theorem GOk.len {N : Nat} {E : Pts} (h : GOk N E) : E.length ≤ 200 := Nat.le_trans h.ok.le (by omega)
theorem GOk.adj {N : Nat} {E : Pts} (h : GOk N E) {i j : Nat} (ha : adjOf E i j = true) : j < N := by
  unfold adjOf at ha
  rw [List.any_eq_true] at ha
  obtain ⟨p, hp, he⟩ := ha
  obtain ⟨p0, p1, p2⟩ := h.ok.mem hp
  simp only [Bool.or_eq_true, Bool.and_eq_true, beq_iff_eq] at he
  omega
/-- A set of the graph's places. -/
def InN (N : Nat) (s : Nat → Bool) : Prop := ∀ j, N ≤ j → j < 12 → s j = false
theorem InN.ok {N : Nat} {s : Nat → Bool} (h : InN N s) : ListOk N (zsOf s) := listOk_of h
theorem zs_len (s : Nat → Bool) : (zsOf s).length ≤ 100 := by rw [zsOf_len]; have := vsTo_len s 12; omega
theorem inN_clo {N : Nat} {E : Pts} {rd : (Nat → Bool) → Nat → Bool} (ha : Absorbs rd) (hc : ∀ j, j < 12 → rd (fun j => decide (j < N)) j = true → j < N) {s : Nat → Bool} (h : InN N s) : InN N (clo rd s) := by
  intro j h1 h2
  cases hj : clo rd s j with
  | false => rfl
  | true =>
    have := clo_least ha (s := s) (c := fun j => decide (j < N)) (fun k hk hs => by
      rcases Nat.lt_or_ge k N with h' | h'
      · exact decide_eq_true h'
      · rw [h k h' hk] at hs; cases hs) (fun k hk hr => decide_eq_true (hc k hk hr)) j h2 hj
    have := of_decide_eq_true this
    omega
theorem force_in {N : Nat} {E : Pts} (h : GOk N E) : ∀ j, j < 12 → fround (adjOf E) (fun j => decide (j < N)) j = true → j < N := by
  intro j hj hr
  rcases (force_iff _ _ j).1 hr with h1 | ⟨v, _, _, he⟩
  · exact of_decide_eq_true h1
  · obtain ⟨_, h2, _⟩ := onlyOf_some he
    rw [Bool.and_eq_true] at h2
    exact h.adj h2.1
theorem soak_in {N : Nat} {adj : Nat → Nat → Bool} {r : Int} : ∀ j, j < 12 → sokd N adj r (fun j => decide (j < N)) j = true → j < N := by
  intro j hj hr
  unfold sokd at hr
  split at hr
  · assumption
  · exact of_decide_eq_true hr
theorem inN_force {N : Nat} {E : Pts} (h : GOk N E) {s : Nat → Bool} (hs : InN N s) : InN N (clo (fround (adjOf E)) s) := inN_clo (E := E) (absorbs_force _) (force_in h) hs
theorem inN_soak {N : Nat} {E : Pts} (r : Int) (h : GOk N E) {s : Nat → Bool} (hs : InN N s) : InN N (clo (sokd N (adjOf E) r) s) := inN_clo (E := E) (absorbs_soak _ _ _) soak_in hs
theorem lists_of {w w' : World} {v : Value} {s t : Nat → Bool} (h : ListV w w' v s) (hc : ∀ j, j < 12 → s j = t j) : IntsO w' v (zsOf t) := by
  rw [← zsOf_cg hc]; exact ints_list h
theorem oClose {N : Nat} {E : Pts} {ve v : Value} {s : Nat → Bool} {w : World} (h : GOk N E) (he : PairsOf w ve E) (hs : InN N s) (hv : IntsO w v (zsOf s)) :
    Calls Try.prog 19 #[.int .i64 N, ve, v] w fun e w' => ∃ lv, e = .returned (.tuple #[lv, .int .i64 (kfOf (fround (adjOf E)) s), .int .i64 0]) ∧ IntsO w' lv (zsOf (clo (fround (adjOf E)) s)) ∧ Below w.heap.size w w' := by
  have hr := infl_force (adjOf E)
  have hc : ∀ j, j < 12 → setOf (zsOf s) j = s j := fun j hj => setOf_zsOf s hj
  refine (close_yes he h.gr h.len hv hs.ok (zs_len s) (stops_kf hr _)).mono ?_
  rintro e w' ⟨lv, h1, h2, h3⟩
  rw [kf_cg hr hc] at h1 h2
  exact ⟨lv, h1, lists_of h2 (stg_cg hr hc _), h3⟩
theorem oSoak {N : Nat} {E : Pts} {r : Int} {ve v : Value} {s : Nat → Bool} {w : World} (h : GOk N E) (hr1 : 1 ≤ r) (hr6 : r ≤ 6) (he : PairsOf w ve E) (hs : InN N s) (hv : IntsO w v (zsOf s)) :
    Calls Try.prog 30 #[.int .i64 N, ve, v, .int .i64 r] w fun e w' => ∃ lv, e = .returned (.tuple #[lv, .int .i64 (kfOf (sokd N (adjOf E) r) s), .int .i64 0]) ∧ IntsO w' lv (zsOf (clo (sokd N (adjOf E) r) s)) ∧ Below w.heap.size w w' := by
  have hr := infl_soak N (adjOf E) r
  have hc : ∀ j, j < 12 → setOf (zsOf s) j = s j := fun j hj => setOf_zsOf s hj
  refine (soak_yes he h.gr h.len hv hs.ok (zs_len s) hr1 hr6 (stops_kf hr _)).mono ?_
  rintro e w' ⟨lv, h1, h2, h3⟩
  rw [kf_cg hr hc] at h1 h2
  exact ⟨lv, h1, lists_of h2 (stg_cg hr hc _), h3⟩
theorem oFort {N : Nat} {E : Pts} {ve v : Value} {s : Nat → Bool} {w : World} (h : GOk N E) (he : PairsOf w ve E) (hs : InN N s) (hv : IntsO w v (zsOf s)) :
    Calls Try.prog 21 #[.int .i64 N, ve, v] w fun e w' => ∃ (lv : Value) (er : Int), e = .returned (.tuple #[lv, .int .i64 er]) ∧ ((eqb (clo (fround (adjOf E)) s) (allS N) = true ∧ er = 6) ∨ (eqb (clo (fround (adjOf E)) s) (allS N) = false ∧ er = 0 ∧ IntsO w' lv (zsOf fun j => allS N j && !clo (fround (adjOf E)) s j))) ∧ Below w.heap.size w w' := by
  have hr := infl_force (adjOf E)
  have hc : ∀ j, j < 12 → setOf (zsOf s) j = s j := fun j hj => setOf_zsOf s hj
  refine (fort_yes he h.gr h.len hv hs.ok (zs_len s) (stops_kf hr _)).mono ?_
  rintro e w' ⟨h1, h3⟩
  have hst := stg_cg hr hc (kfOf (fround (adjOf E)) s)
  rw [kf_cg hr hc] at h1
  rw [eqb_cg hst (fun _ _ => rfl)] at h1
  rcases h1 with ⟨e1, rfl⟩ | ⟨e1, lv, rfl, e2⟩
  · exact ⟨_, _, rfl, .inl ⟨e1, rfl⟩, h3⟩
  · exact ⟨_, _, rfl, .inr ⟨e1, rfl, lists_of e2 (fun j hj => by rw [hst j hj]; rfl)⟩, h3⟩
theorem oWithin {N : Nat} {v : Value} {s : Nat → Bool} {w : World} (hs : InN N s) (hv : IntsO w v (zsOf s)) : Calls Try.prog 52 #[.int .i64 N, v] w fun e w' => e = .returned (.bool true) ∧ Below w.heap.size w w' :=
  (within_yes hv hs.ok (Nat.le_trans (zs_len s) (by omega))).mono fun e w' ⟨h1, q, h2⟩ => ⟨h1, by rw [h2]; exact below_dn w q⟩
theorem someS_inN (N : Nat) (x : Int) : InN N (someS N x) := fun j h1 _ => someS_in x h1
/-! Numbers of sets add up. -/
theorem numTo_lt (s : Nat → Bool) (k : Nat) : numTo s k < 2 ^ k := Nat.lt_pow_two_of_testBit _ fun p hp => by rw [numTo_bit]; simp; omega
theorem numTo_add (s : Nat → Bool) (k : Nat) : numTo s (k + 1) = numTo s k + (if s k = true then 2 ^ k else 0) := by
  show numTo s k ||| (if s k = true then 2 ^ k else 0) = _
  split
  · have := Nat.two_pow_add_eq_or_of_lt (numTo_lt s k) 1
    rw [Nat.mul_one] at this
    rw [Nat.or_comm, ← this, Nat.add_comm]
  · simp
theorem numTo_sum {x y z : Nat → Bool} : ∀ k, (∀ j, j < k → (z j = true ↔ (x j = true ∨ y j = true)) ∧ ¬ (x j = true ∧ y j = true)) → numTo x k + numTo y k = numTo z k
  | 0, _ => rfl
  | k + 1, h => by
    have ih := numTo_sum k (fun j hj => h j (by omega))
    obtain ⟨h1, h2⟩ := h k (by omega)
    rw [numTo_add, numTo_add, numTo_add]
    cases hx : x k <;> cases hy : y k <;> cases hz : z k <;> simp_all <;> omega
theorem num_all {N : Nat} (hN : N ≤ 12) : num (allS N) = 2 ^ N - 1 := by
  have : N = 0 ∨ N = 1 ∨ N = 2 ∨ N = 3 ∨ N = 4 ∨ N = 5 ∨ N = 6 ∨ N = 7 ∨ N = 8 ∨ N = 9 ∨ N = 10 ∨ N = 11 ∨ N = 12 := by omega
  rcases this with h | h | h | h | h | h | h | h | h | h | h | h | h <;> subst h <;> rfl
theorem num_rest {N : Nat} (hN : N ≤ 12) {s : Nat → Bool} (hs : InN N s) : num (fun j => allS N j && !s j) + num s = 2 ^ N - 1 := by
  rw [← num_all hN]
  refine numTo_sum 12 (fun j hj => ?_)
  have h := hs j
  unfold allS
  rcases Nat.lt_or_ge j N with h' | h'
  · cases s j <;> simp [h']
  · rw [h h' hj]
    have : ¬ j < N := by omega
    simp [this]
theorem vsTo_all {N : Nat} (hN : N ≤ 12) : (vsTo (allS N) 12).length = N := by
  have : N = 0 ∨ N = 1 ∨ N = 2 ∨ N = 3 ∨ N = 4 ∨ N = 5 ∨ N = 6 ∨ N = 7 ∨ N = 8 ∨ N = 9 ∨ N = 10 ∨ N = 11 ∨ N = 12 := by omega
  rcases this with h | h | h | h | h | h | h | h | h | h | h | h | h <;> subst h <;> rfl
/-- All are wet exactly if so many are. -/
theorem full_iff {N : Nat} (hN : N ≤ 12) {s : Nat → Bool} (hs : InN N s) : (eqb s (allS N) = true → (vsTo s 12).length = N) ∧ (eqb s (allS N) = false → (vsTo s 12).length < N) := by
  constructor
  · intro h
    rw [vsTo_cg 12 (eqb_iff.1 h), vsTo_all hN]
  · intro h
    have e1 : vsTo s 12 = vsTo (fun u => decide (u < 12) && s u) 12 := vsTo_cg 12 (fun j hj => by simp [hj])
    have hne : ∃ j, j < 12 ∧ s j ≠ allS N j := by
      unfold eqb at h
      rw [List.all_eq_false] at h
      obtain ⟨j, hj, he⟩ := h
      exact ⟨j, by simpa using hj, by simpa using he⟩
    obtain ⟨j, hj, hd⟩ := hne
    have hjN : j < N := by
      rcases Nat.lt_or_ge j N with h' | h'
      · exact h'
      · exact absurd (by rw [hs j h' hj]; unfold allS; rw [decide_eq_false (by omega)]) hd
    have hsj : s j = false := by
      cases hs' : s j with
      | false => rfl
      | true => exact absurd (by rw [hs']; unfold allS; rw [decide_eq_true hjN]) hd
    have := (vsTo_mono (s := fun u => decide (u < 12) && s u) (t := allS N) (fun k hk => by
      rw [Bool.and_eq_true, decide_eq_true_eq] at hk
      unfold allS
      rcases Nat.lt_or_ge k N with h' | h'
      · exact decide_eq_true h'
      · rw [hs k h' hk.1] at hk; exact absurd hk.2 (by decide)) 12).2 ⟨j, hj, by simp [hsj], by unfold allS; exact decide_eq_true hjN⟩
    rw [vsTo_all hN, ← e1] at this
    exact this
end Go.Proofs.Yteekigpdiklppaa
