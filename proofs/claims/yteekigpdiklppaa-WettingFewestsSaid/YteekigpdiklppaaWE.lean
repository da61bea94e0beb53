import Derived.Test.YteekigpdiklppaaWD
set_option linter.unusedSimpArgs false
set_option linter.unusedVariables false
namespace Go.Proofs.Yteekigpdiklppaa
open Go Go.Proofs Go.RowKit Go.Seq
/-- The closure by a round. -/
def clo (rd : (Nat → Bool) → Nat → Bool) (s : Nat → Bool) : Nat → Bool := stg rd s (kfOf rd s)
theorem clo_closed {rd : (Nat → Bool) → Nat → Bool} (hr : Infl rd) (s : Nat → Bool) : ∀ j, j < 12 → rd (clo rd s) j = clo rd s j := eqb_iff.1 (stops_kf hr s).last
theorem stg_up {rd : (Nat → Bool) → Nat → Bool} (hr : Infl rd) (s : Nat → Bool) : ∀ i j, s j = true → stg rd s i j = true
  | 0, j, h => h
  | i + 1, j, h => hr.up _ _ (stg_up hr s i j h)
theorem clo_up {rd : (Nat → Bool) → Nat → Bool} (hr : Infl rd) (s : Nat → Bool) : ∀ j, s j = true → clo rd s j = true := stg_up hr s _
/-- Whatever holds the set and is closed holds the closure. -/
def Absorbs (rd : (Nat → Bool) → Nat → Bool) : Prop := ∀ s c, (∀ j, j < 12 → s j = true → c j = true) → (∀ j, j < 12 → rd c j = true → c j = true) → ∀ j, j < 12 → rd s j = true → c j = true
theorem clo_least {rd : (Nat → Bool) → Nat → Bool} (ha : Absorbs rd) {s c : Nat → Bool} (h : ∀ j, j < 12 → s j = true → c j = true) (hc : ∀ j, j < 12 → rd c j = true → c j = true) : ∀ j, j < 12 → clo rd s j = true → c j = true := by
  have : ∀ i j, j < 12 → stg rd s i j = true → c j = true := by
    intro i
    induction i with
    | zero => exact h
    | succ i ih => exact ha _ _ ih hc
  exact this _
theorem onlyOf_some {D : Nat → Bool} {u : Nat} (h : onlyOf D = (u : Int)) : u < 12 ∧ D u = true ∧ ∀ j, j < 12 → D j = true → j = u := by
  unfold onlyOf at h
  cases hx : vsTo D 12 with
  | nil => rw [hx] at h; simp at h
  | cons a l =>
    cases l with
    | cons b l => rw [hx] at h; simp at h
    | nil =>
      rw [hx] at h
      have e : a = u := by simp at h; omega
      subst e
      have hm : a ∈ vsTo D 12 := by rw [hx]; simp
      obtain ⟨h1, h2⟩ := vsTo_lt hm
      refine ⟨h1, h2, fun j hj hd => ?_⟩
      have : j ∈ vsTo D 12 := by unfold vsTo; rw [List.mem_filter]; exact ⟨by simpa using hj, hd⟩
      rw [hx] at this
      simpa using this
theorem onlyOf_one {D : Nat → Bool} {u : Nat} (h1 : u < 12) (h2 : D u = true) (h3 : ∀ j, j < 12 → D j = true → j = u) : onlyOf D = (u : Int) := by
  have hm : u ∈ vsTo D 12 := by unfold vsTo; rw [List.mem_filter]; exact ⟨by simpa using h1, h2⟩
  have hall : ∀ j ∈ vsTo D 12, j = u := fun j hj => h3 j (vsTo_lt hj).1 (vsTo_lt hj).2
  have hnd := vsTo_sorted D 12 0 1 (by omega)
  unfold onlyOf
  cases hx : vsTo D 12 with
  | nil => rw [hx] at hm; simp at hm
  | cons a l =>
    have ha : a = u := hall a (by rw [hx]; simp)
    cases l with
    | nil => rw [ha]
    | cons b l =>
      have hb : b = u := hall b (by rw [hx]; simp)
      rw [hx, ha, hb] at hnd
      have := hnd (by simp)
      simp at this
theorem force_iff (adj : Nat → Nat → Bool) (s : Nat → Bool) (j : Nat) : fround adj s j = true ↔ s j = true ∨ ∃ v, v < 12 ∧ s v = true ∧ onlyOf (fun u => adj v u && !s u) = (j : Int) := by
  unfold fround fcd
  rw [Bool.or_eq_true, List.any_eq_true]
  constructor
  · rintro (h | ⟨v, hv, he⟩)
    · exact .inl h
    · obtain ⟨h1, h2⟩ := vsTo_lt hv
      exact .inr ⟨v, h1, h2, by simpa using he⟩
  · rintro (h | ⟨v, h1, h2, he⟩)
    · exact .inl h
    · exact .inr ⟨v, by unfold vsTo; rw [List.mem_filter]; exact ⟨by simpa using h1, h2⟩, by simpa using he⟩
theorem absorbs_force (adj : Nat → Nat → Bool) : Absorbs (fround adj) := by
  intro s c hs hc j hj h
  rcases (force_iff adj s j).1 h with h | ⟨v, hv, hsv, he⟩
  · exact hs j hj h
  · obtain ⟨_, h2, h3⟩ := onlyOf_some he
    simp only [Bool.and_eq_true, Bool.not_eq_true'] at h2
    cases hcj : c j with
    | true => rfl
    | false =>
      have hone : onlyOf (fun u => adj v u && !c u) = (j : Int) := by
        refine onlyOf_one hj (by simp [h2.1, hcj]) (fun k hk hd => ?_)
        simp only [Bool.and_eq_true, Bool.not_eq_true'] at hd
        refine h3 k hk ?_
        cases hsk : s k with
        | false => simp [hd.1]
        | true => rw [hs k hk hsk] at hd; exact absurd hd.2 (by decide)
      have := hc j hj ((force_iff adj c j).2 (.inr ⟨v, hv, hs v hv hsv, hone⟩))
      rw [hcj] at this; exact this
theorem hit_mono (adj : Nat → Nat → Bool) {s c : Nat → Bool} (h : ∀ j, j < 12 → s j = true → c j = true) (v : Nat) : hit adj s v ≤ hit adj c v := by
  unfold hit
  have e : ∀ t : Nat → Bool, vsTo t 12 = vsTo (fun u => decide (u < 12) && t u) 12 := fun t => vsTo_cg 12 (fun j hj => by simp [hj])
  rw [e (fun u => adj v u && !s u), e (fun u => adj v u && !c u)]
  have := (vsTo_mono (s := fun u => decide (u < 12) && (adj v u && !c u)) (t := fun u => decide (u < 12) && (adj v u && !s u)) (fun j hj => by
    simp only [Bool.and_eq_true, decide_eq_true_eq, Bool.not_eq_true'] at hj ⊢
    refine ⟨hj.1, hj.2.1, ?_⟩
    cases hs : s j with
    | false => rfl
    | true => rw [h j hj.1 hs] at hj; exact absurd hj.2.2 (by decide)) 12).1
  omega
theorem absorbs_soak (n : Nat) (adj : Nat → Nat → Bool) (r : Int) : Absorbs (sokd n adj r) := by
  intro s c hs hc j hj h
  refine hc j hj ?_
  unfold sokd oneSo at h ⊢
  split at h
  · rename_i hn
    rw [if_pos hn]
    rw [Bool.or_eq_true] at h ⊢
    rcases h with h | h
    · exact .inl (hs j hj h)
    · exact .inr (by
        have h1 := of_decide_eq_true h
        have h2 := hit_mono adj hs j
        exact decide_eq_true (by omega))
  · rename_i hn
    rw [if_neg hn]; exact hs j hj h
theorem clo_mono {rd : (Nat → Bool) → Nat → Bool} (hr : Infl rd) (ha : Absorbs rd) {s t : Nat → Bool} (h : ∀ j, j < 12 → s j = true → t j = true) : ∀ j, j < 12 → clo rd s j = true → clo rd t j = true :=
  clo_least ha (fun j hj hs => clo_up hr t j (h j hj hs)) (fun j hj hc => by rw [clo_closed hr t j hj] at hc; exact hc)
/-- A closure is its own closure, in no round. -/
theorem kf_clo {rd : (Nat → Bool) → Nat → Bool} (hr : Infl rd) {c s : Nat → Bool} (h : ∀ j, j < 12 → c j = clo rd s j) : Stops rd c 0 :=
  ⟨by omega, eqb_iff.2 (fun j hj => by
    show rd c j = c j
    rw [hr.cg c (clo rd s) h j hj, clo_closed hr s j hj, h j hj]), fun i hi => by omega⟩
end Go.Proofs.Yteekigpdiklppaa
set_option linter.unusedSimpArgs false
set_option linter.unusedVariables false
namespace Go.Proofs.Yteekigpdiklppaa
open Go Go.Proofs Go.RowKit Go.Seq
attribute [local go_sem] Oper.semAt_some
theorem kf_cg {rd : (Nat → Bool) → Nat → Bool} (hr : Infl rd) {s t : Nat → Bool} (h : ∀ j, j < 12 → s j = t j) : kfOf rd s = kfOf rd t := by
  unfold kfOf
  have e : (fun k => eqb (stg rd s (k + 1)) (stg rd s k)) = fun k => eqb (stg rd t (k + 1)) (stg rd t k) := by
    funext k
    exact eqb_cg (stg_cg hr h (k + 1)) (stg_cg hr h k)
  rw [e]
theorem clo_cg {rd : (Nat → Bool) → Nat → Bool} (hr : Infl rd) {s t : Nat → Bool} (h : ∀ j, j < 12 → s j = t j) : ∀ j, j < 12 → clo rd s j = clo rd t j := by
  unfold clo
  rw [kf_cg hr h]
  exact stg_cg hr h _
theorem zsOf_cg {s t : Nat → Bool} (h : ∀ j, j < 12 → s j = t j) : zsOf s = zsOf t := by unfold zsOf; rw [vsTo_cg 12 h]
theorem kf_closed {rd : (Nat → Bool) → Nat → Bool} {c : Nat → Bool} (h : ∀ j, j < 12 → rd c j = c j) : kfOf rd c = 0 := by
  have e : eqb (stg rd c (0 + 1)) (stg rd c 0) = true := eqb_iff.2 h
  have h13 : List.range 13 = 0 :: (List.range 12).map (· + 1) := by rfl
  unfold kfOf
  rw [h13, List.find?_cons_of_pos (p := fun k => eqb (stg rd c (k + 1)) (stg rd c k)) e]
  rfl
/-- A graph that tame gives. -/
structure GOk (N : Nat) (E : Pts) : Prop where
  n1 : 1 ≤ N
  n12 : N ≤ 12
  ok : TOk N E
theorem GOk.gr {N : Nat} {E : Pts} (h : GOk N E) : GrOk N E := ⟨by have := h.n1; omega, by have := h.n12; omega, h.ok.ed⟩
theorem GOk.len {N : Nat} {E : Pts} (h : GOk N E) : E.length ≤ 200 := Nat.le_trans h.ok.le (by omega)
theorem GOk.adj {N : Nat} {E : Pts} (h : GOk N E) {i j : Nat} (ha : adjOf E i j = true) : j < N := by
  unfold adjOf at ha
  rw [List.any_eq_true] at ha
  obtain ⟨p, hp, he⟩ := ha
  obtain ⟨p0, p1, p2⟩ := h.ok.mem hp
  simp only [Bool.or_eq_true, Bool.and_eq_true, beq_iff_eq] at he
  omega
/-- A set of the graph's places. -/
def InN (N : Nat) (s : Nat → Bool) : Prop := ∀ j, N ≤ j → j < 12 → s j = false
theorem InN.ok {N : Nat} {s : Nat → Bool} (h : InN N s) : ListOk N (zsOf s) := listOk_of h
theorem zs_len (s : Nat → Bool) : (zsOf s).length ≤ 100 := by rw [zsOf_len]; have := vsTo_len s 12; omega
theorem inN_clo {N : Nat} {E : Pts} {rd : (Nat → Bool) → Nat → Bool} (ha : Absorbs rd) (hc : ∀ j, j < 12 → rd (fun j => decide (j < N)) j = true → j < N) {s : Nat → Bool} (h : InN N s) : InN N (clo rd s) := by
  intro j h1 h2
  cases hj : clo rd s j with
  | false => rfl
  | true =>
    have := clo_least ha (s := s) (c := fun j => decide (j < N)) (fun k hk hs => by
      rcases Nat.lt_or_ge k N with h' | h'
      · exact decide_eq_true h'
      · rw [h k h' hk] at hs; cases hs) (fun k hk hr => decide_eq_true (hc k hk hr)) j h2 hj
    have := of_decide_eq_true this
    omega
theorem force_in {N : Nat} {E : Pts} (h : GOk N E) : ∀ j, j < 12 → fround (adjOf E) (fun j => decide (j < N)) j = true → j < N := by
  intro j hj hr
  rcases (force_iff _ _ j).1 hr with h1 | ⟨v, _, _, he⟩
  · exact of_decide_eq_true h1
  · obtain ⟨_, h2, _⟩ := onlyOf_some he
    rw [Bool.and_eq_true] at h2
    exact h.adj h2.1
theorem soak_in {N : Nat} {adj : Nat → Nat → Bool} {r : Int} : ∀ j, j < 12 → sokd N adj r (fun j => decide (j < N)) j = true → j < N := by
  intro j hj hr
  unfold sokd at hr
  split at hr
  · assumption
  · exact of_decide_eq_true hr
theorem inN_force {N : Nat} {E : Pts} (h : GOk N E) {s : Nat → Bool} (hs : InN N s) : InN N (clo (fround (adjOf E)) s) := inN_clo (E := E) (absorbs_force _) (force_in h) hs
theorem inN_soak {N : Nat} {E : Pts} (r : Int) (h : GOk N E) {s : Nat → Bool} (hs : InN N s) : InN N (clo (sokd N (adjOf E) r) s) := inN_clo (E := E) (absorbs_soak _ _ _) soak_in hs
theorem lists_of {w w' : World} {v : Value} {s t : Nat → Bool} (h : ListV w w' v s) (hc : ∀ j, j < 12 → s j = t j) : IntsO w' v (zsOf t) := by
  rw [← zsOf_cg hc]; exact ints_list h
theorem oClose {N : Nat} {E : Pts} {ve v : Value} {s : Nat → Bool} {w : World} (h : GOk N E) (he : PairsOf w ve E) (hs : InN N s) (hv : IntsO w v (zsOf s)) :
    Calls Try.prog 19 #[.int .i64 N, ve, v] w fun e w' => ∃ lv, e = .returned (.tuple #[lv, .int .i64 (kfOf (fround (adjOf E)) s), .int .i64 0]) ∧ IntsO w' lv (zsOf (clo (fround (adjOf E)) s)) ∧ Below w.heap.size w w' := by
  have hr := infl_force (adjOf E)
  have hc : ∀ j, j < 12 → setOf (zsOf s) j = s j := fun j hj => setOf_zsOf s hj
  refine (close_yes he h.gr h.len hv hs.ok (zs_len s) (stops_kf hr _)).mono ?_
  rintro e w' ⟨lv, h1, h2, h3⟩
  rw [kf_cg hr hc] at h1 h2
  exact ⟨lv, h1, lists_of h2 (stg_cg hr hc _), h3⟩
theorem oSoak {N : Nat} {E : Pts} {r : Int} {ve v : Value} {s : Nat → Bool} {w : World} (h : GOk N E) (hr1 : 1 ≤ r) (hr6 : r ≤ 6) (he : PairsOf w ve E) (hs : InN N s) (hv : IntsO w v (zsOf s)) :
    Calls Try.prog 30 #[.int .i64 N, ve, v, .int .i64 r] w fun e w' => ∃ lv, e = .returned (.tuple #[lv, .int .i64 (kfOf (sokd N (adjOf E) r) s), .int .i64 0]) ∧ IntsO w' lv (zsOf (clo (sokd N (adjOf E) r) s)) ∧ Below w.heap.size w w' := by
  have hr := infl_soak N (adjOf E) r
  have hc : ∀ j, j < 12 → setOf (zsOf s) j = s j := fun j hj => setOf_zsOf s hj
  refine (soak_yes he h.gr h.len hv hs.ok (zs_len s) hr1 hr6 (stops_kf hr _)).mono ?_
  rintro e w' ⟨lv, h1, h2, h3⟩
  rw [kf_cg hr hc] at h1 h2
  exact ⟨lv, h1, lists_of h2 (stg_cg hr hc _), h3⟩
theorem oFort {N : Nat} {E : Pts} {ve v : Value} {s : Nat → Bool} {w : World} (h : GOk N E) (he : PairsOf w ve E) (hs : InN N s) (hv : IntsO w v (zsOf s)) :
    Calls Try.prog 21 #[.int .i64 N, ve, v] w fun e w' => ∃ (lv : Value) (er : Int), e = .returned (.tuple #[lv, .int .i64 er]) ∧ ((eqb (clo (fround (adjOf E)) s) (allS N) = true ∧ er = 6) ∨ (eqb (clo (fround (adjOf E)) s) (allS N) = false ∧ er = 0 ∧ IntsO w' lv (zsOf fun j => allS N j && !clo (fround (adjOf E)) s j))) ∧ Below w.heap.size w w' := by
  have hr := infl_force (adjOf E)
  have hc : ∀ j, j < 12 → setOf (zsOf s) j = s j := fun j hj => setOf_zsOf s hj
  refine (fort_yes he h.gr h.len hv hs.ok (zs_len s) (stops_kf hr _)).mono ?_
  rintro e w' ⟨h1, h3⟩
  have hst := stg_cg hr hc (kfOf (fround (adjOf E)) s)
  rw [kf_cg hr hc] at h1
  rw [eqb_cg hst (fun _ _ => rfl)] at h1
  rcases h1 with ⟨e1, rfl⟩ | ⟨e1, lv, rfl, e2⟩
  · exact ⟨_, _, rfl, .inl ⟨e1, rfl⟩, h3⟩
  · exact ⟨_, _, rfl, .inr ⟨e1, rfl, lists_of e2 (fun j hj => by rw [hst j hj]; rfl)⟩, h3⟩
theorem oWithin {N : Nat} {v : Value} {s : Nat → Bool} {w : World} (hs : InN N s) (hv : IntsO w v (zsOf s)) : Calls Try.prog 52 #[.int .i64 N, v] w fun e w' => e = .returned (.bool true) ∧ Below w.heap.size w w' :=
  (within_yes hv hs.ok (Nat.le_trans (zs_len s) (by omega))).mono fun e w' ⟨h1, q, h2⟩ => ⟨h1, by rw [h2]; exact below_dn w q⟩
theorem someS_inN (N : Nat) (x : Int) : InN N (someS N x) := fun j h1 _ => someS_in x h1
/-! Numbers of sets add up. -/
theorem numTo_lt (s : Nat → Bool) (k : Nat) : numTo s k < 2 ^ k := Nat.lt_pow_two_of_testBit _ fun p hp => by rw [numTo_bit]; simp; omega
theorem numTo_add (s : Nat → Bool) (k : Nat) : numTo s (k + 1) = numTo s k + (if s k = true then 2 ^ k else 0) := by
  show numTo s k ||| (if s k = true then 2 ^ k else 0) = _
  split
  · have := Nat.two_pow_add_eq_or_of_lt (numTo_lt s k) 1
    rw [Nat.mul_one] at this
    rw [Nat.or_comm, ← this, Nat.add_comm]
  · simp
theorem numTo_sum {x y z : Nat → Bool} : ∀ k, (∀ j, j < k → (z j = true ↔ (x j = true ∨ y j = true)) ∧ ¬ (x j = true ∧ y j = true)) → numTo x k + numTo y k = numTo z k
  | 0, _ => rfl
  | k + 1, h => by
    have ih := numTo_sum k (fun j hj => h j (by omega))
    obtain ⟨h1, h2⟩ := h k (by omega)
    rw [numTo_add, numTo_add, numTo_add]
    cases hx : x k <;> cases hy : y k <;> cases hz : z k <;> simp_all <;> omega
theorem num_all {N : Nat} (hN : N ≤ 12) : num (allS N) = 2 ^ N - 1 := by
  have : N = 0 ∨ N = 1 ∨ N = 2 ∨ N = 3 ∨ N = 4 ∨ N = 5 ∨ N = 6 ∨ N = 7 ∨ N = 8 ∨ N = 9 ∨ N = 10 ∨ N = 11 ∨ N = 12 := by omega
  rcases this with h | h | h | h | h | h | h | h | h | h | h | h | h <;> subst h <;> rfl
theorem num_rest {N : Nat} (hN : N ≤ 12) {s : Nat → Bool} (hs : InN N s) : num (fun j => allS N j && !s j) + num s = 2 ^ N - 1 := by
  rw [← num_all hN]
  refine numTo_sum 12 (fun j hj => ?_)
  have h := hs j
  unfold allS
  rcases Nat.lt_or_ge j N with h' | h'
  · cases s j <;> simp [h']
  · rw [h h' hj]
    have : ¬ j < N := by omega
    simp [this]
theorem vsTo_all {N : Nat} (hN : N ≤ 12) : (vsTo (allS N) 12).length = N := by
  have : N = 0 ∨ N = 1 ∨ N = 2 ∨ N = 3 ∨ N = 4 ∨ N = 5 ∨ N = 6 ∨ N = 7 ∨ N = 8 ∨ N = 9 ∨ N = 10 ∨ N = 11 ∨ N = 12 := by omega
  rcases this with h | h | h | h | h | h | h | h | h | h | h | h | h <;> subst h <;> rfl
/-- All are wet exactly if so many are. -/
theorem full_iff {N : Nat} (hN : N ≤ 12) {s : Nat → Bool} (hs : InN N s) : (eqb s (allS N) = true → (vsTo s 12).length = N) ∧ (eqb s (allS N) = false → (vsTo s 12).length < N) := by
  constructor
  · intro h
    rw [vsTo_cg 12 (eqb_iff.1 h), vsTo_all hN]
  · intro h
    have e1 : vsTo s 12 = vsTo (fun u => decide (u < 12) && s u) 12 := vsTo_cg 12 (fun j hj => by simp [hj])
    have hne : ∃ j, j < 12 ∧ s j ≠ allS N j := by
      unfold eqb at h
      rw [List.all_eq_false] at h
      obtain ⟨j, hj, he⟩ := h
      exact ⟨j, by simpa using hj, by simpa using he⟩
    obtain ⟨j, hj, hd⟩ := hne
    have hjN : j < N := by
      rcases Nat.lt_or_ge j N with h' | h'
      · exact h'
      · exact absurd (by rw [hs j h' hj]; unfold allS; rw [decide_eq_false (by omega)]) hd
    have hsj : s j = false := by
      cases hs' : s j with
      | false => rfl
      | true => exact absurd (by rw [hs']; unfold allS; rw [decide_eq_true hjN]) hd
    have := (vsTo_mono (s := fun u => decide (u < 12) && s u) (t := allS N) (fun k hk => by
      rw [Bool.and_eq_true, decide_eq_true_eq] at hk
      unfold allS
      rcases Nat.lt_or_ge k N with h' | h'
      · exact decide_eq_true h'
      · rw [hs k h' hk.1] at hk; exact absurd hk.2 (by decide)) 12).2 ⟨j, hj, by simp [hsj], by unfold allS; exact decide_eq_true hjN⟩
    rw [vsTo_all hN, ← e1] at this
    exact this
end Go.Proofs.Yteekigpdiklppaa
set_option linter.unusedSimpArgs false
set_option linter.unusedVariables false
namespace Go.Proofs.Yteekigpdiklppaa
open Go Go.Proofs Go.RowKit Go.Seq
attribute [local go_sem] Oper.semAt_some
/-! Forts: what the search finds, their unions, and the greatest one beside a set. -/
theorem fillL_in (n : Nat) : ∀ m s v s', s' ∈ fillL n m s v → ∀ j, n ≤ j → s' j = s j
  | 0, s, v, s', h, j, hj => by
    simp only [fillL, List.mem_singleton] at h; rw [h]
  | m + 1, s, v, s', h, j, hj => by
    simp only [fillL, List.mem_flatMap, List.mem_range'_1] at h
    obtain ⟨u, hu, h⟩ := h
    rw [fillL_in n m _ _ _ h j hj]
    unfold adds
    rw [if_neg (by omega)]
theorem setsTo_in {n k : Nat} {s : Nat → Bool} (h : s ∈ setsTo n k) : InN n s := fun j h1 h2 => by
  unfold setsTo at h
  simp only [List.mem_flatMap] at h
  obtain ⟨i, _, h⟩ := h
  exact fillL_in n _ _ _ _ h j h1
theorem fillL_all (n : Nat) : ∀ m s v, v + m = n → ∃ s' ∈ fillL n m s v, ∀ j, s' j = (s j || (decide (v ≤ j) && decide (j < n)))
  | 0, s, v, h => ⟨s, by simp [fillL], fun j => by
    have : (decide (v ≤ j) && decide (j < n)) = false := by simp; omega
    rw [this]; simp⟩
  | m + 1, s, v, h => by
    obtain ⟨s', h1, h2⟩ := fillL_all n m (adds s v) (v + 1) (by omega)
    refine ⟨s', ?_, fun j => ?_⟩
    · simp only [fillL, List.mem_flatMap, List.mem_range'_1]
      exact ⟨v, by omega, h1⟩
    · rw [h2 j]
      unfold adds
      by_cases e : j = v
      · subst e; simp; omega
      · rw [if_neg e]
        congr 2
        simp only [decide_eq_decide]; omega
theorem stepF_mem {n : Nat} {adj : Nat → Nat → Bool} {st : Hst} {s : Nat → Bool} {P : (Nat → Bool) → Prop} (h : ∀ F ∈ st.2, P F) (hs : isF n adj s = true → P s) : ∀ F ∈ (stepF n adj st s).2, P F := by
  unfold stepF
  split
  · exact h
  · split
    · rename_i hf
      intro F hF
      rcases List.mem_append.1 hF with hF | hF
      · exact h F hF
      · rw [List.mem_singleton.1 hF]; exact hs hf
    · exact h
theorem foldF_mem {n : Nat} {adj : Nat → Nat → Bool} {P : (Nat → Bool) → Prop} : ∀ (pre : List (Nat → Bool)) (st : Hst), (∀ F ∈ st.2, P F) → (∀ s ∈ pre, isF n adj s = true → P s) → ∀ F ∈ (pre.foldl (stepF n adj) st).2, P F
  | [], st, h, hs => h
  | s :: pre, st, h, hs => foldF_mem pre _ (stepF_mem h (hs s (List.mem_cons_self ..))) (fun t ht => hs t (List.mem_cons_of_mem _ ht))
theorem forts_mem {n : Nat} {adj : Nat → Nat → Bool} {F : Nat → Bool} (h : F ∈ fortsOf n adj) : isF n adj F = true ∧ InN n F :=
  foldF_mem (P := fun F => isF n adj F = true ∧ InN n F) (setsTo n n) _ (fun F hF => by simp at hF) (fun s hs hf => ⟨hf, setsTo_in hs⟩) F h
theorem stepF_len' (n : Nat) (adj : Nat → Nat → Bool) (st : Hst) (s : Nat → Bool) : st.2.length ≤ (stepF n adj st s).2.length := by
  unfold stepF
  split
  · exact Nat.le_refl _
  · split
    · simp
    · exact Nat.le_refl _
theorem foldF_ge {n : Nat} {adj : Nat → Nat → Bool} : ∀ (pre : List (Nat → Bool)) (st : Hst), st.2.length ≤ (pre.foldl (stepF n adj) st).2.length
  | [], st => Nat.le_refl _
  | s :: pre, st => Nat.le_trans (stepF_len' n adj st s) (foldF_ge pre _)
theorem foldF_none {n : Nat} {adj : Nat → Nat → Bool} : ∀ (pre : List (Nat → Bool)) (st : Hst), st.1 = (fun _ => false) → (pre.foldl (stepF n adj) st).2.length = 0 → ∀ s ∈ pre, isF n adj s = false
  | [], st, h, hl, s, hs => by simp at hs
  | t :: pre, st, h, hl, s, hs => by
    have hge := foldF_ge (n := n) (adj := adj) pre (stepF n adj st t)
    rw [List.foldl_cons] at hl
    have h0 : (stepF n adj st t).2.length = 0 := by omega
    have hno : ¬ ((vsTo t 12).any fun v => st.1 (woS t v)) = true := by rw [h]; simp
    have hst : isF n adj t = false ∧ stepF n adj st t = st := by
      unfold stepF at h0 ⊢
      rw [if_neg hno] at h0 ⊢
      cases hf : isF n adj t with
      | true => rw [hf, if_pos rfl] at h0; simp at h0
      | false => exact ⟨rfl, by simp⟩
    rcases List.mem_cons.1 hs with rfl | hs
    · exact hst.1
    · exact foldF_none pre _ (by rw [hst.2]; exact h) hl s hs
theorem fround_none (adj : Nat → Nat → Bool) {s : Nat → Bool} (h : ∀ j, j < 12 → s j = false) : ∀ j, j < 12 → fround adj s j = false := fun j hj => by
  cases e : fround adj s j with
  | false => rfl
  | true =>
    rcases (force_iff adj s j).1 e with h1 | ⟨v, hv, hs, _⟩
    · rw [h j hj] at h1; cases h1
    · rw [h v hv] at hs; cases hs
theorem isF_iff {n : Nat} {adj : Nat → Nat → Bool} {s : Nat → Bool} : isF n adj s = true ↔ (∃ j, j < 12 ∧ s j = true) ∧ ∀ j, j < 12 → fround adj (dryS n s) j = dryS n s j := by
  unfold isF
  rw [Bool.and_eq_true, eqb_iff, Bool.not_eq_true']
  refine and_congr_left fun _ => ?_
  constructor
  · intro h
    refine Classical.byContradiction fun hc => ?_
    have : eqb s (fun _ => false) = true := eqb_iff.2 fun j hj => by
      cases e : s j with
      | false => rfl
      | true => exact absurd ⟨j, hj, e⟩ hc
    rw [this] at h; cases h
  · rintro ⟨j, hj, hs⟩
    cases e : eqb s (fun _ => false) with
    | false => rfl
    | true => have := eqb_iff.1 e j hj; rw [hs] at this; cases this
theorem forts_ne {n : Nat} (h1 : 1 ≤ n) (h12 : n ≤ 12) (adj : Nat → Nat → Bool) : 0 < (fortsOf n adj).length := by
  refine Nat.pos_of_ne_zero fun h0 => ?_
  obtain ⟨s, hs, ha⟩ := fillL_all n n (fun _ => false) 0 (by omega)
  have hm : s ∈ setsTo n n := by
    unfold setsTo
    simp only [List.mem_flatMap, List.mem_range]
    exact ⟨n - 1, by omega, by rw [show n - 1 + 1 = n by omega]; exact hs⟩
  have hf := foldF_none (setsTo n n) (fun _ => false, []) rfl h0 s hm
  have hd : ∀ j, dryS n s j = false := fun j => by
    unfold dryS; rw [ha j]; simp
  have : isF n adj s = true := isF_iff.2 ⟨⟨0, by omega, by rw [ha 0]; simp; omega⟩, fun j hj => by
    rw [hd j]; exact fround_none adj (fun j _ => hd j) j hj⟩
  rw [this] at hf; cases hf
theorem dry_cg {n : Nat} {s t : Nat → Bool} (h : ∀ j, j < 12 → s j = t j) : ∀ j, j < 12 → dryS n s j = dryS n t j := fun j hj => by unfold dryS; rw [h j hj]
theorem isF_cg {n : Nat} {adj : Nat → Nat → Bool} {s t : Nat → Bool} (h : ∀ j, j < 12 → s j = t j) : isF n adj s = isF n adj t := by
  unfold isF
  rw [eqb_cg h (fun _ _ => rfl), eqb_cg ((infl_force adj).cg _ _ (dry_cg h)) (dry_cg h)]
/-- The union of two forts is one. -/
theorem union_fort {n : Nat} {adj : Nat → Nat → Bool} {A B : Nat → Bool} (hA : isF n adj A = true) (hB : isF n adj B = true) : isF n adj (fun j => A j || B j) = true := by
  obtain ⟨⟨j0, hj0, h0⟩, hA⟩ := isF_iff.1 hA
  obtain ⟨_, hB⟩ := isF_iff.1 hB
  refine isF_iff.2 ⟨⟨j0, hj0, by simp [h0]⟩, fun j hj => ?_⟩
  have key : ∀ (D : Nat → Bool), (∀ j, j < 12 → dryS n (fun j => A j || B j) j = true → dryS n D j = true) → (∀ j, j < 12 → fround adj (dryS n D) j = dryS n D j) → fround adj (dryS n fun j => A j || B j) j = true → dryS n D j = true := fun D h1 h2 h3 =>
    absorbs_force adj _ _ h1 (fun j hj h => by rw [h2 j hj] at h; exact h) j hj h3
  rw [Bool.eq_iff_iff]
  constructor
  · intro h
    have ha := key A (fun j _ h => by unfold dryS at h ⊢; simp at h ⊢; simp [h]) hA h
    have hb := key B (fun j _ h => by unfold dryS at h ⊢; simp at h ⊢; simp [h]) hB h
    unfold dryS at ha hb ⊢
    simp at ha hb ⊢; simp [ha, hb]
  · intro h
    exact (infl_force adj).up _ _ h
/-- What is beside a fort stays beside it. -/
theorem beside_fort {n : Nat} {adj : Nat → Nat → Bool} {U S : Nat → Bool} (hU : isF n adj U = true) (hS : InN n S) (hd : ∀ j, j < 12 → S j = true → U j = false) : ∀ j, j < 12 → U j = true → clo (fround adj) S j = false := fun j hj hu => by
  obtain ⟨_, hc⟩ := isF_iff.1 hU
  cases e : clo (fround adj) S j with
  | false => rfl
  | true =>
    have := clo_least (absorbs_force adj) (c := dryS n U) (fun j hj hs => by
      have h1 : j < n := by
        rcases Nat.lt_or_ge j n with h | h
        · exact h
        · rw [hS j h hj] at hs; cases hs
      unfold dryS; simp [h1, hd j hj hs]) (fun j hj h => by rw [hc j hj] at h; exact h) j hj e
    unfold dryS at this
    simp [hu] at this
theorem num_or2 (s t : Nat → Bool) : num s ||| num t = num (fun j => s j || t j) := Nat.eq_of_testBit_eq fun p => by
  rw [Nat.testBit_or, num_bit, num_bit, num_bit]
  by_cases h : p < 12 <;> simp [h]
theorem num_and2 (s t : Nat → Bool) : num s &&& num t = num (fun j => s j && t j) := Nat.eq_of_testBit_eq fun p => by
  rw [Nat.testBit_and, num_bit, num_bit, num_bit]
  by_cases h : p < 12 <;> simp [h]
theorem num_none {s : Nat → Bool} : num s = 0 ↔ ∀ j, j < 12 → s j = false := by
  rw [← num_zero]
  constructor
  · intro h j hj
    have := congrArg (fun m => m.testBit j) h
    simp only [num_bit] at this
    simpa [hj] using this
  · intro h
    exact num_ext h
theorem or_num (s t : Nat → Bool) : bits .or .i64 (num s : Int) (num t : Int) = ((num fun j => s j || t j : Nat) : Int) := by
  rw [or_i64 _ _ (by have := num_lt s; omega) (by have := num_lt t; omega), num_or2]
theorem and_num (s t : Nat → Bool) : bits .and .i64 (num s : Int) (num t : Int) = ((num fun j => s j && t j : Nat) : Int) := by
  rw [and_i64 _ _ (by have := num_lt s; omega) (by have := num_lt t; omega), num_and2]
/-! The functions as a law calls them. -/
theorem oIsFort {N : Nat} {E : Pts} {ve v : Value} {s : Nat → Bool} {w : World} (h : GOk N E) (he : PairsOf w ve E) (hs : InN N s) (hv : IntsO w v (zsOf s)) :
    Calls Try.prog 45 #[.int .i64 N, ve, v] w fun e w' => e = .returned (.tuple #[.bool (isF N (adjOf E) s), .int .i64 0]) ∧ Below w.heap.size w w' := by
  have := isFort_yes he h.gr h.len hv hs.ok (zs_len s)
  rw [isF_cg (fun j hj => setOf_zsOf s hj)] at this
  exact this
theorem intsO_nil (w : World) {s : Nat → Bool} (h : ∀ j, j < 12 → s j = false) : IntsO w (.slice none 0 0) (zsOf s) := by
  have h0 : zsOf s = [] := by
    rw [zsOf_cg (t := fun _ => false) h]; rfl
  rw [h0]
  exact ⟨none, 0, rfl, fun k hk => by simp at hk⟩
theorem oFortI {N : Nat} {E : Pts} {ve v : Value} {s : Nat → Bool} {w : World} (h : GOk N E) (he : PairsOf w ve E) (hs : InN N s) (hv : IntsO w v (zsOf s)) :
    Calls Try.prog 21 #[.int .i64 N, ve, v] w fun e w' => ∃ lv : Value, e = .returned (.tuple #[lv, .int .i64 (if eqb (clo (fround (adjOf E)) s) (allS N) = true then 6 else 0)]) ∧ IntsO w' lv (zsOf fun j => allS N j && !clo (fround (adjOf E)) s j) ∧ Below w.heap.size w w' := by
  have hr := infl_force (adjOf E)
  have hc : ∀ j, j < 12 → setOf (zsOf s) j = s j := fun j hj => setOf_zsOf s hj
  refine (fort_yes he h.gr h.len hv hs.ok (zs_len s) (stops_kf hr _)).mono ?_
  rintro e w' ⟨h1, h3⟩
  have hst := stg_cg hr hc (kfOf (fround (adjOf E)) s)
  rw [kf_cg hr hc] at h1
  rw [eqb_cg hst (fun _ _ => rfl)] at h1
  rcases h1 with ⟨e1, rfl⟩ | ⟨e1, lv, rfl, e2⟩
  · refine ⟨_, by rw [if_pos (show eqb (clo (fround (adjOf E)) s) (allS N) = true from e1)], intsO_nil _ (fun j hj => ?_), h3⟩
    have := eqb_iff.1 e1 j hj
    show (allS N j && !clo (fround (adjOf E)) s j) = false
    rw [show clo (fround (adjOf E)) s j = allS N j from this]; simp
  · exact ⟨_, by rw [if_neg (by rw [show eqb (clo (fround (adjOf E)) s) (allS N) = false from e1]; simp)], lists_of e2 (fun j hj => by rw [hst j hj]; rfl), h3⟩
theorem intsO_slice' {W : World} {v : Value} {zs : List Int} (h : IntsO W v zs) : ∃ A cap, v = .slice A zs.length cap := by
  obtain ⟨A, cap, hv, _⟩ := h
  exact ⟨A, cap, hv⟩
/-- A list of lists of places, as a law reads it. -/
def ListsO (W : World) (v : Value) (L : List (Nat → Bool)) : Prop := ∃ A cap, v = .slice A L.length cap ∧ ∀ i (hi : i < L.length), ∃ g X m c, A = some ⟨g, 0, none⟩ ∧ W.cell? ⟨g, i, none⟩ = some (.slice X m c) ∧ IntsO W (.slice X m c) (zsOf L[i])
theorem ListsV.lists {B : Nat} {W : World} {v : Value} {L : List (Nat → Bool)} {svs : List Value} (h : ListsV B W v L svs) : ListsO W v L := by
  obtain ⟨h1, h2⟩ := h.row
  rcases h2 with ⟨rfl, h0⟩ | ⟨g, cap, cur, rfl, hg, hh, hn, hcap, hsz, htake⟩
  · exact ⟨none, 0, by rw [h0], fun i hi => by omega⟩
  · refine ⟨_, cap, rfl, fun i hi => ?_⟩
    have hi2 : i < svs.length := by rw [h.len]; exact hi
    have hsv : svs[i]? = some svs[i] := List.getElem?_eq_getElem hi2
    have hI := ints_list (h.el i hi _ hsv)
    obtain ⟨X, c, hx⟩ := intsO_slice' hI
    refine ⟨g, X, _, c, rfl, ?_, hx ▸ hI⟩
    have e : (cur.toList.take (L.length * 1))[i]? = svs[i]? := by rw [htake]
    rw [List.getElem?_take_of_lt (by omega), Array.getElem?_toList, hsv, hx] at e
    simp [World.cell?, hh, e]
theorem listsO_below {W W' : World} {v : Value} {L : List (Nat → Bool)} (h : ListsO W v L) (b : Below W.heap.size W W') : ListsO W' v L := by
  obtain ⟨A, cap, hv, hc⟩ := h
  refine ⟨A, cap, hv, fun i hi => ?_⟩
  obtain ⟨g, X, m, c, h1, h2, h3⟩ := hc i hi
  exact ⟨g, X, m, c, h1, cell_below h2 b, intsO_below h3 b⟩
end Go.Proofs.Yteekigpdiklppaa
set_option linter.unusedSimpArgs false
set_option linter.unusedVariables false
namespace Go.Proofs.Yteekigpdiklppaa
open Go Go.Proofs Go.RowKit Go.Seq
attribute [local go_sem] Oper.semAt_some
/-- The lists that a law holds. -/
def Fa (W : World) (ve : Value) (E : Pts) (l : List (Value × (Nat → Bool))) : Prop := PairsOf W ve E ∧ ∀ x ∈ l, IntsO W x.1 (zsOf x.2)
theorem Fa.after {W W' : World} {ve : Value} {E : Pts} {l : List (Value × (Nat → Bool))} (h : Fa W ve E l) (hb : Below W.heap.size W W') : Fa W' ve E l := ⟨pairsOf_below h.1 hb, fun x hx => intsO_below (h.2 x hx) hb⟩
theorem Fa.add {W : World} {ve : Value} {E : Pts} {l : List (Value × (Nat → Bool))} (h : Fa W ve E l) {v : Value} {s : Nat → Bool} (hv : IntsO W v (zsOf s)) : Fa W ve E ((v, s) :: l) := ⟨h.1, fun x hx => by
  rcases List.mem_cons.1 hx with rfl | hx
  · exact hv
  · exact h.2 x hx⟩
theorem pairsO_below {w w' : World} {v : Value} {l : Pts} (h : PairsO w v l) (b : Below w.heap.size w w') : PairsO w' v l := by
  obtain ⟨A, cap, hv, hc⟩ := h
  refine ⟨A, cap, hv, fun k hk => ?_⟩
  obtain ⟨g, o, hA, h1, h2⟩ := hc k hk
  exact ⟨g, o, hA, cell_below h1 b, cell_below h2 b⟩
theorem tame_gok (n0 : Int) (ps : Pts) : GOk (1 + modN n0 12) (tameE (1 + modN n0 12) ps) := by
  have h := modN_lt n0 (m := 12) (by omega)
  exact ⟨by omega, by omega, tameE_ok (by omega) (by omega) ps⟩
theorem adds_inN {N : Nat} {s : Nat → Bool} (h : InN N s) {u : Nat} (hu : u < N) : InN N (adds s u) := fun j h1 h2 => by
  unfold adds
  rw [if_neg (by omega)]; exact h j h1 h2
theorem Fa.step {w W W' : World} {ve : Value} {E : Pts} {l : List (Value × (Nat → Bool))} (h : Fa W ve E l ∧ Below w.heap.size w W) (hb : Below W.heap.size W W') {v : Value} {s : Nat → Bool} (hv : IntsO W' v (zsOf s)) : Fa W' ve E ((v, s) :: l) ∧ Below w.heap.size w W' := ⟨(h.1.after hb).add hv, h.2.trans (hb.mono h.2.size)⟩
theorem Fa.step0 {w W W' : World} {ve : Value} {E : Pts} {l : List (Value × (Nat → Bool))} (h : Fa W ve E l ∧ Below w.heap.size w W) (hb : Below W.heap.size W W') : Fa W' ve E l ∧ Below w.heap.size w W' := ⟨h.1.after hb, h.2.trans (hb.mono h.2.size)⟩
theorem set_n {s : Nat → Bool} {n : Nat} (hn : num s = n) : ∀ (W : World) (v : Value), IntsO W v (zsOf s) → Calls Try.prog 26 #[v] W fun e w' => e = .returned (.int .i64 (n : Nat)) ∧ w' = W := fun W v h => by
  have := set_of h
  rw [hn] at this
  exact this
theorem sub_zero {s t : Nat → Bool} {n m : Nat} (hn : num s = n) (hm : num t = m) (h : ∀ j, j < 12 → s j = true → t j = true) : bits .andNot .i64 (n : Int) (m : Int) = 0 := by
  rw [← hn, ← hm, num_diff, num_sub.2 h]; rfl
/-- What a law holds: lists, its own variable, and that all below is as it was. -/
def Fb (w : World) (W : World) (x : Obj) (ve : Value) (E : Pts) (l : List (Value × (Nat → Bool))) : Prop := Fa W ve E l ∧ W.heap[w.heap.size]? = some x ∧ Below w.heap.size w W
theorem Fb.keep {w W W' : World} {x : Obj} {ve : Value} {E : Pts} {l : List (Value × (Nat → Bool))} (h : Fb w W x ve E l) (hb : Below W.heap.size W W') : Fb w W' x ve E l := ⟨h.1.after hb, (hb.block _ (Array.getElem?_eq_some_iff.1 h.2.1).1).trans h.2.1, h.2.2.trans (hb.mono h.2.2.size)⟩
theorem Fb.put {w W W' : World} {x : Obj} {ve : Value} {E : Pts} {l : List (Value × (Nat → Bool))} (h : Fb w W x ve E l) (hb : Below W.heap.size W W') {v : Value} {s : Nat → Bool} (hv : IntsO W' v (zsOf s)) : Fb w W' x ve E ((v, s) :: l) := ⟨(h.keep hb).1.add hv, (h.keep hb).2⟩
theorem Fb.ps {w W : World} {x : Obj} {ve : Value} {E : Pts} {l : List (Value × (Nat → Bool))} (h : Fb w W x ve E l) : PairsOf W ve E := h.1.1
theorem Fb.at {w W : World} {x : Obj} {ve : Value} {E : Pts} {l : List (Value × (Nat → Bool))} (h : Fb w W x ve E l) {v : Value} {s : Nat → Bool} (hm : (v, s) ∈ l) : IntsO W v (zsOf s) := h.1.2 (v, s) hm
theorem oForts {N : Nat} {E : Pts} {ve : Value} {w : World} (h : GOk N E) (he : PairsOf w ve E) {L : List (Nat → Bool)} (hL : fortsOf N (adjOf E) = L) {M : Nat} (hM : L.length = M) {ia ib : Nat} (hia : ia < M) {A B : Nat → Bool} (hA : L[ia]? = some A) (hB : L[ib]? = some B) :
    Calls Try.prog 35 #[.int .i64 N, ve] w fun e w' => ∃ g cap XA la cA XB lb cB, e = .returned (.tuple #[.slice (some ⟨g, 0, none⟩) M cap, .int .i64 0]) ∧ (w'.cell? ⟨g, ia, none⟩ = some (.slice XA la cA) ∧ w'.cell? ⟨g, ib, none⟩ = some (.slice XB lb cB)) ∧ (IntsO w' (.slice XA la cA) (zsOf A) ∧ IntsO w' (.slice XB lb cB) (zsOf B)) ∧ Below w.heap.size w w' := by
  refine (Forts_yes he h.gr h.len).mono ?_
  rintro e w' ⟨lv, svs, rfl, h1, h2⟩
  rw [hL] at h1
  obtain ⟨X, cap, rfl, hc⟩ := h1.lists
  obtain ⟨ha, rfl⟩ := List.getElem?_eq_some_iff.1 hA
  obtain ⟨hb, rfl⟩ := List.getElem?_eq_some_iff.1 hB
  obtain ⟨g, XA, la, cA, rfl, a1, a2⟩ := hc ia ha
  obtain ⟨g', XB, lb, cB, hg, b1, b2⟩ := hc ib hb
  cases hg
  exact ⟨g, cap, XA, la, cA, XB, lb, cB, by rw [hM], ⟨a1, b1⟩, ⟨a2, b2⟩, h2⟩
theorem oList {N : Nat} {s : Nat → Bool} {n : Nat} (hn : num s = n) (W : World) : Calls Try.prog 28 #[.int .i64 (n : Nat)] W fun e w' => ∃ lv, e = .returned lv ∧ IntsO w' lv (zsOf s) ∧ Below W.heap.size W w' := by
  have h := List_any n (by rw [← hn]; exact num_lt s) W
  rw [vsTo_cg (s := setN n) (t := s) 12 (fun j hj => by show n.testBit j = s j; rw [← hn, num_bit]; simp [hj])] at h
  exact h.mono fun e w' ⟨lv, h1, h2, h3⟩ => ⟨lv, h1, ints_list h2, h3⟩
theorem oSome {N : Nat} (hN : N ≤ 12) (x : Int) (W : World) : Calls Try.prog 51 #[.int .i64 N, .int .i64 x] W fun e w' => ∃ lv, e = .returned lv ∧ IntsO w' lv (zsOf (someS N x)) ∧ Below W.heap.size W w' :=
  (some_any hN x W).mono fun e w' ⟨lv, h1, h2, h3⟩ => ⟨lv, h1, ints_list h2, h3⟩
theorem forts_len {N : Nat} (hN : N ≤ 12) (adj : Nat → Nat → Bool) : (fortsOf N adj).length ≤ 4095 := Nat.le_trans (stF_len N adj _) (setsTo_le hN)
end Go.Proofs.Yteekigpdiklppaa
set_option linter.unusedSimpArgs false
set_option linter.unusedVariables false
namespace Go.Proofs.Yteekigpdiklppaa
open Go Go.Proofs Go.RowKit Go.Seq
/-! The sets in their order: by size, then by their least difference; and what the search for forts finds. -/
def sz (s : Nat → Bool) : Nat := (vsTo s 12).length
def Sub (a b : Nat → Bool) : Prop := ∀ j, j < 12 → a j = true → b j = true
def Eqv (a b : Nat → Bool) : Prop := ∀ j, j < 12 → a j = b j
def Lex (a b : Nat → Bool) : Prop := ∃ u, u < 12 ∧ a u = true ∧ b u = false ∧ ∀ j, j < u → a j = b j
theorem sz_cg {a b : Nat → Bool} (h : Eqv a b) : sz a = sz b := by unfold sz; rw [vsTo_cg 12 h]
theorem sz_mono {a b : Nat → Bool} (h : Sub a b) : sz a ≤ sz b ∧ ((∃ j, j < 12 ∧ a j = false ∧ b j = true) → sz a < sz b) := by
  have h2 := vsTo_mono (s := fun j => decide (j < 12) && a j) (t := fun j => decide (j < 12) && b j) (fun j hj => by
    simp only [Bool.and_eq_true, decide_eq_true_eq] at hj ⊢
    exact ⟨hj.1, h j hj.1 hj.2⟩) 12
  rw [vsTo_cg (t := a) 12 (fun j hj => by simp [hj]), vsTo_cg (s := fun j => decide (j < 12) && b j) (t := b) 12 (fun j hj => by simp [hj])] at h2
  exact ⟨h2.1, fun ⟨j, hj, e1, e2⟩ => h2.2 ⟨j, hj, by simp [e1], by simp [hj, e2]⟩⟩
theorem sub_eqv {a b : Nat → Bool} (h : Sub a b) (hs : sz b ≤ sz a) : Eqv a b := fun j hj => by
  cases ha : a j with
  | true => exact (h j hj ha).symm
  | false =>
    cases hb : b j with
    | false => rfl
    | true => have := (sz_mono h).2 ⟨j, hj, ha, hb⟩; omega
theorem sub_more {a b : Nat → Bool} (h : sz a < sz b) : ∃ v, v < 12 ∧ b v = true ∧ a v = false := by
  refine Classical.byContradiction fun hc => ?_
  have : Sub b a := fun j hj hb => by
    cases ha : a j with
    | true => rfl
    | false => exact absurd ⟨j, hj, hb, ha⟩ hc
  have := (sz_mono this).1; omega
theorem vsTo_adds {s : Nat → Bool} {u : Nat} (hu : s u = false) : ∀ k, (vsTo (adds s u) k).length = (vsTo s k).length + (if u < k then 1 else 0)
  | 0 => by simp [vsTo]
  | k + 1 => by
    rw [vsTo_succ, vsTo_succ]
    have ih := vsTo_adds hu k
    by_cases e : k = u
    · subst e
      rw [show adds s k k = true by simp [adds], hu]
      simp at ih ⊢; omega
    · rw [show adds s u k = s k by simp [adds, e]]
      have h3 : (if u < k + 1 then 1 else 0) = (if u < k then 1 else 0) := by
        by_cases h : u < k
        · rw [if_pos h, if_pos (by omega)]
        · rw [if_neg h, if_neg (by omega)]
      rw [h3]
      cases s k with
      | true => simp; omega
      | false => simp; omega
theorem sz_adds {s : Nat → Bool} {u : Nat} (hu : u < 12) (h : s u = false) : sz (adds s u) = sz s + 1 := by
  unfold sz; rw [vsTo_adds h, if_pos hu]
theorem sz_wo {s : Nat → Bool} {u : Nat} (hu : u < 12) (h : s u = true) : sz (woS s u) + 1 = sz s := by
  rw [← sz_adds hu (by simp [woS])]
  exact sz_cg fun j hj => by
    unfold adds woS
    by_cases e : j = u
    · subst e; simp [h]
    · simp [e]
theorem fillL_low (n : Nat) : ∀ m s v s', s' ∈ fillL n m s v → ∀ j, j < v → s' j = s j
  | 0, s, v, s', h, j, hj => by simp only [fillL, List.mem_singleton] at h; rw [h]
  | m + 1, s, v, s', h, j, hj => by
    simp only [fillL, List.mem_flatMap, List.mem_range'_1] at h
    obtain ⟨u, hu, h⟩ := h
    rw [fillL_low n m _ _ _ h j (by omega)]
    unfold adds; rw [if_neg (by omega)]
theorem adds_hi {s : Nat → Bool} {v u : Nat} (hs : ∀ j, v ≤ j → s j = false) (hu : v ≤ u) : ∀ j, u + 1 ≤ j → adds s u j = false := fun j hj => by
  unfold adds; rw [if_neg (by omega)]; exact hs j (by omega)
theorem fillL_sz {n : Nat} (hn : n ≤ 12) : ∀ m s v s', (∀ j, v ≤ j → s j = false) → s' ∈ fillL n m s v → sz s' = sz s + m
  | 0, s, v, s', hs, h => by simp only [fillL, List.mem_singleton] at h; rw [h]; rfl
  | m + 1, s, v, s', hs, h => by
    simp only [fillL, List.mem_flatMap, List.mem_range'_1] at h
    obtain ⟨u, hu, h⟩ := h
    rw [fillL_sz hn m _ _ _ (adds_hi hs hu.1) h, sz_adds (by omega) (hs u hu.1)]; omega
theorem fillL_lex {n : Nat} (hn : n ≤ 12) : ∀ m s v, (∀ j, v ≤ j → s j = false) → (fillL n m s v).Pairwise Lex
  | 0, s, v, hs => by simp [fillL]
  | m + 1, s, v, hs => by
    unfold fillL
    rw [List.pairwise_flatMap]
    refine ⟨fun u hu => fillL_lex hn m _ _ (adds_hi hs (List.mem_range'_1.1 hu).1), ?_⟩
    refine List.Pairwise.imp_of_mem ?_ List.pairwise_lt_range'
    intro u1 u2 hu1 hu2 hlt a ha b hb
    rw [List.mem_range'_1] at hu1 hu2
    have a1 := fillL_low n m _ _ _ ha
    have b1 := fillL_low n m _ _ _ hb
    refine ⟨u1, by omega, by rw [a1 u1 (by omega)]; simp [adds], ?_, fun j hj => ?_⟩
    · rw [b1 u1 (by omega)]; unfold adds; rw [if_neg (by omega)]; exact hs u1 hu1.1
    · rw [a1 j (by omega), b1 j (by omega)]; unfold adds; rw [if_neg (by omega), if_neg (by omega)]
theorem least_of {P : Nat → Prop} : ∀ k, P k → ∃ u, P u ∧ ∀ j, j < u → ¬ P j := fun k => by
  induction k using Nat.strongRecOn with
  | _ k ih =>
    intro hk
    by_cases h : ∃ j, j < k ∧ P j
    · obtain ⟨j, hj, hp⟩ := h; exact ih j hj hp
    · exact ⟨k, hk, fun j hj hp => h ⟨j, hj, hp⟩⟩
theorem fillL_full {n : Nat} (hn : n ≤ 12) : ∀ m s v t, (∀ j, v ≤ j → s j = false) → (∀ j, j < v → j < 12 → t j = s j) → InN n t → sz t = sz s + m → ∃ s' ∈ fillL n m s v, Eqv s' t
  | 0, s, v, t, hs, ht, hn', hz => ⟨s, by simp [fillL], sub_eqv (fun j hj h => by
      rcases Nat.lt_or_ge j v with hv | hv
      · rw [ht j hv hj]; exact h
      · rw [hs j hv] at h; cases h) (by omega)⟩
  | m + 1, s, v, t, hs, ht, hn', hz => by
    obtain ⟨w, hw, hwt, hws⟩ := sub_more (a := s) (b := t) (by omega)
    have hwv : v ≤ w := by
      rcases Nat.lt_or_ge w v with h | h
      · rw [ht w h hw, hws] at hwt; cases hwt
      · exact h
    obtain ⟨u, ⟨hu1, hu2, hu3⟩, hul⟩ := least_of (P := fun u => v ≤ u ∧ u < 12 ∧ t u = true) w ⟨hwv, hw, hwt⟩
    have hun : u < n := by
      rcases Nat.lt_or_ge u n with h | h
      · exact h
      · rw [hn' u h hu2] at hu3; cases hu3
    obtain ⟨s', h1, h2⟩ := fillL_full hn m (adds s u) (u + 1) t (adds_hi hs hu1) (fun j hj hj12 => by
      unfold adds
      by_cases e : j = u
      · rw [if_pos e, e]; exact hu3
      · rw [if_neg e]
        rcases Nat.lt_or_ge j v with h | h
        · exact ht j h hj12
        · rw [hs j h]
          cases htj : t j with
          | false => rfl
          | true => exact absurd ⟨h, hj12, htj⟩ (hul j (by omega))) hn' (by rw [sz_adds hu2 (hs u hu1)]; omega)
    refine ⟨s', ?_, h2⟩
    simp only [fillL, List.mem_flatMap, List.mem_range'_1]
    exact ⟨u, by omega, h1⟩
theorem none_hi : ∀ j, 0 ≤ j → (fun (_ : Nat) => false) j = false := fun _ _ => rfl
theorem sz_none : sz (fun _ => false) = 0 := rfl
theorem lev_full {n : Nat} (hn : n ≤ 12) {m : Nat} {t : Nat → Bool} (ht : InN n t) (hz : sz t = m) : ∃ s' ∈ fillL n m (fun _ => false) 0, Eqv s' t :=
  fillL_full hn m _ 0 t none_hi (fun j hj => by omega) ht (by rw [sz_none, hz]; omega)
theorem lev_in {n : Nat} (hn : n ≤ 12) {m : Nat} {s : Nat → Bool} (h : s ∈ fillL n m (fun _ => false) 0) : sz s = m ∧ InN n s :=
  ⟨by rw [fillL_sz hn m _ 0 s none_hi h, sz_none]; omega, fun j h1 h2 => fillL_in n _ _ _ _ h j h1⟩
theorem wo_in {n : Nat} {s : Nat → Bool} (h : InN n s) (v : Nat) : InN n (woS s v) := fun j h1 h2 => by
  unfold woS; split
  · rfl
  · exact h j h1 h2
theorem sub_wo {F s : Nat → Bool} (h : Sub F s) {v : Nat} (hv : F v = false) : Sub F (woS s v) := fun j hj hf => by
  unfold woS
  rw [if_neg (by rintro rfl; rw [hv] at hf; cases hf)]
  exact h j hj hf
structure Fi (n : Nat) (adj : Nat → Nat → Bool) (i : Nat) (st : Hst) : Prop where
  j1 : ∀ t, st.1 t = true → ∃ F ∈ st.2, Sub F t
  j3 : ∀ F ∈ st.2, st.1 F = true
  cg : ∀ s t, Eqv s t → st.1 s = st.1 t
  le : ∀ F ∈ st.2, sz F ≤ i
  ac : st.2.Pairwise (fun a b => ¬ Sub a b)
  up : ∀ t, InN n t → sz t ≤ i → (∃ F ∈ st.2, Sub F t) → st.1 t = true
  co : ∀ t, InN n t → sz t ≤ i → isF n adj t = true → ∃ F ∈ st.2, Sub F t
structure Gi (n : Nat) (adj : Nat → Nat → Bool) (st0 : Hst) (p : List (Nat → Bool)) (st : Hst) : Prop where
  j1 : ∀ t, st.1 t = true → ∃ F ∈ st.2, Sub F t
  j3 : ∀ F ∈ st.2, st.1 F = true
  cg : ∀ s t, Eqv s t → st.1 s = st.1 t
  mono : ∀ t, st0.1 t = true → st.1 t = true
  pre : ∀ F ∈ st.2, F ∈ st0.2 ∨ F ∈ p
  pre2 : ∀ F ∈ st0.2, F ∈ st.2
  ac : st.2.Pairwise (fun a b => ¬ Sub a b)
  up : ∀ s ∈ p, (∃ v, v < 12 ∧ s v = true ∧ st0.1 (woS s v) = true) → st.1 s = true
  co : ∀ s ∈ p, isF n adj s = true → ∃ F ∈ st.2, Sub F s
theorem addH_cg {h : (Nat → Bool) → Bool} (hc : ∀ s t, Eqv s t → h s = h t) (x : Nat → Bool) : ∀ s t, Eqv s t → addH h x s = addH h x t := fun s t e => by
  unfold addH; rw [hc s t e, eqb_cg e (fun _ _ => rfl)]
theorem Gi.step {n i : Nat} {adj : Nat → Nat → Bool} {st0 st : Hst} {p : List (Nat → Bool)} {s : Nat → Bool} (h0 : Fi n adj i st0) (h : Gi n adj st0 p st) (hs : sz s = i + 1) (hin : InN n s) (hl : ∀ a ∈ p, Lex a s) : Gi n adj st0 (p ++ [s]) (stepF n adj st s) := by
  have hany : ((vsTo s 12).any fun v => st.1 (woS s v)) = true ↔ ∃ v, v < 12 ∧ s v = true ∧ st.1 (woS s v) = true := by
    rw [List.any_eq_true]
    constructor
    · rintro ⟨v, hv, he⟩
      obtain ⟨a, b⟩ := vsTo_lt hv
      exact ⟨v, a, b, he⟩
    · rintro ⟨v, a, b, he⟩
      exact ⟨v, by unfold vsTo; rw [List.mem_filter]; exact ⟨by simpa using a, b⟩, he⟩
  have hself : addH st.1 s s = true := by unfold addH; rw [eqb_iff.2 (fun _ _ => rfl)]; rfl
  have hold : ∀ t, st.1 t = true → addH st.1 s t = true := fun t e => by unfold addH; rw [e]; simp
  unfold stepF
  by_cases c : ((vsTo s 12).any fun v => st.1 (woS s v)) = true
  · rw [if_pos c]
    obtain ⟨v, v1, v2, v3⟩ := hany.1 c
    obtain ⟨F, hF, hFs⟩ := h.j1 _ v3
    have hsub : Sub F s := fun j hj hf => by
      have := hFs j hj hf
      unfold woS at this
      split at this
      · cases this
      · exact this
    refine ⟨fun t ht => ?_, fun F hF => hold _ (h.j3 F hF), addH_cg h.cg s, fun t ht => hold _ (h.mono t ht), fun F hF => (h.pre F hF).imp id (fun x => List.mem_append_left _ x), h.pre2, h.ac, fun t ht hv => ?_, fun t ht hf => ?_⟩
    · show ∃ F ∈ st.2, Sub F t
      have ht' : addH st.1 s t = true := ht
      unfold addH at ht'
      rcases Bool.or_eq_true _ _ |>.mp ht' with e | e
      · exact ⟨F, hF, fun j hj hf => by rw [eqb_iff.1 e j hj]; exact hsub j hj hf⟩
      · exact h.j1 t e
    · rcases List.mem_append.1 ht with ht | ht
      · exact hold _ (h.up t ht hv)
      · rw [List.mem_singleton.1 ht]; exact hself
    · rcases List.mem_append.1 ht with ht | ht
      · exact h.co t ht hf
      · rw [List.mem_singleton.1 ht]; exact ⟨F, hF, hsub⟩
  · rw [if_neg c]
    have hno : ∀ v, v < 12 → s v = true → ¬ st.1 (woS s v) = true := fun v a b e => c (hany.2 ⟨v, a, b, e⟩)
    have hno0 : ¬ ∃ v, v < 12 ∧ s v = true ∧ st0.1 (woS s v) = true := fun ⟨v, a, b, e⟩ => hno v a b (h.mono _ e)
    by_cases f : isF n adj s = true
    · rw [if_pos f]
      have hnew : ∀ F ∈ st.2, ¬ Sub F s := fun F hF hsub => by
        rcases h.pre F hF with h1 | h1
        · have hle := h0.le F h1
          obtain ⟨v, a, b, d⟩ := sub_more (a := F) (b := s) (by omega)
          have hz := sz_wo a b
          exact hno0 ⟨v, a, b, h0.up _ (wo_in hin v) (by omega) ⟨F, h1, sub_wo hsub d⟩⟩
        · obtain ⟨u, a, b, d, _⟩ := hl F h1
          have := hsub u a b
          rw [d] at this; cases this
      refine ⟨fun t ht => ?_, fun F hF => ?_, addH_cg h.cg s, fun t ht => hold _ (h.mono t ht), fun F hF => ?_, fun F hF => List.mem_append_left _ (h.pre2 F hF), ?_, fun t ht hv => ?_, fun t ht hf => ?_⟩
      · have ht' : addH st.1 s t = true := ht
        unfold addH at ht'
        rcases Bool.or_eq_true _ _ |>.mp ht' with e | e
        · exact ⟨s, by simp, fun j hj hf => by rw [eqb_iff.1 e j hj]; exact hf⟩
        · obtain ⟨F, hF, hs⟩ := h.j1 t e
          exact ⟨F, List.mem_append_left _ hF, hs⟩
      · rcases List.mem_append.1 hF with hF | hF
        · exact hold _ (h.j3 F hF)
        · rw [List.mem_singleton.1 hF]; exact hself
      · rcases List.mem_append.1 hF with hF | hF
        · exact (h.pre F hF).imp id (fun x => List.mem_append_left _ x)
        · exact .inr (List.mem_append_right _ hF)
      · rw [List.pairwise_append]
        exact ⟨h.ac, by simp, fun a ha b hb => by rw [List.mem_singleton.1 hb]; exact hnew a ha⟩
      · rcases List.mem_append.1 ht with ht | ht
        · exact hold _ (h.up t ht hv)
        · rw [List.mem_singleton.1 ht]; exact hself
      · rcases List.mem_append.1 ht with ht | ht
        · obtain ⟨F, hF, hs⟩ := h.co t ht hf
          exact ⟨F, List.mem_append_left _ hF, hs⟩
        · rw [List.mem_singleton.1 ht]; exact ⟨s, by simp, fun _ _ h => h⟩
    · rw [if_neg f]
      refine ⟨h.j1, h.j3, h.cg, h.mono, fun F hF => (h.pre F hF).imp id (fun x => List.mem_append_left _ x), h.pre2, h.ac, fun t ht hv => ?_, fun t ht hf => ?_⟩
      · rcases List.mem_append.1 ht with ht | ht
        · exact h.up t ht hv
        · rw [List.mem_singleton.1 ht] at hv; exact absurd hv hno0
      · rcases List.mem_append.1 ht with ht | ht
        · exact h.co t ht hf
        · rw [List.mem_singleton.1 ht] at hf; exact absurd hf f
theorem Gi.fold {n i : Nat} {adj : Nat → Nat → Bool} {st0 : Hst} (h0 : Fi n adj i st0) : ∀ (l p : List (Nat → Bool)) (st : Hst), Gi n adj st0 p st → (p ++ l).Pairwise Lex → (∀ s ∈ l, sz s = i + 1 ∧ InN n s) → Gi n adj st0 (p ++ l) (l.foldl (stepF n adj) st)
  | [], p, st, h, hl, hs => by simpa using h
  | s :: l, p, st, h, hl, hs => by
    rw [List.foldl_cons, show p ++ s :: l = (p ++ [s]) ++ l by simp]
    refine Gi.fold h0 l (p ++ [s]) _ (h.step h0 (hs s (by simp)).1 (hs s (by simp)).2 (fun a ha => ?_)) (by simpa using hl) (fun t ht => hs t (by simp [ht]))
    rw [List.pairwise_append] at hl
    exact hl.2.2 a ha s (by simp)
theorem Fi.next {n i : Nat} (hn : n ≤ 12) {adj : Nat → Nat → Bool} {st0 : Hst} (h0 : Fi n adj i st0) : Fi n adj (i + 1) ((fillL n (i + 1) (fun _ => false) 0).foldl (stepF n adj) st0) := by
  have hg := Gi.fold h0 (fillL n (i + 1) (fun _ => false) 0) [] st0 ⟨h0.j1, h0.j3, h0.cg, fun _ h => h, fun F h => .inl h, fun F h => h, h0.ac, fun s hs => by simp at hs, fun s hs => by simp at hs⟩ (by simpa using fillL_lex hn (i + 1) _ 0 none_hi) (fun s hs => lev_in hn hs)
  rw [List.nil_append] at hg
  refine ⟨hg.j1, hg.j3, hg.cg, fun F hF => ?_, hg.ac, fun t ht hz ⟨F, hF, hs⟩ => ?_, fun t ht hz hf => ?_⟩
  · rcases hg.pre F hF with h | h
    · have := h0.le F h; omega
    · have := (lev_in hn h).1; omega
  · have hm := (sz_mono hs).1
    rcases hg.pre F hF with h | h
    · have hle := h0.le F h
      rcases Nat.lt_or_ge i (sz t) with hi | hi
      · obtain ⟨s', h1, h2⟩ := lev_full hn ht (m := i + 1) (by omega)
        obtain ⟨z1, z2⟩ := lev_in hn h1
        rw [← hg.cg s' t h2]
        have hs' : Sub F s' := fun j hj hf => by rw [h2 j hj]; exact hs j hj hf
        obtain ⟨v, a, b, d⟩ := sub_more (a := F) (b := s') (by omega)
        have hz := sz_wo a b
        exact hg.up s' h1 ⟨v, a, b, h0.up _ (wo_in z2 v) (by omega) ⟨F, h, sub_wo hs' d⟩⟩
      · exact hg.mono t (h0.up t ht hi ⟨F, h, hs⟩)
    · have hz2 := (lev_in hn h).1
      rw [← hg.cg F t (sub_eqv hs (by omega))]
      exact hg.j3 F hF
  · rcases Nat.lt_or_ge i (sz t) with hi | hi
    · obtain ⟨s', h1, h2⟩ := lev_full hn ht (m := i + 1) (by omega)
      rw [← isF_cg h2] at hf
      obtain ⟨F, hF, hs⟩ := hg.co s' h1 hf
      exact ⟨F, hF, fun j hj hx => by rw [← h2 j hj]; exact hs j hj hx⟩
    · obtain ⟨F, hF, hs⟩ := h0.co t ht hi hf
      exact ⟨F, hg.pre2 F hF, hs⟩
theorem Fi.all {n : Nat} (hn : n ≤ 12) (adj : Nat → Nat → Bool) : ∀ k, Fi n adj k (stF n adj (setsTo n k))
  | 0 => by
    have h0 : stF n adj (setsTo n 0) = (fun _ => false, []) := rfl
    rw [h0]
    refine ⟨fun t ht => (by cases ht), fun F hF => by simp at hF, fun _ _ _ => rfl, fun F hF => by simp at hF, List.Pairwise.nil, fun t ht hz hF => by simp at hF, fun t ht hz hf => ?_⟩
    obtain ⟨⟨j, hj, h⟩, _⟩ := isF_iff.1 hf
    have := (sz_mono (a := (fun _ => false)) (b := t) (fun j hj h => by cases h)).2 ⟨j, hj, rfl, h⟩
    omega
  | k + 1 => by
    have h := (Fi.all hn adj k).next hn
    rw [setsTo_succ]
    unfold stF at h ⊢
    rw [List.foldl_append]
    exact h
theorem sz_in {n : Nat} (hn : n ≤ 12) {t : Nat → Bool} (h : InN n t) : sz t ≤ n := by
  have := (sz_mono (a := t) (b := allS n) (fun j hj ht => by
    unfold allS
    rcases Nat.lt_or_ge j n with hlt | hge
    · simp [hlt]
    · rw [h j hge hj] at ht; cases ht)).1
  rw [show sz (allS n) = n from vsTo_all hn] at this
  exact this
/-- No listed fort holds an earlier one; every fort holds a listed one. -/
theorem forts_apart {n : Nat} (hn : n ≤ 12) (adj : Nat → Nat → Bool) : (fortsOf n adj).Pairwise (fun a b => ¬ Sub a b) := (Fi.all hn adj n).ac
theorem forts_cover {n : Nat} (hn : n ≤ 12) {adj : Nat → Nat → Bool} {t : Nat → Bool} (ht : InN n t) (hf : isF n adj t = true) : ∃ F ∈ fortsOf n adj, Sub F t := (Fi.all hn adj n).co t ht (sz_in hn ht) hf
end Go.Proofs.Yteekigpdiklppaa
set_option linter.unusedSimpArgs false
set_option linter.unusedVariables false
namespace Go.Proofs.Yteekigpdiklppaa
open Go Go.Proofs Go.RowKit Go.Seq
/-! A set is forcing exactly if it meets every least fort. -/
def forcing (N : Nat) (E : Pts) (s : Nat → Bool) : Bool := eqb (clo (fround (adjOf E)) s) (allS N)
theorem forcing_cg {N : Nat} {E : Pts} {s t : Nat → Bool} (h : Eqv s t) : forcing N E s = forcing N E t := eqb_cg (clo_cg (infl_force _) h) (fun _ _ => rfl)
theorem forcing_hits {N : Nat} {E : Pts} {S U : Nat → Bool} (hS : InN N S) (hf : forcing N E S = true) (hU : isF N (adjOf E) U = true) (hUin : InN N U) : num (fun j => U j && S j) ≠ 0 := fun h0 => by
  have hd : ∀ j, j < 12 → S j = true → U j = false := fun j hj hs => by
    have := num_none.1 h0 j hj
    simpa [hs] using this
  obtain ⟨⟨j, hj, hu⟩, _⟩ := isF_iff.1 hU
  have h1 := eqb_iff.1 hf j hj
  rw [beside_fort hU hS hd j hj hu] at h1
  have h2 : j < N := by
    rcases Nat.lt_or_ge j N with h | h
    · exact h
    · rw [hUin j h hj] at hu; cases hu
  simp [allS] at h1; omega
theorem missed {N : Nat} {E : Pts} (hG : GOk N E) {S : Nat → Bool} (hS : InN N S) (hf : forcing N E S = false) : ∃ F ∈ fortsOf N (adjOf E), num (fun j => F j && S j) = 0 := by
  have hIn := inN_force hG hS
  obtain ⟨C, hC⟩ : ∃ C, clo (fround (adjOf E)) S = C := ⟨_, rfl⟩
  have hcl := clo_closed (infl_force (adjOf E)) S
  have hup := clo_up (infl_force (adjOf E)) S
  unfold forcing at hf
  rw [hC] at hIn hcl hup hf
  have hdry : ∀ j, j < 12 → dryS N (fun j => allS N j && !C j) j = C j := fun j hj => by
    unfold dryS allS
    by_cases h : j < N
    · simp [h]
    · rw [hIn j (by omega) hj]; simp [h]
  have hfort : isF N (adjOf E) (fun j => allS N j && !C j) = true := by
    refine isF_iff.2 ⟨?_, fun j hj => ?_⟩
    · refine Classical.byContradiction fun hc => ?_
      have : eqb C (allS N) = true := eqb_iff.2 fun j hj => by
        cases h : C j with
        | true =>
          unfold allS
          rcases Nat.lt_or_ge j N with h2 | h2
          · simp [h2]
          · rw [hIn j h2 hj] at h; cases h
        | false =>
          cases h2 : allS N j with
          | false => rfl
          | true => exact absurd ⟨j, hj, by simp [h, h2]⟩ hc
      rw [this] at hf; cases hf
    · rw [(infl_force (adjOf E)).cg _ _ hdry j hj, hdry j hj]; exact hcl j hj
  obtain ⟨F, hF, hsub⟩ := forts_cover hG.n12 (t := fun j => allS N j && !C j) (fun j h1 h2 => by simp [allS]; omega) hfort
  refine ⟨F, hF, num_none.2 fun j hj => ?_⟩
  cases e : F j with
  | false => rfl
  | true =>
    have := hsub j hj e
    cases e2 : S j with
    | false => rfl
    | true => simp [hup j e2] at this
theorem setsTo_sz {n k : Nat} (hn : n ≤ 12) {s : Nat → Bool} (h : s ∈ setsTo n k) : sz s ≤ k := by
  unfold setsTo at h
  simp only [List.mem_flatMap, List.mem_range] at h
  obtain ⟨i, hi, h⟩ := h
  have := (lev_in hn h).1; omega
theorem forcing_all {N : Nat} {E : Pts} (hG : GOk N E) : forcing N E (allS N) = true := eqb_iff.2 fun j hj => by
  have hIn := inN_force hG (s := allS N) (fun j h1 h2 => by simp [allS]; omega)
  cases e : allS N j with
  | true => exact clo_up (infl_force _) _ j e
  | false => exact hIn j (by simpa [allS] using e) hj
theorem forcing_ne {N : Nat} {E : Pts} (hG : GOk N E) {S : Nat → Bool} (hf : forcing N E S = true) : 1 ≤ sz S := by
  refine Nat.one_le_iff_ne_zero.2 fun h0 => ?_
  have he : ∀ j, j < 12 → S j = false := fun j hj => by
    cases e : S j with
    | false => rfl
    | true => have := (sz_mono (a := (fun _ => false)) (b := S) (fun j hj h => by cases h)).2 ⟨j, hj, rfl, e⟩; omega
  have h1 := eqb_iff.1 hf 0 (by omega)
  have h2 : clo (fround (adjOf E)) S 0 = true := by rw [h1]; simp [allS]; exact hG.n1
  have h3 := clo_least (absorbs_force (adjOf E)) (s := S) (c := (fun _ => false)) (fun j hj h => by rw [he j hj] at h; cases h) (fun j hj h => by
    rw [fround_none (adjOf E) (s := (fun _ => false)) (fun _ _ => rfl) j hj] at h; cases h) 0 (by omega) h2
  cases h3
theorem least_ok {N : Nat} {E : Pts} (hG : GOk N E) : forcing N E (leastOf N (forcing N E)) = true ∧ InN N (leastOf N (forcing N E)) ∧ ∀ S, InN N S → forcing N E S = true → sz (leastOf N (forcing N E)) ≤ sz S := by
  have key : ∀ S, InN N S → forcing N E S = true → ∃ l, (setsTo N N).find? (forcing N E) = some l ∧ sz l ≤ sz S := fun S hS hf => by
    have h1 := forcing_ne hG hf
    have hle := sz_in hG.n12 hS
    obtain ⟨s', hs, he⟩ := lev_full hG.n12 hS (m := sz S - 1 + 1) (by omega)
    obtain ⟨rest, hr⟩ := setsTo_rest N (k := sz S - 1) (M := N) (by omega)
    rw [← List.append_assoc, ← setsTo_succ] at hr
    have hm : s' ∈ setsTo N (sz S - 1 + 1) := by rw [setsTo_succ]; exact List.mem_append_right _ hs
    have hf' : forcing N E s' = true := by rw [forcing_cg he]; exact hf
    cases hx : (setsTo N (sz S - 1 + 1)).find? (forcing N E) with
    | none => exact absurd hf' (List.find?_eq_none.1 hx s' hm)
    | some l =>
      refine ⟨l, by rw [hr, List.find?_append, hx]; rfl, ?_⟩
      have := setsTo_sz hG.n12 (List.mem_of_find?_eq_some hx); omega
  obtain ⟨l, hl, _⟩ := key (allS N) (fun j h1 h2 => by simp [allS]; omega) (forcing_all hG)
  have he : leastOf N (forcing N E) = l := by unfold leastOf; rw [hl]; rfl
  rw [he]
  refine ⟨List.find?_some hl, setsTo_in (List.mem_of_find?_eq_some hl), fun S hS hf => ?_⟩
  obtain ⟨l2, h1, h2⟩ := key S hS hf
  rw [hl] at h1
  cases h1
  exact h2
/-! The functions as the law calls them. -/
theorem oLeast {N : Nat} {E : Pts} (hG : GOk N E) {F : Nat → Bool} (hF : leastOf N (forcing N E) = F) {l : Nat} (hl : sz F = l) (W : World) (ve : Value) (he : PairsOf W ve E) :
    Calls Try.prog 34 #[.int .i64 N, ve] W fun e w' => ∃ X c, e = .returned (.tuple #[.slice X l c, .int .i64 0]) ∧ IntsO w' (.slice X l c) (zsOf F) ∧ Below W.heap.size W w' := by
  refine (Least_yes (kfOf (fround (adjOf E))) he hG.gr hG.len (fun s => stops_kf (infl_force _) s)).mono ?_
  rintro e w' ⟨lv, rfl, h1, h2⟩
  rw [show (leastOf N fun s => eqb (stg (fround (adjOf E)) s (kfOf (fround (adjOf E)) s)) (allS N)) = F from hF] at h1
  have h3 := lists_of h1 (t := F) (fun _ _ => rfl)
  obtain ⟨X, c, rfl⟩ := intsO_slice' h3
  have hz : (zsOf F).length = l := by rw [zsOf_len]; exact hl
  rw [hz] at h3 ⊢
  exact ⟨X, c, rfl, h3, h2⟩
theorem oSomeSl {N : Nat} (hN : N ≤ 12) (x : Int) {S : Nat → Bool} (hS : someS N x = S) {l : Nat} (hl : sz S = l) (W : World) : Calls Try.prog 51 #[.int .i64 N, .int .i64 x] W fun e w' => ∃ X c, e = .returned (.slice X l c) ∧ IntsO w' (.slice X l c) (zsOf S) ∧ Below W.heap.size W w' := by
  refine (oSome hN x W).mono ?_
  rintro e w' ⟨lv, rfl, h1, h2⟩
  rw [hS] at h1
  obtain ⟨X, c, rfl⟩ := intsO_slice' h1
  have hz : (zsOf S).length = l := by rw [zsOf_len]; exact hl
  rw [hz] at h1 ⊢
  exact ⟨X, c, rfl, h1, h2⟩
theorem oCloseSl {N : Nat} {E : Pts} {s : Nat → Bool} (h : GOk N E) (hs : InN N s) {A : Nat → Bool} (hA : clo (fround (adjOf E)) s = A) {la : Nat} (hla : sz A = la) {k : Nat} (hk : kfOf (fround (adjOf E)) s = k) : ∀ (W : World) (ve v : Value), PairsOf W ve E → IntsO W v (zsOf s) →
    Calls Try.prog 19 #[.int .i64 N, ve, v] W fun e w' => ∃ X cap, e = .returned (.tuple #[.slice X la cap, .int .i64 k, .int .i64 0]) ∧ IntsO w' (.slice X la cap) (zsOf A) ∧ Below W.heap.size W w' := fun W ve v he hv => (oClose h he hs hv).mono fun e w' ⟨lv, h1, h2, h3⟩ => by
  rw [hA] at h2; rw [hk] at h1
  obtain ⟨X, cap, rfl⟩ := intsO_slice' h2
  have hz : (zsOf A).length = la := by rw [zsOf_len]; exact hla
  rw [hz] at h1 h2
  exact ⟨X, cap, h1, h2, h3⟩
theorem oFortsL {N : Nat} {E : Pts} (h : GOk N E) {L : List (Nat → Bool)} (hL : fortsOf N (adjOf E) = L) {M : Nat} (hM : L.length = M) (h1 : 1 ≤ M) (w : World) (ve : Value) (he : PairsOf w ve E) :
    Calls Try.prog 35 #[.int .i64 N, ve] w fun e w' => ∃ g cap, e = .returned (.tuple #[.slice (some ⟨g, 0, none⟩) M cap, .int .i64 0]) ∧ ListsO w' (.slice (some ⟨g, 0, none⟩) M cap) L ∧ Below w.heap.size w w' := by
  refine (Forts_yes he h.gr h.len).mono ?_
  rintro e w' ⟨lv, svs, rfl, h2, h3⟩
  rw [hL] at h2
  have h4 := h2.lists
  obtain ⟨X, cap, rfl, hc⟩ := id h4
  obtain ⟨g, XA, la, cA, rfl, a1, a2⟩ := hc 0 (by omega)
  rw [hM] at h4 ⊢
  exact ⟨g, cap, rfl, h4, h3⟩
/-- What the law holds while it walks over the forts. -/
def Fl (w : World) (W : World) (ve : Value) (E : Pts) (l : List (Value × (Nat → Bool))) (v : Value) (L : List (Nat → Bool)) : Prop := Fa W ve E l ∧ ListsO W v L ∧ Below w.heap.size w W
theorem Fl.keep {w W W' : World} {ve : Value} {E : Pts} {l : List (Value × (Nat → Bool))} {v : Value} {L : List (Nat → Bool)} (h : Fl w W ve E l v L) (hb : Below W.heap.size W W') : Fl w W' ve E l v L := ⟨h.1.after hb, listsO_below h.2.1 hb, h.2.2.trans (hb.mono h.2.2.size)⟩
theorem Fl.put {w W W' : World} {ve : Value} {E : Pts} {l : List (Value × (Nat → Bool))} {v0 : Value} {L : List (Nat → Bool)} (h : Fl w W ve E l v0 L) (hb : Below W.heap.size W W') {v : Value} {s : Nat → Bool} (hv : IntsO W' v (zsOf s)) : Fl w W' ve E ((v, s) :: l) v0 L := ⟨(h.keep hb).1.add hv, (h.keep hb).2⟩
theorem Fl.at {w W : World} {ve : Value} {E : Pts} {l : List (Value × (Nat → Bool))} {v0 : Value} {L : List (Nat → Bool)} (h : Fl w W ve E l v0 L) {v : Value} {s : Nat → Bool} (hm : (v, s) ∈ l) : IntsO W v (zsOf s) := h.1.2 (v, s) hm
theorem Fl.el {w W : World} {ve : Value} {E : Pts} {l : List (Value × (Nat → Bool))} {g M cap : Nat} {L : List (Nat → Bool)} (h : Fl w W ve E l (.slice (some ⟨g, 0, none⟩) M cap) L) {i : Nat} {s : Nat → Bool} (hs : L[i]? = some s) : ∃ X m c, W.cell? ⟨g, i, none⟩ = some (.slice X m c) ∧ IntsO W (.slice X m c) (zsOf s) ∧ m = sz s := by
  obtain ⟨X, cap, hv, hc⟩ := h.2.1
  cases hv
  obtain ⟨hi, rfl⟩ := List.getElem?_eq_some_iff.1 hs
  obtain ⟨g', X, m, c, hg, h1, h2⟩ := hc i hi
  cases hg
  refine ⟨X, m, c, h1, h2, ?_⟩
  obtain ⟨X', c', hx⟩ := intsO_slice' h2
  cases hx
  rw [zsOf_len]; rfl
end Go.Proofs.Yteekigpdiklppaa
