import Derived.Test.YteekigpdiklppaaWFoM
import Derived.Test.YteekigpdiklppaaWOrdM
set_option linter.unusedSimpArgs false
set_option linter.unusedVariables false
set_option linter.unusedSectionVars false
namespace Go.Proofs.Yteekigpdiklppaa
open Go Go.Proofs Go.RowKit Go.Seq
/-! Renaming the places. -/
structure Ren (N : Nat) (p q : Nat → Nat) (a b : Nat → Nat → Bool) : Prop where
  n12 : N ≤ 12
  pl : ∀ i, i < N → p i < N
  ql : ∀ i, i < N → q i < N
  qp : ∀ i, i < N → q (p i) = i
  pq : ∀ i, i < N → p (q i) = i
  al : ∀ i j, a i j = true → j < N
  bl : ∀ i j, b i j = true → j < N
  ab : ∀ i j, i < N → j < N → b (p i) (p j) = a i j
theorem Ren.symm {N : Nat} {p q : Nat → Nat} {a b : Nat → Nat → Bool} (h : Ren N p q a b) : Ren N q p b a :=
  ⟨h.n12, h.ql, h.pl, h.pq, h.qp, h.bl, h.al, fun i j hi hj => by rw [← h.ab _ _ (h.ql i hi) (h.ql j hj), h.pq i hi, h.pq j hj]⟩
def ren (N : Nat) (q : Nat → Nat) (s : Nat → Bool) (j : Nat) : Bool := decide (j < N) && s (q j)
section
variable {N : Nat} {p q : Nat → Nat} {a b : Nat → Nat → Bool} (h : Ren N p q a b)
include h
theorem ren_in (s : Nat → Bool) : InN N (ren N q s) := fun j h1 _ => by unfold ren; rw [decide_eq_false (by omega)]; rfl
theorem ren_p (s : Nat → Bool) {i : Nat} (hi : i < N) : ren N q s (p i) = s i := by
  unfold ren
  rw [decide_eq_true (h.pl i hi), h.qp i hi]; rfl
theorem ren_cg {s t : Nat → Bool} (e : Eqv s t) : Eqv (ren N q s) (ren N q t) := fun j hj => by
  unfold ren
  by_cases hjN : j < N
  · rw [e (q j) (by have := h.ql j hjN; have := h.n12; omega)]
  · rw [decide_eq_false hjN]; rfl
theorem ren_back {s : Nat → Bool} (hs : InN N s) : Eqv (ren N p (ren N q s)) s := fun j hj => by
  by_cases hjN : j < N
  · have := ren_p h s hjN
    unfold ren at this ⊢
    rw [decide_eq_true hjN, Bool.true_and]; exact this
  · unfold ren
    rw [decide_eq_false hjN, hs j (by omega) hj]; rfl
theorem sz_ren : ∀ (n : Nat) (s : Nat → Bool), InN N s → sz s = n → sz (ren N q s) = n
  | 0, s, hs, hz => by
    have : Eqv (ren N q s) (fun _ => false) := fun j hj => by
      unfold ren
      by_cases hjN : j < N
      · have hq := h.ql j hjN
        have hN := h.n12
        cases e : s (q j) with
        | false => simp
        | true =>
          have := sz_wo (s := s) (u := q j) (by omega) e
          omega
      · rw [decide_eq_false hjN]; rfl
    rw [sz_cg this]; exact sz_none
  | n + 1, s, hs, hz => by
    have hN := h.n12
    have hex : ∃ u, u < 12 ∧ s u = true := by
      refine Classical.byContradiction fun hc => ?_
      have : Eqv s (fun _ => false) := fun j hj => by
        cases e : s j with
        | false => rfl
        | true => exact absurd ⟨j, hj, e⟩ hc
      rw [sz_cg this, sz_none] at hz; omega
    obtain ⟨u, hu, hsu⟩ := hex
    have huN : u < N := by
      rcases Nat.lt_or_ge u N with h' | h'
      · exact h'
      · rw [hs u h' hu] at hsu; cases hsu
    have h1 := sz_wo hu hsu
    have ih := sz_ren n (woS s u) (wo_in hs u) (by omega)
    have hpu : ren N q (woS s u) (p u) = false := by
      rw [ren_p h _ huN]; unfold woS; simp
    have he : Eqv (ren N q s) (adds (ren N q (woS s u)) (p u)) := fun j hj => by
      unfold adds
      by_cases e : j = p u
      · subst e; rw [if_pos rfl, ren_p h s huN]; exact hsu
      · rw [if_neg e]
        unfold ren
        by_cases hjN : j < N
        · have : q j ≠ u := fun e2 => e (by rw [← e2, h.pq j hjN])
          unfold woS
          rw [if_neg this]
        · rw [decide_eq_false hjN]; rfl
    rw [sz_cg he, sz_adds (by have := h.pl u huN; omega) hpu, ih]
theorem ren_b {v : Nat} (hv : v < N) : Eqv (b (p v)) (ren N q (a v)) := fun j hj => by
  unfold ren
  by_cases hjN : j < N
  · rw [decide_eq_true hjN, Bool.true_and, ← h.ab v (q j) hv (h.ql j hjN), h.pq j hjN]
  · rw [decide_eq_false hjN]
    cases e : b (p v) j with
    | false => rfl
    | true => exact absurd (h.bl _ _ e) hjN
theorem ren_and {f : Nat → Bool} {s : Nat → Bool} : Eqv (fun u => ren N q f u && !ren N q s u) (ren N q (fun u => f u && !s u)) := fun j hj => by
  unfold ren
  by_cases hjN : j < N
  · simp [hjN]
  · simp [hjN]
theorem ren_dry {v : Nat} (hv : v < N) (s : Nat → Bool) : Eqv (fun u => b (p v) u && !ren N q s u) (ren N q (fun u => a v u && !s u)) := fun j hj => by
  have h1 := ren_b h hv j hj
  have h2 := ren_and h (f := a v) (s := s) j hj
  show (b (p v) j && !ren N q s j) = _
  rw [h1]
  exact h2
theorem only_ren {D : Nat → Bool} {j : Nat} (hj : j < N) (hD : InN N D) : onlyOf (ren N q D) = ((p j : Nat) : Int) ↔ onlyOf D = (j : Int) := by
  have hN := h.n12
  have hpj := h.pl j hj
  rw [only_sz (by omega), only_sz (by omega), sz_ren h _ D hD rfl, ren_p h D hj]
theorem force_ren1 {s : Nat → Bool} (hs : InN N s) {j : Nat} (hj : j < N) (hf : fround a s j = true) : fround b (ren N q s) (p j) = true := by
  have hN := h.n12
  rcases (force_iff _ _ _).1 hf with h1 | ⟨v, h1, h2, h3⟩
  · exact (force_iff _ _ _).2 (.inl (by rw [ren_p h s hj]; exact h1))
  · have hv : v < N := by
      rcases Nat.lt_or_ge v N with h' | h'
      · exact h'
      · rw [hs v h' h1] at h2; cases h2
    refine (force_iff _ _ _).2 (.inr ⟨p v, by have := h.pl v hv; omega, by rw [ren_p h s hv]; exact h2, ?_⟩)
    rw [onlyOf_cg (ren_dry h hv s)]
    exact (only_ren h hj (fun i h1 h2 => by
      cases e : a v i with
      | false => rfl
      | true => exact absurd (h.al _ _ e) (by omega))).2 h3
theorem in_force {s : Nat → Bool} (hs : InN N s) : InN N (fround a s) := fun j h1 h2 => by
  cases e : fround a s j with
  | false => rfl
  | true =>
    rcases (force_iff _ _ _).1 e with h3 | ⟨v, _, _, h3⟩
    · rw [hs j h1 h2] at h3; cases h3
    · obtain ⟨_, h4, _⟩ := onlyOf_some h3
      rw [Bool.and_eq_true] at h4
      exact absurd (h.al _ _ h4.1) (by omega)
end
theorem force_ren {N : Nat} {p q : Nat → Nat} {a b : Nat → Nat → Bool} (h : Ren N p q a b) {s : Nat → Bool} (hs : InN N s) : Eqv (fround b (ren N q s)) (ren N q (fround a s)) := fun j hj => by
  have hN := h.n12
  by_cases hjN : j < N
  · rw [Bool.eq_iff_iff]
    have hq := h.ql j hjN
    constructor
    · intro hf
      have := force_ren1 h.symm (ren_in h s) hjN hf
      have e : fround a (ren N p (ren N q s)) (q j) = fround a s (q j) := (infl_force a).cg _ _ (ren_back h hs) _ (by omega)
      rw [e] at this
      unfold ren
      rw [decide_eq_true hjN, this]; rfl
    · intro hr
      unfold ren at hr
      rw [decide_eq_true hjN, Bool.true_and] at hr
      have := force_ren1 h hs hq hr
      rwa [h.pq j hjN] at this
  · rw [ren_in h _ j (by omega) hj]
    exact in_force h.symm (ren_in h s) j (by omega) hj
theorem eqb_ren {N : Nat} {p q : Nat → Nat} {a b : Nat → Nat → Bool} (h : Ren N p q a b) {s t : Nat → Bool} (hs : InN N s) (ht : InN N t) : eqb (ren N q s) (ren N q t) = eqb s t := by
  have hN := h.n12
  rw [Bool.eq_iff_iff, eqb_iff, eqb_iff]
  constructor
  · intro he j hj
    by_cases hjN : j < N
    · have := he (p j) (by have := h.pl j hjN; omega)
      rwa [ren_p h s hjN, ren_p h t hjN] at this
    · rw [hs j (by omega) hj, ht j (by omega) hj]
  · intro he
    exact ren_cg h he
/-- What a rule does is renamed, too. -/
structure RenR (N : Nat) (p q : Nat → Nat) (ra rb : (Nat → Bool) → Nat → Bool) : Prop where
  ia : Infl ra
  ib : Infl rb
  na : ∀ s, InN N s → InN N (ra s)
  rr : ∀ s, InN N s → Eqv (rb (ren N q s)) (ren N q (ra s))
theorem stg_in {N : Nat} {p q : Nat → Nat} {ra rb : (Nat → Bool) → Nat → Bool} (hr : RenR N p q ra rb) {s : Nat → Bool} (hs : InN N s) : ∀ m, InN N (stg ra s m)
  | 0 => hs
  | m + 1 => hr.na _ (stg_in hr hs m)
theorem stg_ren {N : Nat} {p q : Nat → Nat} {a b : Nat → Nat → Bool} (h : Ren N p q a b) {ra rb : (Nat → Bool) → Nat → Bool} (hr : RenR N p q ra rb) {s : Nat → Bool} (hs : InN N s) : ∀ m, Eqv (stg rb (ren N q s) m) (ren N q (stg ra s m))
  | 0 => fun _ _ => rfl
  | m + 1 => fun j hj => by
    show rb (stg rb (ren N q s) m) j = ren N q (ra (stg ra s m)) j
    rw [hr.ib.cg _ _ (stg_ren h hr hs m) j hj, hr.rr _ (stg_in hr hs m) j hj]
theorem kf_ren {N : Nat} {p q : Nat → Nat} {a b : Nat → Nat → Bool} (h : Ren N p q a b) {ra rb : (Nat → Bool) → Nat → Bool} (hr : RenR N p q ra rb) {s : Nat → Bool} (hs : InN N s) : kfOf rb (ren N q s) = kfOf ra s := by
  unfold kfOf
  have e : (fun k => eqb (stg rb (ren N q s) (k + 1)) (stg rb (ren N q s) k)) = fun k => eqb (stg ra s (k + 1)) (stg ra s k) := by
    funext k
    rw [eqb_cg (stg_ren h hr hs (k + 1)) (stg_ren h hr hs k)]
    exact eqb_ren h (stg_in hr hs _) (stg_in hr hs _)
  rw [e]
theorem clo_ren {N : Nat} {p q : Nat → Nat} {a b : Nat → Nat → Bool} (h : Ren N p q a b) {ra rb : (Nat → Bool) → Nat → Bool} (hr : RenR N p q ra rb) {s : Nat → Bool} (hs : InN N s) : Eqv (clo rb (ren N q s)) (ren N q (clo ra s)) := by
  unfold clo
  rw [kf_ren h hr hs]
  exact stg_ren h hr hs _
theorem all_ren {N : Nat} {p q : Nat → Nat} {a b : Nat → Nat → Bool} (h : Ren N p q a b) : Eqv (ren N q (allS N)) (allS N) := fun j hj => by
  unfold ren allS
  by_cases hjN : j < N
  · simp [hjN, h.ql j hjN]
  · simp [hjN]
theorem all_in (N : Nat) : InN N (allS N) := fun j h1 h2 => by unfold allS; rw [decide_eq_false (by omega)]
theorem wets_ren {N : Nat} {p q : Nat → Nat} {a b : Nat → Nat → Bool} (h : Ren N p q a b) {ra rb : (Nat → Bool) → Nat → Bool} (hr : RenR N p q ra rb) {s : Nat → Bool} (hs : InN N s) : eqb (clo rb (ren N q s)) (allS N) = eqb (clo ra s) (allS N) := by
  rw [eqb_cg (clo_ren h hr hs) (eqv_symm (all_ren h))]
  exact eqb_ren h (stg_in hr hs _) (all_in N)
theorem renR_force {N : Nat} {p q : Nat → Nat} {a b : Nat → Nat → Bool} (h : Ren N p q a b) : RenR N p q (fround a) (fround b) := ⟨infl_force a, infl_force b, fun s hs => in_force h hs, fun s hs => force_ren h hs⟩
theorem hit_ren {N : Nat} {p q : Nat → Nat} {a b : Nat → Nat → Bool} (h : Ren N p q a b) {s : Nat → Bool} {v : Nat} (hv : v < N) : hit b (ren N q s) (p v) = hit a s v := by
  have hA : InN N (a v) := fun i h1 h2 => by
    cases e : a v i with
    | false => rfl
    | true => exact absurd (h.al _ _ e) (by omega)
  have hB : InN N (fun u => a v u && !s u) := fun i h1 h2 => by simp only; rw [hA i h1 h2]; rfl
  have e1 : sz (b (p v)) = sz (a v) := by rw [sz_cg (ren_b h hv), sz_ren h _ _ hA rfl]
  have e2 : sz (fun u => b (p v) u && !ren N q s u) = sz (fun u => a v u && !s u) := by rw [sz_cg (ren_dry h hv s), sz_ren h _ _ hB rfl]
  unfold sz at e1 e2
  unfold hit
  rw [e1, e2]
theorem renR_soak {N : Nat} {p q : Nat → Nat} {a b : Nat → Nat → Bool} (h : Ren N p q a b) (r : Int) : RenR N p q (sokd N a r) (sokd N b r) := ⟨infl_soak N a r, infl_soak N b r, fun s hs j h1 h2 => by
  unfold sokd; rw [if_neg (by omega)]; exact hs j h1 h2, fun s hs j hj => by
  by_cases hjN : j < N
  · have hq := h.ql j hjN
    have := hit_ren h (s := s) hq
    rw [h.pq j hjN] at this
    unfold sokd oneSo
    rw [if_pos hjN, this]
    unfold ren
    simp [hjN, hq]
  · unfold sokd
    rw [if_neg hjN, ren_in h _ j (by omega) hj, ren_in h _ j (by omega) hj]⟩
/-- The rounds are renamed. -/
theorem rdF_step {adj : Nat → Nat → Bool} {N : Nat} (hN : N ≤ 12) {s : Nat → Bool} (hs : InN N s) {j : Nat} (hj : j < 12) : fdTo adj s N j = (fround adj s j && !s j) := by
  rw [fround_fd hN hs hj]
  cases e : fdTo adj s N j with
  | false => cases s j <;> rfl
  | true =>
    obtain ⟨i, _, _, _, d⟩ := (fdTo_iff N).1 e
    rw [Bool.and_eq_true] at d
    have : s j = false := by simpa using d.2
    rw [this]; rfl
theorem rdF_ren {N : Nat} {p q : Nat → Nat} {a b : Nat → Nat → Bool} (h : Ren N p q a b) {s : Nat → Bool} (hs : InN N s) {j : Nat} (hj : j < N) : ∀ m, rdF b N (ren N q s) m (p j) = rdF a N s m j
  | 0 => by
    show (if ren N q s (p j) = true then (0 : Int) else -1) = if s j = true then 0 else -1
    rw [ren_p h s hj]
  | m + 1 => by
    have hN := h.n12
    have hpj := h.pl j hj
    have hr := renR_force h
    have ih := rdF_ren h hs hj m
    have hin : InN N (stg (fround b) (ren N q s) m) := fun i h1 h2 => by
      rw [stg_ren h hr hs m i h2]; exact ren_in h _ i h1 h2
    show (if fdTo b (stg (fround b) (ren N q s) m) N (p j) = true then (m : Int) + 1 else rdF b N (ren N q s) m (p j)) = if fdTo a (stg (fround a) s m) N j = true then (m : Int) + 1 else rdF a N s m j
    have e1 : fround b (stg (fround b) (ren N q s) m) (p j) = fround a (stg (fround a) s m) j := by
      have := stg_ren h hr hs (m + 1) (p j) (by omega)
      rw [ren_p h _ hj] at this
      exact this
    have e2 : stg (fround b) (ren N q s) m (p j) = stg (fround a) s m j := by
      have := stg_ren h hr hs m (p j) (by omega)
      rw [ren_p h _ hj] at this
      exact this
    rw [rdF_step hN hin (by omega), rdF_step hN (stg_in hr hs m) (by omega), e1, e2, ih]
theorem rounds_ren {N : Nat} {p q : Nat → Nat} {a b : Nat → Nat → Bool} (h : Ren N p q a b) {s : Nat → Bool} (hs : InN N s) {j : Nat} (hj : j < N) : roundsOf b N (ren N q s) (p j) = roundsOf a N s j := by
  unfold roundsOf
  rw [kf_ren h (renR_force h) hs]
  exact rdF_ren h hs hj _
/-- The sizes of the first sets are the same. -/
theorem min_sz {N : Nat} (hN : N ≤ 12) {isA isB : (Nat → Bool) → Bool} {p q : Nat → Nat} {a b : Nat → Nat → Bool} (h : Ren N p q a b)
    (ca : ∀ s t, Eqv s t → isA s = isA t) (na : ∀ s, isA s = true → 1 ≤ sz s) (aa : isA (allS N) = true)
    (cb : ∀ s t, Eqv s t → isB s = isB t) (nb : ∀ s, isB s = true → 1 ≤ sz s) (ba : isB (allS N) = true)
    (hab : ∀ s, InN N s → isA s = true → isB (ren N q s) = true) (hba : ∀ s, InN N s → isB s = true → isA (ren N p s) = true) : sz (leastOf N isA) = sz (leastOf N isB) := by
  obtain ⟨a1, a2, a3⟩ := min_ok hN ca na aa
  obtain ⟨b1, b2, b3⟩ := min_ok hN cb nb ba
  have le : ∀ {s t : Nat → Bool}, NotBefore s t → sz t ≤ sz s := fun hh => by rcases hh with hh | ⟨hh, _⟩ <;> omega
  have h1 := le (b3 _ (ren_in h _) (hab _ a1 a2))
  rw [sz_ren h _ _ a1 rfl] at h1
  have h2 := le (a3 _ (ren_in h.symm _) (hba _ b1 b2))
  rw [sz_ren h.symm _ _ b1 rfl] at h2
  omega
theorem nodup_le : ∀ (l m : List Nat), l.Nodup → (∀ x ∈ l, x ∈ m) → l.length ≤ m.length
  | [], m, _, _ => Nat.zero_le _
  | x :: l, m, hl, h => by
    rw [List.nodup_cons] at hl
    obtain ⟨u, v, rfl⟩ := List.append_of_mem (h x List.mem_cons_self)
    have := nodup_le l (u ++ v) hl.2 fun y hy => by
      have h1 := h y (List.mem_cons_of_mem _ hy)
      have hne : y ≠ x := fun e => hl.1 (e ▸ hy)
      rw [List.mem_append, List.mem_cons] at h1
      rw [List.mem_append]
      rcases h1 with h1 | h1 | h1
      · exact .inl h1
      · exact absurd h1 hne
      · exact .inr h1
    rw [List.length_append] at this ⊢
    rw [List.length_cons, List.length_cons]; omega
theorem isF_ren {N : Nat} {p q : Nat → Nat} {a b : Nat → Nat → Bool} (h : Ren N p q a b) {s : Nat → Bool} (hs : InN N s) : isF N b (ren N q s) = isF N a s := by
  have hN := h.n12
  have hd : Eqv (dryS N (ren N q s)) (ren N q (dryS N s)) := fun j hj => by
    unfold dryS ren
    by_cases hjN : j < N
    · simp [hjN, h.ql j hjN]
    · simp [hjN]
  have hdi : InN N (dryS N s) := fun j h1 _ => by unfold dryS; rw [decide_eq_false (by omega)]; rfl
  have hz : Eqv (ren N q (fun _ => false)) (fun _ => false) := fun j hj => by unfold ren; simp
  unfold isF
  rw [eqb_cg (s := ren N q s) (fun _ _ => rfl) (eqv_symm hz), eqb_ren h hs (fun _ _ _ => rfl)]
  rw [eqb_cg (fun j hj => ((infl_force b).cg _ _ hd j hj).trans (force_ren h hdi j hj)) hd, eqb_ren h (in_force h hdi) hdi]
theorem minF_ren {N : Nat} {p q : Nat → Nat} {a b : Nat → Nat → Bool} (h : Ren N p q a b) {s : Nat → Bool} (hs : InN N s) (hm : MinF N a s) : MinF N b (ren N q s) := by
  refine ⟨by rw [isF_ren h hs]; exact hm.1, fun t ht hf hsub => ?_⟩
  have h1 := hm.2 (ren N p t) (ren_in h.symm t) (by rw [isF_ren h.symm ht]; exact hf) (fun j hj hx => by
    have hN := h.n12
    have hjN : j < N := by
      rcases Nat.lt_or_ge j N with h' | h'
      · exact h'
      · rw [ren_in h.symm t j h' hj] at hx; cases hx
    unfold ren at hx
    rw [decide_eq_true hjN, Bool.true_and] at hx
    have := hsub (p j) (by have := h.pl j hjN; omega) hx
    rwa [ren_p h s hjN] at this)
  exact eqv_trans (eqv_symm (ren_back h.symm ht)) (ren_cg h h1)
theorem forts_le {N : Nat} {p q : Nat → Nat} {a b : Nat → Nat → Bool} (h : Ren N p q a b) : (fortsOf N a).length ≤ (fortsOf N b).length := by
  have hN := h.n12
  have hnd : (((fortsOf N a).map fun F => num (ren N q F))).Nodup := by
    rw [List.Nodup, List.pairwise_map]
    refine (List.Pairwise.and_mem.1 (forts_bef hN a)).imp fun {x y} hxy e => ?_
    obtain ⟨hx, hy, hb⟩ := hxy
    have h1 := ren_cg h.symm (eqv_num.2 e)
    have h2 := eqv_trans (eqv_symm (ren_back h (forts_mem hx).2)) (eqv_trans h1 (ren_back h (forts_mem hy).2))
    exact bef_not hb (nb_eqv h2)
  have := nodup_le _ ((fortsOf N b).map num) hnd fun m hm => by
    obtain ⟨F, hF, rfl⟩ := List.mem_map.1 hm
    obtain ⟨hFf, hFin⟩ := forts_mem hF
    have hmin := minF_ren h hFin (forts_min hN hF)
    obtain ⟨F', hF', hs⟩ := forts_cover hN (ren_in h F) hmin.1
    refine List.mem_map.2 ⟨F', hF', ?_⟩
    exact eqv_num.1 (hmin.2 F' (forts_mem hF').2 (forts_mem hF').1 hs)
  simpa using this
theorem forts_ren {N : Nat} {p q : Nat → Nat} {a b : Nat → Nat → Bool} (h : Ren N p q a b) : (fortsOf N a).length = (fortsOf N b).length := Nat.le_antisymm (forts_le h) (forts_le h.symm)
end Go.Proofs.Yteekigpdiklppaa
