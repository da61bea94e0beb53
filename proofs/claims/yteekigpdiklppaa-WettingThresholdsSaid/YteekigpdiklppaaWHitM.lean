import Derived.Test.YteekigpdiklppaaWLaw
import Derived.Test.YteekigpdiklppaaWOrd
set_option linter.unusedSimpArgs false
set_option linter.unusedVariables false
namespace Go.Proofs.Yteekigpdiklppaa
open Go Go.Proofs Go.RowKit Go.Seq
/-! A set is forcing exactly if it meets every least fort. -/
def forcing (N : Nat) (E : Pts) (s : Nat → Bool) : Bool := eqb (clo (fround (adjOf E)) s) (allS N)
theorem forcing_cg {N : Nat} {E : Pts} {s t : Nat → Bool} (h : Eqv s t) : forcing N E s = forcing N E t := eqb_cg (clo_cg (infl_force _) h) (fun _ _ => rfl)
theorem forcing_hits {N : Nat} {E : Pts} {S U : Nat → Bool} (hS : InN N S) (hf : forcing N E S = true) (hU : isF N (adjOf E) U = true) (hUin : InN N U) : num (fun j => U j && S j) ≠ 0 := fun h0 => by
  have hd : ∀ j, j < 12 → S j = true → U j = false := fun j hj hs => by
    have := num_none.1 h0 j hj
    simpa [hs] using this
  obtain ⟨⟨j, hj, hu⟩, _⟩ := isF_iff.1 hU
  have h1 := eqb_iff.1 hf j hj
  rw [beside_fort hU hS hd j hj hu] at h1
  have h2 : j < N := by
    rcases Nat.lt_or_ge j N with h | h
    · exact h
    · rw [hUin j h hj] at hu; cases hu
  simp [allS] at h1; omega
theorem missed {N : Nat} {E : Pts} (hG : GOk N E) {S : Nat → Bool} (hS : InN N S) (hf : forcing N E S = false) : ∃ F ∈ fortsOf N (adjOf E), num (fun j => F j && S j) = 0 := by
  have hIn := inN_force hG hS
  obtain ⟨C, hC⟩ : ∃ C, clo (fround (adjOf E)) S = C := ⟨_, rfl⟩
  have hcl := clo_closed (infl_force (adjOf E)) S
  have hup := clo_up (infl_force (adjOf E)) S
  unfold forcing at hf
  rw [hC] at hIn hcl hup hf
  have hdry : ∀ j, j < 12 → dryS N (fun j => allS N j && !C j) j = C j := fun j hj => by
    unfold dryS allS
    by_cases h : j < N
    · simp [h]
    · rw [hIn j (by omega) hj]; simp [h]
  have hfort : isF N (adjOf E) (fun j => allS N j && !C j) = true := by
    refine isF_iff.2 ⟨?_, fun j hj => ?_⟩
    · refine Classical.byContradiction fun hc => ?_
      have : eqb C (allS N) = true := eqb_iff.2 fun j hj => by
        cases h : C j with
        | true =>
          unfold allS
          rcases Nat.lt_or_ge j N with h2 | h2
          · simp [h2]
          · rw [hIn j h2 hj] at h; cases h
        | false =>
          cases h2 : allS N j with
          | false => rfl
          | true => exact absurd ⟨j, hj, by simp [h, h2]⟩ hc
      rw [this] at hf; cases hf
    · rw [(infl_force (adjOf E)).cg _ _ hdry j hj, hdry j hj]; exact hcl j hj
  obtain ⟨F, hF, hsub⟩ := forts_cover hG.n12 (t := fun j => allS N j && !C j) (fun j h1 h2 => by simp [allS]; omega) hfort
  refine ⟨F, hF, num_none.2 fun j hj => ?_⟩
  cases e : F j with
  | false => rfl
  | true =>
    have := hsub j hj e
    cases e2 : S j with
    | false => rfl
    | true => simp [hup j e2] at this
theorem setsTo_sz {n k : Nat} (hn : n ≤ 12) {s : Nat → Bool} (h : s ∈ setsTo n k) : sz s ≤ k := by
  unfold setsTo at h
  simp only [List.mem_flatMap, List.mem_range] at h
  obtain ⟨i, hi, h⟩ := h
  have := (lev_in hn h).1; omega
theorem forcing_all {N : Nat} {E : Pts} (hG : GOk N E) : forcing N E (allS N) = true := eqb_iff.2 fun j hj => by
  have hIn := inN_force hG (s := allS N) (fun j h1 h2 => by simp [allS]; omega)
  cases e : allS N j with
  | true => exact clo_up (infl_force _) _ j e
  | false => exact hIn j (by simpa [allS] using e) hj
theorem forcing_ne {N : Nat} {E : Pts} (hG : GOk N E) {S : Nat → Bool} (hf : forcing N E S = true) : 1 ≤ sz S := by
  refine Nat.one_le_iff_ne_zero.2 fun h0 => ?_
  have he : ∀ j, j < 12 → S j = false := fun j hj => by
    cases e : S j with
    | false => rfl
    | true => have := (sz_mono (a := (fun _ => false)) (b := S) (fun j hj h => by cases h)).2 ⟨j, hj, rfl, e⟩; omega
  have h1 := eqb_iff.1 hf 0 (by omega)
  have h2 : clo (fround (adjOf E)) S 0 = true := by rw [h1]; simp [allS]; exact hG.n1
  have h3 := clo_least (absorbs_force (adjOf E)) (s := S) (c := (fun _ => false)) (fun j hj h => by rw [he j hj] at h; cases h) (fun j hj h => by
    rw [fround_none (adjOf E) (s := (fun _ => false)) (fun _ _ => rfl) j hj] at h; cases h) 0 (by omega) h2
  cases h3
theorem least_ok {N : Nat} {E : Pts} (hG : GOk N E) : forcing N E (leastOf N (forcing N E)) = true ∧ InN N (leastOf N (forcing N E)) ∧ ∀ S, InN N S → forcing N E S = true → sz (leastOf N (forcing N E)) ≤ sz S := by
  have key : ∀ S, InN N S → forcing N E S = true → ∃ l, (setsTo N N).find? (forcing N E) = some l ∧ sz l ≤ sz S := fun S hS hf => by
    have h1 := forcing_ne hG hf
    have hle := sz_in hG.n12 hS
    obtain ⟨s', hs, he⟩ := lev_full hG.n12 hS (m := sz S - 1 + 1) (by omega)
    obtain ⟨rest, hr⟩ := setsTo_rest N (k := sz S - 1) (M := N) (by omega)
    rw [← List.append_assoc, ← setsTo_succ] at hr
    have hm : s' ∈ setsTo N (sz S - 1 + 1) := by rw [setsTo_succ]; exact List.mem_append_right _ hs
    have hf' : forcing N E s' = true := by rw [forcing_cg he]; exact hf
    cases hx : (setsTo N (sz S - 1 + 1)).find? (forcing N E) with
    | none => exact absurd hf' (List.find?_eq_none.1 hx s' hm)
    | some l =>
      refine ⟨l, by rw [hr, List.find?_append, hx]; rfl, ?_⟩
      have := setsTo_sz hG.n12 (List.mem_of_find?_eq_some hx); omega
  obtain ⟨l, hl, _⟩ := key (allS N) (fun j h1 h2 => by simp [allS]; omega) (forcing_all hG)
  have he : leastOf N (forcing N E) = l := by unfold leastOf; rw [hl]; rfl
  rw [he]
  refine ⟨List.find?_some hl, setsTo_in (List.mem_of_find?_eq_some hl), fun S hS hf => ?_⟩
  obtain ⟨l2, h1, h2⟩ := key S hS hf
  rw [hl] at h1
  cases h1
  exact h2
/-! The functions as the law calls them. -/
theorem oLeast {N : Nat} {E : Pts} (hG : GOk N E) {F : Nat → Bool} (hF : leastOf N (forcing N E) = F) {l : Nat} (hl : sz F = l) (W : World) (ve : Value) (he : PairsOf W ve E) :
    Calls Try.prog 34 #[.int .i64 N, ve] W fun e w' => ∃ X c, e = .returned (.tuple #[.slice X l c, .int .i64 0]) ∧ IntsO w' (.slice X l c) (zsOf F) ∧ Below W.heap.size W w' := by
  refine (Least_yes (kfOf (fround (adjOf E))) he hG.gr hG.len (fun s => stops_kf (infl_force _) s)).mono ?_
  rintro e w' ⟨lv, rfl, h1, h2⟩
  rw [show (leastOf N fun s => eqb (stg (fround (adjOf E)) s (kfOf (fround (adjOf E)) s)) (allS N)) = F from hF] at h1
  have h3 := lists_of h1 (t := F) (fun _ _ => rfl)
  obtain ⟨X, c, rfl⟩ := intsO_slice' h3
  have hz : (zsOf F).length = l := by rw [zsOf_len]; exact hl
  rw [hz] at h3 ⊢
  exact ⟨X, c, rfl, h3, h2⟩
theorem oSomeSl {N : Nat} (hN : N ≤ 12) (x : Int) {S : Nat → Bool} (hS : someS N x = S) {l : Nat} (hl : sz S = l) (W : World) : Calls Try.prog 51 #[.int .i64 N, .int .i64 x] W fun e w' => ∃ X c, e = .returned (.slice X l c) ∧ IntsO w' (.slice X l c) (zsOf S) ∧ Below W.heap.size W w' := by
  refine (oSome hN x W).mono ?_
  rintro e w' ⟨lv, rfl, h1, h2⟩
  rw [hS] at h1
  obtain ⟨X, c, rfl⟩ := intsO_slice' h1
  have hz : (zsOf S).length = l := by rw [zsOf_len]; exact hl
  rw [hz] at h1 ⊢
  exact ⟨X, c, rfl, h1, h2⟩
theorem oCloseSl {N : Nat} {E : Pts} {s : Nat → Bool} (h : GOk N E) (hs : InN N s) {A : Nat → Bool} (hA : clo (fround (adjOf E)) s = A) {la : Nat} (hla : sz A = la) {k : Nat} (hk : kfOf (fround (adjOf E)) s = k) : ∀ (W : World) (ve v : Value), PairsOf W ve E → IntsO W v (zsOf s) →
    Calls Try.prog 19 #[.int .i64 N, ve, v] W fun e w' => ∃ X cap, e = .returned (.tuple #[.slice X la cap, .int .i64 k, .int .i64 0]) ∧ IntsO w' (.slice X la cap) (zsOf A) ∧ Below W.heap.size W w' := fun W ve v he hv => (oClose h he hs hv).mono fun e w' ⟨lv, h1, h2, h3⟩ => by
  rw [hA] at h2; rw [hk] at h1
  obtain ⟨X, cap, rfl⟩ := intsO_slice' h2
  have hz : (zsOf A).length = la := by rw [zsOf_len]; exact hla
  rw [hz] at h1 h2
  exact ⟨X, cap, h1, h2, h3⟩
theorem oFortsL {N : Nat} {E : Pts} (h : GOk N E) {L : List (Nat → Bool)} (hL : fortsOf N (adjOf E) = L) {M : Nat} (hM : L.length = M) (h1 : 1 ≤ M) (w : World) (ve : Value) (he : PairsOf w ve E) :
    Calls Try.prog 35 #[.int .i64 N, ve] w fun e w' => ∃ g cap, e = .returned (.tuple #[.slice (some ⟨g, 0, none⟩) M cap, .int .i64 0]) ∧ ListsO w' (.slice (some ⟨g, 0, none⟩) M cap) L ∧ Below w.heap.size w w' := by
  refine (Forts_yes he h.gr h.len).mono ?_
  rintro e w' ⟨lv, svs, rfl, h2, h3⟩
  rw [hL] at h2
  have h4 := h2.lists
  obtain ⟨X, cap, rfl, hc⟩ := id h4
  obtain ⟨g, XA, la, cA, rfl, a1, a2⟩ := hc 0 (by omega)
  rw [hM] at h4 ⊢
  exact ⟨g, cap, rfl, h4, h3⟩
/-- What the law holds while it walks over the forts. -/
def Fl (w : World) (W : World) (ve : Value) (E : Pts) (l : List (Value × (Nat → Bool))) (v : Value) (L : List (Nat → Bool)) : Prop := Fa W ve E l ∧ ListsO W v L ∧ Below w.heap.size w W
theorem Fl.keep {w W W' : World} {ve : Value} {E : Pts} {l : List (Value × (Nat → Bool))} {v : Value} {L : List (Nat → Bool)} (h : Fl w W ve E l v L) (hb : Below W.heap.size W W') : Fl w W' ve E l v L := ⟨h.1.after hb, listsO_below h.2.1 hb, h.2.2.trans (hb.mono h.2.2.size)⟩
theorem Fl.put {w W W' : World} {ve : Value} {E : Pts} {l : List (Value × (Nat → Bool))} {v0 : Value} {L : List (Nat → Bool)} (h : Fl w W ve E l v0 L) (hb : Below W.heap.size W W') {v : Value} {s : Nat → Bool} (hv : IntsO W' v (zsOf s)) : Fl w W' ve E ((v, s) :: l) v0 L := ⟨(h.keep hb).1.add hv, (h.keep hb).2⟩
theorem Fl.at {w W : World} {ve : Value} {E : Pts} {l : List (Value × (Nat → Bool))} {v0 : Value} {L : List (Nat → Bool)} (h : Fl w W ve E l v0 L) {v : Value} {s : Nat → Bool} (hm : (v, s) ∈ l) : IntsO W v (zsOf s) := h.1.2 (v, s) hm
theorem Fl.el {w W : World} {ve : Value} {E : Pts} {l : List (Value × (Nat → Bool))} {g M cap : Nat} {L : List (Nat → Bool)} (h : Fl w W ve E l (.slice (some ⟨g, 0, none⟩) M cap) L) {i : Nat} {s : Nat → Bool} (hs : L[i]? = some s) : ∃ X m c, W.cell? ⟨g, i, none⟩ = some (.slice X m c) ∧ IntsO W (.slice X m c) (zsOf s) ∧ m = sz s := by
  obtain ⟨X, cap, hv, hc⟩ := h.2.1
  cases hv
  obtain ⟨hi, rfl⟩ := List.getElem?_eq_some_iff.1 hs
  obtain ⟨g', X, m, c, hg, h1, h2⟩ := hc i hi
  cases hg
  refine ⟨X, m, c, h1, h2, ?_⟩
  obtain ⟨X', c', hx⟩ := intsO_slice' h2
  cases hx
  rw [zsOf_len]; rfl
end Go.Proofs.Yteekigpdiklppaa
