import Derived.Test.YteekigpdiklppaaWLeaS
set_option linter.unusedSimpArgs false
set_option linter.unusedVariables false
set_option linter.unusedSectionVars false
namespace Go.Proofs.Yteekigpdiklppaa
open Go Go.Proofs Go.RowKit Go.Seq Go.Seq.Stp
/-! The search for a smallest soaking set that forces. -/
def smS (n : Nat) (so : (Nat → Bool) → Bool) (pre : List (Nat → Bool)) : Nat := pre.foldl (fun m y => if so y = true then sz y else m) n
theorem smS_snoc (n : Nat) (so : (Nat → Bool) → Bool) (pre : List (Nat → Bool)) (x : Nat → Bool) : smS n so (pre ++ [x]) = if so x = true then sz x else smS n so pre := by simp [smS]
/-- The search goes on. -/
def shG (n : Nat) (so fo : (Nat → Bool) → Bool) (pre : List (Nat → Bool)) (x : Nat → Bool) : Bool := !(decide (smS n so pre < sz x)) && !(so x && fo x)
theorem setsTo_sorted {N : Nat} (hN : N ≤ 12) : ∀ k, (setsTo N k).Pairwise fun a b => sz a ≤ sz b
  | 0 => by simp [setsTo]
  | k + 1 => by
    rw [setsTo_succ, List.pairwise_append]
    refine ⟨setsTo_sorted hN k, ?_, fun a ha b hb => ?_⟩
    · rw [List.pairwise_iff_forall_sublist]
      intro a b hab
      have h1 := (lev_in hN (hab.subset (List.mem_cons_self))).1
      have h2 := (lev_in hN (hab.subset (List.mem_cons_of_mem _ List.mem_cons_self))).1
      omega
    · have h1 := setsTo_sz hN ha
      have h2 := (lev_in hN hb).1
      omega
section
variable {N l : Nat} {so fo : (Nat → Bool) → Bool} (hN : N ≤ 12) (hl : ∀ y ∈ setsTo N N, so y = true → l ≤ sz y) (hf : ∀ p x post, setsTo N N = p ++ x :: post → (∀ y ∈ p, so y = false) → so x = true → sz x = l)
include hl hf
/-- While the search goes on, the size is that of the least, or nothing soaks yet. -/
theorem sm_ok : ∀ (k : Nat) (p post : List (Nat → Bool)), p.length = k → setsTo N N = p ++ post → going (shG N so fo) p → ((∀ y ∈ p, so y = false) ∧ smS N so p = N) ∨ smS N so p = l
  | 0, p, post, hk, hx, hg => by
    obtain rfl := List.length_eq_zero_iff.1 hk
    exact .inl ⟨fun y h => by simp at h, rfl⟩
  | k + 1, p, post, hk, hx, hg => by
    rcases List.eq_nil_or_concat p with rfl | ⟨p', x, rfl⟩
    · simp at hk
    rw [List.concat_eq_append] at hk hx hg ⊢
    rw [List.append_assoc] at hx
    obtain ⟨hg1, hg2⟩ := going_snoc.1 hg
    have ih := sm_ok k p' _ (by simpa using hk) hx hg1
    rw [smS_snoc]
    cases hs : so x with
    | false =>
      rw [if_neg (by simp)]
      rcases ih with ⟨h1, h2⟩ | h2
      · refine .inl ⟨fun y hy => ?_, h2⟩
        rw [List.mem_append, List.mem_singleton] at hy
        rcases hy with hy | rfl
        · exact h1 y hy
        · exact hs
      · exact .inr h2
    | true =>
      rw [if_pos rfl]
      refine .inr ?_
      rcases ih with ⟨h1, h2⟩ | h2
      · exact hf p' x post hx h1 hs
      · have h3 := hl x (by rw [hx]; simp) hs
        unfold shG at hg2
        rw [Bool.and_eq_true, Bool.not_eq_true', decide_eq_false_iff_not] at hg2
        omega
end
theorem going_at {α : Type} {gs : List α → α → Bool} {pre p q : List α} {x : α} (h : going gs pre) (e : pre = p ++ x :: q) : gs p x = true := h p x q e
section
variable {N l : Nat} {so fo : (Nat → Bool) → Bool} (hN : N ≤ 12) (hl : ∀ y ∈ setsTo N N, so y = true → l ≤ sz y) (hf : ∀ p x post, setsTo N N = p ++ x :: post → (∀ y ∈ p, so y = false) → so x = true → sz x = l)
include hN hl hf
theorem sh_true {p post : List (Nat → Bool)} {x : Nat → Bool} (hx : setsTo N N = p ++ x :: post) (hg : going (shG N so fo) p) (hs : so x = true) (hsm : ¬ smS N so p < sz x) : sz x = l := by
  rcases sm_ok hl hf p.length p _ rfl hx hg with ⟨h1, h2⟩ | h2
  · exact hf p x post hx h1 hs
  · have := hl x (by rw [hx]; simp) hs
    omega
theorem sh_done (hg : going (shG N so fo) (setsTo N N)) : ∀ y ∈ setsTo N N, (so y && fo y) = false := fun y hy => by
  obtain ⟨p, q, e⟩ := List.append_of_mem hy
  have := going_at hg e
  unfold shG at this
  rw [Bool.and_eq_true, Bool.not_eq_true', Bool.not_eq_true'] at this
  exact this.2
theorem sh_stop {p post : List (Nat → Bool)} {x : Nat → Bool} (hx : setsTo N N = p ++ x :: post) (hg : going (shG N so fo) p) (hsm : smS N so p < sz x) : ∀ y ∈ setsTo N N, sz y = l → (so y && fo y) = false := fun y hy hyl => by
  have hxz : sz x ≤ N := setsTo_sz hN (show x ∈ setsTo N N by rw [hx]; simp)
  have hlx : l < sz x := by
    rcases sm_ok hl hf p.length p _ rfl hx hg with ⟨h1, h2⟩ | h2
    · omega
    · omega
  have hso := setsTo_sorted hN N
  rw [hx, List.pairwise_append, List.pairwise_cons] at hso
  rw [hx, List.mem_append, List.mem_cons] at hy
  rcases hy with hy | rfl | hy
  · obtain ⟨a, b, rfl⟩ := List.append_of_mem hy
    have := going_at hg rfl
    unfold shG at this
    rw [Bool.and_eq_true, Bool.not_eq_true', Bool.not_eq_true'] at this
    exact this.2
  · omega
  · have := hso.2.1.1 y hy; omega
end
section
variable {N : Nat} {E : Pts} {r : Int} (hG : GOk N E) (hr : 1 ≤ r)
include hG hr
theorem sh_l : ∀ y ∈ setsTo N N, soaking N E r y = true → sz (leastOf N (soaking N E r)) ≤ sz y := fun y hy hs => by
  rcases (fewest_ok hG hr).2 y (setsTo_in hy) hs with h | ⟨h, _⟩ <;> omega
theorem sh_f : ∀ p x post, setsTo N N = p ++ x :: post → (∀ y ∈ p, soaking N E r y = false) → soaking N E r x = true → sz x = sz (leastOf N (soaking N E r)) := fun p x post hx h1 hs => by
  have : leastOf N (soaking N E r) = x := by
    unfold leastOf
    rw [hx, List.find?_append, List.find?_eq_none.2 (fun y hy => by simp [h1 y hy])]
    simp [hs]
  rw [this]
theorem shared_iff : sharedOf N E r = true ↔ ∃ y ∈ setsTo N N, sz y = sz (leastOf N (soaking N E r)) ∧ (soaking N E r y && forcing N E y) = true := by
  have hN := hG.n12
  unfold sharedOf shF
  rw [List.any_eq_true]
  constructor
  · rintro ⟨m, hm, h⟩
    rw [List.mem_range] at hm
    rw [Bool.and_eq_true, decide_eq_true_eq] at h
    have hin : InN N (setN m) := setN_in hm
    have h2 := h.2
    rw [Bool.and_eq_true] at h2
    have h1 := soaking_ne hG hr h2.1
    have hle := sz_in hN hin
    obtain ⟨s', hs, he⟩ := lev_full hN hin (m := sz (setN m) - 1 + 1) (by omega)
    obtain ⟨rest, hrest⟩ := setsTo_rest N (k := sz (setN m) - 1) (M := N) (by omega)
    refine ⟨s', by rw [hrest]; exact List.mem_append_right _ (List.mem_append_left _ hs), ?_, ?_⟩
    · rw [sz_cg he]; exact h.1
    · rw [soaking_cg he, forcing_cg he]; exact h.2
  · rintro ⟨y, hy, h1, h2⟩
    have hin := setsTo_in hy
    refine ⟨num y, List.mem_range.2 (num_lt2 hN hin), ?_⟩
    rw [Bool.and_eq_true, decide_eq_true_eq, sz_cg (setN_num (s := y)), soaking_cg (setN_num (s := y)), forcing_cg (setN_num (s := y))]
    exact ⟨h1, h2⟩
theorem shared_yes {p post : List (Nat → Bool)} {x : Nat → Bool} (hx : setsTo N N = p ++ x :: post) (hg : going (shG N (soaking N E r) (forcing N E)) p) (hs : soaking N E r x = true) (hfo : forcing N E x = true) (hsm : ¬ smS N (soaking N E r) p < sz x) : sharedOf N E r = true :=
  (shared_iff hG hr).2 ⟨x, by rw [hx]; simp, sh_true hG.n12 (sh_l hG hr) (sh_f hG hr) hx hg hs hsm, by rw [hs, hfo]; rfl⟩
theorem shared_done (hg : going (shG N (soaking N E r) (forcing N E)) (setsTo N N)) : sharedOf N E r = false := by
  cases e : sharedOf N E r with
  | false => rfl
  | true =>
    obtain ⟨y, hy, _, h2⟩ := (shared_iff hG hr).1 e
    rw [sh_done hG.n12 (sh_l hG hr) (sh_f hG hr) hg y hy] at h2; cases h2
theorem shared_stop {p post : List (Nat → Bool)} {x : Nat → Bool} (hx : setsTo N N = p ++ x :: post) (hg : going (shG N (soaking N E r) (forcing N E)) p) (hsm : smS N (soaking N E r) p < sz x) : sharedOf N E r = false := by
  cases e : sharedOf N E r with
  | false => rfl
  | true =>
    obtain ⟨y, hy, h1, h2⟩ := (shared_iff hG hr).1 e
    rw [sh_stop hG.n12 (sh_l hG hr) (sh_f hG hr) hx hg hsm y hy h1] at h2; cases h2
end
end Go.Proofs.Yteekigpdiklppaa
