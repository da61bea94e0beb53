import Derived.Test.YteekigpdiklppaaWOrdM
set_option linter.unusedSimpArgs false
set_option linter.unusedVariables false
namespace Go.Proofs.Yteekigpdiklppaa
open Go Go.Proofs Go.RowKit Go.Seq
attribute [local go_sem] Oper.semAt_some
theorem Hd.tl {w W : World} {ve : Value} {E : Pts} {x : Value × List Int} {l : List (Value × List Int)} (h : Hd w W ve E (x :: l)) : Hd w W ve E l := ⟨h.1, fun y hy => h.2.1 y (List.mem_cons_of_mem _ hy), h.2.2⟩
theorem argZ_len {w : World} {A : Option Addr} {l c : Nat} {zs : List Int} (h : ArgZ w (.slice A l c) zs) : zs.length = l := by
  rcases h with ⟨h1, rfl⟩ | ⟨a, cap, h1, rfl⟩ | ⟨b, o, cap, h1, _⟩
  · injection h1 with _ h2 _; rw [h2]; rfl
  · injection h1 with _ h2 _; rw [h2]; rfl
  · injection h1 with _ h2 _; exact h2.symm
theorem argZ_max {w : World} {v : Value} {zs : List Int} (h : ArgZ w v zs) : zs.length ≤ 9223372036854775807 := by
  rcases h with ⟨_, rfl⟩ | ⟨a, cap, _, rfl⟩ | ⟨b, o, cap, _, _, h2, _⟩
  · simp
  · simp
  · unfold maxLen at h2; omega
theorem argZ_at {w : World} {A : Option Addr} {l c k : Nat} {zs : List Int} (h : ArgZ w (.slice A l c) zs) (hk : k < zs.length) : ∃ b o, A = some ⟨b, o, none⟩ ∧ w.cell? ⟨b, o + k, none⟩ = some (.int .i64 (zs.getD k 0)) := by
  rcases h with ⟨_, rfl⟩ | ⟨_, _, _, rfl⟩ | ⟨b, o, cap, h1, _, _, h2⟩
  · simp at hk
  · simp at hk
  · injection h1 with h3 _ _
    exact ⟨b, o, h3, h2 k hk⟩
theorem row_cap {W : World} {B e s k c n : Nat} {A : Option Addr} {xs : List Value} (h : W.ownsRow B e s (.slice A k c) n xs) : k ≤ c := by
  obtain ⟨_, h2⟩ := h
  rcases h2 with ⟨h3, _⟩ | ⟨g, cap, cur, h3, _, _, hn, _⟩
  · injection h3 with _ h4 h5; omega
  · injection h3 with _ h4 h5; omega
theorem row_slice2 {W : World} {B e s k : Nat} {v : Value} {xs : List Value} (h : W.ownsRow B e s v k xs) : ∃ A c, v = .slice A k c := by
  obtain ⟨_, h2⟩ := h
  rcases h2 with ⟨h3, h4⟩ | ⟨g, cap, cur, h3, _⟩
  · exact ⟨none, 0, by rw [h3, h4]⟩
  · exact ⟨_, _, h3⟩
theorem pairs_take {W : World} {A : Option Addr} {k k' cc : Nat} {c : Pts} (h : PairsOf W (.slice A k cc) c) (hl : c.length = k) (hk : k' ≤ k) : PairsOf W (.slice A k' cc) (c.take k') := by
  obtain ⟨A', cap, hv, hc⟩ := h
  injection hv with h1 h2 h3
  subst h1
  have hlt : (c.take k').length = k' := by rw [List.length_take]; omega
  refine ⟨A, cc, by rw [hlt], fun i hi => ?_⟩
  rw [hlt] at hi
  obtain ⟨g, e1, e2, e3⟩ := hc i (by omega)
  have hg : (c.take k').getD i (0, 0) = c.getD i (0, 0) := by
    rw [List.getD_eq_getElem?_getD, List.getD_eq_getElem?_getD, List.getElem?_take_of_lt hi]
  exact ⟨g, e1, by rw [hg]; exact e2, by rw [hg]; exact e3⟩
theorem one_at {W : World} {v : Value} {D : Nat → Bool} {u : Nat} (h : IntsO W v (zsOf D)) (hs : sz D = 1) (hu : onlyOf D = (u : Int)) : ∃ g o c, v = .slice (some ⟨g, o, none⟩) 1 c ∧ W.cell? ⟨g, o, none⟩ = some (.int .i64 (u : Nat)) := by
  have h1 := (onlyOf_some hu).1
  have h2 := (onlyOf_some hu).2.1
  have hl : zsOf D = [(u : Int)] := by
    unfold zsOf
    obtain ⟨x, hx⟩ := List.length_eq_one_iff.1 hs
    have hm : u ∈ vsTo D 12 := by unfold vsTo; rw [List.mem_filter]; exact ⟨by simpa using h1, h2⟩
    rw [hx] at hm ⊢
    simp only [List.mem_singleton] at hm
    rw [hm]; rfl
  rw [hl] at h
  obtain ⟨A, c, rfl, hc⟩ := h
  obtain ⟨g, o, rfl, h3⟩ := hc 0 (by simp)
  exact ⟨g, o, c, rfl, by simpa using h3⟩
theorem chrT_cg {n : Nat} (hn : n ≤ 12) {adj : Nat → Nat → Bool} : ∀ (c : Pts) {s t : Nat → Bool}, (∀ j, j < 12 → s j = t j) → (chrT n adj s c).isSome = (chrT n adj t c).isSome
  | [], s, t, _ => rfl
  | p :: c, s, t, h => by
    have hstep : stepC n adj s p = stepC n adj t p := by
      unfold stepC
      by_cases hp : 0 ≤ p.1 ∧ p.1 < (n : Int)
      · have h1 : s p.1.toNat = t p.1.toNat := h _ (by omega)
        have h2 : onlyOf (fun u => adj p.1.toNat u && !s u) = onlyOf (fun u => adj p.1.toNat u && !t u) := onlyOf_cg fun j hj => by rw [h j hj]
        rw [h1, h2]
      · rw [decide_eq_false hp]; simp
    show (if stepC n adj s p = true then chrT n adj (adds s p.2.toNat) c else none).isSome = (if stepC n adj t p = true then chrT n adj (adds t p.2.toNat) c else none).isSome
    rw [hstep]
    split
    · exact chrT_cg hn c fun j hj => by unfold adds; rw [h j hj]
    · rfl
end Go.Proofs.Yteekigpdiklppaa
