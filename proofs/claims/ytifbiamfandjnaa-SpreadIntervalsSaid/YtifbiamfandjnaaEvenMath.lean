import Derived.Test.YtifbiamfandjnaaSeriesFn
import Derived.Test.YtifbiamfandjnaaOptMath
import Derived.Test.YtifbiamfandjnaaGapMath
set_option linter.unusedSimpArgs false
set_option linter.unusedVariables false
namespace Go.Proofs.Ytifbiamfandjnaa
open Go Go.Proofs Go.RowKit Gap
def evenB (b D : Nat) : Bool :=
  let S := b ^ D
  let zs := serL b D S
  okLine (S : Int) zs && redN (lineW S zs).2 ((zs.length : Int) * S) == 1 && redD (lineW S zs).2 ((zs.length : Int) * S) == (S : Int) && (List.range S).all (fun x => zs.contains (x : Int)) && (List.range S).all (fun i => !(zs.take i).contains (zs.getD i 0))
theorem even_all : ((List.range 15).all fun r => (List.range 5).all fun d => if (2 + r) ^ (1 + d) ≤ 60 then evenB (2 + r) (1 + d) else true) = true := by decide +kernel
theorem even_one {b D : Nat} (h1 : 2 ≤ b) (h2 : b ≤ 16) (h3 : 1 ≤ D) (h4 : D ≤ 5) (h5 : b ^ D ≤ 60) : evenB b D = true := by
  have h := List.all_eq_true.1 even_all (b - 2) (List.mem_range.2 (by omega))
  have h := List.all_eq_true.1 h (D - 1) (List.mem_range.2 (by omega))
  rw [show 2 + (b - 2) = b by omega, show 1 + (D - 1) = D by omega, if_pos h5] at h
  exact h
theorem even_gaps {N : Nat} {zs L : List Int} (hN : 1 ≤ N) (h : ∀ x, x < N → memN zs x) (hL : GapsOf N zs L) : L = [1] := by
  refine asc_unique hL.1 (by simp) fun z => (hL.2 z).trans ?_
  rw [List.mem_singleton]
  constructor
  · rintro ⟨d, rfl, x, hx, hm, h1, h2, h3, h4⟩
    by_cases hd : d = 1
    · rw [hd]; rfl
    · exact absurd (h _ (Nat.mod_lt _ (by omega))) (h4 1 (by omega) (by omega))
  · rintro rfl
    exact ⟨1, rfl, 0, by omega, h 0 (by omega), by omega, hN, h _ (Nat.mod_lt _ (by omega)), fun e h1 h2 => by omega⟩
theorem even_facts {b D : Nat} (h1 : 2 ≤ b) (h2 : b ≤ 16) (h3 : 1 ≤ D) (h4 : D ≤ 5) (h5 : b ^ D ≤ 60) :
    okLine ((b ^ D : Nat) : Int) (serL b D (b ^ D)) = true ∧ redN (lineW (b ^ D) (serL b D (b ^ D))).2 (((serL b D (b ^ D)).length : Int) * ((b ^ D : Nat) : Int)) = 1 ∧ redD (lineW (b ^ D) (serL b D (b ^ D))).2 (((serL b D (b ^ D)).length : Int) * ((b ^ D : Nat) : Int)) = ((b ^ D : Nat) : Int) ∧
    (∀ L, GapsOf (b ^ D) (serL b D (b ^ D)) L → L = [1]) ∧ (∀ i, i < b ^ D → (serL b D (b ^ D)).getD i 0 ∉ (serL b D (b ^ D)).take i) := by
  have h := even_one h1 h2 h3 h4 h5
  simp only [evenB, Bool.and_eq_true, beq_iff_eq] at h
  obtain ⟨⟨⟨⟨a1, a2⟩, a3⟩, a4⟩, a5⟩ := h
  refine ⟨a1, a2, a3, fun L hL => even_gaps (Nat.pow_pos (by omega)) (fun x hx => ?_) hL, fun i hi => ?_⟩
  · have := List.all_eq_true.1 a4 x (List.mem_range.2 hx)
    unfold memN
    simpa using this
  · have := List.all_eq_true.1 a5 i (List.mem_range.2 hi)
    simpa using this
end Go.Proofs.Ytifbiamfandjnaa
