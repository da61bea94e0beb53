/- What the laws of awards share: awards are small fractions. -/
import Derived.Test.YtbocmbhinjkjlaaAwAll
import Derived.Test.YtbocmbhinjkjlaaTameBoth
import Derived.Test.YtbocmbhinjkjlaaAwMath2
set_option linter.unusedSimpArgs false
set_option linter.unusedVariables false
namespace Go.Proofs.Ytbocmbhinjkjlaa
open Go Go.Proofs Go.RowKit Go.Seq Go.Sort
theorem arg_intsQ {w : World} {v : Value} {zs : List Int} (h : ArgInts w v zs) : IntsO w v zs := by
  rcases h with ⟨rfl, rfl⟩ | ⟨a, cap, rfl, rfl⟩ | ⟨b, o, cap, rfl, _, _, _, hc⟩
  · exact ⟨none, 0, rfl, fun k hk => by simp at hk⟩
  · exact ⟨some a, cap, rfl, fun k hk => by simp at hk⟩
  · exact ⟨_, cap, rfl, fun k hk => ⟨b, o, rfl, hc k hk⟩⟩
theorem aw_bd {r : Nat} {zs : List Int} {E N L c : Int} (hr : r ≤ 4) (hV : Valid zs) (hE : 0 ≤ E ∧ E ≤ zs.sum) (h : LevR r zs E N L) (hc : c ∈ zs) : 1 ≤ awD r zs.sum N ∧ awD r zs.sum N ≤ 10000 ∧ 0 ≤ awX r zs.sum E N L c ∧ awX r zs.sum E N L c ≤ 10000000 := by
  have h1 := awD_one (r := r) (S := zs.sum) h.n1
  have h2 := awD_most (r := r) h.n10 (sum_in hV).2
  have h3 := awX_in hr hE h.n1 h.l0 (hV.2.2 c hc).1
  have h4 := mul_in (a := c) (b := awD r zs.sum N) (A := 1000) (B := 10000) (hV.2.2 c hc).1 (hV.2.2 c hc).2 (by omega) h2
  omega
theorem aw_Bd {r : Nat} {zs : List Int} {E N L c : Int} (hr : r ≤ 4) (hV : Valid zs) (hE : 0 ≤ E ∧ E ≤ zs.sum) (h : LevR r zs E N L) (hc : c ∈ zs) : Bd (awX r zs.sum E N L c) (awD r zs.sum N) := by
  have := aw_bd hr hV hE h hc
  exact ⟨by omega, by omega, by omega, by omega⟩
/-- The award as a list. -/
def awL (r : Nat) (zs : List Int) (E N L : Int) : Pts := (List.range zs.length).map (awF r zs E N L)
theorem awL_len (r : Nat) (zs : List Int) (E N L : Int) : (awL r zs E N L).length = zs.length := by simp [awL]
theorem awL_get {r : Nat} {zs : List Int} {E N L : Int} {k : Nat} (hk : k < zs.length) : (awL r zs E N L).getD k (0, 0) = awF r zs E N L k := by
  simp [awL, List.getD, hk]
theorem awL_ok {r : Nat} {zs : List Int} {E N L : Int} (hr : r ≤ 4) (hV : Valid zs) (hE : 0 ≤ E ∧ E ≤ zs.sum) (h : LevR r zs E N L) : ∀ z ∈ awL r zs E N L, (1 ≤ z.2 ∧ z.2 ≤ 10000 ∧ 0 ≤ z.1 ∧ z.1 ≤ 10000000 ∧ Int.gcd z.1 z.2 = 1) := fun z hz => by
  obtain ⟨i, hi, rfl⟩ := List.mem_map.1 hz
  rw [List.mem_range] at hi
  have hb := aw_bd hr hV hE h (getz (zs := zs) hi)
  unfold awF
  simp only []
  generalize awX r zs.sum E N L (zs.getD i 0) = X at *
  generalize awD r zs.sum N = D at *
  obtain ⟨g, g1, p1, p2, p3, p4⟩ := red_parts X hb.1
  obtain ⟨k1, k2, k3⟩ := red_le X hb.1
  refine ⟨p3, by omega, ?_, by omega, p4⟩
  rcases Int.lt_or_le (redN X D) 0 with h | h
  · have := Int.mul_neg_of_neg_of_pos h (show 0 < g by omega)
    omega
  · exact h
theorem awL_wide {r : Nat} {zs : List Int} {E N L : Int} (hr : r ≤ 4) (hV : Valid zs) (hE : 0 ≤ E ∧ E ≤ zs.sum) (h : LevR r zs E N L) : Wide (awL r zs E N L) := fun z hz => by
  obtain ⟨h1, h2, h3, h4, h5⟩ := awL_ok hr hV hE h z hz
  exact ⟨⟨by omega, by omega⟩, ⟨by omega, by omega⟩⟩
theorem awL_fit {r : Nat} {zs : List Int} {E N L : Int} (hr : r ≤ 4) (hV : Valid zs) (hE : 0 ≤ E ∧ E ≤ zs.sum) (h : LevR r zs E N L) : ∀ z ∈ awL r zs E N L, withinB z.1 z.2 0 1073741824 1073741824 = true := fun z hz => by
  obtain ⟨h1, h2, h3, h4, h5⟩ := awL_ok hr hV hE h z hz
  exact decide_eq_true ⟨h1, by omega, h3, by omega, h5⟩
/-- An award of the program, in memory. -/
structure AwM (W : World) (v : Value) (r : Nat) (zs : List Int) (E N L : Int) : Prop where
  lev : LevR r zs E N L
  row : FracsO W v (awL r zs E N L)
theorem AwM.after {W W' : World} {v : Value} {r : Nat} {zs : List Int} {E N L : Int} (h : AwM W v r zs E N L) (hb : Below W.heap.size W W') : AwM W' v r zs E N L := ⟨h.lev, fracsO_below h.row hb⟩
theorem AwM.at {W : World} {C : Option Addr} {n c : Nat} {r : Nat} {zs : List Int} {E N L : Int} (h : AwM W (.slice C n c) r zs E N L) {k : Nat} (hk : k < zs.length) : ∃ g o, C = some ⟨g, o, none⟩ ∧ W.cell? ⟨g, o + k * 2, none⟩ = some (.int .i64 (redN (awX r zs.sum E N L (zs.getD k 0)) (awD r zs.sum N))) ∧ W.cell? ⟨g, o + k * 2 + 1, none⟩ = some (.int .i64 (redD (awX r zs.sum E N L (zs.getD k 0)) (awD r zs.sum N))) := by
  obtain ⟨A, cap, hv, hc⟩ := h.row
  injection hv with e1 e2 e3
  subst e1
  have := hc k (by rw [awL_len]; exact hk)
  rwa [awL_get hk] at this
theorem awardM {r : Nat} {v : Value} {zs : List Int} {E : Int} {w : World} (hr : r ≤ 4) (hc : IntsO w v zs) (hV : Valid zs) (hE : 0 ≤ E ∧ E ≤ zs.sum) : Calls Try.prog 22 #[.int .i64 (r : Nat), v, .int .i64 E] w fun e w' => ∃ (G : Nat) (N L : Int), e = .returned (.tuple #[.slice (some ⟨G, 0, none⟩) zs.length zs.length, .int .i64 0]) ∧ AwM w' (.slice (some ⟨G, 0, none⟩) zs.length zs.length) r zs E N L ∧ w.heap.size ≤ G ∧ Below w.heap.size w w' := by
  refine (award_any hr hc hV hE).mono ?_
  rintro e w' ⟨G, N, L, rfl, h1, h2, h3, h4⟩
  exact ⟨G, N, L, rfl, ⟨h1, h3.fracs⟩, h2, h4⟩
theorem fitM {C : Option Addr} {n c : Nat} {r : Nat} {zs : List Int} {E N L : Int} {W : World} (hr : r ≤ 4) (hV : Valid zs) (hE : 0 ≤ E ∧ E ≤ zs.sum) (h : AwM W (.slice C n c) r zs E N L) :
    Calls Try.prog 56 #[.slice C n c] W fun e w' => e = .returned (.bool true) ∧ Below W.heap.size W w' :=
  fit_any h.row (awL_wide hr hV hE h.lev) (by rw [awL_len]; have := hV.2.1; omega) (awL_fit hr hV hE h.lev)
end Go.Proofs.Ytbocmbhinjkjlaa
