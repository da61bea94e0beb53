import Derived.Test.YtbmfipjnfbnjgaaBounds
import Derived.Test.YtbmfipjnfbnjgaaChance
import Derived.OwnWalk
import Derived.Laws.AppendOwn
import Derived.Maps.AppendAt
set_option linter.unusedSimpArgs false
set_option linter.unusedVariables false
namespace Go.Proofs.Ytbmfipjnfbnjgaa
open Go Go.Proofs Go.RowKit Go.Sample
def vz (n : Int) : Value := .int .i64 n
theorem ty40 : Try.prog.underlying 40 = some (.slice 3) := by kernel_rfl
theorem info3 : (Try.prog.info? 3).map (fun i => (i.zero, i.size, i.bytes)) = some (some (.int .i64 0), 1, 8) := by kernel_rfl
theorem apart_ne {a b : Option Nat} (h : ∀ j, a = some j → b ≠ some j) : b = none ∨ b ≠ a := by
  cases b with
  | none => exact .inl rfl
  | some j => exact .inr fun e => h j e.symm rfl
theorem apart_symm {a b : Option Nat} (h : ∀ j, a = some j → b ≠ some j) : ∀ j, b = some j → a ≠ some j := fun j hb ha => h j ha hb
theorem apart_new {a a' b : Option Nat} {M : Nat} (h : ∀ j, a = some j → b ≠ some j) (ha : a' = a ∨ a' = some M) (hb : ∀ j, b = some j → j < M) : ∀ j, a' = some j → b ≠ some j := by
  intro j hj e
  rcases ha with h1 | h1
  · exact h j (h1 ▸ hj) e
  · rw [h1] at hj
    injection hj with hj
    have := hb j e
    omega
theorem cell_one_new (w : World) (a : Value) (t : TypeId) : ∀ j u, [a][j]? = some u → (w.alloc (.cells #[a] t)).cell? ((⟨w.heap.size, 0, none⟩ : Addr).add j) = some u := by
  intro j u hj
  match j, hj with
  | 0, hj => simp at hj; subst hj; simp [Addr.add]
  | j + 1, hj => simp at hj
theorem cell_one_at {w : World} {a : Value} {t : TypeId} {G : Nat} (h : w.heap.size = G) : ∀ j u, [a][j]? = some u → (w.alloc (.cells #[a] t)).cell? ((⟨G, 0, none⟩ : Addr).add j) = some u := by subst h; exact cell_one_new w a t
theorem size_setCell (w : World) (p : Addr) (u : Value) : (w.setCell p u).heap.size = w.heap.size := by simp [World.setCell]
def rowL (f : Nat → Int) (k : Nat) : List Value := (List.range k).map fun i => vz (f i)
theorem rowL_succ (f : Nat → Int) (k : Nat) : rowL f (k + 1) = rowL f k ++ [vz (f k)] := by simp [rowL, List.range_succ]
/-- Two lists that grow side by side. -/
structure Two (W : World) (B k : Nat) (fa fr : Nat → Int) (va vr : Value) : Prop where
  a : W.ownsRow B 3 1 va k (rowL fa k)
  r : W.ownsRow B 3 1 vr k (rowL fr k)
  ap : ∀ j, va.ownBlock = some j → vr.ownBlock ≠ some j
theorem Two.nil (W : World) (B : Nat) (fa fr : Nat → Int) : Two W B 0 fa fr (.slice none 0 0) (.slice none 0 0) := ⟨World.ownsRow_nil _ _ _ _, World.ownsRow_nil _ _ _ _, fun j hj => by cases hj⟩
theorem row_parts {W : World} {B n : Nat} {v : Value} {f : Nat → Int} (hn : 1 ≤ n) (h : W.ownsRow B 3 1 v n (rowL f n)) : ∃ g cap, v = .slice (some ⟨g, 0, none⟩) n cap ∧ B ≤ g ∧ v.ownBlock = some g ∧ n ≤ cap ∧ cap ≤ maxLen ∧ ∀ k, k < n → W.cell? ⟨g, 0 + k, none⟩ = some (.int .i64 (f k)) := by
  obtain ⟨h1, h2⟩ := h
  rcases h2 with ⟨rfl, h0⟩ | ⟨g, cap, cur, rfl, hg, hh, hn', hcap, hsz, htake⟩
  · omega
  · refine ⟨g, cap, rfl, hg, rfl, hn', hcap, fun k hk => ?_⟩
    have : cur[k]? = some (.int .i64 (f k)) := by
      have e : (cur.toList.take (n * 1))[k]? = (rowL f n)[k]? := by rw [htake]
      rw [List.getElem?_take_of_lt (by omega)] at e
      rw [← Array.getElem?_toList, e]
      simp [rowL, vz, hk]
    simp [World.cell?, hh, this]
theorem Two.crs {W : World} {B n : Nat} {fa fr : Nat → Int} {va vr : Value} (h : Two W B n fa fr va vr) (hn : 1 ≤ n) :
    ∃ c : Crs, va = c.sa ∧ vr = c.sr ∧ CrsIn W c ∧ c.L = n ∧ c.A = fa ∧ c.R = fr ∧ B ≤ c.ga ∧ B ≤ c.gr ∧ c.ga ≠ c.gr ∧ c.oa = 0 ∧ c.ro = 0 ∧ n ≤ c.ca ∧ c.ca ≤ maxLen ∧ n ≤ c.cr ∧ c.cr ≤ maxLen := by
  obtain ⟨ga, ca, rfl, h1, h2, h3, h3', h4⟩ := row_parts hn h.a
  obtain ⟨gr, cr, rfl, k1, k2, k3, k3', k4⟩ := row_parts hn h.r
  exact ⟨⟨ga, 0, ca, gr, 0, cr, n, fa, fr⟩, rfl, rfl, ⟨h4, k4⟩, rfl, rfl, rfl, h1, k1, fun (e : ga = gr) => h.ap ga rfl (by subst e; rfl), rfl, rfl, h3, h3', k3, k3'⟩
theorem Own2.set0 {W : World} {g : Nat} {x y u : Value} (h : Own2 W g x y) : Own2 (W.setCell ⟨g, 0, none⟩ u) g u y := by
  obtain ⟨h1, h2, h3, h4⟩ := h
  exact ⟨by go_simp, by go_simp, by go_simp, by go_simp⟩
theorem Own2.set1 {W : World} {g : Nat} {x y u : Value} (h : Own2 W g x y) : Own2 (W.setCell ⟨g, 1, none⟩ u) g x u := by
  obtain ⟨h1, h2, h3, h4⟩ := h
  exact ⟨by go_simp, by go_simp, by go_simp, by go_simp⟩
theorem Own2.other {W : World} {g g' i : Nat} {x y u : Value} (h : Own2 W g x y) (hne : g ≠ g') : Own2 (W.setCell ⟨g', i, none⟩ u) g x y := by
  have e := Below.heap_setCell W ⟨g', i, none⟩ u g hne
  exact ⟨(World.cell?_of_block (a := ⟨g, 0, none⟩) e).trans h.c0, (World.cell?_of_block (a := ⟨g, 1, none⟩) e).trans h.c1, (World.frozen?_of_block (a := ⟨g, 0, none⟩) e).trans h.f0, (World.frozen?_of_block (a := ⟨g, 1, none⟩) e).trans h.f1⟩
theorem Two.set {W : World} {B k g i : Nat} {fa fr : Nat → Int} {va vr u : Value} (h : Two W B k fa fr va vr) (hg : g < B) : Two (W.setCell ⟨g, i, none⟩ u) B k fa fr va vr :=
  ⟨ownsRow_setCell_below h.a (a := ⟨g, i, none⟩) hg u, ownsRow_setCell_below h.r (a := ⟨g, i, none⟩) hg u, h.ap⟩
/-- The variable that holds the two lists, while they grow. -/
structure GrowI (w0 : World) (g B k : Nat) (fa fr : Nat → Int) (W : World) : Prop where
  ex : ∃ va vr, Two W B k fa fr va vr ∧ Own2 W g va vr
  bw : Below B w0 W
end Go.Proofs.Ytbmfipjnfbnjgaa
