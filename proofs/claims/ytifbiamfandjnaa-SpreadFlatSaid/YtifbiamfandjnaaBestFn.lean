import Derived.Test.YtifbiamfandjnaaReadLine
import Derived.Test.YtifbiamfandjnaaLowest
import Derived.OwnWalk
set_option linter.unusedSimpArgs false
set_option linter.unusedVariables false
namespace Go.Proofs.Ytifbiamfandjnaa
open Go Go.Proofs Go.RowKit
/-- Numbers in the cells of a block. -/
def RowAt (w : World) (G N : Nat) (f : Nat → Int) : Prop := ∀ j, j < N → w.cell? ⟨G, j, none⟩ = some (.int .i64 (f j)) ∧ w.frozen? ⟨G, j, none⟩ = false
theorem row_below {w w' : World} {G N : Nat} {f : Nat → Int} (h : RowAt w G N f) (b : Below w.heap.size w w') : RowAt w' G N f := by
  intro j hj
  obtain ⟨c1, c2⟩ := h j hj
  have h1 : G < w.heap.size := by
    rcases Nat.lt_or_ge G w.heap.size with h' | h'
    · exact h'
    · simp [World.cell?, Array.getElem?_eq_none h'] at c1
  exact ⟨by rw [b.cell (p := ⟨G, j, none⟩) h1]; exact c1, by rw [b.frozen (p := ⟨G, j, none⟩) h1]; exact c2⟩
theorem row_set {w : World} {G N p : Nat} {f g : Nat → Int} (h : RowAt w G N f) (hp : p < N) {z : Int} (hz : g p = z) (hg : ∀ j, j < N → j ≠ p → g j = f j) : RowAt (w.setCell ⟨G, p, none⟩ (.int .i64 z)) G N g := by
  intro j hj
  obtain ⟨c1, c2⟩ := h j hj
  obtain ⟨d1, d2⟩ := h p hp
  by_cases hjp : j = p
  · subst hjp
    rw [hz]
    exact ⟨by go_simp, by go_simp⟩
  · rw [hg j hj hjp]
    have hne : ¬ p = j := fun h => hjp h.symm
    generalize f j = y at c1 ⊢
    clear hz
    exact ⟨by go_simp, by go_simp⟩
theorem row_other {w : World} {G G' N p : Nat} {f : Nat → Int} (h : RowAt w G N f) (hne : G ≠ G') (u : Value) : RowAt (w.setCell ⟨G', p, none⟩ u) G N f := by
  intro j hj
  obtain ⟨c1, c2⟩ := h j hj
  generalize f j = y at c1 ⊢
  have hne' : ¬ G' = G := fun h => hne h.symm
  have e := Below.heap_setCell w ⟨G', p, none⟩ u G hne
  exact ⟨(World.cell?_of_block (a := ⟨G, j, none⟩) e).trans c1, (World.frozen?_of_block (a := ⟨G, j, none⟩) e).trans c2⟩
theorem made_ints (n : Nat) : (madeCells (Value.int .i64 0).cells (n * 1)).toList.length = n ∧ ∀ j (hj : j < (madeCells (Value.int .i64 0).cells (n * 1)).toList.length), (madeCells (Value.int .i64 0).cells (n * 1)).toList[j] = .int .i64 0 := by
  have e : (Value.int .i64 0).cells = #[.int .i64 0] := rfl
  rw [e]
  refine ⟨by simp [size_madeCells], fun j hj => ?_⟩
  simp [madeCells, Nat.mod_one]
theorem row_cells3 {w : World} {B G n : Nat} {xs : List Value} (h : w.ownsRow B 3 1 (.slice (some ⟨G, 0, none⟩) n n) n xs) (hl : xs.length = n) :
    ∀ j (hj : j < xs.length), w.cell? ⟨G, j, none⟩ = some xs[j] ∧ w.frozen? ⟨G, j, none⟩ = false := by
  intro j hj
  obtain ⟨h1, h2⟩ := h
  rcases h2 with ⟨h3, _⟩ | ⟨g, cap, cur, hv, hg, hh, hn, hcap, hsz, htake⟩
  · cases h3
  · injection hv with hv1 hv2 hv3
    injection hv1 with hv1
    injection hv1 with hv1
    subst hv1
    have : cur[j]? = some xs[j] := by
      have e : (cur.toList.take (n * 1))[j]? = xs[j]? := by rw [htake]
      rw [List.getElem?_take_of_lt (by omega), List.getElem?_eq_getElem hj] at e
      rw [← Array.getElem?_toList, e]
    constructor
    · simp [World.cell?, hh, this]
    · simp [World.frozen?, hh]
theorem row_start {w : World} {B G n : Nat} (h : w.ownsRow B 3 1 (.slice (some ⟨G, 0, none⟩) n n) n (madeCells (Value.int .i64 0).cells (n * 1)).toList) : RowAt w G n (fun _ => 0) := by
  intro j hj
  obtain ⟨m1, m2⟩ := made_ints n
  have hj' : j < (madeCells (Value.int .i64 0).cells (n * 1)).toList.length := by omega
  obtain ⟨c1, c2⟩ := row_cells3 h m1 j hj'
  rw [m2 j hj'] at c1
  exact ⟨c1, c2⟩
theorem row_ints {w : World} {G n c : Nat} {f : Nat → Int} {zs : List Int} (h : RowAt w G n f) (hl : zs.length = n) (hf : ∀ j, j < n → f j = zs.getD j 0) : IntsAt w (.slice (some ⟨G, 0, none⟩) n c) zs := by
  subst hl
  exact ⟨_, _, rfl, fun k hk => ⟨G, rfl, by rw [← hf k hk]; exact (h k hk).1⟩⟩
theorem ty22 : Try.prog.underlying 22 = some (.slice 3) := by kernel_rfl
theorem info3 : (Try.prog.info? 3).map (fun i => (i.zero, i.size, i.bytes)) = some (some (.int .i64 0), 1, 8) := by kernel_rfl
theorem best_no {n : Int} (hno : n < 1 ∨ 60 < n) (w : World) :
    Calls Try.prog 44 #[.int .i64 n] w fun e w' => e = .returned (.tuple #[fracV 0 0, .slice none 0 0, .int .i64 2]) ∧ Below w.heap.size w w' := by
  unfold fracV
  go_enter Try.func44, Try.ntmps44
  rcases hno with h | h <;> go_wp2
  all_goals refine bodyPost_ret (v := .tuple #[.agg #[.int .i64 0, .int .i64 0], .slice none 0 0, .int .i64 2]) (by simp [results, Try.results44, go_sem]) rfl ?_
  all_goals exact ⟨rfl, (Below.refl _ w).alloc (Nat.le_refl _) _⟩
def odds (n : Nat) : List Int := (List.range n).map fun i : Nat => 2 * (i : Int) + 1
set_option maxRecDepth 100000 in
theorem best_any {n : Nat} (h1 : 1 ≤ n) (h2 : n ≤ 60) (w : World) :
    Calls Try.prog 44 #[.int .i64 n] w fun e w' => ∃ v, e = .returned (.tuple #[fracV 1 (2 * (n : Int)), v, .int .i64 0]) ∧ IntsAt w' v (odds n) ∧ Below w.heap.size w w' := by
  unfold fracV
  obtain ⟨i0, hi, hz0, hz1, hz2⟩ := info_parts info3
  go_enter Try.func44, Try.ntmps44
  go_wp2_with (at_make; go_loud (
             refine wpList_make_full _ rfl _ _ 22 rfl w.heap.size 3 i0 (.int .i64 0) 1 ty22 hi hz0 hz1 .i64 .i64 (n : Int) (n : Int) n rfl rfl rfl rfl (by rw [hz2]; omega) (by unfold maxLen; omega) (by simp) ?_
             intro w5 hown5 hgrow5
             have hb0 : Below w.heap.size w (w.alloc (.cells #[.int .i64 0, .int .i64 0] 25)) := (Below.refl _ _).alloc (Nat.le_refl _) _
             have hbw5 : Below w.heap.size w w5 := Below.grown hb0 hgrow5 (by simp) (by simp)
             have hG : w.heap.size < (w.alloc (.cells #[.int .i64 0, .int .i64 0] 25)).heap.size := by simp
             have hGl : Keep (RowAt w5 (w.alloc (.cells #[.int .i64 0, .int .i64 0] 25)).heap.size n (fun _ => 0)) := ⟨row_start hown5⟩
             have c0 : w5.cell? ⟨w.heap.size, 0, none⟩ = some (.int .i64 0) := (World.cell?_of_block (a := ⟨w.heap.size, 0, none⟩) (hgrow5.block _ (by simp) (by simp))).trans (by go_simp)
             have c1 : w5.cell? ⟨w.heap.size, 1, none⟩ = some (.int .i64 0) := (World.cell?_of_block (a := ⟨w.heap.size, 1, none⟩) (hgrow5.block _ (by simp) (by simp))).trans (by go_simp)
             have f0 : w5.frozen? ⟨w.heap.size, 0, none⟩ = false := (World.frozen?_of_block (a := ⟨w.heap.size, 0, none⟩) (hgrow5.block _ (by simp) (by simp))).trans (by go_simp)
             have f1 : w5.frozen? ⟨w.heap.size, 1, none⟩ = false := (World.frozen?_of_block (a := ⟨w.heap.size, 1, none⟩) (hgrow5.block _ (by simp) (by simp))).trans (by go_simp)
             obtain ⟨G, hGe⟩ : ∃ G, G = (w.alloc (.cells #[.int .i64 0, .int .i64 0] 25)).heap.size := ⟨_, rfl⟩
             rw [← hGe] at hG hGl ⊢
             clear hown5 hgrow5 hGe hb0))
  go_loopw [18] (fun i wr => ∃ k : Nat, k ≤ n ∧ i = .int .i64 k ∧ Keep (RowAt wr G n (fun j => if j < k then 2 * (j : Int) + 1 else 0)) ∧ Below (w.heap.size + 1) w5 wr) (fun i _ => n - (intOf i).toNat)
  case atStart => exact ⟨0, by omega, rfl, ⟨by simpa using hGl.out⟩, Below.refl _ _⟩
  case round =>
    obtain ⟨k, hk, rfl, hrow, hbw⟩ := hrel
    by_cases hlt : k < n
    · obtain ⟨d1, d2⟩ := hrow.out k hlt
      simp only [Nat.lt_irrefl, if_false] at d1
      have e1 : IntKind.i64.wrap (2 * (k : Int)) = 2 * (k : Int) := IntWalk.i64_in _ (by omega)
      have e2 : IntKind.i64.wrap (2 * (k : Int) + 1) = 2 * (k : Int) + 1 := IntWalk.i64_in _ (by omega)
      go_wp2
      refine ⟨⟨k + 1, by omega, by go_num, ⟨?_⟩, hbw.setCell (p := ⟨G, k, none⟩) (by show w.heap.size + 1 ≤ G; omega) _⟩, by simp [intOf]; omega⟩
      exact row_set hrow.out hlt (by rw [if_pos (by omega)]) (fun j _ hj => by
        show (if j < k + 1 then 2 * (j : Int) + 1 else 0) = if j < k then 2 * (j : Int) + 1 else 0
        by_cases h : j < k
        · rw [if_pos h, if_pos (by omega)]
        · rw [if_neg h, if_neg (by omega)])
    · have : k = n := by omega
      subst this
      have c0 : wr.cell? ⟨w.heap.size, 0, none⟩ = some (.int .i64 0) := (hbw.cell (p := ⟨w.heap.size, 0, none⟩) (by simp)).trans c0
      have c1 : wr.cell? ⟨w.heap.size, 1, none⟩ = some (.int .i64 0) := (hbw.cell (p := ⟨w.heap.size, 1, none⟩) (by simp)).trans c1
      have f0 : wr.frozen? ⟨w.heap.size, 0, none⟩ = false := (hbw.frozen (p := ⟨w.heap.size, 0, none⟩) (by simp)).trans f0
      have f1 : wr.frozen? ⟨w.heap.size, 1, none⟩ = false := (hbw.frozen (p := ⟨w.heap.size, 1, none⟩) (by simp)).trans f1
      have e1 : IntKind.i64.wrap (2 * (k : Int)) = 2 * (k : Int) := IntWalk.i64_in _ (by omega)
      go_wp2
      refine bodyPost_ret (v := .tuple #[.agg #[.int .i64 1, .int .i64 (2 * (k : Int))], .slice (some ⟨G, 0, none⟩) k k, .int .i64 0]) (by simp [results, Try.results44, go_sem]; go_simp) rfl ?_
      refine ⟨_, rfl, ?_, (hbw5.trans (hbw.mono (by omega))).setCell (p := ⟨w.heap.size, 0, none⟩) (Nat.le_refl _) _ |>.setCell (p := ⟨w.heap.size, 1, none⟩) (Nat.le_refl _) _⟩
      refine row_ints (row_other (row_other hrow.out (by omega) _) (by omega) _) (by simp [odds]) (fun j hj => ?_)
      simp only [hj, if_true]
      simp [odds, hj]
end Go.Proofs.Ytifbiamfandjnaa
