import Derived.Test.YtioaaigbpfdjmaaDoorRows27
import Derived.Test.YtioaaigbpfdjmaaDoorAllIn
set_option linter.unusedSimpArgs false
set_option linter.unusedVariables false
namespace Go.Proofs.YtioaaigbpfdjmaaDoor
open Go Go.Proofs Go.RowKit
/-- How often a digit is 1 among some points. -/
def bitSum (zs : List Int) (j : Nat) : Nat := (zs.map fun z => bitN z.toNat j).sum
theorem bitSum_push (zs : List Int) (z : Int) (j : Nat) : bitSum (zs ++ [z]) j = bitSum zs j + bitN z.toNat j := by simp [bitSum]
theorem bitSum_le (j : Nat) : ∀ zs : List Int, bitSum zs j ≤ zs.length
  | [] => by simp [bitSum]
  | z :: l => by
    have h1 := bitSum_le j l
    have h2 := bitN_two z.toNat j
    simp only [bitSum, List.map_cons, List.sum_cons, List.length_cons] at h1 ⊢
    omega
theorem sum_take {zs : List Int} {k : Nat} (h : k < zs.length) (j : Nat) : bitSum (zs.take (k + 1)) j = bitSum (zs.take k) j + bitN (zs.getD k 0).toNat j := by rw [takez h, bitSum_push]
/-- Numbers in the cells of a block. -/
def RowAt (w : World) (G N : Nat) (f : Nat → Int) : Prop := ∀ j, j < N → w.cell? ⟨G, j, none⟩ = some (.int .i64 (f j)) ∧ w.frozen? ⟨G, j, none⟩ = false
theorem row_below {w w' : World} {G N : Nat} {f : Nat → Int} (h : RowAt w G N f) (b : Below w.heap.size w w') : RowAt w' G N f := by
  intro j hj
  obtain ⟨c1, c2⟩ := h j hj
  have h1 : G < w.heap.size := by
    rcases Nat.lt_or_ge G w.heap.size with h' | h'
    · exact h'
    · simp [World.cell?, Array.getElem?_eq_none h'] at c1
  exact ⟨by rw [b.cell (p := ⟨G, j, none⟩) h1]; exact c1, by rw [b.frozen (p := ⟨G, j, none⟩) h1]; exact c2⟩
theorem row_set {w : World} {G N p : Nat} {f g : Nat → Int} (h : RowAt w G N f) (hp : p < N) {z : Int} (hz : g p = z) (hg : ∀ j, j < N → j ≠ p → g j = f j) : RowAt (w.setCell ⟨G, p, none⟩ (.int .i64 z)) G N g := by
  intro j hj
  obtain ⟨c1, c2⟩ := h j hj
  obtain ⟨d1, d2⟩ := h p hp
  by_cases hjp : j = p
  · subst hjp
    rw [hz]
    exact ⟨by go_simp, by go_simp⟩
  · rw [hg j hj hjp]
    have hne : ¬ p = j := fun h => hjp h.symm
    generalize f j = y at c1 ⊢
    clear hz
    exact ⟨by go_simp, by go_simp⟩
theorem row_other {w : World} {G G' N p : Nat} {f : Nat → Int} (h : RowAt w G N f) (hne : G ≠ G') (u : Value) : RowAt (w.setCell ⟨G', p, none⟩ u) G N f := by
  intro j hj
  obtain ⟨c1, c2⟩ := h j hj
  generalize f j = y at c1 ⊢
  have hne' : ¬ G' = G := fun h => hne h.symm
  have e := Below.heap_setCell w ⟨G', p, none⟩ u G hne
  exact ⟨(World.cell?_of_block (a := ⟨G, j, none⟩) e).trans c1, (World.frozen?_of_block (a := ⟨G, j, none⟩) e).trans c2⟩
def allPt (zs : List Int) : Bool := zs.all fun z => decide (0 ≤ z ∧ z < 32)
theorem allPt_get {zs : List Int} (h : allPt zs = true) {k : Nat} (hk : k < zs.length) : 0 ≤ zs.getD k 0 ∧ zs.getD k 0 < 32 := by
  have := List.all_eq_true.1 h _ (getz hk)
  simpa using this
def upTo (zs : List Int) (k i : Nat) (j : Nat) : Int := if j < i then ((bitSum (zs.take (k + 1)) j : Nat) : Int) else ((bitSum (zs.take k) j : Nat) : Int)
theorem upTo_zero (zs : List Int) (k : Nat) : upTo zs k 0 = fun j => ((bitSum (zs.take k) j : Nat) : Int) := by funext j; simp [upTo]
set_option maxHeartbeats 1000000 in
set_option maxRecDepth 100000 in
theorem counts_any {v : Value} {zs : List Int} {w : World} (hv : IntsAt w v zs) (hl : zs.length ≤ 1001) (hp : allPt zs = true) :
    Calls Tryd.prog 88 #[v] w fun e w' => e = .returned (.agg #[.int .i64 (bitSum zs 0 : Nat), .int .i64 (bitSum zs 1 : Nat), .int .i64 (bitSum zs 2 : Nat), .int .i64 (bitSum zs 3 : Nat), .int .i64 (bitSum zs 4 : Nat)]) ∧ Below w.heap.size w w' := by
  obtain ⟨A, cap, rfl, hc⟩ := hv
  have hpk : Keep (allPt zs = true) := ⟨hp⟩
  clear hp
  go_enter Tryd.func88, Tryd.ntmps88
  go_wp2
  go_loopw [9] (fun i wr => ∃ k : Nat, k ≤ zs.length ∧ i = .int .i64 k ∧ Keep (RowAt wr (w.heap.size + 1) 5 (fun j => ((bitSum (zs.take k) j : Nat) : Int))) ∧ Keep (RowAt wr w.heap.size 5 (fun _ => 0)) ∧ Below w.heap.size w wr) (fun i _ => zs.length - (intOf i).toNat)
  case atStart =>
    refine ⟨0, by omega, rfl, ⟨fun j hj => ?_⟩, ⟨fun j hj => ?_⟩, ((Below.refl _ _).alloc (Nat.le_refl _) _).alloc (by simp) _⟩
    · have e : ((bitSum (zs.take 0) j : Nat) : Int) = 0 := by simp [bitSum]
      show _ = some (Value.int .i64 ((bitSum (zs.take 0) j : Nat) : Int)) ∧ _
      rw [e]
      have : j = 0 ∨ j = 1 ∨ j = 2 ∨ j = 3 ∨ j = 4 := by omega
      rcases this with h | h | h | h | h <;> subst h <;> constructor <;> go_simp
    · have : j = 0 ∨ j = 1 ∨ j = 2 ∨ j = 3 ∨ j = 4 := by omega
      rcases this with h | h | h | h | h <;> subst h <;> constructor <;> go_simp
  case round =>
    obtain ⟨k, hk, rfl, hrow, hzero, hbw⟩ := hrel
    by_cases hlt : k < zs.length
    · obtain ⟨g, rfl, hg⟩ := hc k hlt
      have hgr := cell_below hg hbw
      have hp := allPt_get hpk.out hlt
      obtain ⟨q, hq⟩ : ∃ q : Nat, Keep (zs.getD k 0 = (q : Int)) := ⟨(zs.getD k 0).toNat, ⟨by omega⟩⟩
      rw [hq.out] at hgr hp
      have hq32 : q < 32 := by omega
      clear hp
      go_wp2
      go_loopw [13] (fun i w3 => ∃ m : Nat, m ≤ 5 ∧ i = .int .i64 m ∧ Keep (RowAt w3 (w.heap.size + 1) 5 (upTo zs k m)) ∧ Keep (RowAt w3 w.heap.size 5 (fun _ => 0)) ∧ Below w.heap.size w w3) (fun i _ => 5 - (intOf i).toNat)
      case atStart => exact ⟨0, by omega, rfl, ⟨by rw [upTo_zero]; exact hrow.out⟩, hzero, hbw⟩
      case round =>
        clear hrow hzero hbw hgr
        obtain ⟨m, hm, rfl, hrow, hzero, hbw⟩ := hrel
        by_cases hm5 : m < 5
        · obtain ⟨c1, c2⟩ := hrow.out m hm5
          have hle : bitSum (zs.take k) m ≤ 1001 := by
            have := bitSum_le m (zs.take k)
            rw [List.length_take] at this
            omega
          obtain ⟨y, hy⟩ : ∃ y : Nat, Keep (bitSum (zs.take k) m = y) := ⟨_, ⟨rfl⟩⟩
          have e0 : upTo zs k m m = (y : Int) := by unfold upTo; rw [if_neg (by omega), hy.out]
          rw [e0] at c1
          rw [hy.out] at hle
          have hbit := bit_i64 q m hq32
          have hnext : Keep (bitSum (zs.take (k + 1)) m = y + bitN q m) := ⟨by rw [sum_take hlt, hy.out, hq.out]; rfl⟩
          have hb2 := bitN_two q m
          generalize bitN q m = d at hbit hnext hb2
          clear e0
          go_wp2
          go_region_with (fail)
          all_goals go_wp2
          all_goals refine ⟨⟨m + 1, by omega, by go_num, ⟨?_⟩, ⟨?_⟩, ?_⟩, by simp [intOf]; omega⟩
          · exact row_below (row_set hrow.out hm5 (by unfold upTo; rw [if_pos (by omega), hnext.out]; push_cast; rfl) (fun j hj hne => by
              unfold upTo
              by_cases h : j < m
              · rw [if_pos h, if_pos (by omega)]
              · rw [if_neg h, if_neg (by omega)])) (below_drewN (Below.refl _ _) 1)
          · exact row_below (row_other hzero.out (by omega) _) (below_drewN (Below.refl _ _) 1)
          · exact below_drewN (below_set hbw (by omega) _) 1
        · have : m = 5 := by omega
          subst this
          go_wp2
          refine ⟨⟨k + 1, by omega, by go_num, ⟨fun j hj => ?_⟩, hzero, hbw⟩, by simp [intOf]; omega⟩
          have := hrow.out j hj
          unfold upTo at this
          rw [if_pos hj] at this
          exact this
    · have : k = zs.length := by omega
      subst this
      have hz' : w.heap.size ≤ wr.heap.size := hbw.size
      obtain ⟨c0, y0⟩ := hzero.out 0 (by omega)
      obtain ⟨c1, y1⟩ := hzero.out 1 (by omega)
      obtain ⟨c2, y2⟩ := hzero.out 2 (by omega)
      obtain ⟨c3, y3⟩ := hzero.out 3 (by omega)
      obtain ⟨c4, y4⟩ := hzero.out 4 (by omega)
      have hh := hrow.out
      rw [List.take_length] at hh
      obtain ⟨d0, x0⟩ := hh 0 (by omega)
      obtain ⟨d1, x1⟩ := hh 1 (by omega)
      obtain ⟨d2, x2⟩ := hh 2 (by omega)
      obtain ⟨d3, x3⟩ := hh 3 (by omega)
      obtain ⟨d4, x4⟩ := hh 4 (by omega)
      clear hh hrow hzero hc
      go_wp2
      refine bodyPost_ret (v := .agg #[.int .i64 (bitSum zs 0 : Nat), .int .i64 (bitSum zs 1 : Nat), .int .i64 (bitSum zs 2 : Nat), .int .i64 (bitSum zs 3 : Nat), .int .i64 (bitSum zs 4 : Nat)]) (by simp [results, Tryd.results88, go_sem]; go_simp) rfl ?_
      exact ⟨rfl, below_set (below_set (below_set (below_set (below_set hbw (by omega) _) (by omega) _) (by omega) _) (by omega) _) (by omega) _⟩
end Go.Proofs.YtioaaigbpfdjmaaDoor
