import Derived.Test.YtbmfipjnfbnjgaaGcd
import Derived.StillTailTactics
set_option linter.unusedSimpArgs false
set_option linter.unusedVariables false
namespace Go.Proofs.Ytbmfipjnfbnjgaa
open Go Go.Proofs Go.RowKit Go.Sample
theorem zeros_ok : (Try.zeroCells94.size == 1370 && Try.zeroCells94.toList.all (fun v => match v with | .int .i64 z => z == 0 | _ => false)) = true := by kernel_rfl
theorem zeros_size : Try.zeroCells94.size = 1370 := by have := zeros_ok; rw [Bool.and_eq_true, beq_iff_eq] at this; exact this.1
theorem zero_at {k : Nat} (hk : k < 1370) : Try.zeroCells94[k]? = some (.int .i64 0) := by
  have h := zeros_ok
  rw [Bool.and_eq_true, beq_iff_eq] at h
  obtain ⟨h1, h2⟩ := h
  have hlt : k < Try.zeroCells94.size := by omega
  rw [Array.getElem?_eq_getElem hlt]
  have := List.all_eq_true.1 h2 _ (Array.getElem_mem_toList hlt)
  generalize Try.zeroCells94[k] = v at this
  split at this
  · rename_i z
    rw [beq_iff_eq] at this
    rw [this]
  · exact absurd this (by simp)
/-- Pieces of a lot, with a table of numbers. -/
structure Tab (W : World) (b N : Nat) (c : Nat → Nat → Nat) : Prop where
  size : W.cell? ⟨b, 0, none⟩ = some (.int .i64 N)
  at_ : ∀ n k, n ≤ 36 → k ≤ 36 → W.cell? ⟨b, 1 + n * 37 + k, none⟩ = some (.int .i64 (c n k)) ∧ W.frozen? ⟨b, 1 + n * 37 + k, none⟩ = false
theorem Tab.lt {W : World} {b N : Nat} {c : Nat → Nat → Nat} (h : Tab W b N c) : b < W.heap.size := by
  rcases Nat.lt_or_ge b W.heap.size with h' | h'
  · exact h'
  · have := h.size; simp [World.cell?, Array.getElem?_eq_none h'] at this
theorem Tab.same {W W' : World} {b N : Nat} {c : Nat → Nat → Nat} (h : Tab W b N c) (e : W'.heap[b]? = W.heap[b]?) : Tab W' b N c :=
  ⟨(World.cell?_of_block (a := ⟨b, 0, none⟩) e).trans h.size, fun n k hn hk => ⟨(World.cell?_of_block (a := ⟨b, 1 + n * 37 + k, none⟩) e).trans (h.at_ n k hn hk).1, (World.frozen?_of_block (a := ⟨b, 1 + n * 37 + k, none⟩) e).trans (h.at_ n k hn hk).2⟩⟩
theorem Tab.below {W W' : World} {B b N : Nat} {c : Nat → Nat → Nat} (h : Tab W b N c) (hb : Below B W W') (hlt : b < B) : Tab W' b N c := h.same (hb.block b hlt)
theorem Tab.drew {W : World} {b N : Nat} {c : Nat → Nat → Nat} (h : Tab W b N c) : Tab W.drew b N c := h.same rfl
theorem Tab.drewN {W : World} {b N : Nat} {c : Nat → Nat → Nat} (h : Tab W b N c) (m : Nat) : Tab (W.drewN m) b N c := h.same rfl
theorem place_eq {a b c d : Nat} (hb : b ≤ 36) (hd : d ≤ 36) (h : 1 + a * 37 + b = 1 + c * 37 + d) : a = c ∧ b = d := by omega
theorem Tab.set {W : World} {B N p q x : Nat} {c d : Nat → Nat → Nat} (h : Tab W B N c) (hp : p ≤ 36) (hq : q ≤ 36) (hx : d p q = x) (hd : ∀ n k, n ≤ 36 → k ≤ 36 → ¬ (n = p ∧ k = q) → d n k = c n k) :
    Tab (W.setCell ⟨B, 1 + p * 37 + q, none⟩ (.int .i64 x)) B N d := by
  obtain ⟨h1, h3⟩ := h
  obtain ⟨p1, p2⟩ := h3 p q hp hq
  obtain ⟨o, ho⟩ : ∃ o, 1 + p * 37 + q = o := ⟨_, rfl⟩
  rw [ho] at p1 p2 ⊢
  have hz : ¬ o = 0 := by omega
  have hz' : ¬ 0 = o := by omega
  refine ⟨by go_simp, fun n k hn hk => ?_⟩
  obtain ⟨c1, c2⟩ := h3 n k hn hk
  by_cases hkp : n = p ∧ k = q
  · obtain ⟨rfl, rfl⟩ := hkp
    rw [hx, ho]
    exact ⟨by go_simp, by go_simp⟩
  · rw [hd n k hn hk hkp]
    have hne : ¬ o = 1 + n * 37 + k := by rw [← ho]; intro e; have := place_eq hq hk e; exact hkp ⟨this.1.symm, this.2.symm⟩
    generalize c n k = y at c1
    generalize 1 + n * 37 + k = o' at c1 c2 hne
    clear hx hd h3 ho
    exact ⟨by go_simp, by go_simp⟩
/-- Row by row: all rows below m, and of row m the first j + 1 numbers. -/
def rows (m n k : Nat) : Nat := if n < m then ch n k else 0
def part (m j n k : Nat) : Nat := if n < m then ch n k else if n = m ∧ k ≤ j then ch m k else 0
theorem part_row (m n k : Nat) : part m m n k = rows (m + 1) n k := by
  unfold part rows
  by_cases h : n < m
  · rw [if_pos h, if_pos (by omega)]
  · rw [if_neg h]
    by_cases h2 : n = m
    · subst h2
      rw [if_pos (show n < n + 1 by omega)]
      by_cases h3 : k ≤ n
      · rw [if_pos ⟨rfl, h3⟩]
      · rw [if_neg (show ¬ (n = n ∧ k ≤ n) from fun e => h3 e.2), ch_gt (by omega)]
    · rw [if_neg (show ¬ (n = m ∧ k ≤ m) from fun e => h2 e.1), if_neg (by omega)]
structure Pieces (W : World) (b N : Nat) : Prop where
  tab : Tab W b N (rows (N + 1))
  h1 : 1 ≤ N
  h36 : N ≤ 36
theorem Pieces.at_ {W : World} {b N n k : Nat} (h : Pieces W b N) (hn : n ≤ N) (hk : k ≤ 36) : W.cell? ⟨b, 1 + n * 37 + k, none⟩ = some (.int .i64 (ch n k)) := by
  have h36 := h.h36
  have := (h.tab.at_ n k (by omega) hk).1
  unfold rows at this
  rw [if_pos (by omega)] at this
  exact this
theorem Pieces.lt {W : World} {b N : Nat} (h : Pieces W b N) : b < W.heap.size := h.tab.lt
theorem Pieces.same {W W' : World} {b N : Nat} (h : Pieces W b N) (e : W'.heap[b]? = W.heap[b]?) : Pieces W' b N := ⟨h.tab.same e, h.h1, h.h36⟩
theorem Pieces.below {W W' : World} {B b N : Nat} (h : Pieces W b N) (hb : Below B W W') (hlt : b < B) : Pieces W' b N := h.same (hb.block b hlt)
theorem Pieces.drewN {W : World} {b N : Nat} (h : Pieces W b N) (m : Nat) : Pieces (W.drewN m) b N := h.same rfl
theorem Pieces.drew {W : World} {b N : Nat} (h : Pieces W b N) : Pieces W.drew b N := h.same rfl
theorem readLot_no {n : Int} (hno : n < 1 ∨ 36 < n) (w : World) :
    Calls Try.prog 62 #[.int .i64 n] w fun e w' => e = .returned (.tuple #[.pointer none, .bool false]) ∧ w' = w := by
  go_enter Try.func62, Try.ntmps62
  rcases hno with h | h <;> go_wp2
  all_goals go_ret2
  all_goals exact ⟨rfl, rfl⟩
set_option maxHeartbeats 1000000 in
set_option maxRecDepth 100000 in
theorem readLot_any {N : Nat} (h1 : 1 ≤ N) (h2 : N ≤ 36) (w : World) :
    Calls Try.prog 62 #[.int .i64 N] w fun e w' => e = .returned (.tuple #[.pointer (some ⟨w.heap.size, 0, none⟩), .bool true]) ∧ Below w.heap.size w w' ∧ Pieces w' w.heap.size N := by
  go_enter Try.func62, Try.ntmps62
  go_wp2
  obtain ⟨W0, hW0⟩ : ∃ W0, w.alloc (.cells (Try.zeroCells94.setIfInBounds 0 (.int .i64 (N : Nat))) 94) = W0 := ⟨_, rfl⟩
  have hblk : W0.heap[w.heap.size]? = some (.cells (Try.zeroCells94.setIfInBounds 0 (.int .i64 (N : Nat))) 94 (0, 0)) := by
    rw [← hW0]
    show (w.heap.push _)[w.heap.size]? = _
    simp
  have htab : Tab W0 w.heap.size N (rows 0) := by
    have hz := zeros_size
    refine ⟨?_, fun n k hn hk => ⟨?_, ?_⟩⟩
    · simp [World.cell?, hblk, Array.getElem?_setIfInBounds, hz]
    · have e : rows 0 n k = 0 := by unfold rows; rw [if_neg (by omega)]
      rw [e]
      have := zero_at (k := 1 + n * 37 + k) (by omega)
      simp only [World.cell?, hblk]
      rw [Array.getElem?_setIfInBounds_ne (by omega)]
      simpa using this
    · simp [World.frozen?, hblk]
  have hbw0 : Below w.heap.size w W0 := by rw [← hW0]; exact (Below.refl _ _).alloc (Nat.le_refl _) _
  rw [hW0]
  clear hW0 hblk
  obtain ⟨B, hB⟩ : ∃ B, w.heap.size = B := ⟨_, rfl⟩
  rw [hB] at htab hbw0 ⊢
  have hBk := Keep.mk hB
  clear hB
  go_loopw [18] (fun i wr => ∃ m : Nat, m ≤ N + 1 ∧ i = .int .i64 m ∧ Keep (Tab wr B N (rows m)) ∧ Below B w wr) (fun i _ => N + 1 - (intOf i).toNat)
  case atStart => exact ⟨0, by omega, rfl, ⟨htab⟩, hbw0⟩
  case round =>
    obtain ⟨m, hm, rfl, hrow, hbw⟩ := hrel
    by_cases hlt : m < N + 1
    · have hi0 : (m : Int) < (N : Int) + 1 := by omega
      have hi1 : (m : Int) < 37 := by omega
      have hi2 : m < 37 := by omega
      obtain ⟨c1, c2⟩ := hrow.out.at_ m 0 (by omega) (by omega)
      rw [Nat.add_zero] at c1 c2
      go_wp2
      go_loopw [28] (fun i wr2 => ∃ j : Nat, j ≤ m ∧ i = .int .i64 j ∧ Keep (Tab wr2 B N (part m j)) ∧ Below B w wr2) (fun i _ => m - (intOf i).toNat)
      case atStart =>
        refine ⟨0, by omega, rfl, ⟨?_⟩, hbw.setCell (p := ⟨B, 1 + m * 37, none⟩) (by simp) _⟩
        have := hrow.out.set (p := m) (q := 0) (x := 1) (d := part m 0) (by omega) (by omega) (by unfold part; rw [if_neg (by omega), if_pos ⟨rfl, Nat.le_refl _⟩]; simp) (fun n k _ _ h => by
          unfold part rows
          by_cases h1 : n < m
          · rw [if_pos h1, if_pos h1]
          · rw [if_neg h1, if_neg h1, if_neg (fun e => h ⟨e.1, by omega⟩)])
        simpa using this
      case round =>
        obtain ⟨j, hj, rfl, hpart, hbw2⟩ := hrel
        by_cases hlt2 : j < m
        · obtain ⟨q, hq⟩ : ∃ q, Keep (m = q + 1) := ⟨m - 1, ⟨by omega⟩⟩
          have hqm : q < m := by have := hq.out; omega
          obtain ⟨a1, a2⟩ := hpart.out.at_ q j (by omega) (by omega)
          obtain ⟨b1, b2⟩ := hpart.out.at_ q (j + 1) (by omega) (by omega)
          obtain ⟨d1, d2⟩ := hpart.out.at_ m (j + 1) (by omega) (by omega)
          have e1 : part m j q j = ch q j := by unfold part; rw [if_pos hqm]
          have e2 : part m j q (j + 1) = ch q (j + 1) := by unfold part; rw [if_pos hqm]
          rw [e1] at a1
          rw [e2] at b1
          have l1 := ch_le (n := q) (by omega) j
          have l2 := ch_le (n := q) (by omega) (j + 1)
          have hnext : Keep (ch m (j + 1) = ch q j + ch q (j + 1)) := ⟨by rw [hq.out]; rfl⟩
          obtain ⟨x, hx⟩ : ∃ x, Keep (ch q j = x) := ⟨_, ⟨rfl⟩⟩
          obtain ⟨y, hy⟩ : ∃ y, Keep (ch q (j + 1) = y) := ⟨_, ⟨rfl⟩⟩
          rw [hx.out] at a1 l1 hnext
          rw [hy.out] at b1 l2 hnext
          obtain ⟨j', hj'⟩ : ∃ j' : Nat, Keep (j' = j + 1) := ⟨_, ⟨rfl⟩⟩
          have hw1 : IntKind.i64.wrap ((j : Int) + 1) = (j' : Int) := by rw [hj'.out, IntWalk.i64_in _ (by omega)]; push_cast; rfl
          have hsum : IntKind.i64.wrap ((x : Int) + (y : Int)) = (x : Int) + (y : Int) := IntWalk.i64_in _ (by omega)
          have hw2 : IntKind.i64.wrap ((m : Int) - 1) = (q : Int) := by rw [hq.out, IntWalk.i64_in _ (by omega)]; push_cast; omega
          have hlt3 : (j : Int) < (m : Int) := by omega
          rw [← hj'.out] at b1 b2 d1 d2 hnext
          have g2 : j' < 37 := by have := hj'.out; omega
          have g3 : q < 37 := by omega
          have g4 : j < 37 := by omega
          have f1 : (q : Int) < 37 := by omega
          have f2 : (j' : Int) < 37 := by omega
          have f3 : (j : Int) < 37 := by omega
          obtain ⟨z, hz⟩ : ∃ z, part m j m j' = z := ⟨_, rfl⟩
          rw [hz] at d1
          clear e1 e2 c1 c2 hz
          go_wp2
          go_still_tail 28, (by kernel_rfl)
          change wpList _ _ _ _ _ wr.drew
          go_wp2
          refine ⟨⟨j + 1, by omega, by first | go_num | rw [hj'.out], ⟨?_⟩, (hbw2.drew).setCell (p := ⟨B, 1 + m * 37 + j', none⟩) (by simp) _⟩, by simp [intOf]; have := hj'.out; omega⟩
          have hx : part m (j + 1) m j' = x + y := by unfold part; rw [if_neg (by omega), if_pos ⟨rfl, by rw [hj'.out]; exact Nat.le_refl _⟩, hnext.out]
          have := hpart.out.drew.set (p := m) (q := j') (d := part m (j + 1)) (by omega) (by omega) hx (fun n k _ _ h => by
            unfold part
            have := hj'.out
            by_cases h1 : n < m
            · rw [if_pos h1, if_pos h1]
            · rw [if_neg h1, if_neg h1]
              by_cases h2 : n = m ∧ k ≤ j
              · rw [if_pos h2, if_pos (⟨h2.1, by omega⟩ : n = m ∧ k ≤ j + 1)]
              · rw [if_neg h2, if_neg (show ¬ (n = m ∧ k ≤ j + 1) from fun e => by
                  have h3 : ¬ k ≤ j := fun e2 => h2 ⟨e.1, e2⟩
                  exact h ⟨e.1, by omega⟩)])
          rw [show ((x + y : Nat) : Int) = (x : Int) + (y : Int) by push_cast; rfl] at this
          exact this
        · have : j = m := by omega
          subst this
          go_wp2
          refine ⟨⟨j + 1, by omega, by go_num, ⟨?_⟩, hbw2⟩, by simp [intOf]; omega⟩
          have e : rows (j + 1) = part j j := funext fun n => funext fun k => (part_row j n k).symm
          rw [e]
          exact hpart.out
    · have : m = N + 1 := by omega
      subst this
      have hi0 : ¬ ((N + 1 : Nat) : Int) < (N : Int) + 1 := by omega
      go_wp2
      go_ret2
      obtain rfl := hBk.out
      refine ⟨rfl, hbw, ⟨hrow.out, h1, h2⟩⟩
end Go.Proofs.Ytbmfipjnfbnjgaa
