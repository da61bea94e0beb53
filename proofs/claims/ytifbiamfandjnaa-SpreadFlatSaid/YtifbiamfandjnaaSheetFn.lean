/-
  A sheet that has been read: its cells, and the excess (f103).
-/
import Derived.Test.YtifbiamfandjnaaLineAt
import Derived.Test.YtifbiamfandjnaaSeqE
import Derived.Test.YtifbiamfandjnaaInts
import Derived.WalkKit
import Derived.Test.YtifbiamfandjnaaRead2
import Derived.Test.YtifbiamfandjnaaSeqF
import Derived.Test.YtifbiamfandjnaaAtGives
import Derived.Test.YtifbiamfandjnaaSeqD
import Derived.Test.YtifbiamfandjnaaWorst
set_option linter.unusedSimpArgs false
set_option linter.unusedVariables false
namespace Go.Proofs.Ytifbiamfandjnaa
open Go Go.Proofs Go.RowKit Go.Seq
/-- A sheet that has been read: its scale, how many points, and the counts below. -/
structure SheetAt (W : World) (b N n : Nat) (g : Nat → Nat → Nat) : Prop where
  scale : W.cell? ⟨b, 0, none⟩ = some (.int .i64 N)
  size : W.cell? ⟨b, 1, none⟩ = some (.int .i64 n)
  at_ : ∀ s t, s ≤ 100 → t ≤ 100 → W.cell? ⟨b, 2 + s * 101 + t, none⟩ = some (.int .i64 (g s t))
  hN : N ≤ 100
  hn : n ≤ 60
  hg : ∀ s t, s ≤ 100 → t ≤ 100 → g s t ≤ 60
theorem SheetAt.lt {W : World} {b N n : Nat} {g : Nat → Nat → Nat} (h : SheetAt W b N n g) : b < W.heap.size := by
  rcases Nat.lt_or_ge b W.heap.size with h' | h'
  · exact h'
  · have := h.scale; simp [World.cell?, Array.getElem?_eq_none h'] at this
theorem SheetAt.same {W W' : World} {b N n : Nat} {g : Nat → Nat → Nat} (h : SheetAt W b N n g) (e : W'.heap[b]? = W.heap[b]?) : SheetAt W' b N n g :=
  ⟨(World.cell?_of_block (a := ⟨b, 0, none⟩) e).trans h.scale, (World.cell?_of_block (a := ⟨b, 1, none⟩) e).trans h.size, fun s t hs ht => (World.cell?_of_block (a := ⟨b, 2 + s * 101 + t, none⟩) e).trans (h.at_ s t hs ht), h.hN, h.hn, h.hg⟩
theorem SheetAt.below {W W' : World} {B b N n : Nat} {g : Nat → Nat → Nat} (h : SheetAt W b N n g) (hb : Below B W W') (hlt : b < B) : SheetAt W' b N n g := h.same (hb.block b hlt)
theorem SheetAt.drewN {W : World} {b N n : Nat} {g : Nat → Nat → Nat} (h : SheetAt W b N n g) (m : Nat) : SheetAt (W.drewN m) b N n g := h.same rfl
def exc2 (N n c s t : Nat) : Int := (c : Int) * (N : Int) * (N : Int) - (s : Int) * (t : Int) * (n : Int)
theorem exc2_le {N n c s t : Nat} (hN : N ≤ 100) (hn : n ≤ 60) (hc : c ≤ 60) (hs : s ≤ 100) (ht : t ≤ 100) : (c * N ≤ 6000 ∧ c * N * N ≤ 600000 ∧ s * t ≤ 10000 ∧ s * t * n ≤ 600000) ∧ -600000 ≤ exc2 N n c s t ∧ exc2 N n c s t ≤ 600000 := by
  have h1 : c * N ≤ 60 * 100 := Nat.mul_le_mul hc hN
  have h2 : c * N * N ≤ 6000 * 100 := Nat.mul_le_mul h1 hN
  have h3 : s * t ≤ 100 * 100 := Nat.mul_le_mul hs ht
  have h4 : s * t * n ≤ 10000 * 60 := Nat.mul_le_mul h3 hn
  refine ⟨⟨h1, h2, h3, h4⟩, ?_⟩
  unfold exc2
  have e1 : (c : Int) * (N : Int) * (N : Int) = ((c * N * N : Nat) : Int) := by rw [Int.natCast_mul, Int.natCast_mul]
  have e2 : (s : Int) * (t : Int) * (n : Int) = ((s * t * n : Nat) : Int) := by rw [Int.natCast_mul, Int.natCast_mul]
  rw [e1, e2]
  omega
set_option maxHeartbeats 1000000 in
theorem excess2_any {b N n c s t : Nat} {g : Nat → Nat → Nat} {w : World} (hL : SheetAt w b N n g) (hc : c ≤ 60) (hs : s ≤ 100) (ht : t ≤ 100) :
    Calls Try.prog 103 #[.pointer (some ⟨b, 0, none⟩), .int .i64 c, .int .i64 s, .int .i64 t] w fun e w' => e = .returned (.int .i64 (exc2 N n c s t)) ∧ ∃ n, w' = w.drewN n := by
  obtain ⟨h1, h2, _, hN, hn, _⟩ := hL
  obtain ⟨⟨m1, m2, m3, m4⟩, m5, m6⟩ := exc2_le hN hn hc hs ht
  have x1 : (c : Int) * (N : Int) = ((c * N : Nat) : Int) := by rw [Int.natCast_mul]
  have x3 : (s : Int) * (t : Int) = ((s * t : Nat) : Int) := by rw [Int.natCast_mul]
  have x2 : (c : Int) * (N : Int) * (N : Int) = ((c * N * N : Nat) : Int) := by rw [Int.natCast_mul, Int.natCast_mul]
  have x4 : (s : Int) * (t : Int) * (n : Int) = ((s * t * n : Nat) : Int) := by rw [Int.natCast_mul, Int.natCast_mul]
  have k1 : IntKind.i64.wrap ((c : Int) * (N : Int)) = (c : Int) * (N : Int) := IntWalk.i64_in _ (by rw [x1]; omega)
  have k2 : IntKind.i64.wrap ((c : Int) * (N : Int) * (N : Int)) = (c : Int) * (N : Int) * (N : Int) := IntWalk.i64_in _ (by rw [x2]; omega)
  have k3 : IntKind.i64.wrap ((s : Int) * (t : Int)) = (s : Int) * (t : Int) := IntWalk.i64_in _ (by rw [x3]; omega)
  have k4 : IntKind.i64.wrap ((s : Int) * (t : Int) * (n : Int)) = (s : Int) * (t : Int) * (n : Int) := IntWalk.i64_in _ (by rw [x4]; omega)
  have k5 : IntKind.i64.wrap ((c : Int) * (N : Int) * (N : Int) - (s : Int) * (t : Int) * (n : Int)) = (c : Int) * (N : Int) * (N : Int) - (s : Int) * (t : Int) * (n : Int) := IntWalk.i64_in _ (by unfold exc2 at m5 m6; omega)
  clear m1 m2 m3 m4 m5 m6 x1 x2 x3 x4
  unfold exc2
  go_enter Try.func103, Try.ntmps103
  go_wp2
  go_quiet (fail)
  go_wp2
  go_ret
  exact ⟨rfl, nq, rfl⟩
end Go.Proofs.Ytifbiamfandjnaa
set_option linter.unusedSimpArgs false
set_option linter.unusedVariables false
namespace Go.Proofs.Ytifbiamfandjnaa
open Go Go.Proofs Go.RowKit
/-- A list of pairs in memory, from the start of a block on. -/
def PairsOf (w : World) (v : Value) (ps : List (Int × Int)) : Prop :=
  ∃ A cap, v = .slice A ps.length cap ∧ ∀ k, k < ps.length → ∃ g, A = some ⟨g, 0, none⟩ ∧ w.cell? ⟨g, k * 2, none⟩ = some (.int .i64 (ps.getD k (0, 0)).1) ∧ w.cell? ⟨g, k * 2 + 1, none⟩ = some (.int .i64 (ps.getD k (0, 0)).2)
theorem pairsOf_below {w w' : World} {v : Value} {l : List (Int × Int)} (h : PairsOf w v l) (b : Below w.heap.size w w') : PairsOf w' v l := by
  obtain ⟨A, cap, hv, hc⟩ := h
  refine ⟨A, cap, hv, fun k hk => ?_⟩
  obtain ⟨g, hA, h1, h2⟩ := hc k hk
  exact ⟨g, hA, cell_below h1 b, cell_below h2 b⟩
def SheetOk (N : Nat) (ps : List (Int × Int)) : Prop := 1 ≤ N ∧ N ≤ 100 ∧ 1 ≤ ps.length ∧ ps.length ≤ 60 ∧ ∀ p ∈ ps, 0 ≤ p.1 ∧ p.1 < (N : Int) ∧ 0 ≤ p.2 ∧ p.2 < (N : Int)
theorem getp {ps : List (Int × Int)} {k : Nat} (h : k < ps.length) : ps.getD k (0, 0) ∈ ps := by
  rw [List.getD_eq_getElem?_getD, List.getElem?_eq_getElem h]; exact List.getElem_mem _
theorem under39 : Try.prog.underlying 39 = some (.array 2 3) := by kernel_rfl
theorem idx39_0 (x y : Int) (w : World) : (Instr.index 39 (.agg #[.int .i64 x, .int .i64 y]) (.int .i64 0)).run Try.prog w = .ok (.int .i64 x) w := by
  have h3 := Try.isAgg3
  have u3 := Try.underlying3
  have z3 := Try.sizeOf3
  simp [Instr.index, run_underlying under39, asIntOf, go_sem]
theorem idx39_1 (x y : Int) (w : World) : (Instr.index 39 (.agg #[.int .i64 x, .int .i64 y]) (.int .i64 1)).run Try.prog w = .ok (.int .i64 y) w := by
  have h3 := Try.isAgg3
  have u3 := Try.underlying3
  have z3 := Try.sizeOf3
  simp [Instr.index, run_underlying under39, asIntOf, go_sem]
set_option maxHeartbeats 1000000 in
set_option maxRecDepth 100000 in
theorem isSheet_yes {N : Nat} {v : Value} {ps : List (Int × Int)} {w : World} (hv : PairsOf w v ps) (hok : SheetOk N ps) :
    Calls Try.prog 87 #[.int .i64 N, v] w fun e w' => e = .returned (.bool true) ∧ Below w.heap.size w w' := by
  obtain ⟨h1, h2, h3, h4, h5⟩ := hok
  obtain ⟨A, cap, rfl, hc⟩ := hv
  have h5k := Keep.mk h5
  have hck := Keep.mk hc
  obtain ⟨n, hn⟩ : ∃ n, Keep (ps.length = n) := ⟨_, ⟨rfl⟩⟩
  rw [hn.out] at h3 h4 hck ⊢
  clear h5 hc
  go_enter Try.func87, Try.ntmps87
  go_wp2
  go_loopw [27] (fun i wr => ∃ k : Nat, k ≤ n ∧ i = .int .i64 k ∧ Below w.heap.size w wr) (fun i _ => n - (intOf i).toNat)
  case atStart => exact ⟨0, by omega, rfl, Below.refl _ _⟩
  case round =>
    obtain ⟨k, hk, rfl, hbw⟩ := hrel
    have hbz := hbw.size
    by_cases hlt : k < n
    · obtain ⟨g, rfl, c0, c1⟩ := hck.out k hlt
      have c0 := cell_below c0 hbw
      have c1 := cell_below c1 hbw
      obtain ⟨p1, p2, p3, p4⟩ := h5k.out _ (getp (ps := ps) (k := k) (by rw [hn.out]; exact hlt))
      generalize ps.getD k (0, 0) = p at c0 c1 p1 p2 p3 p4
      obtain ⟨x, y⟩ := p
      simp only at c0 c1 p1 p2 p3 p4
      have i0 := idx39_0 x y
      have i1 := idx39_1 x y
      go_wp2
      go_loopw [32] (fun i wr2 => ∃ j : Nat, j ≤ 2 ∧ i = .int .i64 j ∧ Below w.heap.size w wr2) (fun i _ => 2 - (intOf i).toNat)
      case atStart => exact ⟨0, by omega, rfl, by first | exact (hbw.alloc hbz _) | exact hbw⟩
      case round =>
        obtain ⟨j, hj, rfl, hbw2⟩ := hrel
        by_cases hj0 : j = 0
        · subst hj0
          go_wp2
          exact ⟨⟨1, by omega, by go_num, hbw2⟩, by simp [intOf]⟩
        · by_cases hj1 : j = 1
          · subst hj1
            go_wp2
            exact ⟨⟨2, by omega, by go_num, hbw2⟩, by simp [intOf]⟩
          · obtain rfl : j = 2 := by omega
            go_wp2
            exact ⟨⟨k + 1, by omega, by go_num, hbw2⟩, by simp [intOf]; omega⟩
    · have : k = n := by omega
      subst this
      go_wp2
      go_ret
      exact ⟨rfl, hbw⟩
end Go.Proofs.Ytifbiamfandjnaa
set_option linter.unusedSimpArgs false
set_option linter.unusedVariables false
namespace Go.Proofs.Ytifbiamfandjnaa
open Go Go.Proofs Go.RowKit
abbrev Pts := List (Int × Int)
def cnt2 (ps : Pts) (i j : Nat) : Nat := (ps.filter fun p => p.1 + 1 == (i : Int) && p.2 + 1 == (j : Int)).length
def below2 (ps : Pts) (i j : Nat) : Nat := (ps.filter fun p => decide (p.1 < (i : Int)) && decide (p.2 < (j : Int))).length
theorem cnt2_le (ps : Pts) (i j : Nat) : cnt2 ps i j ≤ ps.length := List.length_filter_le _ _
theorem below2_le (ps : Pts) (i j : Nat) : below2 ps i j ≤ ps.length := List.length_filter_le _ _
theorem cnt2_push (ps : Pts) (x y i j : Nat) : cnt2 (ps ++ [((x : Int), (y : Int))]) i j = cnt2 ps i j + if i = x + 1 ∧ j = y + 1 then 1 else 0 := by
  unfold cnt2
  rw [List.filter_append, List.length_append]
  by_cases h : i = x + 1 ∧ j = y + 1
  · obtain ⟨rfl, rfl⟩ := h
    simp
  · rw [if_neg h]
    have : (((x : Int) + 1 == (i : Int)) && ((y : Int) + 1 == (j : Int))) = false := by
      rw [Bool.and_eq_false_iff, beq_eq_false_iff_ne, beq_eq_false_iff_ne]; omega
    simp [this]
theorem below2_succ (ps : Pts) (s t : Nat) : below2 ps (s + 1) (t + 1) + below2 ps s t = cnt2 ps (s + 1) (t + 1) + below2 ps s (t + 1) + below2 ps (s + 1) t := by
  unfold cnt2 below2
  induction ps with
  | nil => rfl
  | cons p l ih =>
    obtain ⟨x, y⟩ := p
    simp only [List.filter_cons]
    have a1 : x < (s : Int) ∨ x = (s : Int) ∨ (s : Int) < x := by omega
    have b1 : y < (t : Int) ∨ y = (t : Int) ∨ (t : Int) < y := by omega
    have c1 : (x + 1 == ((s + 1 : Nat) : Int)) = decide (x = (s : Int)) := by rw [Bool.eq_iff_iff, beq_iff_eq, decide_eq_true_iff]; omega
    have c2 : (y + 1 == ((t + 1 : Nat) : Int)) = decide (y = (t : Int)) := by rw [Bool.eq_iff_iff, beq_iff_eq, decide_eq_true_iff]; omega
    have c3 : decide (x < ((s + 1 : Nat) : Int)) = (decide (x < (s : Int)) || decide (x = (s : Int))) := by rw [Bool.eq_iff_iff, Bool.or_eq_true, decide_eq_true_iff, decide_eq_true_iff, decide_eq_true_iff]; omega
    have c4 : decide (y < ((t + 1 : Nat) : Int)) = (decide (y < (t : Int)) || decide (y = (t : Int))) := by rw [Bool.eq_iff_iff, Bool.or_eq_true, decide_eq_true_iff, decide_eq_true_iff, decide_eq_true_iff]; omega
    rw [c1, c2, c3, c4]
    rcases a1 with h | h | h <;> rcases b1 with k | k | k
    all_goals
      first
        | rw [decide_eq_true h] | skip
    all_goals
      first
        | rw [show decide (x < (s : Int)) = true from decide_eq_true (by omega)]
        | rw [show decide (x < (s : Int)) = false from decide_eq_false (by omega)]
        | skip
    all_goals
      first
        | rw [show decide (x = (s : Int)) = true from decide_eq_true (by omega)]
        | rw [show decide (x = (s : Int)) = false from decide_eq_false (by omega)]
        | skip
    all_goals
      first
        | rw [show decide (y < (t : Int)) = true from decide_eq_true (by omega)]
        | rw [show decide (y < (t : Int)) = false from decide_eq_false (by omega)]
        | skip
    all_goals
      first
        | rw [show decide (y = (t : Int)) = true from decide_eq_true (by omega)]
        | rw [show decide (y = (t : Int)) = false from decide_eq_false (by omega)]
        | skip
    all_goals simp only [Bool.or_true, Bool.or_false, Bool.true_or, Bool.false_or, Bool.and_true, Bool.and_false, Bool.true_and, Bool.false_and, if_true, Bool.false_eq_true, if_false, List.length_cons]
    all_goals omega
theorem zero2 {ps : Pts} (h : ∀ p ∈ ps, 0 ≤ p.1 ∧ 0 ≤ p.2) (i j : Nat) (hij : i = 0 ∨ j = 0) : cnt2 ps i j = 0 ∧ below2 ps i j = 0 := by
  unfold cnt2 below2
  constructor <;> rw [List.length_eq_zero_iff, List.filter_eq_nil_iff] <;> intro p hp <;> have := h p hp
  · rw [Bool.and_eq_true, beq_iff_eq, beq_iff_eq]; omega
  · rw [Bool.and_eq_true, decide_eq_true_iff, decide_eq_true_iff]; omega
/-- What stands at i, j when the sums are done up to s, t. -/
def mid2 (ps : Pts) (N s t i j : Nat) : Nat := if j ≤ N ∧ (i ≤ s ∨ (i = s + 1 ∧ j ≤ t)) then below2 ps i j else cnt2 ps i j
theorem mid2_le (ps : Pts) (N s t i j : Nat) : mid2 ps N s t i j ≤ ps.length := by unfold mid2; split; exact below2_le _ _ _; exact cnt2_le _ _ _
theorem mid2_start {ps : Pts} (h : ∀ p ∈ ps, 0 ≤ p.1 ∧ 0 ≤ p.2) (N i j : Nat) : mid2 ps N 0 0 i j = cnt2 ps i j := by
  unfold mid2
  by_cases hc : j ≤ N ∧ (i ≤ 0 ∨ (i = 0 + 1 ∧ j ≤ 0))
  · obtain ⟨z1, z2⟩ := zero2 h i j (by omega)
    rw [if_pos hc, z1, z2]
  · rw [if_neg hc]
theorem mid2_row {ps : Pts} (h : ∀ p ∈ ps, 0 ≤ p.1 ∧ 0 ≤ p.2) (N s i j : Nat) : mid2 ps N s N i j = mid2 ps N (s + 1) 0 i j := by
  unfold mid2
  by_cases hc : j ≤ N ∧ (i ≤ s ∨ (i = s + 1 ∧ j ≤ N))
  · rw [if_pos hc, if_pos (by omega)]
  · rw [if_neg hc]
    by_cases hd : j ≤ N ∧ (i ≤ s + 1 ∨ (i = s + 1 + 1 ∧ j ≤ 0))
    · obtain ⟨z1, z2⟩ := zero2 h i j (by omega)
      rw [if_pos hd, z1, z2]
    · rw [if_neg hd]
theorem mid2_step {ps : Pts} {N s t : Nat} (ht : t < N) : mid2 ps N s (t + 1) (s + 1) (t + 1) + mid2 ps N s t s t = mid2 ps N s t (s + 1) (t + 1) + mid2 ps N s t s (t + 1) + mid2 ps N s t (s + 1) t := by
  have e1 : mid2 ps N s (t + 1) (s + 1) (t + 1) = below2 ps (s + 1) (t + 1) := by unfold mid2; rw [if_pos (by omega)]
  have e2 : mid2 ps N s t s t = below2 ps s t := by unfold mid2; rw [if_pos (by omega)]
  have e3 : mid2 ps N s t (s + 1) (t + 1) = cnt2 ps (s + 1) (t + 1) := by unfold mid2; rw [if_neg (by omega)]
  have e4 : mid2 ps N s t s (t + 1) = below2 ps s (t + 1) := by unfold mid2; rw [if_pos (by omega)]
  have e5 : mid2 ps N s t (s + 1) t = below2 ps (s + 1) t := by unfold mid2; rw [if_pos (by omega)]
  rw [e1, e2, e3, e4, e5]
  exact below2_succ ps s t
theorem mid2_other {ps : Pts} {N s t i j : Nat} (h : ¬ (i = s + 1 ∧ j = t + 1)) : mid2 ps N s (t + 1) i j = mid2 ps N s t i j := by
  unfold mid2
  by_cases hc : j ≤ N ∧ (i ≤ s ∨ (i = s + 1 ∧ j ≤ t))
  · rw [if_pos hc, if_pos (by omega)]
  · rw [if_neg hc, if_neg (by omega)]
/-- The cells of a sheet that is being read. -/
structure CellsS (W : World) (B N n : Nat) (c : Nat → Nat → Nat) : Prop where
  scale : W.cell? ⟨B, 0, none⟩ = some (.int .i64 N)
  size : W.cell? ⟨B, 1, none⟩ = some (.int .i64 n)
  at_ : ∀ i j, i ≤ 100 → j ≤ 100 → W.cell? ⟨B, 2 + i * 101 + j, none⟩ = some (.int .i64 (c i j)) ∧ W.frozen? ⟨B, 2 + i * 101 + j, none⟩ = false
theorem CellsS.set {W : World} {B N n p q x : Nat} {c d : Nat → Nat → Nat} (h : CellsS W B N n c) (hp : p ≤ 100) (hq : q ≤ 100) (hx : d p q = x) (hd : ∀ i j, i ≤ 100 → j ≤ 100 → ¬ (i = p ∧ j = q) → d i j = c i j) : CellsS (W.setCell ⟨B, 2 + p * 101 + q, none⟩ (.int .i64 x)) B N n d := by
  obtain ⟨h1, h2, h3⟩ := h
  obtain ⟨p1, p2⟩ := h3 p q hp hq
  obtain ⟨m, hm⟩ : ∃ m, Keep (2 + p * 101 + q = m) := ⟨_, ⟨rfl⟩⟩
  rw [hm.out] at p1 p2 ⊢
  have hm2 : 2 ≤ m := by have := hm.out; omega
  have hn0 : ¬ m = 0 := by omega
  have hn1 : ¬ m = 1 := by omega
  refine ⟨by go_simp, by go_simp, fun i j hi hj => ?_⟩
  obtain ⟨c1, c2⟩ := h3 i j hi hj
  by_cases hkp : i = p ∧ j = q
  · obtain ⟨rfl, rfl⟩ := hkp
    rw [hx, hm.out]
    exact ⟨by go_simp, by go_simp⟩
  · rw [hd i j hi hj hkp]
    have hne : ¬ m = 2 + i * 101 + j := by have := hm.out; omega
    generalize c i j = y at c1
    generalize 2 + i * 101 + j = k at *
    clear hx hd h3
    exact ⟨by go_simp; try omega, by go_simp; try omega⟩
theorem CellsS.drew {W : World} {B N n : Nat} {c : Nat → Nat → Nat} (h : CellsS W B N n c) : CellsS W.drew B N n c := ⟨h.scale, h.size, h.at_⟩
theorem CellsS.sheet {W : World} {B N n : Nat} {c : Nat → Nat → Nat} (h : CellsS W B N n c) (h1 : N ≤ 100) (h2 : n ≤ 60) (h3 : ∀ i j, c i j ≤ 60) : SheetAt W B N n c := ⟨h.scale, h.size, fun i j hi hj => (h.at_ i j hi hj).1, h1, h2, fun i j _ _ => h3 i j⟩
theorem zeros2_ok : (Try.zeroCells114.size == 10203 && Try.zeroCells114.toList.all (fun v => match v with | .int .i64 z => z == 0 | _ => false)) = true := by kernel_rfl
theorem zero2_at {k : Nat} (hk : k < 10203) : Try.zeroCells114[k]? = some (.int .i64 0) := by
  have h := zeros2_ok
  rw [Bool.and_eq_true, beq_iff_eq] at h
  obtain ⟨h1, h2⟩ := h
  have hlt : k < Try.zeroCells114.size := by omega
  rw [Array.getElem?_eq_getElem hlt]
  have := List.all_eq_true.1 h2 _ (Array.getElem_mem_toList hlt)
  generalize Try.zeroCells114[k] = v at this
  split at this
  · rename_i z
    rw [beq_iff_eq] at this
    rw [this]
  · exact absurd this (by simp)
end Go.Proofs.Ytifbiamfandjnaa
set_option linter.unusedSimpArgs false
set_option linter.unusedVariables false
namespace Go.Proofs.Ytifbiamfandjnaa
open Go Go.Proofs Go.RowKit Go.Seq
namespace RS
open Go.Seq
theorem same {W W' : World} {B N n : Nat} {c : Nat → Nat → Nat} (h : CellsS W B N n c) (e : W'.heap[B]? = W.heap[B]?) : CellsS W' B N n c :=
  ⟨(World.cell?_of_block (a := ⟨B, 0, none⟩) e).trans h.scale, (World.cell?_of_block (a := ⟨B, 1, none⟩) e).trans h.size, fun i j hi hj => ⟨(World.cell?_of_block (a := ⟨B, 2 + i * 101 + j, none⟩) e).trans (h.at_ i j hi hj).1, by
    have := (h.at_ i j hi hj).2
    simp only [World.frozen?] at this ⊢
    rw [e]; exact this⟩⟩
theorem lt {W : World} {B N n : Nat} {c : Nat → Nat → Nat} (h : CellsS W B N n c) : B < W.heap.size := by
  rcases Nat.lt_or_ge B W.heap.size with h' | h'
  · exact h'
  · have := h.scale; simp [World.cell?, Array.getElem?_eq_none h'] at this
def Cw (V V' : World) (p : Nat) (s : Nat → Bool) (W : World) : Prop := if s p = true then W = V' else W = V
theorem Cw.keep {V V' W : World} {p k : Nat} {s : Nat → Bool} (h : Cw V V' p s W) (hk : k ≠ p) : Cw V V' p (Many.upd s k) W := by
  have e : Many.upd s k p = s p := by simp [Many.upd, hk]
  unfold Cw at *; rw [e]; exact h
theorem rd {P : Program} {md : Region.Mode} {ops : Array Oper} {V V' : World} {p k : Nat} {o : Oper} {a : Act} {v : Value} (hp : Manyd.dep md ops k p = true) (hk : k ≠ p) (h : (execOp a.eval o).run P V = .ok (.value v) V) : Manyd.Tr P md ops (Cw V V' p) k o a v :=
  Manyd.tr_read p (fun W => W = V) hp (fun s w hs hC => by unfold Cw at hC; rw [hs] at hC; simpa using hC) (fun s w hC => hC.keep hk) (fun w hw => by rw [hw]; exact h)
theorem pu {P : Program} {md : Region.Mode} {ops : Array Oper} {V V' : World} {p k : Nat} {o : Oper} {a : Act} {v : Value} (hk : k ≠ p) (h : ∀ w, (execOp a.eval o).run P w = .ok (.value v) w) : Manyd.Tr P md ops (Cw V V' p) k o a v := by
  intro s w _ _ hC
  rw [h w]
  exact ⟨rfl, hC.keep hk⟩
end RS
set_option maxHeartbeats 2000000 in
set_option maxRecDepth 100000 in
theorem readSheet_any {N : Nat} {v : Value} {ps : Pts} {w : World} (hv : PairsOf w v ps) (hok : SheetOk N ps) :
    Calls Try.prog 71 #[.int .i64 N, v] w fun e w' => ∃ b, e = .returned (.tuple #[.pointer (some ⟨b, 0, none⟩), .bool true]) ∧ w.heap.size ≤ b ∧ Below w.heap.size w w' ∧ SheetAt w' b N ps.length (mid2 ps N N 0) := by
  have q87 := isSheet_yes hv hok
  obtain ⟨k1, k2, k3, k4, hall⟩ := hok
  have hall' := Keep.mk hall
  have hpos : Keep (∀ p ∈ ps, (0 : Int) ≤ p.1 ∧ (0 : Int) ≤ p.2) := ⟨fun p hp => ⟨(hall p hp).1, (hall p hp).2.2.1⟩⟩
  clear hall
  obtain ⟨A, cap, rfl, hc⟩ := hv
  have hck := Keep.mk hc
  clear hc
  obtain ⟨n, hn⟩ : ∃ n, Keep (ps.length = n) := ⟨_, ⟨rfl⟩⟩
  rw [hn.out] at k3 k4 hck q87 ⊢
  go_enter Try.func71, Try.ntmps71
  go_wp2_with (go_at_call 87; refine q87.mono ?_; rintro e w5 ⟨rfl, hb5⟩; clear q87)
  obtain ⟨W0, hW0⟩ : ∃ W0, w5.alloc (.cells ((Try.zeroCells114.setIfInBounds 0 (.int .i64 (N : Nat))).setIfInBounds 1 (.int .i64 (n : Nat))) 114) = W0 := ⟨_, rfl⟩
  have hblk : W0.heap[w5.heap.size]? = some (.cells ((Try.zeroCells114.setIfInBounds 0 (.int .i64 (N : Nat))).setIfInBounds 1 (.int .i64 (n : Nat))) 114 (0, 0)) := by
    rw [← hW0]
    show (w5.heap.push _)[w5.heap.size]? = _
    simp
  have hcells : CellsS W0 w5.heap.size N n (cnt2 []) := by
    have hz : Try.zeroCells114.size = 10203 := by have := zeros2_ok; rw [Bool.and_eq_true, beq_iff_eq] at this; exact this.1
    refine ⟨?_, ?_, fun i j hi hj => ⟨?_, ?_⟩⟩
    · simp [World.cell?, hblk, Array.getElem?_setIfInBounds, hz]
    · simp [World.cell?, hblk, Array.getElem?_setIfInBounds, hz]
    · have e : cnt2 [] i j = 0 := rfl
      rw [e]
      have := zero2_at (k := 2 + i * 101 + j) (by omega)
      simp only [World.cell?, hblk]
      rw [Array.getElem?_setIfInBounds_ne (by omega), Array.getElem?_setIfInBounds_ne (by omega)]
      simpa using this
    · simp [World.frozen?, hblk]
  have hbw0 : Below w5.heap.size w5 W0 := by rw [← hW0]; exact (Below.refl _ _).alloc (Nat.le_refl _) _
  rw [hW0]
  clear hW0 hblk
  have hb5k := Keep.mk hb5
  have hck5 : Keep (∀ k, k < n → ∃ g, A = some ⟨g, 0, none⟩ ∧ w5.cell? ⟨g, k * 2, none⟩ = some (.int .i64 (ps.getD k (0, 0)).1) ∧ w5.cell? ⟨g, k * 2 + 1, none⟩ = some (.int .i64 (ps.getD k (0, 0)).2)) := ⟨fun k hk => by
    obtain ⟨g, hA, h1, h2⟩ := hck.out k hk
    exact ⟨g, hA, cell_below h1 hb5, cell_below h2 hb5⟩⟩
  have hs5 := Keep.mk hb5.size
  clear hck hb5
  obtain ⟨B, hB⟩ : ∃ B, w5.heap.size = B := ⟨_, rfl⟩
  rw [hB] at hcells hbw0 hs5 ⊢
  have hBk := Keep.mk hB
  clear hB
  go_loopw [22] (fun i wr => ∃ m : Nat, m ≤ n ∧ i = .int .i64 m ∧ Keep (CellsS wr B N n (cnt2 (ps.take m))) ∧ Below B w5 wr) (fun i _ => n - (intOf i).toNat)
  case atStart => exact ⟨0, by omega, rfl, ⟨by simpa using hcells⟩, hbw0⟩
  case round =>
    obtain ⟨m, hm, rfl, hrow, hbw⟩ := hrel
    by_cases hlt : m < n
    · obtain ⟨g, rfl, c0, c1⟩ := hck5.out m hlt
      have c0 := cell_below c0 (by rw [hBk.out]; exact hbw)
      have c1 := cell_below c1 (by rw [hBk.out]; exact hbw)
      have hbz := hbw.size
      rw [hBk.out] at hbz
      have hmem := getp (ps := ps) (k := m) (by rw [hn.out]; exact hlt)
      obtain ⟨p1, p2, p3, p4⟩ := hall'.out _ hmem
      obtain ⟨x, y, hxy⟩ : ∃ x y : Nat, Keep (ps.getD m (0, 0) = ((x : Int), (y : Int))) :=
        ⟨(ps.getD m (0, 0)).1.toNat, (ps.getD m (0, 0)).2.toNat, ⟨by rw [Int.toNat_of_nonneg p1, Int.toNat_of_nonneg p3]⟩⟩
      rw [hxy.out] at c0 c1 p1 p2 p3 p4
      simp only at c0 c1 p1 p2 p3 p4
      have hnext : Keep (∀ i j, cnt2 (ps.take (m + 1)) i j = cnt2 (ps.take m) i j + if i = x + 1 ∧ j = y + 1 then 1 else 0) := ⟨fun i j => by
        have : ps.take (m + 1) = ps.take m ++ [((x : Int), (y : Int))] := by
          rw [← hxy.out, List.take_add_one, List.getElem?_eq_getElem (show m < ps.length by rw [hn.out]; exact hlt), List.getD_eq_getElem?_getD, List.getElem?_eq_getElem (show m < ps.length by rw [hn.out]; exact hlt)]; rfl
        rw [this, cnt2_push]⟩
      obtain ⟨z, hz⟩ : ∃ z : Nat, Keep (cnt2 (ps.take m) (x + 1) (y + 1) = z) := ⟨_, ⟨rfl⟩⟩
      have hz60 : z ≤ 60 := by
        have := cnt2_le (ps.take m) (x + 1) (y + 1)
        rw [hz.out, List.length_take] at this
        omega
      obtain ⟨c3, c4⟩ := hrow.out.at_ (x + 1) (y + 1) (by omega) (by omega)
      rw [hz.out] at c3
      obtain ⟨x', hx'⟩ : ∃ x' : Nat, Keep (x' = x + 1) := ⟨_, ⟨rfl⟩⟩
      obtain ⟨y', hy'⟩ : ∃ y' : Nat, Keep (y' = y + 1) := ⟨_, ⟨rfl⟩⟩
      have hw1 : IntKind.i64.wrap ((x : Int) + 1) = (x' : Int) := by rw [hx'.out, IntWalk.i64_in _ (by omega)]; push_cast; rfl
      have hw2 : IntKind.i64.wrap ((y : Int) + 1) = (y' : Int) := by rw [hy'.out, IntWalk.i64_in _ (by omega)]; push_cast; rfl
      have hx1 : x' ≤ 100 := by have := hx'.out; omega
      have hy1 : y' ≤ 100 := by have := hy'.out; omega
      have hx2 : x' < 101 := by omega
      have hy2 : y' < 101 := by omega
      have hx3 : (x' : Int) < 101 := by omega
      have hy3 : (y' : Int) < 101 := by omega
      have ez : IntKind.i64.wrap ((z : Int) + 1) = (z : Int) + 1 := IntWalk.i64_in _ (by omega)
      rw [← hx'.out, ← hy'.out] at c3 c4 hz
      clear p1 p2 p3 p4
      go_wp2
      have hcS : CellsS (wr.alloc (.cells #[.int .i64 x, .int .i64 y] 39)) B N n (cnt2 (ps.take m)) := RS.same hrow.out (Below.heap_alloc _ _ _ (RS.lt hrow.out))
      obtain ⟨c3, c4⟩ := hcS.at_ x' y' hx1 hy1
      rw [hz.out] at c3
      have hcSk := Keep.mk hcS
      have hbw2 : Keep (Below B w5 (wr.alloc (.cells #[.int .i64 x, .int .i64 y] 39))) := ⟨hbw.alloc hbz _⟩
      clear hcS
      have hmo : Try.prog.follows .mixedOrders = true := by kernel_rfl
      refine (wpIn_wide (n := 0)).1 ?_
      refine Manyd.region_many (RS.Cw (wr.alloc (.cells #[.int .i64 x, .int .i64 y] 39)).drew ((wr.alloc (.cells #[.int .i64 x, .int .i64 y] 39)).drew.setCell ⟨B, 2 + x' * 101 + y', none⟩ (.int .i64 ((z : Int) + 1))) 17) hmo (by kernel_rfl) (fun s s' W' h hc => by rw [← show s = s' from funext h]; exact hc) (fun s hs => by unfold RS.Cw; rw [hs 17 (by decide)]; rfl) ?_
      refine Manyd.lex_want (by rfl) (RS.rd (by kernel_rfl) (by decide) (by (go_simp; try rfl))) ?_
      simp only [Act.put, List.setIfInBounds_toArray, List.set_cons_succ, List.set_cons_zero, Nat.reduceAdd]
      refine Manyd.lex_want (by rfl) (RS.rd (v := .pointer (some ⟨wr.heap.size, 0, none⟩)) (by kernel_rfl) (by decide) (by (go_simp; try rfl))) ?_
      simp only [Act.put, List.setIfInBounds_toArray, List.set_cons_succ, List.set_cons_zero, Nat.reduceAdd]
      refine Manyd.lex_want (by rfl) (RS.rd (v := .int .i64 (x : Nat)) (by kernel_rfl) (by decide) (by (go_simp; try rfl))) ?_
      simp only [Act.put, List.setIfInBounds_toArray, List.set_cons_succ, List.set_cons_zero, Nat.reduceAdd]
      refine Manyd.lex_want (by rfl) (RS.rd (v := .int .i64 (x' : Nat)) (by kernel_rfl) (by decide) (by (go_simp; try exact hw1))) ?_
      simp only [Act.put, List.setIfInBounds_toArray, List.set_cons_succ, List.set_cons_zero, Nat.reduceAdd]
      refine Manyd.lex_want (by rfl) (RS.rd (v := .pointer (some ⟨wr.heap.size, 1, none⟩)) (by kernel_rfl) (by decide) (by (go_simp; try rfl))) ?_
      simp only [Act.put, List.setIfInBounds_toArray, List.set_cons_succ, List.set_cons_zero, Nat.reduceAdd]
      refine Manyd.lex_want (by rfl) (RS.rd (v := .int .i64 (y : Nat)) (by kernel_rfl) (by decide) (by (go_simp; try rfl))) ?_
      simp only [Act.put, List.setIfInBounds_toArray, List.set_cons_succ, List.set_cons_zero, Nat.reduceAdd]
      refine Manyd.lex_want (by rfl) (RS.rd (v := .int .i64 (y' : Nat)) (by kernel_rfl) (by decide) (by (go_simp; try exact hw2))) ?_
      simp only [Act.put, List.setIfInBounds_toArray, List.set_cons_succ, List.set_cons_zero, Nat.reduceAdd]
      refine Manyd.lex_want (by rfl) (RS.rd (by kernel_rfl) (by decide) (by (go_simp; try rfl))) ?_
      simp only [Act.put, List.setIfInBounds_toArray, List.set_cons_succ, List.set_cons_zero, Nat.reduceAdd]
      refine Manyd.lex_want (by rfl) (RS.rd (by kernel_rfl) (by decide) (by (go_simp; try rfl))) ?_
      simp only [Act.put, List.setIfInBounds_toArray, List.set_cons_succ, List.set_cons_zero, Nat.reduceAdd]
      refine Manyd.lex_want (by rfl) (RS.rd (v := .pointer (some ⟨B, 2 + x' * 101, none⟩)) (by kernel_rfl) (by decide) (by (go_simp; (try (first | done | omega | (intros; omega)))))) ?_
      simp only [Act.put, List.setIfInBounds_toArray, List.set_cons_succ, List.set_cons_zero, Nat.reduceAdd]
      refine Manyd.lex_want (by rfl) (RS.rd (v := .pointer (some ⟨B, 2 + x' * 101 + y', none⟩)) (by kernel_rfl) (by decide) (by (go_simp; (try (first | done | omega | (intros; omega)))))) ?_
      simp only [Act.put, List.setIfInBounds_toArray, List.set_cons_succ, List.set_cons_zero, Nat.reduceAdd]
      refine Manyd.lex_want (by rfl) (RS.rd (v := .int .i64 (z : Nat)) (by kernel_rfl) (by decide) (by (go_simp; try rfl))) ?_
      simp only [Act.put, List.setIfInBounds_toArray, List.set_cons_succ, List.set_cons_zero, Nat.reduceAdd]
      refine Manyd.lex_want (by rfl) (RS.rd (v := .int .i64 ((z : Int) + 1)) (by kernel_rfl) (by decide) (by (go_simp; try exact ez))) ?_
      simp only [Act.put, List.setIfInBounds_toArray, List.set_cons_succ, List.set_cons_zero, Nat.reduceAdd]
      refine Manyd.lex_want (by rfl) (RS.pu (by decide) (fun w => by (go_simp; try rfl))) ?_
      simp only [Act.put, List.setIfInBounds_toArray, List.set_cons_succ, List.set_cons_zero, Nat.reduceAdd]
      refine Manyd.lex_want (by rfl) (RS.pu (by decide) (fun w => by (go_simp; try rfl))) ?_
      simp only [Act.put, List.setIfInBounds_toArray, List.set_cons_succ, List.set_cons_zero, Nat.reduceAdd]
      refine Manyd.lex_want (by rfl) (RS.pu (v := .pointer (some ⟨B, 2 + x' * 101, none⟩)) (by decide) (fun w => by (go_simp; (try (first | done | omega | (intros; omega)))))) ?_
      simp only [Act.put, List.setIfInBounds_toArray, List.set_cons_succ, List.set_cons_zero, Nat.reduceAdd]
      refine Manyd.lex_want (by rfl) (RS.rd (v := .pointer (some ⟨B, 2 + x' * 101 + y', none⟩)) (by kernel_rfl) (by decide) (by (go_simp; (try (first | done | omega | (intros; omega)))))) ?_
      simp only [Act.put, List.setIfInBounds_toArray, List.set_cons_succ, List.set_cons_zero, Nat.reduceAdd]
      refine Manyd.lex_want (by rfl) (Manyd.tr_step (v := undef) (fun s W hs hd hC => ?_)) ?_
      · unfold RS.Cw at hC
        rw [hs] at hC
        have hWV : W = (wr.alloc (.cells #[.int .i64 x, .int .i64 y] 39)).drew := by simpa using hC
        rw [hWV]
        clear hC hWV hd
        go_simp
        refine ⟨rfl, ?_⟩
        unfold RS.Cw Manyd.upd
        simp
      simp only [Act.put, List.setIfInBounds_toArray, List.set_cons_succ, List.set_cons_zero, Nat.reduceAdd]
      refine Manyd.lex_nil fun s W' hs hC => ?_
      unfold RS.Cw at hC
      rw [hs 17 (by decide)] at hC
      obtain rfl : W' = ((wr.alloc (.cells #[.int .i64 x, .int .i64 y] 39)).drew.setCell ⟨B, 2 + x' * 101 + y', none⟩ (.int .i64 ((z : Int) + 1))) := by simpa using hC
      clear hC hs
      go_wp2
      refine ⟨⟨m + 1, by omega, by go_num, ⟨?_⟩, (hbw2.out.drew).setCell (p := ⟨B, 2 + x' * 101 + y', none⟩) (Nat.le_refl _) _⟩, by simp [intOf]; omega⟩
      have hx : cnt2 (ps.take (m + 1)) x' y' = z + 1 := by rw [hnext.out, hz.out, if_pos ⟨hx'.out, hy'.out⟩]
      have := hcSk.out.drew.set hx1 hy1 (d := cnt2 (ps.take (m + 1))) hx (fun i j _ _ hij => by rw [hnext.out, if_neg (fun e => hij ⟨by rw [e.1, hx'.out], by rw [e.2, hy'.out]⟩)]; rfl)
      rw [show ((z + 1 : Nat) : Int) = (z : Int) + 1 by push_cast; rfl] at this
      exact this
    · have : m = n := by omega
      subst this
      rw [show ps.take m = ps by rw [← hn.out]; exact List.take_length] at hrow
      have hrow0 : Keep (CellsS wr B N m (mid2 ps N 0 0)) := ⟨⟨hrow.out.scale, hrow.out.size, fun i j hi hj => by rw [mid2_start hpos.out]; exact hrow.out.at_ i j hi hj⟩⟩
      clear hrow
      go_wp2
      go_loopw [45] (fun i wr => ∃ s : Nat, s ≤ N ∧ i = .int .i64 s ∧ Keep (CellsS wr B N m (mid2 ps N s 0)) ∧ Below B w5 wr) (fun i _ => N - (intOf i).toNat)
      case atStart => exact ⟨0, by omega, rfl, hrow0, hbw⟩
      case round =>
        obtain ⟨s, hs, rfl, hrow, hbw⟩ := hrel
        by_cases hlt : s < N
        · go_wp2
          go_loopw [49] (fun i wr => ∃ t : Nat, t ≤ N ∧ i = .int .i64 t ∧ Keep (CellsS wr B N m (mid2 ps N s t)) ∧ Below B w5 wr) (fun i _ => N - (intOf i).toNat)
          case atStart => exact ⟨0, by omega, rfl, hrow, hbw⟩
          case round =>
            obtain ⟨t, ht, rfl, hrow, hbw⟩ := hrel
            by_cases hlt2 : t < N
            · obtain ⟨c1, f1⟩ := hrow.out.at_ (s + 1) (t + 1) (by omega) (by omega)
              obtain ⟨c2, _⟩ := hrow.out.at_ s (t + 1) (by omega) (by omega)
              obtain ⟨c3, _⟩ := hrow.out.at_ (s + 1) t (by omega) (by omega)
              obtain ⟨c4, _⟩ := hrow.out.at_ s t (by omega) (by omega)
              have hst := mid2_step (ps := ps) (s := s) hlt2
              have l0 := mid2_le ps N s (t + 1) (s + 1) (t + 1)
              have l1 := mid2_le ps N s t (s + 1) (t + 1)
              have l2 := mid2_le ps N s t s (t + 1)
              have l3 := mid2_le ps N s t (s + 1) t
              have l4 := mid2_le ps N s t s t
              rw [hn.out] at l0 l1 l2 l3 l4
              obtain ⟨y0, hy0⟩ : ∃ y, Keep (mid2 ps N s (t + 1) (s + 1) (t + 1) = y) := ⟨_, ⟨rfl⟩⟩
              obtain ⟨y1, hy1⟩ : ∃ y, mid2 ps N s t (s + 1) (t + 1) = y := ⟨_, rfl⟩
              obtain ⟨y2, hy2⟩ : ∃ y, mid2 ps N s t s (t + 1) = y := ⟨_, rfl⟩
              obtain ⟨y3, hy3⟩ : ∃ y, mid2 ps N s t (s + 1) t = y := ⟨_, rfl⟩
              obtain ⟨y4, hy4⟩ : ∃ y, mid2 ps N s t s t = y := ⟨_, rfl⟩
              rw [hy0.out, hy1, hy2, hy3, hy4] at hst
              rw [hy0.out] at l0
              rw [hy1] at c1 l1
              rw [hy2] at c2 l2
              rw [hy3] at c3 l3
              rw [hy4] at c4 l4
              clear hy1 hy2 hy3 hy4
              obtain ⟨s', hs'⟩ : ∃ t' : Nat, Keep (t' = s + 1) := ⟨_, ⟨rfl⟩⟩
              obtain ⟨t', ht'⟩ : ∃ t' : Nat, Keep (t' = t + 1) := ⟨_, ⟨rfl⟩⟩
              rw [← hs'.out] at c1 f1 c3
              rw [← ht'.out] at c1 f1 c2
              have hw1 : IntKind.i64.wrap ((s : Int) + 1) = (s' : Int) := by rw [hs'.out, IntWalk.i64_in _ (by omega)]; push_cast; rfl
              have hw2 : IntKind.i64.wrap ((t : Int) + 1) = (t' : Int) := by rw [ht'.out, IntWalk.i64_in _ (by omega)]; push_cast; rfl
              have hs1 : s' ≤ 100 := by have := hs'.out; omega
              have ht1 : t' ≤ 100 := by have := ht'.out; omega
              have b1 : s' < 101 := by omega
              have b2 : t' < 101 := by omega
              have b3 : s < 101 := by omega
              have b4 : t < 101 := by omega
              have e1 : IntKind.i64.wrap ((y2 : Int) + (y3 : Int)) = (y2 : Int) + (y3 : Int) := IntWalk.i64_in _ (by omega)
              have e2 : IntKind.i64.wrap ((y2 : Int) + (y3 : Int) - (y4 : Int)) = (y2 : Int) + (y3 : Int) - (y4 : Int) := IntWalk.i64_in _ (by omega)
              have e3 : IntKind.i64.wrap ((y1 : Int) + ((y2 : Int) + (y3 : Int) - (y4 : Int))) = (y0 : Int) := by rw [show (y1 : Int) + ((y2 : Int) + (y3 : Int) - (y4 : Int)) = (y0 : Int) by omega]; exact IntWalk.i64_in _ (by omega)
              clear hst l0 l1 l2 l3 l4
              go_wp2
              have hmo : Try.prog.follows .mixedOrders = true := by kernel_rfl
              refine (wpIn_wide (n := 0)).1 ?_
              refine Manyd.region_many (RS.Cw wr.drew (wr.drew.setCell ⟨B, 2 + s' * 101 + t', none⟩ (.int .i64 (y0 : Nat))) 43) hmo (by kernel_rfl) (fun s s' W' h hc => by rw [← show s = s' from funext h]; exact hc) (fun s hs => by unfold RS.Cw; rw [hs 43 (by decide)]; rfl) ?_
              refine Manyd.lex_want (by rfl) (RS.rd (by kernel_rfl) (by decide) (by (go_simp; try rfl))) ?_
              simp only [Act.put, List.setIfInBounds_toArray, List.set_cons_succ, List.set_cons_zero, Nat.reduceAdd]
              refine Manyd.lex_want (by rfl) (RS.rd (by kernel_rfl) (by decide) (by (go_simp; try rfl))) ?_
              simp only [Act.put, List.setIfInBounds_toArray, List.set_cons_succ, List.set_cons_zero, Nat.reduceAdd]
              refine Manyd.lex_want (by rfl) (RS.rd (v := .int .i64 (s' : Nat)) (by kernel_rfl) (by decide) (by (go_simp; try exact hw1))) ?_
              simp only [Act.put, List.setIfInBounds_toArray, List.set_cons_succ, List.set_cons_zero, Nat.reduceAdd]
              refine Manyd.lex_want (by rfl) (RS.rd (by kernel_rfl) (by decide) (by (go_simp; try rfl))) ?_
              simp only [Act.put, List.setIfInBounds_toArray, List.set_cons_succ, List.set_cons_zero, Nat.reduceAdd]
              refine Manyd.lex_want (by rfl) (RS.rd (v := .int .i64 (t' : Nat)) (by kernel_rfl) (by decide) (by (go_simp; try exact hw2))) ?_
              simp only [Act.put, List.setIfInBounds_toArray, List.set_cons_succ, List.set_cons_zero, Nat.reduceAdd]
              refine Manyd.lex_want (by rfl) (RS.rd (by kernel_rfl) (by decide) (by (go_simp; try rfl))) ?_
              simp only [Act.put, List.setIfInBounds_toArray, List.set_cons_succ, List.set_cons_zero, Nat.reduceAdd]
              refine Manyd.lex_want (by rfl) (RS.rd (by kernel_rfl) (by decide) (by (go_simp; try rfl))) ?_
              simp only [Act.put, List.setIfInBounds_toArray, List.set_cons_succ, List.set_cons_zero, Nat.reduceAdd]
              refine Manyd.lex_want (by rfl) (RS.rd (v := .pointer (some ⟨B, 2 + s' * 101, none⟩)) (by kernel_rfl) (by decide) (by (go_simp; (try (first | done | omega | (intros; omega)))))) ?_
              simp only [Act.put, List.setIfInBounds_toArray, List.set_cons_succ, List.set_cons_zero, Nat.reduceAdd]
              refine Manyd.lex_want (by rfl) (RS.rd (v := .pointer (some ⟨B, 2 + s' * 101 + t', none⟩)) (by kernel_rfl) (by decide) (by (go_simp; (try (first | done | omega | (intros; omega)))))) ?_
              simp only [Act.put, List.setIfInBounds_toArray, List.set_cons_succ, List.set_cons_zero, Nat.reduceAdd]
              refine Manyd.lex_want (by rfl) (RS.rd (v := .int .i64 (y1 : Nat)) (by kernel_rfl) (by decide) (by (go_simp; try rfl))) ?_
              simp only [Act.put, List.setIfInBounds_toArray, List.set_cons_succ, List.set_cons_zero, Nat.reduceAdd]
              refine Manyd.lex_want (by rfl) (RS.rd (by kernel_rfl) (by decide) (by (go_simp; try rfl))) ?_
              simp only [Act.put, List.setIfInBounds_toArray, List.set_cons_succ, List.set_cons_zero, Nat.reduceAdd]
              refine Manyd.lex_want (by rfl) (RS.rd (by kernel_rfl) (by decide) (by (go_simp; try rfl))) ?_
              simp only [Act.put, List.setIfInBounds_toArray, List.set_cons_succ, List.set_cons_zero, Nat.reduceAdd]
              refine Manyd.lex_want (by rfl) (RS.rd (by kernel_rfl) (by decide) (by (go_simp; try rfl))) ?_
              simp only [Act.put, List.setIfInBounds_toArray, List.set_cons_succ, List.set_cons_zero, Nat.reduceAdd]
              refine Manyd.lex_want (by rfl) (RS.rd (v := .int .i64 (t' : Nat)) (by kernel_rfl) (by decide) (by (go_simp; try exact hw2))) ?_
              simp only [Act.put, List.setIfInBounds_toArray, List.set_cons_succ, List.set_cons_zero, Nat.reduceAdd]
              refine Manyd.lex_want (by rfl) (RS.rd (by kernel_rfl) (by decide) (by (go_simp; try rfl))) ?_
              simp only [Act.put, List.setIfInBounds_toArray, List.set_cons_succ, List.set_cons_zero, Nat.reduceAdd]
              refine Manyd.lex_want (by rfl) (RS.rd (by kernel_rfl) (by decide) (by (go_simp; try rfl))) ?_
              simp only [Act.put, List.setIfInBounds_toArray, List.set_cons_succ, List.set_cons_zero, Nat.reduceAdd]
              refine Manyd.lex_want (by rfl) (RS.rd (v := .pointer (some ⟨B, 2 + s * 101, none⟩)) (by kernel_rfl) (by decide) (by (go_simp; (try (first | done | omega | (intros; omega)))))) ?_
              simp only [Act.put, List.setIfInBounds_toArray, List.set_cons_succ, List.set_cons_zero, Nat.reduceAdd]
              refine Manyd.lex_want (by rfl) (RS.rd (v := .pointer (some ⟨B, 2 + s * 101 + t', none⟩)) (by kernel_rfl) (by decide) (by (go_simp; (try (first | done | omega | (intros; omega)))))) ?_
              simp only [Act.put, List.setIfInBounds_toArray, List.set_cons_succ, List.set_cons_zero, Nat.reduceAdd]
              refine Manyd.lex_want (by rfl) (RS.rd (v := .int .i64 (y2 : Nat)) (by kernel_rfl) (by decide) (by (go_simp; try rfl))) ?_
              simp only [Act.put, List.setIfInBounds_toArray, List.set_cons_succ, List.set_cons_zero, Nat.reduceAdd]
              refine Manyd.lex_want (by rfl) (RS.rd (by kernel_rfl) (by decide) (by (go_simp; try rfl))) ?_
              simp only [Act.put, List.setIfInBounds_toArray, List.set_cons_succ, List.set_cons_zero, Nat.reduceAdd]
              refine Manyd.lex_want (by rfl) (RS.rd (by kernel_rfl) (by decide) (by (go_simp; try rfl))) ?_
              simp only [Act.put, List.setIfInBounds_toArray, List.set_cons_succ, List.set_cons_zero, Nat.reduceAdd]
              refine Manyd.lex_want (by rfl) (RS.rd (v := .int .i64 (s' : Nat)) (by kernel_rfl) (by decide) (by (go_simp; try exact hw1))) ?_
              simp only [Act.put, List.setIfInBounds_toArray, List.set_cons_succ, List.set_cons_zero, Nat.reduceAdd]
              refine Manyd.lex_want (by rfl) (RS.rd (by kernel_rfl) (by decide) (by (go_simp; try rfl))) ?_
              simp only [Act.put, List.setIfInBounds_toArray, List.set_cons_succ, List.set_cons_zero, Nat.reduceAdd]
              refine Manyd.lex_want (by rfl) (RS.rd (by kernel_rfl) (by decide) (by (go_simp; try rfl))) ?_
              simp only [Act.put, List.setIfInBounds_toArray, List.set_cons_succ, List.set_cons_zero, Nat.reduceAdd]
              refine Manyd.lex_want (by rfl) (RS.rd (by kernel_rfl) (by decide) (by (go_simp; try rfl))) ?_
              simp only [Act.put, List.setIfInBounds_toArray, List.set_cons_succ, List.set_cons_zero, Nat.reduceAdd]
              refine Manyd.lex_want (by rfl) (RS.rd (v := .pointer (some ⟨B, 2 + s' * 101, none⟩)) (by kernel_rfl) (by decide) (by (go_simp; (try (first | done | omega | (intros; omega)))))) ?_
              simp only [Act.put, List.setIfInBounds_toArray, List.set_cons_succ, List.set_cons_zero, Nat.reduceAdd]
              refine Manyd.lex_want (by rfl) (RS.rd (v := .pointer (some ⟨B, 2 + s' * 101 + t, none⟩)) (by kernel_rfl) (by decide) (by (go_simp; (try (first | done | omega | (intros; omega)))))) ?_
              simp only [Act.put, List.setIfInBounds_toArray, List.set_cons_succ, List.set_cons_zero, Nat.reduceAdd]
              refine Manyd.lex_want (by rfl) (RS.rd (v := .int .i64 (y3 : Nat)) (by kernel_rfl) (by decide) (by (go_simp; try rfl))) ?_
              simp only [Act.put, List.setIfInBounds_toArray, List.set_cons_succ, List.set_cons_zero, Nat.reduceAdd]
              refine Manyd.lex_want (by rfl) (RS.rd (v := .int .i64 ((y2 : Int) + (y3 : Int))) (by kernel_rfl) (by decide) (by (go_simp; try exact e1))) ?_
              simp only [Act.put, List.setIfInBounds_toArray, List.set_cons_succ, List.set_cons_zero, Nat.reduceAdd]
              refine Manyd.lex_want (by rfl) (RS.rd (by kernel_rfl) (by decide) (by (go_simp; try rfl))) ?_
              simp only [Act.put, List.setIfInBounds_toArray, List.set_cons_succ, List.set_cons_zero, Nat.reduceAdd]
              refine Manyd.lex_want (by rfl) (RS.rd (by kernel_rfl) (by decide) (by (go_simp; try rfl))) ?_
              simp only [Act.put, List.setIfInBounds_toArray, List.set_cons_succ, List.set_cons_zero, Nat.reduceAdd]
              refine Manyd.lex_want (by rfl) (RS.rd (by kernel_rfl) (by decide) (by (go_simp; try rfl))) ?_
              simp only [Act.put, List.setIfInBounds_toArray, List.set_cons_succ, List.set_cons_zero, Nat.reduceAdd]
              refine Manyd.lex_want (by rfl) (RS.rd (by kernel_rfl) (by decide) (by (go_simp; try rfl))) ?_
              simp only [Act.put, List.setIfInBounds_toArray, List.set_cons_succ, List.set_cons_zero, Nat.reduceAdd]
              refine Manyd.lex_want (by rfl) (RS.rd (by kernel_rfl) (by decide) (by (go_simp; try rfl))) ?_
              simp only [Act.put, List.setIfInBounds_toArray, List.set_cons_succ, List.set_cons_zero, Nat.reduceAdd]
              refine Manyd.lex_want (by rfl) (RS.rd (v := .pointer (some ⟨B, 2 + s * 101, none⟩)) (by kernel_rfl) (by decide) (by (go_simp; (try (first | done | omega | (intros; omega)))))) ?_
              simp only [Act.put, List.setIfInBounds_toArray, List.set_cons_succ, List.set_cons_zero, Nat.reduceAdd]
              refine Manyd.lex_want (by rfl) (RS.rd (v := .pointer (some ⟨B, 2 + s * 101 + t, none⟩)) (by kernel_rfl) (by decide) (by (go_simp; (try (first | done | omega | (intros; omega)))))) ?_
              simp only [Act.put, List.setIfInBounds_toArray, List.set_cons_succ, List.set_cons_zero, Nat.reduceAdd]
              refine Manyd.lex_want (by rfl) (RS.rd (v := .int .i64 (y4 : Nat)) (by kernel_rfl) (by decide) (by (go_simp; try rfl))) ?_
              simp only [Act.put, List.setIfInBounds_toArray, List.set_cons_succ, List.set_cons_zero, Nat.reduceAdd]
              refine Manyd.lex_want (by rfl) (RS.rd (v := .int .i64 ((y2 : Int) + (y3 : Int) - (y4 : Int))) (by kernel_rfl) (by decide) (by (go_simp; try exact e2))) ?_
              simp only [Act.put, List.setIfInBounds_toArray, List.set_cons_succ, List.set_cons_zero, Nat.reduceAdd]
              refine Manyd.lex_want (by rfl) (RS.rd (v := .int .i64 (y0 : Nat)) (by kernel_rfl) (by decide) (by (go_simp; try exact e3))) ?_
              simp only [Act.put, List.setIfInBounds_toArray, List.set_cons_succ, List.set_cons_zero, Nat.reduceAdd]
              refine Manyd.lex_want (by rfl) (RS.pu (by decide) (fun w => by (go_simp; try rfl))) ?_
              simp only [Act.put, List.setIfInBounds_toArray, List.set_cons_succ, List.set_cons_zero, Nat.reduceAdd]
              refine Manyd.lex_want (by rfl) (RS.pu (by decide) (fun w => by (go_simp; try rfl))) ?_
              simp only [Act.put, List.setIfInBounds_toArray, List.set_cons_succ, List.set_cons_zero, Nat.reduceAdd]
              refine Manyd.lex_want (by rfl) (RS.pu (v := .pointer (some ⟨B, 2 + s' * 101, none⟩)) (by decide) (fun w => by (go_simp; (try (first | done | omega | (intros; omega)))))) ?_
              simp only [Act.put, List.setIfInBounds_toArray, List.set_cons_succ, List.set_cons_zero, Nat.reduceAdd]
              refine Manyd.lex_want (by rfl) (RS.rd (v := .pointer (some ⟨B, 2 + s' * 101 + t', none⟩)) (by kernel_rfl) (by decide) (by (go_simp; (try (first | done | omega | (intros; omega)))))) ?_
              simp only [Act.put, List.setIfInBounds_toArray, List.set_cons_succ, List.set_cons_zero, Nat.reduceAdd]
              refine Manyd.lex_want (by rfl) (Manyd.tr_step (v := undef) (fun s W hs hd hC => ?_)) ?_
              · unfold RS.Cw at hC
                rw [hs] at hC
                have hWV : W = wr.drew := by simpa using hC
                rw [hWV]
                clear hC hWV hd
                go_simp
                refine ⟨rfl, ?_⟩
                unfold RS.Cw Manyd.upd
                simp
              simp only [Act.put, List.setIfInBounds_toArray, List.set_cons_succ, List.set_cons_zero, Nat.reduceAdd]
              refine Manyd.lex_nil fun s W' hs hC => ?_
              unfold RS.Cw at hC
              rw [hs 43 (by decide)] at hC
              obtain rfl : W' = (wr.drew.setCell ⟨B, 2 + s' * 101 + t', none⟩ (.int .i64 (y0 : Nat))) := by simpa using hC
              clear hC hs
              go_wp2
              refine ⟨⟨t + 1, by omega, by first | go_num | rw [ht'.out], ⟨?_⟩, (hbw.drew).setCell (p := ⟨B, 2 + s' * 101 + t', none⟩) (Nat.le_refl _) _⟩, by simp [intOf]; have := ht'.out; omega⟩
              exact hrow.out.drew.set hs1 ht1 (by rw [hs'.out, ht'.out]; exact hy0.out) (fun i j _ _ hij => mid2_other (fun e => hij ⟨by rw [e.1, hs'.out], by rw [e.2, ht'.out]⟩))
            · have : t = N := by omega
              subst this
              go_wp2
              refine ⟨⟨s + 1, by omega, by go_num, ⟨⟨hrow.out.scale, hrow.out.size, fun i j hi hj => by rw [← mid2_row hpos.out]; exact hrow.out.at_ i j hi hj⟩⟩, hbw⟩, by simp [intOf]; omega⟩
        · have : s = N := by omega
          subst this
          go_wp2
          go_ret2
          refine ⟨B, rfl, by rw [← hBk.out]; exact hb5k.out.size, hb5k.out.trans (hbw.mono (by rw [← hBk.out]; exact hb5k.out.size)), hrow.out.sheet (by omega) (by omega) (fun i j => Nat.le_trans (mid2_le _ _ _ _ _ _) (by rw [hn.out]; omega))⟩
end Go.Proofs.Ytifbiamfandjnaa
set_option linter.unusedSimpArgs false
set_option linter.unusedVariables false
namespace Go.Proofs.Ytifbiamfandjnaa
open Go Go.Proofs Go.RowKit Go.Seq
attribute [local go_sem] Oper.semAt_some
/-- A witness: a place, whether it is the count below, the excess. -/
abbrev Wit2 := (Nat × Nat) × Bool × Int
def encW2 (x : Wit2) : Array Value := #[.agg #[.int .i64 (x.1.1 : Nat), .int .i64 (x.1.2 : Nat), .bool x.2.1], .int .i64 x.2.2]
def openW (N n : Nat) (g : Nat → Nat → Nat) (s t : Nat) : Wit2 := ((s, t), true, exc2 N n (g s t) s t)
def closedW (N n : Nat) (g : Nat → Nat → Nat) (s t : Nat) : Wit2 := ((s, t), false, exc2 N n (g (s + 1) (t + 1)) s t)
def witsAt2 (N n : Nat) (g : Nat → Nat → Nat) (s t : Nat) : List Wit2 := (if 0 < s ∧ 0 < t then [openW N n g s t] else []) ++ (if s < N ∧ t < N then [closedW N n g s t] else [])
structure At2R (W : World) (Bs Bt Bp b N n : Nat) (g : Nat → Nat → Nat) (s t : Nat) : Prop where
  sheet : SheetAt W b N n g
  sb : W.cell? ⟨Bs, 0, none⟩ = some (.int .i64 s)
  tb : W.cell? ⟨Bt, 0, none⟩ = some (.int .i64 t)
  pb : W.cell? ⟨Bp, 0, none⟩ = some (.pointer (some ⟨b, 0, none⟩))
namespace At2
theorem lex_skip {P : Program} {ops : Array Oper} {C : (Nat → Bool) → World → Prop} {k : Nat} {Q : Act → Prop} {o : Oper} {rest : List Oper} {a : Act} (hw : Region.wanted o (yielded ops a.tmps) = false) (hk : ∀ s w, C s w → C (Many.upd s k) w) (h : Many.lexT P ops C Q (k + 1) rest (a.put o.dst undef)) : Many.lexT P ops C Q k (o :: rest) a := ⟨undef, .inr ⟨hw, hk, rfl⟩, h⟩
end At2
set_option maxHeartbeats 2000000 in
set_option maxRecDepth 100000 in
theorem at2_o_c {b N n s t Bs Bt Bp : Nat} {g : Nat → Nat → Nat} (hs : s ≤ N) (ht : t ≤ N) (h0 : 0 < s) (h1 : 0 < t) (h2 : s < N) (h3 : t < N) (W1 : World) :
    Gives Try.prog 102 #[.pointer (some ⟨Bs, 0, none⟩), .pointer (some ⟨Bt, 0, none⟩), .pointer (some ⟨Bp, 0, none⟩)] encW2 (witsAt2 N n g s t) (fun W => At2R W Bs Bt Bp b N n g s t) W1 := by
  intro l J hJ hR hY h0'
  have hmx : Try.prog.follows .mixedOrders = true := by kernel_rfl
  obtain ⟨hL0, _, _, _⟩ := hR _ _ h0'
  have hN := hL0.hN
  have hg1 := hL0.hg s t (by omega) (by omega)
  have hg2 := hL0.hg (s + 1) (t + 1) (by omega) (by omega)
  have hW : witsAt2 N n g s t = [openW N n g s t] ++ [closedW N n g s t] := by unfold witsAt2; rw [if_pos ⟨h0, h1⟩]; rw [if_pos ⟨h2, h3⟩]
  rw [hW] at hY ⊢
  clear hW
  obtain ⟨x0, hx0⟩ : ∃ x0 : Wit2, x0 = openW N n g s t := ⟨_, rfl⟩
  rw [← hx0] at hY ⊢
  obtain ⟨x1, hx1⟩ : ∃ x0 : Wit2, x0 = closedW N n g s t := ⟨_, rfl⟩
  rw [← hx1] at hY ⊢
  simp only [List.cons_append, List.nil_append] at hY ⊢
  refine callsIn_of_wp Try.func102 rfl trivial ?_ rfl
  simp only [Try.ntmps102, List.size_toArray, List.length_cons, List.length_nil, Nat.reduceAdd, Nat.reduceSub, Array.replicate_succ, Array.replicate_zero, List.push_toArray, List.append_toArray, List.nil_append, List.cons_append]
  gi_wp2
  refine region_pivot 23 (fun b' w => J (if b' then [x0] else []) w ∧ W1.heap.size ≤ w.heap.size) hmx (by kernel_rfl) (by simp) ?_ ?_
  · exact ⟨hJ _ _ _ (by simpa using h0') ((Below.refl _ _).drew), Nat.le_refl _⟩
  have hCR : ∀ b' w, (J (if b' = true then [x0] else []) w ∧ W1.heap.size ≤ w.heap.size) → At2R w Bs Bt Bp b N n g s t := fun b' w h => hR _ _ h.1
  have step : ∀ {k : Nat} {o : Oper} {a : Act} {v : Value}, (k == 23) = false → (∀ w, At2R w Bs Bt Bp b N n g s t → (execOp a.eval o).run Try.prog w = .ok (.value v) w) → Tr Try.prog (fun b' w => J (if b' then [x0] else []) w ∧ W1.heap.size ≤ w.heap.size) 23 k o a v :=
    fun hk h => tr_read (fun W => At2R W Bs Bt Bp b N n g s t) hk hCR h
  refine lex_want (by rfl) (step (v := .int .i64 s) (by rfl) (fun w ⟨⟨hss, hsz, hat, _, _, _⟩, hsb, htb, hpb⟩ => by (go_simp; try rfl))) ?_
  simp only [Act.put, List.setIfInBounds_toArray, List.set_cons_succ, List.set_cons_zero, Nat.reduceAdd]
  refine lex_want (by rfl) (step (v := .bool true) (by rfl) (fun w ⟨⟨hss, hsz, hat, _, _, _⟩, hsb, htb, hpb⟩ => by (go_simp; try (first | rfl | omega | (simp; omega))))) ?_
  simp only [Act.put, List.setIfInBounds_toArray, List.set_cons_succ, List.set_cons_zero, Nat.reduceAdd]
  refine lex_want (by rfl) (step (v := .bool true) (by rfl) (fun w ⟨⟨hss, hsz, hat, _, _, _⟩, hsb, htb, hpb⟩ => by (go_simp; try rfl))) ?_
  simp only [Act.put, List.setIfInBounds_toArray, List.set_cons_succ, List.set_cons_zero, Nat.reduceAdd]
  refine lex_want (by rfl) (step (v := .int .i64 t) (by rfl) (fun w ⟨⟨hss, hsz, hat, _, _, _⟩, hsb, htb, hpb⟩ => by (go_simp; try rfl))) ?_
  simp only [Act.put, List.setIfInBounds_toArray, List.set_cons_succ, List.set_cons_zero, Nat.reduceAdd]
  refine lex_want (by rfl) (step (v := .bool true) (by rfl) (fun w ⟨⟨hss, hsz, hat, _, _, _⟩, hsb, htb, hpb⟩ => by (go_simp; try (first | rfl | omega | (simp; omega))))) ?_
  simp only [Act.put, List.setIfInBounds_toArray, List.set_cons_succ, List.set_cons_zero, Nat.reduceAdd]
  refine lex_want (by rfl) (step (v := .bool true) (by rfl) (fun w ⟨⟨hss, hsz, hat, _, _, _⟩, hsb, htb, hpb⟩ => by (go_simp; try rfl))) ?_
  simp only [Act.put, List.setIfInBounds_toArray, List.set_cons_succ, List.set_cons_zero, Nat.reduceAdd]
  refine lex_want (by rfl) (step (v := .bool true) (by rfl) (fun w ⟨⟨hss, hsz, hat, _, _, _⟩, hsb, htb, hpb⟩ => by (go_simp; try rfl))) ?_
  simp only [Act.put, List.setIfInBounds_toArray, List.set_cons_succ, List.set_cons_zero, Nat.reduceAdd]
  refine lex_want (by rfl) (step (by rfl) (fun w ⟨⟨hss, hsz, hat, _, _, _⟩, hsb, htb, hpb⟩ => by (go_simp; try rfl))) ?_
  simp only [Act.put, List.setIfInBounds_toArray, List.set_cons_succ, List.set_cons_zero, Nat.reduceAdd]
  refine lex_want (by rfl) (step (v := .int .i64 s) (by rfl) (fun w ⟨⟨hss, hsz, hat, _, _, _⟩, hsb, htb, hpb⟩ => by (go_simp; try rfl))) ?_
  simp only [Act.put, List.setIfInBounds_toArray, List.set_cons_succ, List.set_cons_zero, Nat.reduceAdd]
  refine lex_want (by rfl) (step (v := .int .i64 t) (by rfl) (fun w ⟨⟨hss, hsz, hat, _, _, _⟩, hsb, htb, hpb⟩ => by (go_simp; try rfl))) ?_
  simp only [Act.put, List.setIfInBounds_toArray, List.set_cons_succ, List.set_cons_zero, Nat.reduceAdd]
  refine lex_want (by rfl) (step (v := .agg #[.int .i64 s, .int .i64 t, .bool true]) (by rfl) (fun w ⟨⟨hss, hsz, hat, _, _, _⟩, hsb, htb, hpb⟩ => by (go_simp; try rfl))) ?_
  simp only [Act.put, List.setIfInBounds_toArray, List.set_cons_succ, List.set_cons_zero, Nat.reduceAdd]
  refine lex_want (by rfl) (step (by rfl) (fun w ⟨⟨hss, hsz, hat, _, _, _⟩, hsb, htb, hpb⟩ => by (go_simp; try rfl))) ?_
  simp only [Act.put, List.setIfInBounds_toArray, List.set_cons_succ, List.set_cons_zero, Nat.reduceAdd]
  refine lex_want (by rfl) (step (by rfl) (fun w ⟨⟨hss, hsz, hat, _, _, _⟩, hsb, htb, hpb⟩ => by (go_simp; try rfl))) ?_
  simp only [Act.put, List.setIfInBounds_toArray, List.set_cons_succ, List.set_cons_zero, Nat.reduceAdd]
  refine lex_want (by rfl) (step (v := .int .i64 s) (by rfl) (fun w ⟨⟨hss, hsz, hat, _, _, _⟩, hsb, htb, hpb⟩ => by (go_simp; try rfl))) ?_
  simp only [Act.put, List.setIfInBounds_toArray, List.set_cons_succ, List.set_cons_zero, Nat.reduceAdd]
  refine lex_want (by rfl) (step (v := .int .i64 t) (by rfl) (fun w ⟨⟨hss, hsz, hat, _, _, _⟩, hsb, htb, hpb⟩ => by (go_simp; try rfl))) ?_
  simp only [Act.put, List.setIfInBounds_toArray, List.set_cons_succ, List.set_cons_zero, Nat.reduceAdd]
  refine lex_want (by rfl) (step (by rfl) (fun w ⟨⟨hss, hsz, hat, _, _, _⟩, hsb, htb, hpb⟩ => by (go_simp; try rfl))) ?_
  simp only [Act.put, List.setIfInBounds_toArray, List.set_cons_succ, List.set_cons_zero, Nat.reduceAdd]
  refine lex_want (by rfl) (step (by rfl) (fun w ⟨⟨hss, hsz, hat, _, _, _⟩, hsb, htb, hpb⟩ => by (go_simp; try rfl))) ?_
  simp only [Act.put, List.setIfInBounds_toArray, List.set_cons_succ, List.set_cons_zero, Nat.reduceAdd]
  refine lex_want (by rfl) (step (v := .pointer (some ⟨b, 2 + s * 101, none⟩)) (by rfl) (fun w ⟨⟨hss, hsz, hat, _, _, _⟩, hsb, htb, hpb⟩ => by (go_simp; try omega))) ?_
  simp only [Act.put, List.setIfInBounds_toArray, List.set_cons_succ, List.set_cons_zero, Nat.reduceAdd]
  refine lex_want (by rfl) (step (v := .pointer (some ⟨b, 2 + s * 101 + t, none⟩)) (by rfl) (fun w ⟨⟨hss, hsz, hat, _, _, _⟩, hsb, htb, hpb⟩ => by (go_simp; try omega))) ?_
  simp only [Act.put, List.setIfInBounds_toArray, List.set_cons_succ, List.set_cons_zero, Nat.reduceAdd]
  refine lex_want (by rfl) (step (v := .int .i64 (g s t)) (by rfl) (fun w ⟨⟨hss, hsz, hat, _, _, _⟩, hsb, htb, hpb⟩ => by (have hc1 := hat s t (by omega) (by omega); go_simp; try rfl))) ?_
  simp only [Act.put, List.setIfInBounds_toArray, List.set_cons_succ, List.set_cons_zero, Nat.reduceAdd]
  refine lex_want (by rfl) (step (v := .int .i64 s) (by rfl) (fun w ⟨⟨hss, hsz, hat, _, _, _⟩, hsb, htb, hpb⟩ => by (go_simp; try rfl))) ?_
  simp only [Act.put, List.setIfInBounds_toArray, List.set_cons_succ, List.set_cons_zero, Nat.reduceAdd]
  refine lex_want (by rfl) (step (v := .int .i64 t) (by rfl) (fun w ⟨⟨hss, hsz, hat, _, _, _⟩, hsb, htb, hpb⟩ => by (go_simp; try rfl))) ?_
  simp only [Act.put, List.setIfInBounds_toArray, List.set_cons_succ, List.set_cons_zero, Nat.reduceAdd]
  refine lex_want (by rfl) (tr_call (v := .int .i64 (exc2 N n (g s t) s t)) (f := 103) (args := #[.pointer (some ⟨b, 0, none⟩), .int .i64 (g s t), .int .i64 s, .int .i64 t]) (fun W => At2R W Bs Bt Bp b N n g s t) (by rfl) hCR
    (fun b' w m h => ⟨hJ _ _ _ h.1 (below_drewN (Below.refl _ _) m), h.2⟩) (fun w ⟨hl, _, _, _⟩ => excess2_any hl hg1 (by omega) (by omega)) (fun w => (by go_simp))) ?_
  simp only [Act.put, List.setIfInBounds_toArray, List.set_cons_succ, List.set_cons_zero, Nat.reduceAdd]
  refine lex_want (by rfl) (tr_yield (v := .bool true) (l := l) (args := encW2 (openW N n g s t)) (by rfl) (fun w hC => ?_) (fun w => (by unfold encW2 openW; go_simp))) ?_
  · refine (hY [] (openW N n g s t) w hC.1 hC.2 (by rw [← hx0]; exact ⟨[x1], rfl⟩)).mono fun e w' h => ⟨h.1, by rw [hx0]; exact h.2.1, Nat.le_trans hC.2 h.2.2.1.1⟩
  simp only [Act.put, List.setIfInBounds_toArray, List.set_cons_succ, List.set_cons_zero, Nat.reduceAdd]
  refine lex_want (by rfl) (step (v := .bool false) (by rfl) (fun w ⟨⟨hss, hsz, hat, _, _, _⟩, hsb, htb, hpb⟩ => by (go_simp; try rfl))) ?_
  simp only [Act.put, List.setIfInBounds_toArray, List.set_cons_succ, List.set_cons_zero, Nat.reduceAdd]
  refine lex_want (by rfl) (step (v := .bool false) (by rfl) (fun w ⟨⟨hss, hsz, hat, _, _, _⟩, hsb, htb, hpb⟩ => by (go_simp; try rfl))) ?_
  simp only [Act.put, List.setIfInBounds_toArray, List.set_cons_succ, List.set_cons_zero, Nat.reduceAdd]
  refine lex_nil fun w0 ⟨hJ', hs'⟩ => ?_
  clear step hCR
  gi_wp2
  have hmany := hmx
  refine Many.region_many (fun _ w => J [x0] w ∧ W1.heap.size ≤ w.heap.size) hmx (by kernel_rfl) (fun _ _ _ _ h => h) (fun s hs => ?_) ?_
  · exact ⟨hJ _ _ _ (by simpa using hJ') ((Below.refl _ _).drew), hs'⟩
  have step : ∀ {k : Nat} {o : Oper} {a : Act} {v : Value}, True → (∀ w, At2R w Bs Bt Bp b N n g s t → (execOp a.eval o).run Try.prog w = .ok (.value v) w) → Many.Tr Try.prog (fun _ w => J [x0] w ∧ W1.heap.size ≤ w.heap.size) k o a v :=
    fun _ h => Many.tr_read (fun W => At2R W Bs Bt Bp b N n g s t) (fun _ w h => hR _ _ h.1) (fun _ _ h => h) h
  refine Many.lex_want (by rfl) (step (v := .int .i64 s) trivial (fun w ⟨⟨hss, hsz, hat, _, _, _⟩, hsb, htb, hpb⟩ => by (go_simp; try rfl))) ?_
  simp only [Act.put, List.setIfInBounds_toArray, List.set_cons_succ, List.set_cons_zero, Nat.reduceAdd]
  refine Many.lex_want (by rfl) (step trivial (fun w ⟨⟨hss, hsz, hat, _, _, _⟩, hsb, htb, hpb⟩ => by (go_simp; try rfl))) ?_
  simp only [Act.put, List.setIfInBounds_toArray, List.set_cons_succ, List.set_cons_zero, Nat.reduceAdd]
  refine Many.lex_want (by rfl) (step trivial (fun w ⟨⟨hss, hsz, hat, _, _, _⟩, hsb, htb, hpb⟩ => by (go_simp; try rfl))) ?_
  simp only [Act.put, List.setIfInBounds_toArray, List.set_cons_succ, List.set_cons_zero, Nat.reduceAdd]
  refine Many.lex_want (by rfl) (step trivial (fun w ⟨⟨hss, hsz, hat, _, _, _⟩, hsb, htb, hpb⟩ => by (go_simp; try rfl))) ?_
  simp only [Act.put, List.setIfInBounds_toArray, List.set_cons_succ, List.set_cons_zero, Nat.reduceAdd]
  refine Many.lex_want (by rfl) (step (v := .int .i64 N) trivial (fun w ⟨⟨hss, hsz, hat, _, _, _⟩, hsb, htb, hpb⟩ => by (go_simp; try rfl))) ?_
  simp only [Act.put, List.setIfInBounds_toArray, List.set_cons_succ, List.set_cons_zero, Nat.reduceAdd]
  refine Many.lex_want (by rfl) (step (v := .bool true) trivial (fun w ⟨⟨hss, hsz, hat, _, _, _⟩, hsb, htb, hpb⟩ => by (go_simp; try (first | rfl | omega | (simp; omega))))) ?_
  simp only [Act.put, List.setIfInBounds_toArray, List.set_cons_succ, List.set_cons_zero, Nat.reduceAdd]
  refine Many.lex_want (by rfl) (step (v := .bool true) trivial (fun w ⟨⟨hss, hsz, hat, _, _, _⟩, hsb, htb, hpb⟩ => by (go_simp; try rfl))) ?_
  simp only [Act.put, List.setIfInBounds_toArray, List.set_cons_succ, List.set_cons_zero, Nat.reduceAdd]
  refine Many.lex_want (by rfl) (step (v := .int .i64 t) trivial (fun w ⟨⟨hss, hsz, hat, _, _, _⟩, hsb, htb, hpb⟩ => by (go_simp; try rfl))) ?_
  simp only [Act.put, List.setIfInBounds_toArray, List.set_cons_succ, List.set_cons_zero, Nat.reduceAdd]
  refine Many.lex_want (by rfl) (step trivial (fun w ⟨⟨hss, hsz, hat, _, _, _⟩, hsb, htb, hpb⟩ => by (go_simp; try rfl))) ?_
  simp only [Act.put, List.setIfInBounds_toArray, List.set_cons_succ, List.set_cons_zero, Nat.reduceAdd]
  refine Many.lex_want (by rfl) (step trivial (fun w ⟨⟨hss, hsz, hat, _, _, _⟩, hsb, htb, hpb⟩ => by (go_simp; try rfl))) ?_
  simp only [Act.put, List.setIfInBounds_toArray, List.set_cons_succ, List.set_cons_zero, Nat.reduceAdd]
  refine Many.lex_want (by rfl) (step trivial (fun w ⟨⟨hss, hsz, hat, _, _, _⟩, hsb, htb, hpb⟩ => by (go_simp; try rfl))) ?_
  simp only [Act.put, List.setIfInBounds_toArray, List.set_cons_succ, List.set_cons_zero, Nat.reduceAdd]
  refine Many.lex_want (by rfl) (step (v := .int .i64 N) trivial (fun w ⟨⟨hss, hsz, hat, _, _, _⟩, hsb, htb, hpb⟩ => by (go_simp; try rfl))) ?_
  simp only [Act.put, List.setIfInBounds_toArray, List.set_cons_succ, List.set_cons_zero, Nat.reduceAdd]
  refine Many.lex_want (by rfl) (step (v := .bool true) trivial (fun w ⟨⟨hss, hsz, hat, _, _, _⟩, hsb, htb, hpb⟩ => by (go_simp; try (first | rfl | omega | (simp; omega))))) ?_
  simp only [Act.put, List.setIfInBounds_toArray, List.set_cons_succ, List.set_cons_zero, Nat.reduceAdd]
  refine Many.lex_want (by rfl) (step (v := .bool true) trivial (fun w ⟨⟨hss, hsz, hat, _, _, _⟩, hsb, htb, hpb⟩ => by (go_simp; try rfl))) ?_
  simp only [Act.put, List.setIfInBounds_toArray, List.set_cons_succ, List.set_cons_zero, Nat.reduceAdd]
  refine Many.lex_nil fun _ w1 _ ⟨hJ', hs'⟩ => ?_
  clear step
  gi_wp2
  have hw1 : IntKind.i64.wrap ((s : Int) + 1) = (s : Int) + 1 := IntWalk.i64_in _ (by omega)
  have hw2 : IntKind.i64.wrap ((t : Int) + 1) = (t : Int) + 1 := IntWalk.i64_in _ (by omega)
  have hT1 : ((s : Int) + 1).toNat = s + 1 := by omega
  have hT2 : ((t : Int) + 1).toNat = t + 1 := by omega
  refine region_pivot 18 (fun b' w => J (if b' then [x0, x1] else [x0]) w ∧ W1.heap.size ≤ w.heap.size) hmx (by kernel_rfl) (by simp) ?_ ?_
  · exact ⟨hJ _ _ _ (by simpa using hJ') ((Below.refl _ _).drew), hs'⟩
  have hCR : ∀ b' w, (J (if b' = true then [x0, x1] else [x0]) w ∧ W1.heap.size ≤ w.heap.size) → At2R w Bs Bt Bp b N n g s t := fun b' w h => hR _ _ h.1
  have step : ∀ {k : Nat} {o : Oper} {a : Act} {v : Value}, (k == 18) = false → (∀ w, At2R w Bs Bt Bp b N n g s t → (execOp a.eval o).run Try.prog w = .ok (.value v) w) → Tr Try.prog (fun b' w => J (if b' then [x0, x1] else [x0]) w ∧ W1.heap.size ≤ w.heap.size) 18 k o a v :=
    fun hk h => tr_read (fun W => At2R W Bs Bt Bp b N n g s t) hk hCR h
  refine lex_want (by rfl) (step (by rfl) (fun w ⟨⟨hss, hsz, hat, _, _, _⟩, hsb, htb, hpb⟩ => by (go_simp; try rfl))) ?_
  simp only [Act.put, List.setIfInBounds_toArray, List.set_cons_succ, List.set_cons_zero, Nat.reduceAdd]
  refine lex_want (by rfl) (step (v := .int .i64 s) (by rfl) (fun w ⟨⟨hss, hsz, hat, _, _, _⟩, hsb, htb, hpb⟩ => by (go_simp; try rfl))) ?_
  simp only [Act.put, List.setIfInBounds_toArray, List.set_cons_succ, List.set_cons_zero, Nat.reduceAdd]
  refine lex_want (by rfl) (step (v := .int .i64 t) (by rfl) (fun w ⟨⟨hss, hsz, hat, _, _, _⟩, hsb, htb, hpb⟩ => by (go_simp; try rfl))) ?_
  simp only [Act.put, List.setIfInBounds_toArray, List.set_cons_succ, List.set_cons_zero, Nat.reduceAdd]
  refine lex_want (by rfl) (step (v := .agg #[.int .i64 s, .int .i64 t, .bool false]) (by rfl) (fun w ⟨⟨hss, hsz, hat, _, _, _⟩, hsb, htb, hpb⟩ => by (go_simp; try rfl))) ?_
  simp only [Act.put, List.setIfInBounds_toArray, List.set_cons_succ, List.set_cons_zero, Nat.reduceAdd]
  refine lex_want (by rfl) (step (by rfl) (fun w ⟨⟨hss, hsz, hat, _, _, _⟩, hsb, htb, hpb⟩ => by (go_simp; try rfl))) ?_
  simp only [Act.put, List.setIfInBounds_toArray, List.set_cons_succ, List.set_cons_zero, Nat.reduceAdd]
  refine lex_want (by rfl) (step (by rfl) (fun w ⟨⟨hss, hsz, hat, _, _, _⟩, hsb, htb, hpb⟩ => by (go_simp; try rfl))) ?_
  simp only [Act.put, List.setIfInBounds_toArray, List.set_cons_succ, List.set_cons_zero, Nat.reduceAdd]
  refine lex_want (by rfl) (step (v := .int .i64 s) (by rfl) (fun w ⟨⟨hss, hsz, hat, _, _, _⟩, hsb, htb, hpb⟩ => by (go_simp; try rfl))) ?_
  simp only [Act.put, List.setIfInBounds_toArray, List.set_cons_succ, List.set_cons_zero, Nat.reduceAdd]
  refine lex_want (by rfl) (step (v := .int .i64 ((s : Int) + 1)) (by rfl) (fun w ⟨⟨hss, hsz, hat, _, _, _⟩, hsb, htb, hpb⟩ => by (go_simp; try simp [hw1]))) ?_
  simp only [Act.put, List.setIfInBounds_toArray, List.set_cons_succ, List.set_cons_zero, Nat.reduceAdd]
  refine lex_want (by rfl) (step (v := .int .i64 t) (by rfl) (fun w ⟨⟨hss, hsz, hat, _, _, _⟩, hsb, htb, hpb⟩ => by (go_simp; try rfl))) ?_
  simp only [Act.put, List.setIfInBounds_toArray, List.set_cons_succ, List.set_cons_zero, Nat.reduceAdd]
  refine lex_want (by rfl) (step (v := .int .i64 ((t : Int) + 1)) (by rfl) (fun w ⟨⟨hss, hsz, hat, _, _, _⟩, hsb, htb, hpb⟩ => by (go_simp; try simp [hw2]))) ?_
  simp only [Act.put, List.setIfInBounds_toArray, List.set_cons_succ, List.set_cons_zero, Nat.reduceAdd]
  refine lex_want (by rfl) (step (by rfl) (fun w ⟨⟨hss, hsz, hat, _, _, _⟩, hsb, htb, hpb⟩ => by (go_simp; try rfl))) ?_
  simp only [Act.put, List.setIfInBounds_toArray, List.set_cons_succ, List.set_cons_zero, Nat.reduceAdd]
  refine lex_want (by rfl) (step (by rfl) (fun w ⟨⟨hss, hsz, hat, _, _, _⟩, hsb, htb, hpb⟩ => by (go_simp; try rfl))) ?_
  simp only [Act.put, List.setIfInBounds_toArray, List.set_cons_succ, List.set_cons_zero, Nat.reduceAdd]
  refine lex_want (by rfl) (step (v := .pointer (some ⟨b, 2 + (s + 1) * 101, none⟩)) (by rfl) (fun w ⟨⟨hss, hsz, hat, _, _, _⟩, hsb, htb, hpb⟩ => by (go_simp; (try (first | done | omega | (intros; omega)))))) ?_
  simp only [Act.put, List.setIfInBounds_toArray, List.set_cons_succ, List.set_cons_zero, Nat.reduceAdd]
  refine lex_want (by rfl) (step (v := .pointer (some ⟨b, 2 + (s + 1) * 101 + (t + 1), none⟩)) (by rfl) (fun w ⟨⟨hss, hsz, hat, _, _, _⟩, hsb, htb, hpb⟩ => by (go_simp; (try (first | done | omega | (intros; omega)))))) ?_
  simp only [Act.put, List.setIfInBounds_toArray, List.set_cons_succ, List.set_cons_zero, Nat.reduceAdd]
  refine lex_want (by rfl) (step (v := .int .i64 (g (s + 1) (t + 1))) (by rfl) (fun w ⟨⟨hss, hsz, hat, _, _, _⟩, hsb, htb, hpb⟩ => by (have hc1 := hat (s + 1) (t + 1) (by omega) (by omega); go_simp; try rfl))) ?_
  simp only [Act.put, List.setIfInBounds_toArray, List.set_cons_succ, List.set_cons_zero, Nat.reduceAdd]
  refine lex_want (by rfl) (step (v := .int .i64 s) (by rfl) (fun w ⟨⟨hss, hsz, hat, _, _, _⟩, hsb, htb, hpb⟩ => by (go_simp; try rfl))) ?_
  simp only [Act.put, List.setIfInBounds_toArray, List.set_cons_succ, List.set_cons_zero, Nat.reduceAdd]
  refine lex_want (by rfl) (step (v := .int .i64 t) (by rfl) (fun w ⟨⟨hss, hsz, hat, _, _, _⟩, hsb, htb, hpb⟩ => by (go_simp; try rfl))) ?_
  simp only [Act.put, List.setIfInBounds_toArray, List.set_cons_succ, List.set_cons_zero, Nat.reduceAdd]
  refine lex_want (by rfl) (tr_call (v := .int .i64 (exc2 N n (g (s + 1) (t + 1)) s t)) (f := 103) (args := #[.pointer (some ⟨b, 0, none⟩), .int .i64 (g (s + 1) (t + 1)), .int .i64 s, .int .i64 t]) (fun W => At2R W Bs Bt Bp b N n g s t) (by rfl) hCR
    (fun b' w m h => ⟨hJ _ _ _ h.1 (below_drewN (Below.refl _ _) m), h.2⟩) (fun w ⟨hl, _, _, _⟩ => excess2_any hl hg2 (by omega) (by omega)) (fun w => (by go_simp))) ?_
  simp only [Act.put, List.setIfInBounds_toArray, List.set_cons_succ, List.set_cons_zero, Nat.reduceAdd]
  refine lex_want (by rfl) (tr_yield (v := .bool true) (l := l) (args := encW2 (closedW N n g s t)) (by rfl) (fun w hC => ?_) (fun w => (by unfold encW2 closedW; go_simp))) ?_
  · refine (hY [x0] (closedW N n g s t) w hC.1 hC.2 (by rw [← hx1]; exact ⟨[], rfl⟩)).mono fun e w' h => ⟨h.1, by rw [hx1]; simpa using h.2.1, Nat.le_trans hC.2 h.2.2.1.1⟩
  simp only [Act.put, List.setIfInBounds_toArray, List.set_cons_succ, List.set_cons_zero, Nat.reduceAdd]
  refine lex_nil fun w2 ⟨hJ', hs'⟩ => ?_
  gi_wp2
  go_end0
  exact ⟨⟨_, rfl⟩, hJ', hs'⟩
set_option maxHeartbeats 2000000 in
set_option maxRecDepth 100000 in
theorem at2_o_sN {b N n s t Bs Bt Bp : Nat} {g : Nat → Nat → Nat} (hs : s ≤ N) (ht : t ≤ N) (h0 : 0 < s) (h1 : 0 < t) (h2 : ¬ s < N) (W1 : World) :
    Gives Try.prog 102 #[.pointer (some ⟨Bs, 0, none⟩), .pointer (some ⟨Bt, 0, none⟩), .pointer (some ⟨Bp, 0, none⟩)] encW2 (witsAt2 N n g s t) (fun W => At2R W Bs Bt Bp b N n g s t) W1 := by
  intro l J hJ hR hY h0'
  have hmx : Try.prog.follows .mixedOrders = true := by kernel_rfl
  obtain ⟨hL0, _, _, _⟩ := hR _ _ h0'
  have hN := hL0.hN
  have hg1 := hL0.hg s t (by omega) (by omega)
  have hW : witsAt2 N n g s t = [openW N n g s t] ++ [] := by unfold witsAt2; rw [if_pos ⟨h0, h1⟩]; rw [if_neg (by omega)]
  rw [hW] at hY ⊢
  clear hW
  obtain ⟨x0, hx0⟩ : ∃ x0 : Wit2, x0 = openW N n g s t := ⟨_, rfl⟩
  rw [← hx0] at hY ⊢
  simp only [List.nil_append, List.append_nil] at hY ⊢
  refine callsIn_of_wp Try.func102 rfl trivial ?_ rfl
  simp only [Try.ntmps102, List.size_toArray, List.length_cons, List.length_nil, Nat.reduceAdd, Nat.reduceSub, Array.replicate_succ, Array.replicate_zero, List.push_toArray, List.append_toArray, List.nil_append, List.cons_append]
  gi_wp2
  refine region_pivot 23 (fun b' w => J (if b' then [x0] else []) w ∧ W1.heap.size ≤ w.heap.size) hmx (by kernel_rfl) (by simp) ?_ ?_
  · exact ⟨hJ _ _ _ (by simpa using h0') ((Below.refl _ _).drew), Nat.le_refl _⟩
  have hCR : ∀ b' w, (J (if b' = true then [x0] else []) w ∧ W1.heap.size ≤ w.heap.size) → At2R w Bs Bt Bp b N n g s t := fun b' w h => hR _ _ h.1
  have step : ∀ {k : Nat} {o : Oper} {a : Act} {v : Value}, (k == 23) = false → (∀ w, At2R w Bs Bt Bp b N n g s t → (execOp a.eval o).run Try.prog w = .ok (.value v) w) → Tr Try.prog (fun b' w => J (if b' then [x0] else []) w ∧ W1.heap.size ≤ w.heap.size) 23 k o a v :=
    fun hk h => tr_read (fun W => At2R W Bs Bt Bp b N n g s t) hk hCR h
  refine lex_want (by rfl) (step (v := .int .i64 s) (by rfl) (fun w ⟨⟨hss, hsz, hat, _, _, _⟩, hsb, htb, hpb⟩ => by (go_simp; try rfl))) ?_
  simp only [Act.put, List.setIfInBounds_toArray, List.set_cons_succ, List.set_cons_zero, Nat.reduceAdd]
  refine lex_want (by rfl) (step (v := .bool true) (by rfl) (fun w ⟨⟨hss, hsz, hat, _, _, _⟩, hsb, htb, hpb⟩ => by (go_simp; try (first | rfl | omega | (simp; omega))))) ?_
  simp only [Act.put, List.setIfInBounds_toArray, List.set_cons_succ, List.set_cons_zero, Nat.reduceAdd]
  refine lex_want (by rfl) (step (v := .bool true) (by rfl) (fun w ⟨⟨hss, hsz, hat, _, _, _⟩, hsb, htb, hpb⟩ => by (go_simp; try rfl))) ?_
  simp only [Act.put, List.setIfInBounds_toArray, List.set_cons_succ, List.set_cons_zero, Nat.reduceAdd]
  refine lex_want (by rfl) (step (v := .int .i64 t) (by rfl) (fun w ⟨⟨hss, hsz, hat, _, _, _⟩, hsb, htb, hpb⟩ => by (go_simp; try rfl))) ?_
  simp only [Act.put, List.setIfInBounds_toArray, List.set_cons_succ, List.set_cons_zero, Nat.reduceAdd]
  refine lex_want (by rfl) (step (v := .bool true) (by rfl) (fun w ⟨⟨hss, hsz, hat, _, _, _⟩, hsb, htb, hpb⟩ => by (go_simp; try (first | rfl | omega | (simp; omega))))) ?_
  simp only [Act.put, List.setIfInBounds_toArray, List.set_cons_succ, List.set_cons_zero, Nat.reduceAdd]
  refine lex_want (by rfl) (step (v := .bool true) (by rfl) (fun w ⟨⟨hss, hsz, hat, _, _, _⟩, hsb, htb, hpb⟩ => by (go_simp; try rfl))) ?_
  simp only [Act.put, List.setIfInBounds_toArray, List.set_cons_succ, List.set_cons_zero, Nat.reduceAdd]
  refine lex_want (by rfl) (step (v := .bool true) (by rfl) (fun w ⟨⟨hss, hsz, hat, _, _, _⟩, hsb, htb, hpb⟩ => by (go_simp; try rfl))) ?_
  simp only [Act.put, List.setIfInBounds_toArray, List.set_cons_succ, List.set_cons_zero, Nat.reduceAdd]
  refine lex_want (by rfl) (step (by rfl) (fun w ⟨⟨hss, hsz, hat, _, _, _⟩, hsb, htb, hpb⟩ => by (go_simp; try rfl))) ?_
  simp only [Act.put, List.setIfInBounds_toArray, List.set_cons_succ, List.set_cons_zero, Nat.reduceAdd]
  refine lex_want (by rfl) (step (v := .int .i64 s) (by rfl) (fun w ⟨⟨hss, hsz, hat, _, _, _⟩, hsb, htb, hpb⟩ => by (go_simp; try rfl))) ?_
  simp only [Act.put, List.setIfInBounds_toArray, List.set_cons_succ, List.set_cons_zero, Nat.reduceAdd]
  refine lex_want (by rfl) (step (v := .int .i64 t) (by rfl) (fun w ⟨⟨hss, hsz, hat, _, _, _⟩, hsb, htb, hpb⟩ => by (go_simp; try rfl))) ?_
  simp only [Act.put, List.setIfInBounds_toArray, List.set_cons_succ, List.set_cons_zero, Nat.reduceAdd]
  refine lex_want (by rfl) (step (v := .agg #[.int .i64 s, .int .i64 t, .bool true]) (by rfl) (fun w ⟨⟨hss, hsz, hat, _, _, _⟩, hsb, htb, hpb⟩ => by (go_simp; try rfl))) ?_
  simp only [Act.put, List.setIfInBounds_toArray, List.set_cons_succ, List.set_cons_zero, Nat.reduceAdd]
  refine lex_want (by rfl) (step (by rfl) (fun w ⟨⟨hss, hsz, hat, _, _, _⟩, hsb, htb, hpb⟩ => by (go_simp; try rfl))) ?_
  simp only [Act.put, List.setIfInBounds_toArray, List.set_cons_succ, List.set_cons_zero, Nat.reduceAdd]
  refine lex_want (by rfl) (step (by rfl) (fun w ⟨⟨hss, hsz, hat, _, _, _⟩, hsb, htb, hpb⟩ => by (go_simp; try rfl))) ?_
  simp only [Act.put, List.setIfInBounds_toArray, List.set_cons_succ, List.set_cons_zero, Nat.reduceAdd]
  refine lex_want (by rfl) (step (v := .int .i64 s) (by rfl) (fun w ⟨⟨hss, hsz, hat, _, _, _⟩, hsb, htb, hpb⟩ => by (go_simp; try rfl))) ?_
  simp only [Act.put, List.setIfInBounds_toArray, List.set_cons_succ, List.set_cons_zero, Nat.reduceAdd]
  refine lex_want (by rfl) (step (v := .int .i64 t) (by rfl) (fun w ⟨⟨hss, hsz, hat, _, _, _⟩, hsb, htb, hpb⟩ => by (go_simp; try rfl))) ?_
  simp only [Act.put, List.setIfInBounds_toArray, List.set_cons_succ, List.set_cons_zero, Nat.reduceAdd]
  refine lex_want (by rfl) (step (by rfl) (fun w ⟨⟨hss, hsz, hat, _, _, _⟩, hsb, htb, hpb⟩ => by (go_simp; try rfl))) ?_
  simp only [Act.put, List.setIfInBounds_toArray, List.set_cons_succ, List.set_cons_zero, Nat.reduceAdd]
  refine lex_want (by rfl) (step (by rfl) (fun w ⟨⟨hss, hsz, hat, _, _, _⟩, hsb, htb, hpb⟩ => by (go_simp; try rfl))) ?_
  simp only [Act.put, List.setIfInBounds_toArray, List.set_cons_succ, List.set_cons_zero, Nat.reduceAdd]
  refine lex_want (by rfl) (step (v := .pointer (some ⟨b, 2 + s * 101, none⟩)) (by rfl) (fun w ⟨⟨hss, hsz, hat, _, _, _⟩, hsb, htb, hpb⟩ => by (go_simp; try omega))) ?_
  simp only [Act.put, List.setIfInBounds_toArray, List.set_cons_succ, List.set_cons_zero, Nat.reduceAdd]
  refine lex_want (by rfl) (step (v := .pointer (some ⟨b, 2 + s * 101 + t, none⟩)) (by rfl) (fun w ⟨⟨hss, hsz, hat, _, _, _⟩, hsb, htb, hpb⟩ => by (go_simp; try omega))) ?_
  simp only [Act.put, List.setIfInBounds_toArray, List.set_cons_succ, List.set_cons_zero, Nat.reduceAdd]
  refine lex_want (by rfl) (step (v := .int .i64 (g s t)) (by rfl) (fun w ⟨⟨hss, hsz, hat, _, _, _⟩, hsb, htb, hpb⟩ => by (have hc1 := hat s t (by omega) (by omega); go_simp; try rfl))) ?_
  simp only [Act.put, List.setIfInBounds_toArray, List.set_cons_succ, List.set_cons_zero, Nat.reduceAdd]
  refine lex_want (by rfl) (step (v := .int .i64 s) (by rfl) (fun w ⟨⟨hss, hsz, hat, _, _, _⟩, hsb, htb, hpb⟩ => by (go_simp; try rfl))) ?_
  simp only [Act.put, List.setIfInBounds_toArray, List.set_cons_succ, List.set_cons_zero, Nat.reduceAdd]
  refine lex_want (by rfl) (step (v := .int .i64 t) (by rfl) (fun w ⟨⟨hss, hsz, hat, _, _, _⟩, hsb, htb, hpb⟩ => by (go_simp; try rfl))) ?_
  simp only [Act.put, List.setIfInBounds_toArray, List.set_cons_succ, List.set_cons_zero, Nat.reduceAdd]
  refine lex_want (by rfl) (tr_call (v := .int .i64 (exc2 N n (g s t) s t)) (f := 103) (args := #[.pointer (some ⟨b, 0, none⟩), .int .i64 (g s t), .int .i64 s, .int .i64 t]) (fun W => At2R W Bs Bt Bp b N n g s t) (by rfl) hCR
    (fun b' w m h => ⟨hJ _ _ _ h.1 (below_drewN (Below.refl _ _) m), h.2⟩) (fun w ⟨hl, _, _, _⟩ => excess2_any hl hg1 (by omega) (by omega)) (fun w => (by go_simp))) ?_
  simp only [Act.put, List.setIfInBounds_toArray, List.set_cons_succ, List.set_cons_zero, Nat.reduceAdd]
  refine lex_want (by rfl) (tr_yield (v := .bool true) (l := l) (args := encW2 (openW N n g s t)) (by rfl) (fun w hC => ?_) (fun w => (by unfold encW2 openW; go_simp))) ?_
  · refine (hY [] (openW N n g s t) w hC.1 hC.2 (by rw [← hx0]; exact ⟨[], rfl⟩)).mono fun e w' h => ⟨h.1, by rw [hx0]; exact h.2.1, Nat.le_trans hC.2 h.2.2.1.1⟩
  simp only [Act.put, List.setIfInBounds_toArray, List.set_cons_succ, List.set_cons_zero, Nat.reduceAdd]
  refine lex_want (by rfl) (step (v := .bool false) (by rfl) (fun w ⟨⟨hss, hsz, hat, _, _, _⟩, hsb, htb, hpb⟩ => by (go_simp; try rfl))) ?_
  simp only [Act.put, List.setIfInBounds_toArray, List.set_cons_succ, List.set_cons_zero, Nat.reduceAdd]
  refine lex_want (by rfl) (step (v := .bool false) (by rfl) (fun w ⟨⟨hss, hsz, hat, _, _, _⟩, hsb, htb, hpb⟩ => by (go_simp; try rfl))) ?_
  simp only [Act.put, List.setIfInBounds_toArray, List.set_cons_succ, List.set_cons_zero, Nat.reduceAdd]
  refine lex_nil fun w0 ⟨hJ', hs'⟩ => ?_
  clear step hCR
  gi_wp2
  have hmany := hmx
  refine Many.region_many (fun _ w => J [x0] w ∧ W1.heap.size ≤ w.heap.size) hmx (by kernel_rfl) (fun _ _ _ _ h => h) (fun s hs => ?_) ?_
  · exact ⟨hJ _ _ _ (by simpa using hJ') ((Below.refl _ _).drew), hs'⟩
  have step : ∀ {k : Nat} {o : Oper} {a : Act} {v : Value}, True → (∀ w, At2R w Bs Bt Bp b N n g s t → (execOp a.eval o).run Try.prog w = .ok (.value v) w) → Many.Tr Try.prog (fun _ w => J [x0] w ∧ W1.heap.size ≤ w.heap.size) k o a v :=
    fun _ h => Many.tr_read (fun W => At2R W Bs Bt Bp b N n g s t) (fun _ w h => hR _ _ h.1) (fun _ _ h => h) h
  refine Many.lex_want (by rfl) (step (v := .int .i64 s) trivial (fun w ⟨⟨hss, hsz, hat, _, _, _⟩, hsb, htb, hpb⟩ => by (go_simp; try rfl))) ?_
  simp only [Act.put, List.setIfInBounds_toArray, List.set_cons_succ, List.set_cons_zero, Nat.reduceAdd]
  refine Many.lex_want (by rfl) (step trivial (fun w ⟨⟨hss, hsz, hat, _, _, _⟩, hsb, htb, hpb⟩ => by (go_simp; try rfl))) ?_
  simp only [Act.put, List.setIfInBounds_toArray, List.set_cons_succ, List.set_cons_zero, Nat.reduceAdd]
  refine Many.lex_want (by rfl) (step trivial (fun w ⟨⟨hss, hsz, hat, _, _, _⟩, hsb, htb, hpb⟩ => by (go_simp; try rfl))) ?_
  simp only [Act.put, List.setIfInBounds_toArray, List.set_cons_succ, List.set_cons_zero, Nat.reduceAdd]
  refine Many.lex_want (by rfl) (step trivial (fun w ⟨⟨hss, hsz, hat, _, _, _⟩, hsb, htb, hpb⟩ => by (go_simp; try rfl))) ?_
  simp only [Act.put, List.setIfInBounds_toArray, List.set_cons_succ, List.set_cons_zero, Nat.reduceAdd]
  refine Many.lex_want (by rfl) (step (v := .int .i64 N) trivial (fun w ⟨⟨hss, hsz, hat, _, _, _⟩, hsb, htb, hpb⟩ => by (go_simp; try rfl))) ?_
  simp only [Act.put, List.setIfInBounds_toArray, List.set_cons_succ, List.set_cons_zero, Nat.reduceAdd]
  refine Many.lex_want (by rfl) (step (v := .bool false) trivial (fun w ⟨⟨hss, hsz, hat, _, _, _⟩, hsb, htb, hpb⟩ => by (go_simp; try (first | done | omega | (simp; omega))))) ?_
  simp only [Act.put, List.setIfInBounds_toArray, List.set_cons_succ, List.set_cons_zero, Nat.reduceAdd]
  refine Many.lex_want (by rfl) (step (v := .bool false) trivial (fun w ⟨⟨hss, hsz, hat, _, _, _⟩, hsb, htb, hpb⟩ => by (go_simp; try rfl))) ?_
  simp only [Act.put, List.setIfInBounds_toArray, List.set_cons_succ, List.set_cons_zero, Nat.reduceAdd]
  refine At2.lex_skip (by rfl) (fun _ _ h => h) ?_
  simp only [Act.put, List.setIfInBounds_toArray, List.set_cons_succ, List.set_cons_zero, Nat.reduceAdd]
  refine At2.lex_skip (by rfl) (fun _ _ h => h) ?_
  simp only [Act.put, List.setIfInBounds_toArray, List.set_cons_succ, List.set_cons_zero, Nat.reduceAdd]
  refine At2.lex_skip (by rfl) (fun _ _ h => h) ?_
  simp only [Act.put, List.setIfInBounds_toArray, List.set_cons_succ, List.set_cons_zero, Nat.reduceAdd]
  refine At2.lex_skip (by rfl) (fun _ _ h => h) ?_
  simp only [Act.put, List.setIfInBounds_toArray, List.set_cons_succ, List.set_cons_zero, Nat.reduceAdd]
  refine At2.lex_skip (by rfl) (fun _ _ h => h) ?_
  simp only [Act.put, List.setIfInBounds_toArray, List.set_cons_succ, List.set_cons_zero, Nat.reduceAdd]
  refine At2.lex_skip (by rfl) (fun _ _ h => h) ?_
  simp only [Act.put, List.setIfInBounds_toArray, List.set_cons_succ, List.set_cons_zero, Nat.reduceAdd]
  refine Many.lex_want (by rfl) (step (v := .bool false) trivial (fun w ⟨⟨hss, hsz, hat, _, _, _⟩, hsb, htb, hpb⟩ => by (go_simp; try rfl))) ?_
  simp only [Act.put, List.setIfInBounds_toArray, List.set_cons_succ, List.set_cons_zero, Nat.reduceAdd]
  refine Many.lex_nil fun _ w1 _ ⟨hJ', hs'⟩ => ?_
  clear step
  gi_wp2
  go_end0
  exact ⟨⟨_, rfl⟩, hJ', hs'⟩
set_option maxHeartbeats 2000000 in
set_option maxRecDepth 100000 in
theorem at2_o_tN {b N n s t Bs Bt Bp : Nat} {g : Nat → Nat → Nat} (hs : s ≤ N) (ht : t ≤ N) (h0 : 0 < s) (h1 : 0 < t) (h2 : s < N) (h3 : ¬ t < N) (W1 : World) :
    Gives Try.prog 102 #[.pointer (some ⟨Bs, 0, none⟩), .pointer (some ⟨Bt, 0, none⟩), .pointer (some ⟨Bp, 0, none⟩)] encW2 (witsAt2 N n g s t) (fun W => At2R W Bs Bt Bp b N n g s t) W1 := by
  intro l J hJ hR hY h0'
  have hmx : Try.prog.follows .mixedOrders = true := by kernel_rfl
  obtain ⟨hL0, _, _, _⟩ := hR _ _ h0'
  have hN := hL0.hN
  have hg1 := hL0.hg s t (by omega) (by omega)
  have hW : witsAt2 N n g s t = [openW N n g s t] ++ [] := by unfold witsAt2; rw [if_pos ⟨h0, h1⟩]; rw [if_neg (by omega)]
  rw [hW] at hY ⊢
  clear hW
  obtain ⟨x0, hx0⟩ : ∃ x0 : Wit2, x0 = openW N n g s t := ⟨_, rfl⟩
  rw [← hx0] at hY ⊢
  simp only [List.nil_append, List.append_nil] at hY ⊢
  refine callsIn_of_wp Try.func102 rfl trivial ?_ rfl
  simp only [Try.ntmps102, List.size_toArray, List.length_cons, List.length_nil, Nat.reduceAdd, Nat.reduceSub, Array.replicate_succ, Array.replicate_zero, List.push_toArray, List.append_toArray, List.nil_append, List.cons_append]
  gi_wp2
  refine region_pivot 23 (fun b' w => J (if b' then [x0] else []) w ∧ W1.heap.size ≤ w.heap.size) hmx (by kernel_rfl) (by simp) ?_ ?_
  · exact ⟨hJ _ _ _ (by simpa using h0') ((Below.refl _ _).drew), Nat.le_refl _⟩
  have hCR : ∀ b' w, (J (if b' = true then [x0] else []) w ∧ W1.heap.size ≤ w.heap.size) → At2R w Bs Bt Bp b N n g s t := fun b' w h => hR _ _ h.1
  have step : ∀ {k : Nat} {o : Oper} {a : Act} {v : Value}, (k == 23) = false → (∀ w, At2R w Bs Bt Bp b N n g s t → (execOp a.eval o).run Try.prog w = .ok (.value v) w) → Tr Try.prog (fun b' w => J (if b' then [x0] else []) w ∧ W1.heap.size ≤ w.heap.size) 23 k o a v :=
    fun hk h => tr_read (fun W => At2R W Bs Bt Bp b N n g s t) hk hCR h
  refine lex_want (by rfl) (step (v := .int .i64 s) (by rfl) (fun w ⟨⟨hss, hsz, hat, _, _, _⟩, hsb, htb, hpb⟩ => by (go_simp; try rfl))) ?_
  simp only [Act.put, List.setIfInBounds_toArray, List.set_cons_succ, List.set_cons_zero, Nat.reduceAdd]
  refine lex_want (by rfl) (step (v := .bool true) (by rfl) (fun w ⟨⟨hss, hsz, hat, _, _, _⟩, hsb, htb, hpb⟩ => by (go_simp; try (first | rfl | omega | (simp; omega))))) ?_
  simp only [Act.put, List.setIfInBounds_toArray, List.set_cons_succ, List.set_cons_zero, Nat.reduceAdd]
  refine lex_want (by rfl) (step (v := .bool true) (by rfl) (fun w ⟨⟨hss, hsz, hat, _, _, _⟩, hsb, htb, hpb⟩ => by (go_simp; try rfl))) ?_
  simp only [Act.put, List.setIfInBounds_toArray, List.set_cons_succ, List.set_cons_zero, Nat.reduceAdd]
  refine lex_want (by rfl) (step (v := .int .i64 t) (by rfl) (fun w ⟨⟨hss, hsz, hat, _, _, _⟩, hsb, htb, hpb⟩ => by (go_simp; try rfl))) ?_
  simp only [Act.put, List.setIfInBounds_toArray, List.set_cons_succ, List.set_cons_zero, Nat.reduceAdd]
  refine lex_want (by rfl) (step (v := .bool true) (by rfl) (fun w ⟨⟨hss, hsz, hat, _, _, _⟩, hsb, htb, hpb⟩ => by (go_simp; try (first | rfl | omega | (simp; omega))))) ?_
  simp only [Act.put, List.setIfInBounds_toArray, List.set_cons_succ, List.set_cons_zero, Nat.reduceAdd]
  refine lex_want (by rfl) (step (v := .bool true) (by rfl) (fun w ⟨⟨hss, hsz, hat, _, _, _⟩, hsb, htb, hpb⟩ => by (go_simp; try rfl))) ?_
  simp only [Act.put, List.setIfInBounds_toArray, List.set_cons_succ, List.set_cons_zero, Nat.reduceAdd]
  refine lex_want (by rfl) (step (v := .bool true) (by rfl) (fun w ⟨⟨hss, hsz, hat, _, _, _⟩, hsb, htb, hpb⟩ => by (go_simp; try rfl))) ?_
  simp only [Act.put, List.setIfInBounds_toArray, List.set_cons_succ, List.set_cons_zero, Nat.reduceAdd]
  refine lex_want (by rfl) (step (by rfl) (fun w ⟨⟨hss, hsz, hat, _, _, _⟩, hsb, htb, hpb⟩ => by (go_simp; try rfl))) ?_
  simp only [Act.put, List.setIfInBounds_toArray, List.set_cons_succ, List.set_cons_zero, Nat.reduceAdd]
  refine lex_want (by rfl) (step (v := .int .i64 s) (by rfl) (fun w ⟨⟨hss, hsz, hat, _, _, _⟩, hsb, htb, hpb⟩ => by (go_simp; try rfl))) ?_
  simp only [Act.put, List.setIfInBounds_toArray, List.set_cons_succ, List.set_cons_zero, Nat.reduceAdd]
  refine lex_want (by rfl) (step (v := .int .i64 t) (by rfl) (fun w ⟨⟨hss, hsz, hat, _, _, _⟩, hsb, htb, hpb⟩ => by (go_simp; try rfl))) ?_
  simp only [Act.put, List.setIfInBounds_toArray, List.set_cons_succ, List.set_cons_zero, Nat.reduceAdd]
  refine lex_want (by rfl) (step (v := .agg #[.int .i64 s, .int .i64 t, .bool true]) (by rfl) (fun w ⟨⟨hss, hsz, hat, _, _, _⟩, hsb, htb, hpb⟩ => by (go_simp; try rfl))) ?_
  simp only [Act.put, List.setIfInBounds_toArray, List.set_cons_succ, List.set_cons_zero, Nat.reduceAdd]
  refine lex_want (by rfl) (step (by rfl) (fun w ⟨⟨hss, hsz, hat, _, _, _⟩, hsb, htb, hpb⟩ => by (go_simp; try rfl))) ?_
  simp only [Act.put, List.setIfInBounds_toArray, List.set_cons_succ, List.set_cons_zero, Nat.reduceAdd]
  refine lex_want (by rfl) (step (by rfl) (fun w ⟨⟨hss, hsz, hat, _, _, _⟩, hsb, htb, hpb⟩ => by (go_simp; try rfl))) ?_
  simp only [Act.put, List.setIfInBounds_toArray, List.set_cons_succ, List.set_cons_zero, Nat.reduceAdd]
  refine lex_want (by rfl) (step (v := .int .i64 s) (by rfl) (fun w ⟨⟨hss, hsz, hat, _, _, _⟩, hsb, htb, hpb⟩ => by (go_simp; try rfl))) ?_
  simp only [Act.put, List.setIfInBounds_toArray, List.set_cons_succ, List.set_cons_zero, Nat.reduceAdd]
  refine lex_want (by rfl) (step (v := .int .i64 t) (by rfl) (fun w ⟨⟨hss, hsz, hat, _, _, _⟩, hsb, htb, hpb⟩ => by (go_simp; try rfl))) ?_
  simp only [Act.put, List.setIfInBounds_toArray, List.set_cons_succ, List.set_cons_zero, Nat.reduceAdd]
  refine lex_want (by rfl) (step (by rfl) (fun w ⟨⟨hss, hsz, hat, _, _, _⟩, hsb, htb, hpb⟩ => by (go_simp; try rfl))) ?_
  simp only [Act.put, List.setIfInBounds_toArray, List.set_cons_succ, List.set_cons_zero, Nat.reduceAdd]
  refine lex_want (by rfl) (step (by rfl) (fun w ⟨⟨hss, hsz, hat, _, _, _⟩, hsb, htb, hpb⟩ => by (go_simp; try rfl))) ?_
  simp only [Act.put, List.setIfInBounds_toArray, List.set_cons_succ, List.set_cons_zero, Nat.reduceAdd]
  refine lex_want (by rfl) (step (v := .pointer (some ⟨b, 2 + s * 101, none⟩)) (by rfl) (fun w ⟨⟨hss, hsz, hat, _, _, _⟩, hsb, htb, hpb⟩ => by (go_simp; try omega))) ?_
  simp only [Act.put, List.setIfInBounds_toArray, List.set_cons_succ, List.set_cons_zero, Nat.reduceAdd]
  refine lex_want (by rfl) (step (v := .pointer (some ⟨b, 2 + s * 101 + t, none⟩)) (by rfl) (fun w ⟨⟨hss, hsz, hat, _, _, _⟩, hsb, htb, hpb⟩ => by (go_simp; try omega))) ?_
  simp only [Act.put, List.setIfInBounds_toArray, List.set_cons_succ, List.set_cons_zero, Nat.reduceAdd]
  refine lex_want (by rfl) (step (v := .int .i64 (g s t)) (by rfl) (fun w ⟨⟨hss, hsz, hat, _, _, _⟩, hsb, htb, hpb⟩ => by (have hc1 := hat s t (by omega) (by omega); go_simp; try rfl))) ?_
  simp only [Act.put, List.setIfInBounds_toArray, List.set_cons_succ, List.set_cons_zero, Nat.reduceAdd]
  refine lex_want (by rfl) (step (v := .int .i64 s) (by rfl) (fun w ⟨⟨hss, hsz, hat, _, _, _⟩, hsb, htb, hpb⟩ => by (go_simp; try rfl))) ?_
  simp only [Act.put, List.setIfInBounds_toArray, List.set_cons_succ, List.set_cons_zero, Nat.reduceAdd]
  refine lex_want (by rfl) (step (v := .int .i64 t) (by rfl) (fun w ⟨⟨hss, hsz, hat, _, _, _⟩, hsb, htb, hpb⟩ => by (go_simp; try rfl))) ?_
  simp only [Act.put, List.setIfInBounds_toArray, List.set_cons_succ, List.set_cons_zero, Nat.reduceAdd]
  refine lex_want (by rfl) (tr_call (v := .int .i64 (exc2 N n (g s t) s t)) (f := 103) (args := #[.pointer (some ⟨b, 0, none⟩), .int .i64 (g s t), .int .i64 s, .int .i64 t]) (fun W => At2R W Bs Bt Bp b N n g s t) (by rfl) hCR
    (fun b' w m h => ⟨hJ _ _ _ h.1 (below_drewN (Below.refl _ _) m), h.2⟩) (fun w ⟨hl, _, _, _⟩ => excess2_any hl hg1 (by omega) (by omega)) (fun w => (by go_simp))) ?_
  simp only [Act.put, List.setIfInBounds_toArray, List.set_cons_succ, List.set_cons_zero, Nat.reduceAdd]
  refine lex_want (by rfl) (tr_yield (v := .bool true) (l := l) (args := encW2 (openW N n g s t)) (by rfl) (fun w hC => ?_) (fun w => (by unfold encW2 openW; go_simp))) ?_
  · refine (hY [] (openW N n g s t) w hC.1 hC.2 (by rw [← hx0]; exact ⟨[], rfl⟩)).mono fun e w' h => ⟨h.1, by rw [hx0]; exact h.2.1, Nat.le_trans hC.2 h.2.2.1.1⟩
  simp only [Act.put, List.setIfInBounds_toArray, List.set_cons_succ, List.set_cons_zero, Nat.reduceAdd]
  refine lex_want (by rfl) (step (v := .bool false) (by rfl) (fun w ⟨⟨hss, hsz, hat, _, _, _⟩, hsb, htb, hpb⟩ => by (go_simp; try rfl))) ?_
  simp only [Act.put, List.setIfInBounds_toArray, List.set_cons_succ, List.set_cons_zero, Nat.reduceAdd]
  refine lex_want (by rfl) (step (v := .bool false) (by rfl) (fun w ⟨⟨hss, hsz, hat, _, _, _⟩, hsb, htb, hpb⟩ => by (go_simp; try rfl))) ?_
  simp only [Act.put, List.setIfInBounds_toArray, List.set_cons_succ, List.set_cons_zero, Nat.reduceAdd]
  refine lex_nil fun w0 ⟨hJ', hs'⟩ => ?_
  clear step hCR
  gi_wp2
  have hmany := hmx
  refine Many.region_many (fun _ w => J [x0] w ∧ W1.heap.size ≤ w.heap.size) hmx (by kernel_rfl) (fun _ _ _ _ h => h) (fun s hs => ?_) ?_
  · exact ⟨hJ _ _ _ (by simpa using hJ') ((Below.refl _ _).drew), hs'⟩
  have step : ∀ {k : Nat} {o : Oper} {a : Act} {v : Value}, True → (∀ w, At2R w Bs Bt Bp b N n g s t → (execOp a.eval o).run Try.prog w = .ok (.value v) w) → Many.Tr Try.prog (fun _ w => J [x0] w ∧ W1.heap.size ≤ w.heap.size) k o a v :=
    fun _ h => Many.tr_read (fun W => At2R W Bs Bt Bp b N n g s t) (fun _ w h => hR _ _ h.1) (fun _ _ h => h) h
  refine Many.lex_want (by rfl) (step (v := .int .i64 s) trivial (fun w ⟨⟨hss, hsz, hat, _, _, _⟩, hsb, htb, hpb⟩ => by (go_simp; try rfl))) ?_
  simp only [Act.put, List.setIfInBounds_toArray, List.set_cons_succ, List.set_cons_zero, Nat.reduceAdd]
  refine Many.lex_want (by rfl) (step trivial (fun w ⟨⟨hss, hsz, hat, _, _, _⟩, hsb, htb, hpb⟩ => by (go_simp; try rfl))) ?_
  simp only [Act.put, List.setIfInBounds_toArray, List.set_cons_succ, List.set_cons_zero, Nat.reduceAdd]
  refine Many.lex_want (by rfl) (step trivial (fun w ⟨⟨hss, hsz, hat, _, _, _⟩, hsb, htb, hpb⟩ => by (go_simp; try rfl))) ?_
  simp only [Act.put, List.setIfInBounds_toArray, List.set_cons_succ, List.set_cons_zero, Nat.reduceAdd]
  refine Many.lex_want (by rfl) (step trivial (fun w ⟨⟨hss, hsz, hat, _, _, _⟩, hsb, htb, hpb⟩ => by (go_simp; try rfl))) ?_
  simp only [Act.put, List.setIfInBounds_toArray, List.set_cons_succ, List.set_cons_zero, Nat.reduceAdd]
  refine Many.lex_want (by rfl) (step (v := .int .i64 N) trivial (fun w ⟨⟨hss, hsz, hat, _, _, _⟩, hsb, htb, hpb⟩ => by (go_simp; try rfl))) ?_
  simp only [Act.put, List.setIfInBounds_toArray, List.set_cons_succ, List.set_cons_zero, Nat.reduceAdd]
  refine Many.lex_want (by rfl) (step (v := .bool true) trivial (fun w ⟨⟨hss, hsz, hat, _, _, _⟩, hsb, htb, hpb⟩ => by (go_simp; try (first | rfl | omega | (simp; omega))))) ?_
  simp only [Act.put, List.setIfInBounds_toArray, List.set_cons_succ, List.set_cons_zero, Nat.reduceAdd]
  refine Many.lex_want (by rfl) (step (v := .bool true) trivial (fun w ⟨⟨hss, hsz, hat, _, _, _⟩, hsb, htb, hpb⟩ => by (go_simp; try rfl))) ?_
  simp only [Act.put, List.setIfInBounds_toArray, List.set_cons_succ, List.set_cons_zero, Nat.reduceAdd]
  refine Many.lex_want (by rfl) (step (v := .int .i64 t) trivial (fun w ⟨⟨hss, hsz, hat, _, _, _⟩, hsb, htb, hpb⟩ => by (go_simp; try rfl))) ?_
  simp only [Act.put, List.setIfInBounds_toArray, List.set_cons_succ, List.set_cons_zero, Nat.reduceAdd]
  refine Many.lex_want (by rfl) (step trivial (fun w ⟨⟨hss, hsz, hat, _, _, _⟩, hsb, htb, hpb⟩ => by (go_simp; try rfl))) ?_
  simp only [Act.put, List.setIfInBounds_toArray, List.set_cons_succ, List.set_cons_zero, Nat.reduceAdd]
  refine Many.lex_want (by rfl) (step trivial (fun w ⟨⟨hss, hsz, hat, _, _, _⟩, hsb, htb, hpb⟩ => by (go_simp; try rfl))) ?_
  simp only [Act.put, List.setIfInBounds_toArray, List.set_cons_succ, List.set_cons_zero, Nat.reduceAdd]
  refine Many.lex_want (by rfl) (step trivial (fun w ⟨⟨hss, hsz, hat, _, _, _⟩, hsb, htb, hpb⟩ => by (go_simp; try rfl))) ?_
  simp only [Act.put, List.setIfInBounds_toArray, List.set_cons_succ, List.set_cons_zero, Nat.reduceAdd]
  refine Many.lex_want (by rfl) (step (v := .int .i64 N) trivial (fun w ⟨⟨hss, hsz, hat, _, _, _⟩, hsb, htb, hpb⟩ => by (go_simp; try rfl))) ?_
  simp only [Act.put, List.setIfInBounds_toArray, List.set_cons_succ, List.set_cons_zero, Nat.reduceAdd]
  refine Many.lex_want (by rfl) (step (v := .bool false) trivial (fun w ⟨⟨hss, hsz, hat, _, _, _⟩, hsb, htb, hpb⟩ => by (go_simp; try (first | done | omega | (simp; omega))))) ?_
  simp only [Act.put, List.setIfInBounds_toArray, List.set_cons_succ, List.set_cons_zero, Nat.reduceAdd]
  refine Many.lex_want (by rfl) (step (v := .bool false) trivial (fun w ⟨⟨hss, hsz, hat, _, _, _⟩, hsb, htb, hpb⟩ => by (go_simp; try rfl))) ?_
  simp only [Act.put, List.setIfInBounds_toArray, List.set_cons_succ, List.set_cons_zero, Nat.reduceAdd]
  refine Many.lex_nil fun _ w1 _ ⟨hJ', hs'⟩ => ?_
  clear step
  gi_wp2
  go_end0
  exact ⟨⟨_, rfl⟩, hJ', hs'⟩
set_option maxHeartbeats 2000000 in
set_option maxRecDepth 100000 in
theorem at2_s0_c {b N n s t Bs Bt Bp : Nat} {g : Nat → Nat → Nat} (hs : s ≤ N) (ht : t ≤ N) (h0 : ¬ 0 < s) (h2 : s < N) (h3 : t < N) (W1 : World) :
    Gives Try.prog 102 #[.pointer (some ⟨Bs, 0, none⟩), .pointer (some ⟨Bt, 0, none⟩), .pointer (some ⟨Bp, 0, none⟩)] encW2 (witsAt2 N n g s t) (fun W => At2R W Bs Bt Bp b N n g s t) W1 := by
  intro l J hJ hR hY h0'
  have hmx : Try.prog.follows .mixedOrders = true := by kernel_rfl
  obtain ⟨hL0, _, _, _⟩ := hR _ _ h0'
  have hN := hL0.hN
  have hg1 := hL0.hg s t (by omega) (by omega)
  have hg2 := hL0.hg (s + 1) (t + 1) (by omega) (by omega)
  have hW : witsAt2 N n g s t = [] ++ [closedW N n g s t] := by unfold witsAt2; rw [if_neg (by omega)]; rw [if_pos ⟨h2, h3⟩]
  rw [hW] at hY ⊢
  clear hW
  obtain ⟨x1, hx1⟩ : ∃ x0 : Wit2, x0 = closedW N n g s t := ⟨_, rfl⟩
  rw [← hx1] at hY ⊢
  simp only [List.nil_append, List.append_nil] at hY ⊢
  refine callsIn_of_wp Try.func102 rfl trivial ?_ rfl
  simp only [Try.ntmps102, List.size_toArray, List.length_cons, List.length_nil, Nat.reduceAdd, Nat.reduceSub, Array.replicate_succ, Array.replicate_zero, List.push_toArray, List.append_toArray, List.nil_append, List.cons_append]
  gi_wp2
  have hmany := hmx
  refine Many.region_many (fun _ w => J [] w ∧ W1.heap.size ≤ w.heap.size) hmx (by kernel_rfl) (fun _ _ _ _ h => h) (fun s hs => ?_) ?_
  · exact ⟨hJ _ _ _ (by simpa using h0') ((Below.refl _ _).drew), Nat.le_refl _⟩
  have step : ∀ {k : Nat} {o : Oper} {a : Act} {v : Value}, True → (∀ w, At2R w Bs Bt Bp b N n g s t → (execOp a.eval o).run Try.prog w = .ok (.value v) w) → Many.Tr Try.prog (fun _ w => J [] w ∧ W1.heap.size ≤ w.heap.size) k o a v :=
    fun _ h => Many.tr_read (fun W => At2R W Bs Bt Bp b N n g s t) (fun _ w h => hR _ _ h.1) (fun _ _ h => h) h
  refine Many.lex_want (by rfl) (step (v := .int .i64 s) trivial (fun w ⟨⟨hss, hsz, hat, _, _, _⟩, hsb, htb, hpb⟩ => by (go_simp; try rfl))) ?_
  simp only [Act.put, List.setIfInBounds_toArray, List.set_cons_succ, List.set_cons_zero, Nat.reduceAdd]
  refine Many.lex_want (by rfl) (step (v := .bool false) trivial (fun w ⟨⟨hss, hsz, hat, _, _, _⟩, hsb, htb, hpb⟩ => by (go_simp; try (first | done | omega | (simp; omega))))) ?_
  simp only [Act.put, List.setIfInBounds_toArray, List.set_cons_succ, List.set_cons_zero, Nat.reduceAdd]
  refine Many.lex_want (by rfl) (step (v := .bool false) trivial (fun w ⟨⟨hss, hsz, hat, _, _, _⟩, hsb, htb, hpb⟩ => by (go_simp; try rfl))) ?_
  simp only [Act.put, List.setIfInBounds_toArray, List.set_cons_succ, List.set_cons_zero, Nat.reduceAdd]
  refine At2.lex_skip (by rfl) (fun _ _ h => h) ?_
  simp only [Act.put, List.setIfInBounds_toArray, List.set_cons_succ, List.set_cons_zero, Nat.reduceAdd]
  refine At2.lex_skip (by rfl) (fun _ _ h => h) ?_
  simp only [Act.put, List.setIfInBounds_toArray, List.set_cons_succ, List.set_cons_zero, Nat.reduceAdd]
  refine Many.lex_want (by rfl) (step (v := .bool false) trivial (fun w ⟨⟨hss, hsz, hat, _, _, _⟩, hsb, htb, hpb⟩ => by (go_simp; try rfl))) ?_
  simp only [Act.put, List.setIfInBounds_toArray, List.set_cons_succ, List.set_cons_zero, Nat.reduceAdd]
  refine Many.lex_want (by rfl) (step (v := .bool false) trivial (fun w ⟨⟨hss, hsz, hat, _, _, _⟩, hsb, htb, hpb⟩ => by (go_simp; try rfl))) ?_
  simp only [Act.put, List.setIfInBounds_toArray, List.set_cons_succ, List.set_cons_zero, Nat.reduceAdd]
  refine At2.lex_skip (by rfl) (fun _ _ h => h) ?_
  simp only [Act.put, List.setIfInBounds_toArray, List.set_cons_succ, List.set_cons_zero, Nat.reduceAdd]
  refine At2.lex_skip (by rfl) (fun _ _ h => h) ?_
  simp only [Act.put, List.setIfInBounds_toArray, List.set_cons_succ, List.set_cons_zero, Nat.reduceAdd]
  refine At2.lex_skip (by rfl) (fun _ _ h => h) ?_
  simp only [Act.put, List.setIfInBounds_toArray, List.set_cons_succ, List.set_cons_zero, Nat.reduceAdd]
  refine At2.lex_skip (by rfl) (fun _ _ h => h) ?_
  simp only [Act.put, List.setIfInBounds_toArray, List.set_cons_succ, List.set_cons_zero, Nat.reduceAdd]
  refine At2.lex_skip (by rfl) (fun _ _ h => h) ?_
  simp only [Act.put, List.setIfInBounds_toArray, List.set_cons_succ, List.set_cons_zero, Nat.reduceAdd]
  refine At2.lex_skip (by rfl) (fun _ _ h => h) ?_
  simp only [Act.put, List.setIfInBounds_toArray, List.set_cons_succ, List.set_cons_zero, Nat.reduceAdd]
  refine At2.lex_skip (by rfl) (fun _ _ h => h) ?_
  simp only [Act.put, List.setIfInBounds_toArray, List.set_cons_succ, List.set_cons_zero, Nat.reduceAdd]
  refine At2.lex_skip (by rfl) (fun _ _ h => h) ?_
  simp only [Act.put, List.setIfInBounds_toArray, List.set_cons_succ, List.set_cons_zero, Nat.reduceAdd]
  refine At2.lex_skip (by rfl) (fun _ _ h => h) ?_
  simp only [Act.put, List.setIfInBounds_toArray, List.set_cons_succ, List.set_cons_zero, Nat.reduceAdd]
  refine At2.lex_skip (by rfl) (fun _ _ h => h) ?_
  simp only [Act.put, List.setIfInBounds_toArray, List.set_cons_succ, List.set_cons_zero, Nat.reduceAdd]
  refine At2.lex_skip (by rfl) (fun _ _ h => h) ?_
  simp only [Act.put, List.setIfInBounds_toArray, List.set_cons_succ, List.set_cons_zero, Nat.reduceAdd]
  refine At2.lex_skip (by rfl) (fun _ _ h => h) ?_
  simp only [Act.put, List.setIfInBounds_toArray, List.set_cons_succ, List.set_cons_zero, Nat.reduceAdd]
  refine At2.lex_skip (by rfl) (fun _ _ h => h) ?_
  simp only [Act.put, List.setIfInBounds_toArray, List.set_cons_succ, List.set_cons_zero, Nat.reduceAdd]
  refine At2.lex_skip (by rfl) (fun _ _ h => h) ?_
  simp only [Act.put, List.setIfInBounds_toArray, List.set_cons_succ, List.set_cons_zero, Nat.reduceAdd]
  refine At2.lex_skip (by rfl) (fun _ _ h => h) ?_
  simp only [Act.put, List.setIfInBounds_toArray, List.set_cons_succ, List.set_cons_zero, Nat.reduceAdd]
  refine At2.lex_skip (by rfl) (fun _ _ h => h) ?_
  simp only [Act.put, List.setIfInBounds_toArray, List.set_cons_succ, List.set_cons_zero, Nat.reduceAdd]
  refine At2.lex_skip (by rfl) (fun _ _ h => h) ?_
  simp only [Act.put, List.setIfInBounds_toArray, List.set_cons_succ, List.set_cons_zero, Nat.reduceAdd]
  refine At2.lex_skip (by rfl) (fun _ _ h => h) ?_
  simp only [Act.put, List.setIfInBounds_toArray, List.set_cons_succ, List.set_cons_zero, Nat.reduceAdd]
  refine Many.lex_want (by rfl) (step (v := .bool false) trivial (fun w ⟨⟨hss, hsz, hat, _, _, _⟩, hsb, htb, hpb⟩ => by (go_simp; try rfl))) ?_
  simp only [Act.put, List.setIfInBounds_toArray, List.set_cons_succ, List.set_cons_zero, Nat.reduceAdd]
  refine Many.lex_nil fun _ w0 _ ⟨hJ', hs'⟩ => ?_
  clear step
  gi_wp2
  have hmany := hmx
  refine Many.region_many (fun _ w => J [] w ∧ W1.heap.size ≤ w.heap.size) hmx (by kernel_rfl) (fun _ _ _ _ h => h) (fun s hs => ?_) ?_
  · exact ⟨hJ _ _ _ (by simpa using hJ') ((Below.refl _ _).drew), hs'⟩
  have step : ∀ {k : Nat} {o : Oper} {a : Act} {v : Value}, True → (∀ w, At2R w Bs Bt Bp b N n g s t → (execOp a.eval o).run Try.prog w = .ok (.value v) w) → Many.Tr Try.prog (fun _ w => J [] w ∧ W1.heap.size ≤ w.heap.size) k o a v :=
    fun _ h => Many.tr_read (fun W => At2R W Bs Bt Bp b N n g s t) (fun _ w h => hR _ _ h.1) (fun _ _ h => h) h
  refine Many.lex_want (by rfl) (step (v := .int .i64 s) trivial (fun w ⟨⟨hss, hsz, hat, _, _, _⟩, hsb, htb, hpb⟩ => by (go_simp; try rfl))) ?_
  simp only [Act.put, List.setIfInBounds_toArray, List.set_cons_succ, List.set_cons_zero, Nat.reduceAdd]
  refine Many.lex_want (by rfl) (step trivial (fun w ⟨⟨hss, hsz, hat, _, _, _⟩, hsb, htb, hpb⟩ => by (go_simp; try rfl))) ?_
  simp only [Act.put, List.setIfInBounds_toArray, List.set_cons_succ, List.set_cons_zero, Nat.reduceAdd]
  refine Many.lex_want (by rfl) (step trivial (fun w ⟨⟨hss, hsz, hat, _, _, _⟩, hsb, htb, hpb⟩ => by (go_simp; try rfl))) ?_
  simp only [Act.put, List.setIfInBounds_toArray, List.set_cons_succ, List.set_cons_zero, Nat.reduceAdd]
  refine Many.lex_want (by rfl) (step trivial (fun w ⟨⟨hss, hsz, hat, _, _, _⟩, hsb, htb, hpb⟩ => by (go_simp; try rfl))) ?_
  simp only [Act.put, List.setIfInBounds_toArray, List.set_cons_succ, List.set_cons_zero, Nat.reduceAdd]
  refine Many.lex_want (by rfl) (step (v := .int .i64 N) trivial (fun w ⟨⟨hss, hsz, hat, _, _, _⟩, hsb, htb, hpb⟩ => by (go_simp; try rfl))) ?_
  simp only [Act.put, List.setIfInBounds_toArray, List.set_cons_succ, List.set_cons_zero, Nat.reduceAdd]
  refine Many.lex_want (by rfl) (step (v := .bool true) trivial (fun w ⟨⟨hss, hsz, hat, _, _, _⟩, hsb, htb, hpb⟩ => by (go_simp; try (first | rfl | omega | (simp; omega))))) ?_
  simp only [Act.put, List.setIfInBounds_toArray, List.set_cons_succ, List.set_cons_zero, Nat.reduceAdd]
  refine Many.lex_want (by rfl) (step (v := .bool true) trivial (fun w ⟨⟨hss, hsz, hat, _, _, _⟩, hsb, htb, hpb⟩ => by (go_simp; try rfl))) ?_
  simp only [Act.put, List.setIfInBounds_toArray, List.set_cons_succ, List.set_cons_zero, Nat.reduceAdd]
  refine Many.lex_want (by rfl) (step (v := .int .i64 t) trivial (fun w ⟨⟨hss, hsz, hat, _, _, _⟩, hsb, htb, hpb⟩ => by (go_simp; try rfl))) ?_
  simp only [Act.put, List.setIfInBounds_toArray, List.set_cons_succ, List.set_cons_zero, Nat.reduceAdd]
  refine Many.lex_want (by rfl) (step trivial (fun w ⟨⟨hss, hsz, hat, _, _, _⟩, hsb, htb, hpb⟩ => by (go_simp; try rfl))) ?_
  simp only [Act.put, List.setIfInBounds_toArray, List.set_cons_succ, List.set_cons_zero, Nat.reduceAdd]
  refine Many.lex_want (by rfl) (step trivial (fun w ⟨⟨hss, hsz, hat, _, _, _⟩, hsb, htb, hpb⟩ => by (go_simp; try rfl))) ?_
  simp only [Act.put, List.setIfInBounds_toArray, List.set_cons_succ, List.set_cons_zero, Nat.reduceAdd]
  refine Many.lex_want (by rfl) (step trivial (fun w ⟨⟨hss, hsz, hat, _, _, _⟩, hsb, htb, hpb⟩ => by (go_simp; try rfl))) ?_
  simp only [Act.put, List.setIfInBounds_toArray, List.set_cons_succ, List.set_cons_zero, Nat.reduceAdd]
  refine Many.lex_want (by rfl) (step (v := .int .i64 N) trivial (fun w ⟨⟨hss, hsz, hat, _, _, _⟩, hsb, htb, hpb⟩ => by (go_simp; try rfl))) ?_
  simp only [Act.put, List.setIfInBounds_toArray, List.set_cons_succ, List.set_cons_zero, Nat.reduceAdd]
  refine Many.lex_want (by rfl) (step (v := .bool true) trivial (fun w ⟨⟨hss, hsz, hat, _, _, _⟩, hsb, htb, hpb⟩ => by (go_simp; try (first | rfl | omega | (simp; omega))))) ?_
  simp only [Act.put, List.setIfInBounds_toArray, List.set_cons_succ, List.set_cons_zero, Nat.reduceAdd]
  refine Many.lex_want (by rfl) (step (v := .bool true) trivial (fun w ⟨⟨hss, hsz, hat, _, _, _⟩, hsb, htb, hpb⟩ => by (go_simp; try rfl))) ?_
  simp only [Act.put, List.setIfInBounds_toArray, List.set_cons_succ, List.set_cons_zero, Nat.reduceAdd]
  refine Many.lex_nil fun _ w1 _ ⟨hJ', hs'⟩ => ?_
  clear step
  gi_wp2
  have hw1 : IntKind.i64.wrap ((s : Int) + 1) = (s : Int) + 1 := IntWalk.i64_in _ (by omega)
  have hw2 : IntKind.i64.wrap ((t : Int) + 1) = (t : Int) + 1 := IntWalk.i64_in _ (by omega)
  have hT1 : ((s : Int) + 1).toNat = s + 1 := by omega
  have hT2 : ((t : Int) + 1).toNat = t + 1 := by omega
  refine region_pivot 18 (fun b' w => J (if b' then [x1] else []) w ∧ W1.heap.size ≤ w.heap.size) hmx (by kernel_rfl) (by simp) ?_ ?_
  · exact ⟨hJ _ _ _ (by simpa using hJ') ((Below.refl _ _).drew), hs'⟩
  have hCR : ∀ b' w, (J (if b' = true then [x1] else []) w ∧ W1.heap.size ≤ w.heap.size) → At2R w Bs Bt Bp b N n g s t := fun b' w h => hR _ _ h.1
  have step : ∀ {k : Nat} {o : Oper} {a : Act} {v : Value}, (k == 18) = false → (∀ w, At2R w Bs Bt Bp b N n g s t → (execOp a.eval o).run Try.prog w = .ok (.value v) w) → Tr Try.prog (fun b' w => J (if b' then [x1] else []) w ∧ W1.heap.size ≤ w.heap.size) 18 k o a v :=
    fun hk h => tr_read (fun W => At2R W Bs Bt Bp b N n g s t) hk hCR h
  refine lex_want (by rfl) (step (by rfl) (fun w ⟨⟨hss, hsz, hat, _, _, _⟩, hsb, htb, hpb⟩ => by (go_simp; try rfl))) ?_
  simp only [Act.put, List.setIfInBounds_toArray, List.set_cons_succ, List.set_cons_zero, Nat.reduceAdd]
  refine lex_want (by rfl) (step (v := .int .i64 s) (by rfl) (fun w ⟨⟨hss, hsz, hat, _, _, _⟩, hsb, htb, hpb⟩ => by (go_simp; try rfl))) ?_
  simp only [Act.put, List.setIfInBounds_toArray, List.set_cons_succ, List.set_cons_zero, Nat.reduceAdd]
  refine lex_want (by rfl) (step (v := .int .i64 t) (by rfl) (fun w ⟨⟨hss, hsz, hat, _, _, _⟩, hsb, htb, hpb⟩ => by (go_simp; try rfl))) ?_
  simp only [Act.put, List.setIfInBounds_toArray, List.set_cons_succ, List.set_cons_zero, Nat.reduceAdd]
  refine lex_want (by rfl) (step (v := .agg #[.int .i64 s, .int .i64 t, .bool false]) (by rfl) (fun w ⟨⟨hss, hsz, hat, _, _, _⟩, hsb, htb, hpb⟩ => by (go_simp; try rfl))) ?_
  simp only [Act.put, List.setIfInBounds_toArray, List.set_cons_succ, List.set_cons_zero, Nat.reduceAdd]
  refine lex_want (by rfl) (step (by rfl) (fun w ⟨⟨hss, hsz, hat, _, _, _⟩, hsb, htb, hpb⟩ => by (go_simp; try rfl))) ?_
  simp only [Act.put, List.setIfInBounds_toArray, List.set_cons_succ, List.set_cons_zero, Nat.reduceAdd]
  refine lex_want (by rfl) (step (by rfl) (fun w ⟨⟨hss, hsz, hat, _, _, _⟩, hsb, htb, hpb⟩ => by (go_simp; try rfl))) ?_
  simp only [Act.put, List.setIfInBounds_toArray, List.set_cons_succ, List.set_cons_zero, Nat.reduceAdd]
  refine lex_want (by rfl) (step (v := .int .i64 s) (by rfl) (fun w ⟨⟨hss, hsz, hat, _, _, _⟩, hsb, htb, hpb⟩ => by (go_simp; try rfl))) ?_
  simp only [Act.put, List.setIfInBounds_toArray, List.set_cons_succ, List.set_cons_zero, Nat.reduceAdd]
  refine lex_want (by rfl) (step (v := .int .i64 ((s : Int) + 1)) (by rfl) (fun w ⟨⟨hss, hsz, hat, _, _, _⟩, hsb, htb, hpb⟩ => by (go_simp; try simp [hw1]))) ?_
  simp only [Act.put, List.setIfInBounds_toArray, List.set_cons_succ, List.set_cons_zero, Nat.reduceAdd]
  refine lex_want (by rfl) (step (v := .int .i64 t) (by rfl) (fun w ⟨⟨hss, hsz, hat, _, _, _⟩, hsb, htb, hpb⟩ => by (go_simp; try rfl))) ?_
  simp only [Act.put, List.setIfInBounds_toArray, List.set_cons_succ, List.set_cons_zero, Nat.reduceAdd]
  refine lex_want (by rfl) (step (v := .int .i64 ((t : Int) + 1)) (by rfl) (fun w ⟨⟨hss, hsz, hat, _, _, _⟩, hsb, htb, hpb⟩ => by (go_simp; try simp [hw2]))) ?_
  simp only [Act.put, List.setIfInBounds_toArray, List.set_cons_succ, List.set_cons_zero, Nat.reduceAdd]
  refine lex_want (by rfl) (step (by rfl) (fun w ⟨⟨hss, hsz, hat, _, _, _⟩, hsb, htb, hpb⟩ => by (go_simp; try rfl))) ?_
  simp only [Act.put, List.setIfInBounds_toArray, List.set_cons_succ, List.set_cons_zero, Nat.reduceAdd]
  refine lex_want (by rfl) (step (by rfl) (fun w ⟨⟨hss, hsz, hat, _, _, _⟩, hsb, htb, hpb⟩ => by (go_simp; try rfl))) ?_
  simp only [Act.put, List.setIfInBounds_toArray, List.set_cons_succ, List.set_cons_zero, Nat.reduceAdd]
  refine lex_want (by rfl) (step (v := .pointer (some ⟨b, 2 + (s + 1) * 101, none⟩)) (by rfl) (fun w ⟨⟨hss, hsz, hat, _, _, _⟩, hsb, htb, hpb⟩ => by (go_simp; (try (first | done | omega | (intros; omega)))))) ?_
  simp only [Act.put, List.setIfInBounds_toArray, List.set_cons_succ, List.set_cons_zero, Nat.reduceAdd]
  refine lex_want (by rfl) (step (v := .pointer (some ⟨b, 2 + (s + 1) * 101 + (t + 1), none⟩)) (by rfl) (fun w ⟨⟨hss, hsz, hat, _, _, _⟩, hsb, htb, hpb⟩ => by (go_simp; (try (first | done | omega | (intros; omega)))))) ?_
  simp only [Act.put, List.setIfInBounds_toArray, List.set_cons_succ, List.set_cons_zero, Nat.reduceAdd]
  refine lex_want (by rfl) (step (v := .int .i64 (g (s + 1) (t + 1))) (by rfl) (fun w ⟨⟨hss, hsz, hat, _, _, _⟩, hsb, htb, hpb⟩ => by (have hc1 := hat (s + 1) (t + 1) (by omega) (by omega); go_simp; try rfl))) ?_
  simp only [Act.put, List.setIfInBounds_toArray, List.set_cons_succ, List.set_cons_zero, Nat.reduceAdd]
  refine lex_want (by rfl) (step (v := .int .i64 s) (by rfl) (fun w ⟨⟨hss, hsz, hat, _, _, _⟩, hsb, htb, hpb⟩ => by (go_simp; try rfl))) ?_
  simp only [Act.put, List.setIfInBounds_toArray, List.set_cons_succ, List.set_cons_zero, Nat.reduceAdd]
  refine lex_want (by rfl) (step (v := .int .i64 t) (by rfl) (fun w ⟨⟨hss, hsz, hat, _, _, _⟩, hsb, htb, hpb⟩ => by (go_simp; try rfl))) ?_
  simp only [Act.put, List.setIfInBounds_toArray, List.set_cons_succ, List.set_cons_zero, Nat.reduceAdd]
  refine lex_want (by rfl) (tr_call (v := .int .i64 (exc2 N n (g (s + 1) (t + 1)) s t)) (f := 103) (args := #[.pointer (some ⟨b, 0, none⟩), .int .i64 (g (s + 1) (t + 1)), .int .i64 s, .int .i64 t]) (fun W => At2R W Bs Bt Bp b N n g s t) (by rfl) hCR
    (fun b' w m h => ⟨hJ _ _ _ h.1 (below_drewN (Below.refl _ _) m), h.2⟩) (fun w ⟨hl, _, _, _⟩ => excess2_any hl hg2 (by omega) (by omega)) (fun w => (by go_simp))) ?_
  simp only [Act.put, List.setIfInBounds_toArray, List.set_cons_succ, List.set_cons_zero, Nat.reduceAdd]
  refine lex_want (by rfl) (tr_yield (v := .bool true) (l := l) (args := encW2 (closedW N n g s t)) (by rfl) (fun w hC => ?_) (fun w => (by unfold encW2 closedW; go_simp))) ?_
  · refine (hY [] (closedW N n g s t) w hC.1 hC.2 (by rw [← hx1]; exact ⟨[], rfl⟩)).mono fun e w' h => ⟨h.1, by rw [hx1]; simpa using h.2.1, Nat.le_trans hC.2 h.2.2.1.1⟩
  simp only [Act.put, List.setIfInBounds_toArray, List.set_cons_succ, List.set_cons_zero, Nat.reduceAdd]
  refine lex_nil fun w2 ⟨hJ', hs'⟩ => ?_
  gi_wp2
  go_end0
  exact ⟨⟨_, rfl⟩, hJ', hs'⟩
set_option maxHeartbeats 2000000 in
set_option maxRecDepth 100000 in
theorem at2_s0_sN {b N n s t Bs Bt Bp : Nat} {g : Nat → Nat → Nat} (hs : s ≤ N) (ht : t ≤ N) (h0 : ¬ 0 < s) (h2 : ¬ s < N) (W1 : World) :
    Gives Try.prog 102 #[.pointer (some ⟨Bs, 0, none⟩), .pointer (some ⟨Bt, 0, none⟩), .pointer (some ⟨Bp, 0, none⟩)] encW2 (witsAt2 N n g s t) (fun W => At2R W Bs Bt Bp b N n g s t) W1 := by
  intro l J hJ hR hY h0'
  have hmx : Try.prog.follows .mixedOrders = true := by kernel_rfl
  obtain ⟨hL0, _, _, _⟩ := hR _ _ h0'
  have hN := hL0.hN
  have hg1 := hL0.hg s t (by omega) (by omega)
  have hW : witsAt2 N n g s t = [] ++ [] := by unfold witsAt2; rw [if_neg (by omega)]; rw [if_neg (by omega)]
  rw [hW] at hY ⊢
  clear hW
  simp only [List.nil_append, List.append_nil] at hY ⊢
  refine callsIn_of_wp Try.func102 rfl trivial ?_ rfl
  simp only [Try.ntmps102, List.size_toArray, List.length_cons, List.length_nil, Nat.reduceAdd, Nat.reduceSub, Array.replicate_succ, Array.replicate_zero, List.push_toArray, List.append_toArray, List.nil_append, List.cons_append]
  gi_wp2
  have hmany := hmx
  refine Many.region_many (fun _ w => J [] w ∧ W1.heap.size ≤ w.heap.size) hmx (by kernel_rfl) (fun _ _ _ _ h => h) (fun s hs => ?_) ?_
  · exact ⟨hJ _ _ _ (by simpa using h0') ((Below.refl _ _).drew), Nat.le_refl _⟩
  have step : ∀ {k : Nat} {o : Oper} {a : Act} {v : Value}, True → (∀ w, At2R w Bs Bt Bp b N n g s t → (execOp a.eval o).run Try.prog w = .ok (.value v) w) → Many.Tr Try.prog (fun _ w => J [] w ∧ W1.heap.size ≤ w.heap.size) k o a v :=
    fun _ h => Many.tr_read (fun W => At2R W Bs Bt Bp b N n g s t) (fun _ w h => hR _ _ h.1) (fun _ _ h => h) h
  refine Many.lex_want (by rfl) (step (v := .int .i64 s) trivial (fun w ⟨⟨hss, hsz, hat, _, _, _⟩, hsb, htb, hpb⟩ => by (go_simp; try rfl))) ?_
  simp only [Act.put, List.setIfInBounds_toArray, List.set_cons_succ, List.set_cons_zero, Nat.reduceAdd]
  refine Many.lex_want (by rfl) (step (v := .bool false) trivial (fun w ⟨⟨hss, hsz, hat, _, _, _⟩, hsb, htb, hpb⟩ => by (go_simp; try (first | done | omega | (simp; omega))))) ?_
  simp only [Act.put, List.setIfInBounds_toArray, List.set_cons_succ, List.set_cons_zero, Nat.reduceAdd]
  refine Many.lex_want (by rfl) (step (v := .bool false) trivial (fun w ⟨⟨hss, hsz, hat, _, _, _⟩, hsb, htb, hpb⟩ => by (go_simp; try rfl))) ?_
  simp only [Act.put, List.setIfInBounds_toArray, List.set_cons_succ, List.set_cons_zero, Nat.reduceAdd]
  refine At2.lex_skip (by rfl) (fun _ _ h => h) ?_
  simp only [Act.put, List.setIfInBounds_toArray, List.set_cons_succ, List.set_cons_zero, Nat.reduceAdd]
  refine At2.lex_skip (by rfl) (fun _ _ h => h) ?_
  simp only [Act.put, List.setIfInBounds_toArray, List.set_cons_succ, List.set_cons_zero, Nat.reduceAdd]
  refine Many.lex_want (by rfl) (step (v := .bool false) trivial (fun w ⟨⟨hss, hsz, hat, _, _, _⟩, hsb, htb, hpb⟩ => by (go_simp; try rfl))) ?_
  simp only [Act.put, List.setIfInBounds_toArray, List.set_cons_succ, List.set_cons_zero, Nat.reduceAdd]
  refine Many.lex_want (by rfl) (step (v := .bool false) trivial (fun w ⟨⟨hss, hsz, hat, _, _, _⟩, hsb, htb, hpb⟩ => by (go_simp; try rfl))) ?_
  simp only [Act.put, List.setIfInBounds_toArray, List.set_cons_succ, List.set_cons_zero, Nat.reduceAdd]
  refine At2.lex_skip (by rfl) (fun _ _ h => h) ?_
  simp only [Act.put, List.setIfInBounds_toArray, List.set_cons_succ, List.set_cons_zero, Nat.reduceAdd]
  refine At2.lex_skip (by rfl) (fun _ _ h => h) ?_
  simp only [Act.put, List.setIfInBounds_toArray, List.set_cons_succ, List.set_cons_zero, Nat.reduceAdd]
  refine At2.lex_skip (by rfl) (fun _ _ h => h) ?_
  simp only [Act.put, List.setIfInBounds_toArray, List.set_cons_succ, List.set_cons_zero, Nat.reduceAdd]
  refine At2.lex_skip (by rfl) (fun _ _ h => h) ?_
  simp only [Act.put, List.setIfInBounds_toArray, List.set_cons_succ, List.set_cons_zero, Nat.reduceAdd]
  refine At2.lex_skip (by rfl) (fun _ _ h => h) ?_
  simp only [Act.put, List.setIfInBounds_toArray, List.set_cons_succ, List.set_cons_zero, Nat.reduceAdd]
  refine At2.lex_skip (by rfl) (fun _ _ h => h) ?_
  simp only [Act.put, List.setIfInBounds_toArray, List.set_cons_succ, List.set_cons_zero, Nat.reduceAdd]
  refine At2.lex_skip (by rfl) (fun _ _ h => h) ?_
  simp only [Act.put, List.setIfInBounds_toArray, List.set_cons_succ, List.set_cons_zero, Nat.reduceAdd]
  refine At2.lex_skip (by rfl) (fun _ _ h => h) ?_
  simp only [Act.put, List.setIfInBounds_toArray, List.set_cons_succ, List.set_cons_zero, Nat.reduceAdd]
  refine At2.lex_skip (by rfl) (fun _ _ h => h) ?_
  simp only [Act.put, List.setIfInBounds_toArray, List.set_cons_succ, List.set_cons_zero, Nat.reduceAdd]
  refine At2.lex_skip (by rfl) (fun _ _ h => h) ?_
  simp only [Act.put, List.setIfInBounds_toArray, List.set_cons_succ, List.set_cons_zero, Nat.reduceAdd]
  refine At2.lex_skip (by rfl) (fun _ _ h => h) ?_
  simp only [Act.put, List.setIfInBounds_toArray, List.set_cons_succ, List.set_cons_zero, Nat.reduceAdd]
  refine At2.lex_skip (by rfl) (fun _ _ h => h) ?_
  simp only [Act.put, List.setIfInBounds_toArray, List.set_cons_succ, List.set_cons_zero, Nat.reduceAdd]
  refine At2.lex_skip (by rfl) (fun _ _ h => h) ?_
  simp only [Act.put, List.setIfInBounds_toArray, List.set_cons_succ, List.set_cons_zero, Nat.reduceAdd]
  refine At2.lex_skip (by rfl) (fun _ _ h => h) ?_
  simp only [Act.put, List.setIfInBounds_toArray, List.set_cons_succ, List.set_cons_zero, Nat.reduceAdd]
  refine At2.lex_skip (by rfl) (fun _ _ h => h) ?_
  simp only [Act.put, List.setIfInBounds_toArray, List.set_cons_succ, List.set_cons_zero, Nat.reduceAdd]
  refine At2.lex_skip (by rfl) (fun _ _ h => h) ?_
  simp only [Act.put, List.setIfInBounds_toArray, List.set_cons_succ, List.set_cons_zero, Nat.reduceAdd]
  refine At2.lex_skip (by rfl) (fun _ _ h => h) ?_
  simp only [Act.put, List.setIfInBounds_toArray, List.set_cons_succ, List.set_cons_zero, Nat.reduceAdd]
  refine At2.lex_skip (by rfl) (fun _ _ h => h) ?_
  simp only [Act.put, List.setIfInBounds_toArray, List.set_cons_succ, List.set_cons_zero, Nat.reduceAdd]
  refine Many.lex_want (by rfl) (step (v := .bool false) trivial (fun w ⟨⟨hss, hsz, hat, _, _, _⟩, hsb, htb, hpb⟩ => by (go_simp; try rfl))) ?_
  simp only [Act.put, List.setIfInBounds_toArray, List.set_cons_succ, List.set_cons_zero, Nat.reduceAdd]
  refine Many.lex_nil fun _ w0 _ ⟨hJ', hs'⟩ => ?_
  clear step
  gi_wp2
  have hmany := hmx
  refine Many.region_many (fun _ w => J [] w ∧ W1.heap.size ≤ w.heap.size) hmx (by kernel_rfl) (fun _ _ _ _ h => h) (fun s hs => ?_) ?_
  · exact ⟨hJ _ _ _ (by simpa using hJ') ((Below.refl _ _).drew), hs'⟩
  have step : ∀ {k : Nat} {o : Oper} {a : Act} {v : Value}, True → (∀ w, At2R w Bs Bt Bp b N n g s t → (execOp a.eval o).run Try.prog w = .ok (.value v) w) → Many.Tr Try.prog (fun _ w => J [] w ∧ W1.heap.size ≤ w.heap.size) k o a v :=
    fun _ h => Many.tr_read (fun W => At2R W Bs Bt Bp b N n g s t) (fun _ w h => hR _ _ h.1) (fun _ _ h => h) h
  refine Many.lex_want (by rfl) (step (v := .int .i64 s) trivial (fun w ⟨⟨hss, hsz, hat, _, _, _⟩, hsb, htb, hpb⟩ => by (go_simp; try rfl))) ?_
  simp only [Act.put, List.setIfInBounds_toArray, List.set_cons_succ, List.set_cons_zero, Nat.reduceAdd]
  refine Many.lex_want (by rfl) (step trivial (fun w ⟨⟨hss, hsz, hat, _, _, _⟩, hsb, htb, hpb⟩ => by (go_simp; try rfl))) ?_
  simp only [Act.put, List.setIfInBounds_toArray, List.set_cons_succ, List.set_cons_zero, Nat.reduceAdd]
  refine Many.lex_want (by rfl) (step trivial (fun w ⟨⟨hss, hsz, hat, _, _, _⟩, hsb, htb, hpb⟩ => by (go_simp; try rfl))) ?_
  simp only [Act.put, List.setIfInBounds_toArray, List.set_cons_succ, List.set_cons_zero, Nat.reduceAdd]
  refine Many.lex_want (by rfl) (step trivial (fun w ⟨⟨hss, hsz, hat, _, _, _⟩, hsb, htb, hpb⟩ => by (go_simp; try rfl))) ?_
  simp only [Act.put, List.setIfInBounds_toArray, List.set_cons_succ, List.set_cons_zero, Nat.reduceAdd]
  refine Many.lex_want (by rfl) (step (v := .int .i64 N) trivial (fun w ⟨⟨hss, hsz, hat, _, _, _⟩, hsb, htb, hpb⟩ => by (go_simp; try rfl))) ?_
  simp only [Act.put, List.setIfInBounds_toArray, List.set_cons_succ, List.set_cons_zero, Nat.reduceAdd]
  refine Many.lex_want (by rfl) (step (v := .bool false) trivial (fun w ⟨⟨hss, hsz, hat, _, _, _⟩, hsb, htb, hpb⟩ => by (go_simp; try (first | done | omega | (simp; omega))))) ?_
  simp only [Act.put, List.setIfInBounds_toArray, List.set_cons_succ, List.set_cons_zero, Nat.reduceAdd]
  refine Many.lex_want (by rfl) (step (v := .bool false) trivial (fun w ⟨⟨hss, hsz, hat, _, _, _⟩, hsb, htb, hpb⟩ => by (go_simp; try rfl))) ?_
  simp only [Act.put, List.setIfInBounds_toArray, List.set_cons_succ, List.set_cons_zero, Nat.reduceAdd]
  refine At2.lex_skip (by rfl) (fun _ _ h => h) ?_
  simp only [Act.put, List.setIfInBounds_toArray, List.set_cons_succ, List.set_cons_zero, Nat.reduceAdd]
  refine At2.lex_skip (by rfl) (fun _ _ h => h) ?_
  simp only [Act.put, List.setIfInBounds_toArray, List.set_cons_succ, List.set_cons_zero, Nat.reduceAdd]
  refine At2.lex_skip (by rfl) (fun _ _ h => h) ?_
  simp only [Act.put, List.setIfInBounds_toArray, List.set_cons_succ, List.set_cons_zero, Nat.reduceAdd]
  refine At2.lex_skip (by rfl) (fun _ _ h => h) ?_
  simp only [Act.put, List.setIfInBounds_toArray, List.set_cons_succ, List.set_cons_zero, Nat.reduceAdd]
  refine At2.lex_skip (by rfl) (fun _ _ h => h) ?_
  simp only [Act.put, List.setIfInBounds_toArray, List.set_cons_succ, List.set_cons_zero, Nat.reduceAdd]
  refine At2.lex_skip (by rfl) (fun _ _ h => h) ?_
  simp only [Act.put, List.setIfInBounds_toArray, List.set_cons_succ, List.set_cons_zero, Nat.reduceAdd]
  refine Many.lex_want (by rfl) (step (v := .bool false) trivial (fun w ⟨⟨hss, hsz, hat, _, _, _⟩, hsb, htb, hpb⟩ => by (go_simp; try rfl))) ?_
  simp only [Act.put, List.setIfInBounds_toArray, List.set_cons_succ, List.set_cons_zero, Nat.reduceAdd]
  refine Many.lex_nil fun _ w1 _ ⟨hJ', hs'⟩ => ?_
  clear step
  gi_wp2
  go_end0
  exact ⟨⟨_, rfl⟩, hJ', hs'⟩
set_option maxHeartbeats 2000000 in
set_option maxRecDepth 100000 in
theorem at2_s0_tN {b N n s t Bs Bt Bp : Nat} {g : Nat → Nat → Nat} (hs : s ≤ N) (ht : t ≤ N) (h0 : ¬ 0 < s) (h2 : s < N) (h3 : ¬ t < N) (W1 : World) :
    Gives Try.prog 102 #[.pointer (some ⟨Bs, 0, none⟩), .pointer (some ⟨Bt, 0, none⟩), .pointer (some ⟨Bp, 0, none⟩)] encW2 (witsAt2 N n g s t) (fun W => At2R W Bs Bt Bp b N n g s t) W1 := by
  intro l J hJ hR hY h0'
  have hmx : Try.prog.follows .mixedOrders = true := by kernel_rfl
  obtain ⟨hL0, _, _, _⟩ := hR _ _ h0'
  have hN := hL0.hN
  have hg1 := hL0.hg s t (by omega) (by omega)
  have hW : witsAt2 N n g s t = [] ++ [] := by unfold witsAt2; rw [if_neg (by omega)]; rw [if_neg (by omega)]
  rw [hW] at hY ⊢
  clear hW
  simp only [List.nil_append, List.append_nil] at hY ⊢
  refine callsIn_of_wp Try.func102 rfl trivial ?_ rfl
  simp only [Try.ntmps102, List.size_toArray, List.length_cons, List.length_nil, Nat.reduceAdd, Nat.reduceSub, Array.replicate_succ, Array.replicate_zero, List.push_toArray, List.append_toArray, List.nil_append, List.cons_append]
  gi_wp2
  have hmany := hmx
  refine Many.region_many (fun _ w => J [] w ∧ W1.heap.size ≤ w.heap.size) hmx (by kernel_rfl) (fun _ _ _ _ h => h) (fun s hs => ?_) ?_
  · exact ⟨hJ _ _ _ (by simpa using h0') ((Below.refl _ _).drew), Nat.le_refl _⟩
  have step : ∀ {k : Nat} {o : Oper} {a : Act} {v : Value}, True → (∀ w, At2R w Bs Bt Bp b N n g s t → (execOp a.eval o).run Try.prog w = .ok (.value v) w) → Many.Tr Try.prog (fun _ w => J [] w ∧ W1.heap.size ≤ w.heap.size) k o a v :=
    fun _ h => Many.tr_read (fun W => At2R W Bs Bt Bp b N n g s t) (fun _ w h => hR _ _ h.1) (fun _ _ h => h) h
  refine Many.lex_want (by rfl) (step (v := .int .i64 s) trivial (fun w ⟨⟨hss, hsz, hat, _, _, _⟩, hsb, htb, hpb⟩ => by (go_simp; try rfl))) ?_
  simp only [Act.put, List.setIfInBounds_toArray, List.set_cons_succ, List.set_cons_zero, Nat.reduceAdd]
  refine Many.lex_want (by rfl) (step (v := .bool false) trivial (fun w ⟨⟨hss, hsz, hat, _, _, _⟩, hsb, htb, hpb⟩ => by (go_simp; try (first | done | omega | (simp; omega))))) ?_
  simp only [Act.put, List.setIfInBounds_toArray, List.set_cons_succ, List.set_cons_zero, Nat.reduceAdd]
  refine Many.lex_want (by rfl) (step (v := .bool false) trivial (fun w ⟨⟨hss, hsz, hat, _, _, _⟩, hsb, htb, hpb⟩ => by (go_simp; try rfl))) ?_
  simp only [Act.put, List.setIfInBounds_toArray, List.set_cons_succ, List.set_cons_zero, Nat.reduceAdd]
  refine At2.lex_skip (by rfl) (fun _ _ h => h) ?_
  simp only [Act.put, List.setIfInBounds_toArray, List.set_cons_succ, List.set_cons_zero, Nat.reduceAdd]
  refine At2.lex_skip (by rfl) (fun _ _ h => h) ?_
  simp only [Act.put, List.setIfInBounds_toArray, List.set_cons_succ, List.set_cons_zero, Nat.reduceAdd]
  refine Many.lex_want (by rfl) (step (v := .bool false) trivial (fun w ⟨⟨hss, hsz, hat, _, _, _⟩, hsb, htb, hpb⟩ => by (go_simp; try rfl))) ?_
  simp only [Act.put, List.setIfInBounds_toArray, List.set_cons_succ, List.set_cons_zero, Nat.reduceAdd]
  refine Many.lex_want (by rfl) (step (v := .bool false) trivial (fun w ⟨⟨hss, hsz, hat, _, _, _⟩, hsb, htb, hpb⟩ => by (go_simp; try rfl))) ?_
  simp only [Act.put, List.setIfInBounds_toArray, List.set_cons_succ, List.set_cons_zero, Nat.reduceAdd]
  refine At2.lex_skip (by rfl) (fun _ _ h => h) ?_
  simp only [Act.put, List.setIfInBounds_toArray, List.set_cons_succ, List.set_cons_zero, Nat.reduceAdd]
  refine At2.lex_skip (by rfl) (fun _ _ h => h) ?_
  simp only [Act.put, List.setIfInBounds_toArray, List.set_cons_succ, List.set_cons_zero, Nat.reduceAdd]
  refine At2.lex_skip (by rfl) (fun _ _ h => h) ?_
  simp only [Act.put, List.setIfInBounds_toArray, List.set_cons_succ, List.set_cons_zero, Nat.reduceAdd]
  refine At2.lex_skip (by rfl) (fun _ _ h => h) ?_
  simp only [Act.put, List.setIfInBounds_toArray, List.set_cons_succ, List.set_cons_zero, Nat.reduceAdd]
  refine At2.lex_skip (by rfl) (fun _ _ h => h) ?_
  simp only [Act.put, List.setIfInBounds_toArray, List.set_cons_succ, List.set_cons_zero, Nat.reduceAdd]
  refine At2.lex_skip (by rfl) (fun _ _ h => h) ?_
  simp only [Act.put, List.setIfInBounds_toArray, List.set_cons_succ, List.set_cons_zero, Nat.reduceAdd]
  refine At2.lex_skip (by rfl) (fun _ _ h => h) ?_
  simp only [Act.put, List.setIfInBounds_toArray, List.set_cons_succ, List.set_cons_zero, Nat.reduceAdd]
  refine At2.lex_skip (by rfl) (fun _ _ h => h) ?_
  simp only [Act.put, List.setIfInBounds_toArray, List.set_cons_succ, List.set_cons_zero, Nat.reduceAdd]
  refine At2.lex_skip (by rfl) (fun _ _ h => h) ?_
  simp only [Act.put, List.setIfInBounds_toArray, List.set_cons_succ, List.set_cons_zero, Nat.reduceAdd]
  refine At2.lex_skip (by rfl) (fun _ _ h => h) ?_
  simp only [Act.put, List.setIfInBounds_toArray, List.set_cons_succ, List.set_cons_zero, Nat.reduceAdd]
  refine At2.lex_skip (by rfl) (fun _ _ h => h) ?_
  simp only [Act.put, List.setIfInBounds_toArray, List.set_cons_succ, List.set_cons_zero, Nat.reduceAdd]
  refine At2.lex_skip (by rfl) (fun _ _ h => h) ?_
  simp only [Act.put, List.setIfInBounds_toArray, List.set_cons_succ, List.set_cons_zero, Nat.reduceAdd]
  refine At2.lex_skip (by rfl) (fun _ _ h => h) ?_
  simp only [Act.put, List.setIfInBounds_toArray, List.set_cons_succ, List.set_cons_zero, Nat.reduceAdd]
  refine At2.lex_skip (by rfl) (fun _ _ h => h) ?_
  simp only [Act.put, List.setIfInBounds_toArray, List.set_cons_succ, List.set_cons_zero, Nat.reduceAdd]
  refine At2.lex_skip (by rfl) (fun _ _ h => h) ?_
  simp only [Act.put, List.setIfInBounds_toArray, List.set_cons_succ, List.set_cons_zero, Nat.reduceAdd]
  refine At2.lex_skip (by rfl) (fun _ _ h => h) ?_
  simp only [Act.put, List.setIfInBounds_toArray, List.set_cons_succ, List.set_cons_zero, Nat.reduceAdd]
  refine At2.lex_skip (by rfl) (fun _ _ h => h) ?_
  simp only [Act.put, List.setIfInBounds_toArray, List.set_cons_succ, List.set_cons_zero, Nat.reduceAdd]
  refine At2.lex_skip (by rfl) (fun _ _ h => h) ?_
  simp only [Act.put, List.setIfInBounds_toArray, List.set_cons_succ, List.set_cons_zero, Nat.reduceAdd]
  refine Many.lex_want (by rfl) (step (v := .bool false) trivial (fun w ⟨⟨hss, hsz, hat, _, _, _⟩, hsb, htb, hpb⟩ => by (go_simp; try rfl))) ?_
  simp only [Act.put, List.setIfInBounds_toArray, List.set_cons_succ, List.set_cons_zero, Nat.reduceAdd]
  refine Many.lex_nil fun _ w0 _ ⟨hJ', hs'⟩ => ?_
  clear step
  gi_wp2
  have hmany := hmx
  refine Many.region_many (fun _ w => J [] w ∧ W1.heap.size ≤ w.heap.size) hmx (by kernel_rfl) (fun _ _ _ _ h => h) (fun s hs => ?_) ?_
  · exact ⟨hJ _ _ _ (by simpa using hJ') ((Below.refl _ _).drew), hs'⟩
  have step : ∀ {k : Nat} {o : Oper} {a : Act} {v : Value}, True → (∀ w, At2R w Bs Bt Bp b N n g s t → (execOp a.eval o).run Try.prog w = .ok (.value v) w) → Many.Tr Try.prog (fun _ w => J [] w ∧ W1.heap.size ≤ w.heap.size) k o a v :=
    fun _ h => Many.tr_read (fun W => At2R W Bs Bt Bp b N n g s t) (fun _ w h => hR _ _ h.1) (fun _ _ h => h) h
  refine Many.lex_want (by rfl) (step (v := .int .i64 s) trivial (fun w ⟨⟨hss, hsz, hat, _, _, _⟩, hsb, htb, hpb⟩ => by (go_simp; try rfl))) ?_
  simp only [Act.put, List.setIfInBounds_toArray, List.set_cons_succ, List.set_cons_zero, Nat.reduceAdd]
  refine Many.lex_want (by rfl) (step trivial (fun w ⟨⟨hss, hsz, hat, _, _, _⟩, hsb, htb, hpb⟩ => by (go_simp; try rfl))) ?_
  simp only [Act.put, List.setIfInBounds_toArray, List.set_cons_succ, List.set_cons_zero, Nat.reduceAdd]
  refine Many.lex_want (by rfl) (step trivial (fun w ⟨⟨hss, hsz, hat, _, _, _⟩, hsb, htb, hpb⟩ => by (go_simp; try rfl))) ?_
  simp only [Act.put, List.setIfInBounds_toArray, List.set_cons_succ, List.set_cons_zero, Nat.reduceAdd]
  refine Many.lex_want (by rfl) (step trivial (fun w ⟨⟨hss, hsz, hat, _, _, _⟩, hsb, htb, hpb⟩ => by (go_simp; try rfl))) ?_
  simp only [Act.put, List.setIfInBounds_toArray, List.set_cons_succ, List.set_cons_zero, Nat.reduceAdd]
  refine Many.lex_want (by rfl) (step (v := .int .i64 N) trivial (fun w ⟨⟨hss, hsz, hat, _, _, _⟩, hsb, htb, hpb⟩ => by (go_simp; try rfl))) ?_
  simp only [Act.put, List.setIfInBounds_toArray, List.set_cons_succ, List.set_cons_zero, Nat.reduceAdd]
  refine Many.lex_want (by rfl) (step (v := .bool true) trivial (fun w ⟨⟨hss, hsz, hat, _, _, _⟩, hsb, htb, hpb⟩ => by (go_simp; try (first | rfl | omega | (simp; omega))))) ?_
  simp only [Act.put, List.setIfInBounds_toArray, List.set_cons_succ, List.set_cons_zero, Nat.reduceAdd]
  refine Many.lex_want (by rfl) (step (v := .bool true) trivial (fun w ⟨⟨hss, hsz, hat, _, _, _⟩, hsb, htb, hpb⟩ => by (go_simp; try rfl))) ?_
  simp only [Act.put, List.setIfInBounds_toArray, List.set_cons_succ, List.set_cons_zero, Nat.reduceAdd]
  refine Many.lex_want (by rfl) (step (v := .int .i64 t) trivial (fun w ⟨⟨hss, hsz, hat, _, _, _⟩, hsb, htb, hpb⟩ => by (go_simp; try rfl))) ?_
  simp only [Act.put, List.setIfInBounds_toArray, List.set_cons_succ, List.set_cons_zero, Nat.reduceAdd]
  refine Many.lex_want (by rfl) (step trivial (fun w ⟨⟨hss, hsz, hat, _, _, _⟩, hsb, htb, hpb⟩ => by (go_simp; try rfl))) ?_
  simp only [Act.put, List.setIfInBounds_toArray, List.set_cons_succ, List.set_cons_zero, Nat.reduceAdd]
  refine Many.lex_want (by rfl) (step trivial (fun w ⟨⟨hss, hsz, hat, _, _, _⟩, hsb, htb, hpb⟩ => by (go_simp; try rfl))) ?_
  simp only [Act.put, List.setIfInBounds_toArray, List.set_cons_succ, List.set_cons_zero, Nat.reduceAdd]
  refine Many.lex_want (by rfl) (step trivial (fun w ⟨⟨hss, hsz, hat, _, _, _⟩, hsb, htb, hpb⟩ => by (go_simp; try rfl))) ?_
  simp only [Act.put, List.setIfInBounds_toArray, List.set_cons_succ, List.set_cons_zero, Nat.reduceAdd]
  refine Many.lex_want (by rfl) (step (v := .int .i64 N) trivial (fun w ⟨⟨hss, hsz, hat, _, _, _⟩, hsb, htb, hpb⟩ => by (go_simp; try rfl))) ?_
  simp only [Act.put, List.setIfInBounds_toArray, List.set_cons_succ, List.set_cons_zero, Nat.reduceAdd]
  refine Many.lex_want (by rfl) (step (v := .bool false) trivial (fun w ⟨⟨hss, hsz, hat, _, _, _⟩, hsb, htb, hpb⟩ => by (go_simp; try (first | done | omega | (simp; omega))))) ?_
  simp only [Act.put, List.setIfInBounds_toArray, List.set_cons_succ, List.set_cons_zero, Nat.reduceAdd]
  refine Many.lex_want (by rfl) (step (v := .bool false) trivial (fun w ⟨⟨hss, hsz, hat, _, _, _⟩, hsb, htb, hpb⟩ => by (go_simp; try rfl))) ?_
  simp only [Act.put, List.setIfInBounds_toArray, List.set_cons_succ, List.set_cons_zero, Nat.reduceAdd]
  refine Many.lex_nil fun _ w1 _ ⟨hJ', hs'⟩ => ?_
  clear step
  gi_wp2
  go_end0
  exact ⟨⟨_, rfl⟩, hJ', hs'⟩
set_option maxHeartbeats 2000000 in
set_option maxRecDepth 100000 in
theorem at2_t0_c {b N n s t Bs Bt Bp : Nat} {g : Nat → Nat → Nat} (hs : s ≤ N) (ht : t ≤ N) (h0 : 0 < s) (h1 : ¬ 0 < t) (h2 : s < N) (h3 : t < N) (W1 : World) :
    Gives Try.prog 102 #[.pointer (some ⟨Bs, 0, none⟩), .pointer (some ⟨Bt, 0, none⟩), .pointer (some ⟨Bp, 0, none⟩)] encW2 (witsAt2 N n g s t) (fun W => At2R W Bs Bt Bp b N n g s t) W1 := by
  intro l J hJ hR hY h0'
  have hmx : Try.prog.follows .mixedOrders = true := by kernel_rfl
  obtain ⟨hL0, _, _, _⟩ := hR _ _ h0'
  have hN := hL0.hN
  have hg1 := hL0.hg s t (by omega) (by omega)
  have hg2 := hL0.hg (s + 1) (t + 1) (by omega) (by omega)
  have hW : witsAt2 N n g s t = [] ++ [closedW N n g s t] := by unfold witsAt2; rw [if_neg (by omega)]; rw [if_pos ⟨h2, h3⟩]
  rw [hW] at hY ⊢
  clear hW
  obtain ⟨x1, hx1⟩ : ∃ x0 : Wit2, x0 = closedW N n g s t := ⟨_, rfl⟩
  rw [← hx1] at hY ⊢
  simp only [List.nil_append, List.append_nil] at hY ⊢
  refine callsIn_of_wp Try.func102 rfl trivial ?_ rfl
  simp only [Try.ntmps102, List.size_toArray, List.length_cons, List.length_nil, Nat.reduceAdd, Nat.reduceSub, Array.replicate_succ, Array.replicate_zero, List.push_toArray, List.append_toArray, List.nil_append, List.cons_append]
  gi_wp2
  have hmany := hmx
  refine Many.region_many (fun _ w => J [] w ∧ W1.heap.size ≤ w.heap.size) hmx (by kernel_rfl) (fun _ _ _ _ h => h) (fun s hs => ?_) ?_
  · exact ⟨hJ _ _ _ (by simpa using h0') ((Below.refl _ _).drew), Nat.le_refl _⟩
  have step : ∀ {k : Nat} {o : Oper} {a : Act} {v : Value}, True → (∀ w, At2R w Bs Bt Bp b N n g s t → (execOp a.eval o).run Try.prog w = .ok (.value v) w) → Many.Tr Try.prog (fun _ w => J [] w ∧ W1.heap.size ≤ w.heap.size) k o a v :=
    fun _ h => Many.tr_read (fun W => At2R W Bs Bt Bp b N n g s t) (fun _ w h => hR _ _ h.1) (fun _ _ h => h) h
  refine Many.lex_want (by rfl) (step (v := .int .i64 s) trivial (fun w ⟨⟨hss, hsz, hat, _, _, _⟩, hsb, htb, hpb⟩ => by (go_simp; try rfl))) ?_
  simp only [Act.put, List.setIfInBounds_toArray, List.set_cons_succ, List.set_cons_zero, Nat.reduceAdd]
  refine Many.lex_want (by rfl) (step (v := .bool true) trivial (fun w ⟨⟨hss, hsz, hat, _, _, _⟩, hsb, htb, hpb⟩ => by (go_simp; try (first | rfl | omega | (simp; omega))))) ?_
  simp only [Act.put, List.setIfInBounds_toArray, List.set_cons_succ, List.set_cons_zero, Nat.reduceAdd]
  refine Many.lex_want (by rfl) (step (v := .bool true) trivial (fun w ⟨⟨hss, hsz, hat, _, _, _⟩, hsb, htb, hpb⟩ => by (go_simp; try rfl))) ?_
  simp only [Act.put, List.setIfInBounds_toArray, List.set_cons_succ, List.set_cons_zero, Nat.reduceAdd]
  refine Many.lex_want (by rfl) (step (v := .int .i64 t) trivial (fun w ⟨⟨hss, hsz, hat, _, _, _⟩, hsb, htb, hpb⟩ => by (go_simp; try rfl))) ?_
  simp only [Act.put, List.setIfInBounds_toArray, List.set_cons_succ, List.set_cons_zero, Nat.reduceAdd]
  refine Many.lex_want (by rfl) (step (v := .bool false) trivial (fun w ⟨⟨hss, hsz, hat, _, _, _⟩, hsb, htb, hpb⟩ => by (go_simp; try (first | done | omega | (simp; omega))))) ?_
  simp only [Act.put, List.setIfInBounds_toArray, List.set_cons_succ, List.set_cons_zero, Nat.reduceAdd]
  refine Many.lex_want (by rfl) (step (v := .bool false) trivial (fun w ⟨⟨hss, hsz, hat, _, _, _⟩, hsb, htb, hpb⟩ => by (go_simp; try rfl))) ?_
  simp only [Act.put, List.setIfInBounds_toArray, List.set_cons_succ, List.set_cons_zero, Nat.reduceAdd]
  refine Many.lex_want (by rfl) (step (v := .bool false) trivial (fun w ⟨⟨hss, hsz, hat, _, _, _⟩, hsb, htb, hpb⟩ => by (go_simp; try rfl))) ?_
  simp only [Act.put, List.setIfInBounds_toArray, List.set_cons_succ, List.set_cons_zero, Nat.reduceAdd]
  refine At2.lex_skip (by rfl) (fun _ _ h => h) ?_
  simp only [Act.put, List.setIfInBounds_toArray, List.set_cons_succ, List.set_cons_zero, Nat.reduceAdd]
  refine At2.lex_skip (by rfl) (fun _ _ h => h) ?_
  simp only [Act.put, List.setIfInBounds_toArray, List.set_cons_succ, List.set_cons_zero, Nat.reduceAdd]
  refine At2.lex_skip (by rfl) (fun _ _ h => h) ?_
  simp only [Act.put, List.setIfInBounds_toArray, List.set_cons_succ, List.set_cons_zero, Nat.reduceAdd]
  refine At2.lex_skip (by rfl) (fun _ _ h => h) ?_
  simp only [Act.put, List.setIfInBounds_toArray, List.set_cons_succ, List.set_cons_zero, Nat.reduceAdd]
  refine At2.lex_skip (by rfl) (fun _ _ h => h) ?_
  simp only [Act.put, List.setIfInBounds_toArray, List.set_cons_succ, List.set_cons_zero, Nat.reduceAdd]
  refine At2.lex_skip (by rfl) (fun _ _ h => h) ?_
  simp only [Act.put, List.setIfInBounds_toArray, List.set_cons_succ, List.set_cons_zero, Nat.reduceAdd]
  refine At2.lex_skip (by rfl) (fun _ _ h => h) ?_
  simp only [Act.put, List.setIfInBounds_toArray, List.set_cons_succ, List.set_cons_zero, Nat.reduceAdd]
  refine At2.lex_skip (by rfl) (fun _ _ h => h) ?_
  simp only [Act.put, List.setIfInBounds_toArray, List.set_cons_succ, List.set_cons_zero, Nat.reduceAdd]
  refine At2.lex_skip (by rfl) (fun _ _ h => h) ?_
  simp only [Act.put, List.setIfInBounds_toArray, List.set_cons_succ, List.set_cons_zero, Nat.reduceAdd]
  refine At2.lex_skip (by rfl) (fun _ _ h => h) ?_
  simp only [Act.put, List.setIfInBounds_toArray, List.set_cons_succ, List.set_cons_zero, Nat.reduceAdd]
  refine At2.lex_skip (by rfl) (fun _ _ h => h) ?_
  simp only [Act.put, List.setIfInBounds_toArray, List.set_cons_succ, List.set_cons_zero, Nat.reduceAdd]
  refine At2.lex_skip (by rfl) (fun _ _ h => h) ?_
  simp only [Act.put, List.setIfInBounds_toArray, List.set_cons_succ, List.set_cons_zero, Nat.reduceAdd]
  refine At2.lex_skip (by rfl) (fun _ _ h => h) ?_
  simp only [Act.put, List.setIfInBounds_toArray, List.set_cons_succ, List.set_cons_zero, Nat.reduceAdd]
  refine At2.lex_skip (by rfl) (fun _ _ h => h) ?_
  simp only [Act.put, List.setIfInBounds_toArray, List.set_cons_succ, List.set_cons_zero, Nat.reduceAdd]
  refine At2.lex_skip (by rfl) (fun _ _ h => h) ?_
  simp only [Act.put, List.setIfInBounds_toArray, List.set_cons_succ, List.set_cons_zero, Nat.reduceAdd]
  refine At2.lex_skip (by rfl) (fun _ _ h => h) ?_
  simp only [Act.put, List.setIfInBounds_toArray, List.set_cons_succ, List.set_cons_zero, Nat.reduceAdd]
  refine At2.lex_skip (by rfl) (fun _ _ h => h) ?_
  simp only [Act.put, List.setIfInBounds_toArray, List.set_cons_succ, List.set_cons_zero, Nat.reduceAdd]
  refine At2.lex_skip (by rfl) (fun _ _ h => h) ?_
  simp only [Act.put, List.setIfInBounds_toArray, List.set_cons_succ, List.set_cons_zero, Nat.reduceAdd]
  refine Many.lex_want (by rfl) (step (v := .bool false) trivial (fun w ⟨⟨hss, hsz, hat, _, _, _⟩, hsb, htb, hpb⟩ => by (go_simp; try rfl))) ?_
  simp only [Act.put, List.setIfInBounds_toArray, List.set_cons_succ, List.set_cons_zero, Nat.reduceAdd]
  refine Many.lex_nil fun _ w0 _ ⟨hJ', hs'⟩ => ?_
  clear step
  gi_wp2
  have hmany := hmx
  refine Many.region_many (fun _ w => J [] w ∧ W1.heap.size ≤ w.heap.size) hmx (by kernel_rfl) (fun _ _ _ _ h => h) (fun s hs => ?_) ?_
  · exact ⟨hJ _ _ _ (by simpa using hJ') ((Below.refl _ _).drew), hs'⟩
  have step : ∀ {k : Nat} {o : Oper} {a : Act} {v : Value}, True → (∀ w, At2R w Bs Bt Bp b N n g s t → (execOp a.eval o).run Try.prog w = .ok (.value v) w) → Many.Tr Try.prog (fun _ w => J [] w ∧ W1.heap.size ≤ w.heap.size) k o a v :=
    fun _ h => Many.tr_read (fun W => At2R W Bs Bt Bp b N n g s t) (fun _ w h => hR _ _ h.1) (fun _ _ h => h) h
  refine Many.lex_want (by rfl) (step (v := .int .i64 s) trivial (fun w ⟨⟨hss, hsz, hat, _, _, _⟩, hsb, htb, hpb⟩ => by (go_simp; try rfl))) ?_
  simp only [Act.put, List.setIfInBounds_toArray, List.set_cons_succ, List.set_cons_zero, Nat.reduceAdd]
  refine Many.lex_want (by rfl) (step trivial (fun w ⟨⟨hss, hsz, hat, _, _, _⟩, hsb, htb, hpb⟩ => by (go_simp; try rfl))) ?_
  simp only [Act.put, List.setIfInBounds_toArray, List.set_cons_succ, List.set_cons_zero, Nat.reduceAdd]
  refine Many.lex_want (by rfl) (step trivial (fun w ⟨⟨hss, hsz, hat, _, _, _⟩, hsb, htb, hpb⟩ => by (go_simp; try rfl))) ?_
  simp only [Act.put, List.setIfInBounds_toArray, List.set_cons_succ, List.set_cons_zero, Nat.reduceAdd]
  refine Many.lex_want (by rfl) (step trivial (fun w ⟨⟨hss, hsz, hat, _, _, _⟩, hsb, htb, hpb⟩ => by (go_simp; try rfl))) ?_
  simp only [Act.put, List.setIfInBounds_toArray, List.set_cons_succ, List.set_cons_zero, Nat.reduceAdd]
  refine Many.lex_want (by rfl) (step (v := .int .i64 N) trivial (fun w ⟨⟨hss, hsz, hat, _, _, _⟩, hsb, htb, hpb⟩ => by (go_simp; try rfl))) ?_
  simp only [Act.put, List.setIfInBounds_toArray, List.set_cons_succ, List.set_cons_zero, Nat.reduceAdd]
  refine Many.lex_want (by rfl) (step (v := .bool true) trivial (fun w ⟨⟨hss, hsz, hat, _, _, _⟩, hsb, htb, hpb⟩ => by (go_simp; try (first | rfl | omega | (simp; omega))))) ?_
  simp only [Act.put, List.setIfInBounds_toArray, List.set_cons_succ, List.set_cons_zero, Nat.reduceAdd]
  refine Many.lex_want (by rfl) (step (v := .bool true) trivial (fun w ⟨⟨hss, hsz, hat, _, _, _⟩, hsb, htb, hpb⟩ => by (go_simp; try rfl))) ?_
  simp only [Act.put, List.setIfInBounds_toArray, List.set_cons_succ, List.set_cons_zero, Nat.reduceAdd]
  refine Many.lex_want (by rfl) (step (v := .int .i64 t) trivial (fun w ⟨⟨hss, hsz, hat, _, _, _⟩, hsb, htb, hpb⟩ => by (go_simp; try rfl))) ?_
  simp only [Act.put, List.setIfInBounds_toArray, List.set_cons_succ, List.set_cons_zero, Nat.reduceAdd]
  refine Many.lex_want (by rfl) (step trivial (fun w ⟨⟨hss, hsz, hat, _, _, _⟩, hsb, htb, hpb⟩ => by (go_simp; try rfl))) ?_
  simp only [Act.put, List.setIfInBounds_toArray, List.set_cons_succ, List.set_cons_zero, Nat.reduceAdd]
  refine Many.lex_want (by rfl) (step trivial (fun w ⟨⟨hss, hsz, hat, _, _, _⟩, hsb, htb, hpb⟩ => by (go_simp; try rfl))) ?_
  simp only [Act.put, List.setIfInBounds_toArray, List.set_cons_succ, List.set_cons_zero, Nat.reduceAdd]
  refine Many.lex_want (by rfl) (step trivial (fun w ⟨⟨hss, hsz, hat, _, _, _⟩, hsb, htb, hpb⟩ => by (go_simp; try rfl))) ?_
  simp only [Act.put, List.setIfInBounds_toArray, List.set_cons_succ, List.set_cons_zero, Nat.reduceAdd]
  refine Many.lex_want (by rfl) (step (v := .int .i64 N) trivial (fun w ⟨⟨hss, hsz, hat, _, _, _⟩, hsb, htb, hpb⟩ => by (go_simp; try rfl))) ?_
  simp only [Act.put, List.setIfInBounds_toArray, List.set_cons_succ, List.set_cons_zero, Nat.reduceAdd]
  refine Many.lex_want (by rfl) (step (v := .bool true) trivial (fun w ⟨⟨hss, hsz, hat, _, _, _⟩, hsb, htb, hpb⟩ => by (go_simp; try (first | rfl | omega | (simp; omega))))) ?_
  simp only [Act.put, List.setIfInBounds_toArray, List.set_cons_succ, List.set_cons_zero, Nat.reduceAdd]
  refine Many.lex_want (by rfl) (step (v := .bool true) trivial (fun w ⟨⟨hss, hsz, hat, _, _, _⟩, hsb, htb, hpb⟩ => by (go_simp; try rfl))) ?_
  simp only [Act.put, List.setIfInBounds_toArray, List.set_cons_succ, List.set_cons_zero, Nat.reduceAdd]
  refine Many.lex_nil fun _ w1 _ ⟨hJ', hs'⟩ => ?_
  clear step
  gi_wp2
  have hw1 : IntKind.i64.wrap ((s : Int) + 1) = (s : Int) + 1 := IntWalk.i64_in _ (by omega)
  have hw2 : IntKind.i64.wrap ((t : Int) + 1) = (t : Int) + 1 := IntWalk.i64_in _ (by omega)
  have hT1 : ((s : Int) + 1).toNat = s + 1 := by omega
  have hT2 : ((t : Int) + 1).toNat = t + 1 := by omega
  refine region_pivot 18 (fun b' w => J (if b' then [x1] else []) w ∧ W1.heap.size ≤ w.heap.size) hmx (by kernel_rfl) (by simp) ?_ ?_
  · exact ⟨hJ _ _ _ (by simpa using hJ') ((Below.refl _ _).drew), hs'⟩
  have hCR : ∀ b' w, (J (if b' = true then [x1] else []) w ∧ W1.heap.size ≤ w.heap.size) → At2R w Bs Bt Bp b N n g s t := fun b' w h => hR _ _ h.1
  have step : ∀ {k : Nat} {o : Oper} {a : Act} {v : Value}, (k == 18) = false → (∀ w, At2R w Bs Bt Bp b N n g s t → (execOp a.eval o).run Try.prog w = .ok (.value v) w) → Tr Try.prog (fun b' w => J (if b' then [x1] else []) w ∧ W1.heap.size ≤ w.heap.size) 18 k o a v :=
    fun hk h => tr_read (fun W => At2R W Bs Bt Bp b N n g s t) hk hCR h
  refine lex_want (by rfl) (step (by rfl) (fun w ⟨⟨hss, hsz, hat, _, _, _⟩, hsb, htb, hpb⟩ => by (go_simp; try rfl))) ?_
  simp only [Act.put, List.setIfInBounds_toArray, List.set_cons_succ, List.set_cons_zero, Nat.reduceAdd]
  refine lex_want (by rfl) (step (v := .int .i64 s) (by rfl) (fun w ⟨⟨hss, hsz, hat, _, _, _⟩, hsb, htb, hpb⟩ => by (go_simp; try rfl))) ?_
  simp only [Act.put, List.setIfInBounds_toArray, List.set_cons_succ, List.set_cons_zero, Nat.reduceAdd]
  refine lex_want (by rfl) (step (v := .int .i64 t) (by rfl) (fun w ⟨⟨hss, hsz, hat, _, _, _⟩, hsb, htb, hpb⟩ => by (go_simp; try rfl))) ?_
  simp only [Act.put, List.setIfInBounds_toArray, List.set_cons_succ, List.set_cons_zero, Nat.reduceAdd]
  refine lex_want (by rfl) (step (v := .agg #[.int .i64 s, .int .i64 t, .bool false]) (by rfl) (fun w ⟨⟨hss, hsz, hat, _, _, _⟩, hsb, htb, hpb⟩ => by (go_simp; try rfl))) ?_
  simp only [Act.put, List.setIfInBounds_toArray, List.set_cons_succ, List.set_cons_zero, Nat.reduceAdd]
  refine lex_want (by rfl) (step (by rfl) (fun w ⟨⟨hss, hsz, hat, _, _, _⟩, hsb, htb, hpb⟩ => by (go_simp; try rfl))) ?_
  simp only [Act.put, List.setIfInBounds_toArray, List.set_cons_succ, List.set_cons_zero, Nat.reduceAdd]
  refine lex_want (by rfl) (step (by rfl) (fun w ⟨⟨hss, hsz, hat, _, _, _⟩, hsb, htb, hpb⟩ => by (go_simp; try rfl))) ?_
  simp only [Act.put, List.setIfInBounds_toArray, List.set_cons_succ, List.set_cons_zero, Nat.reduceAdd]
  refine lex_want (by rfl) (step (v := .int .i64 s) (by rfl) (fun w ⟨⟨hss, hsz, hat, _, _, _⟩, hsb, htb, hpb⟩ => by (go_simp; try rfl))) ?_
  simp only [Act.put, List.setIfInBounds_toArray, List.set_cons_succ, List.set_cons_zero, Nat.reduceAdd]
  refine lex_want (by rfl) (step (v := .int .i64 ((s : Int) + 1)) (by rfl) (fun w ⟨⟨hss, hsz, hat, _, _, _⟩, hsb, htb, hpb⟩ => by (go_simp; try simp [hw1]))) ?_
  simp only [Act.put, List.setIfInBounds_toArray, List.set_cons_succ, List.set_cons_zero, Nat.reduceAdd]
  refine lex_want (by rfl) (step (v := .int .i64 t) (by rfl) (fun w ⟨⟨hss, hsz, hat, _, _, _⟩, hsb, htb, hpb⟩ => by (go_simp; try rfl))) ?_
  simp only [Act.put, List.setIfInBounds_toArray, List.set_cons_succ, List.set_cons_zero, Nat.reduceAdd]
  refine lex_want (by rfl) (step (v := .int .i64 ((t : Int) + 1)) (by rfl) (fun w ⟨⟨hss, hsz, hat, _, _, _⟩, hsb, htb, hpb⟩ => by (go_simp; try simp [hw2]))) ?_
  simp only [Act.put, List.setIfInBounds_toArray, List.set_cons_succ, List.set_cons_zero, Nat.reduceAdd]
  refine lex_want (by rfl) (step (by rfl) (fun w ⟨⟨hss, hsz, hat, _, _, _⟩, hsb, htb, hpb⟩ => by (go_simp; try rfl))) ?_
  simp only [Act.put, List.setIfInBounds_toArray, List.set_cons_succ, List.set_cons_zero, Nat.reduceAdd]
  refine lex_want (by rfl) (step (by rfl) (fun w ⟨⟨hss, hsz, hat, _, _, _⟩, hsb, htb, hpb⟩ => by (go_simp; try rfl))) ?_
  simp only [Act.put, List.setIfInBounds_toArray, List.set_cons_succ, List.set_cons_zero, Nat.reduceAdd]
  refine lex_want (by rfl) (step (v := .pointer (some ⟨b, 2 + (s + 1) * 101, none⟩)) (by rfl) (fun w ⟨⟨hss, hsz, hat, _, _, _⟩, hsb, htb, hpb⟩ => by (go_simp; (try (first | done | omega | (intros; omega)))))) ?_
  simp only [Act.put, List.setIfInBounds_toArray, List.set_cons_succ, List.set_cons_zero, Nat.reduceAdd]
  refine lex_want (by rfl) (step (v := .pointer (some ⟨b, 2 + (s + 1) * 101 + (t + 1), none⟩)) (by rfl) (fun w ⟨⟨hss, hsz, hat, _, _, _⟩, hsb, htb, hpb⟩ => by (go_simp; (try (first | done | omega | (intros; omega)))))) ?_
  simp only [Act.put, List.setIfInBounds_toArray, List.set_cons_succ, List.set_cons_zero, Nat.reduceAdd]
  refine lex_want (by rfl) (step (v := .int .i64 (g (s + 1) (t + 1))) (by rfl) (fun w ⟨⟨hss, hsz, hat, _, _, _⟩, hsb, htb, hpb⟩ => by (have hc1 := hat (s + 1) (t + 1) (by omega) (by omega); go_simp; try rfl))) ?_
  simp only [Act.put, List.setIfInBounds_toArray, List.set_cons_succ, List.set_cons_zero, Nat.reduceAdd]
  refine lex_want (by rfl) (step (v := .int .i64 s) (by rfl) (fun w ⟨⟨hss, hsz, hat, _, _, _⟩, hsb, htb, hpb⟩ => by (go_simp; try rfl))) ?_
  simp only [Act.put, List.setIfInBounds_toArray, List.set_cons_succ, List.set_cons_zero, Nat.reduceAdd]
  refine lex_want (by rfl) (step (v := .int .i64 t) (by rfl) (fun w ⟨⟨hss, hsz, hat, _, _, _⟩, hsb, htb, hpb⟩ => by (go_simp; try rfl))) ?_
  simp only [Act.put, List.setIfInBounds_toArray, List.set_cons_succ, List.set_cons_zero, Nat.reduceAdd]
  refine lex_want (by rfl) (tr_call (v := .int .i64 (exc2 N n (g (s + 1) (t + 1)) s t)) (f := 103) (args := #[.pointer (some ⟨b, 0, none⟩), .int .i64 (g (s + 1) (t + 1)), .int .i64 s, .int .i64 t]) (fun W => At2R W Bs Bt Bp b N n g s t) (by rfl) hCR
    (fun b' w m h => ⟨hJ _ _ _ h.1 (below_drewN (Below.refl _ _) m), h.2⟩) (fun w ⟨hl, _, _, _⟩ => excess2_any hl hg2 (by omega) (by omega)) (fun w => (by go_simp))) ?_
  simp only [Act.put, List.setIfInBounds_toArray, List.set_cons_succ, List.set_cons_zero, Nat.reduceAdd]
  refine lex_want (by rfl) (tr_yield (v := .bool true) (l := l) (args := encW2 (closedW N n g s t)) (by rfl) (fun w hC => ?_) (fun w => (by unfold encW2 closedW; go_simp))) ?_
  · refine (hY [] (closedW N n g s t) w hC.1 hC.2 (by rw [← hx1]; exact ⟨[], rfl⟩)).mono fun e w' h => ⟨h.1, by rw [hx1]; simpa using h.2.1, Nat.le_trans hC.2 h.2.2.1.1⟩
  simp only [Act.put, List.setIfInBounds_toArray, List.set_cons_succ, List.set_cons_zero, Nat.reduceAdd]
  refine lex_nil fun w2 ⟨hJ', hs'⟩ => ?_
  gi_wp2
  go_end0
  exact ⟨⟨_, rfl⟩, hJ', hs'⟩
set_option maxHeartbeats 2000000 in
set_option maxRecDepth 100000 in
theorem at2_t0_sN {b N n s t Bs Bt Bp : Nat} {g : Nat → Nat → Nat} (hs : s ≤ N) (ht : t ≤ N) (h0 : 0 < s) (h1 : ¬ 0 < t) (h2 : ¬ s < N) (W1 : World) :
    Gives Try.prog 102 #[.pointer (some ⟨Bs, 0, none⟩), .pointer (some ⟨Bt, 0, none⟩), .pointer (some ⟨Bp, 0, none⟩)] encW2 (witsAt2 N n g s t) (fun W => At2R W Bs Bt Bp b N n g s t) W1 := by
  intro l J hJ hR hY h0'
  have hmx : Try.prog.follows .mixedOrders = true := by kernel_rfl
  obtain ⟨hL0, _, _, _⟩ := hR _ _ h0'
  have hN := hL0.hN
  have hg1 := hL0.hg s t (by omega) (by omega)
  have hW : witsAt2 N n g s t = [] ++ [] := by unfold witsAt2; rw [if_neg (by omega)]; rw [if_neg (by omega)]
  rw [hW] at hY ⊢
  clear hW
  simp only [List.nil_append, List.append_nil] at hY ⊢
  refine callsIn_of_wp Try.func102 rfl trivial ?_ rfl
  simp only [Try.ntmps102, List.size_toArray, List.length_cons, List.length_nil, Nat.reduceAdd, Nat.reduceSub, Array.replicate_succ, Array.replicate_zero, List.push_toArray, List.append_toArray, List.nil_append, List.cons_append]
  gi_wp2
  have hmany := hmx
  refine Many.region_many (fun _ w => J [] w ∧ W1.heap.size ≤ w.heap.size) hmx (by kernel_rfl) (fun _ _ _ _ h => h) (fun s hs => ?_) ?_
  · exact ⟨hJ _ _ _ (by simpa using h0') ((Below.refl _ _).drew), Nat.le_refl _⟩
  have step : ∀ {k : Nat} {o : Oper} {a : Act} {v : Value}, True → (∀ w, At2R w Bs Bt Bp b N n g s t → (execOp a.eval o).run Try.prog w = .ok (.value v) w) → Many.Tr Try.prog (fun _ w => J [] w ∧ W1.heap.size ≤ w.heap.size) k o a v :=
    fun _ h => Many.tr_read (fun W => At2R W Bs Bt Bp b N n g s t) (fun _ w h => hR _ _ h.1) (fun _ _ h => h) h
  refine Many.lex_want (by rfl) (step (v := .int .i64 s) trivial (fun w ⟨⟨hss, hsz, hat, _, _, _⟩, hsb, htb, hpb⟩ => by (go_simp; try rfl))) ?_
  simp only [Act.put, List.setIfInBounds_toArray, List.set_cons_succ, List.set_cons_zero, Nat.reduceAdd]
  refine Many.lex_want (by rfl) (step (v := .bool true) trivial (fun w ⟨⟨hss, hsz, hat, _, _, _⟩, hsb, htb, hpb⟩ => by (go_simp; try (first | rfl | omega | (simp; omega))))) ?_
  simp only [Act.put, List.setIfInBounds_toArray, List.set_cons_succ, List.set_cons_zero, Nat.reduceAdd]
  refine Many.lex_want (by rfl) (step (v := .bool true) trivial (fun w ⟨⟨hss, hsz, hat, _, _, _⟩, hsb, htb, hpb⟩ => by (go_simp; try rfl))) ?_
  simp only [Act.put, List.setIfInBounds_toArray, List.set_cons_succ, List.set_cons_zero, Nat.reduceAdd]
  refine Many.lex_want (by rfl) (step (v := .int .i64 t) trivial (fun w ⟨⟨hss, hsz, hat, _, _, _⟩, hsb, htb, hpb⟩ => by (go_simp; try rfl))) ?_
  simp only [Act.put, List.setIfInBounds_toArray, List.set_cons_succ, List.set_cons_zero, Nat.reduceAdd]
  refine Many.lex_want (by rfl) (step (v := .bool false) trivial (fun w ⟨⟨hss, hsz, hat, _, _, _⟩, hsb, htb, hpb⟩ => by (go_simp; try (first | done | omega | (simp; omega))))) ?_
  simp only [Act.put, List.setIfInBounds_toArray, List.set_cons_succ, List.set_cons_zero, Nat.reduceAdd]
  refine Many.lex_want (by rfl) (step (v := .bool false) trivial (fun w ⟨⟨hss, hsz, hat, _, _, _⟩, hsb, htb, hpb⟩ => by (go_simp; try rfl))) ?_
  simp only [Act.put, List.setIfInBounds_toArray, List.set_cons_succ, List.set_cons_zero, Nat.reduceAdd]
  refine Many.lex_want (by rfl) (step (v := .bool false) trivial (fun w ⟨⟨hss, hsz, hat, _, _, _⟩, hsb, htb, hpb⟩ => by (go_simp; try rfl))) ?_
  simp only [Act.put, List.setIfInBounds_toArray, List.set_cons_succ, List.set_cons_zero, Nat.reduceAdd]
  refine At2.lex_skip (by rfl) (fun _ _ h => h) ?_
  simp only [Act.put, List.setIfInBounds_toArray, List.set_cons_succ, List.set_cons_zero, Nat.reduceAdd]
  refine At2.lex_skip (by rfl) (fun _ _ h => h) ?_
  simp only [Act.put, List.setIfInBounds_toArray, List.set_cons_succ, List.set_cons_zero, Nat.reduceAdd]
  refine At2.lex_skip (by rfl) (fun _ _ h => h) ?_
  simp only [Act.put, List.setIfInBounds_toArray, List.set_cons_succ, List.set_cons_zero, Nat.reduceAdd]
  refine At2.lex_skip (by rfl) (fun _ _ h => h) ?_
  simp only [Act.put, List.setIfInBounds_toArray, List.set_cons_succ, List.set_cons_zero, Nat.reduceAdd]
  refine At2.lex_skip (by rfl) (fun _ _ h => h) ?_
  simp only [Act.put, List.setIfInBounds_toArray, List.set_cons_succ, List.set_cons_zero, Nat.reduceAdd]
  refine At2.lex_skip (by rfl) (fun _ _ h => h) ?_
  simp only [Act.put, List.setIfInBounds_toArray, List.set_cons_succ, List.set_cons_zero, Nat.reduceAdd]
  refine At2.lex_skip (by rfl) (fun _ _ h => h) ?_
  simp only [Act.put, List.setIfInBounds_toArray, List.set_cons_succ, List.set_cons_zero, Nat.reduceAdd]
  refine At2.lex_skip (by rfl) (fun _ _ h => h) ?_
  simp only [Act.put, List.setIfInBounds_toArray, List.set_cons_succ, List.set_cons_zero, Nat.reduceAdd]
  refine At2.lex_skip (by rfl) (fun _ _ h => h) ?_
  simp only [Act.put, List.setIfInBounds_toArray, List.set_cons_succ, List.set_cons_zero, Nat.reduceAdd]
  refine At2.lex_skip (by rfl) (fun _ _ h => h) ?_
  simp only [Act.put, List.setIfInBounds_toArray, List.set_cons_succ, List.set_cons_zero, Nat.reduceAdd]
  refine At2.lex_skip (by rfl) (fun _ _ h => h) ?_
  simp only [Act.put, List.setIfInBounds_toArray, List.set_cons_succ, List.set_cons_zero, Nat.reduceAdd]
  refine At2.lex_skip (by rfl) (fun _ _ h => h) ?_
  simp only [Act.put, List.setIfInBounds_toArray, List.set_cons_succ, List.set_cons_zero, Nat.reduceAdd]
  refine At2.lex_skip (by rfl) (fun _ _ h => h) ?_
  simp only [Act.put, List.setIfInBounds_toArray, List.set_cons_succ, List.set_cons_zero, Nat.reduceAdd]
  refine At2.lex_skip (by rfl) (fun _ _ h => h) ?_
  simp only [Act.put, List.setIfInBounds_toArray, List.set_cons_succ, List.set_cons_zero, Nat.reduceAdd]
  refine At2.lex_skip (by rfl) (fun _ _ h => h) ?_
  simp only [Act.put, List.setIfInBounds_toArray, List.set_cons_succ, List.set_cons_zero, Nat.reduceAdd]
  refine At2.lex_skip (by rfl) (fun _ _ h => h) ?_
  simp only [Act.put, List.setIfInBounds_toArray, List.set_cons_succ, List.set_cons_zero, Nat.reduceAdd]
  refine At2.lex_skip (by rfl) (fun _ _ h => h) ?_
  simp only [Act.put, List.setIfInBounds_toArray, List.set_cons_succ, List.set_cons_zero, Nat.reduceAdd]
  refine At2.lex_skip (by rfl) (fun _ _ h => h) ?_
  simp only [Act.put, List.setIfInBounds_toArray, List.set_cons_succ, List.set_cons_zero, Nat.reduceAdd]
  refine Many.lex_want (by rfl) (step (v := .bool false) trivial (fun w ⟨⟨hss, hsz, hat, _, _, _⟩, hsb, htb, hpb⟩ => by (go_simp; try rfl))) ?_
  simp only [Act.put, List.setIfInBounds_toArray, List.set_cons_succ, List.set_cons_zero, Nat.reduceAdd]
  refine Many.lex_nil fun _ w0 _ ⟨hJ', hs'⟩ => ?_
  clear step
  gi_wp2
  have hmany := hmx
  refine Many.region_many (fun _ w => J [] w ∧ W1.heap.size ≤ w.heap.size) hmx (by kernel_rfl) (fun _ _ _ _ h => h) (fun s hs => ?_) ?_
  · exact ⟨hJ _ _ _ (by simpa using hJ') ((Below.refl _ _).drew), hs'⟩
  have step : ∀ {k : Nat} {o : Oper} {a : Act} {v : Value}, True → (∀ w, At2R w Bs Bt Bp b N n g s t → (execOp a.eval o).run Try.prog w = .ok (.value v) w) → Many.Tr Try.prog (fun _ w => J [] w ∧ W1.heap.size ≤ w.heap.size) k o a v :=
    fun _ h => Many.tr_read (fun W => At2R W Bs Bt Bp b N n g s t) (fun _ w h => hR _ _ h.1) (fun _ _ h => h) h
  refine Many.lex_want (by rfl) (step (v := .int .i64 s) trivial (fun w ⟨⟨hss, hsz, hat, _, _, _⟩, hsb, htb, hpb⟩ => by (go_simp; try rfl))) ?_
  simp only [Act.put, List.setIfInBounds_toArray, List.set_cons_succ, List.set_cons_zero, Nat.reduceAdd]
  refine Many.lex_want (by rfl) (step trivial (fun w ⟨⟨hss, hsz, hat, _, _, _⟩, hsb, htb, hpb⟩ => by (go_simp; try rfl))) ?_
  simp only [Act.put, List.setIfInBounds_toArray, List.set_cons_succ, List.set_cons_zero, Nat.reduceAdd]
  refine Many.lex_want (by rfl) (step trivial (fun w ⟨⟨hss, hsz, hat, _, _, _⟩, hsb, htb, hpb⟩ => by (go_simp; try rfl))) ?_
  simp only [Act.put, List.setIfInBounds_toArray, List.set_cons_succ, List.set_cons_zero, Nat.reduceAdd]
  refine Many.lex_want (by rfl) (step trivial (fun w ⟨⟨hss, hsz, hat, _, _, _⟩, hsb, htb, hpb⟩ => by (go_simp; try rfl))) ?_
  simp only [Act.put, List.setIfInBounds_toArray, List.set_cons_succ, List.set_cons_zero, Nat.reduceAdd]
  refine Many.lex_want (by rfl) (step (v := .int .i64 N) trivial (fun w ⟨⟨hss, hsz, hat, _, _, _⟩, hsb, htb, hpb⟩ => by (go_simp; try rfl))) ?_
  simp only [Act.put, List.setIfInBounds_toArray, List.set_cons_succ, List.set_cons_zero, Nat.reduceAdd]
  refine Many.lex_want (by rfl) (step (v := .bool false) trivial (fun w ⟨⟨hss, hsz, hat, _, _, _⟩, hsb, htb, hpb⟩ => by (go_simp; try (first | done | omega | (simp; omega))))) ?_
  simp only [Act.put, List.setIfInBounds_toArray, List.set_cons_succ, List.set_cons_zero, Nat.reduceAdd]
  refine Many.lex_want (by rfl) (step (v := .bool false) trivial (fun w ⟨⟨hss, hsz, hat, _, _, _⟩, hsb, htb, hpb⟩ => by (go_simp; try rfl))) ?_
  simp only [Act.put, List.setIfInBounds_toArray, List.set_cons_succ, List.set_cons_zero, Nat.reduceAdd]
  refine At2.lex_skip (by rfl) (fun _ _ h => h) ?_
  simp only [Act.put, List.setIfInBounds_toArray, List.set_cons_succ, List.set_cons_zero, Nat.reduceAdd]
  refine At2.lex_skip (by rfl) (fun _ _ h => h) ?_
  simp only [Act.put, List.setIfInBounds_toArray, List.set_cons_succ, List.set_cons_zero, Nat.reduceAdd]
  refine At2.lex_skip (by rfl) (fun _ _ h => h) ?_
  simp only [Act.put, List.setIfInBounds_toArray, List.set_cons_succ, List.set_cons_zero, Nat.reduceAdd]
  refine At2.lex_skip (by rfl) (fun _ _ h => h) ?_
  simp only [Act.put, List.setIfInBounds_toArray, List.set_cons_succ, List.set_cons_zero, Nat.reduceAdd]
  refine At2.lex_skip (by rfl) (fun _ _ h => h) ?_
  simp only [Act.put, List.setIfInBounds_toArray, List.set_cons_succ, List.set_cons_zero, Nat.reduceAdd]
  refine At2.lex_skip (by rfl) (fun _ _ h => h) ?_
  simp only [Act.put, List.setIfInBounds_toArray, List.set_cons_succ, List.set_cons_zero, Nat.reduceAdd]
  refine Many.lex_want (by rfl) (step (v := .bool false) trivial (fun w ⟨⟨hss, hsz, hat, _, _, _⟩, hsb, htb, hpb⟩ => by (go_simp; try rfl))) ?_
  simp only [Act.put, List.setIfInBounds_toArray, List.set_cons_succ, List.set_cons_zero, Nat.reduceAdd]
  refine Many.lex_nil fun _ w1 _ ⟨hJ', hs'⟩ => ?_
  clear step
  gi_wp2
  go_end0
  exact ⟨⟨_, rfl⟩, hJ', hs'⟩
set_option maxHeartbeats 2000000 in
set_option maxRecDepth 100000 in
theorem at2_t0_tN {b N n s t Bs Bt Bp : Nat} {g : Nat → Nat → Nat} (hs : s ≤ N) (ht : t ≤ N) (h0 : 0 < s) (h1 : ¬ 0 < t) (h2 : s < N) (h3 : ¬ t < N) (W1 : World) :
    Gives Try.prog 102 #[.pointer (some ⟨Bs, 0, none⟩), .pointer (some ⟨Bt, 0, none⟩), .pointer (some ⟨Bp, 0, none⟩)] encW2 (witsAt2 N n g s t) (fun W => At2R W Bs Bt Bp b N n g s t) W1 := by
  intro l J hJ hR hY h0'
  have hmx : Try.prog.follows .mixedOrders = true := by kernel_rfl
  obtain ⟨hL0, _, _, _⟩ := hR _ _ h0'
  have hN := hL0.hN
  have hg1 := hL0.hg s t (by omega) (by omega)
  have hW : witsAt2 N n g s t = [] ++ [] := by unfold witsAt2; rw [if_neg (by omega)]; rw [if_neg (by omega)]
  rw [hW] at hY ⊢
  clear hW
  simp only [List.nil_append, List.append_nil] at hY ⊢
  refine callsIn_of_wp Try.func102 rfl trivial ?_ rfl
  simp only [Try.ntmps102, List.size_toArray, List.length_cons, List.length_nil, Nat.reduceAdd, Nat.reduceSub, Array.replicate_succ, Array.replicate_zero, List.push_toArray, List.append_toArray, List.nil_append, List.cons_append]
  gi_wp2
  have hmany := hmx
  refine Many.region_many (fun _ w => J [] w ∧ W1.heap.size ≤ w.heap.size) hmx (by kernel_rfl) (fun _ _ _ _ h => h) (fun s hs => ?_) ?_
  · exact ⟨hJ _ _ _ (by simpa using h0') ((Below.refl _ _).drew), Nat.le_refl _⟩
  have step : ∀ {k : Nat} {o : Oper} {a : Act} {v : Value}, True → (∀ w, At2R w Bs Bt Bp b N n g s t → (execOp a.eval o).run Try.prog w = .ok (.value v) w) → Many.Tr Try.prog (fun _ w => J [] w ∧ W1.heap.size ≤ w.heap.size) k o a v :=
    fun _ h => Many.tr_read (fun W => At2R W Bs Bt Bp b N n g s t) (fun _ w h => hR _ _ h.1) (fun _ _ h => h) h
  refine Many.lex_want (by rfl) (step (v := .int .i64 s) trivial (fun w ⟨⟨hss, hsz, hat, _, _, _⟩, hsb, htb, hpb⟩ => by (go_simp; try rfl))) ?_
  simp only [Act.put, List.setIfInBounds_toArray, List.set_cons_succ, List.set_cons_zero, Nat.reduceAdd]
  refine Many.lex_want (by rfl) (step (v := .bool true) trivial (fun w ⟨⟨hss, hsz, hat, _, _, _⟩, hsb, htb, hpb⟩ => by (go_simp; try (first | rfl | omega | (simp; omega))))) ?_
  simp only [Act.put, List.setIfInBounds_toArray, List.set_cons_succ, List.set_cons_zero, Nat.reduceAdd]
  refine Many.lex_want (by rfl) (step (v := .bool true) trivial (fun w ⟨⟨hss, hsz, hat, _, _, _⟩, hsb, htb, hpb⟩ => by (go_simp; try rfl))) ?_
  simp only [Act.put, List.setIfInBounds_toArray, List.set_cons_succ, List.set_cons_zero, Nat.reduceAdd]
  refine Many.lex_want (by rfl) (step (v := .int .i64 t) trivial (fun w ⟨⟨hss, hsz, hat, _, _, _⟩, hsb, htb, hpb⟩ => by (go_simp; try rfl))) ?_
  simp only [Act.put, List.setIfInBounds_toArray, List.set_cons_succ, List.set_cons_zero, Nat.reduceAdd]
  refine Many.lex_want (by rfl) (step (v := .bool false) trivial (fun w ⟨⟨hss, hsz, hat, _, _, _⟩, hsb, htb, hpb⟩ => by (go_simp; try (first | done | omega | (simp; omega))))) ?_
  simp only [Act.put, List.setIfInBounds_toArray, List.set_cons_succ, List.set_cons_zero, Nat.reduceAdd]
  refine Many.lex_want (by rfl) (step (v := .bool false) trivial (fun w ⟨⟨hss, hsz, hat, _, _, _⟩, hsb, htb, hpb⟩ => by (go_simp; try rfl))) ?_
  simp only [Act.put, List.setIfInBounds_toArray, List.set_cons_succ, List.set_cons_zero, Nat.reduceAdd]
  refine Many.lex_want (by rfl) (step (v := .bool false) trivial (fun w ⟨⟨hss, hsz, hat, _, _, _⟩, hsb, htb, hpb⟩ => by (go_simp; try rfl))) ?_
  simp only [Act.put, List.setIfInBounds_toArray, List.set_cons_succ, List.set_cons_zero, Nat.reduceAdd]
  refine At2.lex_skip (by rfl) (fun _ _ h => h) ?_
  simp only [Act.put, List.setIfInBounds_toArray, List.set_cons_succ, List.set_cons_zero, Nat.reduceAdd]
  refine At2.lex_skip (by rfl) (fun _ _ h => h) ?_
  simp only [Act.put, List.setIfInBounds_toArray, List.set_cons_succ, List.set_cons_zero, Nat.reduceAdd]
  refine At2.lex_skip (by rfl) (fun _ _ h => h) ?_
  simp only [Act.put, List.setIfInBounds_toArray, List.set_cons_succ, List.set_cons_zero, Nat.reduceAdd]
  refine At2.lex_skip (by rfl) (fun _ _ h => h) ?_
  simp only [Act.put, List.setIfInBounds_toArray, List.set_cons_succ, List.set_cons_zero, Nat.reduceAdd]
  refine At2.lex_skip (by rfl) (fun _ _ h => h) ?_
  simp only [Act.put, List.setIfInBounds_toArray, List.set_cons_succ, List.set_cons_zero, Nat.reduceAdd]
  refine At2.lex_skip (by rfl) (fun _ _ h => h) ?_
  simp only [Act.put, List.setIfInBounds_toArray, List.set_cons_succ, List.set_cons_zero, Nat.reduceAdd]
  refine At2.lex_skip (by rfl) (fun _ _ h => h) ?_
  simp only [Act.put, List.setIfInBounds_toArray, List.set_cons_succ, List.set_cons_zero, Nat.reduceAdd]
  refine At2.lex_skip (by rfl) (fun _ _ h => h) ?_
  simp only [Act.put, List.setIfInBounds_toArray, List.set_cons_succ, List.set_cons_zero, Nat.reduceAdd]
  refine At2.lex_skip (by rfl) (fun _ _ h => h) ?_
  simp only [Act.put, List.setIfInBounds_toArray, List.set_cons_succ, List.set_cons_zero, Nat.reduceAdd]
  refine At2.lex_skip (by rfl) (fun _ _ h => h) ?_
  simp only [Act.put, List.setIfInBounds_toArray, List.set_cons_succ, List.set_cons_zero, Nat.reduceAdd]
  refine At2.lex_skip (by rfl) (fun _ _ h => h) ?_
  simp only [Act.put, List.setIfInBounds_toArray, List.set_cons_succ, List.set_cons_zero, Nat.reduceAdd]
  refine At2.lex_skip (by rfl) (fun _ _ h => h) ?_
  simp only [Act.put, List.setIfInBounds_toArray, List.set_cons_succ, List.set_cons_zero, Nat.reduceAdd]
  refine At2.lex_skip (by rfl) (fun _ _ h => h) ?_
  simp only [Act.put, List.setIfInBounds_toArray, List.set_cons_succ, List.set_cons_zero, Nat.reduceAdd]
  refine At2.lex_skip (by rfl) (fun _ _ h => h) ?_
  simp only [Act.put, List.setIfInBounds_toArray, List.set_cons_succ, List.set_cons_zero, Nat.reduceAdd]
  refine At2.lex_skip (by rfl) (fun _ _ h => h) ?_
  simp only [Act.put, List.setIfInBounds_toArray, List.set_cons_succ, List.set_cons_zero, Nat.reduceAdd]
  refine At2.lex_skip (by rfl) (fun _ _ h => h) ?_
  simp only [Act.put, List.setIfInBounds_toArray, List.set_cons_succ, List.set_cons_zero, Nat.reduceAdd]
  refine At2.lex_skip (by rfl) (fun _ _ h => h) ?_
  simp only [Act.put, List.setIfInBounds_toArray, List.set_cons_succ, List.set_cons_zero, Nat.reduceAdd]
  refine At2.lex_skip (by rfl) (fun _ _ h => h) ?_
  simp only [Act.put, List.setIfInBounds_toArray, List.set_cons_succ, List.set_cons_zero, Nat.reduceAdd]
  refine Many.lex_want (by rfl) (step (v := .bool false) trivial (fun w ⟨⟨hss, hsz, hat, _, _, _⟩, hsb, htb, hpb⟩ => by (go_simp; try rfl))) ?_
  simp only [Act.put, List.setIfInBounds_toArray, List.set_cons_succ, List.set_cons_zero, Nat.reduceAdd]
  refine Many.lex_nil fun _ w0 _ ⟨hJ', hs'⟩ => ?_
  clear step
  gi_wp2
  have hmany := hmx
  refine Many.region_many (fun _ w => J [] w ∧ W1.heap.size ≤ w.heap.size) hmx (by kernel_rfl) (fun _ _ _ _ h => h) (fun s hs => ?_) ?_
  · exact ⟨hJ _ _ _ (by simpa using hJ') ((Below.refl _ _).drew), hs'⟩
  have step : ∀ {k : Nat} {o : Oper} {a : Act} {v : Value}, True → (∀ w, At2R w Bs Bt Bp b N n g s t → (execOp a.eval o).run Try.prog w = .ok (.value v) w) → Many.Tr Try.prog (fun _ w => J [] w ∧ W1.heap.size ≤ w.heap.size) k o a v :=
    fun _ h => Many.tr_read (fun W => At2R W Bs Bt Bp b N n g s t) (fun _ w h => hR _ _ h.1) (fun _ _ h => h) h
  refine Many.lex_want (by rfl) (step (v := .int .i64 s) trivial (fun w ⟨⟨hss, hsz, hat, _, _, _⟩, hsb, htb, hpb⟩ => by (go_simp; try rfl))) ?_
  simp only [Act.put, List.setIfInBounds_toArray, List.set_cons_succ, List.set_cons_zero, Nat.reduceAdd]
  refine Many.lex_want (by rfl) (step trivial (fun w ⟨⟨hss, hsz, hat, _, _, _⟩, hsb, htb, hpb⟩ => by (go_simp; try rfl))) ?_
  simp only [Act.put, List.setIfInBounds_toArray, List.set_cons_succ, List.set_cons_zero, Nat.reduceAdd]
  refine Many.lex_want (by rfl) (step trivial (fun w ⟨⟨hss, hsz, hat, _, _, _⟩, hsb, htb, hpb⟩ => by (go_simp; try rfl))) ?_
  simp only [Act.put, List.setIfInBounds_toArray, List.set_cons_succ, List.set_cons_zero, Nat.reduceAdd]
  refine Many.lex_want (by rfl) (step trivial (fun w ⟨⟨hss, hsz, hat, _, _, _⟩, hsb, htb, hpb⟩ => by (go_simp; try rfl))) ?_
  simp only [Act.put, List.setIfInBounds_toArray, List.set_cons_succ, List.set_cons_zero, Nat.reduceAdd]
  refine Many.lex_want (by rfl) (step (v := .int .i64 N) trivial (fun w ⟨⟨hss, hsz, hat, _, _, _⟩, hsb, htb, hpb⟩ => by (go_simp; try rfl))) ?_
  simp only [Act.put, List.setIfInBounds_toArray, List.set_cons_succ, List.set_cons_zero, Nat.reduceAdd]
  refine Many.lex_want (by rfl) (step (v := .bool true) trivial (fun w ⟨⟨hss, hsz, hat, _, _, _⟩, hsb, htb, hpb⟩ => by (go_simp; try (first | rfl | omega | (simp; omega))))) ?_
  simp only [Act.put, List.setIfInBounds_toArray, List.set_cons_succ, List.set_cons_zero, Nat.reduceAdd]
  refine Many.lex_want (by rfl) (step (v := .bool true) trivial (fun w ⟨⟨hss, hsz, hat, _, _, _⟩, hsb, htb, hpb⟩ => by (go_simp; try rfl))) ?_
  simp only [Act.put, List.setIfInBounds_toArray, List.set_cons_succ, List.set_cons_zero, Nat.reduceAdd]
  refine Many.lex_want (by rfl) (step (v := .int .i64 t) trivial (fun w ⟨⟨hss, hsz, hat, _, _, _⟩, hsb, htb, hpb⟩ => by (go_simp; try rfl))) ?_
  simp only [Act.put, List.setIfInBounds_toArray, List.set_cons_succ, List.set_cons_zero, Nat.reduceAdd]
  refine Many.lex_want (by rfl) (step trivial (fun w ⟨⟨hss, hsz, hat, _, _, _⟩, hsb, htb, hpb⟩ => by (go_simp; try rfl))) ?_
  simp only [Act.put, List.setIfInBounds_toArray, List.set_cons_succ, List.set_cons_zero, Nat.reduceAdd]
  refine Many.lex_want (by rfl) (step trivial (fun w ⟨⟨hss, hsz, hat, _, _, _⟩, hsb, htb, hpb⟩ => by (go_simp; try rfl))) ?_
  simp only [Act.put, List.setIfInBounds_toArray, List.set_cons_succ, List.set_cons_zero, Nat.reduceAdd]
  refine Many.lex_want (by rfl) (step trivial (fun w ⟨⟨hss, hsz, hat, _, _, _⟩, hsb, htb, hpb⟩ => by (go_simp; try rfl))) ?_
  simp only [Act.put, List.setIfInBounds_toArray, List.set_cons_succ, List.set_cons_zero, Nat.reduceAdd]
  refine Many.lex_want (by rfl) (step (v := .int .i64 N) trivial (fun w ⟨⟨hss, hsz, hat, _, _, _⟩, hsb, htb, hpb⟩ => by (go_simp; try rfl))) ?_
  simp only [Act.put, List.setIfInBounds_toArray, List.set_cons_succ, List.set_cons_zero, Nat.reduceAdd]
  refine Many.lex_want (by rfl) (step (v := .bool false) trivial (fun w ⟨⟨hss, hsz, hat, _, _, _⟩, hsb, htb, hpb⟩ => by (go_simp; try (first | done | omega | (simp; omega))))) ?_
  simp only [Act.put, List.setIfInBounds_toArray, List.set_cons_succ, List.set_cons_zero, Nat.reduceAdd]
  refine Many.lex_want (by rfl) (step (v := .bool false) trivial (fun w ⟨⟨hss, hsz, hat, _, _, _⟩, hsb, htb, hpb⟩ => by (go_simp; try rfl))) ?_
  simp only [Act.put, List.setIfInBounds_toArray, List.set_cons_succ, List.set_cons_zero, Nat.reduceAdd]
  refine Many.lex_nil fun _ w1 _ ⟨hJ', hs'⟩ => ?_
  clear step
  gi_wp2
  go_end0
  exact ⟨⟨_, rfl⟩, hJ', hs'⟩
theorem at2_gives {b N n s t Bs Bt Bp : Nat} {g : Nat → Nat → Nat} (hs : s ≤ N) (ht : t ≤ N) (W1 : World) :
    Gives Try.prog 102 #[.pointer (some ⟨Bs, 0, none⟩), .pointer (some ⟨Bt, 0, none⟩), .pointer (some ⟨Bp, 0, none⟩)] encW2 (witsAt2 N n g s t) (fun W => At2R W Bs Bt Bp b N n g s t) W1 := by
  by_cases a : 0 < s
  · by_cases a' : 0 < t
    · by_cases c : s < N
      · by_cases d : t < N
        · exact at2_o_c hs ht a a' c d W1
        · exact at2_o_tN hs ht a a' c d W1
      · exact at2_o_sN hs ht a a' c W1
    · by_cases c : s < N
      · by_cases d : t < N
        · exact at2_t0_c hs ht a a' c d W1
        · exact at2_t0_tN hs ht a a' c d W1
      · exact at2_t0_sN hs ht a a' c W1
  · by_cases c : s < N
    · by_cases d : t < N
      · exact at2_s0_c hs ht a c d W1
      · exact at2_s0_tN hs ht a c d W1
    · exact at2_s0_sN hs ht a c W1
end Go.Proofs.Ytifbiamfandjnaa
set_option linter.unusedSimpArgs false
set_option linter.unusedVariables false
namespace Go.Proofs.Ytifbiamfandjnaa
open Go Go.Proofs Go.RowKit Go.Seq
attribute [local go_sem] Oper.semAt_some
def rowW (N n : Nat) (g : Nat → Nat → Nat) (s t : Nat) : List Wit2 := (List.range t).flatMap (witsAt2 N n g s)
def rowsW (N n : Nat) (g : Nat → Nat → Nat) (s : Nat) : List Wit2 := (List.range s).flatMap fun s => rowW N n g s (N + 1)
def allWits2 (N n : Nat) (g : Nat → Nat → Nat) : List Wit2 := rowsW N n g (N + 1)
theorem rowW_succ (N n : Nat) (g : Nat → Nat → Nat) (s t : Nat) : rowW N n g s (t + 1) = rowW N n g s t ++ witsAt2 N n g s t := by simp [rowW, List.range_succ]
theorem rowsW_succ (N n : Nat) (g : Nat → Nat → Nat) (s : Nat) : rowsW N n g (s + 1) = rowsW N n g s ++ rowW N n g s (N + 1) := by simp [rowsW, List.range_succ]
theorem rowW_rest (N n : Nat) (g : Nat → Nat → Nat) (s : Nat) {t : Nat} : ∀ {M}, t < M → ∃ rest, rowW N n g s M = rowW N n g s t ++ (witsAt2 N n g s t ++ rest)
  | 0, h => by omega
  | M + 1, h => by
    by_cases e : t = M
    · subst e; exact ⟨[], by rw [rowW_succ]; simp⟩
    · obtain ⟨rest, hr⟩ := rowW_rest N n g s (t := t) (M := M) (by omega)
      exact ⟨rest ++ witsAt2 N n g s M, by rw [rowW_succ, hr]; simp⟩
theorem rowsW_rest (N n : Nat) (g : Nat → Nat → Nat) {s : Nat} : ∀ {M}, s < M → ∃ rest, rowsW N n g M = rowsW N n g s ++ (rowW N n g s (N + 1) ++ rest)
  | 0, h => by omega
  | M + 1, h => by
    by_cases e : s = M
    · subst e; exact ⟨[], by rw [rowsW_succ]; simp⟩
    · obtain ⟨rest, hr⟩ := rowsW_rest N n g (s := s) (M := M) (by omega)
      exact ⟨rest ++ rowW N n g M (N + 1), by rw [rowsW_succ, hr]; simp⟩
theorem all2_rest (N n : Nat) (g : Nat → Nat → Nat) {s t : Nat} (hs : s < N + 1) (ht : t < N + 1) : ∃ rest, allWits2 N n g = (rowsW N n g s ++ rowW N n g s t) ++ (witsAt2 N n g s t ++ rest) := by
  obtain ⟨r1, h1⟩ := rowsW_rest N n g hs
  obtain ⟨r2, h2⟩ := rowW_rest N n g s ht
  exact ⟨r2 ++ r1, by unfold allWits2; rw [h1, h2]; simp⟩
abbrev boxes (b s t : Nat) (w : World) : World := ((w.alloc (.cells #[.pointer (some ⟨b, 0, none⟩)] 108)).alloc (.cells #[.int .i64 s] 3)).alloc (.cells #[.int .i64 t] 3)
theorem at2_maker {b s t : Nat} (w : World) :
    Calls Try.prog 89 #[.pointer (some ⟨b, 0, none⟩), .int .i64 s, .int .i64 t] w fun e w' => e = .returned (.func (.func 102) #[] #[.pointer (some ⟨w.heap.size + 1, 0, none⟩), .pointer (some ⟨w.heap.size + 2, 0, none⟩), .pointer (some ⟨w.heap.size, 0, none⟩)]) ∧
      w' = boxes b s t w := by
  go_enter Try.func89, Try.ntmps89
  go_wp2
  go_ret
  exact ⟨rfl, rfl⟩
theorem At2R.below {W W' : World} {Bs Bt Bp b N n s t B : Nat} {g : Nat → Nat → Nat} (h : At2R W Bs Bt Bp b N n g s t) (hb : Below B W W') (h1 : b < B) (h2 : Bs < B) (h3 : Bt < B) (h4 : Bp < B) : At2R W' Bs Bt Bp b N n g s t :=
  ⟨h.sheet.below hb h1, (hb.cell (p := ⟨Bs, 0, none⟩) h2).trans h.sb, (hb.cell (p := ⟨Bt, 0, none⟩) h3).trans h.tb, (hb.cell (p := ⟨Bp, 0, none⟩) h4).trans h.pb⟩
set_option maxHeartbeats 2000000 in
set_option maxRecDepth 100000 in
theorem ever2_gives {b N n Bl : Nat} {g : Nat → Nat → Nat} (W1 : World) :
    Gives Try.prog 88 #[.pointer (some ⟨Bl, 0, none⟩)] encW2 (allWits2 N n g) (fun W => SheetAt W b N n g ∧ W.cell? ⟨Bl, 0, none⟩ = some (.pointer (some ⟨b, 0, none⟩))) W1 := by
  intro l J hJ hR hY h0
  have hmx : Try.prog.follows .mixedOrders = true := by kernel_rfl
  have h0' := hJ _ _ _ h0 ((Below.refl _ _).alloc (Nat.le_refl _) (.cells #[.func (.yield l) #[] #[]] 119))
  obtain ⟨hL0, hl0⟩ := hR _ _ h0'
  have hN := hL0.hN
  have hs0 := hL0.scale
  have hwN : IntKind.i64.wrap ((N : Int) + 1) = (N : Int) + 1 := IntWalk.i64_in _ (by omega)
  refine callsIn_of_wp_marks Try.func88 rfl trivial ?_ rfl
  simp only [Try.ntmps88, List.size_toArray, List.length_cons, List.length_nil, Nat.reduceAdd, Nat.reduceSub, Array.replicate_succ, Array.replicate_zero, List.push_toArray, List.append_toArray, List.nil_append, List.cons_append]
  gi_wp2
  refine wpIn_loop (fun a' wr => ∃ (s : Nat) (ds : List Nat) (u3 u4 u5 u6 u13 u14 u15 u16 u17 u18 u19 u20 u21 u22 u23 u24 u25 u26 u27 u28 u29 u30 u31 u32 u33 u34 u35 : Value), s ≤ N + 1 ∧ J (rowsW N n g s) wr ∧ wr.cell? ⟨W1.heap.size, 0, none⟩ = some (.func (.yield l) #[] #[]) ∧ W1.heap.size + 1 ≤ wr.heap.size ∧ Laid ds (W1.heap.size + 1) wr ∧
      a' = { tmps := #[.func (.yield l) #[] #[], .pointer (some ⟨Bl, 0, none⟩), .pointer (some ⟨W1.heap.size, 0, none⟩), u3, u4, u5, u6, .pointer (some ⟨b, 0, none⟩), .pointer (some ⟨b, 0, none⟩), .pointer (some ⟨b, 0, none⟩), .int .i64 N, .int .i64 ((N : Int) + 1), .int .i64 s, u13, u14, u15, u16, u17, u18, u19, u20, u21, u22, u23, u24, u25, u26, u27, u28, u29, u30, u31, u32, u33, u34, u35], defers := marks ds })
    (fun a' _ => N + 1 - (intOf (a'.tmps.getD 12 undef)).toNat) ?_ ?_
  · refine ⟨0, [], undef, undef, undef, undef, undef, undef, undef, undef, undef, undef, undef, undef, undef, undef, undef, undef, undef, undef, undef, undef, undef, undef, undef, undef, undef, undef, undef, by omega, ?_, ?_, by simp, Laid.nil _ _, rfl⟩
    · simpa [rowsW] using h0'
    · go_simp
  rintro a' wr ⟨s, ds, u3, u4, u5, u6, u13, u14, u15, u16, u17, u18, u19, u20, u21, u22, u23, u24, u25, u26, u27, u28, u29, u30, u31, u32, u33, u34, u35, hs, hj, hy0, hsz, hlaid, rfl⟩
  obtain ⟨hL, hlb⟩ := hR _ _ hj
  have hw1 : IntKind.i64.wrap ((s : Int) + 1) = (s : Int) + 1 := IntWalk.i64_in _ (by omega)
  have hsc := hL.scale
  by_cases hlt : s < N + 1
  · gi_wp2
    refine wpIn_loop (fun a' wr => ∃ (t : Nat) (ds : List Nat) (u4 u5 u6 u13 u21 u22 u23 u24 u25 u26 u27 u28 u29 u30 u31 u32 u33 u34 u35 : Value), t ≤ N + 1 ∧ J (rowsW N n g s ++ rowW N n g s t) wr ∧ wr.cell? ⟨W1.heap.size, 0, none⟩ = some (.func (.yield l) #[] #[]) ∧ W1.heap.size + 1 ≤ wr.heap.size ∧ Laid ds (W1.heap.size + 1) wr ∧
        a' = { tmps := #[.func (.yield l) #[] #[], .pointer (some ⟨Bl, 0, none⟩), .pointer (some ⟨W1.heap.size, 0, none⟩), .int .i64 s, u4, u5, u6, .pointer (some ⟨b, 0, none⟩), .pointer (some ⟨b, 0, none⟩), .pointer (some ⟨b, 0, none⟩), .int .i64 N, .int .i64 ((N : Int) + 1), .int .i64 s, u13, .int .i64 s, .pointer (some ⟨b, 0, none⟩), .pointer (some ⟨b, 0, none⟩), .pointer (some ⟨b, 0, none⟩), .int .i64 N, .int .i64 ((N : Int) + 1), .int .i64 t, u21, u22, u23, u24, u25, u26, u27, u28, u29, u30, u31, u32, u33, u34, u35], defers := marks ds })
      (fun a' _ => N + 1 - (intOf (a'.tmps.getD 20 undef)).toNat) ?_ ?_
    · refine ⟨0, ds, _, _, _, _, _, _, _, _, _, _, _, _, _, _, _, _, _, _, _, by omega, ?_, hy0, hsz, hlaid, rfl⟩
      simpa [rowW] using hj
    clear hy0 hsz hlaid hj hL hlb hsc
    rintro a' wr ⟨t, ds, u4, u5, u6, u13, u21, u22, u23, u24, u25, u26, u27, u28, u29, u30, u31, u32, u33, u34, u35, ht, hj, hy0, hsz, hlaid, rfl⟩
    obtain ⟨hL, hlb⟩ := hR _ _ hj
    have hsc := hL.scale
    have hw2 : IntKind.i64.wrap ((t : Int) + 1) = (t : Int) + 1 := IntWalk.i64_in _ (by omega)
    by_cases hlt2 : t < N + 1
    · have hb2 : Below wr.heap.size wr (boxes b s t wr) := (((Below.refl _ wr).alloc (Nat.le_refl _) _).alloc (by simp) _).alloc (by simp; omega) _
      have hatr : At2R (boxes b s t wr) (wr.heap.size + 1) (wr.heap.size + 2) wr.heap.size b N n g s t :=
        ⟨hL.below hb2 hL.lt, by go_simp, by go_simp, by go_simp⟩
      have hs2 : (boxes b s t wr).heap.size = wr.heap.size + 3 := by simp
      gi_wp2_with (refine ⟨trivial, rfl, ?_⟩; gi_at_call 89; refine (callsIn_wide.2 (at2_maker _)).mono ?_; rintro e w' ⟨rfl, rfl⟩)
      revert hatr hb2 hs2
      generalize boxes b s t wr = w2
      intro hb2 hatr hs2
      refine range_gives (gf := 102) (lb := #[.pointer (some ⟨wr.heap.size + 1, 0, none⟩), .pointer (some ⟨wr.heap.size + 2, 0, none⟩), .pointer (some ⟨wr.heap.size, 0, none⟩)]) rfl (enters_of Try.func102 (by kernel_rfl) rfl) (encs := encW2) (xs := witsAt2 N n g s t)
        (R := fun W => At2R W (wr.heap.size + 1) (wr.heap.size + 2) wr.heap.size b N n g s t) (fun x => rfl) (fun W1' _ _ => at2_gives (by omega) (by omega) W1')
        (fun pre W => J (rowsW N n g s ++ rowW N n g s t ++ pre) W ∧ At2R W (wr.heap.size + 1) (wr.heap.size + 2) wr.heap.size b N n g s t ∧ W.cell? ⟨W1.heap.size, 0, none⟩ = some (.func (.yield l) #[] #[]) ∧ Laid ds (W1.heap.size + 1) W)
        ?_ (fun pre W h => h.2.1) ?_
        (fun x a' W => ∃ Bx, w2.heap.size + 2 ≤ Bx ∧ W.heap[Bx]? = some (.cells #[.int .i64 (x.1.1 : Nat), .int .i64 (x.1.2 : Nat), .bool x.2.1] 86 (0, 0)) ∧
          ∃ v27 v28, a' = { tmps := #[.func (.yield l) #[] #[], .pointer (some ⟨Bl, 0, none⟩), .pointer (some ⟨W1.heap.size, 0, none⟩), .int .i64 s, .int .i64 t, .pointer (some ⟨Bx, 0, none⟩), .int .i64 x.2.2, .pointer (some ⟨b, 0, none⟩), .pointer (some ⟨b, 0, none⟩), .pointer (some ⟨b, 0, none⟩), .int .i64 N, .int .i64 ((N : Int) + 1), .int .i64 s, u13, .int .i64 s, .pointer (some ⟨b, 0, none⟩), .pointer (some ⟨b, 0, none⟩), .pointer (some ⟨b, 0, none⟩), .int .i64 N, .int .i64 ((N : Int) + 1), .int .i64 t, .bool true, .int .i64 t, .pointer (some ⟨b, 0, none⟩), .int .i64 s, .int .i64 t,
            .func (.func 102) #[] #[.pointer (some ⟨wr.heap.size + 1, 0, none⟩), .pointer (some ⟨wr.heap.size + 2, 0, none⟩), .pointer (some ⟨wr.heap.size, 0, none⟩)], v27, v28, u29, u30, u31, u32, u33, u34, u35], defers := [] })
        ?_ ?assign ?body ?done
      · rintro pre W W' ⟨k1, k2, k3, k4⟩ hb
        have hbl := hL.lt
        exact ⟨hJ _ _ _ k1 (hb.mono (by omega)), k2.below hb (by omega) (by omega) (by omega) (by omega), (hb.cell (p := ⟨W1.heap.size, 0, none⟩) (by show W1.heap.size < _; omega)).trans k3, k4.below hb (fun D hD => by have := hlaid.lt hD; omega)⟩
      · refine ⟨by simpa using hJ _ _ _ hj (hb2.mono (by omega)), hatr, (hb2.cell (p := ⟨W1.heap.size, 0, none⟩) (by show W1.heap.size < _; omega)).trans hy0, hlaid.below hb2 (fun D hD => hlaid.lt hD)⟩
      · rintro x a' W W' ⟨Bx, k1, k2, v27, v28, rfl⟩ hf
        exact ⟨Bx, k1, (hf.2 Bx k1 (Array.getElem?_eq_some_iff.1 k2).1).trans k2, v27, v28, rfl⟩
      case assign =>
        intro l2 pre x W K hi hsz2 hK
        simp only [encW2]
        gi_wp2
        exact hK _ _ ((Below.refl _ W).alloc (Nat.le_refl _) _) ⟨W.heap.size, by omega, World.alloc_heap_new W _, _, _, rfl⟩
      case body =>
        rintro l2 pre x a' W ⟨hj2, hat2, hy2, hl2⟩ ⟨Bx, hBx, hbx, v27, v28, rfl⟩ hsz2 ⟨post, hpost⟩
        obtain ⟨fn, tmps, assign, body, hyy, hRR⟩ := hY (rowsW N n g s ++ rowW N n g s t ++ pre) x W hj2 (by omega) (by
          obtain ⟨rest, hrest⟩ := all2_rest N n g hlt hlt2
          exact ⟨post ++ rest, by rw [hrest, hpost]; simp⟩)
        simp only [encW2] at hyy
        have c0 : W.cell? ⟨Bx, 0, none⟩ = some (.int .i64 (x.1.1 : Nat)) := by simp [World.cell?, hbx]
        have c1 : W.cell? ⟨Bx, 1, none⟩ = some (.int .i64 (x.1.2 : Nat)) := by simp [World.cell?, hbx]
        have c2 : W.cell? ⟨Bx, 2, none⟩ = some (.bool x.2.1) := by simp [World.cell?, hbx]
        gi_wp2
        refine ⟨rfl, RoundIn.mono (F := Fence.wide.inRound l2) hRR ?_⟩
        rintro e W' ⟨rfl, hJ', hf', ho⟩
        have hf2 : From w2.heap.size W W' := hf'.mono (by omega)
        have hl3 := hl2.from hf' (by omega)
        have e0 : W'.heap[wr.heap.size + 2]? = W.heap[wr.heap.size + 2]? := hf'.2 _ (by omega) (by omega)
        have e1 : W'.heap[wr.heap.size + 1]? = W.heap[wr.heap.size + 1]? := hf'.2 _ (by omega) (by omega)
        have e2 : W'.heap[wr.heap.size]? = W.heap[wr.heap.size]? := hf'.2 _ (by omega) (by omega)
        have e3 : W'.heap[W1.heap.size]? = W.heap[W1.heap.size]? := hf'.2 _ (by omega) (by omega)
        clear hf'
        gi_wp2
        obtain ⟨hL', _⟩ := hR _ _ hJ'
        refine ⟨⟨by simpa using hJ', ⟨hL', ?_, ?_, ?_⟩, ?_⟩, by rw [← hs2]; exact hf2⟩
        · exact (World.cell?_of_block (a := ⟨wr.heap.size + 1, 0, none⟩) e1).trans hat2.sb
        · exact (World.cell?_of_block (a := ⟨wr.heap.size + 2, 0, none⟩) e0).trans hat2.tb
        · exact (World.cell?_of_block (a := ⟨wr.heap.size, 0, none⟩) e2).trans hat2.pb
        · exact (World.cell?_of_block (a := ⟨W1.heap.size, 0, none⟩) e3).trans hy2
      case done =>
        intro W ⟨k1, k2, k3, k4⟩ hszW hD
        gi_wp2
        refine ⟨⟨t + 1, w2.heap.size :: ds, _, _, _, _, _, _, _, _, _, _, _, _, _, _, _, _, _, _, _, by omega, by rw [rowW_succ, ← List.append_assoc]; exact k1, k3, by omega, Laid.cons k4 (fun E hE => by have := hlaid.lt hE; omega) (by omega) hD, rfl⟩, ?_⟩
        simp [intOf]
        omega
    · have : t = N + 1 := by omega
      subst this
      gi_wp2
      refine ⟨⟨s + 1, ds, _, _, _, _, _, _, _, _, _, _, _, _, _, _, _, _, _, _, _, _, _, _, _, _, _, _, _, by omega, by rw [rowsW_succ]; exact hj, hy0, hsz, hlaid, rfl⟩, ?_⟩
      simp [intOf]
      omega
  · have : s = N + 1 := by omega
    subst this
    gi_wp2
    refine leaves_marks ds wr hlaid fun w' hb => ⟨_, results_none rfl _ _ _, ⟨_, rfl⟩, hJ _ _ _ hj (hb.mono (by omega)), ?_⟩
    have := hb.size
    omega
end Go.Proofs.Ytifbiamfandjnaa
set_option linter.unusedSimpArgs false
set_option linter.unusedVariables false
namespace Go.Proofs.Ytifbiamfandjnaa
open Go Go.Proofs Go.RowKit Go.Seq
attribute [local go_sem] Oper.semAt_some
def wStep2 (a : Wit2 × Int) (x : Wit2) : Wit2 × Int := if a.2 < (x.2.2.natAbs : Int) then (x, (x.2.2.natAbs : Int)) else a
def worst2Of (xs : List Wit2) : Wit2 × Int := xs.foldl wStep2 (((0, 0), false, 0), -1)
theorem worst2Of_snoc (pre : List Wit2) (x : Wit2) : worst2Of (pre ++ [x]) = wStep2 (worst2Of pre) x := by simp [worst2Of]
def witV2 (x : Wit2) : Value := .agg #[.int .i64 (x.1.1 : Nat), .int .i64 (x.1.2 : Nat), .bool x.2.1]
theorem worst2Of_le {xs : List Wit2} {B : Int} (hB : 0 ≤ B) (h : ∀ x ∈ xs, (x.2.2.natAbs : Int) ≤ B) : -1 ≤ (worst2Of xs).2 ∧ (worst2Of xs).2 ≤ B := by
  have : ∀ (l : List Wit2) (a : Wit2 × Int), (∀ x ∈ l, (x.2.2.natAbs : Int) ≤ B) → -1 ≤ a.2 ∧ a.2 ≤ B → -1 ≤ (l.foldl wStep2 a).2 ∧ (l.foldl wStep2 a).2 ≤ B := by
    intro l
    induction l with
    | nil => intro a _ h; exact h
    | cons x l ih =>
      intro a hl ha
      refine ih _ (fun y hy => hl y (List.mem_cons_of_mem _ hy)) ?_
      have := hl x (List.mem_cons_self ..)
      unfold wStep2
      split
      · exact ⟨by simp only; omega, this⟩
      · exact ha
  exact this xs _ h ⟨by simp, by simp only; omega⟩
set_option maxHeartbeats 1000000 in
set_option maxRecDepth 100000 in
theorem worst2_any {gf : Nat} {lb : Array Value} {xs : List Wit2} {R : World → Prop} {w : World} (eg : ∀ args w, (callFunc gf args).run Try.prog w = .ok (.enter gf args) w)
    (hb : ∀ x ∈ xs, x.2.2.natAbs ≤ 1000000000) (hgives : ∀ W1, Gives Try.prog gf lb encW2 xs R W1) (hR : ∀ W, Below w.heap.size w W → R W) :
    Calls Try.prog 53 #[.func (.func gf) #[] lb] w fun e w' => e = .returned (.tuple #[witV2 (worst2Of xs).1, .int .i64 (worst2Of xs).2]) ∧ Below w.heap.size w w' := by
  have hmx : Try.prog.follows .mixedOrders = true := by kernel_rfl
  refine (callsIn_wide (n := 0)).1 ?_
  refine callsIn_of_wp_marks Try.func53 rfl trivial ?_ rfl
  simp only [Try.ntmps53, List.size_toArray, List.length_cons, List.length_nil, Nat.reduceAdd, Nat.reduceSub, Array.replicate_succ, Array.replicate_zero, List.push_toArray, List.append_toArray, List.nil_append, List.cons_append]
  gi_wp2
  obtain ⟨w0, hw0⟩ : ∃ w0, ((w.alloc (.cells #[.int .i64 0, .int .i64 0, .bool false] 86)).alloc (.cells #[.int .i64 0, .int .i64 0, .bool false] 86)).alloc (.cells #[.int .i64 (-1)] 3) = w0 := ⟨_, rfl⟩
  have hs0 : w0.heap.size = w.heap.size + 3 := by rw [← hw0]; simp
  have hb0 : Below w.heap.size w w0 := by rw [← hw0]; exact (((Below.refl _ w).alloc (Nat.le_refl _) _).alloc (by simp) _).alloc (by simp; omega) _
  have h20 : w0.heap[w.heap.size]? = some (.cells #[.int .i64 0, .int .i64 0, .bool false] 86 (0, 0)) := by
    rw [← hw0, Below.heap_alloc _ _ _ (by simp; omega), Below.heap_alloc _ _ _ (by simp)]; exact World.alloc_heap_new w _
  have h21 : w0.heap[w.heap.size + 1]? = some (.cells #[.int .i64 0, .int .i64 0, .bool false] 86 (0, 0)) := by
    rw [← hw0, Below.heap_alloc _ _ _ (by simp)]
    have := World.alloc_heap_new (w.alloc (.cells #[.int .i64 0, .int .i64 0, .bool false] 86)) (.cells #[.int .i64 0, .int .i64 0, .bool false] 86)
    simpa using this
  have h22 : w0.heap[w.heap.size + 1 + 1]? = some (.cells #[.int .i64 (-1)] 3 (0, 0)) := by
    rw [← hw0]
    have := World.alloc_heap_new ((w.alloc (.cells #[.int .i64 0, .int .i64 0, .bool false] 86)).alloc (.cells #[.int .i64 0, .int .i64 0, .bool false] 86)) (.cells #[.int .i64 (-1)] 3)
    simpa using this
  rw [hw0]
  clear hw0
  refine range_gives (gf := gf) (lb := lb) rfl eg (encs := encW2) (xs := xs) (R := R) (fun x => rfl) (fun W1' _ _ => hgives W1')
    (fun pre W => W.heap[w.heap.size]? = some (.cells #[.int .i64 0, .int .i64 0, .bool false] 86 (0, 0)) ∧ W.heap[w.heap.size + 1]? = some (.cells #[.int .i64 ((worst2Of pre).1.1.1 : Nat), .int .i64 ((worst2Of pre).1.1.2 : Nat), .bool (worst2Of pre).1.2.1] 86 (0, 0)) ∧
      W.heap[w.heap.size + 1 + 1]? = some (.cells #[.int .i64 (worst2Of pre).2] 3 (0, 0)) ∧ Below w.heap.size w W)
    ?_ (fun pre W h => hR W h.2.2.2) ⟨h20, h21, h22, hb0⟩
    (fun x a' W => ∃ Bx, w0.heap.size + 2 ≤ Bx ∧ W.heap[Bx]? = some (.cells #[.int .i64 (x.1.1 : Nat), .int .i64 (x.1.2 : Nat), .bool x.2.1] 86 (0, 0)) ∧
        ∃ v10 v11, a' = { tmps := #[.func (.func gf) #[] lb, undef, .pointer (some ⟨w.heap.size, 0, none⟩), .int .i64 0, .pointer (some ⟨w.heap.size + 1, 0, none⟩), .pointer (some ⟨w.heap.size + 1 + 1, 0, none⟩), .pointer (some ⟨Bx, 0, none⟩), .int .i64 x.2.2, undef, .func (.func gf) #[] lb, v10, v11, undef, undef, undef, undef, undef, undef, undef, undef, undef], defers := [] })
    ?_ ?assign ?body ?done
  · rintro pre W W' ⟨k1, k2, k3, k4⟩ hb
    exact ⟨(hb.block _ (by omega)).trans k1, (hb.block _ (by omega)).trans k2, (hb.block _ (by omega)).trans k3, k4.trans (hb.mono (by omega))⟩
  · rintro x a' W W' ⟨Bx, k1, k2, v10, v11, rfl⟩ hf
    exact ⟨Bx, k1, (hf.2 Bx k1 (Array.getElem?_eq_some_iff.1 k2).1).trans k2, v10, v11, rfl⟩
  case assign =>
    intro l2 pre x W K hi hsz2 hK
    simp only [encW2]
    gi_wp2
    exact hK _ _ ((Below.refl _ W).alloc (Nat.le_refl _) _) ⟨W.heap.size, by omega, World.alloc_heap_new W _, _, _, rfl⟩
  case body =>
    rintro l2 pre x a' W ⟨k1, k2, k3, k4⟩ ⟨Bx, hBx, hbx, v10, v11, rfl⟩ hsz2 ⟨post, hpost⟩
    have hxb := hb x (by rw [hpost]; simp)
    have c0 : W.cell? ⟨Bx, 0, none⟩ = some (.int .i64 (x.1.1 : Nat)) := by simp [World.cell?, hbx]
    have c1 : W.cell? ⟨Bx, 1, none⟩ = some (.int .i64 (x.1.2 : Nat)) := by simp [World.cell?, hbx]
    have c2 : W.cell? ⟨Bx, 2, none⟩ = some (.bool x.2.1) := by simp [World.cell?, hbx]
    have d0 : W.cell? ⟨w.heap.size + 1, 0, none⟩ = some (.int .i64 ((worst2Of pre).1.1.1 : Nat)) := by simp [World.cell?, k2]
    have d1 : W.cell? ⟨w.heap.size + 1, 1, none⟩ = some (.int .i64 ((worst2Of pre).1.1.2 : Nat)) := by simp [World.cell?, k2]
    have d2 : W.cell? ⟨w.heap.size + 1, 2, none⟩ = some (.bool (worst2Of pre).1.2.1) := by simp [World.cell?, k2]
    have f0 : W.frozen? ⟨w.heap.size + 1, 0, none⟩ = false := by simp [World.frozen?, k2]
    have f1 : W.frozen? ⟨w.heap.size + 1, 1, none⟩ = false := by simp [World.frozen?, k2]
    have f2 : W.frozen? ⟨w.heap.size + 1, 2, none⟩ = false := by simp [World.frozen?, k2]
    have m0 : W.cell? ⟨w.heap.size + 1 + 1, 0, none⟩ = some (.int .i64 (worst2Of pre).2) := by simp [World.cell?, k3]
    have m1 : W.frozen? ⟨w.heap.size + 1 + 1, 0, none⟩ = false := by simp [World.frozen?, k3]
    gi_wp2_with (refine ⟨trivial, rfl, ?_⟩; gi_at_call 79; refine (CallsIn.inRound l2 (callsIn_wide.2 (absolute_any x.2.2 (by omega) (by omega) _))).mono ?_; rintro e w' ⟨rfl, rfl⟩)
    · rename_i hgt
      have e : worst2Of (pre ++ [x]) = (x, (x.2.2.natAbs : Int)) := by rw [worst2Of_snoc]; unfold wStep2; rw [if_pos hgt]
      rw [e]
      refine ⟨⟨?_, ?_, ?_, ?_⟩, ?_, rfl, rfl⟩
      · exact put_other (put_other (put_other (put_other k1 (by omega) _) (by omega) _) (by omega) _) (by omega) _
      · exact put_other (heap_set (heap_set (heap_set k2 _) _) _) (by omega) _
      · exact heap_set (put_other (put_other (put_other k3 (by omega) _) (by omega) _) (by omega) _) _
      · exact (((k4.setCell (p := ⟨w.heap.size + 1, 0, none⟩) (by simp) _).setCell (p := ⟨w.heap.size + 1, 1, none⟩) (by simp) _).setCell (p := ⟨w.heap.size + 1, 2, none⟩) (by simp) _).setCell (p := ⟨w.heap.size + 1 + 1, 0, none⟩) (by simp; omega) _
      · exact ((((From.refl _ _).setCell (p := ⟨w.heap.size + 1, 0, none⟩) (by simp) _).setCell (p := ⟨w.heap.size + 1, 1, none⟩) (by simp) _).setCell (p := ⟨w.heap.size + 1, 2, none⟩) (by simp) _).setCell (p := ⟨w.heap.size + 1 + 1, 0, none⟩) (by simp) _
    · rename_i hgt
      have e : worst2Of (pre ++ [x]) = worst2Of pre := by rw [worst2Of_snoc]; unfold wStep2; rw [if_neg (by omega)]
      rw [e]
      exact ⟨⟨⟨rfl, rfl, rfl⟩, rfl⟩, From.refl _ _⟩
  case done =>
    intro W ⟨k1, k2, k3, k4⟩ hszW hD
    have d0 : W.cell? ⟨w.heap.size + 1, 0, none⟩ = some (.int .i64 ((worst2Of xs).1.1.1 : Nat)) := by simp [World.cell?, k2]
    have d1 : W.cell? ⟨w.heap.size + 1, 1, none⟩ = some (.int .i64 ((worst2Of xs).1.1.2 : Nat)) := by simp [World.cell?, k2]
    have d2 : W.cell? ⟨w.heap.size + 1, 2, none⟩ = some (.bool (worst2Of xs).1.2.1) := by simp [World.cell?, k2]
    have f0 : W.frozen? ⟨w.heap.size, 0, none⟩ = false := by simp [World.frozen?, k1]
    have f1 : W.frozen? ⟨w.heap.size, 1, none⟩ = false := by simp [World.frozen?, k1]
    have f2 : W.frozen? ⟨w.heap.size, 2, none⟩ = false := by simp [World.frozen?, k1]
    have g0 : W.cell? ⟨w.heap.size, 0, none⟩ = some (.int .i64 0) := by simp [World.cell?, k1]
    have g1 : W.cell? ⟨w.heap.size, 1, none⟩ = some (.int .i64 0) := by simp [World.cell?, k1]
    have g2 : W.cell? ⟨w.heap.size, 2, none⟩ = some (.bool false) := by simp [World.cell?, k1]
    have m0 : W.cell? ⟨w.heap.size + 1 + 1, 0, none⟩ = some (.int .i64 (worst2Of xs).2) := by simp [World.cell?, k3]
    gi_wp2
    obtain ⟨W3, hW3⟩ : ∃ W3, ((W.drew.setCell ⟨w.heap.size, 0, none⟩ (.int .i64 ((worst2Of xs).1.1.1 : Nat))).setCell ⟨w.heap.size, 1, none⟩ (.int .i64 ((worst2Of xs).1.1.2 : Nat))).setCell ⟨w.heap.size, 2, none⟩ (.bool (worst2Of xs).1.2.1) = W3 := ⟨_, rfl⟩
    have r1 : W3.heap[w.heap.size + 1]? = some (.cells #[.int .i64 ((worst2Of xs).1.1.1 : Nat), .int .i64 ((worst2Of xs).1.1.2 : Nat), .bool (worst2Of xs).1.2.1] 86 (0, 0)) := by
      rw [← hW3]; exact put_other (put_other (put_other k2 (by omega) _) (by omega) _) (by omega) _
    have r2 : W3.heap[w.heap.size + 1 + 1]? = some (.cells #[.int .i64 (worst2Of xs).2] 3 (0, 0)) := by
      rw [← hW3]; exact put_other (put_other (put_other k3 (by omega) _) (by omega) _) (by omega) _
    have r0 : W3.heap[w.heap.size]? = some (.cells #[.int .i64 ((worst2Of xs).1.1.1 : Nat), .int .i64 ((worst2Of xs).1.1.2 : Nat), .bool (worst2Of xs).1.2.1] 86 (0, 0)) := by
      rw [← hW3]; exact heap_set (heap_set (heap_set k1 _) _) _
    have rD : W3.heap[w0.heap.size]? = some (.deferred (some [])) := by
      rw [← hW3]; exact put_other (put_other (put_other hD (by omega) _) (by omega) _) (by omega) _
    have rB : Below w.heap.size w W3 := by
      rw [← hW3]; exact ((k4.drew.setCell (p := ⟨w.heap.size, 0, none⟩) (Nat.le_refl _) _).setCell (p := ⟨w.heap.size, 1, none⟩) (Nat.le_refl _) _).setCell (p := ⟨w.heap.size, 2, none⟩) (Nat.le_refl _) _
    refine region_pivot 2 (fun b' W' => if b' then W' = W3 else W' = W.drew) hmx (by kernel_rfl) (by simp) (by simp) ?_
    have hCR : ∀ (b' : Bool) W', (if b' = true then W' = W3 else W' = W.drew) → W'.heap[w.heap.size + 1]? = some (.cells #[.int .i64 ((worst2Of xs).1.1.1 : Nat), .int .i64 ((worst2Of xs).1.1.2 : Nat), .bool (worst2Of xs).1.2.1] 86 (0, 0)) ∧ W'.heap[w.heap.size + 1 + 1]? = some (.cells #[.int .i64 (worst2Of xs).2] 3 (0, 0)) := by
      intro b' W' h
      cases b' with
      | true => obtain rfl : W' = W3 := by simpa using h
                exact ⟨r1, r2⟩
      | false => obtain rfl : W' = W.drew := by simpa using h
                 exact ⟨k2, k3⟩
    refine lex_want (by rfl) (tr_read (v := witV2 (worst2Of xs).1) _ (by rfl) hCR (fun W' ⟨q1, q2⟩ => ?_)) ?_
    · have d0 : W'.cell? ⟨w.heap.size + 1, 0, none⟩ = some (.int .i64 ((worst2Of xs).1.1.1 : Nat)) := by simp [World.cell?, q1]
      have d1 : W'.cell? ⟨w.heap.size + 1, 1, none⟩ = some (.int .i64 ((worst2Of xs).1.1.2 : Nat)) := by simp [World.cell?, q1]
      have d2 : W'.cell? ⟨w.heap.size + 1, 2, none⟩ = some (.bool (worst2Of xs).1.2.1) := by simp [World.cell?, q1]
      unfold witV2
      go_simp
    simp only [Act.put, List.setIfInBounds_toArray, List.set_cons_succ, List.set_cons_zero, Nat.reduceAdd]
    refine lex_want (by rfl) (tr_read (v := .int .i64 (worst2Of xs).2) _ (by rfl) hCR (fun W' ⟨q1, q2⟩ => ?_)) ?_
    · have m0 : W'.cell? ⟨w.heap.size + 1 + 1, 0, none⟩ = some (.int .i64 (worst2Of xs).2) := by simp [World.cell?, q2]
      go_simp
    simp only [Act.put, List.setIfInBounds_toArray, List.set_cons_succ, List.set_cons_zero, Nat.reduceAdd]
    refine lex_want (by rfl) (tr_pivot (v := undef) (by rfl) (fun W' h => ?_)) ?_
    · obtain rfl : W' = W.drew := by simpa using h
      unfold witV2
      go_simp
      exact ⟨rfl, hW3⟩
    simp only [Act.put, List.setIfInBounds_toArray, List.set_cons_succ, List.set_cons_zero, Nat.reduceAdd]
    refine lex_want (by rfl) (tr_read (v := .int .i64 (worst2Of xs).2) _ (by rfl) hCR (fun W' ⟨q1, q2⟩ => ?_)) ?_
    · go_simp
    simp only [Act.put, List.setIfInBounds_toArray, List.set_cons_succ, List.set_cons_zero, Nat.reduceAdd]
    refine lex_nil fun W' h => ?_
    obtain rfl : W' = W3 := by simpa using h
    gi_wp2
    rw [hs0] at rD
    have hlaid : Laid [w.heap.size + 3] (w.heap.size + 3) W' := ⟨by simp, by simp only [List.mem_singleton]; rintro D rfl; exact ⟨Nat.le_refl _, rD⟩⟩
    refine leaves_marks [w.heap.size + 3] W' hlaid fun w' hb' => ⟨.tuple #[witV2 (worst2Of xs).1, .int .i64 (worst2Of xs).2], ?_, rfl, rB.trans (hb'.mono (by omega))⟩
    have r0' := (hb'.block w.heap.size (by omega)).trans r0
    have d0 : w'.cell? ⟨w.heap.size, 0, none⟩ = some (.int .i64 ((worst2Of xs).1.1.1 : Nat)) := by simp [World.cell?, r0']
    have d1 : w'.cell? ⟨w.heap.size, 1, none⟩ = some (.int .i64 ((worst2Of xs).1.1.2 : Nat)) := by simp [World.cell?, r0']
    have d2 : w'.cell? ⟨w.heap.size, 2, none⟩ = some (.bool (worst2Of xs).1.2.1) := by simp [World.cell?, r0']
    rw [results_cell_tmp rfl]
    unfold witV2
    go_simp
end Go.Proofs.Ytifbiamfandjnaa
set_option linter.unusedSimpArgs false
set_option linter.unusedVariables false
namespace Go.Proofs.Ytifbiamfandjnaa
open Go Go.Proofs Go.RowKit Go.Seq
theorem ever2_maker {b : Nat} (w : World) :
    Calls Try.prog 72 #[.pointer (some ⟨b, 0, none⟩)] w fun e w' => e = .returned (.func (.func 88) #[] #[.pointer (some ⟨w.heap.size, 0, none⟩)]) ∧ w' = w.alloc (.cells #[.pointer (some ⟨b, 0, none⟩)] 108) := by
  go_enter Try.func72, Try.ntmps72
  go_wp2
  go_ret
  exact ⟨rfl, rfl⟩
theorem wits2_le {N n : Nat} {g : Nat → Nat → Nat} (hN : N ≤ 100) (hn : n ≤ 60) (hg : ∀ i j, i ≤ 100 → j ≤ 100 → g i j ≤ 60) : ∀ x ∈ allWits2 N n g, x.2.2.natAbs ≤ 600000 ∧ x.1.1 ≤ N ∧ x.1.2 ≤ N := by
  intro x hx
  unfold allWits2 rowsW at hx
  rw [List.mem_flatMap] at hx
  obtain ⟨s, hs, hx⟩ := hx
  rw [List.mem_range] at hs
  unfold rowW at hx
  rw [List.mem_flatMap] at hx
  obtain ⟨t, ht, hx⟩ := hx
  rw [List.mem_range] at ht
  unfold witsAt2 at hx
  rw [List.mem_append] at hx
  rcases hx with hx | hx
  · split at hx
    · rw [List.mem_singleton] at hx
      subst hx
      have h1 := exc2_le hN hn (hg s t (by omega) (by omega)) (s := s) (t := t) (by omega) (by omega)
      exact ⟨by unfold openW; simp only; omega, by unfold openW; simp only; omega, by unfold openW; simp only; omega⟩
    · cases hx
  · split at hx
    · rename_i hst
      rw [List.mem_singleton] at hx
      subst hx
      have h1 := exc2_le hN hn (hg (s + 1) (t + 1) (by omega) (by omega)) (s := s) (t := t) (by omega) (by omega)
      exact ⟨by unfold closedW; simp only; omega, by unfold closedW; simp only; omega, by unfold closedW; simp only; omega⟩
    · cases hx
def sheetW (N : Nat) (ps : Pts) : Wit2 × Int := worst2Of (allWits2 N ps.length (mid2 ps N N 0))
/-- The class of worlds in the last region: s 17, s 18: the results are stored. -/
structure CSh (w : World) (b Wb N n s t : Nat) (op : Bool) (X Y : Int) (S : Nat → Bool) (W : World) : Prop where
  sz : W.cell? ⟨b, 1, none⟩ = some (.int .i64 n)
  wb : W.heap[Wb]? = some (.cells #[.int .i64 s, .int .i64 t, .bool op] 86 (0, 0))
  r0 : W.heap[w.heap.size]? = some (.cells (if S 17 = true then #[.int .i64 X, .int .i64 Y] else #[.int .i64 0, .int .i64 0]) 25 (0, 0))
  r1 : W.heap[w.heap.size + 1]? = some (.cells (if S 18 = true then #[.int .i64 s, .int .i64 t] else #[.int .i64 0, .int .i64 0]) 39 (0, 0))
  hb : w.heap.size + 1 < b
  hw : b < Wb
  hl : Wb < W.heap.size
  bl : Below w.heap.size w W
section
variable {w W W' : World} {b Wb N n s t : Nat} {op : Bool} {X Y : Int} {S : Nat → Bool}
theorem CSh.read (h : CSh w b Wb N n s t op X Y S W) {k : Nat} (h1 : k ≠ 17) (h2 : k ≠ 18) : CSh w b Wb N n s t op X Y (Many.upd S k) W := by
  have e1 : Many.upd S k 17 = S 17 := by simp [Many.upd, h1]
  have e2 : Many.upd S k 18 = S 18 := by simp [Many.upd, h2]
  exact ⟨h.sz, h.wb, by rw [e1]; exact h.r0, by rw [e2]; exact h.r1, h.hb, h.hw, h.hl, h.bl⟩
theorem CSh.below (h : CSh w b Wb N n s t op X Y S W) (k : Below W.heap.size W W') : CSh w b Wb N n s t op X Y S W' := by
  have h1 := h.hb
  have h2 := h.hw
  have h3 := h.hl
  exact ⟨cell_below h.sz k, (k.block _ (by omega)).trans h.wb, (k.block _ (by omega)).trans h.r0, (k.block _ (by omega)).trans h.r1, h1, h2, Nat.lt_of_lt_of_le h3 k.size, h.bl.trans (k.mono (by omega))⟩
theorem CSh.store17 (h : CSh w b Wb N n s t op X Y S W) : CSh w b Wb N n s t op X Y (Many.upd S 17) ((W.setCell ⟨w.heap.size, 0, none⟩ (.int .i64 X)).setCell ⟨w.heap.size, 1, none⟩ (.int .i64 Y)) := by
  have h1 := h.hb
  have h2 := h.hw
  have e1 : Many.upd S 17 17 = true := by simp [Many.upd]
  have e2 : Many.upd S 17 18 = S 18 := by simp [Many.upd]
  refine ⟨?_, put_other (put_other h.wb (by omega) _) (by omega) _, ?_, by rw [e2]; exact put_other (put_other h.r1 (by omega) _) (by omega) _, h1, h2, by simpa [World.setCell] using h.hl, (h.bl.setCell (p := ⟨w.heap.size, 0, none⟩) (Nat.le_refl _) _).setCell (p := ⟨w.heap.size, 1, none⟩) (Nat.le_refl _) _⟩
  · exact (World.cell?_of_block (a := ⟨b, 1, none⟩) (put_other (put_other rfl (by show b ≠ _; omega) _) (by show b ≠ _; omega) _)).trans h.sz
  · rw [e1]
    have := heap_set (i := 1) (heap_set (i := 0) h.r0 (.int .i64 X)) (.int .i64 Y)
    rw [this]
    cases S 17 <;> rfl
theorem CSh.store18 (h : CSh w b Wb N n s t op X Y S W) : CSh w b Wb N n s t op X Y (Many.upd S 18) ((W.setCell ⟨w.heap.size + 1, 0, none⟩ (.int .i64 s)).setCell ⟨w.heap.size + 1, 1, none⟩ (.int .i64 t)) := by
  have h1 := h.hb
  have h2 := h.hw
  have e1 : Many.upd S 18 18 = true := by simp [Many.upd]
  have e2 : Many.upd S 18 17 = S 17 := by simp [Many.upd]
  refine ⟨?_, put_other (put_other h.wb (by omega) _) (by omega) _, by rw [e2]; exact put_other (put_other h.r0 (by omega) _) (by omega) _, ?_, h1, h2, by simpa [World.setCell] using h.hl, (h.bl.setCell (p := ⟨w.heap.size + 1, 0, none⟩) (by simp) _).setCell (p := ⟨w.heap.size + 1, 1, none⟩) (by simp) _⟩
  · exact (World.cell?_of_block (a := ⟨b, 1, none⟩) (put_other (put_other rfl (by show b ≠ _; omega) _) (by show b ≠ _; omega) _)).trans h.sz
  · rw [e1]
    have := heap_set (i := 1) (heap_set (i := 0) h.r1 (.int .i64 s)) (.int .i64 t)
    rw [this]
    cases S 18 <;> rfl
end
set_option maxHeartbeats 4000000 in
set_option maxRecDepth 100000 in
theorem sheet_any {N : Nat} {v : Value} {ps : Pts} {w : World} (hv : PairsOf w v ps) (hok : SheetOk N ps) :
    Calls Try.prog 31 #[.int .i64 N, v] w fun e w' => e = .returned (.tuple #[fracV (redN (sheetW N ps).2 ((ps.length : Int) * N * N)) (redD (sheetW N ps).2 ((ps.length : Int) * N * N)), .agg #[.int .i64 ((sheetW N ps).1.1.1 : Nat), .int .i64 ((sheetW N ps).1.1.2 : Nat)], .bool (sheetW N ps).1.2.1, .int .i64 0]) ∧ Below w.heap.size w w' := by
  obtain ⟨k1, k2, k3, k4, _⟩ := id hok
  have hv' := pairsOf_below hv (((Below.refl _ w).alloc (Nat.le_refl _) (.cells #[.int .i64 0, .int .i64 0] 25)).alloc (by simp) (.cells #[.int .i64 0, .int .i64 0] 39))
  have q71 := readSheet_any hv' hok
  clear hv hv' hok
  obtain ⟨n, hn⟩ : ∃ n, Keep (ps.length = n) := ⟨_, ⟨rfl⟩⟩
  have hg60 : ∀ i j, i ≤ 100 → j ≤ 100 → mid2 ps N N 0 i j ≤ 60 := fun i j _ _ => Nat.le_trans (mid2_le _ _ _ _ _ _) k4
  obtain ⟨g, hg⟩ : ∃ g, Keep (mid2 ps N N 0 = g) := ⟨_, ⟨rfl⟩⟩
  have hlw : Keep (worst2Of (allWits2 N n g) = sheetW N ps) := ⟨by rw [← hn.out, ← hg.out]; rfl⟩
  rw [hn.out] at k3 k4 q71 ⊢
  rw [hg.out] at q71 hg60
  have hbd := wits2_le (N := N) (n := n) (g := g) k2 k4 hg60
  have hle := worst2Of_le (xs := allWits2 N n g) (B := 600000) (by omega) (fun x hx => by have := (hbd x hx).1; omega)
  rw [hlw.out] at hle
  obtain ⟨⟨⟨⟨s, t⟩, op, x⟩, d⟩, hW⟩ : ∃ L, Keep (sheetW N ps = L) := ⟨_, ⟨rfl⟩⟩
  rw [hW.out] at hle ⊢
  simp only at hle ⊢
  have m1 : n * N ≤ 60 * 100 := Nat.mul_le_mul k4 k2
  have m2 : n * N * N ≤ 6000 * 100 := Nat.mul_le_mul m1 k2
  have m3 : 1 * 1 ≤ n * N := Nat.mul_le_mul k3 k1
  have m4 : 1 * 1 ≤ n * N * N := Nat.mul_le_mul (by omega) k1
  obtain ⟨M1, hM1⟩ : ∃ M, Keep ((n : Int) * (N : Int) = M) := ⟨_, ⟨rfl⟩⟩
  obtain ⟨M2, hM2⟩ : ∃ M, Keep ((n : Int) * (N : Int) * (N : Int) = M) := ⟨_, ⟨rfl⟩⟩
  have f1 : M1 = ((n * N : Nat) : Int) := by rw [← hM1.out, Int.natCast_mul]
  have f2 : M2 = ((n * N * N : Nat) : Int) := by rw [← hM2.out, Int.natCast_mul, Int.natCast_mul]
  have w1 : IntKind.i64.wrap ((n : Int) * (N : Int)) = M1 := by rw [hM1.out]; exact IntWalk.i64_in _ (by omega)
  have w2 : IntKind.i64.wrap (M1 * (N : Int)) = M2 := by rw [← hM1.out, hM2.out]; exact IntWalk.i64_in _ (by omega)
  have q61 := fun w => lowest_any d M2 (by omega) (by omega) (by omega) (by omega) w
  rw [hM2.out]
  obtain ⟨X, hX⟩ : ∃ X, redN d M2 = X := ⟨_, rfl⟩
  obtain ⟨Y, hY⟩ : ∃ X, redD d M2 = X := ⟨_, rfl⟩
  rw [hX, hY] at q61 ⊢
  unfold fracV at q61 ⊢
  clear hX hY m1 m2 m3 m4 f1 f2 hle hg60
  go_enter Try.func31, Try.ntmps31
  go_wp2_with (first
    | (go_at_call 71; refine q71.mono ?_; rintro e w5 ⟨b, rfl, hbb, hb5, hS5⟩; clear q71)
    | (go_at_call 72; refine (ever2_maker _).mono ?_; rintro e w6 ⟨rfl, rfl⟩)
    | (go_at_call 53
       have hsz5 := hb5.size
       have hlt5 := hS5.lt
       refine (worst2_any (gf := 88) (xs := allWits2 N n g) (R := fun W => SheetAt W b N n g ∧ W.cell? ⟨w5.heap.size, 0, none⟩ = some (.pointer (some ⟨b, 0, none⟩)))
         (enters_of Try.func88 (by kernel_rfl) rfl) (fun x hx => by have := (hbd x hx).1; omega) (fun W1 => ever2_gives W1)
         (fun W hW => ⟨hS5.below (((Below.refl w5.heap.size w5).alloc (Nat.le_refl _) _).trans (hW.mono (by simp))) hlt5, (hW.cell (p := ⟨w5.heap.size, 0, none⟩) (by simp)).trans (by go_simp)⟩)).mono ?_
       rintro e w7 ⟨rfl, hb7⟩
       rw [hlw.out, hW.out]
       have hb57 : Below w5.heap.size w5 w7 := ((Below.refl w5.heap.size w5).alloc (Nat.le_refl _) _).trans (hb7.mono (by simp))
       unfold witV2
       simp only))
  simp only [World.size_alloc] at hbb hb5 hsz5
  have hb27 := hb5.trans (hb57.mono hsz5)
  have hs57 := hb57.size
  obtain ⟨W8, hW8⟩ : ∃ W8, w7.alloc (.cells #[.int .i64 s, .int .i64 t, .bool op] 86) = W8 := ⟨_, rfl⟩
  have hb78 : Below w7.heap.size w7 W8 := by rw [← hW8]; exact (Below.refl _ _).alloc (Nat.le_refl _) _
  have hcl : CSh w b w7.heap.size N n s t op X Y (fun _ => false) W8 := by
    have hb28 := hb27.trans (hb78.mono (by omega))
    refine ⟨(hS5.below (hb57.trans (hb78.mono (by omega))) hlt5).size, ?_, ?_, ?_, by omega, by omega, ?_, (((Below.refl _ w).alloc (Nat.le_refl _) _).alloc (by simp) _).trans (hb28.mono (by omega))⟩
    · rw [← hW8]; exact World.alloc_heap_new w7 _
    · rw [hb28.block _ (by omega), Below.heap_alloc _ _ _ (by simp)]; exact World.alloc_heap_new w _
    · rw [hb28.block _ (by omega)]
      have := World.alloc_heap_new (w.alloc (.cells #[.int .i64 0, .int .i64 0] 25)) (.cells #[.int .i64 0, .int .i64 0] 39)
      simpa using this
    · rw [← hW8]; simp
  obtain ⟨Wb, hWb⟩ : ∃ B, w7.heap.size = B := ⟨_, rfl⟩
  rw [hW8]
  rw [hWb] at hcl ⊢
  clear hW8 hb78 hb27 hs57 hb57 hsz5 hb5 hb7 hS5 hlt5 hWb hbb hbd
  have hmo : Try.prog.follows .mixedOrders = true := by kernel_rfl
  refine (wpIn_wide (n := 0)).1 ?_
  refine Many.region_many (CSh w b Wb N n s t op X Y) hmo (by kernel_rfl) (fun s s' W' h hc => by rw [← show s = s' from funext h]; exact hc) (fun S hs => ?_) ?_
  · exact ⟨hcl.sz, hcl.wb, by rw [hs 17 (by decide)]; exact hcl.r0, by rw [hs 18 (by decide)]; exact hcl.r1, hcl.hb, hcl.hw, hcl.hl, hcl.bl.drew⟩
  clear hcl
  have rd : ∀ {k : Nat} {o : Oper} {a : Act} {v : Value}, k ≠ 17 → k ≠ 18 → (∀ W, (∃ S, CSh w b Wb N n s t op X Y S W) → (execOp a.eval o).run Try.prog W = .ok (.value v) W) → Many.Tr Try.prog (CSh w b Wb N n s t op X Y) k o a v :=
    fun h1 h2 h => Many.tr_read (fun W => ∃ S, CSh w b Wb N n s t op X Y S W) (fun S W hC => ⟨S, hC⟩) (fun S W hC => hC.read h1 h2) h
  refine Many.lex_want (by rfl) (rd (by decide) (by decide) (fun W hC => by (go_simp; try rfl))) ?_
  simp only [Act.put, List.setIfInBounds_toArray, List.set_cons_succ, List.set_cons_zero, Nat.reduceAdd]
  refine Many.lex_want (by rfl) (rd (by decide) (by decide) (fun W hC => by (go_simp; try rfl))) ?_
  simp only [Act.put, List.setIfInBounds_toArray, List.set_cons_succ, List.set_cons_zero, Nat.reduceAdd]
  refine Many.lex_want (by rfl) (rd (by decide) (by decide) (fun W hC => by (go_simp; try rfl))) ?_
  simp only [Act.put, List.setIfInBounds_toArray, List.set_cons_succ, List.set_cons_zero, Nat.reduceAdd]
  refine Many.lex_want (by rfl) (rd (by decide) (by decide) (fun W hC => by (go_simp; try rfl))) ?_
  simp only [Act.put, List.setIfInBounds_toArray, List.set_cons_succ, List.set_cons_zero, Nat.reduceAdd]
  refine Many.lex_want (by rfl) (rd (v := .int .i64 n) (by decide) (by decide) (fun W hC => by (obtain ⟨S, hC⟩ := hC; have c0 := hC.sz; clear hC; go_simp; try rfl))) ?_
  simp only [Act.put, List.setIfInBounds_toArray, List.set_cons_succ, List.set_cons_zero, Nat.reduceAdd]
  refine Many.lex_want (by rfl) (rd (by decide) (by decide) (fun W hC => by (go_simp; try rfl))) ?_
  simp only [Act.put, List.setIfInBounds_toArray, List.set_cons_succ, List.set_cons_zero, Nat.reduceAdd]
  refine Many.lex_want (by rfl) (rd (v := .int .i64 M1) (by decide) (by decide) (fun W hC => by (go_simp; try exact w1))) ?_
  simp only [Act.put, List.setIfInBounds_toArray, List.set_cons_succ, List.set_cons_zero, Nat.reduceAdd]
  refine Many.lex_want (by rfl) (rd (by decide) (by decide) (fun W hC => by (go_simp; try rfl))) ?_
  simp only [Act.put, List.setIfInBounds_toArray, List.set_cons_succ, List.set_cons_zero, Nat.reduceAdd]
  refine Many.lex_want (by rfl) (rd (v := .int .i64 M2) (by decide) (by decide) (fun W hC => by (go_simp; try exact w2))) ?_
  simp only [Act.put, List.setIfInBounds_toArray, List.set_cons_succ, List.set_cons_zero, Nat.reduceAdd]
  refine Many.lex_want (by rfl) (Many.tr_call (f := 61) (args := #[.int .i64 d, .int .i64 M2]) (v := .agg #[.int .i64 X, .int .i64 Y]) (fun _ => True) (fun _ _ _ => trivial) (fun S W hC => (q61 W).mono fun e W' ⟨he, hb⟩ => ⟨he, (hC.below hb).read (by decide) (by decide)⟩) (fun W _ => by (go_simp; try rfl))) ?_
  simp only [Act.put, List.setIfInBounds_toArray, List.set_cons_succ, List.set_cons_zero, Nat.reduceAdd]
  refine Many.lex_want (by rfl) (rd (by decide) (by decide) (fun W hC => by (go_simp; try rfl))) ?_
  simp only [Act.put, List.setIfInBounds_toArray, List.set_cons_succ, List.set_cons_zero, Nat.reduceAdd]
  refine Many.lex_want (by rfl) (rd (v := .int .i64 s) (by decide) (by decide) (fun W hC => by (obtain ⟨S, hC⟩ := hC; have c0 : W.cell? ⟨Wb, 0, none⟩ = some (.int .i64 s) := (by simp [World.cell?, hC.wb]); have c1 : W.cell? ⟨Wb, 1, none⟩ = some (.int .i64 t) := (by simp [World.cell?, hC.wb]); have c2 : W.cell? ⟨Wb, 2, none⟩ = some (.bool op) := (by simp [World.cell?, hC.wb]); clear hC; go_simp; try rfl))) ?_
  simp only [Act.put, List.setIfInBounds_toArray, List.set_cons_succ, List.set_cons_zero, Nat.reduceAdd]
  refine Many.lex_want (by rfl) (rd (by decide) (by decide) (fun W hC => by (go_simp; try rfl))) ?_
  simp only [Act.put, List.setIfInBounds_toArray, List.set_cons_succ, List.set_cons_zero, Nat.reduceAdd]
  refine Many.lex_want (by rfl) (rd (v := .int .i64 t) (by decide) (by decide) (fun W hC => by (obtain ⟨S, hC⟩ := hC; have c0 : W.cell? ⟨Wb, 0, none⟩ = some (.int .i64 s) := (by simp [World.cell?, hC.wb]); have c1 : W.cell? ⟨Wb, 1, none⟩ = some (.int .i64 t) := (by simp [World.cell?, hC.wb]); have c2 : W.cell? ⟨Wb, 2, none⟩ = some (.bool op) := (by simp [World.cell?, hC.wb]); clear hC; go_simp; try rfl))) ?_
  simp only [Act.put, List.setIfInBounds_toArray, List.set_cons_succ, List.set_cons_zero, Nat.reduceAdd]
  refine Many.lex_want (by rfl) (rd (v := .agg #[.int .i64 s, .int .i64 t]) (by decide) (by decide) (fun W hC => by (go_simp; try rfl))) ?_
  simp only [Act.put, List.setIfInBounds_toArray, List.set_cons_succ, List.set_cons_zero, Nat.reduceAdd]
  refine Many.lex_want (by rfl) (rd (by decide) (by decide) (fun W hC => by (go_simp; try rfl))) ?_
  simp only [Act.put, List.setIfInBounds_toArray, List.set_cons_succ, List.set_cons_zero, Nat.reduceAdd]
  refine Many.lex_want (by rfl) (rd (v := .bool op) (by decide) (by decide) (fun W hC => by (obtain ⟨S, hC⟩ := hC; have c0 : W.cell? ⟨Wb, 0, none⟩ = some (.int .i64 s) := (by simp [World.cell?, hC.wb]); have c1 : W.cell? ⟨Wb, 1, none⟩ = some (.int .i64 t) := (by simp [World.cell?, hC.wb]); have c2 : W.cell? ⟨Wb, 2, none⟩ = some (.bool op) := (by simp [World.cell?, hC.wb]); clear hC; go_simp; try rfl))) ?_
  simp only [Act.put, List.setIfInBounds_toArray, List.set_cons_succ, List.set_cons_zero, Nat.reduceAdd]
  refine Many.lex_want (by rfl) (Many.tr_step (v := undef) (fun S W hs hC => ?_)) ?_
  · have h1 := hC.r0
    rw [hs] at h1
    have u0' : W.cell? ⟨w.heap.size, 0, none⟩ = some (.int .i64 0) := by simp [World.cell?, h1]
    have v0' : W.frozen? ⟨w.heap.size, 0, none⟩ = false := by simp [World.frozen?, h1]
    have u1' : W.cell? ⟨w.heap.size, 1, none⟩ = some (.int .i64 0) := by simp [World.cell?, h1]
    have v1' : W.frozen? ⟨w.heap.size, 1, none⟩ = false := by simp [World.frozen?, h1]
    have hst := hC.store17
    clear h1 hC
    go_simp
    exact ⟨rfl, hst⟩
  simp only [Act.put, List.setIfInBounds_toArray, List.set_cons_succ, List.set_cons_zero, Nat.reduceAdd]
  refine Many.lex_want (by rfl) (Many.tr_step (v := undef) (fun S W hs hC => ?_)) ?_
  · have h1 := hC.r1
    rw [hs] at h1
    have u0' : W.cell? ⟨w.heap.size + 1, 0, none⟩ = some (.int .i64 0) := by simp [World.cell?, h1]
    have v0' : W.frozen? ⟨w.heap.size + 1, 0, none⟩ = false := by simp [World.frozen?, h1]
    have u1' : W.cell? ⟨w.heap.size + 1, 1, none⟩ = some (.int .i64 0) := by simp [World.cell?, h1]
    have v1' : W.frozen? ⟨w.heap.size + 1, 1, none⟩ = false := by simp [World.frozen?, h1]
    have hst := hC.store18
    clear h1 hC
    go_simp
    exact ⟨rfl, hst⟩
  simp only [Act.put, List.setIfInBounds_toArray, List.set_cons_succ, List.set_cons_zero, Nat.reduceAdd]
  refine Many.lex_want (by rfl) (rd (by decide) (by decide) (fun W hC => by (go_simp; try rfl))) ?_
  simp only [Act.put, List.setIfInBounds_toArray, List.set_cons_succ, List.set_cons_zero, Nat.reduceAdd]
  refine Many.lex_want (by rfl) (rd (by decide) (by decide) (fun W hC => by (go_simp; try rfl))) ?_
  simp only [Act.put, List.setIfInBounds_toArray, List.set_cons_succ, List.set_cons_zero, Nat.reduceAdd]
  refine Many.lex_nil fun S W' hs hC => ?_
  have r0 := hC.r0
  have r1 := hC.r1
  rw [hs 17 (by decide)] at r0
  rw [hs 18 (by decide)] at r1
  have hbl := hC.bl
  have a0' : W'.cell? ⟨w.heap.size, 0, none⟩ = some (.int .i64 X) := by simp [World.cell?, r0]
  have a1' : W'.cell? ⟨w.heap.size, 1, none⟩ = some (.int .i64 Y) := by simp [World.cell?, r0]
  have b0' : W'.cell? ⟨w.heap.size + 1, 0, none⟩ = some (.int .i64 s) := by simp [World.cell?, r1]
  have b1' : W'.cell? ⟨w.heap.size + 1, 1, none⟩ = some (.int .i64 t) := by simp [World.cell?, r1]
  clear hC hs r0 r1 rd
  go_wp2
  refine bodyPost_ret (v := .tuple #[.agg #[.int .i64 X, .int .i64 Y], .agg #[.int .i64 s, .int .i64 t], .bool op, .int .i64 0]) (by simp [results, Try.results31, go_sem]; go_simp) rfl ?_
  exact ⟨rfl, hbl⟩
end Go.Proofs.Ytifbiamfandjnaa
