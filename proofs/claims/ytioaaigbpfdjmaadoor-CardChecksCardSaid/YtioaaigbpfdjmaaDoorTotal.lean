import Derived.Test.YtioaaigbpfdjmaaDoorReadTable
import Derived.Lib.Bytealg
import Derived.Laws.Externs
set_option linter.unusedSimpArgs false
set_option linter.unusedVariables false
namespace Go.Proofs.YtioaaigbpfdjmaaDoor
open Go Go.Proofs Go.RowKit
def dash : ByteArray := ⟨#[45]⟩
def hasDash (s : ByteArray) : Bool := s.data.toList.any (· == 45)
theorem run_index (s : ByteArray) (w : World) : (callFunc 137 #[.string s, .int .u8 45]).run Tryd.prog w = .ok (.value (.int .i64 (Lib.indexByte s.data.toList 45))) w := by
  rw [run_callFunc_extern Tryd.func137 (by kernel_rfl) (by kernel_rfl) (by kernel_rfl) (e := Extern.BytealgIndexByte.indexByte) (by kernel_rfl), Lib.run_indexByteString]
  rfl
set_option maxRecDepth 100000 in
theorem index_any (s : ByteArray) (w : World) :
    Calls Tryd.prog 126 #[.string s, .string dash] w fun e w' => e = .returned (.int .i64 (Lib.indexByte s.data.toList 45)) ∧ w' = w := by
  have hd := run_index s w
  have hs : dash.size = 1 := rfl
  have hg : dash[0] = 45 := rfl
  go_enter Tryd.func126, Tryd.ntmps126
  go_wp2
  · have he : (dash.toList == s.toList) = true := by assumption
    have e : s = dash := by
      have h2 := beq_iff_eq.1 he
      rw [ByteArray.toList_eq, ByteArray.toList_eq] at h2
      apply ByteArray.ext
      apply Array.ext'
      exact h2.symm
    subst e
    go_ret
    exact ⟨rfl, rfl⟩
  · go_ret
    exact ⟨rfl, rfl⟩
theorem index_dash : ∀ l : List UInt8, (0 ≤ Lib.indexByte l 45) = (l.any (· == 45) = true) ∧ -1 ≤ Lib.indexByte l 45
  | [] => by simp [Lib.indexByte]
  | b :: l => by
    obtain ⟨h1, h2⟩ := index_dash l
    rw [Lib.indexByte, List.any_cons]
    by_cases hb : b == 45
    · simp [hb]
    · have hb' : (b == 45) = false := by simpa using hb
      rw [hb', if_neg (by simp), Bool.false_or, ← h1]
      by_cases hi : Lib.indexByte l 45 == -1
      · rw [if_pos hi]
        have := beq_iff_eq.1 hi
        rw [this]
        simp
      · rw [if_neg hi]
        have : Lib.indexByte l 45 ≠ -1 := fun h => hi (by rw [h]; rfl)
        refine ⟨by apply propext; omega, by omega⟩
theorem dash_at (l : List UInt8) : decide (0 ≤ Lib.indexByte l 45) = l.any (· == 45) := by
  rw [Bool.eq_iff_iff, decide_eq_true_iff, (index_dash l).1]
set_option maxRecDepth 100000 in
theorem index114 (s : ByteArray) (w : World) :
    Calls Tryd.prog 114 #[.string s, .string dash] w fun e w' => e = .returned (.int .i64 (Lib.indexByte s.data.toList 45)) ∧ w' = w := by
  go_enter Tryd.func114, Tryd.ntmps114
  go_wp2_with (go_at_call 126; refine (index_any s _).mono ?_; rintro e w ⟨rfl, rfl⟩)
  go_ret
  exact ⟨rfl, rfl⟩
set_option maxRecDepth 100000 in
theorem contains_dash (s : ByteArray) (w : World) :
    Calls Tryd.prog 105 #[.string s, .string dash] w fun e w' => e = .returned (.bool (hasDash s)) ∧ w' = w := by
  have hi : Keep (decide (0 ≤ Lib.indexByte s.data.toList 45) = s.data.toList.any (· == 45)) := ⟨dash_at s.data.toList⟩
  go_enter Tryd.func105, Tryd.ntmps105
  go_wp2_with (go_at_call 114; refine (index114 s _).mono ?_; rintro e w ⟨rfl, rfl⟩)
  go_ret
  exact ⟨by rw [hasDash, ← hi.out]; rfl, rfl⟩
/-- The number of variables of a total function, or 0. -/
def totOf (s : ByteArray) : Nat := if hasDash s then 0 else varsOf s
theorem dash_lit : ByteArray.mk #[45] = dash := rfl
def TotalPost (s : ByteArray) (e : Ending) : Prop :=
  ∃ O Z : Nat, O < 4294967296 ∧ Z < 4294967296 ∧ e = .returned (.tuple #[.agg #[.int .i64 (totOf s : Nat), .int .u32 O, .int .u32 Z], .bool (decide (totOf s ≠ 0))]) ∧ (totOf s ≠ 0 → charB s 49 O s.size ∧ charB s 48 Z s.size)
theorem carry_new {w w1 : World} {x y z : Value} (b : Below (w.alloc (.cells #[x, y, z] 79)).heap.size (w.alloc (.cells #[x, y, z] 79)) w1) :
    w1.cell? ⟨w.heap.size, 0, none⟩ = some x ∧ w1.cell? ⟨w.heap.size, 1, none⟩ = some y ∧ w1.cell? ⟨w.heap.size, 2, none⟩ = some z ∧
    w1.frozen? ⟨w.heap.size, 0, none⟩ = false ∧ w1.frozen? ⟨w.heap.size, 1, none⟩ = false ∧ w1.frozen? ⟨w.heap.size, 2, none⟩ = false ∧ w.heap.size < w1.heap.size ∧ Below w.heap.size w w1 := by
  refine ⟨?_, ?_, ?_, ?_, ?_, ?_, ?_, below_trans ((Below.refl _ _).alloc (Nat.le_refl _) _) b (by simp)⟩
  · rw [b.cell (p := ⟨w.heap.size, 0, none⟩) (by simp)]; go_simp
  · rw [b.cell (p := ⟨w.heap.size, 1, none⟩) (by simp)]; go_simp
  · rw [b.cell (p := ⟨w.heap.size, 2, none⟩) (by simp)]; go_simp
  · rw [b.frozen (p := ⟨w.heap.size, 0, none⟩) (by simp)]; go_simp
  · rw [b.frozen (p := ⟨w.heap.size, 1, none⟩) (by simp)]; go_simp
  · rw [b.frozen (p := ⟨w.heap.size, 2, none⟩) (by simp)]; go_simp
  · have := b.size
    simp at this
    omega
set_option maxRecDepth 100000 in
theorem total_any (s : ByteArray) (h40 : s.size ≤ 40) (w : World) :
    Calls Tryd.prog 73 #[.string s] w fun e w' => TotalPost s e ∧ Below w.heap.size w w' := by
  obtain ⟨n, hn⟩ : ∃ n, Keep (varsOf s = n) := ⟨_, ⟨rfl⟩⟩
  obtain ⟨m, hm⟩ : ∃ m, Keep (totOf s = m) := ⟨_, ⟨rfl⟩⟩
  by_cases h0 : n = 0
  · have hm0 : totOf s = 0 := by unfold totOf; rw [hn.out, h0]; simp
    subst h0
    go_enter Tryd.func73, Tryd.ntmps73
    go_wp2_with (go_at_call 58; refine (table_any s h40 _).mono ?_; rintro e w1 ⟨⟨O, Z, hO, hZ, rfl, hOZ⟩, hb1⟩; rw [hn.out]; obtain ⟨c0, c1, c2, y0, y1, y2, hz1, hbw⟩ := carry_new hb1; clear hb1)
    refine bodyPost_ret (v := .tuple #[.agg #[.int .i64 (0 : Nat), .int .u32 (0 : Nat), .int .u32 (0 : Nat)], .bool false]) (by rw [results_cell_tmp rfl]; go_simp) rfl ?_
    exact ⟨⟨0, 0, by omega, by omega, by rw [hm0]; rfl, fun h => absurd hm0 h⟩, (below_set (below_set (below_set hbw (by omega) _) (by omega) _) (by omega) _).alloc (by have := hbw.size; simp; omega) _⟩
  · have hd : decide (n ≠ 0) = true := decide_eq_true h0
    cases hh : hasDash s
    · have hm1 : totOf s = n := by unfold totOf; rw [hh, hn.out]; rfl
      have hn' := hn.out
      clear h0
      go_enter Tryd.func73, Tryd.ntmps73
      go_wp2_with (first
        | (go_at_call 58; refine (table_any s h40 _).mono ?_; rintro e w1 ⟨⟨O, Z, hO, hZ, rfl, hOZ⟩, hb1⟩; rw [hn.out, hd]; obtain ⟨c0, c1, c2, y0, y1, y2, hz1, hbw⟩ := carry_new hb1; clear hb1)
        | (go_at_call 105; refine (contains_dash s _).mono ?_; rintro e w1 ⟨rfl, rfl⟩; rw [hh]))
      refine bodyPost_ret (v := .tuple #[.agg #[.int .i64 (n : Nat), .int .u32 (O : Nat), .int .u32 (Z : Nat)], .bool true]) (by rw [results_cell_tmp rfl]; go_simp) rfl ?_
      exact ⟨⟨O, Z, hO, hZ, by rw [hm1, hd], fun h => hOZ (by rw [hn', ← hm1]; exact h)⟩, (below_set (below_set (below_set hbw (by omega) _) (by omega) _) (by omega) _).alloc (by have := hbw.size; simp; omega) _⟩
    · have hm0 : totOf s = 0 := by unfold totOf; rw [hh]; rfl
      clear h0
      go_enter Tryd.func73, Tryd.ntmps73
      go_wp2_with (first
        | (go_at_call 58; refine (table_any s h40 _).mono ?_; rintro e w1 ⟨⟨O, Z, hO, hZ, rfl, hOZ⟩, hb1⟩; rw [hn.out, hd]; obtain ⟨c0, c1, c2, y0, y1, y2, hz1, hbw⟩ := carry_new hb1; clear hb1)
        | (go_at_call 105; refine (contains_dash s _).mono ?_; rintro e w1 ⟨rfl, rfl⟩; rw [hh]))
      refine bodyPost_ret (v := .tuple #[.agg #[.int .i64 (0 : Nat), .int .u32 (0 : Nat), .int .u32 (0 : Nat)], .bool false]) (by rw [results_cell_tmp rfl]; go_simp) rfl ?_
      exact ⟨⟨0, 0, by omega, by omega, by rw [hm0]; rfl, fun h => absurd hm0 h⟩, (below_set (below_set (below_set hbw (by omega) _) (by omega) _) (by omega) _).alloc (by have := hbw.size; simp; omega) _⟩
end Go.Proofs.YtioaaigbpfdjmaaDoor
