import Derived.Test.YtioaaigbpfdjmaaDoorRefTurn
set_option linter.unusedSimpArgs false
set_option linter.unusedVariables false
namespace Go.Proofs.YtioaaigbpfdjmaaDoor
open Go Go.Proofs Go.RowKit
set_option maxRecDepth 100000 in
theorem tsize_any (n O Z N : Nat) (h5 : n ≤ 5) (hN : N = 2 ^ n) (w : World) :
    Calls Tryd.prog 75 #[.agg #[.int .i64 n, .int .u32 O, .int .u32 Z]] w fun e w' => e = .returned (.int .i64 N) ∧ Below w.heap.size w w' := by
  have hw64 : wrap64 (2 ^ n) = (N : Int) := by
    have h : n = 0 ∨ n = 1 ∨ n = 2 ∨ n = 3 ∨ n = 4 ∨ n = 5 := by omega
    rw [hN]
    unfold wrap64
    rcases h with h | h | h | h | h | h <;> subst h <;> rfl
  clear hN
  go_enter Tryd.func75, Tryd.ntmps75
  go_wp2
  go_ret
  exact ⟨by rw [← hw64]; rfl, (Below.refl _ _).alloc (Nat.le_refl _) _⟩
set_option maxRecDepth 100000 in
theorem turn_no0 {s : ByteArray} {v1 v2 : Value} {zs ys : List Int} {w : World} {n : Nat} (h40 : s.size ≤ 40) (hl1 : zs.length ≤ 1001) (hl2 : ys.length ≤ 1001) (hv1 : IntsAt w v1 zs) (hv2 : IntsAt w v2 ys) (hn5 : n ≤ 5) (hn : Keep (varsOf s = n)) (h0 : n = 0) :
    Calls Tryd.prog 49 #[.string s, v1, v2] w fun e w' => e = .returned (.tuple #[.string ByteArray.empty, .int .i64 2]) ∧ Below w.heap.size w w' := by
  subst h0
  go_enter Tryd.func49, Tryd.ntmps49
  go_wp2_with (go_at_call 58; refine (table_any s h40 _).mono ?_; rintro e w1 ⟨⟨O, Z, hO, hZ, rfl, hOZ⟩, hb1⟩; rw [hn.out])
  go_ret2
  exact ⟨rfl, hb1.alloc hb1.size _⟩
set_option maxRecDepth 100000 in
theorem turn_no1 {s : ByteArray} {v1 v2 : Value} {zs ys : List Int} {w : World} {n : Nat} (h40 : s.size ≤ 40) (hl1 : zs.length ≤ 1001) (hl2 : ys.length ≤ 1001) (hv1 : IntsAt w v1 zs) (hv2 : IntsAt w v2 ys) (hn5 : n ≤ 5) (hn : Keep (varsOf s = n)) (h0 : n ≠ 0) (hne : ¬ ((zs.length : Int) = (n : Int))) :
    Calls Tryd.prog 49 #[.string s, v1, v2] w fun e w' => e = .returned (.tuple #[.string ByteArray.empty, .int .i64 2]) ∧ Below w.heap.size w w' := by
  have hd : decide (n ≠ 0) = true := decide_eq_true h0
  have e1 : ∃ A1 cap1, v1 = .slice A1 zs.length cap1 := by obtain ⟨A, c, h, _⟩ := hv1; exact ⟨A, c, h⟩
  obtain ⟨A1, cap1, rfl⟩ := e1
  clear h0
  go_enter Tryd.func49, Tryd.ntmps49
  go_wp2_with (go_at_call 58; refine (table_any s h40 _).mono ?_; rintro e w1 ⟨⟨O, Z, hO, hZ, rfl, hOZ⟩, hb1⟩; rw [hn.out, hd])
  go_ret2
  exact ⟨rfl, hb1.alloc hb1.size _⟩
set_option maxRecDepth 100000 in
theorem turn_no2 {s : ByteArray} {v1 v2 : Value} {zs ys : List Int} {w : World} {n : Nat} (h40 : s.size ≤ 40) (hl1 : zs.length ≤ 1001) (hl2 : ys.length ≤ 1001) (hv1 : IntsAt w v1 zs) (hv2 : IntsAt w v2 ys) (hn5 : n ≤ 5) (hn : Keep (varsOf s = n)) (h0 : n ≠ 0) (hlen : zs.length = n) (hD1 : diffB zs n = false) :
    Calls Tryd.prog 49 #[.string s, v1, v2] w fun e w' => e = .returned (.tuple #[.string ByteArray.empty, .int .i64 2]) ∧ Below w.heap.size w w' := by
  have hd : decide (n ≠ 0) = true := decide_eq_true h0
  have e1 : ∃ A1 cap1, v1 = .slice A1 n cap1 := by obtain ⟨A, c, h, _⟩ := hv1; exact ⟨A, c, hlen ▸ h⟩
  obtain ⟨A1, cap1, rfl⟩ := e1
  clear h0 hlen
  go_enter Tryd.func49, Tryd.ntmps49
  go_wp2_with (first
    | (go_at_call 58; refine (table_any s h40 _).mono ?_; rintro e w1 ⟨⟨O, Z, hO, hZ, rfl, hOZ⟩, hb1⟩; rw [hn.out, hd])
    | (go_at_call 89; refine (different_any hn5 (ints_below hv1 (hb1.alloc hb1.size _)) hl1).mono ?_; rintro e w2 ⟨rfl, hb2⟩
       have c0 : w2.cell? ⟨w1.heap.size, 0, none⟩ = some (.int .i64 n) := by rw [hb2.cell (p := ⟨w1.heap.size, 0, none⟩) (by simp)]; go_simp
       have hbw2 : Below w.heap.size w w2 := below_trans (hb1.alloc hb1.size _) hb2 (by simp; exact Nat.le_succ_of_le hb1.size)
       rw [hD1]))
  go_ret2
  exact ⟨rfl, hbw2⟩
set_option maxHeartbeats 4000000 in
set_option maxRecDepth 100000 in
theorem turn_no3 {s : ByteArray} {v1 v2 : Value} {zs ys : List Int} {w : World} {n : Nat} (h40 : s.size ≤ 40) (hl1 : zs.length ≤ 1001) (hl2 : ys.length ≤ 1001) (hv1 : IntsAt w v1 zs) (hv2 : IntsAt w v2 ys) (hn5 : n ≤ 5) (hn : Keep (varsOf s = n)) (h0 : n ≠ 0) (hlen : zs.length = n) (hD1 : diffB zs n = true) (hD2 : diffB ys n = false) :
    Calls Tryd.prog 49 #[.string s, v1, v2] w fun e w' => e = .returned (.tuple #[.string ByteArray.empty, .int .i64 2]) ∧ Below w.heap.size w w' := by
  have hd : decide (n ≠ 0) = true := decide_eq_true h0
  have e1 : ∃ A1 cap1, v1 = .slice A1 n cap1 := by obtain ⟨A, c, h, _⟩ := hv1; exact ⟨A, c, hlen ▸ h⟩
  obtain ⟨A1, cap1, rfl⟩ := e1
  clear h0 hlen
  go_enter Tryd.func49, Tryd.ntmps49
  go_wp2_with (first
    | (go_at_call 58; refine (table_any s h40 _).mono ?_; rintro e w1 ⟨⟨O, Z, hO, hZ, rfl, hOZ⟩, hb1⟩; rw [hn.out, hd])
    | (go_at_call 89; refine (different_any hn5 (ints_below hv2 hbw2) hl2).mono ?_; rintro e w3 ⟨rfl, hb3⟩
       have hbw3 : Below w.heap.size w w3 := below_trans hbw2 hb3 hbw2.size
       rw [hD2])
    | (go_at_call 89; refine (different_any hn5 (ints_below hv1 (hb1.alloc hb1.size _)) hl1).mono ?_; rintro e w2 ⟨rfl, hb2⟩
       have c0 : w2.cell? ⟨w1.heap.size, 0, none⟩ = some (.int .i64 n) := by rw [hb2.cell (p := ⟨w1.heap.size, 0, none⟩) (by simp)]; go_simp
       have hbw2 : Below w.heap.size w w2 := below_trans (hb1.alloc hb1.size _) hb2 (by simp; exact Nat.le_succ_of_le hb1.size)
       rw [hD1]; clear hv1 hb2))
  go_ret2
  exact ⟨rfl, hbw3⟩
end Go.Proofs.YtioaaigbpfdjmaaDoor
