import Derived.Test.YtioaaigbpfdjmaaDoorSumText
set_option linter.unusedSimpArgs false
set_option linter.unusedVariables false
namespace Go.Proofs.YtioaaigbpfdjmaaDoor
open Go Go.Proofs Go.RowKit
def refL (s : ByteArray) (N : Nat) : List UInt8 := (List.range N).map fun p => if xs (fun q => sub q p) (fb s) (p + 1) then 49 else 48
theorem refL_len (s : ByteArray) (N : Nat) : (refL s N).length = N := by simp [refL]
theorem refL_push (s : ByteArray) (N : Nat) : refL s (N + 1) = refL s N ++ [if xs (fun q => sub q N) (fb s) (N + 1) then 49 else 48] := by simp [refL, List.range_succ]
theorem ref_sum {s : ByteArray} {n N : Nat} (hn : n ≤ 5) (hN : N = 2 ^ n) : refL s N = sumL s n N := by
  have h32 : 2 ^ n ≤ 2 ^ 5 := Nat.pow_le_pow_right (by decide) hn
  unfold refL sumL
  apply List.map_congr_left
  intro p hp
  rw [List.mem_range] at hp
  rw [rnd_all _ hn (by omega), xs_short _ (by omega)]
theorem andNot_sub : ∀ q : Nat, q < 32 → ∀ p : Nat, p < 32 → (bits .andNot .i64 (q : Int) (p : Int) == 0) = sub q p := by decide +kernel
set_option maxHeartbeats 4000000 in
set_option maxRecDepth 100000 in
theorem refSum_any {s : ByteArray} {w : World} (h32 : s.size ≤ 32) (h1 : 1 ≤ s.size) :
    Calls Tryd.prog 39 #[.string s] w fun e w' => e = .returned (.string ⟨(refL s s.size).toArray⟩) ∧ Below w.heap.size w w' := by
  obtain ⟨i0, hi, hz0, hz1, hz2⟩ := info_parts info5
  go_enter Tryd.func39, Tryd.ntmps39
  go_wp2
  go_loopw [3, 4] (fun v i wr => ∃ p : Nat, p ≤ s.size ∧ i = .int .i64 p ∧ wr.ownsRow w.heap.size 5 1 v (refL s p).length ((refL s p).map vb) ∧ Below w.heap.size w wr) (fun _ i _ => s.size - (intOf i).toNat)
  case atStart => exact ⟨0, by omega, rfl, World.ownsRow_nil _ _ _ _, Below.refl _ _⟩
  case round =>
    obtain ⟨p, hp, rfl, hown, hbw⟩ := hrel
    have hbz : w.heap.size ≤ wr.heap.size := hbw.size
    by_cases hps : p < s.size
    · go_wp2
      go_loop [5, 6] (fun o i => ∃ q d : Nat, q ≤ p + 1 ∧ i = .int .i64 q ∧ o = .int .i64 d ∧ Keep (d = (xs (fun q => sub q p) (fb s) q).toNat)) (fun _ i => p + 1 - (intOf i).toNat)
      case atStart => exact ⟨0, 0, by omega, rfl, rfl, ⟨rfl⟩⟩
      case round =>
        obtain ⟨q, d, hq, rfl, rfl, hdk⟩ := hrel
        have hd1 : d ≤ 1 := by rw [hdk.out]; cases xs (fun q => sub q p) (fb s) q <;> decide
        by_cases hqp : q ≤ p
        · have hqs : q < s.size := by omega
          have hsub := andNot_sub q (by omega) p (by omega)
          have hfb : fb s q = (s[q] == 49) := by unfold fb; rw [decide_eq_true hqs, Bool.true_and, getD_at hqs]
          cases hc : sub q p
          · have hnext : Keep (d = (xs (fun q => sub q p) (fb s) (q + 1)).toNat) := ⟨by rw [xs, hc, hdk.out]; simp⟩
            rw [hc] at hsub
            clear hfb hc
            go_wp2
            exact ⟨⟨q + 1, d, by omega, by go_num, rfl, hnext⟩, by simp [intOf]; omega⟩
          · rw [hc] at hsub
            by_cases h49 : (s[q].toNat : Int) = 49
            · have hnext : Keep ((1 : Int) - d = ((xs (fun q => sub q p) (fb s) (q + 1)).toNat : Nat)) := ⟨by
                rw [xs, hc, hfb, u8_of (n := 49) (by omega) h49, hdk.out]
                cases xs (fun q => sub q p) (fb s) q <;> rfl⟩
              clear hfb hc
              go_wp2
              exact ⟨⟨q + 1, (xs (fun q => sub q p) (fb s) (q + 1)).toNat, by omega, by go_num, by rw [hnext.out], ⟨rfl⟩⟩, by simp [intOf]; omega⟩
            · have hnext : Keep (d = (xs (fun q => sub q p) (fb s) (q + 1)).toNat) := ⟨by
                have hne : (s[q] == 49) = false := by
                  rw [beq_eq_false_iff_ne]; intro h; rw [h] at h49; exact h49 rfl
                rw [xs, hc, hfb, hne, hdk.out]; simp⟩
              clear hfb hc
              go_wp2
              exact ⟨⟨q + 1, d, by omega, by go_num, rfl, hnext⟩, by simp [intOf]; omega⟩
        · have : q = p + 1 := by omega
          subst this
          have hb : Keep ((48 + d : Nat) = (if xs (fun q => sub q p) (fb s) (p + 1) then (49 : UInt8) else 48).toNat) := ⟨by
            rw [hdk.out]; cases xs (fun q => sub q p) (fb s) (p + 1) <;> rfl⟩
          go_wp2_with (at_builtin; go_loud (
             refine wpList_append_own _ rfl _ _ 72 rfl w.heap.size 5 i0 (.int .u8 0) 1 1 ty72 hi hz0 hz1 hz2 rfl (by decide) _ _ _ rfl (hown.alloc _) ⟨wr.heap.size, 0, none⟩ 1 1 [.int .u8 (48 + d : Int)] rfl rfl (cell_one_new _ _ _) (fun x hx => by simp at hx; subst hx; rfl) (by rw [refL_len]; unfold maxLen; omega) (by rw [refL_len]; omega) (by simp; omega) ?_
             intro v' w3 hown' hgrow3 hnil3
             have hbw3 : Below w.heap.size w w3 := Below.grown (hbw.alloc (by omega) _) hgrow3 (by simp; omega) (fun j hj => by have := (hown.lt _ hj).1; omega)
             have X : Keep (w3.ownsRow w.heap.size 5 1 v' ((refL s p).length + 1) ((refL s p).map vb ++ [.int .u8 (48 + d : Int)]) ∧ Below w.heap.size w w3) := ⟨⟨hown', hbw3⟩⟩
             clear hown' hgrow3 hnil3 hbw3))
          obtain ⟨q1, q2⟩ := X.out
          refine ⟨⟨p + 1, by omega, by go_num, ?_, q2⟩, by simp [intOf]; omega⟩
          rw [refL_push, List.length_append, List.map_append, List.map_cons, List.map_nil, List.length_singleton, vb, ← hb.out]
          exact q1
    · have : p = s.size := by omega
      subst this
      obtain ⟨g, cap, rfl, hcell⟩ := own_bytes hown (by rw [refL_len]; exact h1)
      have hconv := run_convert_bytes_back (P := Tryd.prog) wr 72 9 5 ⟨g, 0, none⟩ cap _ ty72 ty5 ty9 hcell
      go_wp2
      go_ret
      exact ⟨rfl, hbw⟩
end Go.Proofs.YtioaaigbpfdjmaaDoor
