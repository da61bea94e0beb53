import Derived.Test.YtioaaigbpfdjmaaDoorSumText
import Derived.Test.YtioaaigbpfdjmaaDoorPop
set_option linter.unusedSimpArgs false
set_option linter.unusedVariables false
namespace Go.Proofs.YtioaaigbpfdjmaaDoor
open Go Go.Proofs Go.RowKit
def sensK (b : Nat → Bool) (p k : Nat) : Nat := ((List.range k).filter fun i => b p != b (p ^^^ 2 ^ i)).length
theorem sensK_push (b : Nat → Bool) (p k : Nat) : sensK b p (k + 1) = sensK b p k + (b p != b (p ^^^ 2 ^ k)).toNat := by
  unfold sensK
  rw [List.range_succ, List.filter_append, List.length_append]
  cases h : (b p != b (p ^^^ 2 ^ k)) <;> simp [h]
theorem sensK_le (b : Nat → Bool) (p k : Nat) : sensK b p k ≤ k := Nat.le_trans (List.length_filter_le _ _) (by simp)
/-- The variables v at the point p decide the value. -/
def decN (b : Nat → Bool) (N p v : Nat) : Bool := (List.range N).all fun q => !(q &&& v == p &&& v) || (b q == b p)
def certK (b : Nat → Bool) (N n p k : Nat) : Nat := (List.range k).foldl (fun m v => if decN b N p v then min m (digN v) else m) n
theorem certK_push (b : Nat → Bool) (N n p k : Nat) : certK b N n p (k + 1) = if decN b N p k then min (certK b N n p k) (digN k) else certK b N n p k := by
  unfold certK; rw [List.range_succ, List.foldl_append]; rfl
theorem certK_le (b : Nat → Bool) (N n p : Nat) : ∀ k, certK b N n p k ≤ n
  | 0 => Nat.le_refl _
  | k + 1 => by
    rw [certK_push]
    have := certK_le b N n p k
    split <;> omega
set_option maxHeartbeats 1000000 in
set_option maxRecDepth 100000 in
theorem sens_any {n O Z p : Nat} {w : World} {b : Nat → Bool} (h5 : n ≤ 5) (hO : O < 4294967296) (hb : Keep (O.testBit = b)) (hp : p < 32) :
    Calls Tryd.prog 80 #[.agg #[.int .i64 n, .int .u32 O, .int .u32 Z], .int .i64 p] w fun e w' => e = .returned (.int .i64 (sensK b p n : Nat)) ∧ Below w.heap.size w w' := by
  obtain ⟨r, hr⟩ : ∃ r, Keep (sensK b p n = r) := ⟨_, ⟨rfl⟩⟩
  rw [hr.out]
  go_enter Tryd.func80, Tryd.ntmps80
  go_wp2
  obtain ⟨c0, c1, c2, _, _, _, _, hbw⟩ := carry_new (Below.refl (w.alloc (.cells #[.int .i64 n, .int .u32 O, .int .u32 Z] 79)).heap.size (w.alloc (.cells #[.int .i64 n, .int .u32 O, .int .u32 Z] 79)))
  generalize w.alloc (.cells #[.int .i64 n, .int .u32 O, .int .u32 Z] 79) = W at c0 c1 c2 hbw ⊢
  go_loopw [5, 9] (fun s i wr => ∃ k d m : Nat, k ≤ n ∧ i = .int .i64 k ∧ s = .int .i64 m ∧ Keep (m = sensK b p k) ∧ wr = W.drewN d) (fun _ i _ => n - (intOf i).toNat)
  case atStart => exact ⟨0, 0, 0, by omega, rfl, rfl, ⟨rfl⟩, rfl⟩
  case round =>
    obtain ⟨k, d, m, hk, rfl, rfl, hm, rfl⟩ := hrel
    by_cases hkn : k < n
    · have hw := wrap_pow (k := k) (by omega)
      obtain ⟨P, hP⟩ : ∃ P, Keep (P = 2 ^ k) := ⟨_, ⟨rfl⟩⟩
      rw [← hP.out] at hw
      have hP32 : P < 32 := by
        have h1 : 2 ^ k < 2 ^ 5 := Nat.pow_lt_pow_right (by decide) (by omega)
        have := hP.out; omega
      have hx32 : p ^^^ P < 32 := Nat.xor_lt_two_pow (n := 5) hp hP32
      have hxor : bits .xor .i64 (p : Int) (P : Int) = ((p ^^^ P : Nat) : Int) := xor_i64 p P (by omega) (by omega)
      have hm5 : m ≤ 5 := by rw [hm.out]; exact Nat.le_trans (sensK_le _ _ _) (by omega)
      obtain ⟨b1, hb1⟩ : ∃ x, Keep (b p = x) := ⟨_, ⟨rfl⟩⟩
      obtain ⟨b2, hb2⟩ : ∃ x, Keep (b (p ^^^ P) = x) := ⟨_, ⟨rfl⟩⟩
      have hnext : Keep (sensK b p (k + 1) = m + (b1 != b2).toNat) := ⟨by rw [sensK_push, ← hP.out, hb1.out, hb2.out, hm.out]⟩
      have h1 : ∀ k, Calls Tryd.prog 76 #[.int .u32 O, .int .i64 p] (W.drewN (d + k)) fun e w' => e = .returned (.bool b1) ∧ ∃ m, w' = W.drewN (d + m) := fun k => by
        have h := has_any O p hO hp (W.drewN (d + k))
        rw [hb.out, hb1.out] at h
        exact h.mono fun e w' ⟨h1, h2⟩ => ⟨h1, k, h2⟩
      have h2 : ∀ k, Calls Tryd.prog 76 #[.int .u32 O, .int .i64 (p ^^^ P : Nat)] (W.drewN (d + k)) fun e w' => e = .returned (.bool b2) ∧ ∃ m, w' = W.drewN (d + m) := fun k => by
        have h := has_any O (p ^^^ P) hO hx32 (W.drewN (d + k))
        rw [hb.out, hb2.out] at h
        exact h.mono fun e w' ⟨h1, h2⟩ => ⟨h1, k, h2⟩
      cases b1 <;> cases b2
      all_goals
        go_wp2
        go_quiet (first | (go_at_call 76; with_reducible exact h1 _) | (go_at_call 76; with_reducible exact h2 _))
        go_wp2
        first
          | exact ⟨⟨k + 1, _, m, by omega, by go_num, rfl, ⟨hnext.out.symm⟩, rfl⟩, by simp [intOf]; omega⟩
          | exact ⟨⟨k + 1, _, m + 1, by omega, by go_num, by go_num, ⟨hnext.out.symm⟩, rfl⟩, by simp [intOf]; omega⟩
    · have : k = n := by omega
      subst this
      go_wp2
      go_ret
      exact ⟨by rw [← hr.out, ← hm.out]; rfl, below_drewN hbw _⟩
theorem and_zero {a c : Nat} : a &&& c = 0 ↔ ∀ q, ¬ (a.testBit q = true ∧ c.testBit q = true) := by
  constructor
  · intro h q ⟨h1, h2⟩
    have : (a &&& c).testBit q = true := by rw [Nat.testBit_and, h1, h2]; rfl
    rw [h, Nat.zero_testBit] at this; cases this
  · intro h
    apply Nat.eq_of_testBit_eq
    intro q
    rw [Nat.testBit_and, Nat.zero_testBit]
    cases h1 : a.testBit q
    · rfl
    · cases h2 : c.testBit q
      · rfl
      · exact absurd ⟨h1, h2⟩ (h q)
theorem dec_eq {a O Z N p k : Nat} {b : Nat → Bool} (ha : ∀ q, a.testBit q = (decide (q < N) && inSet k (p &&& k) q)) (hb : O.testBit = b) (hz : ∀ q, Z.testBit q = (decide (q < N) && !b q)) (hp : p < N) :
    decN b N p k = ((((a &&& O : Nat) : Int) == 0) || (((a &&& Z : Nat) : Int) == 0)) := by
  have hpa : a.testBit p = true := by rw [ha]; simp [hp, inSet]
  have e : ∀ x : Nat, ((x : Int) == 0) = decide (x = 0) := fun x => by rw [Bool.eq_iff_iff, beq_iff_eq, decide_eq_true_iff]; omega
  rw [e, e]
  have hd : ∀ q, (decN b N p k = true) → q < N → inSet k (p &&& k) q = true → b q = b p := fun q h hq hin => by
    have := List.all_eq_true.1 h q (by rw [List.mem_range]; exact hq)
    unfold inSet at hin
    rw [hin] at this
    simpa using this
  cases hbp : b p
  · have h1 : ¬ a &&& Z = 0 → decN b N p k = false ∨ True := fun _ => .inr trivial
    have hz0 : ¬ (a &&& Z = 0) := fun h => and_zero.1 h p ⟨hpa, by rw [hz, hbp]; simp [hp]⟩
    rw [decide_eq_false hz0, Bool.or_false, Bool.eq_iff_iff, decide_eq_true_iff]
    constructor
    · intro h
      refine and_zero.2 fun q ⟨h1, h2⟩ => ?_
      rw [ha, Bool.and_eq_true] at h1
      have := hd q h (of_decide_eq_true h1.1) h1.2
      rw [hb, this, hbp] at h2; cases h2
    · intro h
      unfold decN
      rw [List.all_eq_true]
      intro q hq
      rw [List.mem_range] at hq
      cases hin : (q &&& k == p &&& k)
      · rfl
      · cases hbq : b q
        · rw [hbp]; rfl
        · exact absurd ⟨by rw [ha, decide_eq_true hq]; exact hin, by rw [hb]; exact hbq⟩ (and_zero.1 h q)
  · have ho0 : ¬ (a &&& O = 0) := fun h => and_zero.1 h p ⟨hpa, by rw [hb]; exact hbp⟩
    rw [decide_eq_false ho0, Bool.false_or, Bool.eq_iff_iff, decide_eq_true_iff]
    constructor
    · intro h
      refine and_zero.2 fun q ⟨h1, h2⟩ => ?_
      rw [ha, Bool.and_eq_true] at h1
      have := hd q h (of_decide_eq_true h1.1) h1.2
      rw [hz, this, hbp] at h2; simp at h2
    · intro h
      unfold decN
      rw [List.all_eq_true]
      intro q hq
      rw [List.mem_range] at hq
      cases hin : (q &&& k == p &&& k)
      · rfl
      · cases hbq : b q
        · exact absurd ⟨by rw [ha, decide_eq_true hq]; exact hin, by rw [hz, hbq]; simp [hq]⟩ (and_zero.1 h q)
        · rw [hbp]; rfl
set_option maxHeartbeats 1000000 in
set_option maxRecDepth 100000 in
theorem cert_any {n N O Z p : Nat} {w : World} {b : Nat → Bool} (h5 : n ≤ 5) (hN : Keep (N = 2 ^ n)) (hN32 : N ≤ 32) (hO : O < 4294967296) (hZ : Z < 4294967296) (hb : Keep (O.testBit = b)) (hz : Keep (∀ q, Z.testBit q = (decide (q < N) && !b q))) (hp : p < N) :
    Calls Tryd.prog 81 #[.agg #[.int .i64 n, .int .u32 O, .int .u32 Z], .int .i64 p] w fun e w' => e = .returned (.int .i64 (certK b N n p N : Nat)) ∧ Below w.heap.size w w' := by
  obtain ⟨r, hr⟩ : ∃ r, Keep (certK b N n p N = r) := ⟨_, ⟨rfl⟩⟩
  rw [hr.out]
  go_enter Tryd.func81, Tryd.ntmps81
  go_wp2_with (go_at_call 75; refine (tsize_any n O Z N h5 hN.out _).mono ?_; rintro e w4 ⟨rfl, hb4⟩
               obtain ⟨c0, c1, c2, _, _, _, hlt, hbw⟩ := carry_new hb4
               clear hb4)
  go_loopw [5, 12] (fun s i wr => ∃ k m : Nat, k ≤ N ∧ i = .int .i64 k ∧ s = .int .i64 m ∧ Keep (m = certK b N n p k) ∧ Below (w.heap.size + 1) w4 wr) (fun _ i _ => N - (intOf i).toNat)
  case atStart => exact ⟨0, n, by omega, rfl, rfl, ⟨rfl⟩, Below.refl _ _⟩
  case round =>
    obtain ⟨k, m, hk, rfl, rfl, hm, hbr⟩ := hrel
    have d0 := (hbr.cell (p := ⟨w.heap.size, 0, none⟩) (by simp)).trans c0
    have d1 := (hbr.cell (p := ⟨w.heap.size, 1, none⟩) (by simp)).trans c1
    have d2 := (hbr.cell (p := ⟨w.heap.size, 2, none⟩) (by simp)).trans c2
    have hlr : w.heap.size < wr.heap.size := Nat.lt_of_lt_of_le hlt hbr.size
    by_cases hkN : k < N
    · have hk32 : k < 32 := by omega
      have hand : bits .and .i64 (p : Int) (k : Int) = ((p &&& k : Nat) : Int) := and_i64 p k (by omega) (by omega)
      have hm5 : m ≤ 5 := by rw [hm.out]; exact Nat.le_trans (certK_le _ _ _ _ _) h5
      go_wp2_with (first
                | (go_at_call 79; refine (onesN k hk32 _).mono ?_; rintro e w6 ⟨rfl, hb7⟩
                   have hb8 : Below (w.heap.size + 1) w4 w6 := below_trans hb6 hb7 hl5
                   have hdl := dig_le k
                   clear hb7)
                | (go_at_call 92; refine (points_any k (p &&& k) hk32 n N h5 hN.out _).mono ?_; rintro e w5 ⟨⟨a, ha, rfl, hbits⟩, hb5⟩
                   have hbk : Keep (∀ q, a.testBit q = (decide (q < N) && inSet k (p &&& k) q)) := ⟨hbits⟩
                   have e0 := (hb5.cell (p := ⟨w.heap.size, 0, none⟩) hlr).trans d0
                   have e1 := (hb5.cell (p := ⟨w.heap.size, 1, none⟩) hlr).trans d1
                   have e2 := (hb5.cell (p := ⟨w.heap.size, 2, none⟩) hlr).trans d2
                   have ho := bits_and_u32_nat a O ha hO
                   have hzz := bits_and_u32_nat a Z ha hZ
                   obtain ⟨x1, hx1⟩ : ∃ x, (((a &&& O : Nat) : Int) == 0) = x := ⟨_, rfl⟩
                   obtain ⟨x2, hx2⟩ : ∃ x, (((a &&& Z : Nat) : Int) == 0) = x := ⟨_, rfl⟩
                   have hdk : Keep (decN b N p k = (x1 || x2)) := ⟨by rw [dec_eq hbits hb.out hz.out hp, ← hx1, ← hx2]⟩
                   have hb6 : Below (w.heap.size + 1) w4 w5 := below_trans hbr hb5 hlr
                   clear hbits d0 d1 d2
                   have hl5 : w.heap.size + 1 ≤ w5.heap.size := Nat.le_trans hlr hb5.size
                   cases x1 <;> cases x2))
      · exact ⟨⟨k + 1, m, by omega, by go_num, rfl, ⟨by rw [certK_push, hdk.out, hm.out]; rfl⟩, hb6⟩, by simp [intOf]; omega⟩
      all_goals exact ⟨⟨k + 1, if digN k < m then digN k else m, by omega, by go_num, by split <;> rfl, ⟨by rw [certK_push, hdk.out, ← hm.out]; show _ = min m (digN k); split <;> omega⟩, hb8⟩, by simp [intOf]; omega⟩
    · have : k = N := by omega
      subst this
      go_wp2
      go_ret
      refine ⟨by rw [← hr.out, ← hm.out]; rfl, ?_⟩
      exact hbw.trans (hbr.mono (by omega))
end Go.Proofs.YtioaaigbpfdjmaaDoor
