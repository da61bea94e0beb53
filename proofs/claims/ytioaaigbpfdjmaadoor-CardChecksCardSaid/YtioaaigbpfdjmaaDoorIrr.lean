import Derived.Test.YtioaaigbpfdjmaaDoorIrrMath
import Derived.Deep.QuietTactic
import Derived.BigQuiet
set_option linter.unusedSimpArgs false
set_option linter.unusedVariables false
namespace Go.Proofs.YtioaaigbpfdjmaaDoor
open Go Go.Proofs Go.RowKit
theorem readCover_any {f : ByteArray} {v : Value} {ls : List ByteArray} {w : World} (h40 : f.size ≤ 40) (hv : TextsAt w v ls) (h40s : Keep (∀ c ∈ ls, c.size ≤ 40)) :
    Calls Tryd.prog 72 #[.string f, v] w fun e w' => RcPost f ls e w' ∧ Below w.heap.size w w' := by
  by_cases h0 : varsOf f = 0
  · exact readCover_no1 h40 hv (.inl h0)
  · by_cases h32 : 32 < ls.length
    · exact readCover_no1 h40 hv (.inr h32)
    · exact readCover_yes h40 hv ⟨rfl⟩ h0 (varsOf_le f) ⟨rfl⟩ ⟨(varsOf_size h0).1⟩ (by omega) h40s
/-- The answer of Check. -/
def chkN (f : ByteArray) (ls : List ByteArray) : Nat := if validB f ls then (if covB f ls then 0 else 10) else 2
theorem rc_fail {f : ByteArray} {v : Value} {ls : List ByteArray} {w : World} (h40 : f.size ≤ 40) (hv : TextsAt w v ls) (h40s : Keep (∀ c ∈ ls, c.size ≤ 40)) (hno : chkN f ls ≠ 0) :
    Calls Tryd.prog 72 #[.string f, v] w fun e w' => e = .returned (.tuple #[.agg #[.int .i64 0, .int .u32 0, .int .u32 0], .slice none 0 0, .int .i64 (chkN f ls : Nat)]) ∧ Below w.heap.size w w' := by
  refine (readCover_any h40 hv h40s).mono ?_
  rintro e w' ⟨h, hb⟩
  refine ⟨?_, hb⟩
  unfold chkN at hno ⊢
  rcases h with ⟨h1, rfl⟩ | ⟨h1, h2, rfl⟩ | ⟨h1, h2, _⟩
  · rw [h1]; rfl
  · rw [h1, h2]; rfl
  · rw [h1, h2] at hno; exact absurd rfl hno
def RcOK (f : ByteArray) (ls : List ByteArray) (e : Ending) (w' : World) : Prop :=
  ∃ (O Z G n : Nat) (az : List Nat), e = .returned (.tuple #[.agg #[.int .i64 n, .int .u32 O, .int .u32 Z], .slice (some ⟨G, 0, none⟩) az.length az.length, .int .i64 0]) ∧
    az.length = ls.length ∧ SetsAt w' (some ⟨G, 0, none⟩) az ∧ (∀ a ∈ az, a < 4294967296) ∧ O < 4294967296 ∧ charB f 49 O f.size ∧ ∀ j, j < ls.length → ∀ p, (az.getD j 0).testBit p = (decide (p < f.size) && inC (ls.getD j ByteArray.empty) p)
theorem rc_ok {f : ByteArray} {v : Value} {ls : List ByteArray} {w : World} (h40 : f.size ≤ 40) (hv : TextsAt w v ls) (h40s : Keep (∀ c ∈ ls, c.size ≤ 40)) (hyes : chkN f ls = 0) :
    Calls Tryd.prog 72 #[.string f, v] w fun e w' => RcOK f ls e w' ∧ Below w.heap.size w w' := by
  refine (readCover_any h40 hv h40s).mono ?_
  rintro e w' ⟨h, hb⟩
  refine ⟨?_, hb⟩
  unfold chkN at hyes
  rcases h with ⟨h1, rfl⟩ | ⟨h1, h2, rfl⟩ | ⟨h1, h2, O, Z, G, az, rfl, h3⟩
  · rw [h1] at hyes; cases hyes
  · rw [h1, h2] at hyes; cases hyes
  · exact ⟨O, Z, G, _, az, rfl, h3⟩
set_option maxRecDepth 100000 in
theorem check_any {f : ByteArray} {v : Value} {ls : List ByteArray} {w : World} (h40 : f.size ≤ 40) (hv : TextsAt w v ls) (h40s : Keep (∀ c ∈ ls, c.size ≤ 40)) :
    Calls Tryd.prog 31 #[.string f, v] w fun e w' => e = .returned (.int .i64 (chkN f ls : Nat)) ∧ Below w.heap.size w w' := by
  by_cases h0 : chkN f ls = 0
  · rw [h0]
    go_enter Tryd.func31, Tryd.ntmps31
    go_wp2_with (go_at_call 72; refine (rc_ok h40 hv h40s h0).mono ?_; rintro e w1 ⟨⟨O, Z, G, n, az, rfl, _⟩, hb1⟩)
    go_ret
    exact ⟨rfl, hb1.alloc hb1.size _⟩
  · obtain ⟨c, hc⟩ : ∃ c, chkN f ls = c := ⟨_, rfl⟩
    have hck := Keep.mk hc
    rw [hc]
    go_enter Tryd.func31, Tryd.ntmps31
    go_wp2_with (go_at_call 72; refine (rc_fail h40 hv h40s h0).mono ?_; rintro e w1 ⟨rfl, hb1⟩; rw [hck.out])
    go_ret
    exact ⟨rfl, hb1.alloc hb1.size _⟩
set_option maxHeartbeats 1000000 in
set_option maxRecDepth 100000 in
theorem irr_any {f : ByteArray} {v : Value} {ls : List ByteArray} {w : World} (h40 : f.size ≤ 40) (hv : TextsAt w v ls) (h40s : Keep (∀ c ∈ ls, c.size ≤ 40)) {b : Bool} (hb : Keep (b = (decide (chkN f ls = 0) && irrB f ls))) :
    Calls Tryd.prog 33 #[.string f, v] w fun e w' => e = .returned (.tuple #[.bool b, .int .i64 (chkN f ls : Nat)]) ∧ Below w.heap.size w w' := by
  by_cases h0 : chkN f ls = 0
  · have hcov : Keep (covB f ls = true) := ⟨by
      unfold chkN at h0
      cases h1 : validB f ls
      · rw [h1] at h0; cases h0
      · cases h2 : covB f ls
        · rw [h1, h2] at h0; cases h0
        · rfl⟩
    have hl32 : Keep (ls.length ≤ 32) := ⟨by
      unfold chkN at h0
      cases h1 : validB f ls
      · rw [h1] at h0; cases h0
      · unfold validB at h1
        simp at h1
        exact h1.1.2⟩
    have hbI : Keep (b = irrB f ls) := ⟨by rw [hb.out, decide_eq_true h0]; simp⟩
    have h0k := Keep.mk h0
    rw [h0]
    clear hb h0
    go_enter Tryd.func33, Tryd.ntmps33
    go_wp2_with (go_at_call 72; refine (rc_ok h40 hv h40s h0k.out).mono ?_; rintro e w1 ⟨⟨O, Z, G, n, az, rfl, hal, hsets, halt, hO, hOb, hbits⟩, hb1⟩)
    obtain ⟨c0, hc0, hc0b⟩ := one_bits az halt
    have hbW : Below w.heap.size w (w1.alloc (.cells #[.int .i64 n, .int .u32 O, .int .u32 Z] 79)) := hb1.alloc hb1.size _
    obtain ⟨t0, t1, t2, _, _, _, _, hb2⟩ := carry_new (Below.refl (w1.alloc (.cells #[.int .i64 n, .int .u32 O, .int .u32 Z] 79)).heap.size (w1.alloc (.cells #[.int .i64 n, .int .u32 O, .int .u32 Z] 79)))
    have hset2 := sets_below hsets hb2
    generalize w1.alloc (.cells #[.int .i64 n, .int .u32 O, .int .u32 Z] 79) = W at hbW t0 t1 t2 hset2 ⊢
    generalize w1.heap.size = T at t0 t1 t2 ⊢
    have hq : ∀ k, Calls Tryd.prog 62 #[.slice (some ⟨G, 0, none⟩) ls.length ls.length] (W.drewN k) fun e w' => e = .returned (.int .u32 c0) ∧ w' = W.drewN k := fun k => by
      have h := oneOnly_any (cap := ls.length) ⟨hc0b⟩ (by rw [hal]; exact hl32.out) (sets_below hset2 (below_drewN (Below.refl _ _) k)) ⟨halt⟩
      rw [hal] at h
      exact h
    have h1 := bits_and_u32_nat O c0 hO hc0
    have hOc : O &&& c0 < 4294967296 := Nat.lt_of_le_of_lt Nat.and_le_left hO
    have hirr : Keep (∀ i, i < ls.length → covB f (wo ls i) = ((az.getD i 0 &&& (O &&& c0)) == 0)) := ⟨fun i hi => irr_bit hcov.out hal hi hbits hOb hc0b⟩
    generalize O &&& c0 = M at h1 hOc hirr
    have haltk := Keep.mk halt
    have halk := Keep.mk hal
    have hset2k := Keep.mk hset2
    clear hsets hbits hOb hc0b halt hal hb1 hb2 hset2
    go_quiet ((go_at_call 62; exact Calls.quiet_of_same (hq _)))
    go_wp2
    have hbN : Below w.heap.size w (W.drewN nq) := below_drewN hbW nq
    have hset3 := Keep.mk (sets_below hset2k.out (below_drewN (Below.refl W.heap.size W) nq))
    generalize W.drewN nq = V at hbN hset3 ⊢
    clear hq h1 t0 t1 t2 hbW hset2k
    go_loop [29] (fun i => ∃ k : Nat, k ≤ ls.length ∧ i = .int .i64 k ∧ Keep (∀ j, j < k → covB f (wo ls j) = false)) (fun i => ls.length - (intOf i).toNat)
    case atStart => exact ⟨0, by omega, rfl, ⟨fun j h => by omega⟩⟩
    case round =>
      obtain ⟨k, hk, rfl, hall⟩ := hrel
      by_cases hlt : k < ls.length
      · obtain ⟨g, hg1, hg2⟩ := hset3.out k (by rw [halk.out]; exact hlt)
        have ha := haltk.out _ (getn (show k < az.length by rw [halk.out]; exact hlt))
        have hi1 := Keep.mk (hirr.out k hlt)
        injection hg1 with hg1
        injection hg1 with hg1
        subst hg1
        generalize az.getD k 0 = a at hg2 ha hi1
        have h2 := bits_and_u32_nat a M ha hOc
        have h3 : (((a &&& M : Nat) : Int) == 0) = ((a &&& M) == 0) := by
          rw [Bool.eq_iff_iff]; simp
        obtain ⟨y, hy⟩ : ∃ y, Keep (((a &&& M) == 0) = y) := ⟨_, ⟨rfl⟩⟩
        rw [hy.out] at h3 hi1
        generalize a &&& M = m at h2 h3
        clear hy
        have hl := hl32.out
        cases y
        · go_wp2
          refine ⟨⟨k + 1, by omega, by go_num, ⟨fun j hj => ?_⟩⟩, by simp [intOf]; omega⟩
          by_cases hjk : j < k
          · exact hall.out j hjk
          · have : j = k := by omega
            subst this
            exact hi1.out
        · have hbF : b = false := by
            rw [hbI.out]; unfold irrB
            rw [List.all_eq_false]
            exact ⟨k, List.mem_range.2 hlt, by rw [hi1.out]; simp⟩
          subst hbF
          go_wp2
          go_ret2
          exact ⟨rfl, hbN⟩
      · have : k = ls.length := by omega
        subst this
        have hbT : b = true := by
          rw [hbI.out]; unfold irrB
          rw [List.all_eq_true]
          intro j hj
          rw [hall.out j (List.mem_range.1 hj)]; rfl
        subst hbT
        go_wp2
        go_ret2
        exact ⟨rfl, hbN⟩
  · obtain ⟨c, hc⟩ : ∃ c, chkN f ls = c := ⟨_, rfl⟩
    have hbF : b = false := by rw [hb.out, decide_eq_false h0]; rfl
    have hck := Keep.mk hc
    have h0k := Keep.mk h0
    have hcne : ((c : Int) != 0) = true := by rw [hc] at h0; simp; exact h0
    rw [hc, hbF]
    clear h0 hc hb hbF
    go_enter Tryd.func33, Tryd.ntmps33
    go_wp2_with (go_at_call 72; refine (rc_fail h40 hv h40s h0k.out).mono ?_; rintro e w1 ⟨rfl, hb1⟩; rw [hck.out])
    go_ret2
    exact ⟨rfl, hb1.alloc hb1.size _⟩
end Go.Proofs.YtioaaigbpfdjmaaDoor
