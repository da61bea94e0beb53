import Derived.Test.YtioaaigbpfdjmaaDoorCounts
import Derived.Test.YtioaaigbpfdjmaaDoorRealize
import Derived.Deep.RegionHeld3
import Derived.Laws.StructEq
import Derived.Laws.Cover2
set_option linter.unusedSimpArgs false
set_option linter.unusedVariables false
namespace Go.Proofs.YtioaaigbpfdjmaaDoor
open Go Go.Proofs Go.RowKit
def ptB (s : ByteArray) (c : UInt8) (z : Int) : Bool := decide (0 ≤ z ∧ z < s.size) && s.data.toList.getD z.toNat 0 == c
def cntB (a b : List Int) : Bool := (List.range 5).all fun k => bitSum a k == bitSum b k
def balB (s : ByteArray) (a b : List Int) : Bool := decide (a.length = b.length ∧ 1 ≤ a.length ∧ a.length ≤ 1000) && (a.all (ptB s 49) && b.all (ptB s 48) && cntB a b)
def balV (s : ByteArray) (a b : List Int) : Int := if balB s a b then 0 else 10
def arr5 (f : Nat → Nat) : Value := .agg #[.int .i64 (f 0 : Nat), .int .i64 (f 1 : Nat), .int .i64 (f 2 : Nat), .int .i64 (f 3 : Nat), .int .i64 (f 4 : Nat)]
theorem eq110 (f g : Nat → Nat) (w : World) : (Op.equalIn 10000 110 (arr5 f) (arr5 g)).run Tryd.prog w = .ok ((List.range 5).all fun k => f k == g k) w := by
  have u3 := Tryd.underlying3
  have a3 := Tryd.isAgg3
  have z3 := Tryd.sizeOf3
  unfold arr5
  rw [show (10000 : Nat) = 9999 + 1 from rfl, Op.equalIn]
  simp only [Sem.run_bind, run_underlying Tryd.underlying110, Result.andThen_ok]
  simp only [Std.Legacy.Range.forIn_eq_forIn_range', Std.Legacy.Range.size, Nat.sub_zero, Nat.add_sub_cancel, Nat.div_one, List.range'_succ, List.range'_zero, List.forIn_cons, List.forIn_nil]
  go_simp
  have e : ∀ a b : Nat, ((a : Int) = (b : Int)) = (a = b) := fun a b => propext (by omega)
  simp only [e]
  by_cases h0 : f 0 = g 0 <;> by_cases h1 : f 1 = g 1 <;> by_cases h2 : f 2 = g 2 <;> by_cases h3 : f 3 = g 3 <;> by_cases h4 : f 4 = g 4 <;> simp [h0, h1, h2, h3, h4]
theorem inB_ptB {s : ByteArray} {c : UInt8} {O : Nat} (h : charB s c O s.size) (h32 : s.size ≤ 32) (z : Int) : inB O z = ptB s c z := by
  unfold inB ptB
  rw [h]
  by_cases h0 : 0 ≤ z
  · by_cases h1 : z < s.size
    · have h2 : z < 32 := by omega
      have h3 : z.toNat < s.size := by omega
      simp [h0, h1, h2, h3]
    · have h3 : ¬ z.toNat < s.size := by omega
      simp [h1, h3]
  · simp [h0]
theorem all_inB {s : ByteArray} {c : UInt8} {O : Nat} (h : charB s c O s.size) (h32 : s.size ≤ 32) (l : List Int) : l.all (inB O) = l.all (ptB s c) := by
  congr 1; funext z; exact inB_ptB h h32 z
theorem allPt_of {O : Nat} {l : List Int} (h : l.all (inB O) = true) : allPt l = true := by
  unfold allPt
  rw [List.all_eq_true] at h ⊢
  intro z hz
  have := h z hz
  unfold inB at this
  rw [Bool.and_eq_true] at this
  exact this.1
set_option maxHeartbeats 1000000 in
set_option maxRecDepth 100000 in
theorem balance_no {s : ByteArray} {v : Value} {ls : List (List Int)} {w : World} {n : Nat} (h40 : s.size ≤ 40) (hn : Keep (totOf s = n)) (h0 : n ≠ 0) (hv : ListsAt w v ls) (hlen : ls.length ≤ 3) (hne : ls.length ≠ 2) :
    Calls Tryd.prog 46 #[.string s, v] w fun e w' => e = .returned (.int .i64 10) ∧ Below w.heap.size w w' := by
  have hd : decide (n ≠ 0) = true := decide_eq_true h0
  obtain ⟨A, cap, rfl, hc⟩ := hv
  have hneB : ((ls.length : Int) != 2) = true := by simp; omega
  clear h0 hc hne
  go_enter Tryd.func46, Tryd.ntmps46
  go_wp2_with (go_at_call 73; refine (total_any s h40 _).mono ?_; rintro e w1 ⟨⟨O, Z, hO, hZ, rfl, hOZ⟩, hb1⟩; rw [hn.out, hd])
  go_quiet (fail)
  go_wp2
  go_ret
  exact ⟨rfl, below_drewN (hb1.alloc hb1.size _) _⟩
set_option maxHeartbeats 1000000 in
set_option maxRecDepth 100000 in
theorem balance_two {s : ByteArray} {v : Value} {a b : List Int} {w : World} {n : Nat} (h40 : s.size ≤ 40) (hn : Keep (totOf s = n)) (h0 : n ≠ 0) (h32 : s.size ≤ 32) (hv : ListsAt w v [a, b]) (hla : a.length ≤ 1001) (hlb : b.length ≤ 1001) :
    Calls Tryd.prog 46 #[.string s, v] w fun e w' => e = .returned (.int .i64 (balV s a b)) ∧ Below w.heap.size w w' := by
  have hd : decide (n ≠ 0) = true := decide_eq_true h0
  obtain ⟨A, cap, rfl, hc⟩ := hv
  obtain ⟨g, u0, rfl, hg0, hu0, _⟩ := hc 0 (by simp)
  obtain ⟨g', u1, hA, hg1, hu1, _⟩ := hc 1 (by simp)
  obtain rfl : g = g' := by injection hA with h; injection h
  have hu0k : Keep (IntsAt w u0 a) := ⟨hu0⟩
  have hu1k : Keep (IntsAt w u1 b) := ⟨hu1⟩
  obtain ⟨A0, cap0, rfl, _⟩ := hu0
  obtain ⟨A1, cap1, rfl, _⟩ := hu1
  simp only [List.getD_cons_zero, List.getD_cons_succ, List.length_cons, List.length_nil, Nat.zero_add, Nat.reduceAdd] at hg0 hg1 hu0k hu1k ⊢
  have htot : Keep (totOf s ≠ 0) := ⟨by rw [hn.out]; exact h0⟩
  clear h0 hc hA
  by_cases hlen : (a.length : Int) = (b.length : Int)
  · have hlB : ((a.length : Int) != (b.length : Int)) = false := by simpa using hlen
    have hlk : Keep ((a.length : Int) = (b.length : Int)) := ⟨hlen⟩
    clear hlen
    by_cases h1 : a.length < 1
    · have hbad : Keep (balB s a b = false) := ⟨by
        unfold balB; have : ¬ (1 ≤ a.length) := by omega
        simp [this]⟩
      go_enter Tryd.func46, Tryd.ntmps46
      go_wp2_with (go_at_call 73; refine (total_any s h40 _).mono ?_; rintro e w1 ⟨⟨O, Z, hO, hZ, rfl, hOZ⟩, hb1⟩; rw [hn.out, hd])
      have hbw : Below w.heap.size w (w1.alloc (.cells #[.int .i64 n, .int .u32 O, .int .u32 Z] 79)) := hb1.alloc hb1.size _
      have hgr0 := cell_below hg0 hbw
      have hgr1 := cell_below hg1 hbw
      go_quiet (fail)
      go_wp2
      go_ret
      exact ⟨by unfold balV; rw [hbad.out]; rfl, below_drewN hbw _⟩
    · by_cases h2 : 1000 < a.length
      · have hbad : Keep (balB s a b = false) := ⟨by
          unfold balB; have : ¬ (a.length ≤ 1000) := by omega
          simp [this]⟩
        go_enter Tryd.func46, Tryd.ntmps46
        go_wp2_with (go_at_call 73; refine (total_any s h40 _).mono ?_; rintro e w1 ⟨⟨O, Z, hO, hZ, rfl, hOZ⟩, hb1⟩; rw [hn.out, hd])
        have hbw : Below w.heap.size w (w1.alloc (.cells #[.int .i64 n, .int .u32 O, .int .u32 Z] 79)) := hb1.alloc hb1.size _
        have hgr0 := cell_below hg0 hbw
        have hgr1 := cell_below hg1 hbw
        go_quiet (fail)
        go_wp2
        go_ret
        exact ⟨by unfold balV; rw [hbad.out]; rfl, below_drewN hbw _⟩
      · have hgood : Keep (balB s a b = (a.all (ptB s 49) && b.all (ptB s 48) && cntB a b)) := ⟨by
          unfold balB; have h3 : a.length ≤ 1000 := by omega
          have h4 : 1 ≤ a.length := by omega
          have h5 : a.length = b.length := by have := hlk.out; omega
          rw [decide_eq_true ⟨h5, h4, h3⟩, Bool.true_and]⟩
        go_enter Tryd.func46, Tryd.ntmps46
        go_wp2_with (go_at_call 73; refine (total_any s h40 _).mono ?_; rintro e w1 ⟨⟨O, Z, hO, hZ, rfl, hOZ⟩, hb1⟩; rw [hn.out, hd])
        have hk1 : Keep (charB s 49 O s.size ∧ charB s 48 Z s.size) := ⟨hOZ htot.out⟩
        have hbw : Below w.heap.size w (w1.alloc (.cells #[.int .i64 n, .int .u32 O, .int .u32 Z] 79)) := hb1.alloc hb1.size _
        obtain ⟨c0, c1, c2, _, _, _, _, _⟩ := carry_new (Below.refl (w1.alloc (.cells #[.int .i64 n, .int .u32 O, .int .u32 Z] 79)).heap.size (w1.alloc (.cells #[.int .i64 n, .int .u32 O, .int .u32 Z] 79)))
        generalize w1.alloc (.cells #[.int .i64 n, .int .u32 O, .int .u32 Z] 79) = W at hbw c0 c1 c2 ⊢
        generalize w1.heap.size = G at c0 c1 c2 ⊢
        have hgr0 := cell_below hg0 hbw
        have hgr1 := cell_below hg1 hbw
        clear hOZ
        go_quiet (fail)
        go_wp2
        obtain ⟨bA, hbA⟩ : ∃ x, Keep (a.all (inB O) = x) := ⟨_, ⟨rfl⟩⟩
        obtain ⟨bB, hbB⟩ : ∃ x, Keep (b.all (inB Z) = x) := ⟨_, ⟨rfl⟩⟩
        have hgood2 : Keep (balB s a b = (bA && bB && cntB a b)) := ⟨by rw [hgood.out, ← hbA.out, ← hbB.out, all_inB hk1.out.1 h32, all_inB hk1.out.2 h32]⟩
        clear hgood
        have hin0 : ∀ k, Calls Tryd.prog 87 #[.slice A0 a.length cap0, .int .u32 O] (W.drewN (nq + k)) fun e w' => e = .returned (.bool bA) ∧ ∃ m, w' = W.drewN (nq + m) := fun k => by
          have h := allIn_any hO (ints_below hu0k.out (below_drewN hbw (nq + k))) hla
          rw [hbA.out] at h
          exact h.mono fun e w' ⟨h1, h2⟩ => ⟨h1, k, h2⟩
        have hin1 : ∀ k, Calls Tryd.prog 87 #[.slice A1 b.length cap1, .int .u32 Z] (W.drewN (nq + k)) fun e w' => e = .returned (.bool bB) ∧ ∃ m, w' = W.drewN (nq + m) := fun k => by
          have h := allIn_any hZ (ints_below hu1k.out (below_drewN hbw (nq + k))) hlb
          rw [hbB.out] at h
          exact h.mono fun e w' ⟨h1, h2⟩ => ⟨h1, k, h2⟩
        cases bA
        · go_quiet (first | (go_at_call 87; with_reducible exact hin0 _) | (go_at_call 87; with_reducible exact hin1 _))
          go_wp2
          go_ret
          exact ⟨by unfold balV; rw [hgood2.out]; rfl, below_drewN (below_drewN hbw _) _⟩
        · cases bB
          · go_quiet (first | (go_at_call 87; with_reducible exact hin0 _) | (go_at_call 87; with_reducible exact hin1 _))
            go_wp2
            go_ret
            exact ⟨by unfold balV; rw [hgood2.out]; rfl, below_drewN (below_drewN hbw _) _⟩
          · go_quiet (first | (go_at_call 87; with_reducible exact hin0 _) | (go_at_call 87; with_reducible exact hin1 _))
            go_wp2
            generalize hW2 : (W.drewN _).drewN _ = W2
            have hbw2 : Below w.heap.size w W2 := hW2 ▸ below_drewN (below_drewN hbw _) _
            have hga := cell_below hg0 hbw2
            have hgb := cell_below hg1 hbw2
            have hbk : Keep (Below w.heap.size w W2) := ⟨hbw2⟩
            have hpa : Keep (allPt a = true) := ⟨allPt_of hbA.out⟩
            have hpb : Keep (allPt b = true) := ⟨allPt_of hbB.out⟩
            clear hin0 hin1 hgr0 hgr1 c0 c1 c2 hW2 hbw hbw2
            have hbD : Keep (Below w.heap.size w W2.drew) := ⟨below_drewN hbk.out 1⟩
            have heq : ∀ w : World, (Op.equalIn 10000 110 (.agg #[.int .i64 (bitSum a 0 : Nat), .int .i64 (bitSum a 1 : Nat), .int .i64 (bitSum a 2 : Nat), .int .i64 (bitSum a 3 : Nat), .int .i64 (bitSum a 4 : Nat)]) (.agg #[.int .i64 (bitSum b 0 : Nat), .int .i64 (bitSum b 1 : Nat), .int .i64 (bitSum b 2 : Nat), .int .i64 (bitSum b 3 : Nat), .int .i64 (bitSum b 4 : Nat)])).run Tryd.prog w = .ok (cntB a b) w := eq110 (bitSum a) (bitSum b)
            obtain ⟨bC, hbC⟩ : ∃ x, Keep (cntB a b = x) := ⟨_, ⟨rfl⟩⟩
            rw [hbC.out] at hgood2 heq
            go_region_held3 (fun w' => w'.cell? ⟨g, 0, none⟩ = some (.slice A0 a.length cap0) ∧ w'.cell? ⟨g, 1, none⟩ = some (.slice A1 b.length cap1))
              (first | exact ⟨hga, hgb⟩ | go_keep | exact ⟨cell_below hg0 hb4.out, cell_below hg1 hb4.out⟩ | exact ⟨cell_below hg0 hb3.out, cell_below hg1 hb3.out⟩)
              (first
                | (go_at_call 88; (with_reducible refine (counts_any (ints_below hu1k.out hb3.out) hlb hpb.out).mono ?_); rintro e w4 ⟨rfl, hb4'⟩; have hb4 : Keep (Below w.heap.size w w4) := ⟨below_trans hb3.out hb4' hb3.out.size⟩; clear hb4')
                | (go_at_call 88; (with_reducible refine (counts_any (ints_below hu0k.out hbD.out) hla hpa.out).mono ?_); rintro e w3 ⟨rfl, hb3'⟩; have hb3 : Keep (Below w.heap.size w w3) := ⟨below_trans hbD.out hb3' hbD.out.size⟩; clear hb3'))
            cases bC
            · go_wp2
              go_ret
              exact ⟨by unfold balV; rw [hgood2.out]; rfl, hb4.out⟩
            · go_wp2
              go_ret
              exact ⟨by unfold balV; rw [hgood2.out]; rfl, hb4.out⟩
  · have hlB : ((a.length : Int) != (b.length : Int)) = true := by simpa using hlen
    have hbad : Keep (balB s a b = false) := ⟨by
      unfold balB; have : ¬ a.length = b.length := by omega
      simp [this]⟩
    clear hlen
    go_enter Tryd.func46, Tryd.ntmps46
    go_wp2_with (go_at_call 73; refine (total_any s h40 _).mono ?_; rintro e w1 ⟨⟨O, Z, hO, hZ, rfl, hOZ⟩, hb1⟩; rw [hn.out, hd])
    have hbw : Below w.heap.size w (w1.alloc (.cells #[.int .i64 n, .int .u32 O, .int .u32 Z] 79)) := hb1.alloc hb1.size _
    have hgr0 := cell_below hg0 hbw
    have hgr1 := cell_below hg1 hbw
    go_quiet (fail)
    go_wp2
    go_ret
    exact ⟨by unfold balV; rw [hbad.out]; rfl, below_drewN hbw _⟩
end Go.Proofs.YtioaaigbpfdjmaaDoor
