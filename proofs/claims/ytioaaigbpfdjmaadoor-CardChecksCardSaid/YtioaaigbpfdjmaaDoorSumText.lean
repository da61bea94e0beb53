import Derived.Test.YtioaaigbpfdjmaaDoorSumFn
set_option linter.unusedSimpArgs false
set_option linter.unusedVariables false
namespace Go.Proofs.YtioaaigbpfdjmaaDoor
open Go Go.Proofs Go.RowKit
/-- The function's ones. -/
def fb (s : ByteArray) (q : Nat) : Bool := decide (q < s.size) && s.data.toList.getD q 0 == 49
theorem fb_of {s : ByteArray} {O : Nat} (h : charB s 49 O s.size) : O.testBit = fb s := funext fun q => h q
def sumL (s : ByteArray) (n N : Nat) : List UInt8 := (List.range N).map fun p => if rnd (fb s) n p then 49 else 48
theorem sumL_len (s : ByteArray) (n N : Nat) : (sumL s n N).length = N := by simp [sumL]
theorem sumL_get {s : ByteArray} {n N p : Nat} (h : p < N) : (sumL s n N).getD p 0 = if rnd (fb s) n p then 49 else 48 := by
  have hl : p < (sumL s n N).length := by rw [sumL_len]; exact h
  rw [List.getD_eq_getElem?_getD, List.getElem?_eq_getElem hl]
  simp [sumL]
theorem text_set2 {w : World} {G N p : Nat} {l : List UInt8} (h : TextAt w G N p l) (hp : p < N) {b : UInt8} {x : Value} (hb : l.getD p 0 = b) :
    TextAt ((w.setCell ⟨G, p, none⟩ x).setCell ⟨G, p, none⟩ (.int .u8 (b.toNat : Int))) G N (p + 1) l := by
  intro j hj
  obtain ⟨c1, c2⟩ := h j hj
  obtain ⟨d1, d2⟩ := h p hp
  by_cases hjp : j = p
  · subst hjp
    refine ⟨?_, by go_simp⟩
    have e : (if j < j + 1 then ((l.getD j 0).toNat : Int) else 0) = (b.toNat : Int) := by rw [if_pos (Nat.lt_succ_self j), hb]
    rw [e]
    go_simp
  · have e : (if j < p + 1 then ((l.getD j 0).toNat : Int) else 0) = (if j < p then ((l.getD j 0).toNat : Int) else 0) := by
      by_cases h : j < p
      · rw [if_pos h, if_pos (by omega)]
      · rw [if_neg h, if_neg (by omega)]
    rw [e]
    have hne : ¬ p = j := fun h => hjp h.symm
    generalize (if j < p then ((l.getD j 0).toNat : Int) else 0) = y at c1 ⊢
    exact ⟨by go_simp, by go_simp⟩
set_option maxRecDepth 100000 in
theorem sumFn_no {s : ByteArray} {w : World} (h40 : s.size ≤ 40) (hn : Keep (totOf s = 0)) :
    Calls Tryd.prog 34 #[.string s] w fun e w' => e = .returned (.tuple #[.string ByteArray.empty, .int .i64 2]) ∧ Below w.heap.size w w' := by
  go_enter Tryd.func34, Tryd.ntmps34
  go_wp2_with (go_at_call 73; refine (total_any s h40 _).mono ?_; rintro e w1 ⟨⟨O, Z, hO, hZ, rfl, hOZ⟩, hb1⟩; rw [hn.out])
  go_ret2
  exact ⟨rfl, hb1.alloc hb1.size _⟩
set_option maxHeartbeats 4000000 in
set_option maxRecDepth 100000 in
theorem sumFn_yes {s : ByteArray} {w : World} {n N : Nat} (h40 : s.size ≤ 40) (hn : Keep (totOf s = n)) (h0 : n ≠ 0) (hn5 : n ≤ 5) (hN : Keep (N = 2 ^ n)) (hN32 : N ≤ 32) (hsz : Keep (s.size = N)) :
    Calls Tryd.prog 34 #[.string s] w fun e w' => e = .returned (.tuple #[.string ⟨(sumL s n N).toArray⟩, .int .i64 0]) ∧ Below w.heap.size w w' := by
  obtain ⟨i0, hi, hz0, hz1, hz2⟩ := info_parts info5
  have hd : decide (n ≠ 0) = true := decide_eq_true h0
  have htot : Keep (totOf s ≠ 0) := ⟨by rw [hn.out]; exact h0⟩
  have hN1 : 1 ≤ N := by rw [hN.out]; exact Nat.two_pow_pos _
  clear h0
  go_enter Tryd.func34, Tryd.ntmps34
  go_wp2_with (first
    | (go_at_call 73; refine (total_any s h40 _).mono ?_; rintro e w1 ⟨⟨O, Z, hO, hZ, rfl, hOZ⟩, hb1⟩; rw [hn.out, hd]
       have hOb : Keep (charB s 49 O s.size) := ⟨(hOZ htot.out).1⟩
       clear hOZ)
    | (go_at_call 74; refine (sum_any (Z := Z) hn5 hN hN32 hO ⟨fun q hq => by rw [hOb.out q, decide_eq_false (by rw [hsz.out]; omega)]; rfl⟩).mono ?_; rintro e w2 ⟨⟨S, hS, rfl, hat⟩, hb2⟩
       have hat' : Keep (sumAt O N n S) := ⟨hat⟩
       obtain ⟨c0, c1, c2, _, _, _, hlt2, hb12⟩ := carry_new hb2
       have hz1' : w.heap.size ≤ w1.heap.size := hb1.size
       have hbw2 : Below w.heap.size w w2 := below_trans hb1 hb12 hz1'
       clear hat hb2 hb12)
    | (go_at_call 75; refine (tsize_any n O Z N hn5 hN.out _).mono ?_; rintro e w4 ⟨rfl, hb4⟩
       have hbw4 : Below w.heap.size w w4 := below_trans hbw2 hb4 hbw2.size
       have hz4 : w.heap.size ≤ w4.heap.size := hbw4.size
       clear hb4 hbw2 c0 c1 c2)
    | (at_make; go_loud (
       refine wpList_make_full _ rfl _ _ 72 rfl w.heap.size 5 i0 (.int .u8 0) 1 ty72 hi hz0 hz1 .i64 .i64 (N : Int) (N : Int) N rfl rfl rfl rfl (by rw [hz2]; omega) (by unfold maxLen; omega) hz4 ?_
       intro w5 hown5 hgrow5
       have hbw5 : Below w.heap.size w w5 := Below.grown hbw4 hgrow5 hz4 (by simp)
       have hGl : Keep (TextAt w5 w4.heap.size N 0 (sumL s n N)) := ⟨text_start hown5⟩
       obtain ⟨G, hGe⟩ : ∃ G, G = w4.heap.size := ⟨_, rfl⟩
       rw [← hGe] at hz4 hGl ⊢
       clear hown5 hgrow5 hbw4 hGe)))
  go_loopw [23] (fun i wr => ∃ p : Nat, p ≤ N ∧ i = .int .i64 p ∧ Keep (TextAt wr G N p (sumL s n N)) ∧ Below w.heap.size w wr) (fun i _ => N - (intOf i).toNat)
  case atStart => exact ⟨0, by omega, rfl, hGl, hbw5⟩
  case round =>
    clear hbw5 hGl
    obtain ⟨p, hp, rfl, htext, hbw⟩ := hrel
    by_cases hpN : p < N
    · obtain ⟨t1, t2⟩ := htext.out p hpN
      rw [if_neg (by omega)] at t1
      have hp32 : p < 32 := by omega
      have hS2 := hat'.out p
      rw [decide_eq_true hpN, Bool.true_and, fb_of hOb.out] at hS2
      have hget := sumL_get (s := s) (n := n) hpN
      cases hr : rnd (fb s) n p
      · rw [hr] at hS2 hget
        have hgk : Keep ((sumL s n N).getD p 0 = 48) := ⟨hget⟩
        clear hget hr
        go_wp2_with (go_at_call 76; refine (has_any S p hS hp32 _).mono ?_; rintro e w6 ⟨rfl, rfl⟩; rw [hS2])
        exact ⟨⟨p + 1, by omega, by go_num, ⟨text_set (b := 48) htext.out hpN hgk.out⟩, below_set hbw (by omega) _⟩, by simp [intOf]; omega⟩
      · rw [hr] at hS2 hget
        have hgk : Keep ((sumL s n N).getD p 0 = 49) := ⟨hget⟩
        clear hget hr
        go_wp2_with (go_at_call 76; refine (has_any S p hS hp32 _).mono ?_; rintro e w6 ⟨rfl, rfl⟩; rw [hS2])
        exact ⟨⟨p + 1, by omega, by go_num, ⟨text_set2 (b := 49) htext.out hpN hgk.out⟩, below_set (below_set hbw (by omega) _) (by omega) _⟩, by simp [intOf]; omega⟩
    · have : p = N := by omega
      subst this
      have hconv := run_convert_bytes_back (P := Tryd.prog) wr 72 9 5 ⟨G, 0, none⟩ p _ ty72 ty5 ty9 (text_done htext.out (sumL_len _ _ _))
      rw [sumL_len] at hconv
      go_wp2
      go_ret2
      exact ⟨rfl, hbw⟩
end Go.Proofs.YtioaaigbpfdjmaaDoor
