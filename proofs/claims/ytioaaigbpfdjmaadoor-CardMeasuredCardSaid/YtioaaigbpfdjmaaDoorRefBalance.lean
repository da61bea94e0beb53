import Derived.Test.YtioaaigbpfdjmaaDoorBalance
set_option linter.unusedSimpArgs false
set_option linter.unusedVariables false
namespace Go.Proofs.YtioaaigbpfdjmaaDoor
open Go Go.Proofs Go.RowKit
theorem tmod_bit (p k : Nat) : ((p : Int) / 2 ^ k).tmod 2 = ((bitN p k : Nat) : Int) := by
  have e1 : ((p : Int) / 2 ^ k) = ((p / 2 ^ k : Nat) : Int) := by push_cast; rfl
  rw [e1]
  unfold bitN
  generalize p / 2 ^ k = y
  rw [Int.tmod_eq_emod_of_nonneg (by omega)]
  omega
theorem made_ints (n : Nat) : (madeCells (Value.int .i64 0).cells (n * 1)).toList.length = n ∧ ∀ j (hj : j < (madeCells (Value.int .i64 0).cells (n * 1)).toList.length), (madeCells (Value.int .i64 0).cells (n * 1)).toList[j] = .int .i64 0 := by
  have e : (Value.int .i64 0).cells = #[.int .i64 0] := rfl
  rw [e]
  refine ⟨by simp [size_madeCells], fun j hj => ?_⟩
  simp [madeCells, Nat.mod_one]
theorem row_cells3 {w : World} {B G n : Nat} {xs : List Value} (h : w.ownsRow B 3 1 (.slice (some ⟨G, 0, none⟩) n n) n xs) (hl : xs.length = n) :
    ∀ j (hj : j < xs.length), w.cell? ⟨G, j, none⟩ = some xs[j] ∧ w.frozen? ⟨G, j, none⟩ = false := by
  intro j hj
  obtain ⟨h1, h2⟩ := h
  rcases h2 with ⟨h3, _⟩ | ⟨g, cap, cur, hv, hg, hh, hn, hcap, hsz, htake⟩
  · cases h3
  · injection hv with hv1 hv2 hv3
    injection hv1 with hv1
    injection hv1 with hv1
    subst hv1
    have : cur[j]? = some xs[j] := by
      have e : (cur.toList.take (n * 1))[j]? = xs[j]? := by rw [htake]
      rw [List.getElem?_take_of_lt (by omega), List.getElem?_eq_getElem hj] at e
      rw [← Array.getElem?_toList, e]
    constructor
    · simp [World.cell?, hh, this]
    · simp [World.frozen?, hh]
theorem row_start {w : World} {B G n : Nat} (h : w.ownsRow B 3 1 (.slice (some ⟨G, 0, none⟩) n n) n (madeCells (Value.int .i64 0).cells (n * 1)).toList) : RowAt w G n (fun _ => 0) := by
  intro j hj
  obtain ⟨m1, m2⟩ := made_ints n
  have hj' : j < (madeCells (Value.int .i64 0).cells (n * 1)).toList.length := by omega
  obtain ⟨c1, c2⟩ := row_cells3 h m1 j hj'
  rw [m2 j hj'] at c1
  exact ⟨c1, c2⟩
def diffS (a b : List Int) (k m : Nat) : Int := (bitSum (a.take k) m : Int) - (bitSum (b.take k) m : Int)
def diffTo (a b : List Int) (k i : Nat) (m : Nat) : Int := if m < i then diffS a b (k + 1) m else diffS a b k m
theorem diffTo_zero (a b : List Int) (k : Nat) : diffTo a b k 0 = diffS a b k := by funext m; simp [diffTo]
theorem all_push {p : Int → Bool} {zs : List Int} {k : Nat} (h : k < zs.length) (h1 : (zs.take k).all p = true) (h2 : p (zs.getD k 0) = true) : (zs.take (k + 1)).all p = true := by
  rw [takez h, List.all_append, h1, List.all_cons, h2]; rfl
theorem bal_bad {s : ByteArray} {a b : List Int} {k : Nat} (hl : a.length = b.length) (hk : k < a.length) (h : ¬ (ptB s 49 (a.getD k 0) = true ∧ ptB s 48 (b.getD k 0) = true)) : balB s a b = false := by
  have hk2 : k < b.length := by omega
  cases h1 : ptB s 49 (a.getD k 0)
  · have : a.all (ptB s 49) = false := by rw [List.all_eq_false]; exact ⟨_, getz hk, by rw [h1]; simp⟩
    unfold balB; rw [this]; simp
  · cases h2 : ptB s 48 (b.getD k 0)
    · have : b.all (ptB s 48) = false := by rw [List.all_eq_false]; exact ⟨_, getz hk2, by rw [h2]; simp⟩
      unfold balB; rw [this]; simp
    · exact absurd ⟨h1, h2⟩ h
theorem pt_lt {s : ByteArray} {c : UInt8} {a : List Int} (h : a.all (ptB s c) = true) : ∀ z ∈ a, 0 ≤ z ∧ z < s.size := by
  intro z hz
  have := List.all_eq_true.1 h z hz
  unfold ptB at this
  rw [Bool.and_eq_true] at this
  simpa using this.1
theorem bitSum_high {s : ByteArray} {c : UInt8} {n m : Nat} (hs : s.size = 2 ^ n) (hm : n ≤ m) : ∀ {a : List Int}, a.all (ptB s c) = true → bitSum a m = 0
  | [], _ => rfl
  | z :: l, h => by
    have h0 := pt_lt h z (by simp)
    have hl : l.all (ptB s c) = true := by rw [List.all_cons, Bool.and_eq_true] at h; exact h.2
    have ih := bitSum_high hs hm hl
    have hb : bitN z.toNat m = 0 := by
      unfold bitN
      have h2 : 2 ^ n ≤ 2 ^ m := Nat.pow_le_pow_right (by decide) hm
      rw [Nat.div_eq_of_lt (by omega)]
    simp only [bitSum, List.map_cons, List.sum_cons] at ih ⊢
    omega
theorem cnt_short {s : ByteArray} {a b : List Int} {n : Nat} (hs : s.size = 2 ^ n) (hn : n ≤ 5) (ha : a.all (ptB s 49) = true) (hb : b.all (ptB s 48) = true) : cntB a b = (List.range n).all fun k => bitSum a k == bitSum b k := by
  unfold cntB
  rw [Bool.eq_iff_iff, List.all_eq_true, List.all_eq_true]
  constructor
  · intro h k hk
    exact h k (by rw [List.mem_range] at hk ⊢; omega)
  · intro h k hk
    by_cases hkn : k < n
    · exact h k (by rw [List.mem_range]; exact hkn)
    · rw [bitSum_high hs (by omega) ha, bitSum_high hs (by omega) hb]; rfl
set_option maxHeartbeats 1000000 in
set_option maxRecDepth 100000 in
theorem refBal_no {s : ByteArray} {v : Value} {ls : List (List Int)} {w : World} (hv : ListsAt w v ls) (hne : ls.length ≠ 2) :
    Calls Tryd.prog 45 #[.string s, v] w fun e w' => e = .returned (.bool false) ∧ Below w.heap.size w w' := by
  obtain ⟨A, cap, rfl, hc⟩ := hv
  have hneB : ((ls.length : Int) != 2) = true := by simp; omega
  clear hc hne
  go_enter Tryd.func45, Tryd.ntmps45
  go_wp2
  go_quiet (fail)
  go_wp2
  go_ret
  exact ⟨rfl, below_drewN (Below.refl _ _) _⟩
set_option maxHeartbeats 4000000 in
set_option maxRecDepth 100000 in
theorem refBal_two {s : ByteArray} {v : Value} {a b : List Int} {w : World} {n : Nat} (h40 : s.size ≤ 40) (hn : Keep (varsOf s = n)) (hn1 : 1 ≤ n) (hn5 : n ≤ 5) (hsz : Keep (s.size = 2 ^ n)) (hv : ListsAt w v [a, b]) (hla : a.length ≤ 1001) (hlb : b.length ≤ 1001) :
    Calls Tryd.prog 45 #[.string s, v] w fun e w' => e = .returned (.bool (balB s a b)) ∧ Below w.heap.size w w' := by
  obtain ⟨i0, hi, hz0, hz1, hz2⟩ := info_parts info3
  obtain ⟨A, cap, rfl, hc⟩ := hv
  obtain ⟨g, u0, rfl, hg0, hu0, _⟩ := hc 0 (by simp)
  obtain ⟨g', u1, hA, hg1, hu1, _⟩ := hc 1 (by simp)
  obtain rfl : g = g' := by injection hA with h; injection h
  simp only [List.getD_cons_zero, List.getD_cons_succ, List.length_cons, List.length_nil, Nat.zero_add, Nat.reduceAdd] at hg0 hg1 hu0 hu1 ⊢
  obtain ⟨A0, cap0, rfl, hc0⟩ := hu0
  obtain ⟨A1, cap1, rfl, hc1⟩ := hu1
  clear hc hA
  by_cases hlen : (a.length : Int) = (b.length : Int)
  · have hlB : ((a.length : Int) != (b.length : Int)) = false := by simpa using hlen
    have hlk : Keep (a.length = b.length) := ⟨by omega⟩
    clear hlen
    by_cases h1 : a.length < 1
    · have hbad : Keep (balB s a b = false) := ⟨by
        unfold balB; have : ¬ (1 ≤ a.length) := by omega
        simp [this]⟩
      have hd1 : decide ((a.length : Int) < 1) = true := by rw [decide_eq_true_iff]; omega
      go_enter Tryd.func45, Tryd.ntmps45
      go_wp2
      go_quiet (fail)
      go_wp2
      go_ret
      exact ⟨by rw [hbad.out]; rfl, below_drewN (Below.refl _ _) _⟩
    · by_cases h2 : 1000 < a.length
      · have hbad : Keep (balB s a b = false) := ⟨by
          unfold balB; have : ¬ (a.length ≤ 1000) := by omega
          simp [this]⟩
        have hd1 : decide ((a.length : Int) < 1) = false := by rw [decide_eq_false_iff_not]; omega
        have hd2 : decide (1000 < (a.length : Int)) = true := by rw [decide_eq_true_iff]; omega
        go_enter Tryd.func45, Tryd.ntmps45
        go_wp2
        go_quiet (fail)
        go_wp2
        go_ret
        exact ⟨by rw [hbad.out]; rfl, below_drewN (Below.refl _ _) _⟩
      · have hgood : Keep (balB s a b = (a.all (ptB s 49) && b.all (ptB s 48) && cntB a b)) := ⟨by
          unfold balB; have h3 : a.length ≤ 1000 := by omega
          have h4 : 1 ≤ a.length := by omega
          rw [decide_eq_true ⟨hlk.out, h4, h3⟩, Bool.true_and]⟩
        have hd1 : decide ((a.length : Int) < 1) = false := by rw [decide_eq_false_iff_not]; omega
        have hd2 : decide (1000 < (a.length : Int)) = false := by rw [decide_eq_false_iff_not]; omega
        obtain ⟨bv, hbv⟩ : ∃ x, Keep (balB s a b = x) := ⟨_, ⟨rfl⟩⟩
        rw [hbv.out]
        go_enter Tryd.func45, Tryd.ntmps45
        go_wp2
        go_quiet (fail)
        go_wp2_with (first
          | (go_at_call 19; refine (vars_any s h40 _).mono ?_; rintro e w ⟨rfl, rfl⟩; rw [hn.out])
          | (at_make; go_loud (
             refine wpList_make_full _ rfl _ _ 27 rfl w.heap.size 3 i0 (.int .i64 0) 1 ty27 hi hz0 hz1 .i64 .i64 (n : Int) (n : Int) n rfl rfl rfl rfl (by rw [hz2]; omega) (by unfold maxLen; omega) (by simp) ?_
             intro w5 hown5 hgrow5
             have hbw5 : Below w.heap.size w w5 := Below.grown (below_drewN (Below.refl _ _) _) hgrow5 (by simp) (by simp)
             have hG : w.heap.size ≤ (w.drewN nq).heap.size := by simp
             have hGl : Keep (RowAt w5 (w.drewN nq).heap.size n (fun _ => 0)) := ⟨row_start hown5⟩
             obtain ⟨G, hGe⟩ : ∃ G, G = (w.drewN nq).heap.size := ⟨_, rfl⟩
             rw [← hGe] at hG hGl ⊢
             clear hown5 hgrow5 hGe)))
        clear hd1 hd2
        go_loopw [7] (fun i wr => ∃ k : Nat, k ≤ a.length ∧ i = .int .i64 k ∧ Keep (RowAt wr G n (diffS a b k)) ∧ Keep ((a.take k).all (ptB s 49) = true ∧ (b.take k).all (ptB s 48) = true) ∧ Below w.heap.size w wr) (fun i _ => a.length - (intOf i).toNat)
        case atStart => exact ⟨0, by omega, rfl, ⟨by
          have e : diffS a b 0 = fun _ => 0 := by funext m; simp [diffS, bitSum]
          rw [e]; exact hGl.out⟩, ⟨by simp⟩, hbw5⟩
        case round =>
          clear hbw5 hGl
          obtain ⟨k, hk, rfl, hrow, hall, hbw⟩ := hrel
          have hga := cell_below hg0 hbw
          have hgb := cell_below hg1 hbw
          by_cases hlt : k < a.length
          · have hlt2 : k < b.length := by rw [← hlk.out]; exact hlt
            obtain ⟨ga, rfl, hx⟩ := hc0 k hlt
            obtain ⟨gb, rfl, hy⟩ := hc1 k hlt2
            have hxr := cell_below hx hbw
            have hyr := cell_below hy hbw
            obtain ⟨x, hxe⟩ : ∃ x, Keep (a.getD k 0 = x) := ⟨_, ⟨rfl⟩⟩
            obtain ⟨y, hye⟩ : ∃ x, Keep (b.getD k 0 = x) := ⟨_, ⟨rfl⟩⟩
            rw [hxe.out] at hxr
            rw [hye.out] at hyr
            have hbad : Keep (¬ (ptB s 49 x = true ∧ ptB s 48 y = true) → bv = false) := ⟨fun h => by
              rw [← hbv.out]
              exact bal_bad hlk.out hlt (by rw [hxe.out, hye.out]; exact h)⟩
            by_cases hx0 : x < 0
            · have hD : bv = false := hbad.out (fun h => by have := h.1; unfold ptB at this; rw [Bool.and_eq_true] at this; have := of_decide_eq_true this.1; omega)
              subst hD
              go_wp2
              go_quiet (fail)
              go_wp2
              go_ret
              exact ⟨rfl, below_drewN hbw _⟩
            · by_cases hx1 : (s.size : Int) ≤ x
              · have hD : bv = false := hbad.out (fun h => by have := h.1; unfold ptB at this; rw [Bool.and_eq_true] at this; have := of_decide_eq_true this.1; omega)
                subst hD
                go_wp2
                go_quiet (fail)
                go_wp2
                go_ret
                exact ⟨rfl, below_drewN hbw _⟩
              · by_cases hy0 : y < 0
                · have hD : bv = false := hbad.out (fun h => by have := h.2; unfold ptB at this; rw [Bool.and_eq_true] at this; have := of_decide_eq_true this.1; omega)
                  subst hD
                  go_wp2
                  go_quiet (fail)
                  go_wp2
                  go_ret
                  exact ⟨rfl, below_drewN hbw _⟩
                · by_cases hy1 : (s.size : Int) ≤ y
                  · have hD : bv = false := hbad.out (fun h => by have := h.2; unfold ptB at this; rw [Bool.and_eq_true] at this; have := of_decide_eq_true this.1; omega)
                    subst hD
                    go_wp2
                    go_quiet (fail)
                    go_wp2
                    go_ret
                    exact ⟨rfl, below_drewN hbw _⟩
                  · obtain ⟨p, rfl⟩ : ∃ p : Nat, x = (p : Int) := ⟨x.toNat, by omega⟩
                    obtain ⟨q, rfl⟩ : ∃ q : Nat, y = (q : Int) := ⟨y.toNat, by omega⟩
                    have hps : p < s.size := by omega
                    have hqs : q < s.size := by omega
                    have hpB : ptB s 49 (p : Int) = (s[p] == 49) := by
                      unfold ptB
                      have : (0 : Int) ≤ p ∧ (p : Int) < s.size := by omega
                      rw [decide_eq_true this, Bool.true_and, Int.toNat_natCast, getD_at hps]
                    have hqB : ptB s 48 (q : Int) = (s[q] == 48) := by
                      unfold ptB
                      have : (0 : Int) ≤ q ∧ (q : Int) < s.size := by omega
                      rw [decide_eq_true this, Bool.true_and, Int.toNat_natCast, getD_at hqs]
                    by_cases hc1 : (s[p].toNat : Int) = 49
                    · by_cases hc2 : (s[q].toNat : Int) = 48
                      · have hgd : Keep (ptB s 49 (a.getD k 0) = true ∧ ptB s 48 (b.getD k 0) = true) := ⟨by rw [hxe.out, hpB, u8_of (n := 49) (by omega) hc1]; rfl, by rw [hye.out, hqB, u8_of (n := 48) (by omega) hc2]; rfl⟩
                        have e1 : decide ((p : Int) < 0) = false := by rw [decide_eq_false_iff_not]; omega
                        have e2 : decide (s.size ≤ p) = false := by rw [decide_eq_false_iff_not]; omega
                        have e3 : decide ((q : Int) < 0) = false := by rw [decide_eq_false_iff_not]; omega
                        have e4 : decide (s.size ≤ q) = false := by rw [decide_eq_false_iff_not]; omega
                        clear hpB hqB hbad
                        go_wp2
                        go_quiet (fail)
                        go_wp2
                        clear hc1 hc2 hx0 hx1 hy0 hy1 hps hqs e1 e2 e3 e4
                        go_loopw [10] (fun i w3 => ∃ m : Nat, m ≤ n ∧ i = .int .i64 m ∧ Keep (RowAt w3 G n (diffTo a b k m)) ∧ Below w.heap.size w w3) (fun i _ => n - (intOf i).toNat)
                        case atStart => exact ⟨0, by omega, rfl, ⟨by rw [diffTo_zero]; exact row_below hrow.out (below_drewN (Below.refl _ _) _)⟩, below_drewN hbw _⟩
                        case round =>
                          clear hrow hbw hga hgb hxr hyr
                          obtain ⟨m, hm, rfl, hrow, hbw⟩ := hrel
                          by_cases hmn : m < n
                          · obtain ⟨c1, c2⟩ := hrow.out m hmn
                            have hle : -1001 ≤ diffTo a b k m m ∧ diffTo a b k m m ≤ 1001 := by
                              have h1 := bitSum_le m (a.take k)
                              have h2 := bitSum_le m (b.take k)
                              rw [List.length_take] at h1 h2
                              unfold diffTo diffS
                              rw [if_neg (by omega)]
                              omega
                            have hnext : Keep (diffS a b (k + 1) m = diffTo a b k m m + bitN p m - bitN q m) := ⟨by
                              unfold diffTo diffS
                              rw [if_neg (by omega), sum_take hlt, sum_take hlt2, hxe.out, hye.out, Int.toNat_natCast, Int.toNat_natCast]
                              push_cast
                              omega⟩
                            generalize diffTo a b k m m = c at c1 hle hnext
                            obtain ⟨hle1, hle2⟩ := hle
                            have hb1 := tmod_bit p m
                            have hb2 := tmod_bit q m
                            have hb3 : (bitN p m : Int) ≤ 1 := by rcases bitN_two p m with h | h <;> omega
                            have hb4 : (bitN q m : Int) ≤ 1 := by rcases bitN_two q m with h | h <;> omega
                            generalize bitN p m = d1 at hb1 hnext hb3
                            generalize bitN q m = d2 at hb2 hnext hb4
                            have hs1 : IntKind.i64.wrap (c + d1) = c + d1 := by rw [IntKind.wrap_i64]; omega
                            have hs2 : IntKind.i64.wrap (c + d1 - d2) = c + d1 - d2 := by rw [IntKind.wrap_i64]; omega
                            go_wp2
                            go_region_with (fail)
                            all_goals go_wp2
                            clear hs1 hs2
                            refine ⟨⟨m + 1, by omega, by go_num, ⟨?_⟩, ?_⟩, by simp [intOf]; omega⟩
                            · refine row_below (row_set hrow.out hmn (by unfold diffTo; rw [if_pos (by omega), hnext.out]) (fun j hj hne => ?_)) (below_drewN (Below.refl _ _) 1)
                              unfold diffTo
                              by_cases h : j < m
                              · rw [if_pos h, if_pos (by omega)]
                              · rw [if_neg h, if_neg (by omega)]
                            · exact below_drewN (below_set hbw (by omega) _) 1
                          · have : m = n := by omega
                            subst this
                            go_wp2
                            refine ⟨⟨k + 1, by omega, by go_num, ⟨fun j hj => ?_⟩, ⟨all_push hlt hall.out.1 hgd.out.1, all_push hlt2 hall.out.2 hgd.out.2⟩, hbw⟩, by simp [intOf]; omega⟩
                            have := hrow.out j hj
                            unfold diffTo at this
                            rw [if_pos hj] at this
                            exact this
                      · have hD : bv = false := hbad.out (fun h => by
                          have h2 := h.2
                          rw [hqB, beq_iff_eq] at h2
                          rw [h2] at hc2; exact hc2 rfl)
                        have hc2B : ((s[q].toNat : Int) != 48) = true := by simpa using hc2
                        subst hD
                        clear hpB hqB
                        go_wp2
                        go_quiet (fail)
                        go_wp2
                        go_ret
                        exact ⟨rfl, below_drewN hbw _⟩
                    · have hD : bv = false := hbad.out (fun h => by
                        have h2 := h.1
                        rw [hpB, beq_iff_eq] at h2
                        rw [h2] at hc1; exact hc1 rfl)
                      subst hD
                      clear hpB hqB
                      go_wp2
                      go_quiet (fail)
                      go_wp2
                      go_ret
                      exact ⟨rfl, below_drewN hbw _⟩
          · have : k = a.length := by omega
            subst this
            have ha : (a.take a.length).all (ptB s 49) = true := hall.out.1
            have hb : (b.take a.length).all (ptB s 48) = true := hall.out.2
            rw [List.take_length] at ha
            rw [hlk.out, List.take_length] at hb
            have hfin : Keep (bv = (List.range n).all fun k => bitSum a k == bitSum b k) := ⟨by
              rw [← hbv.out, hgood.out, ha, hb, cnt_short hsz.out hn5 ha hb]; rfl⟩
            have hrow2 : Keep (RowAt wr G n (fun m => (bitSum a m : Int) - (bitSum b m : Int))) := ⟨by
              have := hrow.out
              unfold diffS at this
              rw [List.take_length] at this
              rw [hlk.out, List.take_length] at this
              exact this⟩
            clear ha hb hall hrow hbv hgood
            go_wp2
            go_loop [11] (fun i => ∃ m : Nat, m ≤ n ∧ i = .int .i64 m ∧ Keep (((List.range m).all fun k => bitSum a k == bitSum b k) = true)) (fun i => n - (intOf i).toNat)
            case atStart => exact ⟨0, by omega, rfl, ⟨rfl⟩⟩
            case round =>
              obtain ⟨m, hm, rfl, hall⟩ := hrel
              by_cases hmn : m < n
              · obtain ⟨c1, _⟩ := hrow2.out m hmn
                dsimp only at c1
                by_cases he : bitSum a m = bitSum b m
                · have hnext : Keep (((List.range (m + 1)).all fun k => bitSum a k == bitSum b k) = true) := ⟨by
                    rw [List.range_succ, List.all_append, hall.out]; simp [he]⟩
                  have e0 : (bitSum a m : Int) - (bitSum b m : Int) = 0 := by omega
                  rw [e0] at c1
                  clear e0 he
                  go_wp2
                  exact ⟨⟨m + 1, by omega, by go_num, hnext⟩, by simp [intOf]; omega⟩
                · have hD : bv = false := by
                    rw [hfin.out, List.all_eq_false]
                    exact ⟨m, by rw [List.mem_range]; exact hmn, by simpa using he⟩
                  obtain ⟨z, hz⟩ : ∃ z, Keep ((bitSum a m : Int) - (bitSum b m : Int) = z) := ⟨_, ⟨rfl⟩⟩
                  have hz0 : (z != 0) = true := by rw [← hz.out]; simp; omega
                  rw [hz.out] at c1
                  subst hD
                  clear he
                  go_wp2
                  go_ret
                  exact ⟨rfl, hbw⟩
              · have : m = n := by omega
                subst this
                have hD : bv = true := by rw [hfin.out, hall.out]
                subst hD
                go_wp2
                go_ret
                exact ⟨rfl, hbw⟩
  · have hlB : ((a.length : Int) != (b.length : Int)) = true := by simpa using hlen
    have hbad : Keep (balB s a b = false) := ⟨by
      unfold balB; have : ¬ a.length = b.length := by omega
      simp [this]⟩
    clear hlen
    go_enter Tryd.func45, Tryd.ntmps45
    go_wp2
    go_quiet (fail)
    go_wp2
    go_ret
    exact ⟨by rw [hbad.out]; rfl, below_drewN (Below.refl _ _) _⟩
end Go.Proofs.YtioaaigbpfdjmaaDoor
