import Derived.Test.YtioaaigbpfdjmaaDoorWeigh
import Derived.Test.YtioaaigbpfdjmaaDoorTurn
set_option linter.unusedSimpArgs false
set_option linter.unusedVariables false
namespace Go.Proofs.YtioaaigbpfdjmaaDoor
open Go Go.Proofs Go.RowKit
/-- The weights are right at a point. -/
def rightAt (s : ByteArray) (zs : List Int) (n p : Nat) : Bool := decide (zs.getD n 0 ≤ sumW p zs n) == (s.data.toList.getD p 0 == 49)
def okReal (s : ByteArray) (zs : List Int) (n : Nat) : Bool := (List.range s.size).all (rightAt s zs n)
def realV (s : ByteArray) (zs : List Int) (n : Nat) : Int := if smallW zs then (if okReal s zs n then 0 else 10) else 2
def realE (s : ByteArray) (zs : List Int) (n : Nat) : Int := if n = 0 then 2 else if zs.length = n + 1 ∧ smallW zs = true then (if okReal s zs n then 0 else 10) else 2
theorem tot_size {s : ByteArray} {n : Nat} (hn : totOf s = n) (h0 : n ≠ 0) : s.size = 2 ^ n ∧ n ≤ 5 ∧ varsOf s = n := by
  have hv : varsOf s = n := by
    unfold totOf at hn
    split at hn
    · exact absurd hn.symm h0
    · exact hn
  have h1 := (varsOf_size (s := s) (by rw [hv]; exact h0)).1
  rw [hv] at h1
  exact ⟨h1, by rw [← hv]; exact varsOf_le s, hv⟩
set_option maxRecDepth 100000 in
theorem realize_no0 {s : ByteArray} {v : Value} {w : World} (h40 : s.size ≤ 40) (hn : totOf s = 0) :
    Calls Tryd.prog 44 #[.string s, v] w fun e w' => e = .returned (.int .i64 2) ∧ Below w.heap.size w w' := by
  have hnk : Keep (totOf s = 0) := ⟨hn⟩
  clear hn
  go_enter Tryd.func44, Tryd.ntmps44
  go_wp2_with (go_at_call 73; refine (total_any s h40 _).mono ?_; rintro e w1 ⟨⟨O, Z, hO, hZ, rfl, hOZ⟩, hb1⟩; rw [hnk.out])
  go_ret
  exact ⟨rfl, hb1.alloc hb1.size _⟩
set_option maxRecDepth 100000 in
theorem realize_no1 {s : ByteArray} {v : Value} {zs : List Int} {w : World} {n : Nat} (h40 : s.size ≤ 40) (hn : Keep (totOf s = n)) (h0 : n ≠ 0) (hn5 : n ≤ 5) (hv : IntsAt w v zs) (hl : zs.length ≤ 1001) (hne : ¬ ((zs.length : Int) = (n : Int) + 1)) :
    Calls Tryd.prog 44 #[.string s, v] w fun e w' => e = .returned (.int .i64 2) ∧ Below w.heap.size w w' := by
  have hd : decide (n ≠ 0) = true := decide_eq_true h0
  obtain ⟨A, cap, rfl, hc⟩ := hv
  clear h0 hc
  go_enter Tryd.func44, Tryd.ntmps44
  go_wp2_with (go_at_call 73; refine (total_any s h40 _).mono ?_; rintro e w1 ⟨⟨O, Z, hO, hZ, rfl, hOZ⟩, hb1⟩; rw [hn.out, hd])
  go_ret
  exact ⟨rfl, hb1.alloc hb1.size _⟩
set_option maxHeartbeats 1000000 in
set_option maxRecDepth 100000 in
theorem realize_yes {s : ByteArray} {v : Value} {zs : List Int} {w : World} {n N : Nat} (h40 : s.size ≤ 40) (hn : Keep (totOf s = n)) (h0 : n ≠ 0) (hn5 : n ≤ 5) (hN : Keep (N = 2 ^ n)) (hN32 : N ≤ 32) (hsz : Keep (s.size = N)) (hv : IntsAt w v zs) (hcap : CapOK v) (hl : Keep (zs.length = n + 1)) :
    Calls Tryd.prog 44 #[.string s, v] w fun e w' => e = .returned (.int .i64 (realV s zs n)) ∧ Below w.heap.size w w' := by
  have hd : decide (n ≠ 0) = true := decide_eq_true h0
  have htot : Keep (totOf s ≠ 0) := ⟨by rw [hn.out]; exact h0⟩
  have hvk : Keep (IntsAt w v zs) := ⟨hv⟩
  obtain ⟨A, cap, rfl, hc⟩ := hv
  rw [hl.out] at hc hvk hcap ⊢
  clear h0
  go_enter Tryd.func44, Tryd.ntmps44
  go_wp2_with (go_at_call 73; refine (total_any s h40 _).mono ?_; rintro e w1 ⟨⟨O, Z, hO, hZ, rfl, hOZ⟩, hb1⟩; rw [hn.out, hd])
  have hO1 : Keep (charB s 49 O s.size) := ⟨(hOZ htot.out).1⟩
  clear hOZ
  go_loop [27] (fun i => ∃ k : Nat, k ≤ n + 1 ∧ i = .int .i64 k ∧ smallW (zs.take k) = true) (fun i => n + 1 - (intOf i).toNat)
  case atStart => exact ⟨0, by omega, rfl, rfl⟩
  case round =>
    obtain ⟨k, hk, rfl, hall⟩ := hrel
    by_cases hlt : k < n + 1
    · have hlt' : k < zs.length := by rw [hl.out]; exact hlt
      obtain ⟨g, rfl, hg⟩ := hc k hlt
      have hgr := cell_below hg (hb1.alloc hb1.size _ : Below w.heap.size w (w1.alloc (.cells #[.int .i64 n, .int .u32 O, .int .u32 Z] 79)))
      obtain ⟨z, hz⟩ : ∃ z, Keep (zs.getD k 0 = z) := ⟨_, ⟨rfl⟩⟩
      rw [hz.out] at hgr
      have hbad : ¬ (-1000000 ≤ z ∧ z ≤ 1000000) → smallW zs = false := fun h => by
        unfold smallW
        rw [List.all_eq_false]
        exact ⟨_, getz hlt', by rw [hz.out]; simpa using h⟩
      by_cases h0 : z < -1000000
      · have hD : Keep (smallW zs = false) := ⟨hbad (by omega)⟩
        clear hbad
        go_wp2
        go_ret
        exact ⟨by unfold realV; rw [hD.out]; rfl, hb1.alloc hb1.size _⟩
      · by_cases h1 : 1000000 < z
        · have hD : Keep (smallW zs = false) := ⟨hbad (by omega)⟩
          clear hbad
          go_wp2
          go_ret
          exact ⟨by unfold realV; rw [hD.out]; rfl, hb1.alloc hb1.size _⟩
        · clear hbad
          have hnext : Keep (smallW (zs.take (k + 1)) = true) := ⟨by
            unfold smallW at hall ⊢
            rw [takez hlt', List.all_append, hall, hz.out]
            simp
            omega⟩
          go_wp2
          exact ⟨⟨k + 1, by omega, by go_num, hnext.out⟩, by simp [intOf]; omega⟩
    · have : k = n + 1 := by omega
      subst this
      rw [← hl.out, List.take_length] at hall
      have hD : Keep (smallW zs = true) := ⟨hall⟩
      clear hall hc
      have hz1 : w.heap.size ≤ w1.heap.size := hb1.size
      go_wp2_with (go_at_call 75; refine (tsize_any n O Z N hn5 hN.out _).mono ?_; rintro e w4 ⟨rfl, hb4⟩
                   obtain ⟨c0, c1, c2, y0, y1, y2, hz4, hb14⟩ := carry_new hb4
                   have hbw4 : Below w.heap.size w w4 := below_trans hb1 hb14 hz1
                   clear hb4)
      go_loopw [40] (fun i wr => ∃ p d : Nat, p ≤ N ∧ i = .int .i64 p ∧ wr = w4.drewN d ∧ Keep ((List.range p).all (rightAt s zs n) = true)) (fun i _ => N - (intOf i).toNat)
      case atStart => exact ⟨0, 0, by omega, rfl, rfl, ⟨rfl⟩⟩
      case round =>
        obtain ⟨p, d, hp, rfl, rfl, hall⟩ := hrel
        by_cases hpN : p < N
        · have hiw : Keep (∀ k, IntsAt (w4.drewN k) (.slice A (n + 1) cap) zs) := ⟨fun k => ints_below hvk.out (below_drewN hbw4 k)⟩
          have hp32 : p < 32 := by omega
          obtain ⟨b1, hb1e⟩ : ∃ b, Keep (decide (zs.getD n 0 ≤ sumW p zs n) = b) := ⟨_, ⟨rfl⟩⟩
          obtain ⟨b2, hb2e⟩ : ∃ b, Keep (O.testBit p = b) := ⟨_, ⟨rfl⟩⟩
          have hright : Keep (rightAt s zs n p = (b1 == b2)) := ⟨by
            have h := hO1.out p
            rw [hb2e.out, hsz.out] at h
            unfold rightAt
            rw [hb1e.out, h]
            simp [hpN]⟩
          have hreach : ∀ k, Calls Tryd.prog 86 #[.slice A (n + 1) cap, .int .i64 p] (w4.drewN (d + k)) fun e w' => e = .returned (.bool b1) ∧ ∃ m, w' = w4.drewN (d + m) := fun k => by
            have h := reaches_any (hiw.out (d + k)) hcap hl hn5 hp32 hD.out
            rw [hb1e.out] at h
            exact h.mono fun e w' ⟨h1, h2⟩ => ⟨h1, k, h2⟩
          have hhas : ∀ k, Calls Tryd.prog 76 #[.int .u32 O, .int .i64 p] (w4.drewN (d + k)) fun e w' => e = .returned (.bool b2) ∧ ∃ m, w' = w4.drewN (d + m) := fun k => by
            have h := has_any O p hO hp32 (w4.drewN (d + k))
            rw [hb2e.out] at h
            exact h.mono fun e w' ⟨h1, h2⟩ => ⟨h1, k, h2⟩
          go_wp2
          go_quiet (first
            | (go_at_call 86; exact hreach _)
            | (go_at_call 76; exact hhas _))
          clear hreach hhas
          cases hb : (b1 == b2)
          · have hne : ¬ b1 = b2 := fun h => by rw [h] at hb; simp at hb
            have hbad : Keep (okReal s zs n = false) := ⟨by
              unfold okReal
              rw [List.all_eq_false]
              exact ⟨p, by rw [List.mem_range, hsz.out]; exact hpN, by rw [hright.out, hb]; simp⟩⟩
            go_wp2
            go_ret
            refine ⟨?_, below_drewN (below_drewN hbw4 d) _⟩
            unfold realV
            rw [hD.out, hbad.out]; rfl
          · have he : b1 = b2 := by simpa using hb
            subst he
            go_wp2
            refine ⟨⟨p + 1, _, by omega, by go_num, rfl, ⟨?_⟩⟩, by simp [intOf]; omega⟩
            rw [List.range_succ, List.all_append, hall.out]
            simp [hright.out]
        · have : p = N := by omega
          subst this
          go_wp2
          go_ret
          refine ⟨?_, below_drewN hbw4 d⟩
          have : okReal s zs n = true := by unfold okReal; rw [hsz.out]; exact hall.out
          unfold realV
          rw [hD.out, this]; rfl
theorem mul_bit (m z : Int) (b : Nat) (hb : b = 0 ∨ b = 1) (h1 : -5000000 ≤ m ∧ m ≤ 5000000) (h2 : -1000000 ≤ z ∧ z ≤ 1000000) : wrap64 (m + wrap64 (z * (b : Int))) = m + z * (b : Int) := by
  unfold wrap64
  rcases hb with rfl | rfl <;> simp <;> omega
set_option maxHeartbeats 1000000 in
set_option maxRecDepth 100000 in
theorem refRealize_any {s : ByteArray} {v : Value} {zs : List Int} {w : World} {n N : Nat} (h40 : s.size ≤ 40) (hn : Keep (varsOf s = n)) (hn5 : n ≤ 5) (hN32 : N ≤ 32) (hsz : Keep (s.size = N)) (hv : IntsAt w v zs) (hl : Keep (zs.length = n + 1)) (hs : smallW zs = true) :
    Calls Tryd.prog 43 #[.string s, v] w fun e w' => e = .returned (.bool (okReal s zs n)) ∧ Below w.heap.size w w' := by
  obtain ⟨A, cap, rfl, hc⟩ := hv
  rw [hl.out] at hc ⊢
  have hsum : Keep (∀ p k, k ≤ n → -5000000 ≤ sumW p zs k ∧ sumW p zs k ≤ 5000000) := ⟨fun p k hk => by
    have := sumW_le p hs k (by have := hl.out; omega)
    omega⟩
  have hsm : Keep (∀ k, k < n + 1 → -1000000 ≤ zs.getD k 0 ∧ zs.getD k 0 ≤ 1000000) := ⟨fun k hk => small_get hs (by have := hl.out; omega)⟩
  obtain ⟨g, rfl, hgn⟩ := hc n (by omega)
  have hc' : Keep (∀ k, k < n + 1 → w.cell? ⟨g, k, none⟩ = some (.int .i64 (zs.getD k 0))) := ⟨fun k hk => by
    obtain ⟨g', h1, h2⟩ := hc k hk
    obtain rfl : g = g' := by injection h1 with h; injection h
    exact h2⟩
  clear hc hgn
  go_enter Tryd.func43, Tryd.ntmps43
  go_wp2_with (go_at_call 19; refine (vars_any s h40 _).mono ?_; rintro e w ⟨rfl, rfl⟩; rw [hn.out])
  go_loopw [6] (fun i wr => ∃ p d : Nat, p ≤ N ∧ i = .int .i64 p ∧ wr = w.drewN d ∧ Keep ((List.range p).all (rightAt s zs n) = true)) (fun i _ => N - (intOf i).toNat)
  case atStart => exact ⟨0, 0, by omega, rfl, rfl, ⟨rfl⟩⟩
  case round =>
    obtain ⟨p, d, hp, rfl, rfl, hall⟩ := hrel
    by_cases hpN : p < N
    · have hps : p < s.size := by rw [hsz.out]; exact hpN
      go_wp2
      go_loopw [7, 8] (fun a i w4 => ∃ (k e : Nat) (m : Int), k ≤ n ∧ i = .int .i64 k ∧ a = .int .i64 m ∧ Keep (m = sumW p zs k) ∧ w4 = w.drewN e) (fun _ i _ => n - (intOf i).toNat)
      case atStart => exact ⟨0, d, 0, by omega, rfl, rfl, ⟨rfl⟩, rfl⟩
      case round =>
        obtain ⟨k, e, m, hk, rfl, rfl, hm, rfl⟩ := hrel
        by_cases hkn : k < n
        · have hg := hc'.out k (by omega)
          have hz6 := hsm.out k (by omega)
          have hmb := hsum.out p k (by omega)
          rw [← hm.out] at hmb
          obtain ⟨z, hz⟩ : ∃ z, Keep (zs.getD k 0 = z) := ⟨_, ⟨rfl⟩⟩
          rw [hz.out] at hg hz6
          have hmul := mul_bit m z (bitN p k) (bitN_two p k) hmb hz6
          have hbit : ((p : Int) / 2 ^ k).tmod 2 = ((bitN p k : Nat) : Int) := by
            have e1 : ((p : Int) / 2 ^ k) = ((p / 2 ^ k : Nat) : Int) := by push_cast; rfl
            rw [e1]
            unfold bitN
            generalize p / 2 ^ k = y
            rw [Int.tmod_eq_emod_of_nonneg (by omega)]
            omega
          have hnext : Keep (sumW p zs (k + 1) = m + z * (bitN p k : Nat)) := ⟨by rw [sumW, hz.out, hm.out]⟩
          go_wp2
          go_quiet (fail)
          go_wp2
          refine ⟨⟨k + 1, _, m + z * (bitN p k : Nat), by omega, by go_num, by first | rfl | rw [hmul], ⟨hnext.out.symm⟩, rfl⟩, by simp [intOf]; omega⟩
        · have : n = k := by omega
          subst this
          have hg := hc'.out n (by omega)
          obtain ⟨y, hy⟩ : ∃ y, Keep (zs.getD n 0 = y) := ⟨_, ⟨rfl⟩⟩
          rw [hy.out] at hg
          have hright : Keep (rightAt s zs n p = (decide (y ≤ m) == (s[p] == 49))) := ⟨by unfold rightAt; rw [hy.out, ← hm.out, getD_at hps]⟩
          have h49 : ((s[p].toNat : Int) == 49) = (s[p] == 49) := by
            rw [Bool.eq_iff_iff, beq_iff_eq, beq_iff_eq]
            constructor
            · intro h; exact u8_of (n := 49) (by omega) h
            · intro h; rw [h]; rfl
          obtain ⟨b2, hb2⟩ : ∃ b, Keep ((s[p] == 49) = b) := ⟨_, ⟨rfl⟩⟩
          rw [hb2.out] at h49 hright
          go_wp2
          go_quiet (fail)
          cases hb : (decide (y ≤ m) == b2)
          · have hbad : Keep (okReal s zs n = false) := ⟨by
              unfold okReal
              rw [List.all_eq_false]
              exact ⟨p, by rw [List.mem_range, hsz.out]; exact hpN, by rw [hright.out, hb]; simp⟩⟩
            go_wp2
            go_ret
            exact ⟨by rw [hbad.out]; rfl, below_drewN (below_drewN (Below.refl _ _) _) _⟩
          · go_wp2
            refine ⟨⟨p + 1, _, by omega, by go_num, rfl, ⟨?_⟩⟩, by simp [intOf]; omega⟩
            rw [List.range_succ, List.all_append, hall.out]
            simp only [List.all_cons, List.all_nil, hright.out, hb, Bool.and_true, Bool.true_and]
    · have : p = N := by omega
      subst this
      have hps : ¬ p < s.size := by rw [hsz.out]; omega
      have hD : Keep (okReal s zs n = true) := ⟨by unfold okReal; rw [hsz.out]; exact hall.out⟩
      go_wp2
      go_ret
      exact ⟨by rw [hD.out]; rfl, below_drewN (Below.refl _ _) d⟩
end Go.Proofs.YtioaaigbpfdjmaaDoor
