import Derived.Test.YteekigpdiklppaaWBits
set_option linter.unusedSimpArgs false
set_option linter.unusedVariables false
namespace Go.Proofs.Yteekigpdiklppaa
open Go Go.Proofs Go.RowKit Go.Seq
attribute [local go_sem] Oper.semAt_some
theorem setOf_take (zs : List Int) {k u : Nat} (hk : k < zs.length) (hu : zs.getD k 0 = (u : Int)) : setOf (zs.take (k + 1)) = adds (setOf (zs.take k)) u := by
  funext j
  rw [takez hk, hu, setOf_push]
  unfold adds
  by_cases e : j = u
  · simp [e]
  · simp [e]
theorem wrap_pow {u : Nat} (hu : u < 13) : IntKind.i64.wrap (2 ^ u) = ((2 ^ u : Nat) : Int) := by
  have : u = 0 ∨ u = 1 ∨ u = 2 ∨ u = 3 ∨ u = 4 ∨ u = 5 ∨ u = 6 ∨ u = 7 ∨ u = 8 ∨ u = 9 ∨ u = 10 ∨ u = 11 ∨ u = 12 := by omega
  rcases this with h | h | h | h | h | h | h | h | h | h | h | h | h <;> subst h <;> rfl
theorem pow_lt {u : Nat} (hu : u < 13) : 2 ^ u ≤ 4096 := by
  have : (4096 : Nat) = 2 ^ 12 := rfl
  rw [this]; exact Nat.pow_le_pow_right (by omega) (by omega)
set_option maxHeartbeats 1000000 in
set_option maxRecDepth 100000 in
theorem set_any {v : Value} {zs : List Int} {w : World} (hv : IntsO w v zs) (hz : ∀ k, k < zs.length → 0 ≤ zs.getD k 0 ∧ zs.getD k 0 < 12) (hl : zs.length ≤ 100000) :
    Calls Try.prog 26 #[v] w fun e w' => e = .returned (.int .i64 (num (setOf zs))) ∧ w' = w := by
  obtain ⟨A, cap, rfl, hc⟩ := hv
  have hck := Keep.mk hc
  have hzk := Keep.mk hz
  obtain ⟨m, hm⟩ : ∃ m, Keep (zs.length = m) := ⟨_, ⟨rfl⟩⟩
  rw [hm.out] at hl hck hzk ⊢
  clear hc hz
  go_enter Try.func26, Try.ntmps26
  go_wp2
  go_loop [4, 3] (fun i o => ∃ k : Nat, k ≤ m ∧ i = .int .i64 k ∧ o = .int .i64 (num (setOf (zs.take k)) : Nat)) (fun i _ => m - (intOf i).toNat)
  case atStart => exact ⟨0, by omega, rfl, by simp [show setOf [] = fun _ => false by funext j; simp [setOf], num_zero]⟩
  case round =>
    obtain ⟨k, hk, rfl, rfl⟩ := hrel
    have hw1 : IntKind.i64.wrap ((k : Int) + 1) = (k : Int) + 1 := IntWalk.i64_in _ (by omega)
    by_cases hlt : k < m
    · have hlt' : (k : Int) < (m : Int) := by omega
      obtain ⟨g, o, rfl, c0⟩ := hck.out k hlt
      obtain ⟨z0, z1⟩ := hzk.out k hlt
      obtain ⟨u, hu⟩ : ∃ u : Nat, zs.getD k 0 = (u : Int) := ⟨(zs.getD k 0).toNat, by omega⟩
      have hpush := setOf_take zs (by rw [hm.out]; exact hlt) hu
      rw [hu] at c0 z0 z1
      have hu12 : u < 12 := by omega
      obtain ⟨P, hP⟩ : ∃ P : Nat, 2 ^ u = P := ⟨_, rfl⟩
      have hPw : IntKind.i64.wrap (2 ^ u) = (P : Int) := by rw [← hP]; exact wrap_pow (by omega)
      have hPl : P ≤ 4096 := by rw [← hP]; exact pow_lt (by omega)
      have hnl := num_lt (setOf (zs.take k))
      have hor : bits .or .i64 (num (setOf (zs.take k)) : Int) (P : Int) = ((num (setOf (zs.take (k + 1))) : Nat) : Int) := by
        rw [or_i64 _ _ (by omega) (by omega), hpush, ← hP, num_or _ _ hu12]
      have hork := Keep.mk hpush
      clear hpush hP
      generalize num (setOf (zs.take k)) = a at hor hnl
      obtain ⟨b, hb⟩ : ∃ b, num (setOf (zs.take (k + 1))) = b := ⟨_, rfl⟩
      rw [hb] at hor
      go_wp2
      exact ⟨⟨k + 1, by omega, by go_num, by rw [hb]⟩, by simp [intOf]; omega⟩
    · obtain rfl : k = m := by omega
      have hlt' : ¬ (k : Int) < (k : Int) := by omega
      go_wp2
      go_ret
      exact ⟨by simp [← hm.out], rfl⟩
theorem vsTo_stop {s : Nat → Bool} {k : Nat} (h : ∀ j, k ≤ j → s j = false) : ∀ n, k ≤ n → vsTo s n = vsTo s k
  | 0, hk => by rw [show k = 0 by omega]
  | n + 1, hk => by
    by_cases e : k = n + 1
    · rw [e]
    · rw [vsTo_succ, h n (by omega)]
      exact vsTo_stop h n (by omega)
theorem shr_i64 (m u : Nat) (hm : m < 4096) : (m : Int) / 2 ^ u = ((m / 2 ^ u : Nat) : Int) := by
  have e : ((2 : Int) ^ u) = ((2 ^ u : Nat) : Int) := by push_cast; rfl
  rw [e]; rfl
theorem bit_mod (m u : Nat) : (m / 2 ^ u % 2 = 1) ↔ m.testBit u = true := by
  rw [Nat.testBit_eq_decide_div_mod_eq, decide_eq_true_iff]
set_option maxHeartbeats 1000000 in
set_option maxRecDepth 100000 in
theorem List_any (m : Nat) (hm : m < 4096) (w : World) :
    Calls Try.prog 28 #[.int .i64 m] w fun e w' => ∃ v, e = .returned v ∧ w'.ownsRow w.heap.size 3 1 v (vsTo (setN m) 12).length ((vsTo (setN m) 12).map ik) ∧ Below w.heap.size w w' := by
  obtain ⟨i0, hi0, hz0, hz1, hz2⟩ : ∃ i, Try.prog.info? 3 = some i ∧ i.zero = some (.int .i64 0) ∧ i.size = 1 ∧ i.bytes = 8 := by
    have h := info3
    cases hI : Try.prog.info? 3 with
    | none => rw [hI] at h; cases h
    | some i =>
      rw [hI] at h
      simp only [Option.map_some, Option.some.injEq, Prod.mk.injEq] at h
      exact ⟨i, rfl, h.1, h.2.1, h.2.2⟩
  go_enter Try.func28, Try.ntmps28
  go_wp2
  go_loopw [4, 3] (fun i o wr => ∃ k : Nat, k ≤ 12 ∧ i = .int .i64 k ∧ Keep (wr.ownsRow w.heap.size 3 1 o (vsTo (setN m) k).length ((vsTo (setN m) k).map ik) ∧ Below w.heap.size w wr) ∧ ∃ A c, o = .slice A (vsTo (setN m) k).length c) (fun i _ _ => 13 - (intOf i).toNat)
  case atStart => exact ⟨0, by omega, rfl, ⟨World.ownsRow_nil _ _ _ _, Below.refl _ _⟩, _, _, rfl⟩
  case round =>
    obtain ⟨k, hk, rfl, hI, A, c, rfl⟩ := hrel
    have hw1 : IntKind.i64.wrap ((k : Int) + 1) = (k : Int) + 1 := IntWalk.i64_in _ (by omega)
    have hsh := shr_i64 m k hm
    obtain ⟨q, hq⟩ : ∃ q, m / 2 ^ k = q := ⟨_, rfl⟩
    rw [hq] at hsh
    have hk0 : ¬ (k : Int) < 0 := by omega
    by_cases hpos : 0 < q
    · have hk12 : k < 12 := by
        rcases Nat.lt_or_ge k 12 with h | h
        · exact h
        · have : 2 ^ 12 ≤ 2 ^ k := Nat.pow_le_pow_right (by omega) h
          have : m / 2 ^ k = 0 := Nat.div_eq_of_lt (by omega)
          omega
      have hpos' : (0 : Int) < (q : Int) := by omega
      have hb := bit_mod m k
      rw [hq] at hb
      have hsn : setN m k = m.testBit k := rfl
      have hl := vsTo_len (setN m) k
      have hI1 := hI.out.1
      obtain ⟨l, hll⟩ : ∃ l, (vsTo (setN m) k).length = l := ⟨_, rfl⟩
      obtain ⟨r, hr⟩ : ∃ r, q % 2 = r := ⟨_, rfl⟩
      have hrem : (q : Int).tmod 2 = (r : Int) := by rw [show (2 : Int) = ((2 : Nat) : Int) from rfl, IntWalk.up_tmod rfl rfl, hr]
      rw [hr] at hb
      by_cases hbit : r = 1
      · subst hbit
        have hs : setN m k = true := by rw [hsn]; exact hb.1 rfl
        have hsucc : vsTo (setN m) (k + 1) = vsTo (setN m) k ++ [k] := by rw [vsTo_succ, if_pos hs]
        rw [hll] at hl hI1 ⊢
        have hI1k := Keep.mk hI1
        clear hI1 hb hpos hsn
        go_wp2_with (at_builtin; refine wpList_append_own_at _ rfl _ _ 23 rfl w.heap.size 3 i0 (.int .i64 0) 1 8 ty24 hi0 hz0 hz1 hz2 rfl (by decide) _ l ((vsTo (setN m) k).map ik) rfl (hI1k.out.alloc _) ⟨wr.heap.size, 0, none⟩ 1 1 [.int .i64 k] rfl rfl (cell_one_new _ _ _) (by simp [Value.oneCell']) (by unfold maxLen; omega) (by omega) (by have := hI.out.2.size; simp; omega) ?_; intro v' w1 hown hgrow _ _
                     obtain ⟨g', cap', rfl⟩ := ownsRow_succ hown
                     have h10k := Keep.mk (And.intro hown hgrow)
                     clear hown hgrow)
        have hb10 : Below w.heap.size w w1 := hI.out.2.trans (Below.grown ((Below.refl _ wr).alloc (by have := hI.out.2.size; omega) _) h10k.out.2 (by have := hI.out.2.size; simp; omega) (fun j hj => by
          have hj' : (Value.slice A l c).ownBlock = some j := hj
          exact (hI1k.out.lt j hj').1))
        have hln : (vsTo (setN m) (k + 1)).length = l + 1 := by rw [hsucc, List.length_append, hll]; rfl
        have hmp : (vsTo (setN m) (k + 1)).map ik = (vsTo (setN m) k).map ik ++ [.int .i64 k] := by rw [hsucc, List.map_append]; rfl
        exact ⟨⟨k + 1, by omega, by go_num, ⟨by rw [hln, hmp]; exact h10k.out.1, hb10⟩, _, _, by rw [hln]⟩, by simp [intOf]; omega⟩
      · have hr0 : r = 0 := by omega
        subst hr0
        have hs : setN m k = false := by
          rw [hsn]
          cases e : m.testBit k with
          | false => rfl
          | true => exact absurd (hb.2 e) (by omega)
        have hsucc : vsTo (setN m) (k + 1) = vsTo (setN m) k := by rw [vsTo_succ, hs]; rfl
        have hIk := hI
        clear hI1 hb hpos hsn
        go_wp2
        exact ⟨⟨k + 1, by omega, by go_num, by rw [hsucc]; exact hIk, _, _, by rw [hsucc]⟩, by simp [intOf]; omega⟩
    · have hq0 : q = 0 := by omega
      subst hq0
      have hlt : m < 2 ^ k := by
        rcases Nat.lt_or_ge m (2 ^ k) with h | h
        · exact h
        · have := Nat.div_pos h (Nat.two_pow_pos k)
          omega
      have he : vsTo (setN m) 12 = vsTo (setN m) k := vsTo_stop (fun j hj => Nat.testBit_lt_two_pow (Nat.lt_of_lt_of_le hlt (Nat.pow_le_pow_right (by omega) hj))) 12 hk
      go_wp2
      refine bodyPost_ret (v := .slice A (vsTo (setN m) k).length c) (by simp [results, Try.results28, go_sem]) rfl ?_
      try rw [he]
      exact ⟨_, rfl, hI.out.1, hI.out.2⟩
/-- The set that some gives. -/
def someS (n : Nat) (x : Int) : Nat → Bool := setN (modN x (2 ^ n))
theorem someS_lt {n : Nat} (hn : n ≤ 12) (x : Int) : modN x (2 ^ n) < 4096 := by
  have h1 := modN_lt x (m := 2 ^ n) (Nat.two_pow_pos n)
  have h2 := pow_lt (u := n) (by omega)
  omega
theorem someS_in {n : Nat} (x : Int) {j : Nat} (hj : n ≤ j) : someS n x j = false :=
  Nat.testBit_lt_two_pow (Nat.lt_of_lt_of_le (modN_lt x (Nat.two_pow_pos n)) (Nat.pow_le_pow_right (by omega) hj))
set_option maxRecDepth 100000 in
theorem some_any {n : Nat} (hn : n ≤ 12) (x : Int) (w : World) :
    Calls Try.prog 51 #[.int .i64 n, .int .i64 x] w fun e w' => ∃ v, e = .returned v ∧ w'.ownsRow w.heap.size 3 1 v (vsTo (someS n x) 12).length ((vsTo (someS n x) 12).map ik) ∧ Below w.heap.size w w' := by
  obtain ⟨P, hP⟩ : ∃ P : Nat, 2 ^ n = P := ⟨_, rfl⟩
  have hPw : IntKind.i64.wrap (2 ^ n) = (P : Int) := by rw [← hP]; exact wrap_pow (by omega)
  have hPl : P ≤ 4096 := by rw [← hP]; exact pow_lt (by omega)
  have hP0 : 1 ≤ P := by rw [← hP]; exact Nat.two_pow_pos n
  have q53 := mod_any x (m := P) hP0 (by omega)
  have hml := someS_lt hn x
  unfold someS
  rw [hP] at hml ⊢
  have q28 := List_any (modN x P) hml
  obtain ⟨M, hM⟩ : ∃ M, modN x P = M := ⟨_, rfl⟩
  rw [hM] at q53 q28 ⊢
  clear hP hM hml
  have hn0 : ¬ (n : Int) < 0 := by omega
  go_enter Try.func51, Try.ntmps51
  go_wp2_with (first
    | (go_at_call 53; (with_reducible refine (q53 _).mono ?_); rintro e w5 ⟨rfl, he5⟩; rw [he5]; clear he5 w5)
    | (go_at_call 28; (with_reducible refine (q28 _).mono ?_); rintro e w6 ⟨v, rfl, hr6, hb6⟩; have h6 := Keep.mk (And.intro hr6 hb6); clear hr6 hb6))
  refine bodyPost_ret (v := v) (by simp [results, Try.results51, go_sem]) rfl ?_
  exact ⟨v, rfl, h6.out.1, h6.out.2⟩
end Go.Proofs.Yteekigpdiklppaa
