import Derived.Test.YtioaaigbpfdjmaaDoorSumText
import Derived.Test.YtioaaigbpfdjmaaDoorInts
set_option linter.unusedSimpArgs false
set_option linter.unusedVariables false
namespace Go.Proofs.YtioaaigbpfdjmaaDoor
open Go Go.Proofs Go.RowKit
/-- No variable that is turned on takes the point's 1 away. -/
def upOK (g : Nat → Bool) (n p : Nat) : Prop := g p = true → ∀ i, i < n → g (p ||| 2 ^ i) = true
/-- What Monotone finds. -/
def MonoPost (g : Nat → Bool) (n N : Nat) (x y : Int) : Prop :=
  (x = -1 ∧ y = -1 ∧ ∀ p, p < N → upOK g n p) ∨
  ∃ p i : Nat, x = p ∧ y = i ∧ p < N ∧ i < n ∧ g p = true ∧ g (p ||| 2 ^ i) = false ∧ (∀ p', p' < p → upOK g n p') ∧ ∀ i', i' < i → g (p ||| 2 ^ i') = true
theorem mono_one {g : Nat → Bool} {n N : Nat} {x y x' y' : Int} (h : MonoPost g n N x y) (h' : MonoPost g n N x' y') : x = x' ∧ y = y' := by
  rcases h with ⟨rfl, rfl, h⟩ | ⟨p, i, rfl, rfl, hp, hi, h1, h2, h3, h4⟩
  · rcases h' with ⟨rfl, rfl, _⟩ | ⟨p', i', rfl, rfl, hp', hi', h1', h2', _⟩
    · exact ⟨rfl, rfl⟩
    · have := h p' hp' h1' i' hi'
      rw [h2'] at this; cases this
  · rcases h' with ⟨rfl, rfl, h'⟩ | ⟨p', i', rfl, rfl, hp', hi', h1', h2', h3', h4'⟩
    · have := h' p hp h1 i hi
      rw [h2] at this; cases this
    · have e : p = p' := by
        rcases Nat.lt_trichotomy p p' with h | h | h
        · have := h3' p h h1 i hi
          rw [h2] at this; cases this
        · exact h
        · have := h3 p' h h1' i' hi'
          rw [h2'] at this; cases this
      subst e
      have e2 : i = i' := by
        rcases Nat.lt_trichotomy i i' with h | h | h
        · have := h4' i h
          rw [h2] at this; cases this
        · exact h
        · have := h4 i' h
          rw [h2'] at this; cases this
      subst e2
      exact ⟨rfl, rfl⟩
theorem bits_sorted (m : Nat) : (bitsOf m).Pairwise (· < ·) := List.Pairwise.filter _ (List.pairwise_lt_range)
theorem bits_mem {m q : Nat} : q ∈ bitsOf m ↔ q < 32 ∧ m.testBit q = true := by simp [bitsOf]
theorem sorted_before {l : List Nat} (h : l.Pairwise (· < ·)) {k q : Nat} (hk : k < l.length) (hq : q ∈ l) (hlt : q < l.getD k 0) : q ∈ l.take k := by
  have e : l = l.take k ++ l.drop k := (List.take_append_drop k l).symm
  rw [e, List.mem_append] at hq
  rcases hq with hq | hq
  · exact hq
  · exfalso
    rw [List.drop_eq_getElem_cons hk, List.mem_cons] at hq
    have hd := h.sublist (List.drop_sublist k l)
    rw [List.drop_eq_getElem_cons hk, List.pairwise_cons] at hd
    have hg : l.getD k 0 = l[k] := by rw [List.getD_eq_getElem?_getD, List.getElem?_eq_getElem hk]; rfl
    rw [hg] at hlt
    rcases hq with rfl | hq
    · omega
    · have := hd.1 q hq
      omega
theorem or_lt : ∀ n, n ≤ 5 → ∀ i, i < n → ∀ p, p < 2 ^ n → p ||| 2 ^ i < 2 ^ n := by decide +kernel
def MonoEnd (g : Nat → Bool) (n N : Nat) (e : Ending) : Prop := ∃ x y : Int, e = .returned (.tuple #[.int .i64 x, .int .i64 y, .int .i64 0]) ∧ MonoPost g n N x y
set_option maxRecDepth 100000 in
theorem mono_no {s : ByteArray} {w : World} (h40 : s.size ≤ 40) (hn : Keep (totOf s = 0)) :
    Calls Tryd.prog 36 #[.string s] w fun e w' => e = .returned (.tuple #[.int .i64 0, .int .i64 0, .int .i64 2]) ∧ Below w.heap.size w w' := by
  go_enter Tryd.func36, Tryd.ntmps36
  go_wp2_with (go_at_call 73; refine (total_any s h40 _).mono ?_; rintro e w1 ⟨⟨O, Z, hO, hZ, rfl, hOZ⟩, hb1⟩; rw [hn.out])
  refine bodyPost_ret (v := .tuple #[.int .i64 0, .int .i64 0, .int .i64 2]) (by rw [results_tmp3 rfl]; go_simp) rfl ?_
  exact ⟨rfl, hb1.alloc hb1.size _⟩
set_option maxHeartbeats 4000000 in
set_option maxRecDepth 100000 in
theorem mono_yes {s : ByteArray} {w : World} {n N : Nat} (hT : TabW w) (h40 : s.size ≤ 40) (hn : Keep (totOf s = n)) (h0 : n ≠ 0) (hn5 : n ≤ 5) (hN : Keep (N = 2 ^ n)) (hN32 : N ≤ 32) (hsz : Keep (s.size = N)) :
    Calls Tryd.prog 36 #[.string s] w fun e w' => MonoEnd (fb s) n N e ∧ Below w.heap.size w w' := by
  have hd : decide (n ≠ 0) = true := decide_eq_true h0
  have htot : Keep (totOf s ≠ 0) := ⟨by rw [hn.out]; exact h0⟩
  clear h0
  go_enter Tryd.func36, Tryd.ntmps36
  go_wp2_with (first
    | (go_at_call 73; refine (total_any s h40 _).mono ?_; rintro e w1 ⟨⟨O, Z, hO, hZ, rfl, hOZ⟩, hb1⟩; rw [hn.out, hd]
       have hOb : Keep (charB s 49 O s.size) := ⟨(hOZ htot.out).1⟩
       have hT1 : TabW w1 := tab_below hT hb1
       clear hOZ)
    | (go_at_call 78; refine (list_any O hO _ (tab_below hT1 ((Below.refl _ _).alloc (Nat.le_refl _) _))).mono ?_; rintro e w2 ⟨v, rfl, hown, hb2⟩
       obtain ⟨c0, c1, c2, _, _, _, hlt2, hb12⟩ := carry_new hb2
       have hbw2 : Below w.heap.size w w2 := below_trans hb1 hb12 hb1.size
       obtain ⟨A, cap, rfl, hcell⟩ := own_cell hown
       obtain ⟨l, hl⟩ : ∃ l, Keep (bitsOf O = l) := ⟨_, ⟨rfl⟩⟩
       rw [hl.out] at hcell ⊢
       have hl32 : l.length ≤ 32 := by rw [← hl.out]; exact Nat.le_trans (List.length_filter_le _ _) (by simp)
       clear hown hb2 hb12))
  have hbits : Keep (O.testBit = fb s) := ⟨fb_of hOb.out⟩
  go_loopw [21] (fun i wr => ∃ k d : Nat, k ≤ l.length ∧ i = .int .i64 k ∧ Keep (∀ q ∈ l.take k, upOK (fb s) n q) ∧ wr = w2.drewN d) (fun i _ => l.length - (intOf i).toNat)
  case atStart => exact ⟨0, 0, by omega, rfl, ⟨by simp⟩, rfl⟩
  case round =>
    obtain ⟨k, d, hk, rfl, hall, rfl⟩ := hrel
    by_cases hkl : k < l.length
    · obtain ⟨g, rfl, hg⟩ := hcell k hkl
      have hp : l.getD k 0 ∈ l := by rw [List.getD_eq_getElem?_getD, List.getElem?_eq_getElem hkl]; exact List.getElem_mem _
      have hpm : (l.getD k 0) < 32 ∧ O.testBit (l.getD k 0) = true := by rw [← hl.out] at hp ⊢; exact bits_mem.1 hp
      have hfirst : Keep (∀ q, q < l.getD k 0 → upOK (fb s) n q) := ⟨fun q hq hgq => by
        have hs := bits_sorted O
        rw [hl.out] at hs
        have hmem : q ∈ l := by rw [← hl.out]; exact bits_mem.2 ⟨by omega, by rw [hbits.out]; exact hgq⟩
        exact hall.out q (sorted_before hs hkl hmem hq) hgq⟩
      obtain ⟨p, hpe⟩ : ∃ p, Keep (l.getD k 0 = p) := ⟨_, ⟨rfl⟩⟩
      rw [hpe.out] at hg hpm hfirst
      obtain ⟨hp32, hpO⟩ := hpm
      have hpN : p < N := by
        rw [hbits.out] at hpO
        unfold fb at hpO
        rw [Bool.and_eq_true] at hpO
        have := of_decide_eq_true hpO.1
        rw [hsz.out] at this; exact this
      have hpg : Keep (fb s p = true) := ⟨by rw [← hbits.out]; exact hpO⟩
      clear hpO hp
      go_wp2
      go_loopw [27] (fun i wr => ∃ m e : Nat, m ≤ n ∧ i = .int .i64 m ∧ Keep (∀ i', i' < m → fb s (p ||| 2 ^ i') = true) ∧ wr = w2.drewN e) (fun i _ => n - (intOf i).toNat)
      case atStart => exact ⟨0, d, by omega, rfl, ⟨fun i' h => by omega⟩, rfl⟩
      case round =>
        obtain ⟨m, e, hm, rfl, hup, rfl⟩ := hrel
        by_cases hmn : m < n
        · have hw := wrap_pow (k := m) (by omega)
          obtain ⟨P, hP⟩ : ∃ P, Keep (P = 2 ^ m) := ⟨_, ⟨rfl⟩⟩
          rw [← hP.out] at hw
          have hP32 : P ≤ 32 := by
            have h1 : 2 ^ m ≤ 2 ^ 5 := Nat.pow_le_pow_right (by decide) (by omega)
            have := hP.out; omega
          have hor : bits .or .i64 (p : Int) (P : Int) = ((p ||| P : Nat) : Int) := or_i64 p P (by omega) (by omega)
          have hlt : p ||| P < 32 := by
            have := or_lt n hn5 m hmn p (by rw [← hN.out]; exact hpN)
            rw [hP.out]; have := hN.out; omega
          obtain ⟨bv, hbv⟩ : ∃ x, Keep (fb s (p ||| P) = x) := ⟨_, ⟨rfl⟩⟩
          have hhas : ∀ k, Calls Tryd.prog 76 #[.int .u32 O, .int .i64 (p ||| P : Nat)] (w2.drewN (e + k)) fun e' w' => e' = .returned (.bool bv) ∧ ∃ m, w' = w2.drewN (e + m) := fun k => by
            have h := has_any O (p ||| P) hO hlt (w2.drewN (e + k))
            rw [hbits.out, hbv.out] at h
            exact h.mono fun e' w' ⟨h1, h2⟩ => ⟨h1, k, h2⟩
          cases bv
          · go_wp2
            go_quiet (first | (go_at_call 76; with_reducible exact hhas _))
            go_wp2
            refine bodyPost_ret (v := .tuple #[.int .i64 p, .int .i64 m, .int .i64 0]) (by rw [results_tmp3 rfl]; go_simp) rfl ?_
            exact ⟨⟨p, m, rfl, .inr ⟨p, m, rfl, rfl, hpN, hmn, hpg.out, by rw [← hP.out]; exact hbv.out, hfirst.out, hup.out⟩⟩, below_drewN (below_drewN hbw2 _) _⟩
          · go_wp2
            go_quiet (first | (go_at_call 76; with_reducible exact hhas _))
            go_wp2
            refine ⟨⟨m + 1, _, by omega, by go_num, ⟨fun i' h => ?_⟩, rfl⟩, by simp [intOf]; omega⟩
            by_cases e2 : i' = m
            · subst e2; rw [← hP.out]; exact hbv.out
            · exact hup.out i' (by omega)
        · have : m = n := by omega
          subst this
          go_wp2
          refine ⟨⟨k + 1, e, by omega, by go_num, ⟨fun q hq => ?_⟩, rfl⟩, by simp [intOf]; omega⟩
          rw [take_push hkl, List.mem_append, List.mem_singleton, hpe.out] at hq
          rcases hq with hq | rfl
          · exact hall.out q hq
          · exact fun _ => hup.out
    · have : k = l.length := by omega
      subst this
      have hfin : Keep (∀ p, p < N → upOK (fb s) n p) := ⟨fun p hp hgp => by
        refine hall.out p ?_ hgp
        rw [List.take_length, ← hl.out]
        exact bits_mem.2 ⟨by omega, by rw [hbits.out]; exact hgp⟩⟩
      go_wp2
      refine bodyPost_ret (v := .tuple #[.int .i64 (-1), .int .i64 (-1), .int .i64 0]) (by rw [results_tmp3 rfl]; go_simp) rfl ?_
      exact ⟨⟨-1, -1, rfl, .inl ⟨rfl, rfl, hfin.out⟩⟩, below_drewN hbw2 _⟩
end Go.Proofs.YtioaaigbpfdjmaaDoor
