import Derived.Test.YtioaaigbpfdjmaaDoorMono
import Derived.Test.YtioaaigbpfdjmaaDoorRefBalance
set_option linter.unusedSimpArgs false
set_option linter.unusedVariables false
namespace Go.Proofs.YtioaaigbpfdjmaaDoor
open Go Go.Proofs Go.RowKit
theorem tot_char {s : ByteArray} (h : totOf s ≠ 0) (q : Nat) (hq : q < s.size) : s[q] = 48 ∨ s[q] = 49 := by
  unfold totOf at h
  cases hd : hasDash s
  · rw [hd] at h
    have hv : varsOf s ≠ 0 := h
    have hok := (varsOf_size hv).2
    have hb := okB_at hok hq
    have hn : (s[q] == 45) = false := by
      unfold hasDash at hd
      rw [List.any_eq_false] at hd
      have := hd s[q] (by rw [ByteArray.getElem_eq_getElem_data]; simp)
      simpa using this
    simp only [okB, Bool.or_eq_true, beq_iff_eq] at hb
    rw [beq_eq_false_iff_ne] at hn
    rcases hb with (h | h) | h
    · first | exact absurd h hn | exact .inl h | exact .inr h
    · first | exact absurd h hn | exact .inl h | exact .inr h
    · first | exact absurd h hn | exact .inl h | exact .inr h
  · rw [hd] at h
    exact absurd rfl h
theorem fb_at {s : ByteArray} {q : Nat} (hq : q < s.size) : fb s q = (s[q] == 49) := by unfold fb; rw [decide_eq_true hq, Bool.true_and, getD_at hq]
theorem or_same : ∀ a, a < 32 → ∀ i, i < 5 → a.testBit i = true → a ||| 2 ^ i = a := by decide
def MonoEnd2 (g : Nat → Bool) (n N : Nat) (e : Ending) : Prop := ∃ x y : Int, e = .returned (.tuple #[.int .i64 x, .int .i64 y]) ∧ MonoPost g n N x y
set_option maxHeartbeats 4000000 in
set_option maxRecDepth 100000 in
theorem refMono_any {s : ByteArray} {w : World} {n N : Nat} (h40 : s.size ≤ 40) (htot : Keep (totOf s ≠ 0)) (hn : Keep (varsOf s = n)) (hn5 : n ≤ 5) (hN : Keep (N = 2 ^ n)) (hN32 : N ≤ 32) (hsz : Keep (s.size = N)) :
    Calls Tryd.prog 38 #[.string s] w fun e w' => MonoEnd2 (fb s) n N e ∧ Below w.heap.size w w' := by
  go_enter Tryd.func38, Tryd.ntmps38
  go_wp2
  go_loop [4] (fun i => ∃ p : Nat, p ≤ N ∧ i = .int .i64 p ∧ Keep (∀ q, q < p → upOK (fb s) n q)) (fun i => N - (intOf i).toNat)
  case atStart => exact ⟨0, by omega, rfl, ⟨fun q h => by omega⟩⟩
  case round =>
    obtain ⟨p, hp, rfl, hall⟩ := hrel
    by_cases hpN : p < N
    · have hps : p < s.size := by rw [hsz.out]; exact hpN
      go_wp2
      go_loop [5] (fun i => ∃ m : Nat, m ≤ n ∧ i = .int .i64 m ∧ Keep (∀ i', i' < m → fb s p = true → fb s (p ||| 2 ^ i') = true)) (fun i => n - (intOf i).toNat)
      case atStart => exact ⟨0, by omega, rfl, ⟨fun i' h => by omega⟩⟩
      case round =>
        obtain ⟨m, hm, rfl, hup⟩ := hrel
        by_cases hmn : m < n
        · have htm := tmod_bit p m
          have hwp := wrap_pow (k := m) (by omega)
          obtain ⟨P, hP⟩ : ∃ P, Keep (P = 2 ^ m) := ⟨_, ⟨rfl⟩⟩
          rw [← hP.out] at hwp
          have hP32 : P ≤ 32 := by
            have h1 : 2 ^ m ≤ 2 ^ 5 := Nat.pow_le_pow_right (by decide) (by omega)
            have := hP.out; omega
          have hmore : Keep ((fb s p = true → fb s (p ||| 2 ^ m) = true) → ∀ i', i' < m + 1 → fb s p = true → fb s (p ||| 2 ^ i') = true) := ⟨fun h i' hi' hg => by
            by_cases e2 : i' = m
            · subst e2; exact h hg
            · exact hup.out i' (by omega) hg⟩
          cases hb : p.testBit m
          · have e : bitN p m = 0 := by rw [bitN_test, hb]; rfl
            rw [e] at htm
            have hadd : Keep (p ||| P = p + P) := ⟨by rw [hP.out]; exact or_add p (by omega) m (by omega) hb⟩
            have hlt : p + P < s.size := by
              have := or_lt n hn5 m hmn p (by rw [← hN.out]; exact hpN)
              rw [← hP.out, hadd.out, ← hN.out, ← hsz.out] at this
              exact this
            by_cases h49 : (s[p].toNat : Int) = 49
            · have hg : Keep (fb s p = true) := ⟨by rw [fb_at hps, u8_of (n := 49) (by omega) h49]; rfl⟩
              by_cases h48 : (s[p + P].toNat : Int) = 48
              · have hbad : Keep (fb s (p ||| 2 ^ m) = false) := ⟨by rw [← hP.out, hadd.out, fb_at hlt, u8_of (n := 48) (by omega) h48]; rfl⟩
                clear e hb
                go_wp2_with (go_at_call 19; refine (vars_any s h40 _).mono ?_; rintro e w ⟨rfl, rfl⟩; rw [hn.out])
                go_ret2
                exact ⟨⟨p, m, rfl, .inr ⟨p, m, rfl, rfl, hpN, hmn, hg.out, hbad.out, hall.out, fun i' h => hup.out i' h hg.out⟩⟩, Below.refl _ _⟩
              · have hnext : Keep (fb s (p ||| 2 ^ m) = true) := ⟨by
                  rw [← hP.out, hadd.out, fb_at hlt]
                  rcases tot_char htot.out (p + P) hlt with h | h
                  · rw [h] at h48; exact absurd rfl h48
                  · rw [h]; rfl⟩
                have h48b : ((s[p + P].toNat : Int) == 48) = false := by simpa using h48
                clear e hb
                go_wp2_with (go_at_call 19; refine (vars_any s h40 _).mono ?_; rintro e w ⟨rfl, rfl⟩; rw [hn.out])
                exact ⟨⟨m + 1, by omega, by go_num, ⟨hmore.out fun _ => hnext.out⟩⟩, by simp [intOf]; omega⟩
            · have hg : Keep (fb s p = false) := ⟨by
                rw [fb_at hps, beq_eq_false_iff_ne]; intro h; rw [h] at h49; exact h49 rfl⟩
              have h49b : ((s[p].toNat : Int) == 49) = false := by simpa using h49
              clear e hb
              go_wp2_with (go_at_call 19; refine (vars_any s h40 _).mono ?_; rintro e w ⟨rfl, rfl⟩; rw [hn.out])
              exact ⟨⟨m + 1, by omega, by go_num, ⟨hmore.out fun h => by rw [hg.out] at h; cases h⟩⟩, by simp [intOf]; omega⟩
          · have e : bitN p m = 1 := by rw [bitN_test, hb]; rfl
            rw [e] at htm
            have hsame : Keep (p ||| 2 ^ m = p) := ⟨or_same p (by omega) m (by omega) hb⟩
            clear e hb
            go_wp2_with (go_at_call 19; refine (vars_any s h40 _).mono ?_; rintro e w ⟨rfl, rfl⟩; rw [hn.out])
            exact ⟨⟨m + 1, by omega, by go_num, ⟨hmore.out fun h => by rw [hsame.out]; exact h⟩⟩, by simp [intOf]; omega⟩
        · have : m = n := by omega
          subst this
          go_wp2_with (go_at_call 19; refine (vars_any s h40 _).mono ?_; rintro e w ⟨rfl, rfl⟩; rw [hn.out])
          refine ⟨⟨p + 1, by omega, by go_num, ⟨fun q hq => ?_⟩⟩, by simp [intOf]; omega⟩
          by_cases e2 : q = p
          · subst e2; exact fun hg i' hi' => hup.out i' hi' hg
          · exact hall.out q (by omega)
    · have : p = N := by omega
      subst this
      have hps : ¬ p < s.size := by rw [hsz.out]; omega
      go_wp2
      go_ret2
      exact ⟨⟨-1, -1, rfl, .inl ⟨rfl, rfl, hall.out⟩⟩, Below.refl _ _⟩
end Go.Proofs.YtioaaigbpfdjmaaDoor
