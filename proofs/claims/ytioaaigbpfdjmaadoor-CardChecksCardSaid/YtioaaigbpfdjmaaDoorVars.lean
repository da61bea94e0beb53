import Derived.Test.YtioaaigbpfdjmaaDoorCube
set_option linter.unusedSimpArgs false
set_option linter.unusedVariables false
namespace Go.Proofs.YtioaaigbpfdjmaaDoor
open Go Go.Proofs Go.RowKit
/-- A fact that the walk shall not use. -/
structure Keep (p : Prop) : Prop where
  out : p
def varsN (n : Nat) : Nat := if n = 2 then 1 else if n = 4 then 2 else if n = 8 then 3 else if n = 16 then 4 else if n = 32 then 5 else 0
def varsOf (s : ByteArray) : Nat := if okCube s then varsN s.size else 0
theorem vars_pow {k : Nat} (h1 : 1 ≤ k) (h5 : k ≤ 5) : varsN (2 ^ k) = k := by
  have : k = 1 ∨ k = 2 ∨ k = 3 ∨ k = 4 ∨ k = 5 := by omega
  rcases this with h | h | h | h | h <;> rw [h] <;> rfl
theorem vars_none {n : Nat} (h : ∀ j, 1 ≤ j → j < 6 → n ≠ 2 ^ j) : varsN n = 0 := by
  have h1 := h 1 (by omega) (by omega)
  have h2 := h 2 (by omega) (by omega)
  have h3 := h 3 (by omega) (by omega)
  have h4 := h 4 (by omega) (by omega)
  have h5 := h 5 (by omega) (by omega)
  simp at h1 h2 h3 h4 h5
  simp [varsN, h1, h2, h3, h4, h5]
theorem wrap_pow {k : Nat} (h : k ≤ 6) : IntKind.i64.wrap (2 ^ k) = ((2 ^ k : Nat) : Int) := by
  have : k = 0 ∨ k = 1 ∨ k = 2 ∨ k = 3 ∨ k = 4 ∨ k = 5 ∨ k = 6 := by omega
  rcases this with h | h | h | h | h | h | h <;> rw [h] <;> rfl
theorem varsOf_le (s : ByteArray) : varsOf s ≤ 5 := by
  unfold varsOf varsN
  repeat' split
  all_goals omega
theorem varsOf_size {s : ByteArray} (h : varsOf s ≠ 0) : s.size = 2 ^ varsOf s ∧ okCube s = true := by
  unfold varsOf at h ⊢
  cases ho : okCube s
  · simp [ho] at h
  · simp only [ho, if_true] at h ⊢
    refine ⟨?_, trivial⟩
    unfold varsN at h ⊢
    repeat' split
    all_goals simp_all
set_option maxRecDepth 100000 in
theorem vars_any (s : ByteArray) (h40 : s.size ≤ 40) (w : World) :
    Calls Tryd.prog 19 #[.string s] w fun e w' => e = .returned (.int .i64 (varsOf s : Nat)) ∧ w' = w := by
  go_enter Tryd.func19, Tryd.ntmps19
  go_wp2
  go_loop [3] (fun i => ∃ k : Nat, 1 ≤ k ∧ k ≤ 6 ∧ i = .int .i64 k ∧ ∀ j, 1 ≤ j → j < k → s.size ≠ 2 ^ j) (fun i => 6 - (intOf i).toNat)
  case atStart => exact ⟨1, by omega, by omega, rfl, fun j h1 h2 => by omega⟩
  case round =>
    obtain ⟨k, hk1, hk6, rfl, hno⟩ := hrel
    by_cases hlt : k ≤ 5
    · have hw := wrap_pow (k := k) (by omega)
      obtain ⟨P, hP⟩ : ∃ P, P = 2 ^ k := ⟨_, rfl⟩
      rw [← hP] at hw
      go_wp2
      · have hne : ((s.size : Int) != 2 ^ k) = true := by assumption
        refine ⟨⟨k + 1, by omega, by omega, by go_num, fun j h1 h2 => ?_⟩, by simp [intOf]; omega⟩
        by_cases hj : j = k
        · subst hj
          intro hc
          rw [hc] at hne
          simp at hne
        · exact hno j h1 (by omega)
      · have hne : ((s.size : Int) != 2 ^ k) = false := by assumption
        have hsz : Keep (s.size = 2 ^ k) := by
          have h2 : (s.size : Int) = 2 ^ k := by simpa using hne
          exact ⟨by exact_mod_cast h2⟩
        clear hne
        go_loop [4] (fun i => ∃ q : Nat, q ≤ s.size ∧ i = .int .i64 q ∧ (s.data.toList.take q).all okB = true) (fun i => s.size - (intOf i).toNat)
        case atStart => exact ⟨0, by omega, rfl, by simp⟩
        case round =>
          obtain ⟨q, hq, rfl, hall⟩ := hrel
          by_cases hlq : q < s.size
          · by_cases h48 : (s[q].toNat : Int) = 48
            · go_wp2
              exact ⟨⟨q + 1, by omega, by go_num, take_succ_all hlq hall (by simp [okB, u8_of (n := 48) (by omega) h48])⟩, by simp [intOf]; omega⟩
            · by_cases h49 : (s[q].toNat : Int) = 49
              · go_wp2
                exact ⟨⟨q + 1, by omega, by go_num, take_succ_all hlq hall (by simp [okB, u8_of (n := 49) (by omega) h49])⟩, by simp [intOf]; omega⟩
              · by_cases h45 : (s[q].toNat : Int) = 45
                · go_wp2
                  exact ⟨⟨q + 1, by omega, by go_num, take_succ_all hlq hall (by simp [okB, u8_of (n := 45) (by omega) h45])⟩, by simp [intOf]; omega⟩
                · have hO : okCube s = false := not_all hlq (okB_false h48 h49 h45)
                  go_wp2
                  · go_ret
                    exact ⟨by unfold varsOf; rw [hO]; rfl, rfl⟩
                  · rename_i hc
                    exfalso
                    simp at hc
                    omega
          · have : q = s.size := by omega
            subst this
            have hO : okCube s = true := by
              have e : s.data.toList.take s.size = s.data.toList := List.take_of_length_le (by simp)
              rw [e] at hall; exact hall
            go_wp2
            go_ret
            refine ⟨?_, rfl⟩
            unfold varsOf
            rw [hO, hsz.out, vars_pow hk1 hlt]
            rfl
    · have : k = 6 := by omega
      subst this
      go_wp2
      go_ret
      have e : varsN s.size = 0 := vars_none hno
      refine ⟨?_, rfl⟩
      unfold varsOf
      rw [e]; simp
end Go.Proofs.YtioaaigbpfdjmaaDoor
