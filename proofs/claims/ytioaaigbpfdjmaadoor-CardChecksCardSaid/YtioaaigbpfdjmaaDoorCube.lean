import Derived.Test.YtioaaigbpfdjmaaDoorProg
import Derived.WalkKit
import Derived.WalkSpells
import Derived.BigQuiet
import Derived.Deep.QuietTactic
set_option linter.unusedSimpArgs false
set_option linter.unusedVariables false
namespace Go.Proofs.YtioaaigbpfdjmaaDoor
open Go Go.Proofs Go.RowKit
def okB (b : UInt8) : Bool := b == 48 || b == 49 || b == 45
def okCube (s : ByteArray) : Bool := s.data.toList.all okB
theorem take_succ_all {s : ByteArray} {k : Nat} {p : UInt8 → Bool} (h : k < s.size) (ha : (s.data.toList.take k).all p = true) (hb : p s[k] = true) : (s.data.toList.take (k + 1)).all p = true := by
  have hk : k < s.data.toList.length := by simpa using h
  rw [List.take_succ_eq_append_getElem hk, List.all_append, ha]
  simpa [ByteArray.getElem_eq_getElem_data] using hb
theorem u8_of {b : UInt8} {n : Nat} (hn : n < 256) (h : (b.toNat : Int) = n) : b = UInt8.ofNat n := by
  apply UInt8.toNat_inj.1
  rw [UInt8.toNat_ofNat']
  omega
theorem not_all {s : ByteArray} {k : Nat} {p : UInt8 → Bool} (h : k < s.size) (hb : p s[k] = false) : s.data.toList.all p = false := by
  rw [List.all_eq_false]
  exact ⟨s[k], by rw [ByteArray.getElem_eq_getElem_data]; simp, by simp [hb]⟩
theorem okB_false {b : UInt8} (h1 : ¬ (b.toNat : Int) = 48) (h2 : ¬ (b.toNat : Int) = 49) (h3 : ¬ (b.toNat : Int) = 45) : okB b = false := by
  unfold okB
  have : ∀ n : UInt8, (¬ (b.toNat : Int) = n.toNat) → (b == n) = false := fun n h => by
    rw [beq_eq_false_iff_ne]; rintro rfl; exact h rfl
  rw [this 48 h1, this 49 h2, this 45 h3]; rfl
theorem refCube_any (s : ByteArray) (n : Int) (w : World) (hsz : s.size ≤ 8796093022207) :
    Calls Tryd.prog 27 #[.string s, .int .i64 n] w fun e w' => e = .returned (.bool (okCube s && decide ((s.size : Int) = n))) ∧ w' = w := by
  go_enter Tryd.func27, Tryd.ntmps27
  go_wp2
  go_loop [5] (fun i => ∃ k : Nat, k ≤ s.size ∧ i = .int .i64 k ∧ (s.data.toList.take k).all okB = true) (fun i => s.size - (intOf i).toNat)
  case atStart => exact ⟨0, by omega, rfl, by simp⟩
  case round =>
    obtain ⟨k, hk, rfl, hall⟩ := hrel
    go_wp2
    · rename_i h1 h2
      have hb : okB s[k] = true := by simp [okB, u8_of (n := 48) (by omega) h2]
      exact ⟨⟨k + 1, by omega, by go_num, take_succ_all h1 hall hb⟩, by simp [intOf]; omega⟩
    · rename_i h1 _ h2
      have hb : okB s[k] = true := by simp [okB, u8_of (n := 49) (by omega) h2]
      exact ⟨⟨k + 1, by omega, by go_num, take_succ_all h1 hall hb⟩, by simp [intOf]; omega⟩
    · have h1 : k < s.size := by assumption
      have h2 : ¬ (s[k].toNat : Int) = 48 := by assumption
      have h3 : ¬ (s[k].toNat : Int) = 49 := by assumption
      rename_i h4 _
      have hO : okCube s = false := not_all h1 (okB_false h2 h3 (by simpa using h4.2))
      go_ret
      exact ⟨by rw [hO]; simp, rfl⟩
    · rename_i h1 h2 h3 h4
      have h45 : (s[k].toNat : Int) = 45 := by
        simp at h4; omega
      have hb : okB s[k] = true := by simp [okB, u8_of (n := 45) (by omega) h45]
      exact ⟨⟨k + 1, by omega, by go_num, take_succ_all h1 hall hb⟩, by simp [intOf]; omega⟩
    · have : k = s.size := by omega
      subst this
      go_ret
      have hO : okCube s = true := by
        have e : s.data.toList.take s.size = s.data.toList := List.take_of_length_le (by simp)
        rw [e] at hall; exact hall
      refine ⟨?_, rfl⟩
      rw [hO]
      simp
      rfl
end Go.Proofs.YtioaaigbpfdjmaaDoor
