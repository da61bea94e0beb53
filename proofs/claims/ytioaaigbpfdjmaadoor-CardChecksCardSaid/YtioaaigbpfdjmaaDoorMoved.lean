import Derived.Test.YtioaaigbpfdjmaaDoorIntRows
import Derived.Test.YtioaaigbpfdjmaaDoorTurnMath
set_option linter.unusedSimpArgs false
set_option linter.unusedVariables false
namespace Go.Proofs.YtioaaigbpfdjmaaDoor
open Go Go.Proofs Go.RowKit
theorem getn {os : List Nat} {k : Nat} (h : k < os.length) : os.getD k 0 ∈ os := by
  rw [List.getD_eq_getElem?_getD, List.getElem?_eq_getElem h]; exact List.getElem_mem _
theorem getD_cast {os : List Nat} {k : Nat} : (os.map (fun x : Nat => (x : Int))).getD k 0 = ((os.getD k 0 : Nat) : Int) := by
  rw [List.getD_eq_getElem?_getD, List.getD_eq_getElem?_getD, List.getElem?_map]
  cases os[k]? <;> rfl
theorem bit_i64 (p k : Nat) (hp : p < 32) : bits .and .i64 ((p : Int) / 2 ^ k) 1 = ((bitN p k : Nat) : Int) := by
  have e : ((p : Int) / 2 ^ k) = ((p / 2 ^ k : Nat) : Int) := by push_cast; rfl
  have hle : p / 2 ^ k ≤ p := Nat.div_le_self _ _
  rw [e, show (1 : Int) = ((1 : Nat) : Int) from rfl, and_i64 _ 1 (by omega) (by omega), Nat.and_one_is_mod]
  rfl
theorem wrap_bit (b x : Nat) (hb : b = 0 ∨ b = 1) (hx : x < 5) : wrap64 ((b : Int) * 2 ^ x) = ((b * 2 ^ x : Nat) : Int) ∧ b * 2 ^ x < 32 := by
  have h : x = 0 ∨ x = 1 ∨ x = 2 ∨ x = 3 ∨ x = 4 := by omega
  unfold wrap64
  rcases hb with rfl | rfl <;> rcases h with h | h | h | h | h <;> subst h <;> decide
theorem or_move (p k m x : Nat) (hp : p < 32) (hm : m < 32) (hx : x < 5) : bits .or .i64 (m : Int) (wrap64 (bits .and .i64 ((p : Int) / 2 ^ k) 1 * 2 ^ x)) = ((m ||| bitN p k * 2 ^ x : Nat) : Int) := by
  obtain ⟨h1, h2⟩ := wrap_bit (bitN p k) x (bitN_two p k) hx
  rw [bit_i64 p k hp, h1, or_i64 _ _ (by omega) (by omega)]
set_option maxRecDepth 100000 in
theorem moved_any {v : Value} {os : List Nat} {n p : Nat} {w : World} (hn5 : n ≤ 5) (hlen : os.length = n) (hlt : ∀ x ∈ os, x < n) (hp : p < 32) (hv : IntsAt w v (os.map (fun x : Nat => (x : Int)))) :
    Calls Tryd.prog 90 #[.int .i64 p, v] w fun e w' => e = .returned (.int .i64 (movK p os n : Nat)) ∧ Below w.heap.size w w' := by
  obtain ⟨A, cap, rfl, hc⟩ := hv
  rw [List.length_map, hlen] at hc ⊢
  have hmv : ∀ k, k ≤ os.length → movK p os k < 2 ^ n := mov_lt p n os hlt
  have h2 : 2 ^ n ≤ 2 ^ 5 := Nat.pow_le_pow_right (by decide) hn5
  have hK : Keep (∀ k, k ≤ n → movK p os k < 32) := ⟨fun k hk => by have := hmv k (by omega); omega⟩
  clear hmv h2
  go_enter Tryd.func90, Tryd.ntmps90
  go_wp2
  go_loopw [10, 5] (fun i a wr => ∃ k m : Nat, k ≤ n ∧ i = .int .i64 k ∧ a = .int .i64 m ∧ Keep (m = movK p os k) ∧ Below w.heap.size w wr) (fun i _ _ => n - (intOf i).toNat)
  case atStart => exact ⟨0, 0, by omega, rfl, rfl, ⟨rfl⟩, Below.refl _ _⟩
  case round =>
    obtain ⟨k, m, hk, rfl, rfl, hm, hbw⟩ := hrel
    by_cases hkn : k < n
    · obtain ⟨g, rfl, hg⟩ := hc k hkn
      have hgr := cell_below hg hbw
      rw [getD_cast] at hgr
      have hx := hlt _ (getn (os := os) (k := k) (by omega))
      obtain ⟨x, hxe⟩ : ∃ x, Keep (os.getD k 0 = x) := ⟨_, ⟨rfl⟩⟩
      rw [hxe.out] at hgr hx
      have hm32 : m < 32 := by rw [hm.out]; exact hK.out k hk
      have hor := or_move p k m x hp hm32 (by omega)
      go_wp2
      exact ⟨⟨k + 1, m ||| bitN p k * 2 ^ x, by omega, by go_num, rfl, ⟨by rw [movK, hxe.out, hm.out]⟩, hbw⟩, by simp [intOf]; omega⟩
    · have : k = n := by omega
      subst this
      go_wp2
      go_ret
      exact ⟨by rw [← hm.out]; rfl, hbw⟩
end Go.Proofs.YtioaaigbpfdjmaaDoor
