import Derived.Test.YtioaaigbpfdjmaaDoorSens
import Derived.Test.YtioaaigbpfdjmaaDoorRefMono
set_option linter.unusedSimpArgs false
set_option linter.unusedVariables false
namespace Go.Proofs.YtioaaigbpfdjmaaDoor
open Go Go.Proofs Go.RowKit
theorem same_in : ∀ p, p < 32 → ∀ q, q < 32 → ∀ v, v < 32 → ((p ^^^ q) &&& v == 0) = (q &&& v == p &&& v) := by decide +kernel
set_option maxHeartbeats 1000000 in
set_option maxRecDepth 100000 in
theorem decides_any {s : ByteArray} {p v N : Nat} {w : World} (htot : Keep (totOf s ≠ 0)) (hsz : Keep (s.size = N)) (hN32 : N ≤ 32) (hp : p < N) (hv : v < 32) :
    Calls Tryd.prog 83 #[.string s, .int .i64 p, .int .i64 v] w fun e w' => e = .returned (.bool (decN (fb s) N p v)) ∧ Below w.heap.size w w' := by
  obtain ⟨r, hr⟩ : ∃ r, Keep (decN (fb s) N p v = r) := ⟨_, ⟨rfl⟩⟩
  rw [hr.out]
  have hps : p < s.size := by rw [hsz.out]; exact hp
  go_enter Tryd.func83, Tryd.ntmps83
  go_wp2
  go_loopw [7] (fun i wr => ∃ q d : Nat, q ≤ N ∧ i = .int .i64 q ∧ Keep (((List.range q).all fun q => !(q &&& v == p &&& v) || (fb s q == fb s p)) = true) ∧ wr = w.drewN d) (fun i _ => N - (intOf i).toNat)
  case atStart => exact ⟨0, 0, by omega, rfl, ⟨rfl⟩, rfl⟩
  case round =>
    obtain ⟨q, d, hq, rfl, hall, rfl⟩ := hrel
    by_cases hqN : q < N
    · have hqs : q < s.size := by rw [hsz.out]; exact hqN
      have hx32 : p ^^^ q < 32 := Nat.xor_lt_two_pow (n := 5) (by omega) (by omega)
      have hxor : bits .xor .i64 (p : Int) (q : Int) = ((p ^^^ q : Nat) : Int) := xor_i64 p q (by omega) (by omega)
      have hand : bits .and .i64 ((p ^^^ q : Nat) : Int) (v : Int) = (((p ^^^ q) &&& v : Nat) : Int) := and_i64 _ v (by omega) (by omega)
      have hin := same_in p (by omega) q (by omega) v hv
      obtain ⟨x, hx⟩ : ∃ x, Keep (((p ^^^ q) &&& v == 0) = x) := ⟨_, ⟨rfl⟩⟩
      rw [hx.out] at hin
      have hink : Keep ((q &&& v == p &&& v) = x) := ⟨hin.symm⟩
      have hz : ((((p ^^^ q) &&& v : Nat) : Int) == 0) = x := by rw [← hx.out, Bool.eq_iff_iff, beq_iff_eq, beq_iff_eq]; omega
      clear hin
      cases x
      · have hnext : Keep (((List.range (q + 1)).all fun q => !(q &&& v == p &&& v) || (fb s q == fb s p)) = true) := ⟨all_succ hall.out (by rw [hink.out]; rfl)⟩
        go_wp2
        go_quiet (fail)
        go_wp2
        exact ⟨⟨q + 1, _, by omega, by go_num, hnext, rfl⟩, by simp [intOf]; omega⟩
      · obtain ⟨y, hy⟩ : ∃ y, Keep (((s[q].toNat : Int) != (s[p].toNat : Int)) = y) := ⟨_, ⟨rfl⟩⟩
        have hsame : Keep ((fb s q == fb s p) = !y) := ⟨by
          rw [← hy.out, fb_at hqs, fb_at hps]
          rcases tot_char htot.out q hqs with h | h <;> rcases tot_char htot.out p hps with h' | h' <;> rw [h, h'] <;> rfl⟩
        have hyo := hy.out
        cases y
        · have hnext : Keep (((List.range (q + 1)).all fun q => !(q &&& v == p &&& v) || (fb s q == fb s p)) = true) := ⟨all_succ hall.out (by rw [hink.out, hsame.out]; rfl)⟩
          go_wp2
          go_quiet (fail)
          go_wp2
          exact ⟨⟨q + 1, _, by omega, by go_num, hnext, rfl⟩, by simp [intOf]; omega⟩
        · have hD : r = false := by
            rw [← hr.out]
            unfold decN
            rw [List.all_eq_false]
            exact ⟨q, by rw [List.mem_range]; exact hqN, by rw [hink.out, hsame.out]; simp⟩
          subst hD
          go_wp2
          go_quiet (fail)
          go_wp2
          go_ret
          exact ⟨rfl, below_drewN (below_drewN (Below.refl _ _) _) _⟩
    · have : q = N := by omega
      subst this
      have hqs : ¬ q < s.size := by rw [hsz.out]; omega
      have hD : r = true := by rw [← hr.out]; exact hall.out
      subst hD
      go_wp2
      go_ret
      exact ⟨rfl, below_drewN (Below.refl _ _) _⟩
end Go.Proofs.YtioaaigbpfdjmaaDoor
