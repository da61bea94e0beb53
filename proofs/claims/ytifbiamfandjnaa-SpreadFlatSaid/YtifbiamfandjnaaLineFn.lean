import Derived.Test.YtifbiamfandjnaaRead2
import Derived.Test.YtifbiamfandjnaaWorst
set_option linter.unusedSimpArgs false
set_option linter.unusedVariables false
namespace Go.Proofs.Ytifbiamfandjnaa
open Go Go.Proofs Go.RowKit Go.Seq
theorem frac_any {b N n : Nat} {g : Nat → Nat} {w : World} (hL : LineAt w b N n g) (hN : 1 ≤ N) (hn : 1 ≤ n) (e : Int) (h1 : -9223372036854775808 ≤ e) (h2 : e < 9223372036854775808) :
    Calls Try.prog 55 #[.pointer (some ⟨b, 0, none⟩), .int .i64 e] w fun e' w' => e' = .returned (fracV (redN e ((n : Int) * N)) (redD e ((n : Int) * N))) ∧ Below w.heap.size w w' := by
  have hlt := hL.lt
  obtain ⟨c1, c2, _, hN2, hn2, _⟩ := hL.below ((Below.refl _ w).alloc (Nat.le_refl _) (.cells #[.int .i64 0, .int .i64 0] 25)) hL.lt
  have hm : n * N ≤ 60 * 1000 := Nat.mul_le_mul hn2 hN2
  have hm1 : 1 ≤ n * N := Nat.mul_le_mul hn hN
  obtain ⟨D, hD⟩ : ∃ D : Int, Keep ((n : Int) * (N : Int) = D) := ⟨_, ⟨rfl⟩⟩
  have hD1 : 1 ≤ D := by have := hD.out; omega
  have hD2 : D ≤ 60000 := by have := hD.out; omega
  have hw : IntKind.i64.wrap ((n : Int) * (N : Int)) = D := by rw [← hD.out]; exact IntWalk.i64_in _ (by omega)
  rw [hD.out]
  go_enter Try.func55, Try.ntmps55
  go_wp2
  go_region_with (go_at_call 61; refine (lowest_any e D h1 h2 hD1 (by omega) _).mono ?_; rintro e w5 ⟨rfl, hb⟩
                  have x0 : w5.cell? ⟨w.heap.size, 0, none⟩ = some (.int .i64 0) := cell_below (by go_simp) hb
                  have x1 : w5.cell? ⟨w.heap.size, 1, none⟩ = some (.int .i64 0) := cell_below (by go_simp) hb
                  have y0 : w5.frozen? ⟨w.heap.size, 0, none⟩ = false := by rw [hb.frozen (p := ⟨w.heap.size, 0, none⟩) (by simp)]; go_simp
                  have y1 : w5.frozen? ⟨w.heap.size, 1, none⟩ = false := by rw [hb.frozen (p := ⟨w.heap.size, 1, none⟩) (by simp)]; go_simp
                  have hb' : Below w.heap.size w w5 := ((Below.refl _ w).alloc (Nat.le_refl _) (.cells #[.int .i64 0, .int .i64 0] 25)).drew.trans (hb.mono (by simp))
                  clear hb
                  unfold fracV)
  all_goals go_wp2
  all_goals refine bodyPost_ret (v := fracV (redN e D) (redD e D)) (by unfold fracV; simp [results, Try.results55, go_sem]; go_simp) rfl ?_
  all_goals exact ⟨rfl, (hb'.setCell (p := ⟨w.heap.size, 0, none⟩) (Nat.le_refl _) _).setCell (p := ⟨w.heap.size, 1, none⟩) (Nat.le_refl _) _⟩
end Go.Proofs.Ytifbiamfandjnaa
