/- An argument that is an array of three ints, or of two. -/
import Derived.Test.YtbocmbhinjkjlaaLists
import Derived.WalkKit
import Derived.ProofKit
import Derived.OpenShut
import Derived.Lib.SmallJoins
import Derived.DataShut
import Derived.ChangeSlices
import Derived.DataReads
import Derived.WideShapes
set_option linter.unusedSimpArgs false
set_option linter.unusedVariables false
namespace Go.Proofs.Ytbocmbhinjkjlaa
open Go Go.Proofs Go.RowKit Go.ChangeShapes Go.WideShapes Go.ChangeAt Go.Joins
theorem ok_int {P : Program} {W : World} {r : Reach} {b0 : Nat} {t : TypeId} {c : Value} (ht : P.underlying t = some (.int .i64)) (h : Cell.okWide P W r b0 t c) : ∃ x, c = .int .i64 x :=
  Go.WideShapes.okWide_int ht (by unfold Value.okWide; rw [ht]; exact h)
theorem arr_ints {P : Program} {W : World} {r : Reach} {b0 : Nat} {t k : TypeId} {n m : Nat} {v : Value} (hu : P.underlying t = some (.array m k)) (hc : P.cellsOf t = n) (ht : P.cellTypes P.depth t = some (List.replicate n 3))
    (h3 : P.underlying 3 = some (.int .i64)) (hval : Value.okWide P W r b0 t v) : ∃ cs : Array Value, v = .agg cs ∧ cs.size = n ∧ ∀ i, i < n → ∃ x : Int, cs[i]? = some (.int .i64 x) := by
  unfold Value.okWide at hval
  rw [hu] at hval
  obtain ⟨cs, rfl, hsz, ts, hts, _, hall⟩ := hval
  rw [ht] at hts
  obtain rfl := Option.some.inj hts
  rw [hc] at hsz
  refine ⟨cs, rfl, hsz, fun i hi => ?_⟩
  have hlt : i < cs.size := by rw [hsz]; exact hi
  obtain ⟨c, hci⟩ : ∃ c, cs[i]? = some c := ⟨cs[i]'hlt, Array.getElem?_eq_getElem hlt⟩
  obtain ⟨u, hu1, hu2⟩ := hall i c hci
  have hu3 : u = 3 := by
    rw [List.length_replicate, Nat.mod_eq_of_lt hi, List.getElem?_replicate, if_pos hi] at hu1
    exact (Option.some.inj hu1).symm
  rw [hu3] at hu2
  obtain ⟨x, hx⟩ := ok_int h3 hu2
  exact ⟨x, by rw [hci, hx]⟩
theorem arr2 {cs : Array Value} (h : cs.size = 2) (hi : ∀ i, i < 2 → ∃ x : Int, cs[i]? = some (.int .i64 x)) : ∃ a b : Int, cs = #[.int .i64 a, .int .i64 b] := by
  obtain ⟨a, ha⟩ := hi 0 (by omega)
  obtain ⟨b, hb⟩ := hi 1 (by omega)
  refine ⟨a, b, ?_⟩
  apply Array.ext_getElem?
  intro i
  match i with
  | 0 => simpa using ha
  | 1 => simpa using hb
  | i + 2 => rw [Array.getElem?_eq_none (by omega)]; simp
theorem arr3 {cs : Array Value} (h : cs.size = 3) (hi : ∀ i, i < 3 → ∃ x : Int, cs[i]? = some (.int .i64 x)) : ∃ a b c : Int, cs = #[.int .i64 a, .int .i64 b, .int .i64 c] := by
  obtain ⟨a, ha⟩ := hi 0 (by omega)
  obtain ⟨b, hb⟩ := hi 1 (by omega)
  obtain ⟨c, hc⟩ := hi 2 (by omega)
  refine ⟨a, b, c, ?_⟩
  apply Array.ext_getElem?
  intro i
  match i with
  | 0 => simpa using ha
  | 1 => simpa using hb
  | 2 => simpa using hc
  | i + 3 => rw [Array.getElem?_eq_none (by omega)]; simp
set_option maxRecDepth 100000 in
theorem arg3 {W : World} {r : Reach} {b0 : Nat} {v : Value} (hval : Value.okWide Try.prog W r b0 79 v) : ∃ a b c : Int, v = .agg #[.int .i64 a, .int .i64 b, .int .i64 c] := by
  obtain ⟨cs, rfl, h1, h2⟩ := arr_ints (n := 3) (m := 3) (k := 3) (by kernel_rfl) (by kernel_rfl) (by kernel_rfl) (by kernel_rfl) hval
  obtain ⟨a, b, c, rfl⟩ := arr3 h1 h2
  exact ⟨a, b, c, rfl⟩
set_option maxRecDepth 100000 in
theorem arg2 {W : World} {r : Reach} {b0 : Nat} {v : Value} (hval : Value.okWide Try.prog W r b0 22 v) : ∃ a b : Int, v = .agg #[.int .i64 a, .int .i64 b] := by
  obtain ⟨cs, rfl, h1, h2⟩ := arr_ints (n := 2) (m := 2) (k := 3) (by kernel_rfl) (by kernel_rfl) (by kernel_rfl) (by kernel_rfl) hval
  obtain ⟨a, b, rfl⟩ := arr2 h1 h2
  exact ⟨a, b, rfl⟩
end Go.Proofs.Ytbocmbhinjkjlaa
