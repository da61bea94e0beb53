/-
  Card's awake: what every call of it comes to, computed by the kernel.
-/
import Derived.Test.YtioaaigbpfdjmaaDoorRunR
import Derived.Lib.LaidTab
import Derived.Test.YtioaaigbpfdjmaaDoorProg
set_option linter.unusedSimpArgs false
set_option linter.unusedVariables false
namespace Go.Proofs.YtioaaigbpfdjmaaDoor
open Go Go.CRun Go.Proofs Go.RowKit
set_option maxRecDepth 1000000
def zs : List Int := [0, 1, 28, 2, 29, 14, 24, 3, 30, 22, 20, 15, 25, 17, 4, 8, 31, 27, 13, 23, 21, 19, 16, 7, 26, 12, 18, 6, 11, 5, 10, 9]
def tabG : List Value := [.int .u8 0, .int .u8 1, .int .u8 28, .int .u8 2, .int .u8 29, .int .u8 14, .int .u8 24, .int .u8 3, .int .u8 30, .int .u8 22, .int .u8 20, .int .u8 15, .int .u8 25, .int .u8 17, .int .u8 4, .int .u8 8, .int .u8 31, .int .u8 27, .int .u8 13, .int .u8 23, .int .u8 21, .int .u8 19, .int .u8 16, .int .u8 7, .int .u8 26, .int .u8 12, .int .u8 18, .int .u8 6, .int .u8 11, .int .u8 5, .int .u8 10, .int .u8 9]
def G : Globs := [(1, tabG)]
def sOf (l : List UInt8) : Value := .string ⟨l.toArray⟩
def extT : List EL := [
  (125, [sOf [48, 49], sOf [49, 48]], .int .i64 (-1)), (125, [sOf [49, 48], sOf [48, 49]], .int .i64 1),
  (125, [sOf [45, 48], sOf [49, 45]], .int .i64 (-1)), (125, [sOf [49, 45], sOf [45, 48]], .int .i64 1),
  (137, [sOf [48, 49, 49, 49], .int .u8 45], .int .i64 (-1)), (137, [sOf [48, 49, 49, 48], .int .u8 45], .int .i64 (-1))]
theorem ext_ok : extOK Tryd.prog extT = true := by kernel_rfl
theorem names_ok : namesOK Tryd.prog = true := by kernel_rfl
theorem mixed_ok : Tryd.prog.follows .mixedOrders = true := by kernel_rfl
theorem codes_ok : codesOK Tryd.prog = true := by kernel_rfl
theorem prog_ok : ProgOK Tryd.prog := progOK_of names_ok mixed_ok codes_ok
noncomputable def X0 : Known := tabs extT []
def k1 : KR := ⟨60, [.agg #[.int .i64 2, .int .u32 6, .int .u32 9]], ⟨false, [.sl [.int .i64 3, .int .i64 2, .int .i64 3, .int .i64 1] 89 2 2 2]⟩⟩
def k2 : KR := ⟨60, [.agg #[.int .i64 2, .int .u32 9, .int .u32 4]], ⟨false, [.sl [.int .i64 2, .int .i64 0, .int .i64 1, .int .i64 1] 89 2 2 2]⟩⟩
theorem r1 : runF Tryd.prog G X0 5000 60 [.agg #[.int .i64 2, .int .u32 6, .int .u32 9]] (isRes ⟨false, [.sl [.int .i64 3, .int .i64 2, .int .i64 3, .int .i64 1] 89 2 2 2]⟩) = true := by kernel_rfl
theorem r2 : runF Tryd.prog G X0 5000 60 [.agg #[.int .i64 2, .int .u32 9, .int .u32 4]] (isRes ⟨false, [.sl [.int .i64 2, .int .i64 0, .int .i64 1, .int .i64 1] 89 2 2 2]⟩) = true := by kernel_rfl
noncomputable def X1 : Known := tabs extT [k1, k2]
theorem r3 : runF Tryd.prog G X1 5000 20 [] (isRes ⟨false, [.flat (.bool true)]⟩) = true := by kernel_rfl
theorem x0_ok (N : Nat) : KnownOK Tryd.prog G N X0 := knownOK_of prog_ok ext_ok (by simp)
theorem x1_ok (N : Nat) : KnownOK Tryd.prog G N X1 := by
  refine knownOK_of prog_ok ext_ok fun k hk => ?_
  simp only [List.mem_cons, List.not_mem_nil, or_false] at hk
  rcases hk with rfl | rfl
  · exact line_of_run prog_ok (x0_ok N) (k := k1) r1 (by decide)
  · exact line_of_run prog_ok (x0_ok N) (k := k2) r2 (by decide)
theorem glob_ok {w : World} (ht : Lib.TabIs Tryd.prog w "math/bits.deBruijn32tab" .u8 zs) : GlobOK G 2 w := by
  have hg : Tryd.prog.globalNamed "math/bits.deBruijn32tab" = some 1 := by kernel_rfl
  intro g vs hm
  simp only [G, List.mem_cons, List.not_mem_nil, or_false, Prod.mk.injEq] at hm
  obtain ⟨rfl, rfl⟩ := hm
  refine ⟨by decide, by decide, fun j v hj => ?_⟩
  have hlt : j < 32 := (List.getElem?_eq_some_iff.1 hj).1
  have hz := ht.cell hg j hlt
  rw [hz]
  have : tabG[j]? = some (.int .u8 (zs.getD j 0)) := by
    have e : tabG = zs.map fun z => Value.int .u8 z := rfl
    rw [e, List.getElem?_map]
    have hj' : j < zs.length := hlt
    simp [List.getD, hj']
  rw [← this, hj]
/-- AWAKE: every call of it says true, and touches nothing that was. -/
theorem awake_calls {w : World} (ht : Lib.TabIs Tryd.prog w "math/bits.deBruijn32tab" .u8 zs) :
    Calls Tryd.prog 20 #[] w fun e w' => e = .returned (.bool true) ∧ Below w.heap.size w w' := by
  have hG := glob_ok ht
  have hN : 2 ≤ w.heap.size := by
    have := (hG 1 tabG (by simp [G])).2.2 0 (.int .u8 0) rfl
    rcases Nat.lt_or_ge 1 w.heap.size with h | h
    · exact h
    · simp [World.cell?, Array.getElem?_eq_none h] at this
  exact true_of_sum (sum_of_run prog_ok (x1_ok 2) r3 rfl) hG hN
end Go.Proofs.YtioaaigbpfdjmaaDoor
