/-
  SEQ, part C: the steps of the walk of such a region.
-/
import Derived.Test.YtbocmbhinjkjlaaSeqB
import Derived.Deep.QuietTactic
set_option linter.unusedSimpArgs false
set_option linter.unusedVariables false
namespace Go.Seq
open Go Go.RowKit
section
variable {P : Program} {ops : Array Oper} {C : Bool → World → Prop} {p k : Nat} {Q : Act → Prop} {o : Oper} {rest : List Oper} {a : Act} {v : Value}
theorem lex_want (hw : Region.wanted o (yielded ops a.tmps) = true) (ht : Tr P C p k o a v) (h : lexT P ops C p Q (k + 1) rest (a.put o.dst v)) : lexT P ops C p Q k (o :: rest) a := ⟨v, .inl ⟨hw, ht⟩, h⟩
theorem lex_skip (hw : Region.wanted o (yielded ops a.tmps) = false) (hk : (k == p) = false) (h : lexT P ops C p Q (k + 1) rest (a.put o.dst undef)) : lexT P ops C p Q k (o :: rest) a := ⟨undef, .inr ⟨hw, by simpa using hk, rfl⟩, h⟩
theorem lex_nil (h : Q a) : lexT P ops C p Q k [] a := h
theorem tr_read (R : World → Prop) (hk : (k == p) = false) (hCR : ∀ b w, C b w → R w) (h : ∀ w, R w → (execOp a.eval o).run P w = .ok (.value v) w) : Tr P C p k o a v := by
  intro b w _ hC
  rw [h w (hCR b w hC), hk, Bool.or_false]
  exact ⟨rfl, hC⟩
theorem tr_call {f : FuncId} {args : Array Value} (R : World → Prop) (hk : (k == p) = false) (hCR : ∀ b w, C b w → R w) (hCd : ∀ b w n, C b w → C b (w.drewN n))
    (hc : ∀ w, R w → Calls P f args w fun e w' => e = .returned v ∧ ∃ n, w' = w.drewN n) (h : ∀ w, (execOp a.eval o).run P w = .ok (.enter f args) w) : Tr P C p k o a v := by
  intro b w _ hC
  rw [h w, hk, Bool.or_false]
  exact (hc w (hCR b w hC)).mono fun e w' ⟨he, n, hn⟩ => ⟨he, hn ▸ hCd b w n hC⟩
theorem tr_yield {l : Nat} {args : Array Value} (hk : (k == p) = true) (hy : ∀ w, C false w → YieldAt Fence.wide 0 P l args w fun e w' => e = .returned v ∧ C true w')
    (h : ∀ w, (execOp a.eval o).run P w = (Instr.yield l args).run P w) : Tr P C p k o a v := by
  intro b w hb hC
  obtain rfl : b = false := hb (by simpa using hk)
  obtain ⟨fn, tmps, assign, body, hr, hR⟩ := hy w hC
  rw [h w, hr, hk]
  exact hR
theorem tr_pivot (hk : (k == p) = true) (h : ∀ w, C false w → Comes P (C true) v ((execOp a.eval o).run P w)) : Tr P C p k o a v := by
  intro b w hb hC
  obtain rfl : b = false := hb (by simpa using hk)
  rw [hk]
  exact h w hC
end
end Go.Seq
