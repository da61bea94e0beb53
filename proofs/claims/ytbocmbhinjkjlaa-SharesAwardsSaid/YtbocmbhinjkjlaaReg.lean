/- Drawn regions of pure reads: an operation that reads, and one whose guard does not ask for it. -/
import Derived.Test.YtbocmbhinjkjlaaHeirsA
import Derived.Test.YtbocmbhinjkjlaaAwake
import Derived.Test.YtbocmbhinjkjlaaSeqF
import Derived.Test.YtbocmbhinjkjlaaSeqH
set_option linter.unusedSimpArgs false
set_option linter.unusedVariables false
namespace Go.Proofs.Ytbocmbhinjkjlaa
open Go Go.Proofs Go.RowKit Go.Seq
section
variable {P : Program} {ops : Array Oper} {C : (Nat → Bool) → World → Prop} {k : Nat} {Q : Act → Prop} {o : Oper} {rest : List Oper} {a : Act} {v : Value}
theorem lex_skip (hw : Region.wanted o (yielded ops a.tmps) = false) (hk : ∀ s w, C s w → C (Many.upd s k) w) (h : Many.lexT P ops C Q (k + 1) rest (a.put o.dst undef)) : Many.lexT P ops C Q k (o :: rest) a := ⟨undef, .inr ⟨hw, hk, rfl⟩, h⟩
def Cq (W : World) (_ : Nat → Bool) (w : World) : Prop := ∃ q, w = W.drewN q
theorem Cq.keep {W : World} {k : Nat} : ∀ s w, Cq W s w → Cq W (Many.upd s k) w := fun _ _ h => h
theorem rd {P : Program} {W : World} {k : Nat} {o : Oper} {a : Act} {v : Value} (h : ∀ q, (execOp a.eval o).run P (W.drewN q) = .ok (.value v) (W.drewN q)) : Many.Tr P (Cq W) k o a v :=
  Many.tr_read (fun w => ∃ q, w = W.drewN q) (fun _ _ h => h) (fun _ _ h => h) (fun w ⟨q, hq⟩ => by rw [hq]; exact h q)
end
end Go.Proofs.Ytbocmbhinjkjlaa
