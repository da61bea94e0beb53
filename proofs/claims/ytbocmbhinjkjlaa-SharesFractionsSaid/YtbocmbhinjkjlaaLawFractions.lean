/- The law SharesFractions: its walk. -/
import Derived.Test.YtbocmbhinjkjlaaFracYes
import Derived.Test.YtbocmbhinjkjlaaFracNo
set_option linter.unusedSimpArgs false
set_option linter.unusedVariables false
namespace Go.Proofs.Ytbocmbhinjkjlaa
open Go Go.Proofs Go.RowKit Go.Seq
theorem fractions_any {v : Value} {l0 : Pts} {w : World} (hu : ArgFracs w v l0) (hw0 : ∀ z ∈ l0, In64 z.1 ∧ In64 z.2) :
    Calls Try.prog 9 #[v] w fun e w' => e = .returned (.bool true) ∧ Below w.heap.size w w' := by
  have q21 : Calls Try.prog 21 #[v] w fun e w' => ∃ v', e = .returned v' ∧ FracsO w' v' (l0.take 11) ∧ Below w.heap.size w w' := (fracs_any hu).mono fun e w' ⟨v', h1, h2, h3⟩ => ⟨v', h1, own_fracs h2, h3⟩
  cases hD : okTs (l0.take 11) with
  | true => exact fractions_yes q21 (take_wide hw0) hD
  | false => exact fractions_no q21 (take_wide hw0) (take_len11 l0) hD
end Go.Proofs.Ytbocmbhinjkjlaa
