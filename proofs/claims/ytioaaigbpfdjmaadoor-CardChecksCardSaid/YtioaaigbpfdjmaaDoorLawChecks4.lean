import Derived.Test.YtioaaigbpfdjmaaDoorLawChecks3
import Derived.Test.YtioaaigbpfdjmaaDoorArgTexts
set_option linter.unusedSimpArgs false
set_option linter.unusedVariables false
namespace Go.Proofs.YtioaaigbpfdjmaaDoor
open Go Go.Proofs Go.RowKit Go.CRun
/-- CARDCHECKS: every call of the law says true. -/
theorem checks_any {s : ByteArray} {v : Value} {ls : List ByteArray} {w : World} (hsz : s.size ≤ 9223372036854775807) (hv : TextsAt w v ls) (hls : ∀ s ∈ ls, s.size ≤ 9223372036854775807) (hT : TabW w) :
    Calls Tryd.prog 5 #[.string s, v] w fun e w' => e = .returned (.bool true) ∧ Below w.heap.size w w' := by
  have h40 := shortOf_size s
  have hl34 := few_le ls
  have h8 := few_size (ls := ls)
  by_cases h0 : varsOf (shortOf s) = 0
  · exact checks_bad hsz hv ⟨hls⟩ hT ⟨rfl⟩ h40 ⟨rfl⟩ hl34 ⟨fun c hc => Nat.le_trans (h8 c hc) (by omega)⟩ ⟨rfl⟩ (.inl h0)
  · by_cases h32 : 32 < (fewOf ls).length
    · exact checks_bad hsz hv ⟨hls⟩ hT ⟨rfl⟩ h40 ⟨rfl⟩ hl34 ⟨fun c hc => Nat.le_trans (h8 c hc) (by omega)⟩ ⟨rfl⟩ (.inr h32)
    · cases hall : (fewOf ls).all (okN (varsOf (shortOf s)))
      · exact checks_no hsz hv ⟨hls⟩ hT ⟨rfl⟩ h40 ⟨rfl⟩ (by omega) ⟨h8⟩ ⟨rfl⟩ h0 hall
      · have hall' := List.all_eq_true.1 hall
        cases hcv : covB (shortOf s) (fewOf ls)
        · exact checks_uncov hsz hv ⟨hls⟩ hT ⟨rfl⟩ h40 ⟨rfl⟩ (by omega) ⟨h8⟩ ⟨rfl⟩ h0 hall' hcv
        · exact checks_cov hsz hv ⟨hls⟩ hT ⟨rfl⟩ h40 ⟨rfl⟩ (by omega) ⟨h8⟩ ⟨rfl⟩ h0 hall' hcv
end Go.Proofs.YtioaaigbpfdjmaaDoor
