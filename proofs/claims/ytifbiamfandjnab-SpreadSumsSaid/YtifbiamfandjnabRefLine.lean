import Derived.Test.YtifbiamfandjnabLineAny
import Derived.Test.YtifbiamfandjnabRefFrac
set_option linter.unusedSimpArgs false
set_option linter.unusedVariables false
namespace Go.Proofs.Ytifbiamfandjnab
open Go Go.Proofs Go.RowKit
end Go.Proofs.Ytifbiamfandjnab
