/-
  units.points: what it gives for whatever visitor keeps its own invariant.
-/
import Derived.Test.YtjnohhklbieecaaUnLow
namespace Go.Proofs.Ytjnohhklbieecaa.Uni
open Go.RowKit
set_option linter.unusedVariables false

end Go.Proofs.Ytjnohhklbieecaa.Uni
