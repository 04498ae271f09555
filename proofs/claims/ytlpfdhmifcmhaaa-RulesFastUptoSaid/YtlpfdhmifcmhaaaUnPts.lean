/-
  units.points: what it gives for whatever visitor keeps its own invariant.
-/
import Derived.Test.YtlpfdhmifcmhaaaUnLow
namespace Go.Proofs.Ytlpfdhmifcmhaaa.Uni
open Go.RowKit
set_option linter.unusedVariables false

end Go.Proofs.Ytlpfdhmifcmhaaa.Uni
