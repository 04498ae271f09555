/-
  units.Len by its visitor.
-/
import Derived.Test.YtlpfdhmifcmhaaaUnOf
import Derived.Deep.RegionWith
namespace Go.Proofs.Ytlpfdhmifcmhaaa.Uni
open Go.RowKit
set_option linter.unusedVariables false

/-- What the visitor of Len keeps: the captured variable's block holds the number so far. -/
def InvLen (w0 : World) (base c : Nat) (done : List Nat) (wr : World) : Prop :=
  wr.heap[c]? = some (.cells #[.int .i64 ((uns done).length : Nat)] 3 (0, 0)) ∧ Below base w0 wr

theorem un_wd (p : Nat) : (un p).length = wd p := by rw [un_len]; rfl

end Go.Proofs.Ytlpfdhmifcmhaaa.Uni
