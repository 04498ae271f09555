/-
  keys.isSymbol: what a call gives.
-/
import Derived.Test.YtlhgiihooalanaaDoorKyMath
import Derived.Test.YtlhgiihooalanaaDoorNmSmall
import Derived.Below
namespace Go.Proofs.YtlhgiihooalanaaDoor.Keys
open Go.RowKit Go.Proofs.YtlhgiihooalanaaDoor.Nums
set_option linter.unusedVariables false

theorem sym_yes (s : ByteArray) (y : Int) (hy : (y != 0) = true) (w : World) :
    Calls Tryd.prog 28 #[.agg #[.string s, .int .i64 y]] w fun e w' => e = .returned (.bool true) ∧ Below w.heap.size w w' := by
  go_enter Tryd.func28, Tryd.ntmps28
  go_wp2
  go_ret
  exact ⟨rfl, (Below.refl _ _).alloc (Nat.le_refl _) _⟩
theorem sym_no (s : ByteArray) (w : World) :
    Calls Tryd.prog 28 #[.agg #[.string s, .int .i64 0]] w fun e w' => e = .returned (.bool false) ∧ Below w.heap.size w w' := by
  go_enter Tryd.func28, Tryd.ntmps28
  go_wp2
  go_ret
  exact ⟨rfl, (Below.refl _ _).alloc (Nat.le_refl _) _⟩

end Go.Proofs.YtlhgiihooalanaaDoor.Keys
