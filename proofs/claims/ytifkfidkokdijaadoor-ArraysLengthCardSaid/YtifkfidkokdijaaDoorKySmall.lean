/-
  keys.isSymbol: what a call gives.
-/
import Derived.Test.YtifkfidkokdijaaDoorKyMath
import Derived.Test.YtifkfidkokdijaaDoorNmSmall
import Derived.Below
namespace Go.Proofs.YtifkfidkokdijaaDoor.Keys
open Go.RowKit Go.Proofs.YtifkfidkokdijaaDoor.Nums
set_option linter.unusedVariables false

theorem sym_yes (s : ByteArray) (y : Int) (hy : (y != 0) = true) (w : World) :
    Calls Tryd.prog 13 #[.agg #[.string s, .int .i64 y]] w fun e w' => e = .returned (.bool true) ∧ Below w.heap.size w w' := by
  go_enter Tryd.func13, Tryd.ntmps13
  go_wp2
  go_ret
  exact ⟨rfl, (Below.refl _ _).alloc (Nat.le_refl _) _⟩
theorem sym_no (s : ByteArray) (w : World) :
    Calls Tryd.prog 13 #[.agg #[.string s, .int .i64 0]] w fun e w' => e = .returned (.bool false) ∧ Below w.heap.size w w' := by
  go_enter Tryd.func13, Tryd.ntmps13
  go_wp2
  go_ret
  exact ⟨rfl, (Below.refl _ _).alloc (Nat.le_refl _) _⟩

end Go.Proofs.YtifkfidkokdijaaDoor.Keys
