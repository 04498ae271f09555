/-
  The small functions of package units: what each call gives.
-/
import Derived.Test.YtlpfdhmifcmhaaaProg
import Derived.Test.YtlpfdhmifcmhaaaUnMath
import Derived.WalkKit
import Derived.WalkSpells
import Derived.WalkLawsBesides
import Derived.RegionTactic
import Derived.ChangeAlike
import Derived.Deep.QuietTactic
import Derived.BigQuiet
import Derived.Lib.Hide
namespace Go.Proofs.Ytlpfdhmifcmhaaa.Uni
open Go.RowKit
set_option linter.unusedVariables false

theorem ret_ib {k : IntKind} {a b : Int} {c : Bool} (h : a = b) : Ending.returned (.tuple #[.int k a, .bool c]) = Ending.returned (.tuple #[.int k b, .bool c]) := by rw [h]
theorem gB (s : ByteArray) : ∀ (n : Nat) (h : n < s.size), ((s[n]'h).toNat : Int) = ((B s n : Nat) : Int) := fun n h => by rw [B_get s n h]

/-- How many units a code point takes. -/
def wd (p : Nat) : Nat := if p < 65536 then 1 else 2
theorem and224 : ∀ a : Fin 256, (bits .and .u8 (a.val : Int) 224 = 160) ↔ a.val / 32 = 5 := by
  intro a
  have := u8_and_nat a.val 224 a.isLt (by omega)
  have e : ∀ a : Fin 256, (a.val &&& 224 = 160) ↔ a.val / 32 = 5 := by decide +kernel
  rw [show ((224 : Int)) = ((224 : Nat) : Int) from rfl, this]
  rw [← e a]
  omega
theorem and192 : ∀ a : Fin 256, (bits .and .u8 (a.val : Int) 192 = 128) ↔ a.val / 64 = 2 := by
  intro a
  have := u8_and_nat a.val 192 a.isLt (by omega)
  have e : ∀ a : Fin 256, (a.val &&& 192 = 128) ↔ a.val / 64 = 2 := by decide +kernel
  rw [show ((192 : Int)) = ((192 : Nat) : Int) from rfl, this]
  rw [← e a]
  omega
theorem and63 (a : Nat) (h : a < 256) : bits .and .u8 (a : Int) 63 = ((a % 64 : Nat) : Int) := by
  have := u8_and_nat a 63 h (by omega)
  rw [show ((63 : Int)) = ((63 : Nat) : Int) from rfl, this]
  rw [show (63 : Nat) = 2 ^ 6 - 1 from rfl, Nat.and_two_pow_sub_one_eq_mod]

end Go.Proofs.Ytlpfdhmifcmhaaa.Uni
