/-
  The small functions of package numbers and their counterparts: what each call gives.
-/
import Derived.Test.YthfgicdpbbpnjaaGreatProg
import Derived.Test.YthfgicdpbbpnjaaGreatNmNum
import Derived.WalkKit
import Derived.WalkSpells
import Derived.WalkLawsBesides
import Derived.RegionTactic
import Derived.ChangeAlike
import Derived.Deep.QuietTactic
import Derived.BigQuiet
import Derived.Lib.Hide
namespace Go.Proofs.YthfgicdpbbpnjaaGreat.Nums
open Go.RowKit
set_option linter.unusedVariables false

theorem ret_b {a b : Bool} (h : a = b) : Ending.returned (.bool a) = Ending.returned (.bool b) := by rw [h]
theorem ret_ib {k : IntKind} {a b : Int} {c d : Bool} (h : a = b) (g : c = d) : Ending.returned (.tuple #[.int k a, .bool c]) = Ending.returned (.tuple #[.int k b, .bool d]) := by rw [h, g]

/-- What a result of two parts is: the number and true, or 0 and false. -/
def two (r : Option Int) : Ending := .returned (.tuple #[.int .i64 (r.getD 0), .bool r.isSome])
theorem two_some (n : Int) : Ending.returned (.tuple #[.int .i64 n, .bool true]) = two (some n) := rfl
theorem two_none : Ending.returned (.tuple #[.int .i64 0, .bool false]) = two none := rfl
theorem two_wrap {n : Int} (h : wrap64 n = n) : Ending.returned (.tuple #[.int .i64 (wrap64 n), .bool true]) = two (some n) := by rw [h]; rfl

theorem safe_any (n : Int) (w : World) :
    Calls Tryz.prog 32 #[.int .i64 n] w fun e w' => e = .returned (.bool (sf n)) ∧ w = w' := by
  by_cases h : -9007199254740991 ≤ n
  · by_cases h2 : n ≤ 9007199254740991
    · rw [sf_mk h h2]
      go_enter Tryz.func32, Tryz.ntmps32
      go_wp2
      go_ret
      exact ⟨rfl, rfl⟩
    · rw [sf_no (by omega)]
      go_enter Tryz.func32, Tryz.ntmps32
      go_wp2
      go_ret
      exact ⟨rfl, rfl⟩
  · rw [sf_no (by omega)]
    go_enter Tryz.func32, Tryz.ntmps32
    go_wp2
    go_ret
    exact ⟨rfl, rfl⟩

theorem rsafe_any (n : Int) (w : World) :
    Calls Tryz.prog 10 #[.int .i64 n] w fun e w' => e = .returned (.bool (sf n)) ∧ w = w' := by
  by_cases h : -9007199254740991 ≤ n
  · by_cases h2 : n ≤ 9007199254740991
    · rw [sf_mk h h2]
      go_enter Tryz.func10, Tryz.ntmps10
      go_wp2
      go_ret
      exact ⟨rfl, rfl⟩
    · rw [sf_no (by omega)]
      go_enter Tryz.func10, Tryz.ntmps10
      go_wp2
      go_ret
      exact ⟨rfl, rfl⟩
  · rw [sf_no (by omega)]
    go_enter Tryz.func10, Tryz.ntmps10
    go_wp2
    go_ret
    exact ⟨rfl, rfl⟩
end Go.Proofs.YthfgicdpbbpnjaaGreat.Nums
