/-
  numbers.product and numbers.exact: what each call gives.
-/
import Derived.Test.YtjhmiignkcgpnaaDoorSmall
import Derived.IntWalk
namespace Go.Proofs.YtjhmiignkcgpnaaDoor
open Go.RowKit

theorem prod_big {a b : Int} (h : 9007199254740991 / (a.natAbs : Int) < (b.natAbs : Int)) (ha : a ≠ 0) : sf (a * b) = false := by
  have hp : 0 < a.natAbs := by omega
  have e : 9007199254740991 / (a.natAbs : Int) = ((9007199254740991 / a.natAbs : Nat) : Int) := rfl
  rw [e] at h
  have h2 : 9007199254740991 / a.natAbs < b.natAbs := by omega
  have h3 : 9007199254740991 < b.natAbs * a.natAbs := (Nat.div_lt_iff_lt_mul hp).1 h2
  have h4 : (a * b).natAbs = a.natAbs * b.natAbs := Int.natAbs_mul a b
  rw [Nat.mul_comm] at h3
  exact sf_no (by omega)
theorem prod_small {a b : Int} (h : (b.natAbs : Int) ≤ 9007199254740991 / (a.natAbs : Int)) (ha : a ≠ 0) : -9007199254740991 ≤ a * b ∧ a * b ≤ 9007199254740991 := by
  have hp : 0 < a.natAbs := by omega
  have e : 9007199254740991 / (a.natAbs : Int) = ((9007199254740991 / a.natAbs : Nat) : Int) := rfl
  rw [e] at h
  have h2 : b.natAbs ≤ 9007199254740991 / a.natAbs := by omega
  have h3 : b.natAbs * a.natAbs ≤ 9007199254740991 := (Nat.le_div_iff_mul_le hp).1 h2
  have h4 : (a * b).natAbs = a.natAbs * b.natAbs := Int.natAbs_mul a b
  rw [Nat.mul_comm] at h3
  omega

/-- The product, where it is a number of the language. -/
def prF (a b : Int) : Option Int := if sf (a * b) = true then some (a * b) else none

set_option maxHeartbeats 800000 in
theorem product_any (a b : Int) (w : World) (a0 : -9007199254740991 ≤ a) (a1 : a ≤ 9007199254740991) (b0 : -9007199254740991 ≤ b) (b1 : b ≤ 9007199254740991) :
    Calls Tryd.prog 19 #[.int .i64 a, .int .i64 b] w fun e w' => e = .returned (.tuple #[.int .i64 ((prF a b).getD 0), .bool (prF a b).isSome]) ∧ w = w' := by
  by_cases ha : a = 0
  · subst ha
    have e : prF 0 b = some 0 := by unfold prF; rw [Int.zero_mul, if_pos (by decide)]
    rw [e]; clear e
    go_enter Tryd.func19, Tryd.ntmps19
    go_wp2
    go_ret2
    exact ⟨rfl, rfl⟩
  · by_cases h : 9007199254740991 / (a.natAbs : Int) < (b.natAbs : Int)
    · have e : prF a b = none := by unfold prF; rw [prod_big h ha, if_neg (by decide)]
      rw [e]; clear e
      have hne : (a != 0) = true := by simpa using ha
      have hd : decide (9007199254740991 / (a.natAbs : Int) < (b.natAbs : Int)) = true := decide_eq_true h
      clear h
      go_enter Tryd.func19, Tryd.ntmps19
      go_wp2_with (go_at_call 23; refine (mag_any _ _ (by omega) (by omega)).mono ?_; rintro e w' ⟨rfl, rfl⟩)
      go_ret2
      exact ⟨rfl, rfl⟩
    · have hb := prod_small (a := a) (b := b) (Int.not_lt.1 h) ha
      have e : prF a b = some (a * b) := by unfold prF; rw [if_pos (sf_mk hb.1 hb.2)]
      rw [e]; clear e
      have hw : wrap64 (a * b) = a * b := IntWalk.wrap64_in _ (by omega)
      clear hb
      have hne : (a != 0) = true := by simpa using ha
      have hd : decide (9007199254740991 / (a.natAbs : Int) < (b.natAbs : Int)) = false := decide_eq_false h
      clear h
      go_enter Tryd.func19, Tryd.ntmps19
      go_wp2_with (go_at_call 23; refine (mag_any _ _ (by omega) (by omega)).mono ?_; rintro e w' ⟨rfl, rfl⟩)
      go_ret2
      exact ⟨ret_ib hw rfl, rfl⟩
end Go.Proofs.YtjhmiignkcgpnaaDoor
