/-
  The small functions of package units: what each call gives.
-/
import Derived.Test.YthfgicdpbbpnjaaGreatProg
import Derived.Test.YthfgicdpbbpnjaaGreatUnMath
import Derived.WalkKit
import Derived.WalkSpells
import Derived.WalkLawsBesides
import Derived.RegionTactic
import Derived.ChangeAlike
import Derived.Deep.QuietTactic
import Derived.BigQuiet
import Derived.Lib.Hide
namespace Go.Proofs.YthfgicdpbbpnjaaGreat.Uni
open Go.RowKit
set_option linter.unusedVariables false

theorem ret_ib {k : IntKind} {a b : Int} {c : Bool} (h : a = b) : Ending.returned (.tuple #[.int k a, .bool c]) = Ending.returned (.tuple #[.int k b, .bool c]) := by rw [h]
theorem gB (s : ByteArray) : ∀ (n : Nat) (h : n < s.size), ((s[n]'h).toNat : Int) = ((B s n : Nat) : Int) := fun n h => by rw [B_get s n h]

/-- How many units a code point takes. -/
def wd (p : Nat) : Nat := if p < 65536 then 1 else 2
theorem width_any (p : Nat) (w : World) :
    Calls Tryz.prog 42 #[.int .i32 p] w fun e w' => e = .returned (.int .i64 (wd p)) ∧ w = w' := by
  by_cases h : (p : Int) < 65536
  · have e : wd p = 1 := if_pos (by omega)
    rw [e]
    clear e
    go_enter Tryz.func42, Tryz.ntmps42
    go_wp2
    go_ret
    exact ⟨rfl, rfl⟩
  · have e : wd p = 2 := if_neg (by omega)
    rw [e]
    clear e
    go_enter Tryz.func42, Tryz.ntmps42
    go_wp2
    go_ret
    exact ⟨rfl, rfl⟩

theorem isHigh_any (p : Nat) (w : World) :
    Calls Tryz.prog 46 #[.int .i32 p] w fun e w' => e = .returned (.bool (isHi p)) ∧ w = w' := by
  unfold isHi
  by_cases h : 55296 ≤ p
  · by_cases h2 : p < 56320
    · go_enter Tryz.func46, Tryz.ntmps46
      go_wp2
      go_ret
      exact ⟨by simp [h, h2]; try omega, rfl⟩
    · go_enter Tryz.func46, Tryz.ntmps46
      go_wp2
      go_ret
      exact ⟨by simp [h, h2]; try omega, rfl⟩
  · go_enter Tryz.func46, Tryz.ntmps46
    go_wp2
    go_ret
    exact ⟨by simp; try omega, rfl⟩

theorem isLow_any (p : Nat) (w : World) :
    Calls Tryz.prog 47 #[.int .i32 p] w fun e w' => e = .returned (.bool (isLo p)) ∧ w = w' := by
  unfold isLo
  by_cases h : 56320 ≤ p
  · by_cases h2 : p ≤ 57343
    · go_enter Tryz.func47, Tryz.ntmps47
      go_wp2
      go_ret
      exact ⟨by simp [h, h2]; try omega, rfl⟩
    · go_enter Tryz.func47, Tryz.ntmps47
      go_wp2
      go_ret
      exact ⟨by simp [h, h2]; try omega, rfl⟩
  · go_enter Tryz.func47, Tryz.ntmps47
    go_wp2
    go_ret
    exact ⟨by simp; try omega, rfl⟩

theorem and224 : ∀ a : Fin 256, (bits .and .u8 (a.val : Int) 224 = 160) ↔ a.val / 32 = 5 := by
  intro a
  have := u8_and_nat a.val 224 a.isLt (by omega)
  have e : ∀ a : Fin 256, (a.val &&& 224 = 160) ↔ a.val / 32 = 5 := by decide +kernel
  rw [show ((224 : Int)) = ((224 : Nat) : Int) from rfl, this]
  rw [← e a]
  omega
theorem and192 : ∀ a : Fin 256, (bits .and .u8 (a.val : Int) 192 = 128) ↔ a.val / 64 = 2 := by
  intro a
  have := u8_and_nat a.val 192 a.isLt (by omega)
  have e : ∀ a : Fin 256, (a.val &&& 192 = 128) ↔ a.val / 64 = 2 := by decide +kernel
  rw [show ((192 : Int)) = ((192 : Nat) : Int) from rfl, this]
  rw [← e a]
  omega
theorem and63 (a : Nat) (h : a < 256) : bits .and .u8 (a : Int) 63 = ((a % 64 : Nat) : Int) := by
  have := u8_and_nat a 63 h (by omega)
  rw [show ((63 : Int)) = ((63 : Nat) : Int) from rfl, this]
  rw [show (63 : Nat) = 2 ^ 6 - 1 from rfl, Nat.and_two_pow_sub_one_eq_mod]

set_option maxHeartbeats 400000 in
theorem first_no (s : ByteArray) (w : World) (hs : s.size ≤ 9223372036854775807) (h : surB s 0 = false) :
    Calls Tryz.prog 45 #[.string s] w fun e w' => e = .returned (.tuple #[.int .i32 0, .bool false]) ∧ w = w' := by
  have hn := surB_not h
  have hb := gB s
  have e1 := and224 ⟨B s 1, B_lt s 1⟩
  have e2 := and192 ⟨B s 2, B_lt s 2⟩
  clear h
  by_cases h3 : 3 ≤ s.size
  · by_cases h0 : B s 0 = 237
    · by_cases h1 : B s 1 / 32 = 5
      · have f1 := e1.2 h1
        have f2 : (bits .and .u8 (B s 2 : Int) 192 != 128) = true := by simp only [bne_iff_ne]; exact fun x => hn ⟨by omega, h0, h1, e2.1 x⟩
        have f0 : ((B s 0 : Nat) : Int) = 237 := by omega
        clear e1 e2 h0 h1 hn
        go_enter Tryz.func45, Tryz.ntmps45
        go_wp2
        go_ret2
        exact ⟨rfl, rfl⟩
      · have f1 : (bits .and .u8 (B s 1 : Int) 224 != 160) = true := by simp only [bne_iff_ne]; exact fun x => h1 (e1.1 x)
        have f0 : ((B s 0 : Nat) : Int) = 237 := by omega
        clear e1 e2 h0 h1 hn
        go_enter Tryz.func45, Tryz.ntmps45
        go_wp2
        go_ret2
        exact ⟨rfl, rfl⟩
    · have f0 : (((B s 0 : Nat) : Int) != 237) = true := by simp only [bne_iff_ne]; omega
      clear e1 e2 h0 hn
      go_enter Tryz.func45, Tryz.ntmps45
      go_wp2
      go_ret2
      exact ⟨rfl, rfl⟩
  · clear e1 e2 hn
    go_enter Tryz.func45, Tryz.ntmps45
    go_wp2
    go_ret2
    exact ⟨rfl, rfl⟩

set_option maxHeartbeats 400000 in
theorem first_yes (s : ByteArray) (w : World) (hs : s.size ≤ 9223372036854775807) (h : surB s 0 = true) :
    Calls Tryz.prog 45 #[.string s] w fun e w' => e = .returned (.tuple #[.int .i32 (surV s 0), .bool true]) ∧ ∃ n, w' = w.drewN n := by
  obtain ⟨h3, h0, h1, h2⟩ := surB_iff h
  have hb := gB s
  have f1 := (and224 ⟨B s 1, B_lt s 1⟩).2 h1
  have f2 := (and192 ⟨B s 2, B_lt s 2⟩).2 h2
  have f0 : ((B s 0 : Nat) : Int) = 237 := by omega
  have g1 := and63 (B s 1) (B_lt s 1)
  have g2 := and63 (B s 2) (B_lt s 2)
  simp only [Nat.zero_add] at h3 h1 h2
  have k1 : 1 < s.size := by omega
  have k2 : 2 < s.size := by omega
  clear h0 h1 h2 h
  go_enter Tryz.func45, Tryz.ntmps45
  go_wp2
  go_quiet (fail)
  go_wp2
  go_ret2
  exact ⟨ret_ib (by unfold surV; simp), _, rfl⟩
end Go.Proofs.YthfgicdpbbpnjaaGreat.Uni
