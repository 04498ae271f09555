/-
  Texts of this seat in build order: UnLow, LxSmall.
-/
import Derived.Test.YtocebhaaamnfiaaGreatDoorProg
import Derived.Test.YtocebhaaamnfiaaGreatDoorMg00
import Derived.WalkKit
import Derived.WalkSpells
import Derived.WalkLawsBesides
import Derived.RegionTactic
import Derived.ChangeAlike
import Derived.Deep.QuietTactic
import Derived.BigQuiet
import Derived.Lib.Hide
import Derived.Test.YtocebhaaamnfiaaGreatDoorMg01
/-
  The small functions of package units: what each call gives.
-/
namespace Go.Proofs.YtocebhaaamnfiaaGreatDoor.Uni
open Go.RowKit
set_option linter.unusedVariables false

theorem ret_ib {k : IntKind} {a b : Int} {c : Bool} (h : a = b) : Ending.returned (.tuple #[.int k a, .bool c]) = Ending.returned (.tuple #[.int k b, .bool c]) := by rw [h]
theorem gB (s : ByteArray) : ∀ (n : Nat) (h : n < s.size), ((s[n]'h).toNat : Int) = ((B s n : Nat) : Int) := fun n h => by rw [B_get s n h]

/-- How many units a code point takes. -/
def wd (p : Nat) : Nat := if p < 65536 then 1 else 2
theorem isHigh_any (p : Nat) (w : World) :
    Calls Tryz.prog 93 #[.int .i32 p] w fun e w' => e = .returned (.bool (isHi p)) ∧ w = w' := by
  unfold isHi
  by_cases h : 55296 ≤ p
  · by_cases h2 : p < 56320
    · go_enter Tryz.func93, Tryz.ntmps93
      go_wp2
      go_ret
      exact ⟨by simp [h, h2]; try omega, rfl⟩
    · go_enter Tryz.func93, Tryz.ntmps93
      go_wp2
      go_ret
      exact ⟨by simp [h, h2]; try omega, rfl⟩
  · go_enter Tryz.func93, Tryz.ntmps93
    go_wp2
    go_ret
    exact ⟨by simp; try omega, rfl⟩

theorem isLow_any (p : Nat) (w : World) :
    Calls Tryz.prog 94 #[.int .i32 p] w fun e w' => e = .returned (.bool (isLo p)) ∧ w = w' := by
  unfold isLo
  by_cases h : 56320 ≤ p
  · by_cases h2 : p ≤ 57343
    · go_enter Tryz.func94, Tryz.ntmps94
      go_wp2
      go_ret
      exact ⟨by simp [h, h2]; try omega, rfl⟩
    · go_enter Tryz.func94, Tryz.ntmps94
      go_wp2
      go_ret
      exact ⟨by simp [h, h2]; try omega, rfl⟩
  · go_enter Tryz.func94, Tryz.ntmps94
    go_wp2
    go_ret
    exact ⟨by simp; try omega, rfl⟩

theorem and224 : ∀ a : Fin 256, (bits .and .u8 (a.val : Int) 224 = 160) ↔ a.val / 32 = 5 := by
  intro a
  have := u8_and_nat a.val 224 a.isLt (by omega)
  have e : ∀ a : Fin 256, (a.val &&& 224 = 160) ↔ a.val / 32 = 5 := by decide +kernel
  rw [show ((224 : Int)) = ((224 : Nat) : Int) from rfl, this]
  rw [← e a]
  omega
theorem and192 : ∀ a : Fin 256, (bits .and .u8 (a.val : Int) 192 = 128) ↔ a.val / 64 = 2 := by
  intro a
  have := u8_and_nat a.val 192 a.isLt (by omega)
  have e : ∀ a : Fin 256, (a.val &&& 192 = 128) ↔ a.val / 64 = 2 := by decide +kernel
  rw [show ((192 : Int)) = ((192 : Nat) : Int) from rfl, this]
  rw [← e a]
  omega
theorem and63 (a : Nat) (h : a < 256) : bits .and .u8 (a : Int) 63 = ((a % 64 : Nat) : Int) := by
  have := u8_and_nat a 63 h (by omega)
  rw [show ((63 : Int)) = ((63 : Nat) : Int) from rfl, this]
  rw [show (63 : Nat) = 2 ^ 6 - 1 from rfl, Nat.and_two_pow_sub_one_eq_mod]

set_option maxHeartbeats 400000 in
theorem first_no (s : ByteArray) (w : World) (hs : s.size ≤ 9223372036854775807) (h : surB s 0 = false) :
    Calls Tryz.prog 108 #[.string s] w fun e w' => e = .returned (.tuple #[.int .i32 0, .bool false]) ∧ w = w' := by
  have hn := surB_not h
  have hb := gB s
  have e1 := and224 ⟨B s 1, B_lt s 1⟩
  have e2 := and192 ⟨B s 2, B_lt s 2⟩
  clear h
  by_cases h3 : 3 ≤ s.size
  · by_cases h0 : B s 0 = 237
    · by_cases h1 : B s 1 / 32 = 5
      · have f1 := e1.2 h1
        have f2 : (bits .and .u8 (B s 2 : Int) 192 != 128) = true := by simp only [bne_iff_ne]; exact fun x => hn ⟨by omega, h0, h1, e2.1 x⟩
        have f0 : ((B s 0 : Nat) : Int) = 237 := by omega
        clear e1 e2 h0 h1 hn
        go_enter Tryz.func108, Tryz.ntmps108
        go_wp2
        go_ret2
        exact ⟨rfl, rfl⟩
      · have f1 : (bits .and .u8 (B s 1 : Int) 224 != 160) = true := by simp only [bne_iff_ne]; exact fun x => h1 (e1.1 x)
        have f0 : ((B s 0 : Nat) : Int) = 237 := by omega
        clear e1 e2 h0 h1 hn
        go_enter Tryz.func108, Tryz.ntmps108
        go_wp2
        go_ret2
        exact ⟨rfl, rfl⟩
    · have f0 : (((B s 0 : Nat) : Int) != 237) = true := by simp only [bne_iff_ne]; omega
      clear e1 e2 h0 hn
      go_enter Tryz.func108, Tryz.ntmps108
      go_wp2
      go_ret2
      exact ⟨rfl, rfl⟩
  · clear e1 e2 hn
    go_enter Tryz.func108, Tryz.ntmps108
    go_wp2
    go_ret2
    exact ⟨rfl, rfl⟩

set_option maxHeartbeats 400000 in
theorem first_yes (s : ByteArray) (w : World) (hs : s.size ≤ 9223372036854775807) (h : surB s 0 = true) :
    Calls Tryz.prog 108 #[.string s] w fun e w' => e = .returned (.tuple #[.int .i32 (surV s 0), .bool true]) ∧ ∃ n, w' = w.drewN n := by
  obtain ⟨h3, h0, h1, h2⟩ := surB_iff h
  have hb := gB s
  have f1 := (and224 ⟨B s 1, B_lt s 1⟩).2 h1
  have f2 := (and192 ⟨B s 2, B_lt s 2⟩).2 h2
  have f0 : ((B s 0 : Nat) : Int) = 237 := by omega
  have g1 := and63 (B s 1) (B_lt s 1)
  have g2 := and63 (B s 2) (B_lt s 2)
  simp only [Nat.zero_add] at h3 h1 h2
  have k1 : 1 < s.size := by omega
  have k2 : 2 < s.size := by omega
  clear h0 h1 h2 h
  go_enter Tryz.func108, Tryz.ntmps108
  go_wp2
  go_quiet (fail)
  go_wp2
  go_ret2
  exact ⟨ret_ib (by unfold surV; simp), _, rfl⟩
end Go.Proofs.YtocebhaaamnfiaaGreatDoor.Uni

/-
  The lexer's small functions: classes of code points.
-/
namespace Go.Proofs.YtocebhaaamnfiaaGreatDoor.Lx
open Go.RowKit
set_option linter.unusedVariables false
set_option linter.unusedSimpArgs false

theorem ret_b {b c : Bool} (h : b = c) : Ending.returned (.bool b) = Ending.returned (.bool c) := by rw [h]

theorem ends_0 (p : Nat) (w : World) (h : p = 10) : Calls Tryz.prog 62 #[.int .i32 (p : Int)] w fun e w' => e = .returned (.bool (endN p)) ∧ w = w' := by
  have f0 : ((p : Int) == 10) = true := by simp; omega
  go_enter Tryz.func62, Tryz.ntmps62
  go_wp2
  go_ret
  exact ⟨ret_b (by simp [endN, whiteN, digitN, leadN, contN, lineN]; try omega), rfl⟩

theorem ends_1 (p : Nat) (w : World) (h : p = 13) : Calls Tryz.prog 62 #[.int .i32 (p : Int)] w fun e w' => e = .returned (.bool (endN p)) ∧ w = w' := by
  have f0 : ((p : Int) == 10) = false := by simp; omega
  have f1 : ((p : Int) == 13) = true := by simp; omega
  go_enter Tryz.func62, Tryz.ntmps62
  go_wp2
  go_ret
  exact ⟨ret_b (by simp [endN, whiteN, digitN, leadN, contN, lineN]; try omega), rfl⟩

theorem ends_2 (p : Nat) (w : World) (h : p ≠ 10 ∧ p ≠ 13) : Calls Tryz.prog 62 #[.int .i32 (p : Int)] w fun e w' => e = .returned (.bool (endN p)) ∧ w = w' := by
  have f0 : ((p : Int) == 10) = false := by simp; omega
  have f1 : ((p : Int) == 13) = false := by simp; omega
  go_enter Tryz.func62, Tryz.ntmps62
  go_wp2
  go_ret
  exact ⟨ret_b (by simp [endN, whiteN, digitN, leadN, contN, lineN]; try omega), rfl⟩

theorem ends_any (p : Nat) (w : World) : Calls Tryz.prog 62 #[.int .i32 (p : Int)] w fun e w' => e = .returned (.bool (endN p)) ∧ w = w' := by
  by_cases h1 : p = 10
  · exact ends_0 p w h1
  · by_cases h2 : p = 13
    · exact ends_1 p w h2
    · exact ends_2 p w ⟨h1, h2⟩

theorem white_0 (p : Nat) (w : World) (h : p = 32) : Calls Tryz.prog 84 #[.int .i32 (p : Int)] w fun e w' => e = .returned (.bool (whiteN p)) ∧ w = w' := by
  have f0 : ((p : Int) == 32) = true := by simp; omega
  go_enter Tryz.func84, Tryz.ntmps84
  go_wp2_with (go_at_call 62; refine (ends_any _ _).mono ?_; rintro e w' ⟨rfl, rfl⟩)
  go_ret
  exact ⟨ret_b (by simp [endN, whiteN, digitN, leadN, contN, lineN]; try omega), rfl⟩

theorem white_1 (p : Nat) (w : World) (h : p = 9) : Calls Tryz.prog 84 #[.int .i32 (p : Int)] w fun e w' => e = .returned (.bool (whiteN p)) ∧ w = w' := by
  have f0 : ((p : Int) == 32) = false := by simp; omega
  have f1 : ((p : Int) == 9) = true := by simp; omega
  go_enter Tryz.func84, Tryz.ntmps84
  go_wp2_with (go_at_call 62; refine (ends_any _ _).mono ?_; rintro e w' ⟨rfl, rfl⟩)
  go_ret
  exact ⟨ret_b (by simp [endN, whiteN, digitN, leadN, contN, lineN]; try omega), rfl⟩

theorem white_2 (p : Nat) (w : World) (h : p ≠ 32 ∧ p ≠ 9) : Calls Tryz.prog 84 #[.int .i32 (p : Int)] w fun e w' => e = .returned (.bool (whiteN p)) ∧ w = w' := by
  have f0 : ((p : Int) == 32) = false := by simp; omega
  have f1 : ((p : Int) == 9) = false := by simp; omega
  go_enter Tryz.func84, Tryz.ntmps84
  go_wp2_with (go_at_call 62; refine (ends_any _ _).mono ?_; rintro e w' ⟨rfl, rfl⟩)
  go_ret
  exact ⟨ret_b (by simp [h, endN, whiteN, digitN, leadN, contN, lineN]; try omega), rfl⟩

theorem white_any (p : Nat) (w : World) : Calls Tryz.prog 84 #[.int .i32 (p : Int)] w fun e w' => e = .returned (.bool (whiteN p)) ∧ w = w' := by
  by_cases h1 : p = 32
  · exact white_0 p w h1
  · by_cases h2 : p = 9
    · exact white_1 p w h2
    · exact white_2 p w ⟨h1, h2⟩

theorem digit_0 (p : Nat) (w : World) (h : p < 48) : Calls Tryz.prog 32 #[.int .i32 (p : Int)] w fun e w' => e = .returned (.bool (digitN p)) ∧ w = w' := by
  have f0 : decide (48 ≤ (p : Int)) = false := by simp; omega
  go_enter Tryz.func32, Tryz.ntmps32
  go_wp2
  go_ret
  exact ⟨ret_b (by simp [endN, whiteN, digitN, leadN, contN, lineN]; try omega), rfl⟩

theorem digit_1 (p : Nat) (w : World) (h : 48 ≤ p ∧ p ≤ 57) : Calls Tryz.prog 32 #[.int .i32 (p : Int)] w fun e w' => e = .returned (.bool (digitN p)) ∧ w = w' := by
  have f0 : decide (48 ≤ (p : Int)) = true := by simp; omega
  have f1 : decide ((p : Int) ≤ 57) = true := by simp; omega
  go_enter Tryz.func32, Tryz.ntmps32
  go_wp2
  go_ret
  exact ⟨ret_b (by simp [endN, whiteN, digitN, leadN, contN, lineN]; try omega), rfl⟩

theorem digit_2 (p : Nat) (w : World) (h : 57 < p) : Calls Tryz.prog 32 #[.int .i32 (p : Int)] w fun e w' => e = .returned (.bool (digitN p)) ∧ w = w' := by
  have f0 : decide (48 ≤ (p : Int)) = true := by simp; omega
  have f1 : decide ((p : Int) ≤ 57) = false := by simp; omega
  go_enter Tryz.func32, Tryz.ntmps32
  go_wp2
  go_ret
  exact ⟨ret_b (by simp [endN, whiteN, digitN, leadN, contN, lineN]; try omega), rfl⟩

theorem digit_any (p : Nat) (w : World) : Calls Tryz.prog 32 #[.int .i32 (p : Int)] w fun e w' => e = .returned (.bool (digitN p)) ∧ w = w' := by
  by_cases h1 : p < 48
  · exact digit_0 p w h1
  · by_cases h2 : p ≤ 57
    · exact digit_1 p w ⟨by omega, h2⟩
    · exact digit_2 p w (by omega)

theorem start_0 (p : Nat) (w : World) (h : 97 ≤ p ∧ p ≤ 122) : Calls Tryz.prog 30 #[.int .i32 (p : Int)] w fun e w' => e = .returned (.bool (leadN p)) ∧ w = w' := by
  have f0 : decide (97 ≤ (p : Int)) = true := by simp; omega
  have f1 : decide ((p : Int) ≤ 122) = true := by simp; omega
  go_enter Tryz.func30, Tryz.ntmps30
  go_wp2
  go_ret
  exact ⟨ret_b (by simp [endN, whiteN, digitN, leadN, contN, lineN]; try omega), rfl⟩

theorem start_1 (p : Nat) (w : World) (h : 122 < p) : Calls Tryz.prog 30 #[.int .i32 (p : Int)] w fun e w' => e = .returned (.bool (leadN p)) ∧ w = w' := by
  have f0 : decide (97 ≤ (p : Int)) = true := by simp; omega
  have f1 : decide ((p : Int) ≤ 122) = false := by simp; omega
  have f2 : decide (65 ≤ (p : Int)) = true := by simp; omega
  have f3 : decide ((p : Int) ≤ 90) = false := by simp; omega
  have f4 : ((p : Int) == 95) = false := by simp; omega
  have f5 : ((p : Int) == 36) = false := by simp; omega
  go_enter Tryz.func30, Tryz.ntmps30
  go_wp2
  go_ret
  exact ⟨ret_b (by simp [endN, whiteN, digitN, leadN, contN, lineN]; try omega), rfl⟩

theorem start_2 (p : Nat) (w : World) (h : 65 ≤ p ∧ p ≤ 90) : Calls Tryz.prog 30 #[.int .i32 (p : Int)] w fun e w' => e = .returned (.bool (leadN p)) ∧ w = w' := by
  have f0 : decide (97 ≤ (p : Int)) = false := by simp; omega
  have f1 : decide (65 ≤ (p : Int)) = true := by simp; omega
  have f2 : decide ((p : Int) ≤ 90) = true := by simp; omega
  go_enter Tryz.func30, Tryz.ntmps30
  go_wp2
  go_ret
  exact ⟨ret_b (by simp [endN, whiteN, digitN, leadN, contN, lineN]; try omega), rfl⟩

theorem start_3 (p : Nat) (w : World) (h : p = 95) : Calls Tryz.prog 30 #[.int .i32 (p : Int)] w fun e w' => e = .returned (.bool (leadN p)) ∧ w = w' := by
  have f0 : decide (97 ≤ (p : Int)) = false := by simp; omega
  have f1 : decide (65 ≤ (p : Int)) = true := by simp; omega
  have f2 : decide ((p : Int) ≤ 90) = false := by simp; omega
  have f3 : ((p : Int) == 95) = true := by simp; omega
  go_enter Tryz.func30, Tryz.ntmps30
  go_wp2
  go_ret
  exact ⟨ret_b (by simp [endN, whiteN, digitN, leadN, contN, lineN]; try omega), rfl⟩

theorem start_4 (p : Nat) (w : World) (h : 90 < p ∧ p < 97 ∧ p ≠ 95) : Calls Tryz.prog 30 #[.int .i32 (p : Int)] w fun e w' => e = .returned (.bool (leadN p)) ∧ w = w' := by
  have f0 : decide (97 ≤ (p : Int)) = false := by simp; omega
  have f1 : decide (65 ≤ (p : Int)) = true := by simp; omega
  have f2 : decide ((p : Int) ≤ 90) = false := by simp; omega
  have f3 : ((p : Int) == 95) = false := by simp; omega
  have f4 : ((p : Int) == 36) = false := by simp; omega
  go_enter Tryz.func30, Tryz.ntmps30
  go_wp2
  go_ret
  exact ⟨ret_b (by simp [endN, whiteN, digitN, leadN, contN, lineN]; try omega), rfl⟩

theorem start_5 (p : Nat) (w : World) (h : p = 36) : Calls Tryz.prog 30 #[.int .i32 (p : Int)] w fun e w' => e = .returned (.bool (leadN p)) ∧ w = w' := by
  have f0 : decide (97 ≤ (p : Int)) = false := by simp; omega
  have f1 : decide (65 ≤ (p : Int)) = false := by simp; omega
  have f2 : ((p : Int) == 95) = false := by simp; omega
  have f3 : ((p : Int) == 36) = true := by simp; omega
  go_enter Tryz.func30, Tryz.ntmps30
  go_wp2
  go_ret
  exact ⟨ret_b (by simp [endN, whiteN, digitN, leadN, contN, lineN]; try omega), rfl⟩

theorem start_6 (p : Nat) (w : World) (h : p < 65 ∧ p ≠ 36) : Calls Tryz.prog 30 #[.int .i32 (p : Int)] w fun e w' => e = .returned (.bool (leadN p)) ∧ w = w' := by
  have f0 : decide (97 ≤ (p : Int)) = false := by simp; omega
  have f1 : decide (65 ≤ (p : Int)) = false := by simp; omega
  have f2 : ((p : Int) == 95) = false := by simp; omega
  have f3 : ((p : Int) == 36) = false := by simp; omega
  go_enter Tryz.func30, Tryz.ntmps30
  go_wp2
  go_ret
  exact ⟨ret_b (by simp [endN, whiteN, digitN, leadN, contN, lineN]; try omega), rfl⟩

theorem start_any (p : Nat) (w : World) : Calls Tryz.prog 30 #[.int .i32 (p : Int)] w fun e w' => e = .returned (.bool (leadN p)) ∧ w = w' := by
  rcases (by omega : (97 ≤ p ∧ p ≤ 122) ∨ 122 < p ∨ (65 ≤ p ∧ p ≤ 90) ∨ p = 95 ∨ (90 < p ∧ p < 97 ∧ p ≠ 95) ∨ p = 36 ∨ (p < 65 ∧ p ≠ 36)) with h | h | h | h | h | h | h
  · exact start_0 p w h
  · exact start_1 p w h
  · exact start_2 p w h
  · exact start_3 p w h
  · exact start_4 p w h
  · exact start_5 p w h
  · exact start_6 p w h

theorem cont_any (p : Nat) (w : World) : Calls Tryz.prog 58 #[.int .i32 (p : Int)] w fun e w' => e = .returned (.bool (contN p)) ∧ w = w' := by
  unfold contN
  cases h : leadN p with
  | true =>
    go_enter Tryz.func58, Tryz.ntmps58
    go_wp2_with (go_at_call 30; refine (start_any _ _).mono ?_; rintro e w' ⟨rfl, rfl⟩; rw [h])
    go_ret
    exact ⟨rfl, rfl⟩
  | false =>
    go_enter Tryz.func58, Tryz.ntmps58
    go_wp2_with (first | (go_at_call 30; refine (start_any _ _).mono ?_; rintro e w' ⟨rfl, rfl⟩; rw [h]) | (go_at_call 32; refine (digit_any _ _).mono ?_; rintro e w' ⟨rfl, rfl⟩))
    go_ret
    exact ⟨rfl, rfl⟩

theorem line_any (p : Nat) (w : World) : Calls Tryz.prog 82 #[.int .i32 (p : Int)] w fun e w' => e = .returned (.bool (lineN p)) ∧ w = w' := by
  by_cases h : p = 10
  · have f : ((p : Int) != 10) = false := by simp; omega
    go_enter Tryz.func82, Tryz.ntmps82
    go_wp2
    go_ret
    exact ⟨ret_b (by simp [lineN, h]), rfl⟩
  · have f : ((p : Int) != 10) = true := by simp; omega
    go_enter Tryz.func82, Tryz.ntmps82
    go_wp2
    go_ret
    exact ⟨ret_b (by simp [lineN, h]), rfl⟩

theorem run_any (q p c : Nat) (w : World) (hc : w.cell? ⟨c, 0, none⟩ = some (.int .i32 (q : Int))) : Calls Tryz.prog 61 #[.int .i32 (p : Int), .pointer (some ⟨c, 0, none⟩)] w fun e w' => e = .returned (.bool (runN q p)) ∧ w = w' := by
  unfold runN
  by_cases h : p = q
  · have f : ((p : Int) != (q : Int)) = false := by simp; omega
    go_enter Tryz.func61, Tryz.ntmps61
    go_wp2
    go_ret
    exact ⟨ret_b (by simp [h]), rfl⟩
  · have f : ((p : Int) != (q : Int)) = true := by simp; omega
    by_cases h2 : p = 92
    · have f2 : ((p : Int) != 92) = false := by simp; omega
      go_enter Tryz.func61, Tryz.ntmps61
      go_wp2
      go_ret
      exact ⟨ret_b (by simp [h2]), rfl⟩
    · have f2 : ((p : Int) != 92) = true := by simp; omega
      cases h3 : endN p with
      | true =>
        go_enter Tryz.func61, Tryz.ntmps61
        go_wp2_with (go_at_call 62; refine (ends_any _ _).mono ?_; rintro e w' ⟨rfl, rfl⟩; rw [h3])
        go_ret
        exact ⟨ret_b (by simp), rfl⟩
      | false =>
        go_enter Tryz.func61, Tryz.ntmps61
        go_wp2_with (go_at_call 62; refine (ends_any _ _).mono ?_; rintro e w' ⟨rfl, rfl⟩; rw [h3])
        go_ret
        exact ⟨ret_b (by simp [h, h2]), rfl⟩
end Go.Proofs.YtocebhaaamnfiaaGreatDoor.Lx
