/-
  The lexer's small functions: classes of code points.
-/
import Derived.Test.YtkknglmpdmhhjaaGreatDoorMg01
namespace Go.Proofs.YtkknglmpdmhhjaaGreatDoor.Lx
open Go.RowKit
set_option linter.unusedVariables false
set_option linter.unusedSimpArgs false

theorem ret_b {b c : Bool} (h : b = c) : Ending.returned (.bool b) = Ending.returned (.bool c) := by rw [h]

theorem ends_0 (p : Nat) (w : World) (h : p = 10) : Calls Tryz.prog 131 #[.int .i32 (p : Int)] w fun e w' => e = .returned (.bool (endN p)) ∧ w = w' := by
  have f0 : ((p : Int) == 10) = true := by simp; omega
  go_enter Tryz.func131, Tryz.ntmps131
  go_wp2
  go_ret
  exact ⟨ret_b (by simp [endN, whiteN, digitN, leadN, contN, lineN]; try omega), rfl⟩

theorem ends_1 (p : Nat) (w : World) (h : p = 13) : Calls Tryz.prog 131 #[.int .i32 (p : Int)] w fun e w' => e = .returned (.bool (endN p)) ∧ w = w' := by
  have f0 : ((p : Int) == 10) = false := by simp; omega
  have f1 : ((p : Int) == 13) = true := by simp; omega
  go_enter Tryz.func131, Tryz.ntmps131
  go_wp2
  go_ret
  exact ⟨ret_b (by simp [endN, whiteN, digitN, leadN, contN, lineN]; try omega), rfl⟩

theorem ends_2 (p : Nat) (w : World) (h : p ≠ 10 ∧ p ≠ 13) : Calls Tryz.prog 131 #[.int .i32 (p : Int)] w fun e w' => e = .returned (.bool (endN p)) ∧ w = w' := by
  have f0 : ((p : Int) == 10) = false := by simp; omega
  have f1 : ((p : Int) == 13) = false := by simp; omega
  go_enter Tryz.func131, Tryz.ntmps131
  go_wp2
  go_ret
  exact ⟨ret_b (by simp [endN, whiteN, digitN, leadN, contN, lineN]; try omega), rfl⟩

theorem ends_any (p : Nat) (w : World) : Calls Tryz.prog 131 #[.int .i32 (p : Int)] w fun e w' => e = .returned (.bool (endN p)) ∧ w = w' := by
  by_cases h1 : p = 10
  · exact ends_0 p w h1
  · by_cases h2 : p = 13
    · exact ends_1 p w h2
    · exact ends_2 p w ⟨h1, h2⟩

theorem white_0 (p : Nat) (w : World) (h : p = 32) : Calls Tryz.prog 180 #[.int .i32 (p : Int)] w fun e w' => e = .returned (.bool (whiteN p)) ∧ w = w' := by
  have f0 : ((p : Int) == 32) = true := by simp; omega
  go_enter Tryz.func180, Tryz.ntmps180
  go_wp2_with (go_at_call 131; refine (ends_any _ _).mono ?_; rintro e w' ⟨rfl, rfl⟩)
  go_ret
  exact ⟨ret_b (by simp [endN, whiteN, digitN, leadN, contN, lineN]; try omega), rfl⟩

theorem white_1 (p : Nat) (w : World) (h : p = 9) : Calls Tryz.prog 180 #[.int .i32 (p : Int)] w fun e w' => e = .returned (.bool (whiteN p)) ∧ w = w' := by
  have f0 : ((p : Int) == 32) = false := by simp; omega
  have f1 : ((p : Int) == 9) = true := by simp; omega
  go_enter Tryz.func180, Tryz.ntmps180
  go_wp2_with (go_at_call 131; refine (ends_any _ _).mono ?_; rintro e w' ⟨rfl, rfl⟩)
  go_ret
  exact ⟨ret_b (by simp [endN, whiteN, digitN, leadN, contN, lineN]; try omega), rfl⟩

theorem white_2 (p : Nat) (w : World) (h : p ≠ 32 ∧ p ≠ 9) : Calls Tryz.prog 180 #[.int .i32 (p : Int)] w fun e w' => e = .returned (.bool (whiteN p)) ∧ w = w' := by
  have f0 : ((p : Int) == 32) = false := by simp; omega
  have f1 : ((p : Int) == 9) = false := by simp; omega
  go_enter Tryz.func180, Tryz.ntmps180
  go_wp2_with (go_at_call 131; refine (ends_any _ _).mono ?_; rintro e w' ⟨rfl, rfl⟩)
  go_ret
  exact ⟨ret_b (by simp [h, endN, whiteN, digitN, leadN, contN, lineN]; try omega), rfl⟩

theorem white_any (p : Nat) (w : World) : Calls Tryz.prog 180 #[.int .i32 (p : Int)] w fun e w' => e = .returned (.bool (whiteN p)) ∧ w = w' := by
  by_cases h1 : p = 32
  · exact white_0 p w h1
  · by_cases h2 : p = 9
    · exact white_1 p w h2
    · exact white_2 p w ⟨h1, h2⟩

theorem digit_0 (p : Nat) (w : World) (h : p < 48) : Calls Tryz.prog 78 #[.int .i32 (p : Int)] w fun e w' => e = .returned (.bool (digitN p)) ∧ w = w' := by
  have f0 : decide (48 ≤ (p : Int)) = false := by simp; omega
  go_enter Tryz.func78, Tryz.ntmps78
  go_wp2
  go_ret
  exact ⟨ret_b (by simp [endN, whiteN, digitN, leadN, contN, lineN]; try omega), rfl⟩

theorem digit_1 (p : Nat) (w : World) (h : 48 ≤ p ∧ p ≤ 57) : Calls Tryz.prog 78 #[.int .i32 (p : Int)] w fun e w' => e = .returned (.bool (digitN p)) ∧ w = w' := by
  have f0 : decide (48 ≤ (p : Int)) = true := by simp; omega
  have f1 : decide ((p : Int) ≤ 57) = true := by simp; omega
  go_enter Tryz.func78, Tryz.ntmps78
  go_wp2
  go_ret
  exact ⟨ret_b (by simp [endN, whiteN, digitN, leadN, contN, lineN]; try omega), rfl⟩

theorem digit_2 (p : Nat) (w : World) (h : 57 < p) : Calls Tryz.prog 78 #[.int .i32 (p : Int)] w fun e w' => e = .returned (.bool (digitN p)) ∧ w = w' := by
  have f0 : decide (48 ≤ (p : Int)) = true := by simp; omega
  have f1 : decide ((p : Int) ≤ 57) = false := by simp; omega
  go_enter Tryz.func78, Tryz.ntmps78
  go_wp2
  go_ret
  exact ⟨ret_b (by simp [endN, whiteN, digitN, leadN, contN, lineN]; try omega), rfl⟩

theorem digit_any (p : Nat) (w : World) : Calls Tryz.prog 78 #[.int .i32 (p : Int)] w fun e w' => e = .returned (.bool (digitN p)) ∧ w = w' := by
  by_cases h1 : p < 48
  · exact digit_0 p w h1
  · by_cases h2 : p ≤ 57
    · exact digit_1 p w ⟨by omega, h2⟩
    · exact digit_2 p w (by omega)

theorem start_0 (p : Nat) (w : World) (h : 97 ≤ p ∧ p ≤ 122) : Calls Tryz.prog 76 #[.int .i32 (p : Int)] w fun e w' => e = .returned (.bool (leadN p)) ∧ w = w' := by
  have f0 : decide (97 ≤ (p : Int)) = true := by simp; omega
  have f1 : decide ((p : Int) ≤ 122) = true := by simp; omega
  go_enter Tryz.func76, Tryz.ntmps76
  go_wp2
  go_ret
  exact ⟨ret_b (by simp [endN, whiteN, digitN, leadN, contN, lineN]; try omega), rfl⟩

theorem start_1 (p : Nat) (w : World) (h : 122 < p) : Calls Tryz.prog 76 #[.int .i32 (p : Int)] w fun e w' => e = .returned (.bool (leadN p)) ∧ w = w' := by
  have f0 : decide (97 ≤ (p : Int)) = true := by simp; omega
  have f1 : decide ((p : Int) ≤ 122) = false := by simp; omega
  have f2 : decide (65 ≤ (p : Int)) = true := by simp; omega
  have f3 : decide ((p : Int) ≤ 90) = false := by simp; omega
  have f4 : ((p : Int) == 95) = false := by simp; omega
  have f5 : ((p : Int) == 36) = false := by simp; omega
  go_enter Tryz.func76, Tryz.ntmps76
  go_wp2
  go_ret
  exact ⟨ret_b (by simp [endN, whiteN, digitN, leadN, contN, lineN]; try omega), rfl⟩

theorem start_2 (p : Nat) (w : World) (h : 65 ≤ p ∧ p ≤ 90) : Calls Tryz.prog 76 #[.int .i32 (p : Int)] w fun e w' => e = .returned (.bool (leadN p)) ∧ w = w' := by
  have f0 : decide (97 ≤ (p : Int)) = false := by simp; omega
  have f1 : decide (65 ≤ (p : Int)) = true := by simp; omega
  have f2 : decide ((p : Int) ≤ 90) = true := by simp; omega
  go_enter Tryz.func76, Tryz.ntmps76
  go_wp2
  go_ret
  exact ⟨ret_b (by simp [endN, whiteN, digitN, leadN, contN, lineN]; try omega), rfl⟩

theorem start_3 (p : Nat) (w : World) (h : p = 95) : Calls Tryz.prog 76 #[.int .i32 (p : Int)] w fun e w' => e = .returned (.bool (leadN p)) ∧ w = w' := by
  have f0 : decide (97 ≤ (p : Int)) = false := by simp; omega
  have f1 : decide (65 ≤ (p : Int)) = true := by simp; omega
  have f2 : decide ((p : Int) ≤ 90) = false := by simp; omega
  have f3 : ((p : Int) == 95) = true := by simp; omega
  go_enter Tryz.func76, Tryz.ntmps76
  go_wp2
  go_ret
  exact ⟨ret_b (by simp [endN, whiteN, digitN, leadN, contN, lineN]; try omega), rfl⟩

theorem start_4 (p : Nat) (w : World) (h : 90 < p ∧ p < 97 ∧ p ≠ 95) : Calls Tryz.prog 76 #[.int .i32 (p : Int)] w fun e w' => e = .returned (.bool (leadN p)) ∧ w = w' := by
  have f0 : decide (97 ≤ (p : Int)) = false := by simp; omega
  have f1 : decide (65 ≤ (p : Int)) = true := by simp; omega
  have f2 : decide ((p : Int) ≤ 90) = false := by simp; omega
  have f3 : ((p : Int) == 95) = false := by simp; omega
  have f4 : ((p : Int) == 36) = false := by simp; omega
  go_enter Tryz.func76, Tryz.ntmps76
  go_wp2
  go_ret
  exact ⟨ret_b (by simp [endN, whiteN, digitN, leadN, contN, lineN]; try omega), rfl⟩

theorem start_5 (p : Nat) (w : World) (h : p = 36) : Calls Tryz.prog 76 #[.int .i32 (p : Int)] w fun e w' => e = .returned (.bool (leadN p)) ∧ w = w' := by
  have f0 : decide (97 ≤ (p : Int)) = false := by simp; omega
  have f1 : decide (65 ≤ (p : Int)) = false := by simp; omega
  have f2 : ((p : Int) == 95) = false := by simp; omega
  have f3 : ((p : Int) == 36) = true := by simp; omega
  go_enter Tryz.func76, Tryz.ntmps76
  go_wp2
  go_ret
  exact ⟨ret_b (by simp [endN, whiteN, digitN, leadN, contN, lineN]; try omega), rfl⟩

theorem start_6 (p : Nat) (w : World) (h : p < 65 ∧ p ≠ 36) : Calls Tryz.prog 76 #[.int .i32 (p : Int)] w fun e w' => e = .returned (.bool (leadN p)) ∧ w = w' := by
  have f0 : decide (97 ≤ (p : Int)) = false := by simp; omega
  have f1 : decide (65 ≤ (p : Int)) = false := by simp; omega
  have f2 : ((p : Int) == 95) = false := by simp; omega
  have f3 : ((p : Int) == 36) = false := by simp; omega
  go_enter Tryz.func76, Tryz.ntmps76
  go_wp2
  go_ret
  exact ⟨ret_b (by simp [endN, whiteN, digitN, leadN, contN, lineN]; try omega), rfl⟩

theorem start_any (p : Nat) (w : World) : Calls Tryz.prog 76 #[.int .i32 (p : Int)] w fun e w' => e = .returned (.bool (leadN p)) ∧ w = w' := by
  rcases (by omega : (97 ≤ p ∧ p ≤ 122) ∨ 122 < p ∨ (65 ≤ p ∧ p ≤ 90) ∨ p = 95 ∨ (90 < p ∧ p < 97 ∧ p ≠ 95) ∨ p = 36 ∨ (p < 65 ∧ p ≠ 36)) with h | h | h | h | h | h | h
  · exact start_0 p w h
  · exact start_1 p w h
  · exact start_2 p w h
  · exact start_3 p w h
  · exact start_4 p w h
  · exact start_5 p w h
  · exact start_6 p w h

theorem cont_any (p : Nat) (w : World) : Calls Tryz.prog 128 #[.int .i32 (p : Int)] w fun e w' => e = .returned (.bool (contN p)) ∧ w = w' := by
  unfold contN
  cases h : leadN p with
  | true =>
    go_enter Tryz.func128, Tryz.ntmps128
    go_wp2_with (go_at_call 76; refine (start_any _ _).mono ?_; rintro e w' ⟨rfl, rfl⟩; rw [h])
    go_ret
    exact ⟨rfl, rfl⟩
  | false =>
    go_enter Tryz.func128, Tryz.ntmps128
    go_wp2_with (first | (go_at_call 76; refine (start_any _ _).mono ?_; rintro e w' ⟨rfl, rfl⟩; rw [h]) | (go_at_call 78; refine (digit_any _ _).mono ?_; rintro e w' ⟨rfl, rfl⟩))
    go_ret
    exact ⟨rfl, rfl⟩

theorem line_any (p : Nat) (w : World) : Calls Tryz.prog 178 #[.int .i32 (p : Int)] w fun e w' => e = .returned (.bool (lineN p)) ∧ w = w' := by
  by_cases h : p = 10
  · have f : ((p : Int) != 10) = false := by simp; omega
    go_enter Tryz.func178, Tryz.ntmps178
    go_wp2
    go_ret
    exact ⟨ret_b (by simp [lineN, h]), rfl⟩
  · have f : ((p : Int) != 10) = true := by simp; omega
    go_enter Tryz.func178, Tryz.ntmps178
    go_wp2
    go_ret
    exact ⟨ret_b (by simp [lineN, h]), rfl⟩

theorem run_any (q p c : Nat) (w : World) (hc : w.cell? ⟨c, 0, none⟩ = some (.int .i32 (q : Int))) : Calls Tryz.prog 130 #[.int .i32 (p : Int), .pointer (some ⟨c, 0, none⟩)] w fun e w' => e = .returned (.bool (runN q p)) ∧ w = w' := by
  unfold runN
  by_cases h : p = q
  · have f : ((p : Int) != (q : Int)) = false := by simp; omega
    go_enter Tryz.func130, Tryz.ntmps130
    go_wp2
    go_ret
    exact ⟨ret_b (by simp [h]), rfl⟩
  · have f : ((p : Int) != (q : Int)) = true := by simp; omega
    by_cases h2 : p = 92
    · have f2 : ((p : Int) != 92) = false := by simp; omega
      go_enter Tryz.func130, Tryz.ntmps130
      go_wp2
      go_ret
      exact ⟨ret_b (by simp [h2]), rfl⟩
    · have f2 : ((p : Int) != 92) = true := by simp; omega
      cases h3 : endN p with
      | true =>
        go_enter Tryz.func130, Tryz.ntmps130
        go_wp2_with (go_at_call 131; refine (ends_any _ _).mono ?_; rintro e w' ⟨rfl, rfl⟩; rw [h3])
        go_ret
        exact ⟨ret_b (by simp), rfl⟩
      | false =>
        go_enter Tryz.func130, Tryz.ntmps130
        go_wp2_with (go_at_call 131; refine (ends_any _ _).mono ?_; rintro e w' ⟨rfl, rfl⟩; rw [h3])
        go_ret
        exact ⟨ret_b (by simp [h, h2]), rfl⟩
end Go.Proofs.YtkknglmpdmhhjaaGreatDoor.Lx
