/-
  The walk of the law NumbersLaws.
-/
import Derived.Test.YtjhmiignkcgpnaaDoorAlive
import Derived.Below
namespace Go.Proofs.YtjhmiignkcgpnaaDoor
open Go.RowKit

/-- A call of numbers.Do with an operator of one letter: two results. -/
def DoIs (o : UInt8) (a b n : Int) (ok : Bool) : Prop := ∀ w, Calls Tryd.prog 8 #[.string ⟨#[o]⟩, .int .i64 a, .int .i64 b] w fun e w' => e = .returned (.tuple #[.int .i64 n, .bool ok]) ∧ w = w'
theorem DoIs.at {o : UInt8} {a b n : Int} {ok : Bool} (h : DoIs o a b n ok) (w : World) : Calls Tryd.prog 8 #[.string ⟨#[o]⟩, .int .i64 a, .int .i64 b] w fun e w' => e = .returned (.tuple #[.int .i64 n, .bool ok]) ∧ w = w' := h w

theorem lawLaws_unsafe (a b : Int) (w : World) (h : sf a = false ∨ sf b = false) :
    Calls Tryd.prog 5 #[.int .i64 a, .int .i64 b] w fun e w' => e = .returned (.bool true) ∧ w = w' := by
  cases ha : sf a with
  | false =>
    clear h
    go_enter Tryd.func5, Tryd.ntmps5
    go_wp2_with (first | (go_at_call 7; refine (alive_any _).mono ?_; rintro e w' ⟨rfl, rfl⟩) | (go_at_call 10; refine (safe_any _ _).mono ?_; rintro e w' ⟨rfl, rfl⟩))
    go_ret
    exact ⟨rfl, rfl⟩
  | true =>
    have hb : sf b = false := by rcases h with h | h; rw [ha] at h; cases h; exact h
    clear h
    go_enter Tryd.func5, Tryd.ntmps5
    go_wp2_with (first | (go_at_call 7; refine (alive_any _).mono ?_; rintro e w' ⟨rfl, rfl⟩) | (go_at_call 10; refine (safe_any _ _).mono ?_; rintro e w' ⟨rfl, rfl⟩))
    go_ret
    exact ⟨rfl, rfl⟩

set_option maxHeartbeats 1000000 in
theorem lawLaws_zeroN (a b s : Int) (w : World) (ha : sf a = true) (hb : sf b = true) (hA : DoIs 43 a b 0 false) (hq : DoIs 47 a b 0 false) (hr : DoIs 37 a b 0 false) (hz : b = 0) :
    Calls Tryd.prog 5 #[.int .i64 a, .int .i64 b] w fun e w' => e = .returned (.bool true) ∧ w = w' := by
  have hz' : (b == 0) = true := by simpa using hz
  clear hz
  go_enter Tryd.func5, Tryd.ntmps5
  go_wp2_with (first | (go_at_call 7; refine (alive_any _).mono ?_; rintro e w' ⟨rfl, rfl⟩) | (go_at_call 10; refine (safe_any _ _).mono ?_; rintro e w' ⟨rfl, rfl⟩) | (go_at_call 8; (with_reducible refine (hA.at _).mono ?_); rintro e w' ⟨rfl, rfl⟩) | (go_at_call 8; (with_reducible refine (hq.at _).mono ?_); rintro e w' ⟨rfl, rfl⟩) | (go_at_call 8; (with_reducible refine (hr.at _).mono ?_); rintro e w' ⟨rfl, rfl⟩))
  go_ret
  exact ⟨rfl, rfl⟩

set_option maxHeartbeats 1000000 in
theorem lawLaws_PN (a b q r s : Int) (w : World) (ha : sf a = true) (hb : sf b = true) (hA : DoIs 43 a b 0 false) (hq : DoIs 47 a b q true) (hr : DoIs 37 a b r true) (hz : b ≠ 0) (hw : wrap64 (q * b) = q * b) (hs : q * b + r = a) (hw2 : wrap64 a = a) (h1 : 0 ≤ a) (h2 : 0 ≤ r) :
    Calls Tryd.prog 5 #[.int .i64 a, .int .i64 b] w fun e w' => e = .returned (.bool true) ∧ w = w' := by
  have hz' : (b == 0) = false := by simpa using hz
  clear hz
  go_enter Tryd.func5, Tryd.ntmps5
  go_wp2_with (first | (go_at_call 7; refine (alive_any _).mono ?_; rintro e w' ⟨rfl, rfl⟩) | (go_at_call 10; refine (safe_any _ _).mono ?_; rintro e w' ⟨rfl, rfl⟩) | (go_at_call 8; (with_reducible refine (hA.at _).mono ?_); rintro e w' ⟨rfl, rfl⟩) | (go_at_call 8; (with_reducible refine (hq.at _).mono ?_); rintro e w' ⟨rfl, rfl⟩) | (go_at_call 8; (with_reducible refine (hr.at _).mono ?_); rintro e w' ⟨rfl, rfl⟩))
  go_ret
  exact ⟨rfl, rfl⟩

set_option maxHeartbeats 1000000 in
theorem lawLaws_ZN (a b q r s : Int) (w : World) (ha : sf a = true) (hb : sf b = true) (hA : DoIs 43 a b 0 false) (hq : DoIs 47 a b q true) (hr : DoIs 37 a b r true) (hz : b ≠ 0) (hw : wrap64 (q * b) = q * b) (hs : q * b + r = a) (hw2 : wrap64 a = a) (h1 : a < 0) (h2 : r = 0) :
    Calls Tryd.prog 5 #[.int .i64 a, .int .i64 b] w fun e w' => e = .returned (.bool true) ∧ w = w' := by
  have hz' : (b == 0) = false := by simpa using hz
  clear hz
  subst h2
  have h3 : decide (0 ≤ a) = false := decide_eq_false (by omega)
  clear h1
  go_enter Tryd.func5, Tryd.ntmps5
  go_wp2_with (first | (go_at_call 7; refine (alive_any _).mono ?_; rintro e w' ⟨rfl, rfl⟩) | (go_at_call 10; refine (safe_any _ _).mono ?_; rintro e w' ⟨rfl, rfl⟩) | (go_at_call 8; (with_reducible refine (hA.at _).mono ?_); rintro e w' ⟨rfl, rfl⟩) | (go_at_call 8; (with_reducible refine (hq.at _).mono ?_); rintro e w' ⟨rfl, rfl⟩) | (go_at_call 8; (with_reducible refine (hr.at _).mono ?_); rintro e w' ⟨rfl, rfl⟩))
  go_ret
  exact ⟨rfl, rfl⟩

set_option maxHeartbeats 1000000 in
theorem lawLaws_MN (a b q r s : Int) (w : World) (ha : sf a = true) (hb : sf b = true) (hA : DoIs 43 a b 0 false) (hq : DoIs 47 a b q true) (hr : DoIs 37 a b r true) (hz : b ≠ 0) (hw : wrap64 (q * b) = q * b) (hs : q * b + r = a) (hw2 : wrap64 a = a) (h1 : a < 0) (h2 : r < 0) :
    Calls Tryd.prog 5 #[.int .i64 a, .int .i64 b] w fun e w' => e = .returned (.bool true) ∧ w = w' := by
  have hz' : (b == 0) = false := by simpa using hz
  clear hz
  have h3 : decide (0 ≤ a) = false := decide_eq_false (by omega)
  have h4 : decide (0 ≤ r) = false := decide_eq_false (by omega)
  have h5 : (r == 0) = false := by simp; omega
  clear h1 h2
  go_enter Tryd.func5, Tryd.ntmps5
  go_wp2_with (first | (go_at_call 7; refine (alive_any _).mono ?_; rintro e w' ⟨rfl, rfl⟩) | (go_at_call 10; refine (safe_any _ _).mono ?_; rintro e w' ⟨rfl, rfl⟩) | (go_at_call 8; (with_reducible refine (hA.at _).mono ?_); rintro e w' ⟨rfl, rfl⟩) | (go_at_call 8; (with_reducible refine (hq.at _).mono ?_); rintro e w' ⟨rfl, rfl⟩) | (go_at_call 8; (with_reducible refine (hr.at _).mono ?_); rintro e w' ⟨rfl, rfl⟩))
  go_ret
  exact ⟨rfl, rfl⟩

set_option maxHeartbeats 1000000 in
theorem lawLaws_zeroS (a b s : Int) (w : World) (ha : sf a = true) (hb : sf b = true) (hA : DoIs 43 a b s true) (hS : DoIs 45 s b a true) (hq : DoIs 47 a b 0 false) (hr : DoIs 37 a b 0 false) (hz : b = 0) :
    Calls Tryd.prog 5 #[.int .i64 a, .int .i64 b] w fun e w' => e = .returned (.bool true) ∧ w = w' := by
  have hz' : (b == 0) = true := by simpa using hz
  clear hz
  go_enter Tryd.func5, Tryd.ntmps5
  go_wp2_with (first | (go_at_call 7; refine (alive_any _).mono ?_; rintro e w' ⟨rfl, rfl⟩) | (go_at_call 10; refine (safe_any _ _).mono ?_; rintro e w' ⟨rfl, rfl⟩) | (go_at_call 8; (with_reducible refine (hA.at _).mono ?_); rintro e w' ⟨rfl, rfl⟩) | (go_at_call 8; (with_reducible refine (hS.at _).mono ?_); rintro e w' ⟨rfl, rfl⟩) | (go_at_call 8; (with_reducible refine (hq.at _).mono ?_); rintro e w' ⟨rfl, rfl⟩) | (go_at_call 8; (with_reducible refine (hr.at _).mono ?_); rintro e w' ⟨rfl, rfl⟩))
  go_ret
  exact ⟨rfl, rfl⟩

set_option maxHeartbeats 1000000 in
theorem lawLaws_PS (a b q r s : Int) (w : World) (ha : sf a = true) (hb : sf b = true) (hA : DoIs 43 a b s true) (hS : DoIs 45 s b a true) (hq : DoIs 47 a b q true) (hr : DoIs 37 a b r true) (hz : b ≠ 0) (hw : wrap64 (q * b) = q * b) (hs : q * b + r = a) (hw2 : wrap64 a = a) (h1 : 0 ≤ a) (h2 : 0 ≤ r) :
    Calls Tryd.prog 5 #[.int .i64 a, .int .i64 b] w fun e w' => e = .returned (.bool true) ∧ w = w' := by
  have hz' : (b == 0) = false := by simpa using hz
  clear hz
  go_enter Tryd.func5, Tryd.ntmps5
  go_wp2_with (first | (go_at_call 7; refine (alive_any _).mono ?_; rintro e w' ⟨rfl, rfl⟩) | (go_at_call 10; refine (safe_any _ _).mono ?_; rintro e w' ⟨rfl, rfl⟩) | (go_at_call 8; (with_reducible refine (hA.at _).mono ?_); rintro e w' ⟨rfl, rfl⟩) | (go_at_call 8; (with_reducible refine (hS.at _).mono ?_); rintro e w' ⟨rfl, rfl⟩) | (go_at_call 8; (with_reducible refine (hq.at _).mono ?_); rintro e w' ⟨rfl, rfl⟩) | (go_at_call 8; (with_reducible refine (hr.at _).mono ?_); rintro e w' ⟨rfl, rfl⟩))
  go_ret
  exact ⟨rfl, rfl⟩

set_option maxHeartbeats 1000000 in
theorem lawLaws_ZS (a b q r s : Int) (w : World) (ha : sf a = true) (hb : sf b = true) (hA : DoIs 43 a b s true) (hS : DoIs 45 s b a true) (hq : DoIs 47 a b q true) (hr : DoIs 37 a b r true) (hz : b ≠ 0) (hw : wrap64 (q * b) = q * b) (hs : q * b + r = a) (hw2 : wrap64 a = a) (h1 : a < 0) (h2 : r = 0) :
    Calls Tryd.prog 5 #[.int .i64 a, .int .i64 b] w fun e w' => e = .returned (.bool true) ∧ w = w' := by
  have hz' : (b == 0) = false := by simpa using hz
  clear hz
  subst h2
  have h3 : decide (0 ≤ a) = false := decide_eq_false (by omega)
  clear h1
  go_enter Tryd.func5, Tryd.ntmps5
  go_wp2_with (first | (go_at_call 7; refine (alive_any _).mono ?_; rintro e w' ⟨rfl, rfl⟩) | (go_at_call 10; refine (safe_any _ _).mono ?_; rintro e w' ⟨rfl, rfl⟩) | (go_at_call 8; (with_reducible refine (hA.at _).mono ?_); rintro e w' ⟨rfl, rfl⟩) | (go_at_call 8; (with_reducible refine (hS.at _).mono ?_); rintro e w' ⟨rfl, rfl⟩) | (go_at_call 8; (with_reducible refine (hq.at _).mono ?_); rintro e w' ⟨rfl, rfl⟩) | (go_at_call 8; (with_reducible refine (hr.at _).mono ?_); rintro e w' ⟨rfl, rfl⟩))
  go_ret
  exact ⟨rfl, rfl⟩

set_option maxHeartbeats 1000000 in
theorem lawLaws_MS (a b q r s : Int) (w : World) (ha : sf a = true) (hb : sf b = true) (hA : DoIs 43 a b s true) (hS : DoIs 45 s b a true) (hq : DoIs 47 a b q true) (hr : DoIs 37 a b r true) (hz : b ≠ 0) (hw : wrap64 (q * b) = q * b) (hs : q * b + r = a) (hw2 : wrap64 a = a) (h1 : a < 0) (h2 : r < 0) :
    Calls Tryd.prog 5 #[.int .i64 a, .int .i64 b] w fun e w' => e = .returned (.bool true) ∧ w = w' := by
  have hz' : (b == 0) = false := by simpa using hz
  clear hz
  have h3 : decide (0 ≤ a) = false := decide_eq_false (by omega)
  have h4 : decide (0 ≤ r) = false := decide_eq_false (by omega)
  have h5 : (r == 0) = false := by simp; omega
  clear h1 h2
  go_enter Tryd.func5, Tryd.ntmps5
  go_wp2_with (first | (go_at_call 7; refine (alive_any _).mono ?_; rintro e w' ⟨rfl, rfl⟩) | (go_at_call 10; refine (safe_any _ _).mono ?_; rintro e w' ⟨rfl, rfl⟩) | (go_at_call 8; (with_reducible refine (hA.at _).mono ?_); rintro e w' ⟨rfl, rfl⟩) | (go_at_call 8; (with_reducible refine (hS.at _).mono ?_); rintro e w' ⟨rfl, rfl⟩) | (go_at_call 8; (with_reducible refine (hq.at _).mono ?_); rintro e w' ⟨rfl, rfl⟩) | (go_at_call 8; (with_reducible refine (hr.at _).mono ?_); rintro e w' ⟨rfl, rfl⟩))
  go_ret
  exact ⟨rfl, rfl⟩

theorem doIs_some {k : Nat} {o : UInt8} (ho : opS k = ⟨#[o]⟩) {a b n : Int} (h : doF k a b = some n) : DoIs o a b n true := fun w => by
  have := do_any k a b w
  rw [h, ho] at this
  exact this
theorem doIs_none {k : Nat} {o : UInt8} (ho : opS k = ⟨#[o]⟩) {a b : Int} (h : doF k a b = none) : DoIs o a b 0 false := fun w => by
  have := do_any k a b w
  rw [h, ho] at this
  exact this
theorem doF_safe {k : Nat} {a b : Int} (ha : sf a = true) (hb : sf b = true) : doF k a b = (exF k a b).filter sf := if_pos ⟨ha, hb⟩

theorem mul_tdiv_bd (a b : Int) (ha : sf a = true) : wrap64 (a.tdiv b * b) = a.tdiv b * b := by
  have h0 := sf_true ha
  have h1 : (a.tdiv b * b).natAbs ≤ a.natAbs := by
    rw [Int.natAbs_mul, Int.natAbs_tdiv]
    exact Nat.div_mul_le_self _ _
  exact IntWalk.wrap64_in _ (by omega)

theorem lawLaws_walk (a b : Int) (w : World) :
    Calls Tryd.prog 5 #[.int .i64 a, .int .i64 b] w fun e w' => e = .returned (.bool true) ∧ w = w' := by
  cases ha : sf a with
  | false => exact lawLaws_unsafe a b w (Or.inl ha)
  | true =>
  cases hb : sf b with
  | false => exact lawLaws_unsafe a b w (Or.inr hb)
  | true =>
  have h2 : Sf2 a b := ⟨(sf_true ha).1, (sf_true ha).2, (sf_true hb).1, (sf_true hb).2⟩
  have hw2 : wrap64 a = a := IntWalk.wrap64_in _ (by have := sf_true ha; omega)
  have hA : (∃ s, DoIs 43 a b s true ∧ DoIs 45 s b a true) ∨ DoIs 43 a b 0 false := by
    cases hs : sf (a + b) with
    | true =>
      refine Or.inl ⟨a + b, doIs_some (k := 0) rfl ?_, doIs_some (k := 1) rfl ?_⟩
      · rw [doF_safe ha hb]; simp [exF, Option.filter, hs]
      · rw [doF_safe hs hb]
        have e : a + b - b = a := by omega
        simp [exF, Option.filter, e, ha]
    | false =>
      refine Or.inr (doIs_none (k := 0) rfl ?_)
      rw [doF_safe ha hb]; simp [exF, Option.filter, hs]
  by_cases hz : b = 0
  · have hq : DoIs 47 a b 0 false := doIs_none (k := 3) rfl (by rw [doF_safe ha hb]; simp [exF, hz])
    have hr : DoIs 37 a b 0 false := doIs_none (k := 4) rfl (by rw [doF_safe ha hb]; simp [exF, hz])
    rcases hA with ⟨s, hA, hS⟩ | hA
    · exact lawLaws_zeroS a b s w ha hb hA hS hq hr hz
    · exact lawLaws_zeroN a b 0 w ha hb hA hq hr hz
  · have hq : DoIs 47 a b (a.tdiv b) true := doIs_some (k := 3) rfl (by rw [doF_safe ha hb, show exF 3 a b = some (a.tdiv b) from if_neg hz]; exact filter_some (tdiv_bd a b h2))
    have hr : DoIs 37 a b (a.tmod b) true := doIs_some (k := 4) rfl (by rw [doF_safe ha hb, show exF 4 a b = some (a.tmod b) from if_neg hz]; exact filter_some (tmod_bd a b h2))
    have hw := mul_tdiv_bd a b ha
    have hs : a.tdiv b * b + a.tmod b = a := by rw [Int.mul_comm]; exact Int.mul_tdiv_add_tmod a b
    by_cases hn : 0 ≤ a
    · have hn2 : 0 ≤ a.tmod b := Int.tmod_nonneg b hn
      rcases hA with ⟨s, hA, hS⟩ | hA
      · exact lawLaws_PS a b _ _ s w ha hb hA hS hq hr hz hw hs hw2 hn hn2
      · exact lawLaws_PN a b _ _ 0 w ha hb hA hq hr hz hw hs hw2 hn hn2
    · have hm : a.tmod b ≤ 0 := by
        have := Int.tmod_nonneg b (show 0 ≤ -a by omega)
        rw [Int.neg_tmod] at this
        omega
      by_cases hm0 : a.tmod b = 0
      · rcases hA with ⟨s, hA, hS⟩ | hA
        · exact lawLaws_ZS a b _ _ s w ha hb hA hS hq hr hz hw hs hw2 (by omega) hm0
        · exact lawLaws_ZN a b _ _ 0 w ha hb hA hq hr hz hw hs hw2 (by omega) hm0
      · rcases hA with ⟨s, hA, hS⟩ | hA
        · exact lawLaws_MS a b _ _ s w ha hb hA hS hq hr hz hw hs hw2 (by omega) (by omega)
        · exact lawLaws_MN a b _ _ 0 w ha hb hA hq hr hz hw hs hw2 (by omega) (by omega)
end Go.Proofs.YtjhmiignkcgpnaaDoor
