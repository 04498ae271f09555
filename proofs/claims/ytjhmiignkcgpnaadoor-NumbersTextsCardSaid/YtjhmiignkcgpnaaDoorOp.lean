/-
  The reference's operation: it gives what numbers.Do gives.
-/
import Derived.Test.YtjhmiignkcgpnaaDoorDo
namespace Go.Proofs.YtjhmiignkcgpnaaDoor
open Go.RowKit

theorem tdiv_le (n a : Int) : (n.tdiv a).natAbs ≤ n.natAbs := Int.natAbs_tdiv_le_natAbs n a
/-- Where the quotient of what went round comes back and is safe, nothing went round. -/
theorem back {a b : Int} (h : Sf2 a b) (ha : a ≠ 0) (hq : wrap64 ((wrap64 (a * b)).tdiv a) = b) (hs : sf (wrap64 (a * b)) = true) : wrap64 (a * b) = a * b := by
  obtain ⟨a0, a1, b0, b1⟩ := h
  have h0 := sf_true hs
  have hd := tdiv_le (wrap64 (a * b)) a
  have hq2 : (wrap64 (a * b)).tdiv a = b := by
    have e := IntWalk.wrap64_in ((wrap64 (a * b)).tdiv a) (by omega)
    rw [e] at hq
    exact hq
  have hm := Int.mul_tdiv_add_tmod (wrap64 (a * b)) a
  rw [hq2] at hm
  have hr := Int.natAbs_tmod (wrap64 (a * b)) a
  have hl : (wrap64 (a * b)).natAbs % a.natAbs < a.natAbs := Nat.mod_lt _ (by omega)
  generalize (wrap64 (a * b)).tmod a = r at hm hr
  have hw : ∃ k : Int, wrap64 (a * b) = a * b + 18446744073709551616 * k := by
    unfold wrap64
    exact ⟨-((a * b + 9223372036854775808) / 18446744073709551616), by omega⟩
  obtain ⟨k, hk⟩ := hw
  generalize a * b = p at *
  omega

set_option maxHeartbeats 800000 in
theorem op_unsafe (s : ByteArray) (a b : Int) (w : World) (h : ¬ (sf a = true ∧ sf b = true)) :
    Calls Tryd.prog 9 #[.string s, .int .i64 a, .int .i64 b] w fun e w' => e = two none ∧ w = w' := by
  cases ha : sf a with
  | false =>
    clear h
    go_enter Tryd.func9, Tryd.ntmps9
    go_wp2_with (go_at_call 16; refine (rsafe_any _ _).mono ?_; rintro e w' ⟨rfl, rfl⟩)
    go_ret2
    exact ⟨rfl, rfl⟩
  | true =>
    cases hb : sf b with
    | true => exact absurd ⟨ha, hb⟩ h
    | false =>
      clear h
      go_enter Tryd.func9, Tryd.ntmps9
      go_wp2_with (go_at_call 16; refine (rsafe_any _ _).mono ?_; rintro e w' ⟨rfl, rfl⟩)
      go_ret2
      exact ⟨rfl, rfl⟩

theorem op_add (a b : Int) (w : World) (ha : sf a = true) (hb : sf b = true) :
    Calls Tryd.prog 9 #[.string ⟨#[43]⟩, .int .i64 a, .int .i64 b] w fun e w' => e = two ((some (a + b)).filter sf) ∧ w = w' := by
  obtain ⟨a0, a1⟩ := sf_true ha
  obtain ⟨b0, b1⟩ := sf_true hb
  cases hn : sf (a + b) with
  | false =>
    rw [show (some (a + b)).filter sf = none by simp [Option.filter, hn]]
    go_enter Tryd.func9, Tryd.ntmps9
    go_wp2_with (go_at_call 16; refine (rsafe_any _ _).mono ?_; rintro e w' ⟨rfl, rfl⟩)
    go_ret2
    exact ⟨rfl, rfl⟩
  | true =>
    rw [show (some (a + b)).filter sf = some (a + b) by simp [Option.filter, hn]]
    go_enter Tryd.func9, Tryd.ntmps9
    go_wp2_with (go_at_call 16; refine (rsafe_any _ _).mono ?_; rintro e w' ⟨rfl, rfl⟩)
    go_ret2
    exact ⟨rfl, rfl⟩
theorem op_sub (a b : Int) (w : World) (ha : sf a = true) (hb : sf b = true) :
    Calls Tryd.prog 9 #[.string ⟨#[45]⟩, .int .i64 a, .int .i64 b] w fun e w' => e = two ((some (a - b)).filter sf) ∧ w = w' := by
  obtain ⟨a0, a1⟩ := sf_true ha
  obtain ⟨b0, b1⟩ := sf_true hb
  cases hn : sf (a - b) with
  | false =>
    rw [show (some (a - b)).filter sf = none by simp [Option.filter, hn]]
    go_enter Tryd.func9, Tryd.ntmps9
    go_wp2_with (go_at_call 16; refine (rsafe_any _ _).mono ?_; rintro e w' ⟨rfl, rfl⟩)
    go_ret2
    exact ⟨rfl, rfl⟩
  | true =>
    rw [show (some (a - b)).filter sf = some (a - b) by simp [Option.filter, hn]]
    go_enter Tryd.func9, Tryd.ntmps9
    go_wp2_with (go_at_call 16; refine (rsafe_any _ _).mono ?_; rintro e w' ⟨rfl, rfl⟩)
    go_ret2
    exact ⟨rfl, rfl⟩
set_option maxHeartbeats 800000 in
theorem op_mul (a b : Int) (w : World) (ha : sf a = true) (hb : sf b = true) :
    Calls Tryd.prog 9 #[.string ⟨#[42]⟩, .int .i64 a, .int .i64 b] w fun e w' => e = two (prF a b) ∧ w = w' := by
  by_cases h0 : a = 0
  · subst h0
    have e : prF 0 b = some 0 := by unfold prF; rw [Int.zero_mul, if_pos (by decide)]
    have hz : sf 0 = true := by decide
    rw [e]; clear e
    go_enter Tryd.func9, Tryd.ntmps9
    go_wp2_with (go_at_call 16; refine (rsafe_any _ _).mono ?_; rintro e w' ⟨rfl, rfl⟩)
    go_ret2
    exact ⟨rfl, rfl⟩
  · have hne : (a != 0) = true := by simpa using h0
    cases hn : sf (a * b) with
    | true =>
      have e : prF a b = some (a * b) := by unfold prF; rw [if_pos hn]
      have hw : wrap64 (a * b) = a * b := IntWalk.wrap64_in _ (by have := sf_true hn; omega)
      have hq : (a * b).tdiv a = b := Int.mul_tdiv_cancel_left b h0
      have hb2 : wrap64 b = b := IntWalk.wrap64_in _ (by have := sf_true hb; omega)
      rw [e]; clear e
      go_enter Tryd.func9, Tryd.ntmps9
      go_wp2_with (go_at_call 16; refine (rsafe_any _ _).mono ?_; rintro e w' ⟨rfl, rfl⟩)
      go_ret2
      first | exact ⟨rfl, rfl⟩ | exact ⟨two_wrap hw, rfl⟩
    | false =>
      have e : prF a b = none := by unfold prF; rw [hn, if_neg (by decide)]
      rw [e]; clear e
      by_cases hq : wrap64 ((wrap64 (a * b)).tdiv a) = b
      · have hs : sf (wrap64 (a * b)) = false := by
          cases hs : sf (wrap64 (a * b)) with
          | false => rfl
          | true =>
            have := back ⟨(sf_true ha).1, (sf_true ha).2, (sf_true hb).1, (sf_true hb).2⟩ h0 hq hs
            rw [this, hn] at hs
            cases hs
        have hq2 : (wrap64 ((wrap64 (a * b)).tdiv a) != b) = false := by simpa using hq
        clear hq
        go_enter Tryd.func9, Tryd.ntmps9
        go_wp2_with (go_at_call 16; refine (rsafe_any _ _).mono ?_; rintro e w' ⟨rfl, rfl⟩)
        go_ret2
        exact ⟨rfl, rfl⟩
      · have hq2 : (wrap64 ((wrap64 (a * b)).tdiv a) != b) = true := by simpa using hq
        clear hq
        go_enter Tryd.func9, Tryd.ntmps9
        go_wp2_with (go_at_call 16; refine (rsafe_any _ _).mono ?_; rintro e w' ⟨rfl, rfl⟩)
        go_ret2
        exact ⟨rfl, rfl⟩
theorem op_zero (s : ByteArray) (a : Int) (w : World) (ha : sf a = true) (hb : sf 0 = true) (h1 : (s.toList == [43]) = false) (h2 : (s.toList == [45]) = false) (h3 : (s.toList == [42]) = false) :
    Calls Tryd.prog 9 #[.string s, .int .i64 a, .int .i64 0] w fun e w' => e = two none ∧ w = w' := by
  by_cases h4 : s.toList = [47]
  · have h4' : (s.toList == [47]) = true := by simpa using h4
    clear h4
    go_enter Tryd.func9, Tryd.ntmps9
    go_wp2_with (go_at_call 16; refine (rsafe_any _ _).mono ?_; rintro e w' ⟨rfl, rfl⟩)
    go_ret2
    exact ⟨rfl, rfl⟩
  · have h4' : (s.toList == [47]) = false := by simpa using h4
    clear h4
    by_cases h5 : s.toList = [37]
    · have h5' : (s.toList == [37]) = true := by simpa using h5
      clear h5
      go_enter Tryd.func9, Tryd.ntmps9
      go_wp2_with (go_at_call 16; refine (rsafe_any _ _).mono ?_; rintro e w' ⟨rfl, rfl⟩)
      go_ret2
      exact ⟨rfl, rfl⟩
    · have h5' : (s.toList == [37]) = false := by simpa using h5
      clear h5
      go_enter Tryd.func9, Tryd.ntmps9
      go_wp2_with (go_at_call 16; refine (rsafe_any _ _).mono ?_; rintro e w' ⟨rfl, rfl⟩)
      go_ret2
      exact ⟨rfl, rfl⟩
theorem op_quo (a b : Int) (w : World) (ha : sf a = true) (hb : sf b = true) (h0 : b ≠ 0) :
    Calls Tryd.prog 9 #[.string ⟨#[47]⟩, .int .i64 a, .int .i64 b] w fun e w' => e = two (some (a.tdiv b)) ∧ w = w' := by
  have hbd := tdiv_bd a b ⟨(sf_true ha).1, (sf_true ha).2, (sf_true hb).1, (sf_true hb).2⟩
  have hw : wrap64 (a.tdiv b) = a.tdiv b := IntWalk.wrap64_in _ (by omega)
  have hs : sf (a.tdiv b) = true := sf_mk hbd.1 hbd.2
  have hne : (b == 0) = false := by simpa using h0
  clear hbd
  go_enter Tryd.func9, Tryd.ntmps9
  go_wp2_with (go_at_call 16; refine (rsafe_any _ _).mono ?_; rintro e w' ⟨rfl, rfl⟩)
  go_ret2
  first | exact ⟨rfl, rfl⟩ | exact ⟨two_wrap hw, rfl⟩
theorem op_rem (a b : Int) (w : World) (ha : sf a = true) (hb : sf b = true) (h0 : b ≠ 0) :
    Calls Tryd.prog 9 #[.string ⟨#[37]⟩, .int .i64 a, .int .i64 b] w fun e w' => e = two (some (a.tmod b)) ∧ w = w' := by
  have hbd := tmod_bd a b ⟨(sf_true ha).1, (sf_true ha).2, (sf_true hb).1, (sf_true hb).2⟩
  have hs : sf (a.tmod b) = true := sf_mk hbd.1 hbd.2
  have hne : (b == 0) = false := by simpa using h0
  clear hbd
  go_enter Tryd.func9, Tryd.ntmps9
  go_wp2_with (go_at_call 16; refine (rsafe_any _ _).mono ?_; rintro e w' ⟨rfl, rfl⟩)
  go_ret2
  exact ⟨rfl, rfl⟩
theorem op_other (s : ByteArray) (a b : Int) (w : World) (ha : sf a = true) (hb : sf b = true) (h1 : (s.toList == [43]) = false) (h2 : (s.toList == [45]) = false) (h3 : (s.toList == [42]) = false) (h4 : (s.toList == [47]) = false) (h5 : (s.toList == [37]) = false) :
    Calls Tryd.prog 9 #[.string s, .int .i64 a, .int .i64 b] w fun e w' => e = two none ∧ w = w' := by
  go_enter Tryd.func9, Tryd.ntmps9
  go_wp2_with (go_at_call 16; refine (rsafe_any _ _).mono ?_; rintro e w' ⟨rfl, rfl⟩)
  go_ret2
  exact ⟨rfl, rfl⟩

theorem filter_pr (a b : Int) : (prF a b).filter sf = prF a b := by
  unfold prF
  split
  · rename_i h; simp [Option.filter, h]
  · rfl
theorem filter_some {n : Int} (h0 : -9007199254740991 ≤ n ∧ n ≤ 9007199254740991) : (some n).filter sf = some n := by
  simp [Option.filter, sf_mk h0.1 h0.2]

theorem op_any (k : Nat) (a b : Int) (w : World) :
    Calls Tryd.prog 9 #[.string (opS k), .int .i64 a, .int .i64 b] w fun e w' => e = two (doF k a b) ∧ w = w' := by
  by_cases hsf : sf a = true ∧ sf b = true
  · obtain ⟨ha, hb⟩ := hsf
    have h : Sf2 a b := ⟨(sf_true ha).1, (sf_true ha).2, (sf_true hb).1, (sf_true hb).2⟩
    rw [show doF k a b = (exF k a b).filter sf from if_pos ⟨ha, hb⟩]
    match k with
    | 0 => exact op_add a b w ha hb
    | 1 => exact op_sub a b w ha hb
    | 2 => rw [show exF 2 a b = prF a b from rfl, filter_pr]; exact op_mul a b w ha hb
    | 3 =>
      by_cases h0 : b = 0
      · subst h0; exact op_zero _ a w ha hb (by kernel_rfl) (by kernel_rfl) (by kernel_rfl)
      · rw [show exF 3 a b = some (a.tdiv b) from if_neg h0, filter_some (tdiv_bd a b h)]; exact op_quo a b w ha hb h0
    | 4 =>
      by_cases h0 : b = 0
      · subst h0; exact op_zero _ a w ha hb (by kernel_rfl) (by kernel_rfl) (by kernel_rfl)
      · rw [show exF 4 a b = some (a.tmod b) from if_neg h0, filter_some (tmod_bd a b h)]; exact op_rem a b w ha hb h0
    | 5 => exact op_other _ a b w ha hb (by kernel_rfl) (by kernel_rfl) (by kernel_rfl) (by kernel_rfl) (by kernel_rfl)
    | _ + 6 => exact op_other _ a b w ha hb (by kernel_rfl) (by kernel_rfl) (by kernel_rfl) (by kernel_rfl) (by kernel_rfl)
  · rw [show doF k a b = none from if_neg hsf]
    exact op_unsafe _ a b w hsf
end Go.Proofs.YtjhmiignkcgpnaaDoor
