/-
  numbers.Do: what it gives for each operator.
-/
import Derived.Test.YtjhmiignkcgpnaaDoorExact
import Derived.KernelRfl
namespace Go.Proofs.YtjhmiignkcgpnaaDoor
open Go.RowKit

/-- What a result of two parts is: the number and true, or 0 and false. -/
def two (r : Option Int) : Ending := .returned (.tuple #[.int .i64 (r.getD 0), .bool r.isSome])
theorem two_some (n : Int) : Ending.returned (.tuple #[.int .i64 n, .bool true]) = two (some n) := rfl
theorem two_none : Ending.returned (.tuple #[.int .i64 0, .bool false]) = two none := rfl
theorem two_wrap {n : Int} (h : wrap64 n = n) : Ending.returned (.tuple #[.int .i64 (wrap64 n), .bool true]) = two (some n) := by rw [h]; rfl

/-- Two safe numbers. -/
structure Sf2 (a b : Int) : Prop where
  a0 : -9007199254740991 ≤ a
  a1 : a ≤ 9007199254740991
  b0 : -9007199254740991 ≤ b
  b1 : b ≤ 9007199254740991

theorem exact_add (a b : Int) (w : World) (h : Sf2 a b) :
    Calls Tryd.prog 15 #[.string ⟨#[43]⟩, .int .i64 a, .int .i64 b] w fun e w' => e = two (some (a + b)) ∧ w = w' := by
  obtain ⟨a0, a1, b0, b1⟩ := h
  go_enter Tryd.func15, Tryd.ntmps15
  go_wp2
  go_ret2
  exact ⟨rfl, rfl⟩
theorem exact_sub (a b : Int) (w : World) (h : Sf2 a b) :
    Calls Tryd.prog 15 #[.string ⟨#[45]⟩, .int .i64 a, .int .i64 b] w fun e w' => e = two (some (a - b)) ∧ w = w' := by
  obtain ⟨a0, a1, b0, b1⟩ := h
  go_enter Tryd.func15, Tryd.ntmps15
  go_wp2
  go_ret2
  exact ⟨rfl, rfl⟩
theorem exact_mul (a b : Int) (w : World) (h : Sf2 a b) :
    Calls Tryd.prog 15 #[.string ⟨#[42]⟩, .int .i64 a, .int .i64 b] w fun e w' => e = two (prF a b) ∧ w = w' := by
  obtain ⟨a0, a1, b0, b1⟩ := h
  go_enter Tryd.func15, Tryd.ntmps15
  go_wp2_with (go_at_call 19; refine (product_any _ _ _ (by omega) (by omega) (by omega) (by omega)).mono ?_; rintro e w' ⟨rfl, rfl⟩)
  go_ret2
  exact ⟨rfl, rfl⟩
theorem tdiv_bd (a b : Int) (h : Sf2 a b) : -9007199254740991 ≤ a.tdiv b ∧ a.tdiv b ≤ 9007199254740991 := by
  obtain ⟨a0, a1, _, _⟩ := h
  have := Int.natAbs_tdiv_le_natAbs a b
  omega
theorem tmod_bd (a b : Int) (h : Sf2 a b) : -9007199254740991 ≤ a.tmod b ∧ a.tmod b ≤ 9007199254740991 := by
  obtain ⟨a0, a1, _, _⟩ := h
  have h1 := Int.natAbs_tmod a b
  have h2 := Nat.mod_le a.natAbs b.natAbs
  omega
theorem exact_quo (a b : Int) (w : World) (h : Sf2 a b) (hb : b ≠ 0) :
    Calls Tryd.prog 15 #[.string ⟨#[47]⟩, .int .i64 a, .int .i64 b] w fun e w' => e = two (some (a.tdiv b)) ∧ w = w' := by
  have hw : wrap64 (a.tdiv b) = a.tdiv b := IntWalk.wrap64_in _ (by have := tdiv_bd a b h; omega)
  obtain ⟨a0, a1, b0, b1⟩ := h
  go_enter Tryd.func15, Tryd.ntmps15
  go_wp2
  go_ret2
  exact ⟨two_wrap hw, rfl⟩
theorem exact_rem (a b : Int) (w : World) (h : Sf2 a b) (hb : b ≠ 0) :
    Calls Tryd.prog 15 #[.string ⟨#[37]⟩, .int .i64 a, .int .i64 b] w fun e w' => e = two (some (a.tmod b)) ∧ w = w' := by
  obtain ⟨a0, a1, b0, b1⟩ := h
  go_enter Tryd.func15, Tryd.ntmps15
  go_wp2
  go_ret2
  exact ⟨rfl, rfl⟩
theorem exact_zero (s : ByteArray) (a : Int) (w : World) (h1 : (s.toList == [43]) = false) (h2 : (s.toList == [45]) = false) (h3 : (s.toList == [42]) = false) :
    Calls Tryd.prog 15 #[.string s, .int .i64 a, .int .i64 0] w fun e w' => e = two none ∧ w = w' := by
  go_enter Tryd.func15, Tryd.ntmps15
  go_wp2
  go_ret2
  exact ⟨rfl, rfl⟩
theorem exact_stars (a b : Int) (w : World) :
    Calls Tryd.prog 15 #[.string ⟨#[42, 42]⟩, .int .i64 a, .int .i64 b] w fun e w' => e = two none ∧ w = w' := by
  by_cases hb : b = 0
  · subst hb
    exact exact_zero _ a w (by kernel_rfl) (by kernel_rfl) (by kernel_rfl)
  · go_enter Tryd.func15, Tryd.ntmps15
    go_wp2
    go_ret2
    exact ⟨rfl, rfl⟩
theorem exact_empty (a b : Int) (w : World) :
    Calls Tryd.prog 15 #[.string ⟨#[]⟩, .int .i64 a, .int .i64 b] w fun e w' => e = two none ∧ w = w' := by
  by_cases hb : b = 0
  · subst hb
    exact exact_zero _ a w (by kernel_rfl) (by kernel_rfl) (by kernel_rfl)
  · go_enter Tryd.func15, Tryd.ntmps15
    go_wp2
    go_ret2
    exact ⟨rfl, rfl⟩

/-- The operators, the last two none of the language. -/
def opS : Nat → ByteArray
  | 0 => ⟨#[43]⟩
  | 1 => ⟨#[45]⟩
  | 2 => ⟨#[42]⟩
  | 3 => ⟨#[47]⟩
  | 4 => ⟨#[37]⟩
  | 5 => ⟨#[42, 42]⟩
  | _ => ⟨#[]⟩
/-- The exact result, which need not be safe. -/
def exF (k : Nat) (a b : Int) : Option Int :=
  match k with
  | 0 => some (a + b)
  | 1 => some (a - b)
  | 2 => prF a b
  | 3 => if b = 0 then none else some (a.tdiv b)
  | 4 => if b = 0 then none else some (a.tmod b)
  | _ => none
theorem exact_any (k : Nat) (a b : Int) (w : World) (h : Sf2 a b) :
    Calls Tryd.prog 15 #[.string (opS k), .int .i64 a, .int .i64 b] w fun e w' => e = two (exF k a b) ∧ w = w' := by
  match k with
  | 0 => exact exact_add a b w h
  | 1 => exact exact_sub a b w h
  | 2 => exact exact_mul a b w h
  | 3 =>
    by_cases hb : b = 0
    · subst hb; exact exact_zero _ a w (by kernel_rfl) (by kernel_rfl) (by kernel_rfl)
    · rw [show exF 3 a b = some (a.tdiv b) from if_neg hb]; exact exact_quo a b w h hb
  | 4 =>
    by_cases hb : b = 0
    · subst hb; exact exact_zero _ a w (by kernel_rfl) (by kernel_rfl) (by kernel_rfl)
    · rw [show exF 4 a b = some (a.tmod b) from if_neg hb]; exact exact_rem a b w h hb
  | 5 => exact exact_stars a b w
  | _ + 6 => exact exact_empty a b w

/-- The result of an operation, if it has one. -/
def doF (k : Nat) (a b : Int) : Option Int := if sf a = true ∧ sf b = true then (exF k a b).filter sf else none
theorem doF_sf {k : Nat} {a b n : Int} (h : doF k a b = some n) : sf n = true := by
  unfold doF at h
  split at h
  · exact (Option.filter_eq_some_iff.1 h).2
  · cases h
set_option maxHeartbeats 800000 in
theorem do_any (k : Nat) (a b : Int) (w : World) :
    Calls Tryd.prog 8 #[.string (opS k), .int .i64 a, .int .i64 b] w fun e w' => e = two (doF k a b) ∧ w = w' := by
  generalize hs : opS k = s
  cases ha : sf a with
  | false =>
    have e : doF k a b = none := by unfold doF; rw [ha]; simp
    rw [e]; clear e hs
    go_enter Tryd.func8, Tryd.ntmps8
    go_wp2_with (go_at_call 10; refine (safe_any _ _).mono ?_; rintro e w' ⟨rfl, rfl⟩)
    go_ret2
    exact ⟨rfl, rfl⟩
  | true =>
    cases hb : sf b with
    | false =>
      have e : doF k a b = none := by unfold doF; rw [hb]; simp
      rw [e]; clear e hs
      go_enter Tryd.func8, Tryd.ntmps8
      go_wp2_with (go_at_call 10; refine (safe_any _ _).mono ?_; rintro e w' ⟨rfl, rfl⟩)
      go_ret2
      exact ⟨rfl, rfl⟩
    | true =>
      have hsf : Sf2 a b := ⟨(sf_true ha).1, (sf_true ha).2, (sf_true hb).1, (sf_true hb).2⟩
      have e : doF k a b = (exF k a b).filter sf := by unfold doF; rw [ha, hb]; simp
      have hx := fun w => exact_any k a b w hsf
      rw [hs] at hx
      rw [e]; clear e hs
      cases hr : exF k a b with
      | none =>
        rw [hr] at hx; clear hr
        have hx2 : ∀ w, Calls Tryd.prog 15 #[.string s, .int .i64 a, .int .i64 b] w fun e w' => e = .returned (.tuple #[.int .i64 0, .bool false]) ∧ w = w' := hx
        clear hx
        go_enter Tryd.func8, Tryd.ntmps8
        go_wp2_with (first | (go_at_call 10; refine (safe_any _ _).mono ?_; rintro e w' ⟨rfl, rfl⟩) | (go_at_call 15; refine (hx2 _).mono ?_; rintro e w' ⟨rfl, rfl⟩))
        go_ret2
        exact ⟨rfl, rfl⟩
      | some n =>
        rw [hr] at hx; clear hr
        have hx2 : ∀ w, Calls Tryd.prog 15 #[.string s, .int .i64 a, .int .i64 b] w fun e w' => e = .returned (.tuple #[.int .i64 n, .bool true]) ∧ w = w' := hx
        clear hx
        cases hn : sf n with
        | false =>
          rw [show (some n).filter sf = none by simp [Option.filter, hn]]
          go_enter Tryd.func8, Tryd.ntmps8
          go_wp2_with (first | (go_at_call 10; refine (safe_any _ _).mono ?_; rintro e w' ⟨rfl, rfl⟩) | (go_at_call 15; refine (hx2 _).mono ?_; rintro e w' ⟨rfl, rfl⟩))
          go_ret2
          exact ⟨rfl, rfl⟩
        | true =>
          rw [show (some n).filter sf = some n by simp [Option.filter, hn]]
          go_enter Tryd.func8, Tryd.ntmps8
          go_wp2_with (first | (go_at_call 10; refine (safe_any _ _).mono ?_; rintro e w' ⟨rfl, rfl⟩) | (go_at_call 15; refine (hx2 _).mono ?_; rintro e w' ⟨rfl, rfl⟩))
          go_ret2
          exact ⟨rfl, rfl⟩
end Go.Proofs.YtjhmiignkcgpnaaDoor
