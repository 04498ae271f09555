/-
  The walk of the law NumbersDo.
-/
import Derived.Test.YtjhmiignkcgpnaaDoorAlive
import Derived.Below
namespace Go.Proofs.YtjhmiignkcgpnaaDoor
open Go.RowKit

set_option maxHeartbeats 1000000 in
theorem lawDo_out (k a b : Int) (w : World) (h : k < 0 ∨ 7 ≤ k) :
    Calls Tryd.prog 3 #[.int .i64 k, .int .i64 a, .int .i64 b] w fun e w' => e = .returned (.bool true) ∧ Below w.heap.size w w' := by
  rcases h with h | h
  · go_enter Tryd.func3, Tryd.ntmps3
    go_wp2_with (go_at_call 7; refine (alive_any _).mono ?_; rintro e w' ⟨rfl, rfl⟩)
    go_ret
    exact ⟨rfl, (Below.refl _ _).alloc (Nat.le_refl _) _⟩
  · have h2 : 0 ≤ k := by omega
    go_enter Tryd.func3, Tryd.ntmps3
    go_wp2_with (go_at_call 7; refine (alive_any _).mono ?_; rintro e w' ⟨rfl, rfl⟩)
    go_ret
    exact ⟨rfl, (Below.refl _ _).alloc (Nat.le_refl _) _⟩

set_option maxHeartbeats 1000000 in
theorem lawDo_none0 (a b : Int) (w : World)
    (e1 : ∀ w, Calls Tryd.prog 8 #[.string ⟨#[43]⟩, .int .i64 a, .int .i64 b] w fun e w' => e = .returned (.tuple #[.int .i64 0, .bool false]) ∧ w = w')
    (e2 : ∀ w, Calls Tryd.prog 9 #[.string ⟨#[43]⟩, .int .i64 a, .int .i64 b] w fun e w' => e = .returned (.tuple #[.int .i64 0, .bool false]) ∧ w = w') :
    Calls Tryd.prog 3 #[.int .i64 0, .int .i64 a, .int .i64 b] w fun e w' => e = .returned (.bool true) ∧ Below w.heap.size w w' := by
  go_enter Tryd.func3, Tryd.ntmps3
  go_wp2_with (first | (go_at_call 7; refine (alive_any _).mono ?_; rintro e w' ⟨rfl, rfl⟩) | (go_at_call 8; refine (e1 _).mono ?_; rintro e w' ⟨rfl, rfl⟩) | (go_at_call 9; refine (e2 _).mono ?_; rintro e w' ⟨rfl, rfl⟩))
  go_ret
  exact ⟨rfl, (Below.refl _ _).alloc (Nat.le_refl _) _⟩
set_option maxHeartbeats 1000000 in
theorem lawDo_some0 (a b n : Int) (w : World) (hn : sf n = true)
    (e1 : ∀ w, Calls Tryd.prog 8 #[.string ⟨#[43]⟩, .int .i64 a, .int .i64 b] w fun e w' => e = .returned (.tuple #[.int .i64 n, .bool true]) ∧ w = w')
    (e2 : ∀ w, Calls Tryd.prog 9 #[.string ⟨#[43]⟩, .int .i64 a, .int .i64 b] w fun e w' => e = .returned (.tuple #[.int .i64 n, .bool true]) ∧ w = w') :
    Calls Tryd.prog 3 #[.int .i64 0, .int .i64 a, .int .i64 b] w fun e w' => e = .returned (.bool true) ∧ Below w.heap.size w w' := by
  go_enter Tryd.func3, Tryd.ntmps3
  go_wp2_with (first | (go_at_call 7; refine (alive_any _).mono ?_; rintro e w' ⟨rfl, rfl⟩) | (go_at_call 8; refine (e1 _).mono ?_; rintro e w' ⟨rfl, rfl⟩) | (go_at_call 9; refine (e2 _).mono ?_; rintro e w' ⟨rfl, rfl⟩) | (go_at_call 10; refine (safe_any _ _).mono ?_; rintro e w' ⟨rfl, rfl⟩))
  go_ret
  exact ⟨rfl, (Below.refl _ _).alloc (Nat.le_refl _) _⟩
set_option maxHeartbeats 1000000 in
theorem lawDo_none1 (a b : Int) (w : World)
    (e1 : ∀ w, Calls Tryd.prog 8 #[.string ⟨#[45]⟩, .int .i64 a, .int .i64 b] w fun e w' => e = .returned (.tuple #[.int .i64 0, .bool false]) ∧ w = w')
    (e2 : ∀ w, Calls Tryd.prog 9 #[.string ⟨#[45]⟩, .int .i64 a, .int .i64 b] w fun e w' => e = .returned (.tuple #[.int .i64 0, .bool false]) ∧ w = w') :
    Calls Tryd.prog 3 #[.int .i64 1, .int .i64 a, .int .i64 b] w fun e w' => e = .returned (.bool true) ∧ Below w.heap.size w w' := by
  go_enter Tryd.func3, Tryd.ntmps3
  go_wp2_with (first | (go_at_call 7; refine (alive_any _).mono ?_; rintro e w' ⟨rfl, rfl⟩) | (go_at_call 8; refine (e1 _).mono ?_; rintro e w' ⟨rfl, rfl⟩) | (go_at_call 9; refine (e2 _).mono ?_; rintro e w' ⟨rfl, rfl⟩))
  go_ret
  exact ⟨rfl, (Below.refl _ _).alloc (Nat.le_refl _) _⟩
set_option maxHeartbeats 1000000 in
theorem lawDo_some1 (a b n : Int) (w : World) (hn : sf n = true)
    (e1 : ∀ w, Calls Tryd.prog 8 #[.string ⟨#[45]⟩, .int .i64 a, .int .i64 b] w fun e w' => e = .returned (.tuple #[.int .i64 n, .bool true]) ∧ w = w')
    (e2 : ∀ w, Calls Tryd.prog 9 #[.string ⟨#[45]⟩, .int .i64 a, .int .i64 b] w fun e w' => e = .returned (.tuple #[.int .i64 n, .bool true]) ∧ w = w') :
    Calls Tryd.prog 3 #[.int .i64 1, .int .i64 a, .int .i64 b] w fun e w' => e = .returned (.bool true) ∧ Below w.heap.size w w' := by
  go_enter Tryd.func3, Tryd.ntmps3
  go_wp2_with (first | (go_at_call 7; refine (alive_any _).mono ?_; rintro e w' ⟨rfl, rfl⟩) | (go_at_call 8; refine (e1 _).mono ?_; rintro e w' ⟨rfl, rfl⟩) | (go_at_call 9; refine (e2 _).mono ?_; rintro e w' ⟨rfl, rfl⟩) | (go_at_call 10; refine (safe_any _ _).mono ?_; rintro e w' ⟨rfl, rfl⟩))
  go_ret
  exact ⟨rfl, (Below.refl _ _).alloc (Nat.le_refl _) _⟩
set_option maxHeartbeats 1000000 in
theorem lawDo_none2 (a b : Int) (w : World)
    (e1 : ∀ w, Calls Tryd.prog 8 #[.string ⟨#[42]⟩, .int .i64 a, .int .i64 b] w fun e w' => e = .returned (.tuple #[.int .i64 0, .bool false]) ∧ w = w')
    (e2 : ∀ w, Calls Tryd.prog 9 #[.string ⟨#[42]⟩, .int .i64 a, .int .i64 b] w fun e w' => e = .returned (.tuple #[.int .i64 0, .bool false]) ∧ w = w') :
    Calls Tryd.prog 3 #[.int .i64 2, .int .i64 a, .int .i64 b] w fun e w' => e = .returned (.bool true) ∧ Below w.heap.size w w' := by
  go_enter Tryd.func3, Tryd.ntmps3
  go_wp2_with (first | (go_at_call 7; refine (alive_any _).mono ?_; rintro e w' ⟨rfl, rfl⟩) | (go_at_call 8; refine (e1 _).mono ?_; rintro e w' ⟨rfl, rfl⟩) | (go_at_call 9; refine (e2 _).mono ?_; rintro e w' ⟨rfl, rfl⟩))
  go_ret
  exact ⟨rfl, (Below.refl _ _).alloc (Nat.le_refl _) _⟩
set_option maxHeartbeats 1000000 in
theorem lawDo_some2 (a b n : Int) (w : World) (hn : sf n = true)
    (e1 : ∀ w, Calls Tryd.prog 8 #[.string ⟨#[42]⟩, .int .i64 a, .int .i64 b] w fun e w' => e = .returned (.tuple #[.int .i64 n, .bool true]) ∧ w = w')
    (e2 : ∀ w, Calls Tryd.prog 9 #[.string ⟨#[42]⟩, .int .i64 a, .int .i64 b] w fun e w' => e = .returned (.tuple #[.int .i64 n, .bool true]) ∧ w = w') :
    Calls Tryd.prog 3 #[.int .i64 2, .int .i64 a, .int .i64 b] w fun e w' => e = .returned (.bool true) ∧ Below w.heap.size w w' := by
  go_enter Tryd.func3, Tryd.ntmps3
  go_wp2_with (first | (go_at_call 7; refine (alive_any _).mono ?_; rintro e w' ⟨rfl, rfl⟩) | (go_at_call 8; refine (e1 _).mono ?_; rintro e w' ⟨rfl, rfl⟩) | (go_at_call 9; refine (e2 _).mono ?_; rintro e w' ⟨rfl, rfl⟩) | (go_at_call 10; refine (safe_any _ _).mono ?_; rintro e w' ⟨rfl, rfl⟩))
  go_ret
  exact ⟨rfl, (Below.refl _ _).alloc (Nat.le_refl _) _⟩
set_option maxHeartbeats 1000000 in
theorem lawDo_none3 (a b : Int) (w : World)
    (e1 : ∀ w, Calls Tryd.prog 8 #[.string ⟨#[47]⟩, .int .i64 a, .int .i64 b] w fun e w' => e = .returned (.tuple #[.int .i64 0, .bool false]) ∧ w = w')
    (e2 : ∀ w, Calls Tryd.prog 9 #[.string ⟨#[47]⟩, .int .i64 a, .int .i64 b] w fun e w' => e = .returned (.tuple #[.int .i64 0, .bool false]) ∧ w = w') :
    Calls Tryd.prog 3 #[.int .i64 3, .int .i64 a, .int .i64 b] w fun e w' => e = .returned (.bool true) ∧ Below w.heap.size w w' := by
  go_enter Tryd.func3, Tryd.ntmps3
  go_wp2_with (first | (go_at_call 7; refine (alive_any _).mono ?_; rintro e w' ⟨rfl, rfl⟩) | (go_at_call 8; refine (e1 _).mono ?_; rintro e w' ⟨rfl, rfl⟩) | (go_at_call 9; refine (e2 _).mono ?_; rintro e w' ⟨rfl, rfl⟩))
  go_ret
  exact ⟨rfl, (Below.refl _ _).alloc (Nat.le_refl _) _⟩
set_option maxHeartbeats 1000000 in
theorem lawDo_some3 (a b n : Int) (w : World) (hn : sf n = true)
    (e1 : ∀ w, Calls Tryd.prog 8 #[.string ⟨#[47]⟩, .int .i64 a, .int .i64 b] w fun e w' => e = .returned (.tuple #[.int .i64 n, .bool true]) ∧ w = w')
    (e2 : ∀ w, Calls Tryd.prog 9 #[.string ⟨#[47]⟩, .int .i64 a, .int .i64 b] w fun e w' => e = .returned (.tuple #[.int .i64 n, .bool true]) ∧ w = w') :
    Calls Tryd.prog 3 #[.int .i64 3, .int .i64 a, .int .i64 b] w fun e w' => e = .returned (.bool true) ∧ Below w.heap.size w w' := by
  go_enter Tryd.func3, Tryd.ntmps3
  go_wp2_with (first | (go_at_call 7; refine (alive_any _).mono ?_; rintro e w' ⟨rfl, rfl⟩) | (go_at_call 8; refine (e1 _).mono ?_; rintro e w' ⟨rfl, rfl⟩) | (go_at_call 9; refine (e2 _).mono ?_; rintro e w' ⟨rfl, rfl⟩) | (go_at_call 10; refine (safe_any _ _).mono ?_; rintro e w' ⟨rfl, rfl⟩))
  go_ret
  exact ⟨rfl, (Below.refl _ _).alloc (Nat.le_refl _) _⟩
set_option maxHeartbeats 1000000 in
theorem lawDo_none4 (a b : Int) (w : World)
    (e1 : ∀ w, Calls Tryd.prog 8 #[.string ⟨#[37]⟩, .int .i64 a, .int .i64 b] w fun e w' => e = .returned (.tuple #[.int .i64 0, .bool false]) ∧ w = w')
    (e2 : ∀ w, Calls Tryd.prog 9 #[.string ⟨#[37]⟩, .int .i64 a, .int .i64 b] w fun e w' => e = .returned (.tuple #[.int .i64 0, .bool false]) ∧ w = w') :
    Calls Tryd.prog 3 #[.int .i64 4, .int .i64 a, .int .i64 b] w fun e w' => e = .returned (.bool true) ∧ Below w.heap.size w w' := by
  go_enter Tryd.func3, Tryd.ntmps3
  go_wp2_with (first | (go_at_call 7; refine (alive_any _).mono ?_; rintro e w' ⟨rfl, rfl⟩) | (go_at_call 8; refine (e1 _).mono ?_; rintro e w' ⟨rfl, rfl⟩) | (go_at_call 9; refine (e2 _).mono ?_; rintro e w' ⟨rfl, rfl⟩))
  go_ret
  exact ⟨rfl, (Below.refl _ _).alloc (Nat.le_refl _) _⟩
set_option maxHeartbeats 1000000 in
theorem lawDo_some4 (a b n : Int) (w : World) (hn : sf n = true)
    (e1 : ∀ w, Calls Tryd.prog 8 #[.string ⟨#[37]⟩, .int .i64 a, .int .i64 b] w fun e w' => e = .returned (.tuple #[.int .i64 n, .bool true]) ∧ w = w')
    (e2 : ∀ w, Calls Tryd.prog 9 #[.string ⟨#[37]⟩, .int .i64 a, .int .i64 b] w fun e w' => e = .returned (.tuple #[.int .i64 n, .bool true]) ∧ w = w') :
    Calls Tryd.prog 3 #[.int .i64 4, .int .i64 a, .int .i64 b] w fun e w' => e = .returned (.bool true) ∧ Below w.heap.size w w' := by
  go_enter Tryd.func3, Tryd.ntmps3
  go_wp2_with (first | (go_at_call 7; refine (alive_any _).mono ?_; rintro e w' ⟨rfl, rfl⟩) | (go_at_call 8; refine (e1 _).mono ?_; rintro e w' ⟨rfl, rfl⟩) | (go_at_call 9; refine (e2 _).mono ?_; rintro e w' ⟨rfl, rfl⟩) | (go_at_call 10; refine (safe_any _ _).mono ?_; rintro e w' ⟨rfl, rfl⟩))
  go_ret
  exact ⟨rfl, (Below.refl _ _).alloc (Nat.le_refl _) _⟩
set_option maxHeartbeats 1000000 in
theorem lawDo_none5 (a b : Int) (w : World)
    (e1 : ∀ w, Calls Tryd.prog 8 #[.string ⟨#[42, 42]⟩, .int .i64 a, .int .i64 b] w fun e w' => e = .returned (.tuple #[.int .i64 0, .bool false]) ∧ w = w')
    (e2 : ∀ w, Calls Tryd.prog 9 #[.string ⟨#[42, 42]⟩, .int .i64 a, .int .i64 b] w fun e w' => e = .returned (.tuple #[.int .i64 0, .bool false]) ∧ w = w') :
    Calls Tryd.prog 3 #[.int .i64 5, .int .i64 a, .int .i64 b] w fun e w' => e = .returned (.bool true) ∧ Below w.heap.size w w' := by
  go_enter Tryd.func3, Tryd.ntmps3
  go_wp2_with (first | (go_at_call 7; refine (alive_any _).mono ?_; rintro e w' ⟨rfl, rfl⟩) | (go_at_call 8; refine (e1 _).mono ?_; rintro e w' ⟨rfl, rfl⟩) | (go_at_call 9; refine (e2 _).mono ?_; rintro e w' ⟨rfl, rfl⟩))
  go_ret
  exact ⟨rfl, (Below.refl _ _).alloc (Nat.le_refl _) _⟩
set_option maxHeartbeats 1000000 in
theorem lawDo_some5 (a b n : Int) (w : World) (hn : sf n = true)
    (e1 : ∀ w, Calls Tryd.prog 8 #[.string ⟨#[42, 42]⟩, .int .i64 a, .int .i64 b] w fun e w' => e = .returned (.tuple #[.int .i64 n, .bool true]) ∧ w = w')
    (e2 : ∀ w, Calls Tryd.prog 9 #[.string ⟨#[42, 42]⟩, .int .i64 a, .int .i64 b] w fun e w' => e = .returned (.tuple #[.int .i64 n, .bool true]) ∧ w = w') :
    Calls Tryd.prog 3 #[.int .i64 5, .int .i64 a, .int .i64 b] w fun e w' => e = .returned (.bool true) ∧ Below w.heap.size w w' := by
  go_enter Tryd.func3, Tryd.ntmps3
  go_wp2_with (first | (go_at_call 7; refine (alive_any _).mono ?_; rintro e w' ⟨rfl, rfl⟩) | (go_at_call 8; refine (e1 _).mono ?_; rintro e w' ⟨rfl, rfl⟩) | (go_at_call 9; refine (e2 _).mono ?_; rintro e w' ⟨rfl, rfl⟩) | (go_at_call 10; refine (safe_any _ _).mono ?_; rintro e w' ⟨rfl, rfl⟩))
  go_ret
  exact ⟨rfl, (Below.refl _ _).alloc (Nat.le_refl _) _⟩
set_option maxHeartbeats 1000000 in
theorem lawDo_none6 (a b : Int) (w : World)
    (e1 : ∀ w, Calls Tryd.prog 8 #[.string ⟨#[]⟩, .int .i64 a, .int .i64 b] w fun e w' => e = .returned (.tuple #[.int .i64 0, .bool false]) ∧ w = w')
    (e2 : ∀ w, Calls Tryd.prog 9 #[.string ⟨#[]⟩, .int .i64 a, .int .i64 b] w fun e w' => e = .returned (.tuple #[.int .i64 0, .bool false]) ∧ w = w') :
    Calls Tryd.prog 3 #[.int .i64 6, .int .i64 a, .int .i64 b] w fun e w' => e = .returned (.bool true) ∧ Below w.heap.size w w' := by
  go_enter Tryd.func3, Tryd.ntmps3
  go_wp2_with (first | (go_at_call 7; refine (alive_any _).mono ?_; rintro e w' ⟨rfl, rfl⟩) | (go_at_call 8; refine (e1 _).mono ?_; rintro e w' ⟨rfl, rfl⟩) | (go_at_call 9; refine (e2 _).mono ?_; rintro e w' ⟨rfl, rfl⟩))
  go_ret
  exact ⟨rfl, (Below.refl _ _).alloc (Nat.le_refl _) _⟩
set_option maxHeartbeats 1000000 in
theorem lawDo_some6 (a b n : Int) (w : World) (hn : sf n = true)
    (e1 : ∀ w, Calls Tryd.prog 8 #[.string ⟨#[]⟩, .int .i64 a, .int .i64 b] w fun e w' => e = .returned (.tuple #[.int .i64 n, .bool true]) ∧ w = w')
    (e2 : ∀ w, Calls Tryd.prog 9 #[.string ⟨#[]⟩, .int .i64 a, .int .i64 b] w fun e w' => e = .returned (.tuple #[.int .i64 n, .bool true]) ∧ w = w') :
    Calls Tryd.prog 3 #[.int .i64 6, .int .i64 a, .int .i64 b] w fun e w' => e = .returned (.bool true) ∧ Below w.heap.size w w' := by
  go_enter Tryd.func3, Tryd.ntmps3
  go_wp2_with (first | (go_at_call 7; refine (alive_any _).mono ?_; rintro e w' ⟨rfl, rfl⟩) | (go_at_call 8; refine (e1 _).mono ?_; rintro e w' ⟨rfl, rfl⟩) | (go_at_call 9; refine (e2 _).mono ?_; rintro e w' ⟨rfl, rfl⟩) | (go_at_call 10; refine (safe_any _ _).mono ?_; rintro e w' ⟨rfl, rfl⟩))
  go_ret
  exact ⟨rfl, (Below.refl _ _).alloc (Nat.le_refl _) _⟩
theorem lawDo_at0 (a b : Int) (w : World) :
    Calls Tryd.prog 3 #[.int .i64 0, .int .i64 a, .int .i64 b] w fun e w' => e = .returned (.bool true) ∧ Below w.heap.size w w' := by
  have h1 := fun w => do_any 0 a b w
  have h2 := fun w => op_any 0 a b w
  have hsf : ∀ n, doF 0 a b = some n → sf n = true := fun n h => doF_sf h
  generalize doF 0 a b = r at h1 h2 hsf
  cases r with
  | none => exact lawDo_none0 a b w h1 h2
  | some n => exact lawDo_some0 a b n w (hsf n rfl) h1 h2
theorem lawDo_at1 (a b : Int) (w : World) :
    Calls Tryd.prog 3 #[.int .i64 1, .int .i64 a, .int .i64 b] w fun e w' => e = .returned (.bool true) ∧ Below w.heap.size w w' := by
  have h1 := fun w => do_any 1 a b w
  have h2 := fun w => op_any 1 a b w
  have hsf : ∀ n, doF 1 a b = some n → sf n = true := fun n h => doF_sf h
  generalize doF 1 a b = r at h1 h2 hsf
  cases r with
  | none => exact lawDo_none1 a b w h1 h2
  | some n => exact lawDo_some1 a b n w (hsf n rfl) h1 h2
theorem lawDo_at2 (a b : Int) (w : World) :
    Calls Tryd.prog 3 #[.int .i64 2, .int .i64 a, .int .i64 b] w fun e w' => e = .returned (.bool true) ∧ Below w.heap.size w w' := by
  have h1 := fun w => do_any 2 a b w
  have h2 := fun w => op_any 2 a b w
  have hsf : ∀ n, doF 2 a b = some n → sf n = true := fun n h => doF_sf h
  generalize doF 2 a b = r at h1 h2 hsf
  cases r with
  | none => exact lawDo_none2 a b w h1 h2
  | some n => exact lawDo_some2 a b n w (hsf n rfl) h1 h2
theorem lawDo_at3 (a b : Int) (w : World) :
    Calls Tryd.prog 3 #[.int .i64 3, .int .i64 a, .int .i64 b] w fun e w' => e = .returned (.bool true) ∧ Below w.heap.size w w' := by
  have h1 := fun w => do_any 3 a b w
  have h2 := fun w => op_any 3 a b w
  have hsf : ∀ n, doF 3 a b = some n → sf n = true := fun n h => doF_sf h
  generalize doF 3 a b = r at h1 h2 hsf
  cases r with
  | none => exact lawDo_none3 a b w h1 h2
  | some n => exact lawDo_some3 a b n w (hsf n rfl) h1 h2
theorem lawDo_at4 (a b : Int) (w : World) :
    Calls Tryd.prog 3 #[.int .i64 4, .int .i64 a, .int .i64 b] w fun e w' => e = .returned (.bool true) ∧ Below w.heap.size w w' := by
  have h1 := fun w => do_any 4 a b w
  have h2 := fun w => op_any 4 a b w
  have hsf : ∀ n, doF 4 a b = some n → sf n = true := fun n h => doF_sf h
  generalize doF 4 a b = r at h1 h2 hsf
  cases r with
  | none => exact lawDo_none4 a b w h1 h2
  | some n => exact lawDo_some4 a b n w (hsf n rfl) h1 h2
theorem lawDo_at5 (a b : Int) (w : World) :
    Calls Tryd.prog 3 #[.int .i64 5, .int .i64 a, .int .i64 b] w fun e w' => e = .returned (.bool true) ∧ Below w.heap.size w w' := by
  have h1 := fun w => do_any 5 a b w
  have h2 := fun w => op_any 5 a b w
  have hsf : ∀ n, doF 5 a b = some n → sf n = true := fun n h => doF_sf h
  generalize doF 5 a b = r at h1 h2 hsf
  cases r with
  | none => exact lawDo_none5 a b w h1 h2
  | some n => exact lawDo_some5 a b n w (hsf n rfl) h1 h2
theorem lawDo_at6 (a b : Int) (w : World) :
    Calls Tryd.prog 3 #[.int .i64 6, .int .i64 a, .int .i64 b] w fun e w' => e = .returned (.bool true) ∧ Below w.heap.size w w' := by
  have h1 := fun w => do_any 6 a b w
  have h2 := fun w => op_any 6 a b w
  have hsf : ∀ n, doF 6 a b = some n → sf n = true := fun n h => doF_sf h
  generalize doF 6 a b = r at h1 h2 hsf
  cases r with
  | none => exact lawDo_none6 a b w h1 h2
  | some n => exact lawDo_some6 a b n w (hsf n rfl) h1 h2

theorem lawDo_walk (k a b : Int) (w : World) :
    Calls Tryd.prog 3 #[.int .i64 k, .int .i64 a, .int .i64 b] w fun e w' => e = .returned (.bool true) ∧ Below w.heap.size w w' := by
  by_cases h : k < 0 ∨ 7 ≤ k
  · exact lawDo_out k a b w h
  · have hk : k = 0 ∨ k = 1 ∨ k = 2 ∨ k = 3 ∨ k = 4 ∨ k = 5 ∨ k = 6 := by omega
    clear h
    rcases hk with rfl | rfl | rfl | rfl | rfl | rfl | rfl
    · exact lawDo_at0 a b w
    · exact lawDo_at1 a b w
    · exact lawDo_at2 a b w
    · exact lawDo_at3 a b w
    · exact lawDo_at4 a b w
    · exact lawDo_at5 a b w
    · exact lawDo_at6 a b w
end Go.Proofs.YtjhmiignkcgpnaaDoor
