/-
  The reference's Index: what a call gives.
-/
import Derived.Test.YtlhgiihooalanaaDoorKyMath
import Derived.Test.YtlhgiihooalanaaDoorNmRread
import Derived.Below
namespace Go.Proofs.YtlhgiihooalanaaDoor.Keys
open Go.RowKit Go.Proofs.YtlhgiihooalanaaDoor.Nums
set_option linter.unusedVariables false

set_option maxHeartbeats 1000000 in
theorem rindex_sym (s : ByteArray) (y : Int) (hy : (y != 0) = true) (w : World) :
    Calls Tryd.prog 20 #[.agg #[.string s, .int .i64 y]] w fun e w' => e = two none ∧ Below w.heap.size w w' := by
  go_enter Tryd.func20, Tryd.ntmps20
  go_wp2
  go_ret2
  exact ⟨rfl, (Below.refl _ _).alloc (Nat.le_refl _) _⟩
theorem rindex_long (s : ByteArray) (h : 10 < (s.size : Int)) (w : World) :
    Calls Tryd.prog 20 #[.agg #[.string s, .int .i64 0]] w fun e w' => e = two none ∧ Below w.heap.size w w' := by
  go_enter Tryd.func20, Tryd.ntmps20
  go_wp2
  go_ret2
  exact ⟨rfl, (Below.refl _ _).alloc (Nat.le_refl _) _⟩

theorem not_empty {s : ByteArray} (h : 0 < s.size) : s.toList.isEmpty = false := by
  rw [ByteArray.toList_eq]
  cases hl : s.data.toList with
  | nil => have := size_eq s; rw [hl] at this; simp at this; omega
  | cons _ _ => rfl
theorem not_nil {s : ByteArray} (h : 0 < s.size) : s.toList ≠ [] := fun e => by have := not_empty h; rw [e] at this; cases this

set_option maxHeartbeats 1000000 in
theorem rindex_sign (s : ByteArray) (h : (s.size : Int) ≤ 10) (h0 : 0 < s.size) (hb : B s 0 = 45) (w : World) :
    Calls Tryd.prog 20 #[.agg #[.string s, .int .i64 0]] w fun e w' => e = two none ∧ Below w.heap.size w w' := by
  have gb := gB s
  have he := not_empty h0
  have he2 := not_nil h0
  have b0 : (((B s 0 : Nat) : Int) == 45) = true := by simp; omega
  clear hb
  go_enter Tryd.func20, Tryd.ntmps20
  go_wp2
  go_ret2
  exact ⟨rfl, (Below.refl _ _).alloc (Nat.le_refl _) _⟩

/-- How the reference's ReadNumber ends. -/
def RnNone (s : ByteArray) : Prop := ∀ w, Calls Tryd.prog 32 #[.string s] w fun e w' => ∃ y, e = .returned (.tuple #[.int .i64 y, .bool false]) ∧ w = w'
def RnSome (s : ByteArray) (n : Int) : Prop := ∀ w, Calls Tryd.prog 32 #[.string s] w fun e w' => e = .returned (.tuple #[.int .i64 n, .bool true]) ∧ w = w'
theorem RnNone.at {s : ByteArray} (h : RnNone s) (w : World) : Calls Tryd.prog 32 #[.string s] w fun e w' => ∃ y, e = .returned (.tuple #[.int .i64 y, .bool false]) ∧ w = w' := h w
theorem RnSome.at {s : ByteArray} {n : Int} (h : RnSome s n) (w : World) : Calls Tryd.prog 32 #[.string s] w fun e w' => e = .returned (.tuple #[.int .i64 n, .bool true]) ∧ w = w' := h w
theorem rn_none {s : ByteArray} (hs : s.size ≤ 1000) (h : readF s.data.toList = none) : RnNone s := fun w => (rnum_any s w hs).mono fun e w' ⟨y, f, he, hr, _, _, hw⟩ => ⟨y, by rw [he, hr.no h], hw⟩
theorem rn_some {s : ByteArray} {n : Int} (hs : s.size ≤ 1000) (h : readF s.data.toList = some n) : RnSome s n := fun w => (rnum_any s w hs).mono fun e w' ⟨y, f, he, hr, _, _, hw⟩ => ⟨by rw [he, (hr.yes h).1, (hr.yes h).2], hw⟩

/-- The texts that the reference's Index reads: empty ones, and those without a sign. -/
inductive Plain (s : ByteArray) : Prop
  | empty (h : s = ⟨#[]⟩)
  | some (h : 0 < s.size) (hb : (((B s 0 : Nat) : Int) == 45) = false)

set_option maxHeartbeats 1000000 in
theorem rindex_none (s : ByteArray) (h : (s.size : Int) ≤ 10) (hp : Plain s) (hr : RnNone s) (w : World) :
    Calls Tryd.prog 20 #[.agg #[.string s, .int .i64 0]] w fun e w' => e = two none ∧ Below w.heap.size w w' := by
  rcases hp with rfl | ⟨h0, b0⟩
  · go_enter Tryd.func20, Tryd.ntmps20
    go_wp2_with (go_at_call 32; refine (hr.at _).mono ?_; rintro e w' ⟨y, rfl, rfl⟩)
    go_ret2
    exact ⟨rfl, (Below.refl _ _).alloc (Nat.le_refl _) _⟩
  · have gb := gB s
    have he := not_empty h0
    have he2 := not_nil h0
    go_enter Tryd.func20, Tryd.ntmps20
    go_wp2_with (go_at_call 32; refine (hr.at _).mono ?_; rintro e w' ⟨y, rfl, rfl⟩)
    go_ret2
    exact ⟨rfl, (Below.refl _ _).alloc (Nat.le_refl _) _⟩
set_option maxHeartbeats 1000000 in
theorem rindex_big (s : ByteArray) (h : (s.size : Int) ≤ 10) (hp : Plain s) (n : Int) (hn : 4294967294 < n) (hr : RnSome s n) (w : World) :
    Calls Tryd.prog 20 #[.agg #[.string s, .int .i64 0]] w fun e w' => e = two none ∧ Below w.heap.size w w' := by
  rcases hp with rfl | ⟨h0, b0⟩
  · go_enter Tryd.func20, Tryd.ntmps20
    go_wp2_with (go_at_call 32; refine (hr.at _).mono ?_; rintro e w' ⟨rfl, rfl⟩)
    go_ret2
    exact ⟨rfl, (Below.refl _ _).alloc (Nat.le_refl _) _⟩
  · have gb := gB s
    have he := not_empty h0
    have he2 := not_nil h0
    go_enter Tryd.func20, Tryd.ntmps20
    go_wp2_with (go_at_call 32; refine (hr.at _).mono ?_; rintro e w' ⟨rfl, rfl⟩)
    go_ret2
    exact ⟨rfl, (Below.refl _ _).alloc (Nat.le_refl _) _⟩
set_option maxHeartbeats 1000000 in
theorem rindex_yes (s : ByteArray) (h : (s.size : Int) ≤ 10) (hp : Plain s) (n : Int) (hn : n ≤ 4294967294) (hr : RnSome s n) (w : World) :
    Calls Tryd.prog 20 #[.agg #[.string s, .int .i64 0]] w fun e w' => e = two (some n) ∧ Below w.heap.size w w' := by
  rcases hp with rfl | ⟨h0, b0⟩
  · go_enter Tryd.func20, Tryd.ntmps20
    go_wp2_with (go_at_call 32; refine (hr.at _).mono ?_; rintro e w' ⟨rfl, rfl⟩)
    go_ret2
    exact ⟨rfl, (Below.refl _ _).alloc (Nat.le_refl _) _⟩
  · have gb := gB s
    have he := not_empty h0
    have he2 := not_nil h0
    go_enter Tryd.func20, Tryd.ntmps20
    go_wp2_with (go_at_call 32; refine (hr.at _).mono ?_; rintro e w' ⟨rfl, rfl⟩)
    go_ret2
    exact ⟨rfl, (Below.refl _ _).alloc (Nat.le_refl _) _⟩

/-- The reference's Index at a string key. -/
theorem rindex_str (s : ByteArray) (w : World) :
    Calls Tryd.prog 20 #[.agg #[.string s, .int .i64 0]] w fun e w' => e = two (idxF s.data.toList) ∧ Below w.heap.size w w' := by
  by_cases h : 10 < s.size
  · rw [idxF_long h]; exact rindex_long s (by omega) w
  · by_cases hm : 0 < s.size ∧ B s 0 = 45
    · rw [idxF_sign hm.1 hm.2]; exact rindex_sign s (by omega) hm.1 hm.2 w
    · have hp : Plain s := by
        by_cases h0 : s.size = 0
        · exact .empty (ByteArray.ext (Array.eq_empty_of_size_eq_zero h0))
        · exact .some (by omega) (by simp; omega)
      cases hr : readF s.data.toList with
      | none => rw [idxF_none hr]; exact rindex_none s (by omega) hp (rn_none (by omega) hr) w
      | some n =>
        have hn0 : 0 ≤ n := by
          rcases itoa_shape (readF_some hr).2 with ⟨_, hl⟩ | ⟨h0, _⟩
          · obtain ⟨hb, hz⟩ := head_B hl
            have hb : B s 0 = 45 := hb
            exact absurd ⟨by omega, hb⟩ hm
          · exact h0
        by_cases hn : n ≤ 4294967294
        · rw [idxF_in hr hn0 hn]; exact rindex_yes s (by omega) hp n hn (rn_some (by omega) hr) w
        · rw [idxF_out hr (by omega)]; exact rindex_big s (by omega) hp n (by omega) (rn_some (by omega) hr) w
end Go.Proofs.YtlhgiihooalanaaDoor.Keys
