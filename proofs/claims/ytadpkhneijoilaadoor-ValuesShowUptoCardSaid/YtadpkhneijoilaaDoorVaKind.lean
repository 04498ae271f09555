/-
  values.Truth and Type, and the reference's: what they give, kind by kind.
-/
import Derived.Test.YtadpkhneijoilaaDoorNmSmall
import Derived.Below
namespace Go.Proofs.YtadpkhneijoilaaDoor.Vals
open Go.RowKit Go.Proofs.YtadpkhneijoilaaDoor.Nums
set_option linter.unusedVariables false

/-- None of the seven kinds. -/
structure NoKind (k : Int) : Prop where
  e0 : (k == 0) = false
  e1 : (k == 1) = false
  e2 : (k == 2) = false
  e3 : (k == 3) = false
  e4 : (k == 4) = false
  e5 : (k == 5) = false
  e6 : (k == 6) = false
theorem kind_cases (k : Int) : k = 0 ∨ k = 1 ∨ k = 2 ∨ k = 3 ∨ k = 4 ∨ k = 5 ∨ k = 6 ∨ NoKind k := by
  by_cases h0 : k = 0
  · exact .inl h0
  by_cases h1 : k = 1
  · exact .inr (.inl h1)
  by_cases h2 : k = 2
  · exact .inr (.inr (.inl h2))
  by_cases h3 : k = 3
  · exact .inr (.inr (.inr (.inl h3)))
  by_cases h4 : k = 4
  · exact .inr (.inr (.inr (.inr (.inl h4))))
  by_cases h5 : k = 5
  · exact .inr (.inr (.inr (.inr (.inr (.inl h5)))))
  by_cases h6 : k = 6
  · exact .inr (.inr (.inr (.inr (.inr (.inr (.inl h6))))))
  · exact .inr (.inr (.inr (.inr (.inr (.inr (.inr ⟨by simpa using h0, by simpa using h1, by simpa using h2, by simpa using h3, by simpa using h4, by simpa using h5, by simpa using h6⟩))))))
theorem NoKind.ne {k : Int} (h : NoKind k) : k ≠ 0 ∧ k ≠ 1 ∧ k ≠ 2 ∧ k ≠ 3 ∧ k ≠ 4 ∧ k ≠ 5 ∧ k ≠ 6 :=
  ⟨by simpa using h.e0, by simpa using h.e1, by simpa using h.e2, by simpa using h.e3, by simpa using h.e4, by simpa using h.e5, by simpa using h.e6⟩

/-- A value of the language. -/
abbrev V (k n : Int) (s : ByteArray) : Value := .agg #[.int .i64 k, .int .i64 n, .string s]
theorem ball (w : World) (o : Obj) : Below w.heap.size w (w.alloc o) := (Below.refl _ _).alloc (Nat.le_refl _) _
theorem bnext {w w1 w2 : World} (h1 : Below w.heap.size w w1) (h2 : Below w1.heap.size w1 w2) : Below w.heap.size w w2 := h1.trans (h2.mono h1.size)

/-- Truth, in the document's words. -/
def truthF (k n : Int) (s : ByteArray) : Bool := if k = 0 ∨ k = 1 then false else if k = 2 ∨ k = 3 then (n != 0) else if k = 4 then !s.toList.isEmpty else true
/-- Type, in the document's words. -/
def typeF (k : Int) (c : Bool) : ByteArray :=
  if k = 0 then ⟨#[117, 110, 100, 101, 102, 105, 110, 101, 100]⟩ else if k = 1 then ⟨#[111, 98, 106, 101, 99, 116]⟩ else if k = 2 then ⟨#[98, 111, 111, 108, 101, 97, 110]⟩ else if k = 3 then ⟨#[110, 117, 109, 98, 101, 114]⟩
  else if k = 4 then ⟨#[115, 116, 114, 105, 110, 103]⟩ else if k = 5 then ⟨#[115, 121, 109, 98, 111, 108]⟩ else if k = 6 then (if c then ⟨#[102, 117, 110, 99, 116, 105, 111, 110]⟩ else ⟨#[111, 98, 106, 101, 99, 116]⟩) else ⟨#[]⟩
theorem truth_0 (n : Int) (s : ByteArray) (w : World) : Calls Tryd.prog 16 #[V 0 n s] w fun e w' => e = .returned (.bool (truthF 0 n s)) ∧ Below w.heap.size w w' := by
  go_enter Tryd.func16, Tryd.ntmps16
  go_wp2
  go_ret
  exact ⟨rfl, ball _ _⟩
theorem truth_1 (n : Int) (s : ByteArray) (w : World) : Calls Tryd.prog 16 #[V 1 n s] w fun e w' => e = .returned (.bool (truthF 1 n s)) ∧ Below w.heap.size w w' := by
  go_enter Tryd.func16, Tryd.ntmps16
  go_wp2
  go_ret
  exact ⟨rfl, ball _ _⟩
theorem truth_2 (n : Int) (s : ByteArray) (w : World) : Calls Tryd.prog 16 #[V 2 n s] w fun e w' => e = .returned (.bool (truthF 2 n s)) ∧ Below w.heap.size w w' := by
  go_enter Tryd.func16, Tryd.ntmps16
  go_wp2
  go_ret
  exact ⟨rfl, ball _ _⟩
theorem truth_3 (n : Int) (s : ByteArray) (w : World) : Calls Tryd.prog 16 #[V 3 n s] w fun e w' => e = .returned (.bool (truthF 3 n s)) ∧ Below w.heap.size w w' := by
  go_enter Tryd.func16, Tryd.ntmps16
  go_wp2
  go_ret
  exact ⟨rfl, ball _ _⟩
theorem truth_4 (n : Int) (s : ByteArray) (w : World) : Calls Tryd.prog 16 #[V 4 n s] w fun e w' => e = .returned (.bool (truthF 4 n s)) ∧ Below w.heap.size w w' := by
  go_enter Tryd.func16, Tryd.ntmps16
  go_wp2
  go_ret
  exact ⟨rfl, ball _ _⟩
theorem truth_5 (n : Int) (s : ByteArray) (w : World) : Calls Tryd.prog 16 #[V 5 n s] w fun e w' => e = .returned (.bool (truthF 5 n s)) ∧ Below w.heap.size w w' := by
  go_enter Tryd.func16, Tryd.ntmps16
  go_wp2
  go_ret
  exact ⟨rfl, ball _ _⟩
theorem truth_6 (n : Int) (s : ByteArray) (w : World) : Calls Tryd.prog 16 #[V 6 n s] w fun e w' => e = .returned (.bool (truthF 6 n s)) ∧ Below w.heap.size w w' := by
  go_enter Tryd.func16, Tryd.ntmps16
  go_wp2
  go_ret
  exact ⟨rfl, ball _ _⟩
theorem truth_k (k n : Int) (s : ByteArray) (hk : NoKind k) (w : World) : Calls Tryd.prog 16 #[V k n s] w fun e w' => e = .returned (.bool (truthF k n s)) ∧ Below w.heap.size w w' := by
  have hk0 := hk
  obtain ⟨e0, e1, e2, e3, e4, e5, e6⟩ := hk
  go_enter Tryd.func16, Tryd.ntmps16
  go_wp2
  go_ret
  refine ⟨?_, ball _ _⟩
  have h := hk0.ne
  simp [truthF, h]
theorem truth_any (k n : Int) (s : ByteArray) (w : World) : Calls Tryd.prog 16 #[V k n s] w fun e w' => e = .returned (.bool (truthF k n s)) ∧ Below w.heap.size w w' := by
  rcases kind_cases k with rfl | rfl | rfl | rfl | rfl | rfl | rfl | hk
  · exact truth_0 n s w
  · exact truth_1 n s w
  · exact truth_2 n s w
  · exact truth_3 n s w
  · exact truth_4 n s w
  · exact truth_5 n s w
  · exact truth_6 n s w
  · exact truth_k k n s hk w

theorem rtruth_0 (n : Int) (s : ByteArray) (w : World) : Calls Tryd.prog 17 #[V 0 n s] w fun e w' => e = .returned (.bool (truthF 0 n s)) ∧ Below w.heap.size w w' := by
  go_enter Tryd.func17, Tryd.ntmps17
  go_wp2
  go_ret
  exact ⟨rfl, ball _ _⟩
theorem rtruth_1 (n : Int) (s : ByteArray) (w : World) : Calls Tryd.prog 17 #[V 1 n s] w fun e w' => e = .returned (.bool (truthF 1 n s)) ∧ Below w.heap.size w w' := by
  go_enter Tryd.func17, Tryd.ntmps17
  go_wp2
  go_ret
  exact ⟨rfl, ball _ _⟩
theorem rtruth_2 (n : Int) (s : ByteArray) (w : World) : Calls Tryd.prog 17 #[V 2 n s] w fun e w' => e = .returned (.bool (truthF 2 n s)) ∧ Below w.heap.size w w' := by
  go_enter Tryd.func17, Tryd.ntmps17
  go_wp2
  go_ret
  exact ⟨rfl, ball _ _⟩
theorem rtruth_3 (n : Int) (s : ByteArray) (w : World) : Calls Tryd.prog 17 #[V 3 n s] w fun e w' => e = .returned (.bool (truthF 3 n s)) ∧ Below w.heap.size w w' := by
  go_enter Tryd.func17, Tryd.ntmps17
  go_wp2
  go_ret
  exact ⟨rfl, ball _ _⟩
theorem rtruth_4 (n : Int) (s : ByteArray) (w : World) : Calls Tryd.prog 17 #[V 4 n s] w fun e w' => e = .returned (.bool (truthF 4 n s)) ∧ Below w.heap.size w w' := by
  go_enter Tryd.func17, Tryd.ntmps17
  go_wp2
  go_ret
  exact ⟨rfl, ball _ _⟩
theorem rtruth_5 (n : Int) (s : ByteArray) (w : World) : Calls Tryd.prog 17 #[V 5 n s] w fun e w' => e = .returned (.bool (truthF 5 n s)) ∧ Below w.heap.size w w' := by
  go_enter Tryd.func17, Tryd.ntmps17
  go_wp2
  go_ret
  exact ⟨rfl, ball _ _⟩
theorem rtruth_6 (n : Int) (s : ByteArray) (w : World) : Calls Tryd.prog 17 #[V 6 n s] w fun e w' => e = .returned (.bool (truthF 6 n s)) ∧ Below w.heap.size w w' := by
  go_enter Tryd.func17, Tryd.ntmps17
  go_wp2
  go_ret
  exact ⟨rfl, ball _ _⟩
theorem rtruth_k (k n : Int) (s : ByteArray) (hk : NoKind k) (w : World) : Calls Tryd.prog 17 #[V k n s] w fun e w' => e = .returned (.bool (truthF k n s)) ∧ Below w.heap.size w w' := by
  have hk0 := hk
  obtain ⟨e0, e1, e2, e3, e4, e5, e6⟩ := hk
  go_enter Tryd.func17, Tryd.ntmps17
  go_wp2
  go_ret
  refine ⟨?_, ball _ _⟩
  have h := hk0.ne
  simp [truthF, h]
theorem rtruth_any (k n : Int) (s : ByteArray) (w : World) : Calls Tryd.prog 17 #[V k n s] w fun e w' => e = .returned (.bool (truthF k n s)) ∧ Below w.heap.size w w' := by
  rcases kind_cases k with rfl | rfl | rfl | rfl | rfl | rfl | rfl | hk
  · exact rtruth_0 n s w
  · exact rtruth_1 n s w
  · exact rtruth_2 n s w
  · exact rtruth_3 n s w
  · exact rtruth_4 n s w
  · exact rtruth_5 n s w
  · exact rtruth_6 n s w
  · exact rtruth_k k n s hk w

theorem type_0 (n : Int) (s : ByteArray) (c : Bool) (w : World) : Calls Tryd.prog 18 #[V 0 n s, .bool c] w fun e w' => e = .returned (.string (typeF 0 c)) ∧ Below w.heap.size w w' := by
  go_enter Tryd.func18, Tryd.ntmps18
  go_wp2
  go_ret
  exact ⟨rfl, ball _ _⟩
theorem type_1 (n : Int) (s : ByteArray) (c : Bool) (w : World) : Calls Tryd.prog 18 #[V 1 n s, .bool c] w fun e w' => e = .returned (.string (typeF 1 c)) ∧ Below w.heap.size w w' := by
  go_enter Tryd.func18, Tryd.ntmps18
  go_wp2
  go_ret
  exact ⟨rfl, ball _ _⟩
theorem type_2 (n : Int) (s : ByteArray) (c : Bool) (w : World) : Calls Tryd.prog 18 #[V 2 n s, .bool c] w fun e w' => e = .returned (.string (typeF 2 c)) ∧ Below w.heap.size w w' := by
  go_enter Tryd.func18, Tryd.ntmps18
  go_wp2
  go_ret
  exact ⟨rfl, ball _ _⟩
theorem type_3 (n : Int) (s : ByteArray) (c : Bool) (w : World) : Calls Tryd.prog 18 #[V 3 n s, .bool c] w fun e w' => e = .returned (.string (typeF 3 c)) ∧ Below w.heap.size w w' := by
  go_enter Tryd.func18, Tryd.ntmps18
  go_wp2
  go_ret
  exact ⟨rfl, ball _ _⟩
theorem type_4 (n : Int) (s : ByteArray) (c : Bool) (w : World) : Calls Tryd.prog 18 #[V 4 n s, .bool c] w fun e w' => e = .returned (.string (typeF 4 c)) ∧ Below w.heap.size w w' := by
  go_enter Tryd.func18, Tryd.ntmps18
  go_wp2
  go_ret
  exact ⟨rfl, ball _ _⟩
theorem type_5 (n : Int) (s : ByteArray) (c : Bool) (w : World) : Calls Tryd.prog 18 #[V 5 n s, .bool c] w fun e w' => e = .returned (.string (typeF 5 c)) ∧ Below w.heap.size w w' := by
  go_enter Tryd.func18, Tryd.ntmps18
  go_wp2
  go_ret
  exact ⟨rfl, ball _ _⟩
theorem type_6 (n : Int) (s : ByteArray) (c : Bool) (w : World) : Calls Tryd.prog 18 #[V 6 n s, .bool c] w fun e w' => e = .returned (.string (typeF 6 c)) ∧ Below w.heap.size w w' := by
  cases c
  all_goals
    go_enter Tryd.func18, Tryd.ntmps18
    go_wp2
    go_ret
    exact ⟨rfl, ball _ _⟩
theorem type_k (k n : Int) (s : ByteArray) (c : Bool) (hk : NoKind k) (w : World) : Calls Tryd.prog 18 #[V k n s, .bool c] w fun e w' => e = .returned (.string (typeF k c)) ∧ Below w.heap.size w w' := by
  have hk0 := hk
  obtain ⟨e0, e1, e2, e3, e4, e5, e6⟩ := hk
  go_enter Tryd.func18, Tryd.ntmps18
  go_wp2
  go_ret
  refine ⟨?_, ball _ _⟩
  have h := hk0.ne
  simp [typeF, h]
theorem type_any (k n : Int) (s : ByteArray) (c : Bool) (w : World) : Calls Tryd.prog 18 #[V k n s, .bool c] w fun e w' => e = .returned (.string (typeF k c)) ∧ Below w.heap.size w w' := by
  rcases kind_cases k with rfl | rfl | rfl | rfl | rfl | rfl | rfl | hk
  · exact type_0 n s c w
  · exact type_1 n s c w
  · exact type_2 n s c w
  · exact type_3 n s c w
  · exact type_4 n s c w
  · exact type_5 n s c w
  · exact type_6 n s c w
  · exact type_k k n s c hk w

theorem rtype_0 (n : Int) (s : ByteArray) (c : Bool) (w : World) : Calls Tryd.prog 19 #[V 0 n s, .bool c] w fun e w' => e = .returned (.string (typeF 0 c)) ∧ Below w.heap.size w w' := by
  go_enter Tryd.func19, Tryd.ntmps19
  go_wp2
  go_ret
  exact ⟨rfl, ((Below.refl _ _).alloc (Nat.le_refl _) _).alloc (by simp) _⟩
theorem rtype_1 (n : Int) (s : ByteArray) (c : Bool) (w : World) : Calls Tryd.prog 19 #[V 1 n s, .bool c] w fun e w' => e = .returned (.string (typeF 1 c)) ∧ Below w.heap.size w w' := by
  go_enter Tryd.func19, Tryd.ntmps19
  go_wp2
  go_ret
  exact ⟨rfl, ((Below.refl _ _).alloc (Nat.le_refl _) _).alloc (by simp) _⟩
theorem rtype_2 (n : Int) (s : ByteArray) (c : Bool) (w : World) : Calls Tryd.prog 19 #[V 2 n s, .bool c] w fun e w' => e = .returned (.string (typeF 2 c)) ∧ Below w.heap.size w w' := by
  go_enter Tryd.func19, Tryd.ntmps19
  go_wp2
  go_ret
  exact ⟨rfl, ((Below.refl _ _).alloc (Nat.le_refl _) _).alloc (by simp) _⟩
theorem rtype_3 (n : Int) (s : ByteArray) (c : Bool) (w : World) : Calls Tryd.prog 19 #[V 3 n s, .bool c] w fun e w' => e = .returned (.string (typeF 3 c)) ∧ Below w.heap.size w w' := by
  go_enter Tryd.func19, Tryd.ntmps19
  go_wp2
  go_ret
  exact ⟨rfl, ((Below.refl _ _).alloc (Nat.le_refl _) _).alloc (by simp) _⟩
theorem rtype_4 (n : Int) (s : ByteArray) (c : Bool) (w : World) : Calls Tryd.prog 19 #[V 4 n s, .bool c] w fun e w' => e = .returned (.string (typeF 4 c)) ∧ Below w.heap.size w w' := by
  go_enter Tryd.func19, Tryd.ntmps19
  go_wp2
  go_ret
  exact ⟨rfl, ((Below.refl _ _).alloc (Nat.le_refl _) _).alloc (by simp) _⟩
theorem rtype_5 (n : Int) (s : ByteArray) (c : Bool) (w : World) : Calls Tryd.prog 19 #[V 5 n s, .bool c] w fun e w' => e = .returned (.string (typeF 5 c)) ∧ Below w.heap.size w w' := by
  go_enter Tryd.func19, Tryd.ntmps19
  go_wp2
  go_ret
  exact ⟨rfl, ((Below.refl _ _).alloc (Nat.le_refl _) _).alloc (by simp) _⟩
theorem rtype_6 (n : Int) (s : ByteArray) (c : Bool) (w : World) : Calls Tryd.prog 19 #[V 6 n s, .bool c] w fun e w' => e = .returned (.string (typeF 6 c)) ∧ Below w.heap.size w w' := by
  cases c
  · go_enter Tryd.func19, Tryd.ntmps19
    go_wp2
    go_ret
    exact ⟨rfl, ((Below.refl _ _).alloc (Nat.le_refl _) _).alloc (by simp) _⟩
  · go_enter Tryd.func19, Tryd.ntmps19
    go_wp2
    go_ret
    exact ⟨rfl, ball _ _⟩
theorem rtype_k (k n : Int) (s : ByteArray) (c : Bool) (hk : NoKind k) (w : World) : Calls Tryd.prog 19 #[V k n s, .bool c] w fun e w' => e = .returned (.string (typeF k c)) ∧ Below w.heap.size w w' := by
  have hk0 := hk
  obtain ⟨e0, e1, e2, e3, e4, e5, e6⟩ := hk
  rcases (by have := hk0.ne; omega : k < 0 ∨ 6 < k) with hl | hl
  · go_enter Tryd.func19, Tryd.ntmps19
    go_wp2
    go_ret
    refine ⟨?_, ball _ _⟩
    have h := hk0.ne
    simp [typeF, h]
  · have hl2 : decide (k < 0) = false := decide_eq_false (by omega)
    go_enter Tryd.func19, Tryd.ntmps19
    go_wp2
    go_ret
    refine ⟨?_, ball _ _⟩
    have h := hk0.ne
    simp [typeF, h]
theorem rtype_any (k n : Int) (s : ByteArray) (c : Bool) (w : World) : Calls Tryd.prog 19 #[V k n s, .bool c] w fun e w' => e = .returned (.string (typeF k c)) ∧ Below w.heap.size w w' := by
  rcases kind_cases k with rfl | rfl | rfl | rfl | rfl | rfl | rfl | hk
  · exact rtype_0 n s c w
  · exact rtype_1 n s c w
  · exact rtype_2 n s c w
  · exact rtype_3 n s c w
  · exact rtype_4 n s c w
  · exact rtype_5 n s c w
  · exact rtype_6 n s c w
  · exact rtype_k k n s c hk w

end Go.Proofs.YtadpkhneijoilaaDoor.Vals
