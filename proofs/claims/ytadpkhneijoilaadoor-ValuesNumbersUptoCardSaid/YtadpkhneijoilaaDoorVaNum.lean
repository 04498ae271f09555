/-
  values.Number and Show, and the reference's NumberOf and Show: what they give.
-/
import Derived.Test.YtadpkhneijoilaaDoorVaText
namespace Go.Proofs.YtadpkhneijoilaaDoor.Vals
open Go.RowKit Go.Proofs.YtadpkhneijoilaaDoor.Nums
open Go.Proofs.YtadpkhneijoilaaDoor.Uni (right_any of_any)
set_option linter.unusedVariables false

/-- A value's number, if it has one. -/
def numF (k n : Int) (s : ByteArray) : Option Int :=
  if k = 1 then some 0 else if k = 2 ∨ k = 3 then some n else if k = 4 then (if s.toList.isEmpty then some 0 else readF s.data.toList) else none
/-- How a value is shown. -/
def showF (k n : Int) (s : ByteArray) (c : Bool) : ByteArray := if k = 4 then bs (quoteL s) else if k = 5 ∨ k = 6 then typeF k c else (textF k n s).getD ⟨#[]⟩

theorem num_0 (n : Int) (s : ByteArray) (w : World) : Calls Tryd.prog 14 #[V 0 n s] w fun e w' => e = .returned (.tuple #[.int .i64 0, .bool false]) ∧ Below w.heap.size w w' := by
  go_enter Tryd.func14, Tryd.ntmps14
  go_wp2
  go_ret2
  exact ⟨rfl, ball _ _⟩
theorem num_1 (n : Int) (s : ByteArray) (w : World) : Calls Tryd.prog 14 #[V 1 n s] w fun e w' => e = .returned (.tuple #[.int .i64 0, .bool true]) ∧ Below w.heap.size w w' := by
  go_enter Tryd.func14, Tryd.ntmps14
  go_wp2
  go_ret2
  exact ⟨rfl, ball _ _⟩
theorem num_2 (n : Int) (s : ByteArray) (w : World) : Calls Tryd.prog 14 #[V 2 n s] w fun e w' => e = .returned (.tuple #[.int .i64 n, .bool true]) ∧ Below w.heap.size w w' := by
  go_enter Tryd.func14, Tryd.ntmps14
  go_wp2
  go_ret2
  exact ⟨rfl, ball _ _⟩
theorem num_3 (n : Int) (s : ByteArray) (w : World) : Calls Tryd.prog 14 #[V 3 n s] w fun e w' => e = .returned (.tuple #[.int .i64 n, .bool true]) ∧ Below w.heap.size w w' := by
  go_enter Tryd.func14, Tryd.ntmps14
  go_wp2
  go_ret2
  exact ⟨rfl, ball _ _⟩
theorem num_5 (n : Int) (s : ByteArray) (w : World) : Calls Tryd.prog 14 #[V 5 n s] w fun e w' => e = .returned (.tuple #[.int .i64 0, .bool false]) ∧ Below w.heap.size w w' := by
  go_enter Tryd.func14, Tryd.ntmps14
  go_wp2
  go_ret2
  exact ⟨rfl, ball _ _⟩
theorem num_6 (n : Int) (s : ByteArray) (w : World) : Calls Tryd.prog 14 #[V 6 n s] w fun e w' => e = .returned (.tuple #[.int .i64 0, .bool false]) ∧ Below w.heap.size w w' := by
  go_enter Tryd.func14, Tryd.ntmps14
  go_wp2
  go_ret2
  exact ⟨rfl, ball _ _⟩
theorem num_4e (n : Int) (s : ByteArray) (w : World) (h : s.toList.isEmpty = true) : Calls Tryd.prog 14 #[V 4 n s] w fun e w' => e = .returned (.tuple #[.int .i64 0, .bool true]) ∧ Below w.heap.size w w' := by
  go_enter Tryd.func14, Tryd.ntmps14
  go_wp2
  go_ret2
  exact ⟨rfl, ball _ _⟩
theorem num_k (k n : Int) (s : ByteArray) (hk : NoKind k) (w : World) : Calls Tryd.prog 14 #[V k n s] w fun e w' => e = .returned (.tuple #[.int .i64 0, .bool false]) ∧ Below w.heap.size w w' := by
  obtain ⟨e0, e1, e2, e3, e4, e5, e6⟩ := hk
  go_enter Tryd.func14, Tryd.ntmps14
  go_wp2
  go_ret2
  exact ⟨rfl, ball _ _⟩
theorem rnum_0 (n : Int) (s : ByteArray) (w : World) : Calls Tryd.prog 15 #[V 0 n s] w fun e w' => e = .returned (.tuple #[.int .i64 0, .bool false]) ∧ Below w.heap.size w w' := by
  go_enter Tryd.func15, Tryd.ntmps15
  go_wp2
  go_ret2
  exact ⟨rfl, ball _ _⟩
theorem rnum_1 (n : Int) (s : ByteArray) (w : World) : Calls Tryd.prog 15 #[V 1 n s] w fun e w' => e = .returned (.tuple #[.int .i64 0, .bool true]) ∧ Below w.heap.size w w' := by
  go_enter Tryd.func15, Tryd.ntmps15
  go_wp2
  go_ret2
  exact ⟨rfl, ball _ _⟩
theorem rnum_2 (n : Int) (s : ByteArray) (w : World) : Calls Tryd.prog 15 #[V 2 n s] w fun e w' => e = .returned (.tuple #[.int .i64 n, .bool true]) ∧ Below w.heap.size w w' := by
  go_enter Tryd.func15, Tryd.ntmps15
  go_wp2
  go_ret2
  exact ⟨rfl, ball _ _⟩
theorem rnum_3 (n : Int) (s : ByteArray) (w : World) : Calls Tryd.prog 15 #[V 3 n s] w fun e w' => e = .returned (.tuple #[.int .i64 n, .bool true]) ∧ Below w.heap.size w w' := by
  go_enter Tryd.func15, Tryd.ntmps15
  go_wp2
  go_ret2
  exact ⟨rfl, ball _ _⟩
theorem rnum_5 (n : Int) (s : ByteArray) (w : World) : Calls Tryd.prog 15 #[V 5 n s] w fun e w' => e = .returned (.tuple #[.int .i64 0, .bool false]) ∧ Below w.heap.size w w' := by
  go_enter Tryd.func15, Tryd.ntmps15
  go_wp2
  go_ret2
  exact ⟨rfl, ball _ _⟩
theorem rnum_6 (n : Int) (s : ByteArray) (w : World) : Calls Tryd.prog 15 #[V 6 n s] w fun e w' => e = .returned (.tuple #[.int .i64 0, .bool false]) ∧ Below w.heap.size w w' := by
  go_enter Tryd.func15, Tryd.ntmps15
  go_wp2
  go_ret2
  exact ⟨rfl, ball _ _⟩
theorem rnum_4e (n : Int) (s : ByteArray) (w : World) (h : s.toList.isEmpty = true) : Calls Tryd.prog 15 #[V 4 n s] w fun e w' => e = .returned (.tuple #[.int .i64 0, .bool true]) ∧ Below w.heap.size w w' := by
  go_enter Tryd.func15, Tryd.ntmps15
  go_wp2
  go_ret2
  exact ⟨rfl, ball _ _⟩
theorem rnum_k (k n : Int) (s : ByteArray) (hk : NoKind k) (w : World) : Calls Tryd.prog 15 #[V k n s] w fun e w' => e = .returned (.tuple #[.int .i64 0, .bool false]) ∧ Below w.heap.size w w' := by
  obtain ⟨e0, e1, e2, e3, e4, e5, e6⟩ := hk
  go_enter Tryd.func15, Tryd.ntmps15
  go_wp2
  go_ret2
  exact ⟨rfl, ball _ _⟩
theorem num_4 (n : Int) (s : ByteArray) (hs : s.size ≤ 1000) (w : World) (hL : Lw w) (h : s.toList.isEmpty = false) : Calls Tryd.prog 14 #[V 4 n s] w fun e w' => e = two (readF s.data.toList) ∧ Below w.heap.size w w' := by
  have hr : ∀ w, Lw w → Calls Tryd.prog 30 #[.string s] w fun e w' => e = .returned (.tuple #[.int .i64 ((readF s.data.toList).getD 0), .bool (readF s.data.toList).isSome]) ∧ Below w.heap.size w w' := fun w hL => read_any s (by omega) w hL
  unfold two
  obtain ⟨y, hy⟩ : ∃ y, y = (readF s.data.toList).getD 0 := ⟨_, rfl⟩
  obtain ⟨f, hf⟩ : ∃ f, f = (readF s.data.toList).isSome := ⟨_, rfl⟩
  rw [← hy, ← hf]
  rw [← hy, ← hf] at hr
  have HR := Lib.hid hr
  clear hr hy hf
  go_enter Tryd.func14, Tryd.ntmps14
  go_wp2_with (go_at_call 30; refine (HR.out _ (hL.below (ball _ _))).mono ?_; rintro e w1 ⟨rfl, hb⟩)
  go_ret2
  exact ⟨rfl, bnext (ball _ _) hb⟩
theorem num_any (k n : Int) (s : ByteArray) (hs : s.size ≤ 1000) (w : World) (hL : Lw w) : Calls Tryd.prog 14 #[V k n s] w fun e w' => e = two (numF k n s) ∧ Below w.heap.size w w' := by
  rcases kind_cases k with rfl | rfl | rfl | rfl | rfl | rfl | rfl | hk
  · exact num_0 n s w
  · exact num_1 n s w
  · exact num_2 n s w
  · exact num_3 n s w
  · cases h : s.toList.isEmpty with
    | true =>
      have e : numF 4 n s = some 0 := by simp [numF, h]
      rw [e]; exact num_4e n s w h
    | false =>
      have e : numF 4 n s = readF s.data.toList := by simp [numF, h]
      rw [e]; exact num_4 n s hs w hL h
  · exact num_5 n s w
  · exact num_6 n s w
  · have h := hk.ne
    have e : numF k n s = none := by simp [numF, h]
    rw [e]; exact num_k k n s hk w

/-- What the reference gives: the number and true, or something and false. -/
def RnV (r : Option Int) (w : World) (e : Ending) (w' : World) : Prop :=
  ∃ y f, e = .returned (.tuple #[.int .i64 y, .bool f]) ∧ (f = true → r = some y) ∧ (f = false → r = none) ∧ Below w.heap.size w w'
theorem rnv_of {r : Option Int} {w w' : World} {e : Ending} (h : e = two r ∧ Below w.heap.size w w') : RnV r w e w' := by
  obtain ⟨rfl, h⟩ := h
  refine ⟨_, _, rfl, ?_, ?_, h⟩
  · cases r <;> simp
  · cases r <;> simp
theorem rnum_4 (n : Int) (s : ByteArray) (hs : s.size ≤ 1000) (w : World) (h : s.toList.isEmpty = false) : Calls Tryd.prog 15 #[V 4 n s] w (RnV (readF s.data.toList) w) := by
  have hr := fun w => Nums.rnum_any s w hs
  have HR := Lib.hid hr
  clear hr
  go_enter Tryd.func15, Tryd.ntmps15
  go_wp2_with (go_at_call 24; refine (HR.out _).mono ?_)
  rintro e w1 ⟨y, f, rfl, hrn, hy0, hy1, rfl⟩
  have HN := Lib.hid hrn
  clear hrn hy0 hy1
  go_wp2
  go_ret2
  exact ⟨y, f, rfl, HN.out.1, HN.out.2, ball _ _⟩
theorem rnumv_any (k n : Int) (s : ByteArray) (hs : s.size ≤ 1000) (w : World) : Calls Tryd.prog 15 #[V k n s] w (RnV (numF k n s) w) := by
  rcases kind_cases k with rfl | rfl | rfl | rfl | rfl | rfl | rfl | hk
  · exact (rnum_0 n s w).mono fun e w' h => rnv_of (r := none) h
  · exact (rnum_1 n s w).mono fun e w' h => rnv_of (r := some 0) h
  · exact (rnum_2 n s w).mono fun e w' h => rnv_of (r := some n) h
  · exact (rnum_3 n s w).mono fun e w' h => rnv_of (r := some n) h
  · cases h : s.toList.isEmpty with
    | true =>
      have e : numF 4 n s = some 0 := by simp [numF, h]
      rw [e]; exact (rnum_4e n s w h).mono fun e w' h => rnv_of (r := some 0) h
    | false =>
      have e : numF 4 n s = readF s.data.toList := by simp [numF, h]
      rw [e]; exact rnum_4 n s hs w h
  · exact (rnum_5 n s w).mono fun e w' h => rnv_of (r := none) h
  · exact (rnum_6 n s w).mono fun e w' h => rnv_of (r := none) h
  · have h := hk.ne
    have e : numF k n s = none := by simp [numF, h]
    rw [e]; exact (rnum_k k n s hk w).mono fun e w' h => rnv_of (r := none) h

theorem show_4 (n : Int) (s : ByteArray) (c : Bool) (hs : s.size ≤ 1000000) (w : World) (hT : Lt w) : Calls Tryd.prog 20 #[V 4 n s, .bool c] w fun e w' => e = .returned (.string (bs (quoteL s))) ∧ Below w.heap.size w w' := by
  go_enter Tryd.func20, Tryd.ntmps20
  go_wp2_with (go_at_call 31; refine (quoted_any s _ hs (hT.below (ball _ _))).mono ?_; rintro e w1 ⟨rfl, hb⟩)
  go_ret
  exact ⟨rfl, bnext (ball _ _) hb⟩
theorem show_5 (n : Int) (s : ByteArray) (c : Bool) (w : World) : Calls Tryd.prog 20 #[V 5 n s, .bool c] w fun e w' => e = .returned (.string (typeF 5 c)) ∧ Below w.heap.size w w' := by
  have ht := fun w => type_any 5 n s c w
  obtain ⟨t, hT⟩ : ∃ t, t = typeF 5 c := ⟨_, rfl⟩
  rw [← hT] at ht ⊢
  clear hT
  go_enter Tryd.func20, Tryd.ntmps20
  go_wp2_with (go_at_call 18; refine (ht _).mono ?_; rintro e w1 ⟨rfl, hb⟩)
  go_ret
  exact ⟨rfl, bnext (ball _ _) hb⟩
theorem show_6 (n : Int) (s : ByteArray) (c : Bool) (w : World) : Calls Tryd.prog 20 #[V 6 n s, .bool c] w fun e w' => e = .returned (.string (typeF 6 c)) ∧ Below w.heap.size w w' := by
  have ht := fun w => type_any 6 n s c w
  obtain ⟨t, hT⟩ : ∃ t, t = typeF 6 c := ⟨_, rfl⟩
  rw [← hT] at ht ⊢
  clear hT
  go_enter Tryd.func20, Tryd.ntmps20
  go_wp2_with (go_at_call 18; refine (ht _).mono ?_; rintro e w1 ⟨rfl, hb⟩)
  go_ret
  exact ⟨rfl, bnext (ball _ _) hb⟩
theorem show_o (k n : Int) (s : ByteArray) (c : Bool) (h0 : -9223372036854775808 ≤ n) (h9 : n ≤ 9223372036854775807) (e4 : (k == 4) = false) (e5 : (k == 5) = false) (e6 : (k == 6) = false) (w : World) (hV : Lv w) : Calls Tryd.prog 20 #[V k n s, .bool c] w fun e w' => e = .returned (.string ((textF k n s).getD ⟨#[]⟩)) ∧ Below w.heap.size w w' := by
  have hr := fun w hL => text_any k n s h0 h9 w hL
  unfold twoS at hr
  obtain ⟨y, hy⟩ : ∃ y, y = (textF k n s).getD ⟨#[]⟩ := ⟨_, rfl⟩
  obtain ⟨f, hf⟩ : ∃ f, f = (textF k n s).isSome := ⟨_, rfl⟩
  rw [← hy]
  rw [← hy, ← hf] at hr
  have HR := Lib.hid hr
  clear hr hy hf
  go_enter Tryd.func20, Tryd.ntmps20
  go_wp2_with (go_at_call 12; refine (HR.out _ (hV.nums.below (ball _ _))).mono ?_; rintro e w1 ⟨rfl, hb⟩)
  go_ret
  exact ⟨rfl, bnext (ball _ _) hb⟩
theorem show_any (k n : Int) (s : ByteArray) (c : Bool) (h0 : -9223372036854775808 ≤ n) (h9 : n ≤ 9223372036854775807) (hs : s.size ≤ 1000000) (w : World) (hV : Lv w) : Calls Tryd.prog 20 #[V k n s, .bool c] w fun e w' => e = .returned (.string (showF k n s c)) ∧ Below w.heap.size w w' := by
  by_cases e4 : k = 4
  · subst e4
    exact show_4 n s c hs w hV.tab
  by_cases e5 : k = 5
  · subst e5
    exact show_5 n s c w
  by_cases e6 : k = 6
  · subst e6
    exact show_6 n s c w
  · have e : showF k n s c = (textF k n s).getD ⟨#[]⟩ := by simp [showF, e4, e5, e6]
    rw [e]
    exact show_o k n s c h0 h9 (by simpa using e4) (by simpa using e5) (by simpa using e6) w hV

theorem rshow_4 (n : Int) (s : ByteArray) (c : Bool) (hs : s.size ≤ 1000000) (w : World) : Calls Tryd.prog 21 #[V 4 n s, .bool c] w fun e w' => e = .returned (.string (bs (quoteL s))) ∧ Below w.heap.size w w' := by
  go_enter Tryd.func21, Tryd.ntmps21
  go_wp2_with (go_at_call 32; refine (rquote_any s _ hs).mono ?_; rintro e w1 ⟨rfl, hb⟩)
  go_ret
  exact ⟨rfl, bnext (ball _ _) hb⟩
theorem rshow_5 (n : Int) (s : ByteArray) (c : Bool) (w : World) : Calls Tryd.prog 21 #[V 5 n s, .bool c] w fun e w' => e = .returned (.string (typeF 5 c)) ∧ Below w.heap.size w w' := by
  go_enter Tryd.func21, Tryd.ntmps21
  go_wp2
  go_ret
  exact ⟨rfl, ball _ _⟩
theorem rshow_6 (n : Int) (s : ByteArray) (c : Bool) (w : World) : Calls Tryd.prog 21 #[V 6 n s, .bool c] w fun e w' => e = .returned (.string (typeF 6 c)) ∧ Below w.heap.size w w' := by
  have ht := fun w => rtype_any 6 n s c w
  obtain ⟨t, hT⟩ : ∃ t, t = typeF 6 c := ⟨_, rfl⟩
  rw [← hT] at ht ⊢
  clear hT
  go_enter Tryd.func21, Tryd.ntmps21
  go_wp2_with (go_at_call 19; refine (ht _).mono ?_; rintro e w1 ⟨rfl, hb⟩)
  go_ret
  exact ⟨rfl, bnext (ball _ _) hb⟩
theorem rshow_o (k n : Int) (s : ByteArray) (c : Bool) (h0 : -9223372036854775808 ≤ n) (h9 : n ≤ 9223372036854775807) (e4 : (k == 4) = false) (e5 : (k == 5) = false) (e6 : (k == 6) = false) (w : World) : Calls Tryd.prog 21 #[V k n s, .bool c] w fun e w' => e = .returned (.string ((textF k n s).getD ⟨#[]⟩)) ∧ Below w.heap.size w w' := by
  have hr := fun w => rtext_any k n s h0 h9 w
  unfold twoS at hr
  obtain ⟨y, hy⟩ : ∃ y, y = (textF k n s).getD ⟨#[]⟩ := ⟨_, rfl⟩
  obtain ⟨f, hf⟩ : ∃ f, f = (textF k n s).isSome := ⟨_, rfl⟩
  rw [← hy]
  rw [← hy, ← hf] at hr
  have HR := Lib.hid hr
  clear hr hy hf
  go_enter Tryd.func21, Tryd.ntmps21
  go_wp2_with (go_at_call 13; refine (HR.out _).mono ?_; rintro e w1 ⟨rfl, hb⟩)
  go_ret
  exact ⟨rfl, bnext (ball _ _) hb⟩
theorem rshow_any (k n : Int) (s : ByteArray) (c : Bool) (h0 : -9223372036854775808 ≤ n) (h9 : n ≤ 9223372036854775807) (hs : s.size ≤ 1000000) (w : World) : Calls Tryd.prog 21 #[V k n s, .bool c] w fun e w' => e = .returned (.string (showF k n s c)) ∧ Below w.heap.size w w' := by
  by_cases e4 : k = 4
  · subst e4
    exact rshow_4 n s c hs w 
  by_cases e5 : k = 5
  · subst e5
    exact rshow_5 n s c w
  by_cases e6 : k = 6
  · subst e6
    exact rshow_6 n s c w
  · have e : showF k n s c = (textF k n s).getD ⟨#[]⟩ := by simp [showF, e4, e5, e6]
    rw [e]
    exact rshow_o k n s c h0 h9 (by simpa using e4) (by simpa using e5) (by simpa using e6) w 

end Go.Proofs.YtadpkhneijoilaaDoor.Vals
