/-
  values.Text, Number and Show, and the reference's TextOf, NumberOf and Show: what they give.
-/
import Derived.Test.YtadpkhneijoilaaDoorVaOf
import Derived.Test.YtadpkhneijoilaaDoorVaShow
import Derived.Test.YtadpkhneijoilaaDoorVaRq
import Derived.Test.YtadpkhneijoilaaDoorVaRight
import Derived.Test.YtadpkhneijoilaaDoorNmDec
import Derived.Test.YtadpkhneijoilaaDoorNmRread
namespace Go.Proofs.YtadpkhneijoilaaDoor.Vals
open Go.RowKit Go.Proofs.YtadpkhneijoilaaDoor.Nums
open Go.Proofs.YtadpkhneijoilaaDoor.Uni (right_any of_any)
set_option linter.unusedVariables false

/-- A value's text, if it has one. -/
def textF (k n : Int) (s : ByteArray) : Option ByteArray :=
  if k = 0 then some ⟨#[117, 110, 100, 101, 102, 105, 110, 101, 100]⟩ else if k = 1 then some ⟨#[110, 117, 108, 108]⟩
  else if k = 2 then (if n = 0 then some ⟨#[102, 97, 108, 115, 101]⟩ else some ⟨#[116, 114, 117, 101]⟩) else if k = 3 then some ⟨(Lib.itoa n).toArray⟩ else if k = 4 then some s else none
def twoS (r : Option ByteArray) : Ending := .returned (.tuple #[.string (r.getD ⟨#[]⟩), .bool r.isSome])
/-- The world's facts that all of this leans on. -/
structure Lv (w : World) : Prop where
  nums : Lw w
  tab : Lt w
theorem Lv.below {w w' : World} (h : Lv w) (hb : Below w.heap.size w w') : Lv w' := ⟨h.nums.below hb, h.tab.below hb⟩

set_option maxRecDepth 100000 in
set_option maxHeartbeats 1000000 in
theorem text_0 (n : Int) (s : ByteArray) (w : World) : Calls Tryd.prog 12 #[V 0 n s] w fun e w' => e = .returned (.tuple #[.string ⟨#[117, 110, 100, 101, 102, 105, 110, 101, 100]⟩, .bool true]) ∧ Below w.heap.size w w' := by
  go_enter Tryd.func12, Tryd.ntmps12
  go_wp2_with (go_at_call 28; refine (of_0 n s _).mono ?_)
  rintro e w1 ⟨rfl, hb⟩
  unfold keyRet
  go_wp2
  go_ret2
  exact ⟨rfl, (bnext (ball _ _) hb).alloc ((bnext (ball _ _) hb).size) _⟩
set_option maxRecDepth 100000 in
set_option maxHeartbeats 1000000 in
theorem text_1 (n : Int) (s : ByteArray) (w : World) : Calls Tryd.prog 12 #[V 1 n s] w fun e w' => e = .returned (.tuple #[.string ⟨#[110, 117, 108, 108]⟩, .bool true]) ∧ Below w.heap.size w w' := by
  go_enter Tryd.func12, Tryd.ntmps12
  go_wp2_with (go_at_call 28; refine (of_1 n s _).mono ?_)
  rintro e w1 ⟨rfl, hb⟩
  unfold keyRet
  go_wp2
  go_ret2
  exact ⟨rfl, (bnext (ball _ _) hb).alloc ((bnext (ball _ _) hb).size) _⟩
set_option maxRecDepth 100000 in
set_option maxHeartbeats 1000000 in
theorem text_2t (n : Int) (s : ByteArray) (w : World) (hn : (n != 0) = true) : Calls Tryd.prog 12 #[V 2 n s] w fun e w' => e = .returned (.tuple #[.string ⟨#[116, 114, 117, 101]⟩, .bool true]) ∧ Below w.heap.size w w' := by
  go_enter Tryd.func12, Tryd.ntmps12
  go_wp2_with (go_at_call 28; refine (of_2t n s _ hn).mono ?_)
  rintro e w1 ⟨rfl, hb⟩
  unfold keyRet
  go_wp2
  go_ret2
  exact ⟨rfl, (bnext (ball _ _) hb).alloc ((bnext (ball _ _) hb).size) _⟩
set_option maxRecDepth 100000 in
set_option maxHeartbeats 1000000 in
theorem text_2f (n : Int) (s : ByteArray) (w : World) (hn : (n != 0) = false) : Calls Tryd.prog 12 #[V 2 n s] w fun e w' => e = .returned (.tuple #[.string ⟨#[102, 97, 108, 115, 101]⟩, .bool true]) ∧ Below w.heap.size w w' := by
  go_enter Tryd.func12, Tryd.ntmps12
  go_wp2_with (go_at_call 28; refine (of_2f n s _ hn).mono ?_)
  rintro e w1 ⟨rfl, hb⟩
  unfold keyRet
  go_wp2
  go_ret2
  exact ⟨rfl, (bnext (ball _ _) hb).alloc ((bnext (ball _ _) hb).size) _⟩
set_option maxRecDepth 100000 in
set_option maxHeartbeats 1000000 in
theorem text_3 (n : Int) (h0 : -9223372036854775808 ≤ n) (h9 : n ≤ 9223372036854775807) (s t : ByteArray) (ht : t = ⟨(Lib.itoa n).toArray⟩) (w : World) (hL : Lw w) : Calls Tryd.prog 12 #[V 3 n s] w fun e w' => e = .returned (.tuple #[.string t, .bool true]) ∧ Below w.heap.size w w' := by
  have hm := fun w hL => of_3 n h0 h9 s t ht w hL
  have HM := Lib.hid hm
  clear hm ht
  go_enter Tryd.func12, Tryd.ntmps12
  go_wp2_with (go_at_call 28; refine (HM.out _ (hL.below (ball _ _))).mono ?_)
  rintro e w1 ⟨rfl, hb⟩
  unfold keyRet
  go_wp2
  go_ret2
  exact ⟨rfl, (bnext (ball _ _) hb).alloc ((bnext (ball _ _) hb).size) _⟩
set_option maxRecDepth 100000 in
set_option maxHeartbeats 1000000 in
theorem text_4 (n : Int) (s : ByteArray) (w : World) : Calls Tryd.prog 12 #[V 4 n s] w fun e w' => e = .returned (.tuple #[.string s, .bool true]) ∧ Below w.heap.size w w' := by
  go_enter Tryd.func12, Tryd.ntmps12
  go_wp2_with (go_at_call 28; refine (of_4 n s _).mono ?_)
  rintro e w1 ⟨rfl, hb⟩
  unfold keyRet
  go_wp2
  go_ret2
  exact ⟨rfl, (bnext (ball _ _) hb).alloc ((bnext (ball _ _) hb).size) _⟩
theorem text_5 (n : Int) (s : ByteArray) (w : World) : Calls Tryd.prog 12 #[V 5 n s] w fun e w' => e = .returned (.tuple #[.string ⟨#[]⟩, .bool false]) ∧ Below w.heap.size w w' := by
  go_enter Tryd.func12, Tryd.ntmps12
  go_wp2
  go_ret2
  exact ⟨rfl, ball _ _⟩
set_option maxRecDepth 100000 in
set_option maxHeartbeats 1000000 in
theorem text_6 (n : Int) (s : ByteArray) (w : World) : Calls Tryd.prog 12 #[V 6 n s] w fun e w' => e = .returned (.tuple #[.string ⟨#[]⟩, .bool false]) ∧ Below w.heap.size w w' := by
  go_enter Tryd.func12, Tryd.ntmps12
  go_wp2_with (go_at_call 28; refine (of_6 n s _).mono ?_)
  rintro e w1 ⟨rfl, hb⟩
  unfold keyRet
  go_wp2
  go_ret2
  exact ⟨rfl, (bnext (ball _ _) hb).alloc ((bnext (ball _ _) hb).size) _⟩
set_option maxRecDepth 100000 in
set_option maxHeartbeats 1000000 in
theorem text_k (k n : Int) (s : ByteArray) (hk : NoKind k) (w : World) : Calls Tryd.prog 12 #[V k n s] w fun e w' => e = .returned (.tuple #[.string ⟨#[]⟩, .bool false]) ∧ Below w.heap.size w w' := by
  have e5 := hk.e5
  go_enter Tryd.func12, Tryd.ntmps12
  go_wp2_with (go_at_call 28; refine (of_k k n s hk _).mono ?_)
  rintro e w1 ⟨rfl, hb⟩
  unfold keyRet
  go_wp2
  go_ret2
  exact ⟨rfl, (bnext (ball _ _) hb).alloc ((bnext (ball _ _) hb).size) _⟩
theorem text_any (k n : Int) (s : ByteArray) (h0 : -9223372036854775808 ≤ n) (h9 : n ≤ 9223372036854775807) (w : World) (hL : Lw w) : Calls Tryd.prog 12 #[V k n s] w fun e w' => e = twoS (textF k n s) ∧ Below w.heap.size w w' := by
  rcases kind_cases k with rfl | rfl | rfl | rfl | rfl | rfl | rfl | hk
  · exact text_0 n s w
  · exact text_1 n s w
  · by_cases h : n = 0
    · have e : textF 2 n s = some ⟨#[102, 97, 108, 115, 101]⟩ := by simp [textF, h]
      rw [e]; exact text_2f n s w (by simp [h])
    · have e : textF 2 n s = some ⟨#[116, 114, 117, 101]⟩ := by simp [textF, h]
      rw [e]; exact text_2t n s w (by simp [h])
  · exact text_3 n h0 h9 s _ rfl w hL
  · exact text_4 n s w
  · exact text_5 n s w
  · exact text_6 n s w
  · have h := hk.ne
    have e : textF k n s = none := by simp [textF, h]
    rw [e]; exact text_k k n s hk w

theorem rtext_0 (n : Int) (s : ByteArray) (w : World) : Calls Tryd.prog 13 #[V 0 n s] w fun e w' => e = .returned (.tuple #[.string ⟨#[117, 110, 100, 101, 102, 105, 110, 101, 100]⟩, .bool true]) ∧ Below w.heap.size w w' := by
  go_enter Tryd.func13, Tryd.ntmps13
  go_wp2
  go_ret2
  exact ⟨rfl, ball _ _⟩
theorem rtext_1 (n : Int) (s : ByteArray) (w : World) : Calls Tryd.prog 13 #[V 1 n s] w fun e w' => e = .returned (.tuple #[.string ⟨#[110, 117, 108, 108]⟩, .bool true]) ∧ Below w.heap.size w w' := by
  go_enter Tryd.func13, Tryd.ntmps13
  go_wp2
  go_ret2
  exact ⟨rfl, ball _ _⟩
theorem rtext_2t (n : Int) (s : ByteArray) (w : World) (hn : (n == 0) = false) : Calls Tryd.prog 13 #[V 2 n s] w fun e w' => e = .returned (.tuple #[.string ⟨#[116, 114, 117, 101]⟩, .bool true]) ∧ Below w.heap.size w w' := by
  go_enter Tryd.func13, Tryd.ntmps13
  go_wp2
  go_ret2
  exact ⟨rfl, ball _ _⟩
theorem rtext_2f (n : Int) (s : ByteArray) (w : World) (hn : (n == 0) = true) : Calls Tryd.prog 13 #[V 2 n s] w fun e w' => e = .returned (.tuple #[.string ⟨#[102, 97, 108, 115, 101]⟩, .bool true]) ∧ Below w.heap.size w w' := by
  go_enter Tryd.func13, Tryd.ntmps13
  go_wp2
  go_ret2
  exact ⟨rfl, ball _ _⟩
theorem rtext_3 (n : Int) (h0 : -9223372036854775808 ≤ n) (h9 : n ≤ 9223372036854775807) (s t : ByteArray) (ht : t = ⟨(Lib.itoa n).toArray⟩) (w : World) : Calls Tryd.prog 13 #[V 3 n s] w fun e w' => e = .returned (.tuple #[.string t, .bool true]) ∧ Below w.heap.size w w' := by
  have hm := fun w => rdec_any n h0 h9 w
  rw [← ht] at hm
  have HM := Lib.hid hm
  clear hm ht
  go_enter Tryd.func13, Tryd.ntmps13
  go_wp2_with (go_at_call 29; refine (HM.out _).mono ?_; rintro e w' ⟨rfl, rfl⟩)
  go_ret2
  exact ⟨rfl, ball _ _⟩
theorem rtext_4 (n : Int) (s : ByteArray) (w : World) : Calls Tryd.prog 13 #[V 4 n s] w fun e w' => e = .returned (.tuple #[.string s, .bool true]) ∧ Below w.heap.size w w' := by
  go_enter Tryd.func13, Tryd.ntmps13
  go_wp2
  go_ret2
  exact ⟨rfl, ball _ _⟩
theorem rtext_5 (n : Int) (s : ByteArray) (w : World) : Calls Tryd.prog 13 #[V 5 n s] w fun e w' => e = .returned (.tuple #[.string ⟨#[]⟩, .bool false]) ∧ Below w.heap.size w w' := by
  go_enter Tryd.func13, Tryd.ntmps13
  go_wp2
  go_ret2
  exact ⟨rfl, ball _ _⟩
theorem rtext_6 (n : Int) (s : ByteArray) (w : World) : Calls Tryd.prog 13 #[V 6 n s] w fun e w' => e = .returned (.tuple #[.string ⟨#[]⟩, .bool false]) ∧ Below w.heap.size w w' := by
  go_enter Tryd.func13, Tryd.ntmps13
  go_wp2
  go_ret2
  exact ⟨rfl, ball _ _⟩
theorem rtext_k (k n : Int) (s : ByteArray) (hk : NoKind k) (w : World) : Calls Tryd.prog 13 #[V k n s] w fun e w' => e = .returned (.tuple #[.string ⟨#[]⟩, .bool false]) ∧ Below w.heap.size w w' := by
  obtain ⟨e0, e1, e2, e3, e4, e5, e6⟩ := hk
  go_enter Tryd.func13, Tryd.ntmps13
  go_wp2
  go_ret2
  exact ⟨rfl, ball _ _⟩
theorem rtext_any (k n : Int) (s : ByteArray) (h0 : -9223372036854775808 ≤ n) (h9 : n ≤ 9223372036854775807) (w : World) : Calls Tryd.prog 13 #[V k n s] w fun e w' => e = twoS (textF k n s) ∧ Below w.heap.size w w' := by
  rcases kind_cases k with rfl | rfl | rfl | rfl | rfl | rfl | rfl | hk
  · exact rtext_0 n s w
  · exact rtext_1 n s w
  · by_cases h : n = 0
    · have e : textF 2 n s = some ⟨#[102, 97, 108, 115, 101]⟩ := by simp [textF, h]
      rw [e]; exact rtext_2f n s w (by simp [h])
    · have e : textF 2 n s = some ⟨#[116, 114, 117, 101]⟩ := by simp [textF, h]
      rw [e]; exact rtext_2t n s w (by simp [h])
  · exact rtext_3 n h0 h9 s _ rfl w
  · exact rtext_4 n s w
  · exact rtext_5 n s w
  · exact rtext_6 n s w
  · have h := hk.ne
    have e : textF k n s = none := by simp [textF, h]
    rw [e]; exact rtext_k k n s hk w

end Go.Proofs.YtadpkhneijoilaaDoor.Vals
