/-
  The walk of the law KeysIndex.
-/
import Derived.Test.YtfhhpkaojnnobaaDoorKyIndex
import Derived.Test.YtfhhpkaojnnobaaDoorNmDec
namespace Go.Proofs.YtfhhpkaojnnobaaDoor.Keys
open Go.RowKit Go.Proofs.YtfhhpkaojnnobaaDoor.Nums

set_option maxHeartbeats 1000000 in
theorem lawIndex_long (s : ByteArray) (y n : Int) (w : World) (hL : Lw w) (h : 100 < s.size) (hm : s.size ≤ 9223372036854775807) :
    Calls Tryd.prog 3 #[.string s, .int .i64 y, .int .i64 n] w fun e w' => e = .returned (.bool true) ∧ Below w.heap.size w w' := by
  have h1 : 100 < (s.size : Int) := by omega
  go_enter Tryd.func3, Tryd.ntmps3
  go_wp2_with (go_at_call 5; refine (alive_any _ hL).mono ?_; rintro e w1 ⟨rfl, hb⟩)
  go_ret
  exact ⟨rfl, hb⟩

/-- What a call of Index ends in. -/
def IdxIs (s : ByteArray) (y n : Int) (ok : Bool) : Prop := ∀ w, Lw w → Calls Tryd.prog 6 #[.agg #[.string s, .int .i64 y]] w fun e w' => e = .returned (.tuple #[.int .i64 n, .bool ok]) ∧ Below w.heap.size w w'
theorem IdxIs.at {s : ByteArray} {y n : Int} {ok : Bool} (h : IdxIs s y n ok) {w : World} (hL : Lw w) : Calls Tryd.prog 6 #[.agg #[.string s, .int .i64 y]] w fun e w' => e = .returned (.tuple #[.int .i64 n, .bool ok]) ∧ Below w.heap.size w w' := h w hL
def RidIs (s : ByteArray) (y n : Int) (ok : Bool) : Prop := ∀ w, Calls Tryd.prog 7 #[.agg #[.string s, .int .i64 y]] w fun e w' => e = .returned (.tuple #[.int .i64 n, .bool ok]) ∧ Below w.heap.size w w'
theorem RidIs.at {s : ByteArray} {y n : Int} {ok : Bool} (h : RidIs s y n ok) (w : World) : Calls Tryd.prog 7 #[.agg #[.string s, .int .i64 y]] w fun e w' => e = .returned (.tuple #[.int .i64 n, .bool ok]) ∧ Below w.heap.size w w' := h w
def DecIs (n : Int) (t : ByteArray) : Prop := ∀ w, Calls Tryd.prog 8 #[.int .i64 n] w fun e w' => e = .returned (.string t) ∧ w = w'
theorem DecIs.at {n : Int} {t : ByteArray} (h : DecIs n t) (w : World) : Calls Tryd.prog 8 #[.int .i64 n] w fun e w' => e = .returned (.string t) ∧ w = w' := h w

set_option maxHeartbeats 2000000 in
theorem lawIndex_neg_true (s : ByteArray) (y n : Int) (a : Int) (w : World) (hL : Lw w) (hz : (s.size : Int) ≤ 100) (hI : IdxIs s y a true) (hR : RidIs s y a true) (hn : n < 0) :
    Calls Tryd.prog 3 #[.string s, .int .i64 y, .int .i64 n] w fun e w' => e = .returned (.bool true) ∧ Below w.heap.size w w' := by
  go_enter Tryd.func3, Tryd.ntmps3
  go_wp2_with (first | (go_at_call 5; refine (alive_any _ hL).mono ?_; rintro e w1 ⟨rfl, b1⟩; have L1 := hL.below b1) | (go_at_call 6; (with_reducible refine (hI.at L1).mono ?_); rintro e w2 ⟨rfl, b2⟩; have L2 := L1.below b2; refine Hid.out ?_))
  refine Lib.hid ?_
  go_wp2_with (go_at_call 7; (with_reducible refine (hR.at _).mono ?_); rintro e w3 ⟨rfl, b3⟩)
  go_ret
  exact ⟨rfl, bnext (bnext b1 b2) b3⟩

set_option maxHeartbeats 2000000 in
theorem lawIndex_in_true (s : ByteArray) (y n : Int) (a : Int) (t : ByteArray) (w : World) (hL : Lw w) (hz : (s.size : Int) ≤ 100) (hI : IdxIs s y a true) (hR : RidIs s y a true) (h0 : 0 ≤ n) (hn : n ≤ 4294967294) (hD : DecIs n t) (hJ : IdxIs t 0 n true) :
    Calls Tryd.prog 3 #[.string s, .int .i64 y, .int .i64 n] w fun e w' => e = .returned (.bool true) ∧ Below w.heap.size w w' := by
  go_enter Tryd.func3, Tryd.ntmps3
  go_wp2_with (first | (go_at_call 5; refine (alive_any _ hL).mono ?_; rintro e w1 ⟨rfl, b1⟩; have L1 := hL.below b1) | (go_at_call 6; (with_reducible refine (hI.at L1).mono ?_); rintro e w2 ⟨rfl, b2⟩; have L2 := L1.below b2; refine Hid.out ?_))
  refine Lib.hid ?_
  go_wp2_with (first | (go_at_call 7; (with_reducible refine (hR.at _).mono ?_); rintro e w3 ⟨rfl, b3⟩; have L3 := L2.below b3) | (go_at_call 8; (with_reducible refine (hD.at _).mono ?_); rintro e w' ⟨rfl, rfl⟩) | (go_at_call 6; (with_reducible refine (hJ.at L3).mono ?_); rintro e w4 ⟨rfl, b4⟩))
  go_ret
  exact ⟨rfl, bnext (bnext (bnext b1 b2) b3) b4⟩

set_option maxHeartbeats 2000000 in
theorem lawIndex_big_true (s : ByteArray) (y n : Int) (a : Int) (t : ByteArray) (w : World) (hL : Lw w) (hz : (s.size : Int) ≤ 100) (hI : IdxIs s y a true) (hR : RidIs s y a true) (h0 : 0 ≤ n) (hn : decide (n ≤ 4294967294) = false) (hD : DecIs n t) (hJ : IdxIs t 0 0 false) :
    Calls Tryd.prog 3 #[.string s, .int .i64 y, .int .i64 n] w fun e w' => e = .returned (.bool true) ∧ Below w.heap.size w w' := by
  go_enter Tryd.func3, Tryd.ntmps3
  go_wp2_with (first | (go_at_call 5; refine (alive_any _ hL).mono ?_; rintro e w1 ⟨rfl, b1⟩; have L1 := hL.below b1) | (go_at_call 6; (with_reducible refine (hI.at L1).mono ?_); rintro e w2 ⟨rfl, b2⟩; have L2 := L1.below b2; refine Hid.out ?_))
  refine Lib.hid ?_
  go_wp2_with (first | (go_at_call 7; (with_reducible refine (hR.at _).mono ?_); rintro e w3 ⟨rfl, b3⟩; have L3 := L2.below b3) | (go_at_call 8; (with_reducible refine (hD.at _).mono ?_); rintro e w' ⟨rfl, rfl⟩) | (go_at_call 6; (with_reducible refine (hJ.at L3).mono ?_); rintro e w4 ⟨rfl, b4⟩))
  go_ret
  exact ⟨rfl, bnext (bnext (bnext b1 b2) b3) b4⟩

set_option maxHeartbeats 2000000 in
theorem lawIndex_neg_false (s : ByteArray) (y n : Int) (w : World) (hL : Lw w) (hz : (s.size : Int) ≤ 100) (hI : IdxIs s y 0 false) (hR : RidIs s y 0 false) (hn : n < 0) :
    Calls Tryd.prog 3 #[.string s, .int .i64 y, .int .i64 n] w fun e w' => e = .returned (.bool true) ∧ Below w.heap.size w w' := by
  go_enter Tryd.func3, Tryd.ntmps3
  go_wp2_with (first | (go_at_call 5; refine (alive_any _ hL).mono ?_; rintro e w1 ⟨rfl, b1⟩; have L1 := hL.below b1) | (go_at_call 6; (with_reducible refine (hI.at L1).mono ?_); rintro e w2 ⟨rfl, b2⟩; have L2 := L1.below b2; refine Hid.out ?_))
  refine Lib.hid ?_
  go_wp2_with (go_at_call 7; (with_reducible refine (hR.at _).mono ?_); rintro e w3 ⟨rfl, b3⟩)
  go_ret
  exact ⟨rfl, bnext (bnext b1 b2) b3⟩

set_option maxHeartbeats 2000000 in
theorem lawIndex_in_false (s : ByteArray) (y n : Int) (t : ByteArray) (w : World) (hL : Lw w) (hz : (s.size : Int) ≤ 100) (hI : IdxIs s y 0 false) (hR : RidIs s y 0 false) (h0 : 0 ≤ n) (hn : n ≤ 4294967294) (hD : DecIs n t) (hJ : IdxIs t 0 n true) :
    Calls Tryd.prog 3 #[.string s, .int .i64 y, .int .i64 n] w fun e w' => e = .returned (.bool true) ∧ Below w.heap.size w w' := by
  go_enter Tryd.func3, Tryd.ntmps3
  go_wp2_with (first | (go_at_call 5; refine (alive_any _ hL).mono ?_; rintro e w1 ⟨rfl, b1⟩; have L1 := hL.below b1) | (go_at_call 6; (with_reducible refine (hI.at L1).mono ?_); rintro e w2 ⟨rfl, b2⟩; have L2 := L1.below b2; refine Hid.out ?_))
  refine Lib.hid ?_
  go_wp2_with (first | (go_at_call 7; (with_reducible refine (hR.at _).mono ?_); rintro e w3 ⟨rfl, b3⟩; have L3 := L2.below b3) | (go_at_call 8; (with_reducible refine (hD.at _).mono ?_); rintro e w' ⟨rfl, rfl⟩) | (go_at_call 6; (with_reducible refine (hJ.at L3).mono ?_); rintro e w4 ⟨rfl, b4⟩))
  go_ret
  exact ⟨rfl, bnext (bnext (bnext b1 b2) b3) b4⟩

set_option maxHeartbeats 2000000 in
theorem lawIndex_big_false (s : ByteArray) (y n : Int) (t : ByteArray) (w : World) (hL : Lw w) (hz : (s.size : Int) ≤ 100) (hI : IdxIs s y 0 false) (hR : RidIs s y 0 false) (h0 : 0 ≤ n) (hn : decide (n ≤ 4294967294) = false) (hD : DecIs n t) (hJ : IdxIs t 0 0 false) :
    Calls Tryd.prog 3 #[.string s, .int .i64 y, .int .i64 n] w fun e w' => e = .returned (.bool true) ∧ Below w.heap.size w w' := by
  go_enter Tryd.func3, Tryd.ntmps3
  go_wp2_with (first | (go_at_call 5; refine (alive_any _ hL).mono ?_; rintro e w1 ⟨rfl, b1⟩; have L1 := hL.below b1) | (go_at_call 6; (with_reducible refine (hI.at L1).mono ?_); rintro e w2 ⟨rfl, b2⟩; have L2 := L1.below b2; refine Hid.out ?_))
  refine Lib.hid ?_
  go_wp2_with (first | (go_at_call 7; (with_reducible refine (hR.at _).mono ?_); rintro e w3 ⟨rfl, b3⟩; have L3 := L2.below b3) | (go_at_call 8; (with_reducible refine (hD.at _).mono ?_); rintro e w' ⟨rfl, rfl⟩) | (go_at_call 6; (with_reducible refine (hJ.at L3).mono ?_); rintro e w4 ⟨rfl, b4⟩))
  go_ret
  exact ⟨rfl, bnext (bnext (bnext b1 b2) b3) b4⟩

theorem itoa_size (n : Int) (h0 : -9223372036854775808 ≤ n) (h1 : n ≤ 9223372036854775807) : (⟨(Lib.itoa n).toArray⟩ : ByteArray).size ≤ 281474976710656 := by
  show (Lib.itoa n).toArray.size ≤ 281474976710656
  have hl : (Lib.itoa n).length ≤ 21 := by
    rcases itoa_shape (v := n) rfl with ⟨_, e⟩ | ⟨_, e⟩
    · have := dec_len 19 n.natAbs (by omega); rw [e, List.length_cons]; omega
    · have := dec_len 19 n.natAbs (by omega); rw [e]; omega
  simp only [List.size_toArray]
  omega

/-- The law at a key whose index both sides know. -/
theorem lawIndex_key (s : ByteArray) (y n : Int) (r : Option Int) (w : World) (hL : Lw w) (hz : (s.size : Int) ≤ 100) (h0 : -9223372036854775808 ≤ n) (h1 : n ≤ 9223372036854775807)
    (hI : IdxIs s y (r.getD 0) r.isSome) (hR : RidIs s y (r.getD 0) r.isSome) :
    Calls Tryd.prog 3 #[.string s, .int .i64 y, .int .i64 n] w fun e w' => e = .returned (.bool true) ∧ Below w.heap.size w w' := by
  have hD : DecIs n ⟨(Lib.itoa n).toArray⟩ := fun w => rdec_any n h0 h1 w
  have hJ : ∀ w, Lw w → Calls Tryd.prog 6 #[.agg #[.string ⟨(Lib.itoa n).toArray⟩, .int .i64 0]] w fun e w' => e = two (idxF (Lib.itoa n)) ∧ Below w.heap.size w w' := fun w hL => index_str _ (itoa_size n h0 h1) w hL
  generalize (⟨(Lib.itoa n).toArray⟩ : ByteArray) = t at hD hJ
  cases r with
  | none =>
    by_cases hn : n < 0
    · exact lawIndex_neg_false s y n w hL hz hI hR hn
    · by_cases hb : n ≤ 4294967294
      · rw [idxF_itoa (by omega) hb] at hJ
        exact lawIndex_in_false s y n t w hL hz hI hR (by omega) hb hD hJ
      · rw [idxF_itoa_big (by omega)] at hJ
        exact lawIndex_big_false s y n t w hL hz hI hR (by omega) (by simpa using hb) hD hJ
  | some a =>
    by_cases hn : n < 0
    · exact lawIndex_neg_true s y n a w hL hz hI hR hn
    · by_cases hb : n ≤ 4294967294
      · rw [idxF_itoa (by omega) hb] at hJ
        exact lawIndex_in_true s y n a t w hL hz hI hR (by omega) hb hD hJ
      · rw [idxF_itoa_big (by omega)] at hJ
        exact lawIndex_big_true s y n a t w hL hz hI hR (by omega) (by simpa using hb) hD hJ

theorem lawIndex_walk (s : ByteArray) (y n : Int) (w : World) (hL : Lw w) (h0 : -9223372036854775808 ≤ n) (h1 : n ≤ 9223372036854775807) (hm : s.size ≤ 9223372036854775807) :
    Calls Tryd.prog 3 #[.string s, .int .i64 y, .int .i64 n] w fun e w' => e = .returned (.bool true) ∧ Below w.heap.size w w' := by
  by_cases hz : 100 < s.size
  · exact lawIndex_long s y n w hL hz hm
  · by_cases hy : y = 0
    · subst hy
      exact lawIndex_key s 0 n (idxF s.data.toList) w hL (by omega) h0 h1 (fun w hL => index_str s (by omega) w hL) (fun w => rindex_str s w)
    · have hy' : (y != 0) = true := by simpa using hy
      exact lawIndex_key s y n none w hL (by omega) h0 h1 (fun w _ => index_sym s y hy' w) (fun w => rindex_sym s y hy' w)
end Go.Proofs.YtfhhpkaojnnobaaDoor.Keys
