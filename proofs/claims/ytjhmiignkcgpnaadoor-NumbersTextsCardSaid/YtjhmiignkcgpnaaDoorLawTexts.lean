/-
  The walk of the law NumbersTexts.
-/
import Derived.Test.YtjhmiignkcgpnaaDoorAlive
import Derived.Test.YtjhmiignkcgpnaaDoorText
import Derived.Test.YtjhmiignkcgpnaaDoorDec
import Derived.Test.YtjhmiignkcgpnaaDoorRread
namespace Go.Proofs.YtjhmiignkcgpnaaDoor
open Go.RowKit

set_option maxHeartbeats 1000000 in
theorem lawTexts_long (n : Int) (s : ByteArray) (w : World) (h : 100 < s.size) (hm : s.size ≤ 9223372036854775807) :
    Calls Tryd.prog 4 #[.int .i64 n, .string s] w fun e w' => e = .returned (.bool true) ∧ Below w.heap.size w w' := by
  have h1 : 100 < (s.size : Int) := by omega
  go_enter Tryd.func4, Tryd.ntmps4
  go_wp2_with (go_at_call 7; refine (alive_any _).mono ?_; rintro e w' ⟨rfl, rfl⟩)
  go_ret
  exact ⟨rfl, Below.refl _ _⟩

/-- What a call of Read ends in, the world with it. -/
def ReadIs (s : ByteArray) (n : Int) (ok : Bool) : Prop := ∀ w, Lw w → Calls Tryd.prog 12 #[.string s] w fun e w' => e = .returned (.tuple #[.int .i64 n, .bool ok]) ∧ Below w.heap.size w w'
theorem ReadIs.at {s : ByteArray} {n : Int} {ok : Bool} (h : ReadIs s n ok) {w : World} (hL : Lw w) : Calls Tryd.prog 12 #[.string s] w fun e w' => e = .returned (.tuple #[.int .i64 n, .bool ok]) ∧ Below w.heap.size w w' := h w hL
def TextIs (n : Int) (t : ByteArray) : Prop := ∀ w, Lw w → Calls Tryd.prog 11 #[.int .i64 n] w fun e w' => e = .returned (.string t) ∧ Below w.heap.size w w'
theorem TextIs.at {n : Int} {t : ByteArray} (h : TextIs n t) {w : World} (hL : Lw w) : Calls Tryd.prog 11 #[.int .i64 n] w fun e w' => e = .returned (.string t) ∧ Below w.heap.size w w' := h w hL
def DecIs (n : Int) (t : ByteArray) : Prop := ∀ w, Calls Tryd.prog 14 #[.int .i64 n] w fun e w' => e = .returned (.string t) ∧ w = w'
theorem DecIs.at {n : Int} {t : ByteArray} (h : DecIs n t) (w : World) : Calls Tryd.prog 14 #[.int .i64 n] w fun e w' => e = .returned (.string t) ∧ w = w' := h w
/-- The reference reads no number whose text this is. -/
def RnNo (s : ByteArray) (w : World) (e : Ending) (w' : World) : Prop := ∃ (y : Int) (f : Bool), e = .returned (.tuple #[.int .i64 y, .bool f]) ∧ w = w' ∧ (f = true → ∃ u, DecIs y u ∧ (u.toList == s.toList) = false)
def RnIs (s : ByteArray) (n : Int) (ok : Bool) (w : World) : Prop := Calls Tryd.prog 13 #[.string s] w fun e w' => e = .returned (.tuple #[.int .i64 n, .bool ok]) ∧ w = w'

set_option maxHeartbeats 2000000 in
theorem lawTexts_inN (n : Int) (s t : ByteArray) (w : World) (hL : Lw w) (hz : (s.size : Int) ≤ 100) (h0 : -9007199254740991 ≤ n) (h1 : n ≤ 9007199254740991) (hn : sf n = true) (hT : TextIs n t) (hM : ReadIs t n true) (hD : DecIs n t) (hX : ReadIs s 0 false) (hR : ∀ w, Calls Tryd.prog 13 #[.string s] w (RnNo s w)) :
    Calls Tryd.prog 4 #[.int .i64 n, .string s] w fun e w' => e = .returned (.bool true) ∧ Below w.heap.size w w' := by
  go_enter Tryd.func4, Tryd.ntmps4
  go_wp2_with (first | (go_at_call 7; refine (alive_any _).mono ?_; rintro e w' ⟨rfl, rfl⟩) | (go_at_call 10; refine (safe_any _ _).mono ?_; rintro e w' ⟨rfl, rfl⟩) | (go_at_call 11; (with_reducible refine (hT.at hL).mono ?_); rintro e w1 ⟨rfl, b1⟩; have L1 := hL.below b1) | (go_at_call 12; (with_reducible refine (hM.at L1).mono ?_); rintro e w2 ⟨rfl, b2⟩; have L2 := L1.below b2) | (go_at_call 12; (with_reducible refine (hX.at L2).mono ?_); rintro e w3 ⟨rfl, b3⟩) | (go_at_call 13; refine (hR _).mono ?_; rintro e w' ⟨y, f, rfl, rfl, hf⟩; refine Hid.out ?_))
  refine Lib.hid ?_
  cases f with
  | false =>
    clear hf
    go_wp2_with (first | (go_at_call 14; (with_reducible refine (hD.at _).mono ?_); rintro e w' ⟨rfl, rfl⟩) | (go_at_call 10; refine (safe_any _ _).mono ?_; rintro e w' ⟨rfl, rfl⟩))
    go_ret
    exact ⟨rfl, b1.trans ((b2.mono b1.size).trans (b3.mono (Nat.le_trans b1.size b2.size)))⟩
  | true =>
    obtain ⟨u, hE, hu⟩ := hf rfl
    clear hf
    go_wp2_with (first | (go_at_call 14; (with_reducible refine (hE.at _).mono ?_); rintro e w' ⟨rfl, rfl⟩) | (go_at_call 14; (with_reducible refine (hD.at _).mono ?_); rintro e w' ⟨rfl, rfl⟩) | (go_at_call 10; refine (safe_any _ _).mono ?_; rintro e w' ⟨rfl, rfl⟩))
    go_ret
    exact ⟨rfl, b1.trans ((b2.mono b1.size).trans (b3.mono (Nat.le_trans b1.size b2.size)))⟩

set_option maxHeartbeats 2000000 in
theorem lawTexts_inY (n : Int) (s t : ByteArray) (w : World) (hL : Lw w) (hz : (s.size : Int) ≤ 100) (h0 : -9007199254740991 ≤ n) (h1 : n ≤ 9007199254740991) (hn : sf n = true) (hT : TextIs n t) (hM : ReadIs t n true) (hD : DecIs n t) (y : Int) (hX : ReadIs s y true) (hR : ∀ w, RnIs s y true w) (hE : DecIs y s) :
    Calls Tryd.prog 4 #[.int .i64 n, .string s] w fun e w' => e = .returned (.bool true) ∧ Below w.heap.size w w' := by
  go_enter Tryd.func4, Tryd.ntmps4
  go_wp2_with (first | (go_at_call 7; refine (alive_any _).mono ?_; rintro e w' ⟨rfl, rfl⟩) | (go_at_call 10; refine (safe_any _ _).mono ?_; rintro e w' ⟨rfl, rfl⟩) | (go_at_call 11; (with_reducible refine (hT.at hL).mono ?_); rintro e w1 ⟨rfl, b1⟩; have L1 := hL.below b1) | (go_at_call 12; (with_reducible refine (hM.at L1).mono ?_); rintro e w2 ⟨rfl, b2⟩; have L2 := L1.below b2) | (go_at_call 12; (with_reducible refine (hX.at L2).mono ?_); rintro e w3 ⟨rfl, b3⟩))
  have hr := hR w3
  unfold RnIs at hr
  go_wp2_with (first | (go_at_call 13; refine hr.mono ?_; rintro e w' ⟨rfl, rfl⟩) | (go_at_call 14; (with_reducible refine (hD.at _).mono ?_); rintro e w' ⟨rfl, rfl⟩) | (go_at_call 14; (with_reducible refine (hE.at _).mono ?_); rintro e w' ⟨rfl, rfl⟩) | (go_at_call 10; refine (safe_any _ _).mono ?_; rintro e w' ⟨rfl, rfl⟩))
  go_ret
  exact ⟨rfl, b1.trans ((b2.mono b1.size).trans (b3.mono (Nat.le_trans b1.size b2.size)))⟩

set_option maxHeartbeats 2000000 in
theorem lawTexts_loN (n : Int) (s t : ByteArray) (w : World) (hL : Lw w) (hz : (s.size : Int) ≤ 100) (h0 : n < -9007199254740991) (hn : sf n = false) (hT : TextIs n t) (hM : ReadIs t 0 false) (hD : DecIs n t) (hX : ReadIs s 0 false) (hR : ∀ w, Calls Tryd.prog 13 #[.string s] w (RnNo s w)) :
    Calls Tryd.prog 4 #[.int .i64 n, .string s] w fun e w' => e = .returned (.bool true) ∧ Below w.heap.size w w' := by
  go_enter Tryd.func4, Tryd.ntmps4
  go_wp2_with (first | (go_at_call 7; refine (alive_any _).mono ?_; rintro e w' ⟨rfl, rfl⟩) | (go_at_call 10; refine (safe_any _ _).mono ?_; rintro e w' ⟨rfl, rfl⟩) | (go_at_call 11; (with_reducible refine (hT.at hL).mono ?_); rintro e w1 ⟨rfl, b1⟩; have L1 := hL.below b1) | (go_at_call 12; (with_reducible refine (hM.at L1).mono ?_); rintro e w2 ⟨rfl, b2⟩; have L2 := L1.below b2) | (go_at_call 12; (with_reducible refine (hX.at L2).mono ?_); rintro e w3 ⟨rfl, b3⟩) | (go_at_call 13; refine (hR _).mono ?_; rintro e w' ⟨y, f, rfl, rfl, hf⟩; refine Hid.out ?_))
  refine Lib.hid ?_
  cases f with
  | false =>
    clear hf
    go_wp2_with (first | (go_at_call 14; (with_reducible refine (hD.at _).mono ?_); rintro e w' ⟨rfl, rfl⟩) | (go_at_call 10; refine (safe_any _ _).mono ?_; rintro e w' ⟨rfl, rfl⟩))
    go_ret
    exact ⟨rfl, b1.trans ((b2.mono b1.size).trans (b3.mono (Nat.le_trans b1.size b2.size)))⟩
  | true =>
    obtain ⟨u, hE, hu⟩ := hf rfl
    clear hf
    go_wp2_with (first | (go_at_call 14; (with_reducible refine (hE.at _).mono ?_); rintro e w' ⟨rfl, rfl⟩) | (go_at_call 14; (with_reducible refine (hD.at _).mono ?_); rintro e w' ⟨rfl, rfl⟩) | (go_at_call 10; refine (safe_any _ _).mono ?_; rintro e w' ⟨rfl, rfl⟩))
    go_ret
    exact ⟨rfl, b1.trans ((b2.mono b1.size).trans (b3.mono (Nat.le_trans b1.size b2.size)))⟩

set_option maxHeartbeats 2000000 in
theorem lawTexts_loY (n : Int) (s t : ByteArray) (w : World) (hL : Lw w) (hz : (s.size : Int) ≤ 100) (h0 : n < -9007199254740991) (hn : sf n = false) (hT : TextIs n t) (hM : ReadIs t 0 false) (hD : DecIs n t) (y : Int) (hX : ReadIs s y true) (hR : ∀ w, RnIs s y true w) (hE : DecIs y s) :
    Calls Tryd.prog 4 #[.int .i64 n, .string s] w fun e w' => e = .returned (.bool true) ∧ Below w.heap.size w w' := by
  go_enter Tryd.func4, Tryd.ntmps4
  go_wp2_with (first | (go_at_call 7; refine (alive_any _).mono ?_; rintro e w' ⟨rfl, rfl⟩) | (go_at_call 10; refine (safe_any _ _).mono ?_; rintro e w' ⟨rfl, rfl⟩) | (go_at_call 11; (with_reducible refine (hT.at hL).mono ?_); rintro e w1 ⟨rfl, b1⟩; have L1 := hL.below b1) | (go_at_call 12; (with_reducible refine (hM.at L1).mono ?_); rintro e w2 ⟨rfl, b2⟩; have L2 := L1.below b2) | (go_at_call 12; (with_reducible refine (hX.at L2).mono ?_); rintro e w3 ⟨rfl, b3⟩))
  have hr := hR w3
  unfold RnIs at hr
  go_wp2_with (first | (go_at_call 13; refine hr.mono ?_; rintro e w' ⟨rfl, rfl⟩) | (go_at_call 14; (with_reducible refine (hD.at _).mono ?_); rintro e w' ⟨rfl, rfl⟩) | (go_at_call 14; (with_reducible refine (hE.at _).mono ?_); rintro e w' ⟨rfl, rfl⟩) | (go_at_call 10; refine (safe_any _ _).mono ?_; rintro e w' ⟨rfl, rfl⟩))
  go_ret
  exact ⟨rfl, b1.trans ((b2.mono b1.size).trans (b3.mono (Nat.le_trans b1.size b2.size)))⟩

set_option maxHeartbeats 2000000 in
theorem lawTexts_hiN (n : Int) (s t : ByteArray) (w : World) (hL : Lw w) (hz : (s.size : Int) ≤ 100) (h0 : -9007199254740991 ≤ n) (h1 : decide (n ≤ 9007199254740991) = false) (hn : sf n = false) (hT : TextIs n t) (hM : ReadIs t 0 false) (hD : DecIs n t) (hX : ReadIs s 0 false) (hR : ∀ w, Calls Tryd.prog 13 #[.string s] w (RnNo s w)) :
    Calls Tryd.prog 4 #[.int .i64 n, .string s] w fun e w' => e = .returned (.bool true) ∧ Below w.heap.size w w' := by
  go_enter Tryd.func4, Tryd.ntmps4
  go_wp2_with (first | (go_at_call 7; refine (alive_any _).mono ?_; rintro e w' ⟨rfl, rfl⟩) | (go_at_call 10; refine (safe_any _ _).mono ?_; rintro e w' ⟨rfl, rfl⟩) | (go_at_call 11; (with_reducible refine (hT.at hL).mono ?_); rintro e w1 ⟨rfl, b1⟩; have L1 := hL.below b1) | (go_at_call 12; (with_reducible refine (hM.at L1).mono ?_); rintro e w2 ⟨rfl, b2⟩; have L2 := L1.below b2) | (go_at_call 12; (with_reducible refine (hX.at L2).mono ?_); rintro e w3 ⟨rfl, b3⟩) | (go_at_call 13; refine (hR _).mono ?_; rintro e w' ⟨y, f, rfl, rfl, hf⟩; refine Hid.out ?_))
  refine Lib.hid ?_
  cases f with
  | false =>
    clear hf
    go_wp2_with (first | (go_at_call 14; (with_reducible refine (hD.at _).mono ?_); rintro e w' ⟨rfl, rfl⟩) | (go_at_call 10; refine (safe_any _ _).mono ?_; rintro e w' ⟨rfl, rfl⟩))
    go_ret
    exact ⟨rfl, b1.trans ((b2.mono b1.size).trans (b3.mono (Nat.le_trans b1.size b2.size)))⟩
  | true =>
    obtain ⟨u, hE, hu⟩ := hf rfl
    clear hf
    go_wp2_with (first | (go_at_call 14; (with_reducible refine (hE.at _).mono ?_); rintro e w' ⟨rfl, rfl⟩) | (go_at_call 14; (with_reducible refine (hD.at _).mono ?_); rintro e w' ⟨rfl, rfl⟩) | (go_at_call 10; refine (safe_any _ _).mono ?_; rintro e w' ⟨rfl, rfl⟩))
    go_ret
    exact ⟨rfl, b1.trans ((b2.mono b1.size).trans (b3.mono (Nat.le_trans b1.size b2.size)))⟩

set_option maxHeartbeats 2000000 in
theorem lawTexts_hiY (n : Int) (s t : ByteArray) (w : World) (hL : Lw w) (hz : (s.size : Int) ≤ 100) (h0 : -9007199254740991 ≤ n) (h1 : decide (n ≤ 9007199254740991) = false) (hn : sf n = false) (hT : TextIs n t) (hM : ReadIs t 0 false) (hD : DecIs n t) (y : Int) (hX : ReadIs s y true) (hR : ∀ w, RnIs s y true w) (hE : DecIs y s) :
    Calls Tryd.prog 4 #[.int .i64 n, .string s] w fun e w' => e = .returned (.bool true) ∧ Below w.heap.size w w' := by
  go_enter Tryd.func4, Tryd.ntmps4
  go_wp2_with (first | (go_at_call 7; refine (alive_any _).mono ?_; rintro e w' ⟨rfl, rfl⟩) | (go_at_call 10; refine (safe_any _ _).mono ?_; rintro e w' ⟨rfl, rfl⟩) | (go_at_call 11; (with_reducible refine (hT.at hL).mono ?_); rintro e w1 ⟨rfl, b1⟩; have L1 := hL.below b1) | (go_at_call 12; (with_reducible refine (hM.at L1).mono ?_); rintro e w2 ⟨rfl, b2⟩; have L2 := L1.below b2) | (go_at_call 12; (with_reducible refine (hX.at L2).mono ?_); rintro e w3 ⟨rfl, b3⟩))
  have hr := hR w3
  unfold RnIs at hr
  go_wp2_with (first | (go_at_call 13; refine hr.mono ?_; rintro e w' ⟨rfl, rfl⟩) | (go_at_call 14; (with_reducible refine (hD.at _).mono ?_); rintro e w' ⟨rfl, rfl⟩) | (go_at_call 14; (with_reducible refine (hE.at _).mono ?_); rintro e w' ⟨rfl, rfl⟩) | (go_at_call 10; refine (safe_any _ _).mono ?_; rintro e w' ⟨rfl, rfl⟩))
  go_ret
  exact ⟨rfl, b1.trans ((b2.mono b1.size).trans (b3.mono (Nat.le_trans b1.size b2.size)))⟩

theorem lawTexts_walk (n : Int) (s : ByteArray) (w : World) (hL : Lw w) (h0 : -9223372036854775808 ≤ n) (h1 : n ≤ 9223372036854775807) (hm : s.size ≤ 9223372036854775807) :
    Calls Tryd.prog 4 #[.int .i64 n, .string s] w fun e w' => e = .returned (.bool true) ∧ Below w.heap.size w w' := by
  by_cases hz : 100 < s.size
  · exact lawTexts_long n s w hz hm
  · have hz' : (s.size : Int) ≤ 100 := by omega
    have hT : TextIs n ⟨(Lib.itoa n).toArray⟩ := fun w hL => text_any n h0 h1 w hL
    have hD : DecIs n ⟨(Lib.itoa n).toArray⟩ := fun w => rdec_any n h0 h1 w
    have htz : (⟨(Lib.itoa n).toArray⟩ : ByteArray).size ≤ 281474976710656 := by
      show (Lib.itoa n).toArray.size ≤ 281474976710656
      have hl : (Lib.itoa n).length ≤ 21 := by
        rcases itoa_shape (v := n) rfl with ⟨_, e⟩ | ⟨_, e⟩
        · have := dec_len 19 n.natAbs (by omega); rw [e, List.length_cons]; omega
        · have := dec_len 19 n.natAbs (by omega); rw [e]; omega
      simp only [List.size_toArray]
      omega
    have hMr : ∀ w, Lw w → Calls Tryd.prog 12 #[.string ⟨(Lib.itoa n).toArray⟩] w fun e w' => e = two (readF (Lib.itoa n)) ∧ Below w.heap.size w w' := fun w hL => read_any _ htz w hL
    rw [readF_itoa] at hMr
    have hXr : ∀ w, Lw w → Calls Tryd.prog 12 #[.string s] w fun e w' => e = two (readF s.data.toList) ∧ Below w.heap.size w w' := fun w hL => read_any s (by omega) w hL
    have hRr := fun w => rnum_any s w (by omega)
    generalize (⟨(Lib.itoa n).toArray⟩ : ByteArray) = t at hT hD hMr
    -- the text s: a number of the language, or none
    have hs : (ReadIs s 0 false ∧ ∀ w, Calls Tryd.prog 13 #[.string s] w (RnNo s w)) ∨ (∃ y, ReadIs s y true ∧ (∀ w, RnIs s y true w) ∧ DecIs y s) := by
      cases hr : readF s.data.toList with
      | some y =>
        rw [hr] at hXr
        obtain ⟨h2, h3⟩ := readF_some hr
        have hyb := sf_true h2
        refine Or.inr ⟨y, hXr, fun w => ?_, fun w => ?_⟩
        · refine (hRr w).mono fun e w' ⟨y1, f, he, hrn, _, _, hw⟩ => ?_
          obtain ⟨rfl, rfl⟩ := hrn.2 y h2 h3
          exact ⟨he, hw⟩
        · have := rdec_any y (by omega) (by omega) w
          rw [h3] at this
          exact this
      | none =>
        rw [hr] at hXr
        refine Or.inl ⟨hXr, fun w => (hRr w).mono fun e w' ⟨y, f, he, hrn, hy0, hy1, hw⟩ => ⟨y, f, he, hw, fun hf => ⟨⟨(Lib.itoa y).toArray⟩, fun w => rdec_any y (by omega) (by omega) w, ?_⟩⟩⟩
        have hne : Lib.itoa y ≠ s.data.toList := fun hh => by rw [readF_mk (hrn.1 hf) hh] at hr; cases hr
        rw [ByteArray.toList_mk, ByteArray.toList_eq]
        simpa using hne
    by_cases hlo : n < -9007199254740991
    · have hn := sf_no (Or.inl hlo)
      rw [hn, if_neg (by decide)] at hMr
      rcases hs with ⟨hX, hR⟩ | ⟨y, hX, hR, hE⟩
      · exact lawTexts_loN n s t w hL hz' hlo hn hT hMr hD hX hR
      · exact lawTexts_loY n s t w hL hz' hlo hn hT hMr hD y hX hR hE
    · by_cases hhi : 9007199254740991 < n
      · have hn := sf_no (n := n) (Or.inr hhi)
        rw [hn, if_neg (by decide)] at hMr
        rcases hs with ⟨hX, hR⟩ | ⟨y, hX, hR, hE⟩
        · exact lawTexts_hiN n s t w hL hz' (by omega) (decide_eq_false (by omega)) hn hT hMr hD hX hR
        · exact lawTexts_hiY n s t w hL hz' (by omega) (decide_eq_false (by omega)) hn hT hMr hD y hX hR hE
      · have hn := sf_mk (n := n) (by omega) (by omega)
        rw [hn, if_pos rfl] at hMr
        rcases hs with ⟨hX, hR⟩ | ⟨y, hX, hR, hE⟩
        · exact lawTexts_inN n s t w hL hz' (by omega) (by omega) hn hT hMr hD hX hR
        · exact lawTexts_inY n s t w hL hz' (by omega) (by omega) hn hT hMr hD y hX hR hE
end Go.Proofs.YtjhmiignkcgpnaaDoor
