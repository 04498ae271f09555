/-
  The walk of ValuesNumbers.
-/
import Derived.Test.YtadpkhneijoilaaDoorVaAlive
namespace Go.Proofs.YtadpkhneijoilaaDoor.Vals
open Go.RowKit Go.Proofs.YtadpkhneijoilaaDoor.Nums
open Go.Proofs.YtadpkhneijoilaaDoor.Uni (right_any of_any pts rightText_any)
set_option linter.unusedVariables false

theorem itoa_ne (n : Int) : Lib.itoa n ≠ [] := by
  by_cases h : n < 0
  · have : Lib.itoa n = 45 :: Lib.decDigits n.natAbs := if_pos h
    rw [this]; simp
  · obtain ⟨u, rfl⟩ : ∃ u : Nat, n = u := ⟨n.toNat, by omega⟩
    rw [Lib.itoa_nonneg]
    exact dec_ne u
theorem num_back (n : Int) (hs : sf n = true) : numF 4 0 ⟨(Lib.itoa n).toArray⟩ = some n := by
  have e : (⟨(Lib.itoa n).toArray⟩ : ByteArray).toList.isEmpty = false := by
    rw [ByteArray.toList_mk]
    cases h : Lib.itoa n with
    | nil => exact absurd h (itoa_ne n)
    | cons a r => rfl
  simp only [numF, e]
  simp
  exact readF_mk hs rfl
theorem itoa_small (n : Int) (hs : sf n = true) : (⟨(Lib.itoa n).toArray⟩ : ByteArray).size ≤ 1000 := by
  have hb := sf_true hs
  show (Lib.itoa n).toArray.size ≤ 1000
  by_cases h : n < 0
  · have : Lib.itoa n = 45 :: Lib.decDigits n.natAbs := if_pos h
    have hl := dec_len 18 n.natAbs (by omega)
    rw [this]; simp; omega
  · obtain ⟨u, rfl⟩ : ∃ u : Nat, n = u := ⟨n.toNat, by omega⟩
    rw [Lib.itoa_nonneg]
    have hl := dec_len 18 u (by omega)
    simp; omega

set_option maxHeartbeats 2000000 in
set_option maxRecDepth 100000 in
theorem lawNum_unsafe (n : Int) (s : ByteArray) (w : World) (hV : Lv w) (hn : sf n = false) : Calls Tryd.prog 6 #[.int .i64 n, .string s] w fun e w' => e = .returned (.bool true) ∧ Below w.heap.size w w' := by
  have HA := Lib.hid (fun w hT => alive_any w hT)
  go_enter Tryd.func6, Tryd.ntmps6
  go_wp2_with (first | (go_at_call 8; refine (HA.out _ hV.tab).mono ?_; rintro e w1 ⟨rfl, hb1⟩) | (go_at_call 23; refine (rsafe_any _ _).mono ?_; rintro e w' ⟨rfl, rfl⟩))
  go_ret
  exact ⟨rfl, hb1⟩
set_option maxHeartbeats 2000000 in
set_option maxRecDepth 100000 in
theorem lawNum_wrong (n : Int) (s : ByteArray) (w : World) (hV : Lv w) (hn : sf n = true) (hs : s.size ≤ 100000000) (hp : pts s = none) : Calls Tryd.prog 6 #[.int .i64 n, .string s] w fun e w' => e = .returned (.bool true) ∧ Below w.heap.size w w' := by
  have HA := Lib.hid (fun w hT => alive_any w hT)
  have hr : ∀ w, Calls Tryd.prog 22 #[.string s] w fun e w' => e = .returned (.bool false) ∧ Below w.heap.size w w' := fun w => by
    have := rightText_any s w hs
    rw [hp] at this
    exact this
  have HR := Lib.hid hr
  clear hp hr
  go_enter Tryd.func6, Tryd.ntmps6
  go_wp2_with (first | (go_at_call 8; refine (HA.out _ hV.tab).mono ?_; rintro e w1 ⟨rfl, hb1⟩) | (go_at_call 23; refine (rsafe_any _ _).mono ?_; rintro e w' ⟨rfl, rfl⟩) | (go_at_call 22; refine (HR.out _).mono ?_; rintro e w2 ⟨rfl, hb2⟩))
  go_ret
  exact ⟨rfl, bnext hb1 hb2⟩
theorem hr_true {s : ByteArray} {L : List Nat} (hs : s.size ≤ 100000000) (hp : pts s = some L) : ∀ w, Calls Tryd.prog 22 #[.string s] w fun e w' => e = .returned (.bool true) ∧ Below w.heap.size w w' := fun w => by
  have := rightText_any s w hs
  rw [hp] at this
  exact this
set_option maxHeartbeats 2000000 in
set_option maxRecDepth 100000 in
theorem lawNum_long (n : Int) (s : ByteArray) (L : List Nat) (w : World) (hV : Lv w) (hn : sf n = true) (hs : s.size ≤ 100000000) (hp : pts s = some L) (hl : 100 < s.size) : Calls Tryd.prog 6 #[.int .i64 n, .string s] w fun e w' => e = .returned (.bool true) ∧ Below w.heap.size w w' := by
  have HA := Lib.hid (fun w hT => alive_any w hT)
  have HR := Lib.hid (hr_true hs hp)
  have hl2 : (100 : Int) < (s.size : Int) := by omega
  clear hp hl
  go_enter Tryd.func6, Tryd.ntmps6
  go_wp2_with (first | (go_at_call 8; refine (HA.out _ hV.tab).mono ?_; rintro e w1 ⟨rfl, hb1⟩) | (go_at_call 23; refine (rsafe_any _ _).mono ?_; rintro e w' ⟨rfl, rfl⟩) | (go_at_call 22; refine (HR.out _).mono ?_; rintro e w2 ⟨rfl, hb2⟩))
  go_ret
  exact ⟨rfl, bnext hb1 hb2⟩

/-- What a call of Number ends in. -/
def NumIs (s : ByteArray) (y : Int) (f : Bool) : Prop := ∀ w, Lw w → Calls Tryd.prog 14 #[V 4 0 s] w fun e w' => e = .returned (.tuple #[.int .i64 y, .bool f]) ∧ Below w.heap.size w w'
theorem NumIs.at {s : ByteArray} {y : Int} {f : Bool} (h : NumIs s y f) {w : World} (hL : Lw w) : Calls Tryd.prog 14 #[V 4 0 s] w fun e w' => e = .returned (.tuple #[.int .i64 y, .bool f]) ∧ Below w.heap.size w w' := h w hL
/-- What a call of the reference ends in, put by its answer. -/
theorem lawNum_main (n : Int) (s t : ByteArray) (x y : Int) (f g : Bool) (w : World) (hV : Lv w) (h0 : -9223372036854775808 ≤ n) (h9 : n ≤ 9223372036854775807) (hn : sf n = true) (hsz : s.size ≤ 100)
    (HR : Hid (∀ w, Calls Tryd.prog 22 #[.string s] w fun e w' => e = .returned (.bool true) ∧ Below w.heap.size w w'))
    (HX : Hid (∀ w, Lw w → Calls Tryd.prog 12 #[V 3 n ⟨#[]⟩] w fun e w' => e = .returned (.tuple #[.string t, .bool true]) ∧ Below w.heap.size w w'))
    (HT : NumIs t n true) (HS : NumIs s x f) (HQ : Hid (∀ w, Calls Tryd.prog 24 #[.string s] w fun e w' => ∃ q, e = .returned (.tuple #[.int .i64 q, .bool g]) ∧ (g = true → q = y) ∧ w = w'))
    (hempty : s.toList.isEmpty = true → f = true ∧ x = 0) (hfull : s.toList.isEmpty = false → f = g ∧ (g = true → x = y) ∧ (g = false → x = 0)) :
    Calls Tryd.prog 6 #[.int .i64 n, .string s] w fun e w' => e = .returned (.bool true) ∧ Below w.heap.size w w' := by
  have HA := Lib.hid (fun w hT => alive_any w hT)
  have hl2 : ¬ (100 : Int) < (s.size : Int) := by omega
  have HE := Lib.hid hempty
  have HF := Lib.hid hfull
  clear hempty hfull hsz
  go_enter Tryd.func6, Tryd.ntmps6
  go_wp2_with (first | (go_at_call 8; refine (HA.out _ hV.tab).mono ?_; rintro e w1 ⟨rfl, hb1⟩; have hL1 := hV.nums.below hb1) | (go_at_call 23; refine (rsafe_any _ _).mono ?_; rintro e w' ⟨rfl, rfl⟩) | (go_at_call 22; refine (HR.out _).mono ?_; rintro e w2 ⟨rfl, hb2⟩; have hL2 := hL1.below hb2) | (go_at_call 12; refine (HX.out _ hL2).mono ?_; rintro e w3 ⟨rfl, hb3⟩; have hL3 := hL2.below hb3) | (go_at_call 14; with_reducible refine (HT.at hL3).mono ?_; rintro e w4 ⟨rfl, hb4⟩; have hL4 := hL3.below hb4) | (go_at_call 14; with_reducible refine (HS.at hL4).mono ?_; rintro e w5 ⟨rfl, hb5⟩) | (go_at_call 24; refine (HQ.out _).mono ?_))
  rintro e w6 ⟨q, rfl, hq, rfl⟩
  have hbel := bnext (bnext (bnext (bnext hb1 hb2) hb3) hb4) hb5
  cases hemp : s.toList.isEmpty with
  | true =>
    obtain ⟨rfl, rfl⟩ := HE.out hemp
    clear hq
    go_wp2
    go_ret
    exact ⟨rfl, hbel⟩
  | false =>
    obtain ⟨rfl, ht, hf⟩ := HF.out hemp
    cases f with
    | true =>
      obtain rfl := ht rfl
      obtain rfl := hq rfl
      clear hf
      go_wp2
      go_ret
      exact ⟨rfl, hbel⟩
    | false =>
      obtain rfl := hf rfl
      clear ht hq
      go_wp2
      go_ret
      exact ⟨rfl, hbel⟩

theorem lawNum_walk (n : Int) (s : ByteArray) (w : World) (hV : Lv w) (h0 : -9223372036854775808 ≤ n) (h9 : n ≤ 9223372036854775807) (hs : s.size ≤ 100000000) :
    Calls Tryd.prog 6 #[.int .i64 n, .string s] w fun e w' => e = .returned (.bool true) ∧ Below w.heap.size w w' := by
  cases hn : sf n with
  | false => exact lawNum_unsafe n s w hV hn
  | true =>
    cases hp : pts s with
    | none => exact lawNum_wrong n s w hV hn hs hp
    | some L =>
      by_cases hl : 100 < s.size
      · exact lawNum_long n s L w hV hn hs hp hl
      · have hsz : s.size ≤ 100 := by omega
        have hX : ∀ w, Lw w → Calls Tryd.prog 12 #[V 3 n ⟨#[]⟩] w fun e w' => e = .returned (.tuple #[.string ⟨(Lib.itoa n).toArray⟩, .bool true]) ∧ Below w.heap.size w w' := fun w hL => text_3 n h0 h9 _ _ rfl w hL
        have hT : NumIs ⟨(Lib.itoa n).toArray⟩ n true := fun w hL => by
          have := num_any 4 0 ⟨(Lib.itoa n).toArray⟩ (itoa_small n hn) w hL
          rw [num_back n hn] at this
          exact this
        have hS : NumIs s ((numF 4 0 s).getD 0) (numF 4 0 s).isSome := fun w hL => num_any 4 0 s (by omega) w hL
        have hQ : ∀ w, Calls Tryd.prog 24 #[.string s] w fun e w' => ∃ q, e = .returned (.tuple #[.int .i64 q, .bool (readF s.data.toList).isSome]) ∧ ((readF s.data.toList).isSome = true → q = (readF s.data.toList).getD 0) ∧ w = w' := fun w => by
          refine (Nums.rnum_any s w (by omega)).mono ?_
          rintro e w' ⟨q, g, rfl, hrn, _, _, rfl⟩
          cases hr : readF s.data.toList with
          | none => rw [hrn.no hr]; exact ⟨q, rfl, fun h => by simp at h, rfl⟩
          | some y =>
            obtain ⟨rfl, rfl⟩ := hrn.yes hr
            exact ⟨q, rfl, fun _ => rfl, rfl⟩
        refine lawNum_main n s _ _ _ _ _ w hV h0 h9 hn hsz (Lib.hid (hr_true hs hp)) (Lib.hid hX) hT hS (Lib.hid hQ) ?_ ?_
        · intro he
          have e : numF 4 0 s = some 0 := by simp [numF, he]
          rw [e]
          exact ⟨rfl, rfl⟩
        · intro he
          have e : numF 4 0 s = readF s.data.toList := by simp [numF, he]
          rw [e]
          refine ⟨rfl, fun _ => rfl, fun h => ?_⟩
          cases hr : readF s.data.toList with
          | none => rfl
          | some y => rw [hr] at h; cases h
end Go.Proofs.YtadpkhneijoilaaDoor.Vals
