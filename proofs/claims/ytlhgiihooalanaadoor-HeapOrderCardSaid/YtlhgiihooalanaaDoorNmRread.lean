/-
  The reference's ReadNumber: what it gives.
-/
import Derived.Test.YtlhgiihooalanaaDoorNmSmall
import Derived.Test.YtlhgiihooalanaaDoorNmRnum
namespace Go.Proofs.YtlhgiihooalanaaDoor.Nums
open Go.RowKit
set_option linter.unusedVariables false

/-- How a call of the reference's ReadNumber ends. -/
def RnPost (s : ByteArray) (w : World) (e : Ending) (w' : World) : Prop :=
  ∃ (y : Int) (f : Bool), e = .returned (.tuple #[.int .i64 y, .bool f]) ∧ RN s y f ∧ -10000000000000000 < y ∧ y < 10000000000000000 ∧ w = w'
theorem int_eq {k : IntKind} {a b : Int} (h : a = b) : Value.int k a = Value.int k b := by rw [h]
theorem rn_ret {s : ByteArray} {w : World} (h : RN s 0 false) : RnPost s w (.returned (.tuple #[.int .i64 0, .bool false])) w := ⟨0, false, rfl, h, by omega, by omega, rfl⟩

theorem rnum_empty (w : World) : Calls Tryd.prog 32 #[.string ⟨#[]⟩] w (RnPost ⟨#[]⟩ w) := by
  have hr : RN ⟨#[]⟩ 0 false := rn_short (i := 0) (.inl ⟨rfl, fun h => absurd h (by decide)⟩) (by decide)
  go_enter Tryd.func32, Tryd.ntmps32
  go_wp2
  go_ret2
  exact rn_ret hr

set_option maxHeartbeats 1000000 in
theorem rnum_pos_long
  (s : ByteArray) (w : World) (hs : s.size ≤ 1000) (hs0 : 0 < s.size) (hi : SgAt s 0) (h : 16 < s.size) :
    Calls Tryd.prog 32 #[.string s] w (RnPost s w) := by
  have hb := gB s
  have he : s.toList.isEmpty = false := by
    rw [ByteArray.toList_eq]
    cases hl : s.data.toList with
    | nil => have := size_eq s; rw [hl] at this; simp at this; omega
    | cons _ _ => rfl
  have he2 : s.toList ≠ [] := fun h => by rw [h] at he; cases he
  have b0 : (((B s 0 : Nat) : Int) == 45) = false := by
    rcases hi with ⟨_, h⟩ | ⟨h, _⟩
    · have := h hs0
      simp; omega
    · omega
  have HR := Lib.hid (rn_long hi (by omega))
  have h1 : 1 ≤ (s.size : Int) := by omega
  have h2 : 16 < (s.size : Int) := by omega
  clear hi
  go_enter Tryd.func32, Tryd.ntmps32
  go_wp2
  go_ret2
  exact rn_ret HR.out

set_option maxHeartbeats 1000000 in
theorem rnum_pos_zero
  (s : ByteArray) (w : World) (hs : s.size ≤ 1000) (hs0 : 0 < s.size) (hi : SgAt s 0) (hl : 0 < s.size) (hm : s.size ≤ 16) (h : B s 0 = 48) (h1s : 1 < s.size) :
    Calls Tryd.prog 32 #[.string s] w (RnPost s w) := by
  have hb := gB s
  have he : s.toList.isEmpty = false := by
    rw [ByteArray.toList_eq]
    cases hl : s.data.toList with
    | nil => have := size_eq s; rw [hl] at this; simp at this; omega
    | cons _ _ => rfl
  have he2 : s.toList ≠ [] := fun h => by rw [h] at he; cases he
  have b0 : (((B s 0 : Nat) : Int) == 45) = false := by
    rcases hi with ⟨_, h⟩ | ⟨h, _⟩
    · have := h hs0
      simp; omega
    · omega
  have HR := Lib.hid (rn_zero hi h h1s)
  have h1 : 1 ≤ (s.size : Int) := by omega
  have h2 : (s.size : Int) ≤ 16 := by omega
  have c0 : (((B s 0 : Nat) : Int) == 48) = true := by simp; omega
  have h3 : 1 < (s.size : Int) := by omega
  clear hi h
  go_enter Tryd.func32, Tryd.ntmps32
  go_wp2
  go_ret2
  exact rn_ret HR.out

set_option maxHeartbeats 1000000 in
theorem rnum_pos_main
  (s : ByteArray) (w : World) (hs : s.size ≤ 1000) (hs0 : 0 < s.size) (hi : SgAt s 0) (hl : 0 < s.size) (hm : s.size ≤ 16) (hz : B s 0 ≠ 48 ∨ s.size ≤ 1) :
    Calls Tryd.prog 32 #[.string s] w (RnPost s w) := by
  have hb := gB s
  have he : s.toList.isEmpty = false := by
    rw [ByteArray.toList_eq]
    cases hl : s.data.toList with
    | nil => have := size_eq s; rw [hl] at this; simp at this; omega
    | cons _ _ => rfl
  have he2 : s.toList ≠ [] := fun h => by rw [h] at he; cases he
  have b0 : (((B s 0 : Nat) : Int) == 45) = false := by
    rcases hi with ⟨_, h⟩ | ⟨h, _⟩
    · have := h hs0
      simp; omega
    · omega
  have h1 : 1 ≤ (s.size : Int) := by omega
  have h2 : (s.size : Int) ≤ 16 := by omega
  have HI := Lib.hid hi
  clear hi
  have hg : ¬ ((((B s 0 : Nat) : Int) == 48) = true ∧ 1 < (s.size : Int)) := by simp; omega
  have HZ := Lib.hid hz
  go_enter Tryd.func32, Tryd.ntmps32
  by_cases c0 : B s 0 = 48
  · have c0' : (((B s 0 : Nat) : Int) == 48) = true := by simp; omega
    have c1 : (s.size : Int) ≤ 1 := by omega
    clear c0 hg hz
    go_wp2
    go_loop [5, 6] (fun n k => ∃ j : Nat, 0 ≤ j ∧ j ≤ s.size ∧ k = .int .i64 (j : Int) ∧ n = .int .i64 ((accJ s 0 j : Nat) : Int) ∧ Hid (DigJ s 0 j)) (fun _ k => s.size - (intOf k).toNat)
    case atStart => exact ⟨0, by omega, by omega, rfl, int_eq (by rw [accJ_start]; rfl), Lib.hid (DigJ.start s 0)⟩
    case round =>
      obtain ⟨j, hj0, hj1, rfl, rfl, hdg⟩ := hrel
      have ha := accJ_bd s 0 j hj0 hj1 (by omega) hdg.out
      have ha0 : 0 ≤ ((accJ s 0 j : Nat) : Int) := by omega
      have ha1 : ((accJ s 0 j : Nat) : Int) ≤ 10000000000000000 := by omega
      have hB := B_lt s j
      by_cases hlt : j < s.size
      · by_cases d0 : B s j < 48
        · have d0' : ((B s j : Nat) : Int) < 48 := by omega
          have HR := Lib.hid (rn_digit HI.out hj0 hlt (Or.inl d0))
          clear d0
          go_wp2
          go_ret2
          exact rn_ret HR.out
        · have d0' : 48 ≤ ((B s j : Nat) : Int) := by omega
          by_cases d1 : 57 < B s j
          · have d1' : 57 < ((B s j : Nat) : Int) := by omega
            have HR := Lib.hid (rn_digit HI.out hj0 hlt (Or.inr d1))
            clear d0 d1
            go_wp2
            go_ret2
            exact rn_ret HR.out
          · have d1' : ((B s j : Nat) : Int) ≤ 57 := by omega
            have HS := Lib.hid (accJ_succ s 0 j hj0 hlt)
            have HN := Lib.hid (hdg.out.next (by omega) (by omega))
            have HD := Lib.hid d0
            clear d0 d1
            go_wp2
            go_round
            case rel => exact ⟨j + 1, by omega, by omega, by go_num, int_eq (by rw [HS.out]; have := HD.out; omega), Lib.hid HN.out⟩
            case measure => simp [intOf]; omega
      · have hjs : j = s.size := by omega
        subst hjs
        have HP := Lib.hid (rn_pos hs0 hdg.out HZ.out)
        have ha2 := ha
        clear ha
        go_wp2_with (go_at_call 40; refine (rsafe_any _ _).mono ?_; rintro e w' ⟨rfl, rfl⟩)
        go_ret2
        exact ⟨_, _, rfl, HP.out, by omega, by omega, rfl⟩
  · have c0' : (((B s 0 : Nat) : Int) == 48) = false := by simp; omega
    clear c0 hg hz
    go_wp2
    go_loop [5, 6] (fun n k => ∃ j : Nat, 0 ≤ j ∧ j ≤ s.size ∧ k = .int .i64 (j : Int) ∧ n = .int .i64 ((accJ s 0 j : Nat) : Int) ∧ Hid (DigJ s 0 j)) (fun _ k => s.size - (intOf k).toNat)
    case atStart => exact ⟨0, by omega, by omega, rfl, int_eq (by rw [accJ_start]; rfl), Lib.hid (DigJ.start s 0)⟩
    case round =>
      obtain ⟨j, hj0, hj1, rfl, rfl, hdg⟩ := hrel
      have ha := accJ_bd s 0 j hj0 hj1 (by omega) hdg.out
      have ha0 : 0 ≤ ((accJ s 0 j : Nat) : Int) := by omega
      have ha1 : ((accJ s 0 j : Nat) : Int) ≤ 10000000000000000 := by omega
      have hB := B_lt s j
      by_cases hlt : j < s.size
      · by_cases d0 : B s j < 48
        · have d0' : ((B s j : Nat) : Int) < 48 := by omega
          have HR := Lib.hid (rn_digit HI.out hj0 hlt (Or.inl d0))
          clear d0
          go_wp2
          go_ret2
          exact rn_ret HR.out
        · have d0' : 48 ≤ ((B s j : Nat) : Int) := by omega
          by_cases d1 : 57 < B s j
          · have d1' : 57 < ((B s j : Nat) : Int) := by omega
            have HR := Lib.hid (rn_digit HI.out hj0 hlt (Or.inr d1))
            clear d0 d1
            go_wp2
            go_ret2
            exact rn_ret HR.out
          · have d1' : ((B s j : Nat) : Int) ≤ 57 := by omega
            have HS := Lib.hid (accJ_succ s 0 j hj0 hlt)
            have HN := Lib.hid (hdg.out.next (by omega) (by omega))
            have HD := Lib.hid d0
            clear d0 d1
            go_wp2
            go_round
            case rel => exact ⟨j + 1, by omega, by omega, by go_num, int_eq (by rw [HS.out]; have := HD.out; omega), Lib.hid HN.out⟩
            case measure => simp [intOf]; omega
      · have hjs : j = s.size := by omega
        subst hjs
        have HP := Lib.hid (rn_pos hs0 hdg.out HZ.out)
        have ha2 := ha
        clear ha
        go_wp2_with (go_at_call 40; refine (rsafe_any _ _).mono ?_; rintro e w' ⟨rfl, rfl⟩)
        go_ret2
        exact ⟨_, _, rfl, HP.out, by omega, by omega, rfl⟩

set_option maxHeartbeats 1000000 in
theorem rnum_neg_short
  (s : ByteArray) (w : World) (hs : s.size ≤ 1000) (hs0 : 0 < s.size) (hi : SgAt s 1) (h : s.size ≤ 1) :
    Calls Tryd.prog 32 #[.string s] w (RnPost s w) := by
  have hb := gB s
  have he : s.toList.isEmpty = false := by
    rw [ByteArray.toList_eq]
    cases hl : s.data.toList with
    | nil => have := size_eq s; rw [hl] at this; simp at this; omega
    | cons _ _ => rfl
  have he2 : s.toList ≠ [] := fun h => by rw [h] at he; cases he
  have b0 : (((B s 0 : Nat) : Int) == 45) = true := by
    rcases hi with ⟨h, _⟩ | ⟨_, _, h⟩
    · omega
    · simp; omega
  have HR := Lib.hid (rn_short hi h)
  have h1 : s.size = 1 := by omega
  have h2 : ((s.size : Int) - 1 < 1) := by omega
  clear hi h h1
  go_enter Tryd.func32, Tryd.ntmps32
  go_wp2
  go_ret2
  exact rn_ret HR.out

set_option maxHeartbeats 1000000 in
theorem rnum_neg_long
  (s : ByteArray) (w : World) (hs : s.size ≤ 1000) (hs0 : 0 < s.size) (hi : SgAt s 1) (h : 17 < s.size) :
    Calls Tryd.prog 32 #[.string s] w (RnPost s w) := by
  have hb := gB s
  have he : s.toList.isEmpty = false := by
    rw [ByteArray.toList_eq]
    cases hl : s.data.toList with
    | nil => have := size_eq s; rw [hl] at this; simp at this; omega
    | cons _ _ => rfl
  have he2 : s.toList ≠ [] := fun h => by rw [h] at he; cases he
  have b0 : (((B s 0 : Nat) : Int) == 45) = true := by
    rcases hi with ⟨h, _⟩ | ⟨_, _, h⟩
    · omega
    · simp; omega
  have HR := Lib.hid (rn_long hi (by omega))
  have h1 : ¬ ((s.size : Int) - 1 < 1) := by omega
  have h2 : 16 < (s.size : Int) - 1 := by omega
  clear hi
  go_enter Tryd.func32, Tryd.ntmps32
  go_wp2
  go_ret2
  exact rn_ret HR.out

set_option maxHeartbeats 1000000 in
theorem rnum_neg_zero
  (s : ByteArray) (w : World) (hs : s.size ≤ 1000) (hs0 : 0 < s.size) (hi : SgAt s 1) (hl : 1 < s.size) (hm : s.size ≤ 17) (h : B s 1 = 48) (h1s : 1 < s.size) :
    Calls Tryd.prog 32 #[.string s] w (RnPost s w) := by
  have hb := gB s
  have he : s.toList.isEmpty = false := by
    rw [ByteArray.toList_eq]
    cases hl : s.data.toList with
    | nil => have := size_eq s; rw [hl] at this; simp at this; omega
    | cons _ _ => rfl
  have he2 : s.toList ≠ [] := fun h => by rw [h] at he; cases he
  have b0 : (((B s 0 : Nat) : Int) == 45) = true := by
    rcases hi with ⟨h, _⟩ | ⟨_, _, h⟩
    · omega
    · simp; omega
  have HR := Lib.hid (rn_zero hi h h1s)
  have h1 : 1 ≤ (s.size : Int) - 1 := by omega
  have h2 : (s.size : Int) - 1 ≤ 16 := by omega
  have c0 : (((B s 1 : Nat) : Int) == 48) = true := by simp; omega
  have h3 : 1 < (s.size : Int) := by omega
  clear hi h
  go_enter Tryd.func32, Tryd.ntmps32
  go_wp2
  go_ret2
  exact rn_ret HR.out

set_option maxHeartbeats 1000000 in
theorem rnum_neg_main
  (s : ByteArray) (w : World) (hs : s.size ≤ 1000) (hs0 : 0 < s.size) (hi : SgAt s 1) (hl : 1 < s.size) (hm : s.size ≤ 17) (hz : B s 1 ≠ 48 ∨ s.size ≤ 1) :
    Calls Tryd.prog 32 #[.string s] w (RnPost s w) := by
  have hb := gB s
  have he : s.toList.isEmpty = false := by
    rw [ByteArray.toList_eq]
    cases hl : s.data.toList with
    | nil => have := size_eq s; rw [hl] at this; simp at this; omega
    | cons _ _ => rfl
  have he2 : s.toList ≠ [] := fun h => by rw [h] at he; cases he
  have b0 : (((B s 0 : Nat) : Int) == 45) = true := by
    rcases hi with ⟨h, _⟩ | ⟨_, _, h⟩
    · omega
    · simp; omega
  have h1 : 1 ≤ (s.size : Int) - 1 := by omega
  have h2 : (s.size : Int) - 1 ≤ 16 := by omega
  have HI := Lib.hid hi
  clear hi
  have hg : ¬ ((((B s 1 : Nat) : Int) == 48) = true ∧ 1 < (s.size : Int)) := by simp; omega
  have HZ : Hid (B s 1 ≠ 48) := Lib.hid (by omega)
  go_enter Tryd.func32, Tryd.ntmps32
  by_cases c0 : B s 1 = 48
  · exact absurd c0 (by omega)
  · have c0' : (((B s 1 : Nat) : Int) == 48) = false := by simp; omega
    clear c0 hg hz
    go_wp2
    go_loop [5, 6] (fun n k => ∃ j : Nat, 1 ≤ j ∧ j ≤ s.size ∧ k = .int .i64 (j : Int) ∧ n = .int .i64 ((accJ s 1 j : Nat) : Int) ∧ Hid (DigJ s 1 j)) (fun _ k => s.size - (intOf k).toNat)
    case atStart => exact ⟨1, by omega, by omega, rfl, int_eq (by rw [accJ_start]; rfl), Lib.hid (DigJ.start s 1)⟩
    case round =>
      obtain ⟨j, hj0, hj1, rfl, rfl, hdg⟩ := hrel
      have ha := accJ_bd s 1 j hj0 hj1 (by omega) hdg.out
      have ha0 : 0 ≤ ((accJ s 1 j : Nat) : Int) := by omega
      have ha1 : ((accJ s 1 j : Nat) : Int) ≤ 10000000000000000 := by omega
      have hB := B_lt s j
      by_cases hlt : j < s.size
      · by_cases d0 : B s j < 48
        · have d0' : ((B s j : Nat) : Int) < 48 := by omega
          have HR := Lib.hid (rn_digit HI.out hj0 hlt (Or.inl d0))
          clear d0
          go_wp2
          go_ret2
          exact rn_ret HR.out
        · have d0' : 48 ≤ ((B s j : Nat) : Int) := by omega
          by_cases d1 : 57 < B s j
          · have d1' : 57 < ((B s j : Nat) : Int) := by omega
            have HR := Lib.hid (rn_digit HI.out hj0 hlt (Or.inr d1))
            clear d0 d1
            go_wp2
            go_ret2
            exact rn_ret HR.out
          · have d1' : ((B s j : Nat) : Int) ≤ 57 := by omega
            have HS := Lib.hid (accJ_succ s 1 j hj0 hlt)
            have HN := Lib.hid (hdg.out.next (by omega) (by omega))
            have HD := Lib.hid d0
            clear d0 d1
            go_wp2
            go_round
            case rel => exact ⟨j + 1, by omega, by omega, by go_num, int_eq (by rw [HS.out]; have := HD.out; omega), Lib.hid HN.out⟩
            case measure => simp [intOf]; omega
      · have hjs : j = s.size := by omega
        subst hjs
        have HP := Lib.hid (rn_neg HI.out hl hdg.out HZ.out)
        have ha2 := ha
        clear ha
        go_wp2_with (go_at_call 40; refine (rsafe_any _ _).mono ?_; rintro e w' ⟨rfl, rfl⟩)
        go_ret2
        exact ⟨_, _, rfl, HP.out, by omega, by omega, rfl⟩


theorem rnum_any (s : ByteArray) (w : World) (hs : s.size ≤ 1000) : Calls Tryd.prog 32 #[.string s] w (RnPost s w) := by
  by_cases h0 : s.size = 0
  · have e : s = ⟨#[]⟩ := by
      apply ByteArray.ext
      exact Array.eq_empty_of_size_eq_zero h0
    subst e
    exact rnum_empty w
  · by_cases hb : B s 0 = 45
    · have hi : SgAt s 1 := .inr ⟨rfl, by omega, hb⟩
      by_cases h1 : s.size ≤ 1
      · exact rnum_neg_short s w hs (by omega) hi h1
      · by_cases h2 : 17 < s.size
        · exact rnum_neg_long s w hs (by omega) hi h2
        · by_cases h3 : B s 1 = 48
          · exact rnum_neg_zero s w hs (by omega) hi (by omega) (by omega) h3 (by omega)
          · exact rnum_neg_main s w hs (by omega) hi (by omega) (by omega) (.inl h3)
    · have hi : SgAt s 0 := .inl ⟨rfl, fun _ => hb⟩
      by_cases h2 : 16 < s.size
      · exact rnum_pos_long s w hs (by omega) hi h2
      · by_cases h3 : B s 0 = 48 ∧ 1 < s.size
        · exact rnum_pos_zero s w hs (by omega) hi (by omega) (by omega) h3.1 h3.2
        · exact rnum_pos_main s w hs (by omega) hi (by omega) (by omega) (by omega)
end Go.Proofs.YtlhgiihooalanaaDoor.Nums
