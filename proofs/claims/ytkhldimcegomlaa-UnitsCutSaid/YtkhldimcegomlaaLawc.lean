/-
  The walk of the law on cuts.
-/
import Derived.Test.YtkhldimcegomlaaLawj
import Derived.Test.YtkhldimcegomlaaLawt
namespace Go.Proofs.Ytkhldimcegomlaa
open Go.RowKit

theorem jn_tx {u v : List Nat} (hu : ∀ x ∈ u, x < 65536) (hv : ∀ x ∈ v, x < 65536) : jn (tx u) (tx v) = tx (u ++ v) := by
  unfold jn
  rw [if_pos ⟨by rw [tx_pts hu]; rfl, by rw [tx_pts hv]; rfl⟩, tx_units hu, tx_units hv]

theorem rd_take {w : World} {a : Option Addr} {u : List Nat} (h : Rd w a u) (k : Nat) : Rd w a (u.take k) := by
  intro j y hy
  refine h j y ?_
  by_cases hj : j < k
  · rw [List.getElem?_take_of_lt hj] at hy; exact hy
  · rw [List.getElem?_eq_none (by rw [List.length_take]; omega)] at hy; simp at hy
theorem rd_drop {w : World} {x : Addr} {u : List Nat} (h : Rd w (some x) u) (k : Nat) : Rd w (some (x.add k)) (u.drop k) := by
  intro j y hy
  rw [List.getElem?_drop] at hy
  obtain ⟨b, off, e, hlt, hc, hy2⟩ := h (k + j) y hy
  obtain rfl : x = ⟨b, off, none⟩ := by simpa using e
  refine ⟨b, off + k, ?_, hlt, ?_, hy2⟩
  · unfold Addr.add
    split
    · rename_i hk; simp_all
    · rfl
  · rw [Nat.add_assoc]; exact hc

set_option maxRecDepth 100000 in
set_option maxHeartbeats 2000000 in
theorem cut_walk (a0 : Option Addr) (len cap : Nat) (u : List Nat) (at' : Int) (w : World) (hsrc : Src w a0 len cap u) :
    Calls Try.prog 7 #[.slice a0 len cap, .int .i64 at'] w fun e w' => e = .returned (.bool true) ∧ Below w.heap.size w w' := by
  obtain ⟨hl, hu, hr, hlc, hcm, hs⟩ := hsrc
  unfold maxLen at hcm
  have HL := Lib.hid hl
  have HU := Lib.hid hu
  clear hl hu
  rcases Int.lt_or_le 200 (len : Nat) with h3 | h3
  · clear hs
    go_enter Try.func7, Try.ntmps7
    go_wp2_with (go_at_call 8; refine (alive_any w).mono ?_)
    rintro e w1 ⟨rfl, b1⟩
    go_wp2
    go_ret
    exact ⟨rfl, b1⟩
  rcases Int.lt_or_le at' 0 with h4 | h4
  · clear hs
    go_enter Try.func7, Try.ntmps7
    go_wp2_with (go_at_call 8; refine (alive_any w).mono ?_)
    rintro e w1 ⟨rfl, b1⟩
    go_wp2
    go_ret
    exact ⟨rfl, b1⟩
  rcases Int.lt_or_le (len : Nat) at' with h5 | h5
  · clear hs
    go_enter Try.func7, Try.ntmps7
    go_wp2_with (go_at_call 8; refine (alive_any w).mono ?_)
    rintro e w1 ⟨rfl, b1⟩
    go_wp2
    go_ret
    exact ⟨rfl, b1⟩
  obtain ⟨k, rfl⟩ := Int.eq_ofNat_of_zero_le h4
  have hkl : k ≤ len := by omega
  have ht : ∀ x ∈ u.take k, x < 65536 := fun x hx => HU.out x (List.mem_of_mem_take hx)
  have hd : ∀ x ∈ u.drop k, x < 65536 := fun x hx => HU.out x (List.mem_of_mem_drop hx)
  have lt : (u.take k).length = k := by rw [List.length_take, HL.out]; omega
  have ld : (u.drop k).length = len - k := by rw [List.length_drop, HL.out]
  obtain ⟨SA, hSA⟩ : ∃ s, s = tx (u.take k) := ⟨_, rfl⟩
  obtain ⟨SB, hSB⟩ : ∃ s, s = tx (u.drop k) := ⟨_, rfl⟩
  obtain ⟨SU, hSU⟩ : ∃ s, s = tx u := ⟨_, rfl⟩
  have jo : ∀ w : World, Calls Try.prog 17 #[.string SA, .string SB] w fun e w' => e = .returned (.string SU) ∧ Below w.heap.size w w' := by
    intro w
    have z1 := tx_size (u.take k)
    have z2 := tx_size (u.drop k)
    refine (join_any SA SB w (by rw [hSA]; omega) (by rw [hSB]; omega)).mono ?_
    rintro e w' ⟨rfl, hb⟩
    exact ⟨by rw [hSA, hSB, hSU, jn_tx ht hd, List.take_append_drop], hb⟩
  have la : ∀ w : World, Calls Try.prog 14 #[.string SA] w fun e w' => e = .returned (.int .i64 (k : Nat)) ∧ Below w.heap.size w w' := by
    intro w
    rw [hSA]
    have T := tx_length ht (by omega) w
    rw [lt] at T
    exact T
  have lb : ∀ w : World, Calls Try.prog 14 #[.string SB] w fun e w' => e = .returned (.int .i64 ((len : Int) - (k : Nat))) ∧ Below w.heap.size w w' := by
    intro w
    rw [hSB]
    have T := tx_length hd (by omega) w
    rw [ld, Int.natCast_sub hkl] at T
    exact T
  have ta : ∀ w1 : World, Below w.heap.size w w1 → Calls Try.prog 15 #[.slice a0 k cap] w1 fun e w' => e = .returned (.string SA) ∧ Below w1.heap.size w1 w' := by
    intro w1 b1
    have T := tx_text a0 cap (u.take k) w1 (by omega) (rd_take (rd_below hr b1) k)
    rw [lt, ← hSA] at T
    exact T
  have tu : ∀ w1 : World, Below w.heap.size w w1 → Calls Try.prog 15 #[.slice a0 len cap] w1 fun e w' => e = .returned (.string SU) ∧ Below w1.heap.size w1 w' := by
    intro w1 b1
    have T := tx_text a0 cap u w1 (by rw [HL.out]; omega) (rd_below hr b1)
    rw [HL.out, ← hSU] at T
    exact T
  have tb : ∀ (a1 : Option Addr) (c1 : Nat) (w1 : World), (∀ w1 : World, Below w.heap.size w w1 → Rd w1 a1 (u.drop k)) → Below w.heap.size w w1 → Calls Try.prog 15 #[.slice a1 (len - k) c1] w1 fun e w' => e = .returned (.string SB) ∧ Below w1.heap.size w1 w' := by
    intro a1 c1 w1 hrd b1
    have T := tx_text a1 c1 (u.drop k) w1 (by omega) (hrd w1 b1)
    rw [ld, ← hSB] at T
    exact T
  have JO := Lib.hid jo
  have LA := Lib.hid la
  have LB := Lib.hid lb
  have TA := Lib.hid ta
  have TU := Lib.hid tu
  rcases hs with ⟨rfl, hu0, rfl⟩ | ⟨x, rfl, hx⟩
  · subst hu0
    have hl0 := HL.out
    obtain rfl : len = 0 := hl0.symm
    obtain rfl : k = 0 := by omega
    have TB := Lib.hid (fun w1 b1 => tb none 0 w1 (fun w1 _ j y hy => by simp at hy) b1)
    clear hl0 ht hd lt ld hSA hSB hSU jo la lb ta tu tb hr
    go_enter Try.func7, Try.ntmps7
    go_wp2_with (go_at_call 8; refine (alive_any w).mono ?_)
    rintro e w1 ⟨rfl, b1⟩
    go_wp2_with (go_at_call 15; refine (TA.out w1 b1).mono ?_)
    rintro e w2 ⟨rfl, c2⟩
    have b2 := b1.trans (c2.mono b1.size)
    go_wp2_with (go_at_call 15; refine (TB.out w2 b2).mono ?_)
    rintro e w3 ⟨rfl, c3⟩
    have b3 := b2.trans (c3.mono b2.size)
    go_wp2_with (go_at_call 17; refine (JO.out w3).mono ?_)
    rintro e w4 ⟨rfl, c4⟩
    have b4 := b3.trans (c4.mono b3.size)
    go_wp2_with (go_at_call 15; refine (TU.out w4 b4).mono ?_)
    rintro e w5 ⟨rfl, c5⟩
    have b5 := b4.trans (c5.mono b4.size)
    go_wp2_with (go_at_call 14; refine (LA.out w5).mono ?_)
    rintro e w6 ⟨rfl, c6⟩
    have b6 := b5.trans (c6.mono b5.size)
    go_wp2_with (go_at_call 14; refine (LB.out w6).mono ?_)
    rintro e w7 ⟨rfl, c7⟩
    have b7 := b6.trans (c7.mono b6.size)
    go_wp2
    go_ret
    exact ⟨rfl, b7⟩
  · clear hx
    by_cases hkc : k = cap
    · subst hkc
      obtain rfl : len = k := by omega
      have TB := Lib.hid (fun w1 b1 => tb (some x) 0 w1 (fun w1 _ j y hy => by rw [List.drop_of_length_le (by rw [HL.out]; exact Nat.le_refl _)] at hy; simp at hy) b1)
      rw [Nat.sub_self] at TB
      clear ht hd lt ld hSA hSB hSU jo la lb ta tu tb hr
      go_enter Try.func7, Try.ntmps7
      go_wp2_with (go_at_call 8; refine (alive_any w).mono ?_)
      rintro e w1 ⟨rfl, b1⟩
      go_wp2_with (go_at_call 15; refine (TA.out w1 b1).mono ?_)
      rintro e w2 ⟨rfl, c2⟩
      have b2 := b1.trans (c2.mono b1.size)
      go_wp2_with (go_at_call 15; refine (TB.out w2 b2).mono ?_)
      rintro e w3 ⟨rfl, c3⟩
      have b3 := b2.trans (c3.mono b2.size)
      go_wp2_with (go_at_call 17; refine (JO.out w3).mono ?_)
      rintro e w4 ⟨rfl, c4⟩
      have b4 := b3.trans (c4.mono b3.size)
      go_wp2_with (go_at_call 15; refine (TU.out w4 b4).mono ?_)
      rintro e w5 ⟨rfl, c5⟩
      have b5 := b4.trans (c5.mono b4.size)
      go_wp2_with (go_at_call 14; refine (LA.out w5).mono ?_)
      rintro e w6 ⟨rfl, c6⟩
      have b6 := b5.trans (c6.mono b5.size)
      go_wp2_with (go_at_call 14; refine (LB.out w6).mono ?_)
      rintro e w7 ⟨rfl, c7⟩
      have b7 := b6.trans (c7.mono b6.size)
      go_wp2
      go_ret
      exact ⟨rfl, b7⟩
    · have hkc2 : (k : Int) < cap := by omega
      have TB := Lib.hid (fun w1 b1 => tb (some (x.add k)) (cap - k) w1 (fun w1 b1 => rd_drop (rd_below hr b1) k) b1)
      clear ht hd lt ld hSA hSB hSU jo la lb ta tu tb hr hkc
      go_enter Try.func7, Try.ntmps7
      go_wp2_with (go_at_call 8; refine (alive_any w).mono ?_)
      rintro e w1 ⟨rfl, b1⟩
      go_wp2_with (go_at_call 15; refine (TA.out w1 b1).mono ?_)
      rintro e w2 ⟨rfl, c2⟩
      have b2 := b1.trans (c2.mono b1.size)
      go_wp2_with (go_at_call 15; refine (TB.out w2 b2).mono ?_)
      rintro e w3 ⟨rfl, c3⟩
      have b3 := b2.trans (c3.mono b2.size)
      go_wp2_with (go_at_call 17; refine (JO.out w3).mono ?_)
      rintro e w4 ⟨rfl, c4⟩
      have b4 := b3.trans (c4.mono b3.size)
      go_wp2_with (go_at_call 15; refine (TU.out w4 b4).mono ?_)
      rintro e w5 ⟨rfl, c5⟩
      have b5 := b4.trans (c5.mono b4.size)
      go_wp2_with (go_at_call 14; refine (LA.out w5).mono ?_)
      rintro e w6 ⟨rfl, c6⟩
      have b6 := b5.trans (c6.mono b5.size)
      go_wp2_with (go_at_call 14; refine (LB.out w6).mono ?_)
      rintro e w7 ⟨rfl, c7⟩
      have b7 := b6.trans (c7.mono b6.size)
      go_wp2
      go_ret
      exact ⟨rfl, b7⟩
end Go.Proofs.Ytkhldimcegomlaa
