/-
  The walk of the law on arbitrary strings.
-/
import Derived.Test.YtkhldimcegomlaaLawp
import Derived.Test.YtkhldimcegomlaaLen
namespace Go.Proofs.Ytkhldimcegomlaa
open Go.RowKit

/-- The reference's Units, by what its slice reads as. -/
theorem runits_rd (s : ByteArray) (w : World) (hs : s.size ≤ 100000000) :
    Calls Try.prog 13 #[.string s] w fun e w' => ∃ ao cp, e = .returned (.slice ao (units s).length cp) ∧ Rd w' ao (units s) ∧ Below w.heap.size w w' := by
  refine (runits_any s w hs).mono ?_
  rintro e w' ⟨v, rfl, hown, hb⟩
  obtain ⟨ao, cp, rfl⟩ := own_shape hown
  exact ⟨ao, cp, rfl, rd_own hown (units_bd s), hb⟩

theorem text_units {s : ByteArray} {L : List Nat} (h : pts s = some L) : (⟨(text (units s)).toArray⟩ : ByteArray) = s := by
  obtain ⟨h1, h2⟩ := pts_back h
  have hu : units s = uns L := by unfold units; rw [h]; rfl
  rw [hu]
  unfold text
  rw [cps_uns L (pts_bd h) h2, ← h1]

theorem text_at (s : ByteArray) (ao : Option Addr) (cp : Nat) (w : World) (hs : s.size ≤ 5000) (hp : (pts s).isSome = true) (hr : Rd w ao (units s)) :
    Calls Try.prog 15 #[.slice ao (units s).length cp] w fun e w' => e = .returned (.string s) ∧ Below w.heap.size w w' := by
  obtain ⟨L, hL⟩ := Option.isSome_iff_exists.1 hp
  have hl := units_le s
  refine (text_any ao cp (units s) w (by omega) hr).mono ?_
  rintro e w' ⟨rfl, hb⟩
  exact ⟨by rw [text_units hL], hb⟩

theorem same_refl (A : List Nat) (ao bo : Option Addr) (ca cb : Nat) (w : World) (hla : A.length ≤ 1000000000) (ha : Rd w ao A) (hc : Rd w bo A) :
    Calls Try.prog 12 #[.slice ao A.length ca, .slice bo A.length cb] w fun e w' => e = .returned (.bool true) ∧ ∃ q, w' = w.drewN q := by
  refine (same_any ao bo ca cb A A w hla hla ha hc).mono ?_
  rintro e w' ⟨rfl, q, rfl⟩
  exact ⟨by simp, q, rfl⟩

theorem rd_drewN {w : World} {ao : Option Addr} {u : List Nat} (h : Rd w ao u) (q : Nat) : Rd (w.drewN q) ao u := h

set_option maxRecDepth 100000 in
set_option maxHeartbeats 1000000 in
theorem of_walk (s : ByteArray) (w : World) (hs : s.size ≤ 9223372036854775807) :
    Calls Try.prog 3 #[.string s] w fun e w' => e = .returned (.bool true) ∧ Below w.heap.size w w' := by
  by_cases hz : s.size ≤ 500
  · have hz1 : (s.size : Int) ≤ 500 := by omega
    have hu := units_le s
    have hu9 : (units s).length ≤ 1000 := by omega
    clear hu
    cases hp : (pts s).isSome with
    | false =>
      go_enter Try.func3, Try.ntmps3
      go_wp2_with (go_at_call 8; refine (alive_any w).mono ?_)
      rintro e w1 ⟨rfl, b1⟩
      go_wp2_with (go_at_call 9; refine (of_rd s w1 (by omega)).mono ?_)
      rintro e w2 ⟨ao, cp, rfl, r2, c2⟩
      have b2 := b1.trans (c2.mono b1.size)
      go_wp2_with (go_at_call 10; refine (right_any s w2 (by omega)).mono ?_)
      rintro e w3 ⟨rfl, c3⟩
      have b3 := b2.trans (c3.mono b2.size)
      have r3 := rd_below r2 c3
      go_wp2_with (go_at_call 11; refine (rightText_any s w3 (by omega)).mono ?_)
      rintro e w4 ⟨rfl, c4⟩
      have b4 := b3.trans (c4.mono b3.size)
      have r4 := rd_below r3 c4
      go_wp2_with (go_at_call 13; refine (runits_rd s w4 (by omega)).mono ?_)
      rintro e w5 ⟨bo, bp, rfl, t5, c5⟩
      have b5 := b4.trans (c5.mono b4.size)
      have r5 := rd_below r4 c5
      go_wp2_with (go_at_call 12; refine (same_refl (units s) ao bo cp bp w5 (by omega) r5 t5).mono ?_)
      rintro e w6 ⟨rfl, q, rfl⟩
      have b6 := below_drewN b5 q
      have hz6 := b6.size
      go_wp2_with (go_at_call 14; refine (len_any s (w5.drewN q) (by omega)).mono ?_)
      rintro e w7 ⟨rfl, c7⟩
      have b7 := b6.trans (c7.mono hz6)
      go_wp2_with (go_at_call 10; refine (right_any s w7 (by omega)).mono ?_)
      rintro e w8 ⟨rfl, c8⟩
      have b8 := b7.trans (c8.mono b7.size)
      go_wp2
      go_ret
      exact ⟨rfl, b8⟩
    | true =>
      go_enter Try.func3, Try.ntmps3
      go_wp2_with (go_at_call 8; refine (alive_any w).mono ?_)
      rintro e w1 ⟨rfl, b1⟩
      go_wp2_with (go_at_call 9; refine (of_rd s w1 (by omega)).mono ?_)
      rintro e w2 ⟨ao, cp, rfl, r2, c2⟩
      have b2 := b1.trans (c2.mono b1.size)
      go_wp2_with (go_at_call 10; refine (right_any s w2 (by omega)).mono ?_)
      rintro e w3 ⟨rfl, c3⟩
      have b3 := b2.trans (c3.mono b2.size)
      have r3 := rd_below r2 c3
      go_wp2_with (go_at_call 11; refine (rightText_any s w3 (by omega)).mono ?_)
      rintro e w4 ⟨rfl, c4⟩
      have b4 := b3.trans (c4.mono b3.size)
      have r4 := rd_below r3 c4
      go_wp2_with (go_at_call 13; refine (runits_rd s w4 (by omega)).mono ?_)
      rintro e w5 ⟨bo, bp, rfl, t5, c5⟩
      have b5 := b4.trans (c5.mono b4.size)
      have r5 := rd_below r4 c5
      go_wp2_with (go_at_call 12; refine (same_refl (units s) ao bo cp bp w5 (by omega) r5 t5).mono ?_)
      rintro e w6 ⟨rfl, q, rfl⟩
      have b6 := below_drewN b5 q
      have hz6 := b6.size
      have r6 := rd_drewN r5 q
      go_wp2_with (go_at_call 14; refine (len_any s (w5.drewN q) (by omega)).mono ?_)
      rintro e w7 ⟨rfl, c7⟩
      have b7 := b6.trans (c7.mono hz6)
      have r7 := rd_below r6 c7
      go_wp2_with (go_at_call 10; refine (right_any s w7 (by omega)).mono ?_)
      rintro e w8 ⟨rfl, c8⟩
      have b8 := b7.trans (c8.mono b7.size)
      have r8 := rd_below r7 c8
      go_wp2_with (go_at_call 15; refine (text_at s ao cp w8 (by omega) hp r8).mono ?_)
      rintro e w9 ⟨rfl, c9⟩
      have b9 := b8.trans (c9.mono b8.size)
      go_wp2
      go_ret
      exact ⟨rfl, b9⟩
  · have hz1 : 500 < (s.size : Int) := by omega
    clear hz
    go_enter Try.func3, Try.ntmps3
    go_wp2_with (go_at_call 8; refine (alive_any w).mono ?_)
    rintro e w1 ⟨rfl, b1⟩
    go_wp2
    go_ret
    exact ⟨rfl, b1⟩
end Go.Proofs.Ytkhldimcegomlaa
