/-
  The walk of the law on arbitrary rows of units.
-/
import Derived.Test.YtkhldimcegomlaaTx
namespace Go.Proofs.Ytkhldimcegomlaa
open Go.RowKit

theorem uc_one (u : List Nat) : ∀ x ∈ uc u, x.oneCell' = true := by
  intro x hx
  simp only [uc, List.mem_map] at hx
  obtain ⟨n, _, rfl⟩ := hx
  rfl
/-- A cell of a slice that came in, in a later world. -/
theorem src_cell {w w1 : World} {x : Addr} {u : List Nat} (b1 : Below w.heap.size w w1) (_hr : Rd w (some x) u) (hx : ∀ j v, (uc u)[j]? = some v → w.cell? (x.add j) = some v) : ∀ j v, (uc u)[j]? = some v → w1.cell? (x.add j) = some v := by
  intro j v hj
  have h := hx j v hj
  exact (b1.cell (World.block_lt_of_cell? w _ h)).trans h

set_option maxRecDepth 100000 in
set_option maxHeartbeats 1000000 in
theorem text_walk (a0 : Option Addr) (len cap : Nat) (u : List Nat) (w : World) (hsrc : Src w a0 len cap u) :
    Calls Try.prog 4 #[.slice a0 len cap] w fun e w' => e = .returned (.bool true) ∧ Below w.heap.size w w' := by
  obtain ⟨hl, hu, hr, hlc, hcm, hs⟩ := hsrc
  unfold maxLen at hcm
  obtain ⟨i0, hi, hz0, hz1, hz2⟩ := info_parts info32
  have HL := Lib.hid hl
  have HU := Lib.hid hu
  clear hl hu
  rcases Int.lt_or_le 300 (len : Nat) with h3 | h3
  · clear hs
    go_enter Try.func4, Try.ntmps4
    go_wp2_with (go_at_call 8; refine (alive_any w).mono ?_)
    rintro e w1 ⟨rfl, b1⟩
    go_wp2
    go_ret
    exact ⟨rfl, b1⟩
  rcases hs with ⟨rfl, hu0, rfl⟩ | ⟨x, rfl, hx⟩
  · subst hu0
    obtain rfl : len = 0 := by omega
    have r0 : ∀ w : World, Rd w none [] := fun w k x hx => by simp at hx
    have u0 : ∀ x ∈ ([] : List Nat), x < 65536 := fun x hx => by simp at hx
    have R0 := Lib.hid r0
    have U0 := Lib.hid u0
    clear r0 u0 hr
    go_enter Try.func4, Try.ntmps4
    go_wp2_with (go_at_call 8; refine (alive_any w).mono ?_)
    rintro e w1 ⟨rfl, b1⟩
    go_wp2_with (go_at_call 15; refine (tx_text none 0 [] w1 (by simp) (R0.out _)).mono ?_)
    rintro e w3 ⟨rfl, c3⟩
    have b3 := b1.trans (c3.mono b1.size)
    go_wp2_with (go_at_call 16; refine (tx_rtext none 0 [] w3 (by simp) (R0.out _)).mono ?_)
    rintro e w4 ⟨rfl, c4⟩
    have b4 := b3.trans (c4.mono b3.size)
    go_wp2_with (go_at_call 10; refine (tx_right U0.out (by simp) w4).mono ?_)
    rintro e w5 ⟨rfl, c5⟩
    have b5 := b4.trans (c5.mono b4.size)
    go_wp2_with (go_at_call 9; refine (tx_of U0.out (by simp) w5).mono ?_)
    rintro e w6 ⟨bo, bp, rfl, t6, c6⟩
    have b6 := b5.trans (c6.mono b5.size)
    go_wp2_with (go_at_call 12; refine (same_refl [] bo none bp 0 w6 (by simp) t6 (R0.out _)).mono ?_)
    rintro e w7 ⟨rfl, q, rfl⟩
    have b7 := below_drewN b6 q
    have hz7 := b7.size
    go_wp2_with (go_at_call 14; refine (tx_length U0.out (by simp) (w6.drewN q)).mono ?_)
    rintro e w8 ⟨rfl, c8⟩
    have b8 := b7.trans (c8.mono hz7)
    go_wp2
    go_ret
    exact ⟨rfl, b8⟩
  · have HX := Lib.hid hx
    clear hx
    go_enter Try.func4, Try.ntmps4
    go_wp2_with (go_at_call 8; refine (alive_any w).mono ?_)
    rintro e w1 ⟨rfl, b1⟩
    go_wp2_with (at_builtin; refine wpList_append_own _ rfl _ _ 23 rfl w.heap.size 32 i0 (.int .u16 0) 1 2 Try.underlying23 hi hz0 hz1 hz2 rfl (by decide) _ _ _ rfl (World.ownsRow_nil _ _ _ _) x len cap (uc u) rfl (by rw [uc_length, HL.out]; simp) (fun j v hj => (src_cell b1 hr HX.out j v hj)) (uc_one u) (by unfold maxLen; omega) (by omega) b1.size ?_)
    rintro v' w2 hown2 hg2 _
    obtain ⟨ao, cp, rfl⟩ := own_shape hown2
    have b2 := b1.grown hg2 b1.size (fun k hk => by simp [Value.ownBlock] at hk)
    have hz2 := b2.size
    have r2 := rd_below hr b2
    have o2 := rd_own (u := u) (by rw [HL.out]; simpa using hown2) HU.out
    have T := tx_text ao cp u w2 (by rw [HL.out]; omega) o2
    rw [HL.out] at T
    have TT := Lib.hid T
    clear hown2 hg2 o2 T
    go_wp2_with (go_at_call 15; refine TT.out.mono ?_)
    rintro e w3 ⟨rfl, c3⟩
    have b3 := b2.trans (c3.mono hz2)
    have r3 := rd_below hr b3
    have T := tx_rtext (some x) cap u w3 (by rw [HL.out]; omega) r3
    rw [HL.out] at T
    have TT := Lib.hid T
    clear T
    go_wp2_with (go_at_call 16; refine TT.out.mono ?_)
    rintro e w4 ⟨rfl, c4⟩
    have b4 := b3.trans (c4.mono b3.size)
    go_wp2_with (go_at_call 10; refine (tx_right HU.out (by rw [HL.out]; omega) w4).mono ?_)
    rintro e w5 ⟨rfl, c5⟩
    have b5 := b4.trans (c5.mono b4.size)
    have T := tx_of HU.out (by rw [HL.out]; omega) w5
    rw [HL.out] at T
    have TT := Lib.hid T
    clear T
    go_wp2_with (go_at_call 9; refine TT.out.mono ?_)
    rintro e w6 ⟨bo, bp, rfl, t6, c6⟩
    have b6 := b5.trans (c6.mono b5.size)
    have r6 := rd_below hr b6
    have T := same_refl u bo (some x) bp cap w6 (by rw [HL.out]; omega) t6 r6
    rw [HL.out] at T
    have TT := Lib.hid T
    clear T
    go_wp2_with (go_at_call 12; refine TT.out.mono ?_)
    rintro e w7 ⟨rfl, q, rfl⟩
    have b7 := below_drewN b6 q
    have hz7 := b7.size
    have T := tx_length HU.out (by rw [HL.out]; omega) (w6.drewN q)
    rw [HL.out] at T
    have TT := Lib.hid T
    clear T
    go_wp2_with (go_at_call 14; refine TT.out.mono ?_)
    rintro e w8 ⟨rfl, c8⟩
    have b8 := b7.trans (c8.mono hz7)
    go_wp2
    go_ret
    exact ⟨rfl, b8⟩
end Go.Proofs.Ytkhldimcegomlaa
