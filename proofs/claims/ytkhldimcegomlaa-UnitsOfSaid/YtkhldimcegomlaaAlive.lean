/-
  The laws' own example: alive.
-/
import Derived.Test.YtkhldimcegomlaaSame
namespace Go.Proofs.Ytkhldimcegomlaa
open Go.RowKit

theorem smile_pts : pts ⟨#[240, 159, 152, 128]⟩ = some [128512] := by
  have h := pts_encs (L := [128512]) (by simp) (by decide)
  have e : (encs [128512]).toArray = #[240, 159, 152, 128] := by decide
  rw [e] at h
  exact h
theorem smile_units : units ⟨#[240, 159, 152, 128]⟩ = [55357, 56832] := by
  unfold units
  rw [smile_pts]
  decide
theorem a_pts : (pts ⟨#[97]⟩).isSome = true := by
  have h := pts_encs (L := [97]) (by simp) (by decide)
  have e : (encs [97]).toArray = #[97] := by decide
  rw [e] at h
  rw [h]
  rfl

set_option maxHeartbeats 400000 in
theorem alive_any (w : World) : Calls Try.prog 8 #[] w fun e w' => e = .returned (.bool true) ∧ Below w.heap.size w w' := by
  have hap := a_pts
  go_enter Try.func8, Try.ntmps8
  go_wp2_with (go_at_call 9; refine (of_any ⟨#[240, 159, 152, 128]⟩ w (by decide)).mono ?_)
  rintro e w1 ⟨v, rfl, hown, hbel⟩
  rw [smile_units] at hown
  obtain ⟨ao, cp, rfl⟩ := own_shape hown
  obtain ⟨g, rfl, hc0⟩ := own_at hown (k := 0) (u := .int .u16 55357) rfl
  obtain ⟨g', e, hc1⟩ := own_at hown (k := 1) (u := .int .u16 56832) rfl
  obtain rfl : g = g' := by simpa using e
  clear hown e
  go_wp2_with (go_at_call 10; refine (right_any ⟨#[97]⟩ w1 (by decide)).mono ?_)
  rintro e w2 ⟨rfl, hb2⟩
  go_wp2
  go_ret
  exact ⟨rfl, hbel.trans (hb2.mono hbel.size)⟩

theorem alive_at (w0 w : World) (h : Below w0.heap.size w0 w) : Calls Try.prog 8 #[] w fun e w' => e = .returned (.bool true) ∧ Below w0.heap.size w0 w' :=
  (alive_any w).mono (by rintro e w' ⟨rfl, hb⟩; exact ⟨rfl, h.trans (hb.mono h.size)⟩)
end Go.Proofs.Ytkhldimcegomlaa
