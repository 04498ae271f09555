/-
  New: a world without objects.
-/
import Derived.Test.YtoakiejpmcgdjaaGreatDoorMoFail
namespace Go.Proofs.YtoakiejpmcgdjaaGreatDoor.Mo
open Go Go.RowKit Go.Maps Go.Shelf Go.Proofs.YtoakiejpmcgdjaaGreatDoor.Keys Go.Proofs.YtoakiejpmcgdjaaGreatDoor.Hp Go.Proofs.YtoakiejpmcgdjaaGreatDoor.Rg
set_option linter.unusedVariables false
set_option linter.unusedSimpArgs false
theorem bdW (ps : Array (Nat × Value)) : Instr.build 44 ps = Bd 44 ps := (rfl)
theorem bxW (v : Value) : Instr.box 44 v = Bx 44 v := (rfl)
theorem run_bdW (w : World) (hb : Nat) (f d : Int) : (Bd 44 #[(0, .pointer (some ⟨hb, 0, none⟩)), (2, .int .i64 f), (3, .int .i64 d)]).run Tryz.prog w = .ok (.agg (wcs hb .nilIface f d 0 0 nilS)) w := run_build w _ _ _ (by kernel_rfl)
theorem maxz (x : Int) : (if x < 0 then 0 else x) = max x 0 := by omega
theorem minz (x : Int) : (if 1000 < x then 1000 else x) = min x 1000 := by omega
attribute [local go_sem ↓] bdW bxW
attribute [local irreducible] wcs
attribute [local go_sem] run_bx run_bdW
structure NewI (F R D : Int) (N : Nat) (w1 : World) (L : Array Bool) (x0 x1 x2 x3 x4 x5 x6 x7 x8 x9 x10 x11 x12 x13 x14 : Value) (W : World) : Prop where
  k1 : x1 = ptr N
  m1 : Below w1.heap.size w1 W
  h0 : L.getD 0 false = true → x3 = .pointer (some ⟨N, 1, none⟩)
  h1 : L.getD 1 false = true → x4 = .int .i64 R
  h2 : L.getD 2 false = true → ∃ g, x5 = ptr g ∧ w1.heap.size ≤ g ∧ Blk W g (hp R nilS 0) 57
  h3 : L.getD 3 false = true → x6 = .pointer (some ⟨N, 0, none⟩)
  h4 : L.getD 4 false = true → x7 = .int .i64 F
  h5 : L.getD 5 false = true → x8 = .int .i64 (max F 0)
  h6 : L.getD 6 false = true → x9 = .pointer (some ⟨N, 2, none⟩)
  h7 : L.getD 7 false = true → x10 = .int .i64 D
  h8 : L.getD 8 false = true → x11 = .int .i64 (max D 0)
  h9 : L.getD 9 false = true → x12 = .int .i64 (min (max D 0) 1000)
  h10 : L.getD 10 false = true → ∃ g, x5 = ptr g ∧ x13 = .agg (wcs g .nilIface (max F 0) (min (max D 0) 1000) 0 0 nilS)
  h11 : L.getD 11 false = true → ∃ b g, x14 = ptr b ∧ x5 = ptr g ∧ w1.heap.size ≤ b ∧ Blk W b (wcs g .nilIface (max F 0) (min (max D 0) 1000) 0 0 nilS) 44
  h12 : L.getD 12 false = true → x2 = x14
/-- A world that is new. -/
def NewPost (w : World) (F R D : Int) (e : Ending) (w' : World) : Prop := ∃ wb hb, e = .returned (ptr wb) ∧ Blk w' wb (wcs hb .nilIface (max F 0) (min (max D 0) 1000) 0 0 nilS) 44 ∧ Blk w' hb (hp R nilS 0) 57 ∧ w.heap.size ≤ wb ∧ w.heap.size ≤ hb ∧ Below w.heap.size w w'
set_option maxRecDepth 100000 in
set_option maxHeartbeats 4000000 in
theorem newW_any (F R D : Int) (w : World) : Calls Tryz.prog 8 #[.agg #[.int .i64 F, .int .i64 R, .int .i64 D]] w (NewPost w F R D) := by
  obtain ⟨w1, hw1⟩ : ∃ w1, w.alloc (.cells #[.int .i64 F, .int .i64 R, .int .i64 D] 28) = w1 := ⟨_, rfl⟩
  have k1 : w1.heap.size = w.heap.size + 1 := by rw [← hw1]; simp
  have b1 : Below w.heap.size w w1 := by rw [← hw1]; exact (Below.refl _ w).alloc (Nat.le_refl _) _
  have hbl : Blk w1.drew w.heap.size #[.int .i64 F, .int .i64 R, .int .i64 D] 28 := by rw [← hw1]; exact Blk.new w _ _
  have hlt : w.heap.size < w1.drew.heap.size := by show w.heap.size < w1.heap.size; omega
  go_enter Tryz.func8, Tryz.ntmps8
  go_wp2
  refine region_inv (by kernel_rfl) (fun L a W => ∃ x0 x1 x2 x3 x4 x5 x6 x7 x8 x9 x10 x11 x12 x13 x14 : Value, a = { tmps := #[x0, x1, x2, x3, x4, x5, x6, x7, x8, x9, x10, x11, x12, x13, x14], defers := [] } ∧ NewI F R D w.heap.size w1.drew L x0 x1 x2 x3 x4 x5 x6 x7 x8 x9 x10 x11 x12 x13 x14 W) (by kernel_rfl) ?start ?step ?done
  case start => exact ⟨_, _, _, _, _, _, _, _, _, _, _, _, _, _, _, rfl, ⟨rfl, Below.refl _ _, fun h => by simp [Array.getD_eq_getD_getElem?] at h, fun h => by simp [Array.getD_eq_getD_getElem?] at h, fun h => by simp [Array.getD_eq_getD_getElem?] at h, fun h => by simp [Array.getD_eq_getD_getElem?] at h, fun h => by simp [Array.getD_eq_getD_getElem?] at h, fun h => by simp [Array.getD_eq_getD_getElem?] at h, fun h => by simp [Array.getD_eq_getD_getElem?] at h, fun h => by simp [Array.getD_eq_getD_getElem?] at h, fun h => by simp [Array.getD_eq_getD_getElem?] at h, fun h => by simp [Array.getD_eq_getD_getElem?] at h, fun h => by simp [Array.getD_eq_getD_getElem?] at h, fun h => by simp [Array.getD_eq_getD_getElem?] at h, fun h => by simp [Array.getD_eq_getD_getElem?] at h⟩⟩
  case step =>
    intro i L a W hi hdep hL hs hcl hI
    have hi2 : i < 13 := by simpa using hi
    obtain ⟨x0, x1, x2, x3, x4, x5, x6, x7, x8, x9, x10, x11, x12, x13, x14, rfl, H⟩ := hI
    have ol : ∀ j, i ≠ j → (L.setIfInBounds i true).getD j false = true → L.getD j false = true := fun j hj h => by rwa [getD_set hj] at h
    rcases (by omega : i = 0 ∨ i = 1 ∨ i = 2 ∨ i = 3 ∨ i = 4 ∨ i = 5 ∨ i = 6 ∨ i = 7 ∨ i = 8 ∨ i = 9 ∨ i = 10 ∨ i = 11 ∨ i = 12) with rfl | rfl | rfl | rfl | rfl | rfl | rfl | rfl | rfl | rfl | rfl | rfl | rfl
    · clear hi hi2
      have e := H.k1
      subst e
      exact step_run (i := 0) (w' := W) (v := .pointer (some ⟨w.heap.size, 1, none⟩)) rfl rfl (by simp [execOp, Act.eval, go_sem]) ⟨_, _, _, _, _, _, _, _, _, _, _, _, _, _, _, rfl, ⟨(H.k1), (H.m1), (fun _ => rfl), (fun h => H.h1 (ol 1 (by decide) h)), (fun h => H.h2 (ol 2 (by decide) h)), (fun h => H.h3 (ol 3 (by decide) h)), (fun h => H.h4 (ol 4 (by decide) h)), (fun h => H.h5 (ol 5 (by decide) h)), (fun h => H.h6 (ol 6 (by decide) h)), (fun h => H.h7 (ol 7 (by decide) h)), (fun h => H.h8 (ol 8 (by decide) h)), (fun h => H.h9 (ol 9 (by decide) h)), (fun h => H.h10 (ol 10 (by decide) h)), (fun h => H.h11 (ol 11 (by decide) h)), (fun h => H.h12 (ol 12 (by decide) h))⟩⟩
    · clear hi hi2
      have e := H.h0 (hdep 0 (memOf (by kernel_rfl)))
      subst e
      have c := ((hbl.below H.m1 hlt).cell 1).trans (show _ = some (.int .i64 R) from rfl)
      exact step_run (i := 1) (w' := W) (v := .int .i64 R) rfl rfl (by simp [execOp, Act.eval, go_sem, c]) ⟨_, _, _, _, _, _, _, _, _, _, _, _, _, _, _, rfl, ⟨(H.k1), (H.m1), (fun h => H.h0 (ol 0 (by decide) h)), (fun _ => rfl), (fun h => H.h2 (ol 2 (by decide) h)), (fun h => H.h3 (ol 3 (by decide) h)), (fun h => H.h4 (ol 4 (by decide) h)), (fun h => H.h5 (ol 5 (by decide) h)), (fun h => H.h6 (ol 6 (by decide) h)), (fun h => H.h7 (ol 7 (by decide) h)), (fun h => H.h8 (ol 8 (by decide) h)), (fun h => H.h9 (ol 9 (by decide) h)), (fun h => H.h10 (ol 10 (by decide) h)), (fun h => H.h11 (ol 11 (by decide) h)), (fun h => H.h12 (ol 12 (by decide) h))⟩⟩
    · clear hi hi2
      have e := H.h1 (hdep 1 (memOf (by kernel_rfl)))
      subst e
      refine step_call (i := 2) (f := 11) (args := #[.int .i64 R]) rfl rfl (by simp [execOp, Act.eval, go_sem]) (new_any R W) ?_
      rintro e W2 ⟨rfl, rfl⟩
      have hb : Below W.heap.size W (W.alloc (.cells (hp R nilS 0) 57)) := (Below.refl _ W).alloc (Nat.le_refl _) _
      exact ⟨_, rfl, ⟨_, _, _, _, _, _, _, _, _, _, _, _, _, _, _, rfl, ⟨(H.k1), (H.m1.trans (hb.mono H.m1.size)), (fun h => H.h0 (ol 0 (by decide) h)), (fun h => H.h1 (ol 1 (by decide) h)), (fun _ => ⟨_, rfl, H.m1.size, Blk.new W _ _⟩), (fun h => H.h3 (ol 3 (by decide) h)), (fun h => H.h4 (ol 4 (by decide) h)), (fun h => H.h5 (ol 5 (by decide) h)), (fun h => H.h6 (ol 6 (by decide) h)), (fun h => H.h7 (ol 7 (by decide) h)), (fun h => H.h8 (ol 8 (by decide) h)), (fun h => H.h9 (ol 9 (by decide) h)), (fun h => (not_yet hL (hcl 10 (by simp) (ol 10 (by decide) h) 2 (memOf (by kernel_rfl)))).elim), (fun h => (not_yet hL (hcl 10 (by simp) (hcl 11 (by simp) (ol 11 (by decide) h) 10 (memOf (by kernel_rfl))) 2 (memOf (by kernel_rfl)))).elim), (fun h => H.h12 (ol 12 (by decide) h))⟩⟩⟩
    · clear hi hi2
      have e := H.k1
      subst e
      exact step_run (i := 3) (w' := W) (v := .pointer (some ⟨w.heap.size, 0, none⟩)) rfl rfl (by simp [execOp, Act.eval, go_sem]) ⟨_, _, _, _, _, _, _, _, _, _, _, _, _, _, _, rfl, ⟨(H.k1), (H.m1), (fun h => H.h0 (ol 0 (by decide) h)), (fun h => H.h1 (ol 1 (by decide) h)), (fun h => H.h2 (ol 2 (by decide) h)), (fun _ => rfl), (fun h => H.h4 (ol 4 (by decide) h)), (fun h => H.h5 (ol 5 (by decide) h)), (fun h => H.h6 (ol 6 (by decide) h)), (fun h => H.h7 (ol 7 (by decide) h)), (fun h => H.h8 (ol 8 (by decide) h)), (fun h => H.h9 (ol 9 (by decide) h)), (fun h => H.h10 (ol 10 (by decide) h)), (fun h => H.h11 (ol 11 (by decide) h)), (fun h => H.h12 (ol 12 (by decide) h))⟩⟩
    · clear hi hi2
      have e := H.h3 (hdep 3 (memOf (by kernel_rfl)))
      subst e
      have c := ((hbl.below H.m1 hlt).cell 0).trans (show _ = some (.int .i64 F) from rfl)
      exact step_run (i := 4) (w' := W) (v := .int .i64 F) rfl rfl (by simp [execOp, Act.eval, go_sem, c]) ⟨_, _, _, _, _, _, _, _, _, _, _, _, _, _, _, rfl, ⟨(H.k1), (H.m1), (fun h => H.h0 (ol 0 (by decide) h)), (fun h => H.h1 (ol 1 (by decide) h)), (fun h => H.h2 (ol 2 (by decide) h)), (fun h => H.h3 (ol 3 (by decide) h)), (fun _ => rfl), (fun h => H.h5 (ol 5 (by decide) h)), (fun h => H.h6 (ol 6 (by decide) h)), (fun h => H.h7 (ol 7 (by decide) h)), (fun h => H.h8 (ol 8 (by decide) h)), (fun h => H.h9 (ol 9 (by decide) h)), (fun h => H.h10 (ol 10 (by decide) h)), (fun h => H.h11 (ol 11 (by decide) h)), (fun h => H.h12 (ol 12 (by decide) h))⟩⟩
    · clear hi hi2
      have e := H.h4 (hdep 4 (memOf (by kernel_rfl)))
      subst e
      exact step_run (i := 5) (w' := W) (v := .int .i64 (max F 0)) rfl rfl (by simp [execOp, Act.eval, go_sem, maxz]) ⟨_, _, _, _, _, _, _, _, _, _, _, _, _, _, _, rfl, ⟨(H.k1), (H.m1), (fun h => H.h0 (ol 0 (by decide) h)), (fun h => H.h1 (ol 1 (by decide) h)), (fun h => H.h2 (ol 2 (by decide) h)), (fun h => H.h3 (ol 3 (by decide) h)), (fun h => H.h4 (ol 4 (by decide) h)), (fun _ => rfl), (fun h => H.h6 (ol 6 (by decide) h)), (fun h => H.h7 (ol 7 (by decide) h)), (fun h => H.h8 (ol 8 (by decide) h)), (fun h => H.h9 (ol 9 (by decide) h)), (fun h => H.h10 (ol 10 (by decide) h)), (fun h => H.h11 (ol 11 (by decide) h)), (fun h => H.h12 (ol 12 (by decide) h))⟩⟩
    · clear hi hi2
      have e := H.k1
      subst e
      exact step_run (i := 6) (w' := W) (v := .pointer (some ⟨w.heap.size, 2, none⟩)) rfl rfl (by simp [execOp, Act.eval, go_sem]) ⟨_, _, _, _, _, _, _, _, _, _, _, _, _, _, _, rfl, ⟨(H.k1), (H.m1), (fun h => H.h0 (ol 0 (by decide) h)), (fun h => H.h1 (ol 1 (by decide) h)), (fun h => H.h2 (ol 2 (by decide) h)), (fun h => H.h3 (ol 3 (by decide) h)), (fun h => H.h4 (ol 4 (by decide) h)), (fun h => H.h5 (ol 5 (by decide) h)), (fun _ => rfl), (fun h => H.h7 (ol 7 (by decide) h)), (fun h => H.h8 (ol 8 (by decide) h)), (fun h => H.h9 (ol 9 (by decide) h)), (fun h => H.h10 (ol 10 (by decide) h)), (fun h => H.h11 (ol 11 (by decide) h)), (fun h => H.h12 (ol 12 (by decide) h))⟩⟩
    · clear hi hi2
      have e := H.h6 (hdep 6 (memOf (by kernel_rfl)))
      subst e
      have c := ((hbl.below H.m1 hlt).cell 2).trans (show _ = some (.int .i64 D) from rfl)
      exact step_run (i := 7) (w' := W) (v := .int .i64 D) rfl rfl (by simp [execOp, Act.eval, go_sem, c]) ⟨_, _, _, _, _, _, _, _, _, _, _, _, _, _, _, rfl, ⟨(H.k1), (H.m1), (fun h => H.h0 (ol 0 (by decide) h)), (fun h => H.h1 (ol 1 (by decide) h)), (fun h => H.h2 (ol 2 (by decide) h)), (fun h => H.h3 (ol 3 (by decide) h)), (fun h => H.h4 (ol 4 (by decide) h)), (fun h => H.h5 (ol 5 (by decide) h)), (fun h => H.h6 (ol 6 (by decide) h)), (fun _ => rfl), (fun h => H.h8 (ol 8 (by decide) h)), (fun h => H.h9 (ol 9 (by decide) h)), (fun h => H.h10 (ol 10 (by decide) h)), (fun h => H.h11 (ol 11 (by decide) h)), (fun h => H.h12 (ol 12 (by decide) h))⟩⟩
    · clear hi hi2
      have e := H.h7 (hdep 7 (memOf (by kernel_rfl)))
      subst e
      exact step_run (i := 8) (w' := W) (v := .int .i64 (max D 0)) rfl rfl (by simp [execOp, Act.eval, go_sem, maxz]) ⟨_, _, _, _, _, _, _, _, _, _, _, _, _, _, _, rfl, ⟨(H.k1), (H.m1), (fun h => H.h0 (ol 0 (by decide) h)), (fun h => H.h1 (ol 1 (by decide) h)), (fun h => H.h2 (ol 2 (by decide) h)), (fun h => H.h3 (ol 3 (by decide) h)), (fun h => H.h4 (ol 4 (by decide) h)), (fun h => H.h5 (ol 5 (by decide) h)), (fun h => H.h6 (ol 6 (by decide) h)), (fun h => H.h7 (ol 7 (by decide) h)), (fun _ => rfl), (fun h => H.h9 (ol 9 (by decide) h)), (fun h => H.h10 (ol 10 (by decide) h)), (fun h => H.h11 (ol 11 (by decide) h)), (fun h => H.h12 (ol 12 (by decide) h))⟩⟩
    · clear hi hi2
      have e := H.h8 (hdep 8 (memOf (by kernel_rfl)))
      subst e
      exact step_run (i := 9) (w' := W) (v := .int .i64 (min (max D 0) 1000)) rfl rfl (by simp [execOp, Act.eval, go_sem, minz]) ⟨_, _, _, _, _, _, _, _, _, _, _, _, _, _, _, rfl, ⟨(H.k1), (H.m1), (fun h => H.h0 (ol 0 (by decide) h)), (fun h => H.h1 (ol 1 (by decide) h)), (fun h => H.h2 (ol 2 (by decide) h)), (fun h => H.h3 (ol 3 (by decide) h)), (fun h => H.h4 (ol 4 (by decide) h)), (fun h => H.h5 (ol 5 (by decide) h)), (fun h => H.h6 (ol 6 (by decide) h)), (fun h => H.h7 (ol 7 (by decide) h)), (fun h => H.h8 (ol 8 (by decide) h)), (fun _ => rfl), (fun h => H.h10 (ol 10 (by decide) h)), (fun h => H.h11 (ol 11 (by decide) h)), (fun h => H.h12 (ol 12 (by decide) h))⟩⟩
    · clear hi hi2
      have e5 := H.h2 (hdep 2 (memOf (by kernel_rfl)))
      have e8 := H.h5 (hdep 5 (memOf (by kernel_rfl)))
      have e12 := H.h9 (hdep 9 (memOf (by kernel_rfl)))
      obtain ⟨g, e5, hg1, hg2⟩ := e5
      subst e5 e8 e12
      have hbd := run_bdW W g (max F 0) (min (max D 0) 1000)
      exact step_run (i := 10) (w' := W) (v := .agg (wcs g .nilIface (max F 0) (min (max D 0) 1000) 0 0 nilS)) rfl rfl (by simp [execOp, Act.eval, go_sem, hbd]) ⟨_, _, _, _, _, _, _, _, _, _, _, _, _, _, _, rfl, ⟨(H.k1), (H.m1), (fun h => H.h0 (ol 0 (by decide) h)), (fun h => H.h1 (ol 1 (by decide) h)), (fun h => H.h2 (ol 2 (by decide) h)), (fun h => H.h3 (ol 3 (by decide) h)), (fun h => H.h4 (ol 4 (by decide) h)), (fun h => H.h5 (ol 5 (by decide) h)), (fun h => H.h6 (ol 6 (by decide) h)), (fun h => H.h7 (ol 7 (by decide) h)), (fun h => H.h8 (ol 8 (by decide) h)), (fun h => H.h9 (ol 9 (by decide) h)), (fun _ => ⟨g, rfl, rfl⟩), (fun h => H.h11 (ol 11 (by decide) h)), (fun h => H.h12 (ol 12 (by decide) h))⟩⟩
    · clear hi hi2
      have e13 := H.h10 (hdep 10 (memOf (by kernel_rfl)))
      obtain ⟨g, e5, e13⟩ := e13
      subst e5 e13
      have hb : Below W.heap.size W (W.alloc (.cells (wcs g .nilIface (max F 0) (min (max D 0) 1000) 0 0 nilS) 44)) := (Below.refl _ W).alloc (Nat.le_refl _) _
      exact step_run (i := 11) (w' := (W.alloc (.cells (wcs g .nilIface (max F 0) (min (max D 0) 1000) 0 0 nilS) 44))) (v := ptr W.heap.size) rfl rfl (by simp [execOp, Act.eval, go_sem]) ⟨_, _, _, _, _, _, _, _, _, _, _, _, _, _, _, rfl, ⟨(H.k1), (H.m1.trans (hb.mono H.m1.size)), (fun h => H.h0 (ol 0 (by decide) h)), (fun h => H.h1 (ol 1 (by decide) h)), (fun h => let ⟨g, q1, q2, q3⟩ := H.h2 (ol 2 (by decide) h); ⟨g, q1, q2, q3.call hb⟩), (fun h => H.h3 (ol 3 (by decide) h)), (fun h => H.h4 (ol 4 (by decide) h)), (fun h => H.h5 (ol 5 (by decide) h)), (fun h => H.h6 (ol 6 (by decide) h)), (fun h => H.h7 (ol 7 (by decide) h)), (fun h => H.h8 (ol 8 (by decide) h)), (fun h => H.h9 (ol 9 (by decide) h)), (fun h => H.h10 (ol 10 (by decide) h)), (fun _ => ⟨_, g, rfl, rfl, H.m1.size, Blk.new W _ _⟩), (fun h => (not_yet hL (hcl 12 (by simp) (ol 12 (by decide) h) 11 (memOf (by kernel_rfl)))).elim)⟩⟩
    · clear hi hi2
      have e14 := H.h11 (hdep 11 (memOf (by kernel_rfl)))
      exact step_run (i := 12) (w' := W) (v := x14) rfl rfl (by simp [execOp, Act.eval, go_sem]) ⟨_, _, _, _, _, _, _, _, _, _, _, _, _, _, _, rfl, ⟨(H.k1), (H.m1), (fun h => H.h0 (ol 0 (by decide) h)), (fun h => H.h1 (ol 1 (by decide) h)), (fun h => H.h2 (ol 2 (by decide) h)), (fun h => H.h3 (ol 3 (by decide) h)), (fun h => H.h4 (ol 4 (by decide) h)), (fun h => H.h5 (ol 5 (by decide) h)), (fun h => H.h6 (ol 6 (by decide) h)), (fun h => H.h7 (ol 7 (by decide) h)), (fun h => H.h8 (ol 8 (by decide) h)), (fun h => H.h9 (ol 9 (by decide) h)), (fun h => H.h10 (ol 10 (by decide) h)), (fun h => H.h11 (ol 11 (by decide) h)), (fun _ => rfl)⟩⟩
  case done =>
    rintro L a W hall ⟨x0, x1, x2, x3, x4, x5, x6, x7, x8, x9, x10, x11, x12, x13, x14, rfl, H⟩
    obtain ⟨b, g, e14, e5, hb1, hb2⟩ := H.h11 (hall 11 (by simp))
    obtain ⟨g2, e52, hg1, hg2⟩ := H.h2 (hall 2 (by simp))
    have e2 := H.h12 (hall 12 (by simp))
    rw [e5] at e52
    obtain rfl : g = g2 := by injection e52 with e; injection e with e; injection e
    subst e5 e2 e14
    have HM := Lib.hid H.m1
    have HB1 := Lib.hid b1
    have HX := Lib.hid (show NewPost w F R D (.returned (ptr b)) W from ⟨b, g, rfl, hb2, hg2, by have : w1.heap.size ≤ b := hb1; omega, by have : w1.heap.size ≤ g := hg1; omega, b1.drew.trans (H.m1.mono (by show w.heap.size ≤ w1.heap.size; omega))⟩)
    clear H hb1 hb2 hg1 hg2 hall hbl b1 hw1
    go_wp2
    go_ret
    exact HX.out
end Go.Proofs.YtoakiejpmcgdjaaGreatDoor.Mo
