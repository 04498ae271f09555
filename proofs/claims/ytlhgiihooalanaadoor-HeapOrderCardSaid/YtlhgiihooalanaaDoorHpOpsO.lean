/-
  Heap.Own.
-/
import Derived.Test.YtlhgiihooalanaaDoorHpGetP
import Derived.Test.YtlhgiihooalanaaDoorHpHeap
namespace Go.Proofs.YtlhgiihooalanaaDoor.Hp
open Go Go.RowKit Go.Maps Go.Proofs.YtlhgiihooalanaaDoor.Keys
set_option linter.unusedVariables false
set_option linter.unusedSimpArgs false
section
attribute [local go_sem ↓] ldE ldD alD stD bdDs
attribute [local irreducible] ecs ncs hcs dcs tcs ocs
attribute [local go_sem] run_bx run_alD run_bdDs ecs_0 ecs_1 ocs_24
set_option maxRecDepth 100000 in
set_option maxHeartbeats 2000000 in
theorem hown (hb g ob pb n c : Nat) (room sy : Int) (th : Th) (k : KV) (d : Ds) (b : Bool) (w : World) (h : Blk w hb (hp room (.slice (some ⟨g, 0, none⟩) n c) sy) 51) (hn : 0 < n) (hc : w.cell? ⟨g, 0, none⟩ = some (ptr ob)) (hob : Blk w ob (ocs th pb) 57)
    (hp : ∀ w1, Below w.heap.size w w1 → Calls Tryd.prog 22 #[ptr pb, .agg #[.string k.1, .int .i64 k.2]] w1 fun e w' => e = .returned (.tuple #[.agg (dcs d), .bool b]) ∧ Below w1.heap.size w1 w') :
    Calls Tryd.prog 13 #[ptr hb, .int .i64 0, .agg #[.string k.1, .int .i64 k.2]] w fun e w' => e = .returned (.tuple #[.agg (dcs d), .bool b]) ∧ Below w.heap.size w w' := by
  obtain ⟨W1, hW1⟩ : ∃ W1, w.alloc (.cells #[.string k.1, .int .i64 k.2] 35) = W1 := ⟨_, rfl⟩
  have k1 : W1.heap.size = w.heap.size + 1 := by rw [← hW1]; simp
  obtain ⟨W2, hW2⟩ : ∃ W2, W1.alloc (.cells (dcs zeroD) 38) = W2 := ⟨_, rfl⟩
  have b2 : Below w.heap.size w W2 := by rw [← hW2, ← hW1]; exact ((Below.refl _ w).alloc (Nat.le_refl _) _).alloc (by simp) _
  have y2 : Blk W2 w.heap.size #[.string k.1, .int .i64 k.2] 35 := by rw [← hW2, ← hW1]; exact (Blk.new w _ _).old _
  have z2 : Blk W2 (w.heap.size + 1) (dcs zeroD) 38 := by
    have := Blk.new W1 (dcs zeroD) 38
    rw [hW2, k1] at this
    exact this
  have s2 : w.heap.size + 2 = W2.heap.size := by rw [← hW2]; simp [k1]
  have l0 := y2.cell 0
  have l1 := y2.cell 1
  have c24 : W2.cell? ⟨ob, 24, none⟩ = some (ptr pb) := by rw [(hob.call b2).cell, ocs_24]
  have hobj := object_some hb g ob room n c 0 sy W2 (h.call b2) hn ((b2.cell (World.block_lt_of_cell? w _ hc)).trans hc)
  have B2 := Lib.hid b2
  have Z2 := Lib.hid z2
  have P2 := Lib.hid (hp W2 b2)
  have P3 := Lib.hid (hp W2.drew b2.drew)
  have HS : Hid (∀ w', Blk w' (w.heap.size + 1) (dcs zeroD) 38 → (St 38 (.pointer (some ⟨w.heap.size + 1, 0, none⟩)) (.agg (dcs d))).run Tryd.prog w' = .ok () (w'.setRow (w.heap.size + 1) (dcs d))) := Lib.hid fun w' hz => run_st_row hz (by rw [dcs_size]; exact sizeD) (by simp only [dcs_size]) (dcs_one _)
  clear h hc hob hp y2 z2 b2
  go_enter Tryd.func13, Tryd.ntmps13
  go_wp2_with (go_at_call 16; refine hobj.mono ?_; rintro e w2 ⟨rfl, rfl⟩)
  go_region_with (go_at_call 22; refine P3.out.mono ?_; rintro e w' ⟨rfl, hq⟩; have hz := Blk.call (w := w2.drew) Z2.out hq; have hst := HS.out w' hz)
  all_goals go_wp2
  all_goals refine bodyPost_ret (res2_D rfl _ _ (w.heap.size + 1) d rfl (hz.row (dcs d))) rfl ?_
  all_goals exact ⟨rfl, (B2.out.drew.trans (hq.mono B2.out.size)).trans ⟨rfl, rfl, rfl, by simp, fun k hk => setRow_other _ _ k _ (by have := B2.out.size; omega)⟩⟩
end
end Go.Proofs.YtlhgiihooalanaaDoor.Hp
