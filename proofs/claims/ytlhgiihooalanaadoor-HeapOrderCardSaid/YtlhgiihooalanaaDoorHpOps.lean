/-
  The heap's own calls around an object's properties.
-/
import Derived.Test.YtlhgiihooalanaaDoorHpKys
import Derived.Test.YtlhgiihooalanaaDoorHpHeap
namespace Go.Proofs.YtlhgiihooalanaaDoor.Hp
open Go Go.RowKit Go.Maps Go.Proofs.YtlhgiihooalanaaDoor.Keys
set_option linter.unusedVariables false
set_option linter.unusedSimpArgs false
section
attribute [local go_sem ↓] ldE ldD alD stD bdDs
attribute [local irreducible] ecs ncs hcs dcs tcs ocs
attribute [local go_sem] run_bx run_alD run_bdDs ecs_0 ecs_1 ocs_24
set_option maxRecDepth 100000 in
set_option maxHeartbeats 2000000 in
theorem hput (hb g ob pb n c : Nat) (room sy : Int) (th : Th) (k : KV) (d : Ds) (w : World) (h : Blk w hb (hp room (.slice (some ⟨g, 0, none⟩) n c) sy) 51) (hn : 0 < n) (hc : w.cell? ⟨g, 0, none⟩ = some (ptr ob)) (hob : Blk w ob (ocs th pb) 57) (Q : World → World → Prop)
    (hp : ∀ w1, Below w.heap.size w w1 → Calls Tryd.prog 17 #[ptr pb, .agg #[.string k.1, .int .i64 k.2], .agg (dcs d)] w1 fun e w' => e = .returned (.tuple #[]) ∧ Q w1 w') :
    Calls Tryd.prog 7 #[ptr hb, .int .i64 0, .agg #[.string k.1, .int .i64 k.2], .agg (dcs d)] w fun e w' => e = .returned (.bool true) ∧ ∃ w1, Below w.heap.size w w1 ∧ Q w1 w' := by
  obtain ⟨W1, hW1⟩ : ∃ W1, w.alloc (.cells #[.string k.1, .int .i64 k.2] 35) = W1 := ⟨_, rfl⟩
  have k1 : W1.heap.size = w.heap.size + 1 := by rw [← hW1]; simp
  obtain ⟨W2, hW2⟩ : ∃ W2, W1.alloc (.cells (dcs d) 38) = W2 := ⟨_, rfl⟩
  have b2 : Below w.heap.size w W2 := by rw [← hW2, ← hW1]; exact ((Below.refl _ w).alloc (Nat.le_refl _) _).alloc (by simp) _
  have y2 : Blk W2 w.heap.size #[.string k.1, .int .i64 k.2] 35 := by rw [← hW2, ← hW1]; exact (Blk.new w _ _).old _
  have z2 : Blk W2 (w.heap.size + 1) (dcs d) 38 := by
    have := Blk.new W1 (dcs d) 38
    rw [hW2, k1] at this
    exact this
  have l0 := y2.cell 0
  have l1 := y2.cell 1
  have ld := run_ldMid (w := W2) (b := w.heap.size + 1) (o := 0) (d := d) (fun j v hv => by rw [Nat.zero_add]; exact (z2.cell j).trans (by simpa using hv))
  have ldd := run_ldMid (w := W2.drew) (b := w.heap.size + 1) (o := 0) (d := d) (fun j v hv => by rw [Nat.zero_add]; exact (z2.cell j).trans (by simpa using hv))
  have c24 : W2.cell? ⟨ob, 24, none⟩ = some (ptr pb) := by rw [(hob.call b2).cell, ocs_24]
  have hobj := object_some hb g ob room n c 0 sy W2 (h.call b2) hn ((b2.cell (World.block_lt_of_cell? w _ hc)).trans hc)
  have B2 := Lib.hid b2
  have P2 := Lib.hid (hp W2 b2)
  have P3 := Lib.hid (hp W2.drew b2.drew)
  clear h hc hob hp y2 z2 b2
  go_enter Tryd.func7, Tryd.ntmps7
  go_wp2_with (go_at_call 16; refine hobj.mono ?_; rintro e w2 ⟨rfl, rfl⟩)
  go_region_with (go_at_call 17; refine P3.out.mono ?_; rintro e w' ⟨rfl, hq⟩)
  all_goals go_wp2
  all_goals go_ret
  all_goals exact ⟨rfl, _, B2.out.drew, hq⟩
set_option maxRecDepth 100000 in
set_option maxHeartbeats 2000000 in
theorem hdrop (hb g ob pb n c : Nat) (room sy : Int) (th : Th) (k : KV) (b : Bool) (w : World) (h : Blk w hb (hp room (.slice (some ⟨g, 0, none⟩) n c) sy) 51) (hn : 0 < n) (hc : w.cell? ⟨g, 0, none⟩ = some (ptr ob)) (hob : Blk w ob (ocs th pb) 57) (Q : World → World → Prop)
    (hp : ∀ w1, Below w.heap.size w w1 → Calls Tryd.prog 21 #[ptr pb, .agg #[.string k.1, .int .i64 k.2]] w1 fun e w' => e = .returned (.bool b) ∧ Q w1 w') :
    Calls Tryd.prog 12 #[ptr hb, .int .i64 0, .agg #[.string k.1, .int .i64 k.2]] w fun e w' => e = .returned (.bool b) ∧ ∃ w1, Below w.heap.size w w1 ∧ Q w1 w' := by
  obtain ⟨W2, hW2⟩ : ∃ W2, w.alloc (.cells #[.string k.1, .int .i64 k.2] 35) = W2 := ⟨_, rfl⟩
  have b2 : Below w.heap.size w W2 := by rw [← hW2]; exact (Below.refl _ w).alloc (Nat.le_refl _) _
  have y2 : Blk W2 w.heap.size #[.string k.1, .int .i64 k.2] 35 := by rw [← hW2]; exact Blk.new w _ _
  have l0 := y2.cell 0
  have l1 := y2.cell 1
  have c24 : W2.cell? ⟨ob, 24, none⟩ = some (ptr pb) := by rw [(hob.call b2).cell, ocs_24]
  have hobj := object_some hb g ob room n c 0 sy W2 (h.call b2) hn ((b2.cell (World.block_lt_of_cell? w _ hc)).trans hc)
  have B2 := Lib.hid b2
  have P2 := Lib.hid (hp W2 b2)
  have P3 := Lib.hid (hp W2.drew b2.drew)
  clear h hc hob hp y2 b2
  go_enter Tryd.func12, Tryd.ntmps12
  go_wp2_with (first | (go_at_call 16; refine hobj.mono ?_; rintro e w2 ⟨rfl, rfl⟩) | (go_at_call 21; refine P2.out.mono ?_; rintro e w' ⟨rfl, hq⟩))
  go_region_with (go_at_call 21; refine P3.out.mono ?_; rintro e w' ⟨rfl, hq⟩)
  all_goals go_wp2
  all_goals go_ret
  all_goals exact ⟨rfl, _, B2.out.drew, hq⟩
end
end Go.Proofs.YtlhgiihooalanaaDoor.Hp
