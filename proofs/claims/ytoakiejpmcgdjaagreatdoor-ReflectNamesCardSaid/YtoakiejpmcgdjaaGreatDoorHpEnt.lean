/-
  entries: the list of a ring's properties.
-/
import Derived.Test.YtoakiejpmcgdjaaGreatDoorHpSeq
import Derived.Deep.RegionWith
namespace Go.Proofs.YtoakiejpmcgdjaaGreatDoor.Hp
open Go Go.RowKit Go.Maps Go.Shelf Go.Proofs.YtoakiejpmcgdjaaGreatDoor.Keys
set_option linter.unusedVariables false
set_option linter.unusedSimpArgs false
attribute [local go_sem ↓] ldE bxE alE stE to_bsE
attribute [local irreducible] ecs ncs hcs
attribute [local go_sem] run_bx run_alE run_stE run_bsE ecs_0 ecs_1

theorem MapIs.length {w : World} {m n : Nat} {f : KV → Option Nat} (h : MapIs w m n f) : ∃ c : Nat, c ≤ n ∧ ∀ (w' : World) (ty : TypeId), w'.heap[m]? = w.heap[m]? → (Builtin.len_ #[159] ty #[.map (some m)]).run Tryz.prog w' = .ok (.int .i64 c) w' := by
  obtain ⟨D, hd, hf⟩ := h
  refine ⟨Maps.size D, hd.size_le, fun w' ty he => ?_⟩
  have hd' : w'.ownsMap Tryz.prog 69 Rp m n D := by
    obtain ⟨es, c, ho, hr⟩ := hd
    exact ⟨es, c, he.trans ho, hr⟩
  exact hd'.len Tryz.underlying159 ty
set_option maxRecDepth 100000 in
set_option maxHeartbeats 4000000 in
theorem entries_any (pb mb n : Nat) (ns : List Nd) (w : World) (h : Obj1 w pb mb n ns) (hn : n ≤ 1000) (hlen : ns.length ≤ 100) : Calls Tryz.prog 175 #[ptr pb] w (SeqPost w w.heap.size (ns.map (·.e))) := by
  obtain ⟨c, hcn, hlenf⟩ := h.map.length
  have hr := h.ring
  have hlt := hr.lt
  obtain ⟨W1, hW1⟩ : ∃ W1, w.alloc (.cells #[.pointer (some ⟨pb, 0, none⟩)] 152) = W1 := ⟨_, rfl⟩
  obtain ⟨W2, hW2⟩ : ∃ W2, w.alloc (.cells (mkE c) 83) = W2 := ⟨_, rfl⟩
  obtain ⟨W12, hW12⟩ : ∃ W12, W1.alloc (.cells (mkE c) 83) = W12 := ⟨_, rfl⟩
  obtain ⟨W21, hW21⟩ : ∃ W21, W2.alloc (.cells #[.pointer (some ⟨pb, 0, none⟩)] 152) = W21 := ⟨_, rfl⟩
  have k1 : W1.heap.size = w.heap.size + 1 := by rw [← hW1]; simp
  have k2 : W2.heap.size = w.heap.size + 1 := by rw [← hW2]; simp
  have b1 : Below w.heap.size w W1 := by rw [← hW1]; exact (Below.refl _ w).alloc (Nat.le_refl _) _
  have b2 : Below w.heap.size w W2 := by rw [← hW2]; exact (Below.refl _ w).alloc (Nat.le_refl _) _
  have b12 : Below w.heap.size w W12 := by rw [← hW12]; exact b1.alloc (by omega) _
  have b21 : Below w.heap.size w W21 := by rw [← hW21]; exact b2.alloc (by omega) _
  have x1 : Blk W1 w.heap.size #[ptr pb] 152 := by rw [← hW1]; exact Blk.new w _ _
  have x12 : Blk W12 w.heap.size #[ptr pb] 152 := by rw [← hW12]; exact x1.old _
  have x21 : Blk W21 (w.heap.size + 1) #[ptr pb] 152 := by
    have := Blk.new W2 #[ptr pb] 152
    rw [k2] at this
    rw [← hW21]; exact this
  have o2 : W2.ownsRow w.heap.size 83 20 (.slice (some ⟨w.heap.size, 0, none⟩) 0 c) 0 [] := by rw [← hW2]; exact mkE_own w c _ (by omega) (Nat.le_refl _)
  have o21 : W21.ownsRow w.heap.size 83 20 (.slice (some ⟨w.heap.size, 0, none⟩) 0 c) 0 [] := by rw [← hW21]; exact o2.alloc _
  have o12 : W12.ownsRow w.heap.size 83 20 (.slice (some ⟨w.heap.size + 1, 0, none⟩) 0 c) 0 [] := by
    have := mkE_own W1 c w.heap.size (by omega) (by omega)
    rw [k1] at this
    rw [← hW12]; exact this
  have s12 : w.heap.size ≤ W12.heap.size := b12.size
  have s21 : w.heap.size ≤ W21.heap.size := b21.size
  have A1 : Hid (Calls Tryz.prog 195 #[.slice (some ⟨w.heap.size, 0, none⟩) 0 c, .func (.func 198) #[] #[.pointer (some ⟨w.heap.size + 1, 0, none⟩)]] W21.drew (SeqPost W21.drew w.heap.size (ns.map (·.e)))) :=
    seq_any w.heap.size (w.heap.size + 1) pb mb ns w.heap.size c W21.drew hlen hlt s21 x21.drew ((hr.call (b21.mono (Nat.le_refl _))).call (Below.refl _ W21).drew) o21.drew
  have A2 : Hid (Calls Tryz.prog 195 #[.slice (some ⟨w.heap.size + 1, 0, none⟩) 0 c, .func (.func 198) #[] #[.pointer (some ⟨w.heap.size, 0, none⟩)]] W12.drew (SeqPost W12.drew w.heap.size (ns.map (·.e)))) :=
    seq_any w.heap.size w.heap.size pb mb ns (w.heap.size + 1) c W12.drew hlen hlt s12 x12.drew ((hr.call (b12.mono (Nat.le_refl _))).call (Below.refl _ W12).drew) o12.drew
  have c0 : w.cell? ⟨pb, 23, none⟩ = some (.map (some mb)) := by rw [hr.head.cell, hcs_23]
  have c1 : W1.cell? ⟨pb, 23, none⟩ = some (.map (some mb)) := by rw [(hr.head.call b1).cell, hcs_23]
  have l0 := fun ty => hlenf w.drew ty rfl
  have l1 := fun ty => hlenf W1.drew ty (b1.block mb h.map.lt)
  have m0 := run_mkE c (by omega) w.drew
  have m1 := run_mkE c (by omega) W1.drew
  have B12 := Lib.hid b12
  have B21 := Lib.hid b21
  clear hlenf hlt hr h x1 x12 x21 o2 o21 o12 s12 s21 b1 b2 b12 b21
  go_enter Tryz.func175, Tryz.ntmps175
  go_wp2
  go_region_with (first | (go_at_call 180; (with_reducible refine (all_any pb _).mono ?_); rintro e w' ⟨rfl, rfl⟩) | (go_at_call 195; (first | (with_reducible refine A1.out.mono ?_) | (with_reducible refine A2.out.mono ?_)); rintro e w' ⟨v, rfl, hown, hbel⟩))
  all_goals go_wp2
  all_goals go_ret
  all_goals refine ⟨_, rfl, hown, ?_⟩
  all_goals first | exact B12.out.drew.trans hbel | exact B21.out.drew.trans hbel
end Go.Proofs.YtoakiejpmcgdjaaGreatDoor.Hp
