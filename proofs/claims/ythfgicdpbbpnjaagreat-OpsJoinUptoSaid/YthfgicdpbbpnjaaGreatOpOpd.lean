/-
  Operands: the interface of the operators.
-/
import Derived.Test.YthfgicdpbbpnjaaGreatOpSm
namespace Go.Proofs.YthfgicdpbbpnjaaGreat.Ops
open Go Go.RowKit Go.Proofs.YthfgicdpbbpnjaaGreat.Uni
open Go.Proofs.YthfgicdpbbpnjaaGreat.Vals (bnext ball)
set_option linter.unusedVariables false
set_option linter.unusedSimpArgs false
attribute [local go_sem ↓] ldV stV alV bxV bdV ldO stO alO bxO bdO ldS stS alS bxS bdS
attribute [local irreducible] vcs
attribute [local go_sem] run_bx run_alV run_alO run_alS run_stVg run_stOg run_stSg run_bdV0 run_bdV1 run_bdV2 run_bdV3 run_bdO run_bdS vcs_0 vcs_1 vcs_2
set_option maxRecDepth 100000

/-- A value as an operand: a string as such, or another. -/
def opd (v : Vl) : Value := if v.k = 4 then .iface 52 (.agg (vcs v)) else .iface 50 (.agg (vcs v))
theorem opd_s {v : Vl} (h : v.k = 4) : opd v = .iface 52 (.agg (vcs v)) := if_pos h
theorem opd_o {v : Vl} (h : v.k ≠ 4) : opd v = .iface 50 (.agg (vcs v)) := if_neg h
theorem operand_s (v : Vl) (h : v.k = 4) (w : World) : Calls Tryz.prog 17 #[.agg (vcs v)] w fun e w' => e = .returned (opd v) ∧ Below w.heap.size w w' := by
  have hk : (v.k == 4) = true := by simpa using h
  rw [opd_s h]
  have b1 : Blk (w.alloc (.cells (vcs v) 23)) w.heap.size (vcs v) 23 := Blk.new _ _ _
  have b2 : Blk ((w.alloc (.cells (vcs v) 23)).alloc (.cells (vcs v) 50)) (w.heap.size + 1) (vcs v) 50 := blk_newg (by simp)
  have b3 : Blk ((w.alloc (.cells (vcs v) 23)).alloc (.cells (vcs v) 50)) w.heap.size (vcs v) 23 := b1.old _
  have c3 := b3.cell 0
  rw [vcs_0] at c3
  have l1 := run_ldV b1
  have l2 := run_ldO b2
  clear b1 b2 b3 h
  go_enter Tryz.func17, Tryz.ntmps17
  go_wp2
  go_ret
  exact ⟨rfl, bel2⟩
theorem operand_o (v : Vl) (h : v.k ≠ 4) (w : World) : Calls Tryz.prog 17 #[.agg (vcs v)] w fun e w' => e = .returned (opd v) ∧ Below w.heap.size w w' := by
  have hk : (v.k == 4) = false := by simpa using h
  rw [opd_o h]
  have b1 : Blk (w.alloc (.cells (vcs v) 23)) w.heap.size (vcs v) 23 := Blk.new _ _ _
  have b2 : Blk ((w.alloc (.cells (vcs v) 23)).alloc (.cells (vcs v) 50)) (w.heap.size + 1) (vcs v) 50 := blk_newg (by simp)
  have b3 : Blk ((w.alloc (.cells (vcs v) 23)).alloc (.cells (vcs v) 50)) w.heap.size (vcs v) 23 := b1.old _
  have c3 := b3.cell 0
  rw [vcs_0] at c3
  have l1 := run_ldV b1
  have l2 := run_ldO b2
  clear b1 b2 b3 h
  go_enter Tryz.func17, Tryz.ntmps17
  go_wp2
  go_ret
  exact ⟨rfl, bel2⟩
theorem operand_any (v : Vl) (w : World) : Calls Tryz.prog 17 #[.agg (vcs v)] w fun e w' => e = .returned (opd v) ∧ Below w.heap.size w w' := by
  by_cases h : v.k = 4
  · exact operand_s v h w
  · exact operand_o v h w
/-! Assertions. -/
theorem as_s (v : Value) (w : World) : (Instr.typeAssert (.iface 52 v) 39 52 true).run Tryz.prog w = .ok (.tuple #[v, .bool true]) w := by kernel_rfl
theorem as_o (v : Value) (w : World) : (Instr.typeAssert (.iface 50 v) 39 52 true).run Tryz.prog w = .ok (.tuple #[.agg (vcs zeroV), .bool false]) w := by kernel_rfl
theorem in_s (d : Nat) (v : Vl) (w : World) : (method (d + 1) 52 (.agg (vcs v)) "understudy/ops.number").run Tryz.prog w = .ok (84, .agg (vcs v)) w := by kernel_rfl
theorem in_o (d : Nat) (v : Vl) (w : World) : (method (d + 1) 50 (.agg (vcs v)) "understudy/ops.number").run Tryz.prog w = .ok (84, .agg (vcs v)) w := by kernel_rfl
theorem it_s (d : Nat) (v : Vl) (w : World) : (method (d + 1) 52 (.agg (vcs v)) "understudy/ops.text").run Tryz.prog w = .ok (85, .agg (vcs v)) w := by kernel_rfl
theorem it_o (d : Nat) (v : Vl) (w : World) : (method (d + 1) 50 (.agg (vcs v)) "understudy/ops.text").run Tryz.prog w = .ok (85, .agg (vcs v)) w := by kernel_rfl
theorem isText_s (v : Vl) (h : v.k = 4) (w : World) : Calls Tryz.prog 23 #[opd v] w fun e w' => e = .returned (.bool true) ∧ Below w.heap.size w w' := by
  rw [opd_s h]
  have a1 := as_s (.agg (vcs v))
  clear h
  go_enter Tryz.func23, Tryz.ntmps23
  go_wp2
  go_ret
  exact ⟨rfl, bel1⟩
theorem isText_o (v : Vl) (h : v.k ≠ 4) (w : World) : Calls Tryz.prog 23 #[opd v] w fun e w' => e = .returned (.bool false) ∧ Below w.heap.size w w' := by
  rw [opd_o h]
  have a1 := as_o (.agg (vcs v))
  clear h
  go_enter Tryz.func23, Tryz.ntmps23
  go_wp2
  go_ret
  exact ⟨rfl, bel1⟩
/-- What values.Number gives of v: n and yes, in every world of a class. -/
theorem onum_any (v : Vl) (n : Int) (ok : Bool) (w : World) (R : World → Prop) (h : Hid (∀ w, R w → Calls Tryz.prog 86 #[.agg (vcs v)] w fun e w' => e = .returned (.tuple #[.int .i64 n, .bool ok]) ∧ Below w.heap.size w w')) (hR : R (w.alloc (.cells (vcs v) 50))) :
    Calls Tryz.prog 84 #[.agg (vcs v)] w fun e w' => e = .returned (.tuple #[.int .i64 n, .bool ok]) ∧ Below w.heap.size w w' := by
  have l1 := run_ldV (Blk.new w (vcs v) 50)
  go_enter Tryz.func84, Tryz.ntmps84
  go_wp2_with (go_at_call 86; refine (h.out _ hR).mono ?_)
  rintro e w1 ⟨rfl, hb⟩
  go_wp2
  go_ret2
  exact ⟨rfl, bnext bel1 hb⟩
theorem otext_any (v : Vl) (s : ByteArray) (ok : Bool) (w : World) (R : World → Prop) (h : Hid (∀ w, R w → Calls Tryz.prog 87 #[.agg (vcs v)] w fun e w' => e = .returned (.tuple #[.string s, .bool ok]) ∧ Below w.heap.size w w')) (hR : R (w.alloc (.cells (vcs v) 50))) :
    Calls Tryz.prog 85 #[.agg (vcs v)] w fun e w' => e = .returned (.tuple #[.string s, .bool ok]) ∧ Below w.heap.size w w' := by
  have l1 := run_ldV (Blk.new w (vcs v) 50)
  go_enter Tryz.func85, Tryz.ntmps85
  go_wp2_with (go_at_call 87; refine (h.out _ hR).mono ?_)
  rintro e w1 ⟨rfl, hb⟩
  go_wp2
  go_ret2
  exact ⟨rfl, bnext bel1 hb⟩
end Go.Proofs.YthfgicdpbbpnjaaGreat.Ops
