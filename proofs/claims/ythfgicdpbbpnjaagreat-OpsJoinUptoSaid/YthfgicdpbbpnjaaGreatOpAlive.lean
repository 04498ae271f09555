/-
  The example of the document.
-/
import Derived.Test.YthfgicdpbbpnjaaGreatOpAdd
namespace Go.Proofs.YthfgicdpbbpnjaaGreat.Ops
open Go Go.RowKit Go.Proofs.YthfgicdpbbpnjaaGreat.Uni
open Go.Proofs.YthfgicdpbbpnjaaGreat.Vals (bnext ball rightF)
set_option linter.unusedVariables false
def v1 : Vl := ⟨3, 1, ⟨#[]⟩⟩
def va : Vl := ⟨4, 0, ⟨#[97]⟩⟩
def v1a : Vl := ⟨4, 0, ⟨#[49, 97]⟩⟩
theorem rv1 : rV v1 = true := by decide +kernel
theorem rva : rV va = true := by decide +kernel
theorem un1 : (units ⟨#[49]⟩).length = 1 := by decide +kernel
theorem una : (units ⟨#[97]⟩).length = 1 := by decide +kernel
theorem jn1a : jn ⟨#[49]⟩ ⟨#[97]⟩ = ⟨#[49, 97]⟩ := by decide +kernel
theorem eq1a : eqV v1a v1a = true := by decide +kernel
theorem ex_any (w : World) : Calls Tryz.prog 8 #[.string ⟨#[43]⟩, .agg (vcs v1), .agg (vcs va)] w fun e w' => e = .returned (.tuple #[.agg (vcs v1a), .string ⟨#[]⟩]) ∧ Below w.heap.size w w' := by
  have hj := fun w => joined_os v1 va ⟨#[49]⟩ ⟨#[97]⟩ 1 1 (by decide) rfl (txt_1 _) (txt_s _ _) (by decide) (by decide) un1 una (by decide) w
  rw [jn1a] at hj
  exact bin_add v1 va v1a ⟨#[]⟩ rv1 rva (by decide) (by decide) (fun w => added_os v1 va v1a ⟨#[]⟩ (by decide) rfl hj w) w
set_option linter.unusedVariables false
set_option linter.unusedSimpArgs false
attribute [local go_sem ↓] ldV stV alV bxV bdV ldO stO alO bxO bdO ldS stS alS bxS bdS
attribute [local irreducible] vcs
attribute [local go_sem] run_bx run_alV run_alO run_alS run_stVg run_stOg run_stSg run_bdV0 run_bdV1 run_bdV2 run_bdV3 run_bdO run_bdS vcs_0 vcs_1 vcs_2 vcs_st1
set_option maxRecDepth 100000

theorem bd1 (w : World) : (Bd 23 #[(0, .int .i64 3), (1, .int .i64 1)]).run Tryz.prog w = .ok (.agg (vcs v1)) w := run_bdV2 w 3 1
theorem bda (w : World) : (Bd 23 #[(0, .int .i64 4), (2, .string ⟨#[97]⟩)]).run Tryz.prog w = .ok (.agg (vcs va)) w := run_bdV3 w 4 _
theorem bd1a (w : World) : (Bd 23 #[(0, .int .i64 4), (2, .string ⟨#[49, 97]⟩)]).run Tryz.prog w = .ok (.agg (vcs v1a)) w := run_bdV3 w 4 _
attribute [-go_sem] run_bdV2 run_bdV3
attribute [local irreducible] v1 va v1a
theorem alive_any (w : World) : Calls Tryz.prog 6 #[] w fun e w' => e = .returned (.bool true) ∧ Below w.heap.size w w' := by
  have X := Lib.hid (fun w => ex_any w)
  have e1 := run_eqVa v1a v1a true eq1a
  have e2 := bd1
  have e3 := bda
  have e4 := bd1a
  go_enter Tryz.func6, Tryz.ntmps6
  go_wp2_with (go_at_call 8; with_reducible refine (X.out _).mono ?_)
  rintro e w1 ⟨rfl, b1⟩
  have l1 := run_ldV (Blk.new w1 (vcs v1a) 23)
  go_wp2
  go_ret
  exact ⟨rfl, bl_alloc b1⟩
end Go.Proofs.YthfgicdpbbpnjaaGreat.Ops
