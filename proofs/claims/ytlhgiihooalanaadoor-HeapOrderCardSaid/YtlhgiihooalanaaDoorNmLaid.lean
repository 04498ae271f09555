/-
  What the listed variables give: the tables and the sentinels of the library.
-/
import Derived.Test.YtlhgiihooalanaaDoorRows
import Derived.Test.YtlhgiihooalanaaDoorNmText
import Derived.Stop.LaidErr
import Derived.Lib.LaidTab
import Derived.LaidMore
import Derived.ProofKit
namespace Go.Proofs.YtlhgiihooalanaaDoor.Nums
open Go.RowKit
set_option linter.unusedVariables false

theorem gPow : Tryd.prog.globalNamed "internal/strconv.uint64pow10" = some 2 := by kernel_rfl
theorem gPowType : (Tryd.prog.globals[2]?).map (·.type) = some 141 := by kernel_rfl
theorem cells48 : Tryd.prog.cellsOf 110 = 1 := by kernel_rfl
theorem cells61 : Tryd.prog.cellsOf 141 = 20 := by kernel_rfl
theorem gSyn : Tryd.prog.globalNamed "strconv.ErrSyntax" = some 0 := by kernel_rfl
theorem gSynType : (Tryd.prog.globals[0]?).map (·.type) = some 96 := by kernel_rfl
theorem gRan : Tryd.prog.globalNamed "strconv.ErrRange" = some 1 := by kernel_rfl
theorem gRanType : (Tryd.prog.globals[1]?).map (·.type) = some 96 := by kernel_rfl
theorem cells70 : Tryd.prog.cellsOf 148 = 1 := by kernel_rfl
theorem cells9 : Tryd.prog.cellsOf 9 = 1 := by kernel_rfl
theorem star : "*" ++ "errors.errorString" = "*errors.errorString" := by decide
theorem row68 (u : TypeId) (h : Tryd.prog.typeName? 3 u = some "*errors.errorString") : u = 146 :=
  typeName_ptr_named (nm := "errors.errorString") (by rw [star]; kernel_rfl) (by kernel_rfl) (by decide) u (by rw [star]; exact h)

theorem lw_of_laid {W : World} (h : laidMetH Tryd.prog Rows.heapOrderRow.laid W) : Lw W := by
  rw [MakeChecks.laidMetH_plain _ _ _ (by kernel_rfl)] at h
  have h3 := h.tail.tail
  have h4 := h3.tail
  obtain ⟨a0, s0, hv0, -, -, -⟩ := laid_sentinel h4 gRan gRanType Tryd.underlying96 row68 Tryd.underlying146 Tryd.underlying148 rfl rfl Tryd.underlying9 cells70 cells9
  obtain ⟨a1, s1, hv1, -, -, -⟩ := laid_sentinel h4.tail gSyn gSynType Tryd.underlying96 row68 Tryd.underlying146 Tryd.underlying148 rfl rfl Tryd.underlying9 cells70 cells9
  exact ⟨Lib.tabIs_of_head gPow gPowType Tryd.underlying141 Tryd.underlying110 cells48 cells61 h3, ⟨_, _, hv1⟩, ⟨_, _, hv0⟩⟩
end Go.Proofs.YtlhgiihooalanaaDoor.Nums
