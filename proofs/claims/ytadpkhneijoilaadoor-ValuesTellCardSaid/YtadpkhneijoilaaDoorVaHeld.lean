/-
  Cells that a region reads, kept over calls that only make memory.
-/
import Derived.Test.YtadpkhneijoilaaDoorVaAlive
import Derived.Deep.RegionHeld3
namespace Go.Proofs.YtadpkhneijoilaaDoor.Vals
open Go.RowKit
set_option linter.unusedVariables false

theorem cell_keep {w w' : World} {a : Addr} {v : Value} (hb : Below w.heap.size w w') (h : w.cell? a = some v) : w'.cell? a = some v :=
  (hb.cell (World.block_lt_of_cell? w _ h)).trans h
theorem bel_keep {w0 w w' : World} (hb : Below w.heap.size w w') (h : Below w0.heap.size w0 w) : Below w0.heap.size w0 w' := h.trans (hb.mono h.size)
theorem three_cells {w1 W : World} {A B C : Array Value} {ta tb tc : TypeId} (h : ((w1.alloc (.cells A ta)).alloc (.cells B tb)).alloc (.cells C tc) = W) :
    (∀ i, W.cell? ⟨w1.heap.size, i, none⟩ = A[i]?) ∧ (∀ i, W.cell? ⟨w1.heap.size + 1, i, none⟩ = B[i]?) ∧ (∀ i, W.cell? ⟨w1.heap.size + 2, i, none⟩ = C[i]?) := by
  subst h
  have e1 : (w1.alloc (.cells A ta)).heap.size = w1.heap.size + 1 := by simp
  have e2 : ((w1.alloc (.cells A ta)).alloc (.cells B tb)).heap.size = w1.heap.size + 2 := by simp
  refine ⟨fun i => ?_, fun i => ?_, fun i => ?_⟩
  · exact Lib.cell_of_heap ((heap_alloc_old _ _ (by omega)).trans ((heap_alloc_old _ _ (by omega)).trans (heap_alloc_new w1 _))) i
  · have := heap_alloc_new (w1.alloc (.cells A ta)) (.cells B tb)
    rw [e1] at this
    exact Lib.cell_of_heap ((heap_alloc_old _ _ (by omega)).trans this) i
  · have := heap_alloc_new ((w1.alloc (.cells A ta)).alloc (.cells B tb)) (.cells C tc)
    rw [e2] at this
    exact Lib.cell_of_heap this i
end Go.Proofs.YtadpkhneijoilaaDoor.Vals
