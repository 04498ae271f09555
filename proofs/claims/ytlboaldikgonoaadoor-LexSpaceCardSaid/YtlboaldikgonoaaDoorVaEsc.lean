/-
  values.writeEscape.
-/
import Derived.Test.YtlboaldikgonoaaDoorVaHex
import Derived.Test.YtlboaldikgonoaaDoorUnEnc
namespace Go.Proofs.YtlboaldikgonoaaDoor.Vals
open Go.RowKit Go.Proofs.YtlboaldikgonoaaDoor.Uni
set_option linter.unusedVariables false

theorem own_keep {w w' : World} {base e size n : Nat} {v : Value} {xs : List Value} (h : w.ownsRow base e size v n xs) (hb : Below w.heap.size w w') : w'.ownsRow base e size v n xs := by
  refine ⟨h.1, ?_⟩
  rcases h.2 with hn | ⟨g, cap, cur, rfl, hbg, hg, rest⟩
  · exact .inl hn
  · exact .inr ⟨g, cap, cur, rfl, hbg, (hb.block g (lt_of_block hg)).trans hg, rest⟩
theorem bd_keep {w w' : World} {base b : Nat} {bs : List Value} (h : Bd base b bs w) (hb : Below w.heap.size w w') : Bd base b bs w' := by
  obtain ⟨hB, v, hbk, hown, hne⟩ := h
  exact ⟨hB, v, (hb.block b (lt_of_block hbk)).trans hbk, own_keep hown hb, hne⟩

/-- A unit's escape: a backslash, the letter u and four digits. -/
def escL (u : Nat) : List UInt8 := [92, 117] ++ (dsOf u 4).map Nat.toUInt8
theorem strCells_list (l : List UInt8) : Lib.strCells ⟨l.toArray⟩ = Lib.byteCells l := rfl

end Go.Proofs.YtlboaldikgonoaaDoor.Vals
