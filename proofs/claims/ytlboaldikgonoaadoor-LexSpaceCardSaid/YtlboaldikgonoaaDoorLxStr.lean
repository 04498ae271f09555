/-
  A string lexed: the contract of Tokens behind a conversion.
-/
import Derived.Test.YtlboaldikgonoaaDoorLxRw
import Derived.Test.YtlboaldikgonoaaDoorLxPure
import Derived.Lib.SlBytesRow
import Derived.Lib.ConvBytes
namespace Go.Proofs.YtlboaldikgonoaaDoor.Lx
open Go Go.RowKit Go.Proofs.YtlboaldikgonoaaDoor.Uni
set_option linter.unusedVariables false
set_option linter.unusedSimpArgs false

theorem bw_conv (w : World) (s : ByteArray) (cap : Nat) : (convert 25 9 (.slice (some ⟨w.heap.size, 0, none⟩) s.size cap)).run Tryd.prog (Lib.bytesWorld w 5 s) = .ok (.string s) (Lib.bytesWorld w 5 s) :=
  Lib.run_convert_whole (P := Tryd.prog) _ 25 5 9 Tryd.underlying25 Tryd.underlying5 Tryd.underlying9 _ 0 s (fun i hi => by
    rw [Nat.zero_add, Lib.bytesWorld_cell w _ s i hi]
    have e : s.data.toList.getD i 0 = s[i] := by
      rw [List.getD_eq_getElem?_getD, List.getElem?_eq_getElem (by rw [lsz]; exact hi)]
      rfl
    rw [e]) cap
/-- Tokens of a string that has been converted. -/
theorem toks_str (s : ByteArray) (w : World) (hF : Fa w) (h7 : 7 ≤ w.heap.size) (hm : s.size ≤ 9223372036854775807) :
    Calls Tryd.prog 12 #[.slice (some ⟨w.heap.size, 0, none⟩) s.size (grownCap w s.size 0 5)] (Lib.bytesWorld w 5 s) fun e w' => ∃ v, e = .returned (.tuple #[v, .int .i64 ((lexT s).2.1 : Nat), .int .i64 ((lexT s).1 : Nat)]) ∧ w'.ownsRow (w.heap.size + 1) 33 4 v (lexT s).2.2.length (tcells (lexT s).2.2) ∧ Below w.heap.size w w' := by
  refine (toks_any _ _ s _ (hF.below (bw_below w s)) (by rw [Lib.bytesWorld_size]; omega) (bw_conv w s _) hm).mono ?_
  rintro e w' ⟨v, h1, h2, h3⟩
  rw [Lib.bytesWorld_size] at h2 h3
  exact ⟨v, h1, h2, (bw_below w s).trans (h3.mono (by omega))⟩
theorem own_shapeK {w : World} {base e1 : Nat} {v : Value} {n : Nat} {xs : List Value} (h : w.ownsRow base e1 4 v n xs) : ∃ a c, v = .slice a n c := by
  rcases h.2 with ⟨rfl, rfl⟩ | ⟨g, cap, cur, rfl, _⟩
  · exact ⟨none, 0, rfl⟩
  · exact ⟨_, cap, rfl⟩
theorem bnext {w w1 w2 : World} (h1 : Below w.heap.size w w1) (h2 : Below w1.heap.size w1 w2) : Below w.heap.size w w2 := h1.trans (h2.mono h1.size)
end Go.Proofs.YtlboaldikgonoaaDoor.Lx
