/-
  LexWords.
-/
import Derived.Test.YtlboaldikgonoaaDoorLxRw
namespace Go.Proofs.YtlboaldikgonoaaDoor.Lx
open Go Go.RowKit Go.Proofs.YtlboaldikgonoaaDoor.Uni
set_option linter.unusedVariables false

set_option maxHeartbeats 1000000 in
theorem lawWords_walk (s : ByteArray) (w : World) (hF : Fa w) (h7 : 7 ≤ w.heap.size) : Calls Tryd.prog 3 #[.string s] w fun e w' => e = .returned (.bool true) ∧ Below w.heap.size w w' := by
  have hal := alive_any w hF h7
  obtain ⟨k, hk⟩ : ∃ k, wordF s.toList = k := ⟨_, rfl⟩
  have hw1 := fun w => word_any s w
  have hw2 := fun w => rword_any s w
  rw [hk] at hw1 hw2
  clear hk hF
  go_enter Tryd.func3, Tryd.ntmps3
  go_wp2_with (first | (go_at_call 9; refine hal.mono ?_; rintro e w1 ⟨rfl, hb1⟩) | (go_at_call 10; refine (hw1 _).mono ?_; rintro e w2 ⟨rfl, rfl⟩) | (go_at_call 11; refine (hw2 _).mono ?_; rintro e w3 ⟨rfl, hb3⟩))
  go_ret
  exact ⟨by simp, hb1.trans (hb3.mono hb1.size)⟩
end Go.Proofs.YtlboaldikgonoaaDoor.Lx
