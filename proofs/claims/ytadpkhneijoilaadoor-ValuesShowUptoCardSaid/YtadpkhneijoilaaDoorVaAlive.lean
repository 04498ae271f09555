/-
  The document's example.
-/
import Derived.Test.YtadpkhneijoilaaDoorVaNum
namespace Go.Proofs.YtadpkhneijoilaaDoor.Vals
open Go.RowKit
set_option linter.unusedVariables false

theorem quote_ex : quoteL ⟨#[97, 34]⟩ = [34, 97, 92, 117, 48, 48, 50, 50, 34] := by decide +kernel

set_option maxHeartbeats 1000000 in
set_option maxRecDepth 100000 in
theorem alive_any (w : World) (hT : Lt w) : Calls Tryd.prog 8 #[] w fun e w' => e = .returned (.bool true) ∧ Below w.heap.size w w' := by
  have hs : ∀ w, Lt w → Calls Tryd.prog 20 #[V 4 0 ⟨#[97, 34]⟩, .bool false] w fun e w' => e = .returned (.string ⟨#[34, 97, 92, 117, 48, 48, 50, 50, 34]⟩) ∧ Below w.heap.size w w' := fun w hT => by
    have := show_4 0 ⟨#[97, 34]⟩ false (by decide) w hT
    rw [quote_ex] at this
    exact this
  have ht : ∀ w, Calls Tryd.prog 16 #[V 3 1 ⟨#[]⟩] w fun e w' => e = .returned (.bool true) ∧ Below w.heap.size w w' := fun w => truth_3 1 ⟨#[]⟩ w
  have HS := Lib.hid hs
  have HT := Lib.hid ht
  clear hs ht
  go_enter Tryd.func8, Tryd.ntmps8
  go_wp2_with (first | (go_at_call 20; refine (HS.out _ hT).mono ?_; rintro e w1 ⟨rfl, hb⟩) | (go_at_call 16; refine (HT.out _).mono ?_; rintro e w2 ⟨rfl, hb2⟩))
  go_ret
  exact ⟨rfl, bnext hb hb2⟩
end Go.Proofs.YtadpkhneijoilaaDoor.Vals
