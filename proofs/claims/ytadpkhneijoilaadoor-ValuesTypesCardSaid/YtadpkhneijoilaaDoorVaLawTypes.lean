/-
  The walk of ValuesTypes, whatever the number.
-/
import Derived.Test.YtadpkhneijoilaaDoorVaTyA
import Derived.Test.YtadpkhneijoilaaDoorVaTyB
namespace Go.Proofs.YtadpkhneijoilaaDoor.Vals
open Go.RowKit
set_option linter.unusedVariables false

theorem three_bel {w w1 : World} (hb1 : Below w.heap.size w w1) (a b c : Obj) : Below w.heap.size w (((w1.alloc a).alloc b).alloc c) :=
  ((hb1.alloc hb1.size _).alloc (by have := hb1.size; simp; omega) _).alloc (by have := hb1.size; simp; omega) _
set_option maxHeartbeats 2000000 in
set_option maxRecDepth 100000 in
theorem lawTypes_lo (n : Int) (hn : n < 0) (w : World) (hT : Lt w) : Calls Tryd.prog 7 #[.int .i64 n] w fun e w' => e = .returned (.bool true) ∧ Below w.heap.size w w' := by
  have HA := Lib.hid (fun w hT => alive_any w hT)
  go_enter Tryd.func7, Tryd.ntmps7
  go_wp2_with (go_at_call 8; refine (HA.out _ hT).mono ?_; rintro e w1 ⟨rfl, hb1⟩)
  go_ret
  exact ⟨rfl, three_bel hb1 _ _ _⟩
set_option maxHeartbeats 2000000 in
set_option maxRecDepth 100000 in
theorem lawTypes_hi (n : Int) (h0 : decide (n < 0) = false) (hn : 10 ≤ n) (w : World) (hT : Lt w) : Calls Tryd.prog 7 #[.int .i64 n] w fun e w' => e = .returned (.bool true) ∧ Below w.heap.size w w' := by
  have HA := Lib.hid (fun w hT => alive_any w hT)
  go_enter Tryd.func7, Tryd.ntmps7
  go_wp2_with (go_at_call 8; refine (HA.out _ hT).mono ?_; rintro e w1 ⟨rfl, hb1⟩)
  go_ret
  exact ⟨rfl, three_bel hb1 _ _ _⟩
theorem lawTypes_walk (n : Int) (w : World) (hT : Lt w) : Calls Tryd.prog 7 #[.int .i64 n] w fun e w' => e = .returned (.bool true) ∧ Below w.heap.size w w' := by
  rcases (by omega : n < 0 ∨ n = 0 ∨ n = 1 ∨ n = 2 ∨ n = 3 ∨ n = 4 ∨ n = 5 ∨ n = 6 ∨ n = 7 ∨ n = 8 ∨ n = 9 ∨ (¬ n < 0 ∧ 10 ≤ n)) with h | rfl | rfl | rfl | rfl | rfl | rfl | rfl | rfl | rfl | rfl | ⟨h, h2⟩
  · exact lawTypes_lo n h w hT
  · exact lawTypes_0 w hT
  · exact lawTypes_1 w hT
  · exact lawTypes_2 w hT
  · exact lawTypes_3 w hT
  · exact lawTypes_4 w hT
  · exact lawTypes_5 w hT
  · exact lawTypes_6 w hT
  · exact lawTypes_7 w hT
  · exact lawTypes_8 w hT
  · exact lawTypes_9 w hT
  · exact lawTypes_hi n (decide_eq_false h) h2 w hT
end Go.Proofs.YtadpkhneijoilaaDoor.Vals
