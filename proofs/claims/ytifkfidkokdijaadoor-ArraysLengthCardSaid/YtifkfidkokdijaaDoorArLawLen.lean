/-
  The statement ArraysLength, walked.
-/
import Derived.Test.YtifkfidkokdijaaDoorArSmall
namespace Go.Proofs.YtifkfidkokdijaaDoor.Arrs
open Go Go.RowKit Go.Maps Go.Proofs.YtifkfidkokdijaaDoor.Nums Go.Proofs.YtifkfidkokdijaaDoor.Keys
set_option linter.unusedVariables false
set_option linter.unusedSimpArgs false
attribute [local go_sem ↓] to_ldE to_alE to_stE to_bsE run_eqE
attribute [local irreducible] ecs zer
attribute [local go_sem] run_alE run_stE run_bsE ecs_0 ecs_1 ecs_10 ecs_19

def LenIs (k n : Int) (s : ByteArray) (m : Int) (ok : Bool) : Prop := ∀ w, Calls Tryd.prog 6 #[.agg #[.int .i64 k, .int .i64 n, .string s]] w fun x w' => x = .returned (.tuple #[.int .i64 m, .bool ok]) ∧ Below w.heap.size w w'
theorem LenIs.at {k n : Int} {s : ByteArray} {m : Int} {ok : Bool} (h : LenIs k n s m ok) {w : World} : Calls Tryd.prog 6 #[.agg #[.int .i64 k, .int .i64 n, .string s]] w fun x w' => x = .returned (.tuple #[.int .i64 m, .bool ok]) ∧ Below w.heap.size w w' := h w
def RlenIs (k n : Int) (s : ByteArray) (m : Int) (ok : Bool) : Prop := ∀ w, Calls Tryd.prog 7 #[.agg #[.int .i64 k, .int .i64 n, .string s]] w fun x w' => x = .returned (.tuple #[.int .i64 m, .bool ok]) ∧ Below w.heap.size w w'
theorem RlenIs.at {k n : Int} {s : ByteArray} {m : Int} {ok : Bool} (h : RlenIs k n s m ok) {w : World} : Calls Tryd.prog 7 #[.agg #[.int .i64 k, .int .i64 n, .string s]] w fun x w' => x = .returned (.tuple #[.int .i64 m, .bool ok]) ∧ Below w.heap.size w w' := h w
theorem blk_lt {w : World} {g i : Nat} {v : Value} (h : w.cell? ⟨g, i, none⟩ = some v) : g < w.heap.size := World.block_lt_of_cell? w ⟨g, i, none⟩ h
set_option maxHeartbeats 1000000 in
theorem lawLength_walk (k n : Int) (s : ByteArray) (w : World) (hL : Lw w) :
    Calls Tryd.prog 3 #[.agg #[.int .i64 k, .int .i64 n, .string s]] w fun x w' => x = .returned (.bool true) ∧ Below w.heap.size w w' := by
  have h1 : LenIs k n s (lenF k n).1 (lenF k n).2 := fun w => len_any k n s w
  have h2 : RlenIs k n s (lenF k n).1 (lenF k n).2 := fun w => rlen_any k n s w
  generalize (lenF k n).1 = m at h1 h2
  generalize (lenF k n).2 = ok at h1 h2
  have H1 := Lib.hid h1
  have H2 := Lib.hid h2
  have HL0 := hL.below (ball w (.cells #[.int .i64 k, .int .i64 n, .string s] 23))
  clear hL h1 h2
  go_enter Tryd.func3, Tryd.ntmps3
  go_wp2_with (go_at_call 5; (with_reducible refine (alive_any _ HL0).mono ?_); rintro x w1 ⟨rfl, hb1⟩; refine Hid.out ?_)
  refine Lib.hid ?_
  have d0 := new_cell hb1 0
  have d1 := new_cell hb1 1
  have d2 := new_cell hb1 2
  simp at d0 d1 d2
  have B1 := bnext (ball w _) hb1
  clear hb1
  go_wp2_with (go_at_call 6; (with_reducible refine H1.out.at.mono ?_); rintro x w2 ⟨rfl, hb2⟩; refine Hid.out ?_)
  refine Lib.hid ?_
  have e0 := (hb2.cell (p := ⟨w.heap.size, 0, none⟩) (blk_lt d0)).trans d0
  have e1 := (hb2.cell (p := ⟨w.heap.size, 1, none⟩) (blk_lt d1)).trans d1
  have e2 := (hb2.cell (p := ⟨w.heap.size, 2, none⟩) (blk_lt d2)).trans d2
  have B2 := bnext B1 hb2
  clear d0 d1 d2 hb2 B1
  go_wp2_with (go_at_call 7; (with_reducible refine H2.out.at.mono ?_); rintro x w3 ⟨rfl, hb3⟩)
  go_ret
  exact ⟨rfl, bnext B2 hb3⟩
end Go.Proofs.YtifkfidkokdijaaDoor.Arrs
