/-
  The walk of ValuesTell, whatever the value.
-/
import Derived.Test.YtadpkhneijoilaaDoorVaLawTell
namespace Go.Proofs.YtadpkhneijoilaaDoor.Vals
open Go.RowKit Go.Proofs.YtadpkhneijoilaaDoor.Nums
set_option linter.unusedVariables false

theorem lawTell_walk (k n : Int) (s : ByteArray) (c : Bool) (w : World) (hV : Lv w) (h0 : -9223372036854775808 ≤ n) (h9 : n ≤ 9223372036854775807) :
    Calls Tryd.prog 3 #[V k n s, .bool c] w fun e w' => e = .returned (.bool true) ∧ Below w.heap.size w w' := by
  by_cases hl : 500 < s.size
  · exact lawTell_long k n s c w hV (by omega)
  · have hl2 : (s.size : Int) ≤ 500 := by omega
    have hR := fun w => Right_any k n s w (by omega)
    have hR2 := fun w => rv_any k n s w (by omega)
    cases hr : rightF k n s with
    | false =>
      rw [hr] at hR hR2
      exact lawTell_wrong k n s c false rfl w hV hl2 (Lib.hid hR) (Lib.hid hR2)
    | true =>
      rw [hr] at hR hR2
      refine lawTell_main k n s c true rfl ((textF k n s).getD ⟨#[]⟩) (textF k n s).isSome ((numF k n s).getD 0) (numF k n s).isSome (truthF k n s) (typeF k c) (showF k n s c) w hV hl2 (Lib.hid hR) (Lib.hid hR2)
        (Lib.hid fun w hL => text_any k n s h0 h9 w hL) (Lib.hid fun w => rtext_any k n s h0 h9 w) (Lib.hid fun w hL => num_any k n s (by omega) w hL) (Lib.hid fun w => ?_)
        (Lib.hid fun w => truth_any k n s w) (Lib.hid fun w => rtruth_any k n s w) (Lib.hid fun w => type_any k n s c w) (Lib.hid fun w => rtype_any k n s c w)
        (Lib.hid fun w hV => show_any k n s c h0 h9 (by omega) w hV) (Lib.hid fun w => rshow_any k n s c h0 h9 (by omega) w) ?_ ?_
      · refine (rnumv_any k n s (by omega) w).mono ?_
        rintro e w' ⟨y, f, rfl, h1, h2, hb⟩
        cases f with
        | true => rw [h1 rfl]; exact ⟨y, rfl, fun _ => rfl, hb⟩
        | false => rw [h2 rfl]; exact ⟨y, rfl, (fun h => by cases h), hb⟩
      · intro h
        cases hx : textF k n s with
        | none => rfl
        | some t => rw [hx] at h; cases h
      · intro h
        cases hx : numF k n s with
        | none => rfl
        | some t => rw [hx] at h; cases h
end Go.Proofs.YtadpkhneijoilaaDoor.Vals
