/-
  The document's example.
-/
import Derived.Test.YtjnohhklbieecaaDeSpec3
import Derived.Test.YtjnohhklbieecaaDeMay
namespace Go.Proofs.Ytjnohhklbieecaa.Des
open Go.RowKit Go.Proofs.Ytjnohhklbieecaa.Vals
set_option linter.unusedVariables false
set_option linter.unusedSimpArgs false
attribute [local go_sem ↓] to_ldD to_stD run_eqD run_eqV0
attribute [local go_sem] n2 n3 m2 m3 rowD_drew rowD_drewN rowD_alloc rowD_putc rowD_other putD_drew putD_drewN putD_size putD_alloc setObj_cells run_ldD run_stD okC_dcs okC_lit objRow_dcs one_b one_i one_s objRow_lit dcs_0 dcs_1 dcs_2 dcs_3 dcs_4 dcs_5 dcs_6 dcs_7 dcs_8 dcs_9 dcs_10 dcs_11 dcs_12 dcs_13 dcs_14 dcs_15 dcs_16 dcs_17
attribute [local go_sem low] cell_rowD

attribute [local go_sem] eqV_refl eqD_refl
theorem bel_al {B : World} {w1 : World} {o : Obj} (hb : Below B.heap.size B w1) : Below B.heap.size B (w1.alloc o) := hb.alloc hb.size o
theorem blk_ne {w : World} {g : Nat} {cs : Array Value} (h : rowD w g = some cs) : (w.heap.size = g) = False := by
  have := rowD_lt (by rw [h]; rfl : (rowD w g).isSome = true)
  simp only [eq_iff_iff, iff_false]
  omega
def AppIs (x : Bool) (d : Ds) (h : Bool) (n : Ds) (a : Ds) (ok : Bool) : Prop := ∀ w, Calls Try.prog 21 #[.bool x, DV d, .bool h, DV n] w fun e w' => e = .returned (.tuple #[DV a, .bool ok]) ∧ Below w.heap.size w w'
theorem AppIs.at {x : Bool} {d : Ds} {h : Bool} {n a : Ds} {ok : Bool} (hh : AppIs x d h n a ok) {w : World} : Calls Try.prog 21 #[.bool x, DV d, .bool h, DV n] w fun e w' => e = .returned (.tuple #[DV a, .bool ok]) ∧ Below w.heap.size w w' := hh w
theorem app_is {x : Bool} {d : Ds} {h : Bool} {n a : Ds} {ok : Bool} (hh : appF x d h n = (a, ok)) : AppIs x d h n a ok := fun w => by
  have := app_any x d h n w
  rw [hh] at this
  exact this
def WhIs (d : Ds) (b : Bool) : Prop := ∀ w, Calls Try.prog 17 #[DV d] w fun e w' => e = .returned (.bool b) ∧ Below w.heap.size w w'
theorem WhIs.at {d : Ds} {b : Bool} (hh : WhIs d b) {w : World} : Calls Try.prog 17 #[DV d] w fun e w' => e = .returned (.bool b) ∧ Below w.heap.size w w' := hh w
theorem wh_is {d : Ds} {b : Bool} (h : whR d = b) : WhIs d b := fun w => by
  have := wh_any d w
  rw [wh_eq, h] at this
  exact this
def MayIs (d : Ds) : Prop := ∀ w, Calls Try.prog 10 #[DV d] w fun e w' => e = .returned (.bool (mayF d)) ∧ Below w.heap.size w w'
theorem MayIs.at {d : Ds} (hh : MayIs d) {w : World} : Calls Try.prog 10 #[DV d] w fun e w' => e = .returned (.bool (mayF d)) ∧ Below w.heap.size w w' := hh w
theorem may_is {d : Ds} (hf : Fit d) : MayIs d := fun w => may_any d hf w
def nowD : Ds := ⟨true, false, false, true, true, true, zeroV, zeroV, zeroV, false, false, false⟩
theorem now_wh : whR nowD = true := wh_data _ _ _ _
theorem zero_rig : rigR zeroD = true := rig_mk rfl (fun h => by cases h) (fun h => by cases h) (fun _ => rfl) (fun _ => rfl) (fun _ => rfl) (fun _ => rfl) (fun _ => rfl) (fun _ => rfl)
theorem app_now : appF false zeroD true nowD = (nowD, true) := again zero_rig now_wh rfl rfl
set_option maxHeartbeats 4000000 in
set_option maxRecDepth 100000 in
theorem alive_any (w : World) : Calls Try.prog 9 #[] w fun e w' => e = .returned (.bool true) ∧ Below w.heap.size w w' := by
  have hA := app_is app_now
  have hW := wh_is now_wh
  go_enter Try.func9, Try.ntmps9
  go_wp2_with (first | (go_at_call 21; refine hA.at.mono ?_; rintro e u1 ⟨rfl, hb1⟩; have hr1 := rowD_call hb1 (show rowD _ (w.heap.size) = some (dcs nowD) by simp [rowD_alloc, objRow_lit]; rfl); have hn1 := blk_ne hr1; have hbw : Below w.heap.size w u1 := bel_keep hb1 (ball _ _); clear hb1) | (go_at_call 17; with_reducible refine hW.at.mono ?_; rintro e w2 ⟨rfl, hb2⟩))
  go_ret
  exact ⟨rfl, bel_keep hb2 (bel_al hbw)⟩
end Go.Proofs.Ytjnohhklbieecaa.Des
