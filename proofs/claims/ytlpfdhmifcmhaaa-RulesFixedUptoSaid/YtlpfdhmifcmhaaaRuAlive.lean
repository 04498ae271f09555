/-
  The document's example; what the laws call, as plain facts.
-/
import Derived.Test.YtlpfdhmifcmhaaaRuOwn
import Derived.Test.YtlpfdhmifcmhaaaRuIn
namespace Go.Proofs.Ytlpfdhmifcmhaaa.Des
open Go.RowKit Go.Proofs.Ytlpfdhmifcmhaaa.Vals
set_option linter.unusedVariables false
set_option linter.unusedSimpArgs false
attribute [local go_sem ↓] to_ldD to_stD run_eqD run_eqV0
attribute [local go_sem] n2 n3 m2 m3 rowD_drew rowD_drewN rowD_alloc rowD_putc rowD_other putD_drew putD_drewN putD_size putD_alloc setObj_cells run_ldD run_stD okC_dcs okC_lit objRow_dcs one_b one_i one_s objRow_lit dcs_0 dcs_1 dcs_2 dcs_3 dcs_4 dcs_5 dcs_6 dcs_7 dcs_8 dcs_9 dcs_10 dcs_11 dcs_12 dcs_13 dcs_14 dcs_15 dcs_16 dcs_17
attribute [local go_sem low] cell_rowD

attribute [local go_sem] eqV_refl eqD_refl
def MayIs (d : Ds) (b : Bool) : Prop := ∀ w, Calls Try.prog 16 #[DV d] w fun e w' => e = .returned (.bool b) ∧ Below w.heap.size w w'
theorem MayIs.at {d : Ds} {b : Bool} (hh : MayIs d b) {w : World} : Calls Try.prog 16 #[DV d] w fun e w' => e = .returned (.bool b) ∧ Below w.heap.size w w' := hh w
theorem may_is {d : Ds} {b : Bool} (hf : Fit d) (h : mayF d = b) : MayIs d b := fun w => h ▸ may_any d hf w
def WhrIs (d : Ds) (b : Bool) : Prop := ∀ w, Calls Try.prog 15 #[DV d] w fun e w' => e = .returned (.bool b) ∧ Below w.heap.size w w'
theorem WhrIs.at {d : Ds} {b : Bool} (hh : WhrIs d b) {w : World} : Calls Try.prog 15 #[DV d] w fun e w' => e = .returned (.bool b) ∧ Below w.heap.size w w' := hh w
theorem whr_is {d : Ds} {b : Bool} (h : whR d = b) : WhrIs d b := fun w => h ▸ whr_any d w
def RgrIs (d : Ds) (b : Bool) : Prop := ∀ w, Calls Try.prog 30 #[DV d] w fun e w' => e = .returned (.bool b) ∧ Below w.heap.size w w'
theorem RgrIs.at {d : Ds} {b : Bool} (hh : RgrIs d b) {w : World} : Calls Try.prog 30 #[DV d] w fun e w' => e = .returned (.bool b) ∧ Below w.heap.size w w' := hh w
theorem rgr_is {d : Ds} {b : Bool} (h : rigR d = b) : RgrIs d b := fun w => h ▸ rigr_any d w
def RvqIs (v : Vl) (b : Bool) : Prop := ∀ w, Calls Try.prog 10 #[VV v] w fun e w' => e = .returned (.bool b) ∧ Below w.heap.size w w'
theorem RvqIs.at {v : Vl} {b : Bool} (h : RvqIs v b) {w : World} : Calls Try.prog 10 #[VV v] w fun e w' => e = .returned (.bool b) ∧ Below w.heap.size w w' := h w
theorem rvq_is {v : Vl} {b : Bool} (hf : v.s.size ≤ 2000000) (h : rvF v = b) : RvqIs v b := fun w => h ▸ rv_is hf w
def OwnIs (x h : Bool) (n : Ds) (t : Bool) (d : Ds) (b : Bool) : Prop := ∀ w, Calls Try.prog 26 #[.bool x, .bool h, DV n, .bool t, DV d] w fun e w' => e = .returned (.bool b) ∧ Below w.heap.size w w'
theorem OwnIs.at {x h : Bool} {n : Ds} {t : Bool} {d : Ds} {b : Bool} (hh : OwnIs x h n t d b) {w : World} : Calls Try.prog 26 #[.bool x, .bool h, DV n, .bool t, DV d] w fun e w' => e = .returned (.bool b) ∧ Below w.heap.size w w' := hh w
theorem own_is {x h : Bool} {n : Ds} {t : Bool} {d : Ds} {b : Bool} (hh : ownF x h n t d = b) : OwnIs x h n t d b := fun w => hh ▸ own_any x h n t d w
def MissIs (x h : Bool) (d : Ds) (b : Bool) : Prop := ∀ w, Calls Try.prog 17 #[.bool x, .bool h, DV d] w fun e w' => e = .returned (.bool b) ∧ Below w.heap.size w w'
theorem MissIs.at {x h : Bool} {d : Ds} {b : Bool} (hh : MissIs x h d b) {w : World} : Calls Try.prog 17 #[.bool x, .bool h, DV d] w fun e w' => e = .returned (.bool b) ∧ Below w.heap.size w w' := hh w
theorem miss_is {x h : Bool} {d : Ds} {b : Bool} (hh : missF x h d = b) : MissIs x h d b := fun w => hh ▸ has_any x h d w
def DelIs (x h : Bool) (d : Ds) (b : Bool) : Prop := ∀ w, Calls Try.prog 23 #[.bool x, .bool h, DV d] w fun e w' => e = .returned (.bool b) ∧ Below w.heap.size w w'
theorem DelIs.at {x h : Bool} {d : Ds} {b : Bool} (hh : DelIs x h d b) {w : World} : Calls Try.prog 23 #[.bool x, .bool h, DV d] w fun e w' => e = .returned (.bool b) ∧ Below w.heap.size w w' := hh w
theorem del_is {x h : Bool} {d : Ds} {b : Bool} (hh : missF x h d = b) : DelIs x h d b := fun w => hh ▸ del_any x h d w
def GetIs (h : Bool) (n : Ds) (v : Vl) (b : Bool) : Prop := ∀ w, Calls Try.prog 19 #[.bool h, DV n, VV v] w fun e w' => e = .returned (.bool b) ∧ Below w.heap.size w w'
theorem GetIs.at {h : Bool} {n : Ds} {v : Vl} {b : Bool} (hh : GetIs h n v b) {w : World} : Calls Try.prog 19 #[.bool h, DV n, VV v] w fun e w' => e = .returned (.bool b) ∧ Below w.heap.size w w' := hh w
theorem get_is {h : Bool} {n : Ds} {v : Vl} {b : Bool} (hh : getF h n v = b) : GetIs h n v b := fun w => hh ▸ get_any h n v w
def SetIs (h : Bool) (n : Ds) (v : Vl) (b : Bool) : Prop := ∀ w, Calls Try.prog 21 #[.bool h, DV n, VV v] w fun e w' => e = .returned (.bool b) ∧ Below w.heap.size w w'
theorem SetIs.at {h : Bool} {n : Ds} {v : Vl} {b : Bool} (hh : SetIs h n v b) {w : World} : Calls Try.prog 21 #[.bool h, DV n, VV v] w fun e w' => e = .returned (.bool b) ∧ Below w.heap.size w w' := hh w
theorem set_is {h : Bool} {n : Ds} {v : Vl} {b : Bool} (hh : setF h n v = b) : SetIs h n v b := fun w => hh ▸ set_any h n v w
theorem has0 (w : World) : Calls Try.prog 17 #[.bool true, .bool false, .agg #[.bool false, .bool false, .bool false, .bool false, .bool false, .bool false, .int .i64 0, .int .i64 0, .string ⟨#[]⟩, .int .i64 0, .int .i64 0, .string ⟨#[]⟩, .int .i64 0, .int .i64 0, .string ⟨#[]⟩, .bool false, .bool false, .bool false]] w fun e w' => e = .returned (.bool true) ∧ Below w.heap.size w w' := has_any true false zeroD w
theorem proto0 (w : World) : Calls Try.prog 11 #[.bool true, .agg #[.int .i64 0, .int .i64 0, .string ⟨#[]⟩], .agg #[.int .i64 0, .int .i64 0, .string ⟨#[]⟩]] w fun e w' => e = .returned (.bool false) ∧ Below w.heap.size w w' := proto_any true zeroV zeroV w
theorem alive_any (w : World) : Calls Try.prog 9 #[] w fun e w' => e = .returned (.bool true) ∧ Below w.heap.size w w' := by
  go_enter Try.func9, Try.ntmps9
  go_wp2_with (first | (go_at_call 17; refine (has0 _).mono ?_; rintro e w1 ⟨rfl, hb1⟩) | (go_at_call 11; refine (proto0 _).mono ?_; rintro e w2 ⟨rfl, hb2⟩))
  go_ret
  exact ⟨rfl, bnext hb1 hb2⟩
end Go.Proofs.Ytlpfdhmifcmhaaa.Des
