/-
  Whole of both sides: what it gives.
-/
import Derived.Test.YtlpfdhmifcmhaaaDeRight
import Derived.Test.YtlpfdhmifcmhaaaDeRdesc
namespace Go.Proofs.Ytlpfdhmifcmhaaa.Des
open Go.RowKit Go.Proofs.Ytlpfdhmifcmhaaa.Vals
set_option linter.unusedVariables false
set_option linter.unusedSimpArgs false
attribute [local go_sem ↓] to_ldD to_stD run_eqD run_eqV0
attribute [local go_sem] n2 n3 m2 m3 rowD_drew rowD_drewN rowD_alloc rowD_putc rowD_other putD_drew putD_drewN putD_size putD_alloc setObj_cells run_ldD run_stD okC_dcs okC_lit objRow_dcs one_b one_i one_s objRow_lit dcs_0 dcs_1 dcs_2 dcs_3 dcs_4 dcs_5 dcs_6 dcs_7 dcs_8 dcs_9 dcs_10 dcs_11 dcs_12 dcs_13 dcs_14 dcs_15 dcs_16 dcs_17
attribute [local go_sem low] cell_rowD

def whF (d : Ds) : Bool := if !rigF d || !d.he || !d.hc then false else (d.hv && d.hw) || (d.hg && d.hs)
def whR (d : Ds) : Bool := rigR d && d.he && d.hc && ((d.hv && d.hw) || (d.hg && d.hs))
set_option maxHeartbeats 4000000 in
theorem wh_any (d : Ds) (w : World) : Calls Try.prog 51 #[DV d] w fun e w' => e = .returned (.bool (whF d)) ∧ Below w.heap.size w w' := by
  go_enter Try.func51, Try.ntmps51
  go_wp2_with (go_at_call 41; refine (rig_any d _).mono ?_; rintro e w1 ⟨rfl, hb1⟩; have := rowD_call hb1 (show rowD _ (w.heap.size) = some (dcs d) by first | assumption | (simp [rowD_alloc, objRow_dcs, rowD_drew, n2, n3, m2, m3]; done) | (simp [rowD_drew, rowD_alloc, n2, n3, m2, m3, objRow_dcs, objRow_lit, rowD_putc, rowD_other, putD_size, okC_dcs, okC_lit, one_b, one_i, one_s, *]; done)); have hbw : Below w.heap.size w w1 := bel_keep hb1 (by first | assumption | exact two_bels _ _ _ | exact three_bels _ _ _ _ | exact ball _ _ | exact bel_drew (two_bels _ _ _) | exact bel_drew (three_bels _ _ _ _) | exact bel_drew (ball _ _) | exact bel_drew (by assumption) | exact bel_put (by assumption) (by omega) _); clear hb1)
  all_goals
    go_ret
    exact ⟨by simp [whF, *], by assumption⟩
set_option maxHeartbeats 4000000 in
theorem whr_any (d : Ds) (w : World) : Calls Try.prog 15 #[DV d] w fun e w' => e = .returned (.bool (whR d)) ∧ Below w.heap.size w w' := by
  go_enter Try.func15, Try.ntmps15
  go_wp2_with (go_at_call 30; refine (rigr_any d _).mono ?_; rintro e w1 ⟨rfl, hb1⟩; have := rowD_call hb1 (show rowD _ (w.heap.size) = some (dcs d) by first | assumption | (simp [rowD_alloc, objRow_dcs, rowD_drew, n2, n3, m2, m3]; done) | (simp [rowD_drew, rowD_alloc, n2, n3, m2, m3, objRow_dcs, objRow_lit, rowD_putc, rowD_other, putD_size, okC_dcs, okC_lit, one_b, one_i, one_s, *]; done)); have hbw : Below w.heap.size w w1 := bel_keep hb1 (by first | assumption | exact two_bels _ _ _ | exact three_bels _ _ _ _ | exact ball _ _ | exact bel_drew (two_bels _ _ _) | exact bel_drew (three_bels _ _ _ _) | exact bel_drew (ball _ _) | exact bel_drew (by assumption) | exact bel_put (by assumption) (by omega) _); clear hb1)
  all_goals
    go_ret
    exact ⟨by simp [whR, *], by assumption⟩
end Go.Proofs.Ytlpfdhmifcmhaaa.Des
