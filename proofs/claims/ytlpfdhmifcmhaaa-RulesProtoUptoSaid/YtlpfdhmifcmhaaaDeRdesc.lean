/-
  The reference's RightDesc: what it gives.
-/
import Derived.Test.YtlpfdhmifcmhaaaDeSmall
import Derived.Deep.CutRange
import Derived.Deep.DeepCutAuto
namespace Go.Proofs.Ytlpfdhmifcmhaaa.Des
open Go.RowKit Go.Proofs.Ytlpfdhmifcmhaaa.Vals
set_option linter.unusedVariables false
set_option linter.unusedSimpArgs false
attribute [local go_sem ↓] to_ldD to_stD run_eqD run_eqV0
attribute [local go_sem] n2 n3 m2 m3 rowD_drew rowD_drewN rowD_alloc rowD_putc rowD_other putD_drew putD_drewN putD_size putD_alloc setObj_cells run_ldD run_stD okC_dcs okC_lit objRow_dcs one_b one_i one_s objRow_lit dcs_0 dcs_1 dcs_2 dcs_3 dcs_4 dcs_5 dcs_6 dcs_7 dcs_8 dcs_9 dcs_10 dcs_11 dcs_12 dcs_13 dcs_14 dcs_15 dcs_16 dcs_17
attribute [local go_sem low] cell_rowD

theorem cell_call {w w' : World} {a : Addr} {v : Value} (hb : Below w.heap.size w w') (h : w.cell? a = some v) : w'.cell? a = some v := (hb.cell (World.block_lt_of_cell? w _ h)).trans h
def badF (d : Ds) : Bool := (accF d && datF d) || (d.hg && !canF d.g) || (d.hs && !canF d.s)
def rigR (d : Ds) : Bool := if badF d then false else (d.hv || eqV d.v zeroV) && (d.hg || eqV d.g zeroV) && (d.hs || eqV d.s zeroV) && (d.hw || !d.w) && (d.he || !d.e) && (d.hc || !d.c)
set_option maxHeartbeats 8000000 in
set_option maxRecDepth 100000 in
theorem rigr_any (d : Ds) (w : World) : Calls Try.prog 30 #[DV d] w fun en w' => en = .returned (.bool (rigR d)) ∧ Below w.heap.size w w' := by
  go_enter Try.func30, Try.ntmps30
  go_upto_region 2 with fail
  go_cut [29] from 4 to 84 (fun s wx => s = .bool (badF d) ∧ Below w.heap.size w wx ∧ rowD wx w.heap.size = some (dcs d) ∧ wx.cell? ⟨w.heap.size + 1, 0, none⟩ = some (.int .i64 0) ∧ wx.cell? ⟨w.heap.size + 1, 1, none⟩ = some (.int .i64 0) ∧ wx.cell? ⟨w.heap.size + 1, 2, none⟩ = some (.string ⟨#[]⟩))
  case first =>
    go_wp2_with (first | (go_at_call 44; refine (racc_any d _).mono ?_; rintro e w1 ⟨rfl, hb1⟩; have := rowD_call hb1 (show rowD _ (w.heap.size) = some (dcs d) by first | assumption | (simp [rowD_alloc, objRow_dcs, rowD_drew, n2, n3, m2, m3]; done) | (simp [rowD_drew, rowD_alloc, n2, n3, m2, m3, objRow_dcs, objRow_lit, rowD_putc, rowD_other, putD_size, okC_dcs, okC_lit, one_b, one_i, one_s, *]; done)); have := cell_call (a := ⟨w.heap.size + 1, 0, none⟩) (v := .int .i64 0) hb1 (by first | assumption | (simp; done)); have := cell_call (a := ⟨w.heap.size + 1, 1, none⟩) (v := .int .i64 0) hb1 (by first | assumption | (simp; done)); have := cell_call (a := ⟨w.heap.size + 1, 2, none⟩) (v := .string ⟨#[]⟩) hb1 (by first | assumption | (simp; done)); have hbw : Below w.heap.size w w1 := bel_keep hb1 (by first | assumption | exact two_bels _ _ _); clear hb1) | (go_at_call 27; refine (rdat_any d _).mono ?_; rintro e w1 ⟨rfl, hb1⟩; have := rowD_call hb1 (show rowD _ (w.heap.size) = some (dcs d) by first | assumption | (simp [rowD_alloc, objRow_dcs, rowD_drew, n2, n3, m2, m3]; done) | (simp [rowD_drew, rowD_alloc, n2, n3, m2, m3, objRow_dcs, objRow_lit, rowD_putc, rowD_other, putD_size, okC_dcs, okC_lit, one_b, one_i, one_s, *]; done)); have := cell_call (a := ⟨w.heap.size + 1, 0, none⟩) (v := .int .i64 0) hb1 (by first | assumption | (simp; done)); have := cell_call (a := ⟨w.heap.size + 1, 1, none⟩) (v := .int .i64 0) hb1 (by first | assumption | (simp; done)); have := cell_call (a := ⟨w.heap.size + 1, 2, none⟩) (v := .string ⟨#[]⟩) hb1 (by first | assumption | (simp; done)); have hbw : Below w.heap.size w w1 := bel_keep hb1 (by first | assumption | exact two_bels _ _ _); clear hb1) | (go_at_call 45; refine (side_any ⟨_, _, _⟩ _).mono ?_; rintro e w1 ⟨rfl, hb1⟩; have := rowD_call hb1 (show rowD _ (w.heap.size) = some (dcs d) by first | assumption | (simp [rowD_alloc, objRow_dcs, rowD_drew, n2, n3, m2, m3]; done) | (simp [rowD_drew, rowD_alloc, n2, n3, m2, m3, objRow_dcs, objRow_lit, rowD_putc, rowD_other, putD_size, okC_dcs, okC_lit, one_b, one_i, one_s, *]; done)); have := cell_call (a := ⟨w.heap.size + 1, 0, none⟩) (v := .int .i64 0) hb1 (by first | assumption | (simp; done)); have := cell_call (a := ⟨w.heap.size + 1, 1, none⟩) (v := .int .i64 0) hb1 (by first | assumption | (simp; done)); have := cell_call (a := ⟨w.heap.size + 1, 2, none⟩) (v := .string ⟨#[]⟩) hb1 (by first | assumption | (simp; done)); have hbw : Below w.heap.size w w1 := bel_keep hb1 (by first | assumption | exact two_bels _ _ _); clear hb1))
    all_goals
      go_meet
      exact ⟨by simp [badF, *], by assumption, by assumption, by assumption, by assumption, by assumption⟩
  case rest =>
  obtain ⟨rfl, hb, hr, z0, z1, z2⟩ := hcut
  cases hbad : badF d
  · go_wp2
    all_goals
      go_ret
      exact ⟨by simp [rigR, zeroV, *], by assumption⟩
  · go_wp2
    go_ret
    exact ⟨by simp [rigR, hbad], by assumption⟩
end Go.Proofs.Ytlpfdhmifcmhaaa.Des
