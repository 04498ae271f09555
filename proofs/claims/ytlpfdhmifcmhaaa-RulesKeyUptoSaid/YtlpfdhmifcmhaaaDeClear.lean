/-
  cleared and the reference's Complete: what they give.
-/
import Derived.Test.YtlpfdhmifcmhaaaDeSmall
namespace Go.Proofs.Ytlpfdhmifcmhaaa.Des
open Go.RowKit Go.Proofs.Ytlpfdhmifcmhaaa.Vals
set_option linter.unusedVariables false
set_option linter.unusedSimpArgs false
attribute [local go_sem ↓] to_ldD to_stD run_eqD run_eqV0
attribute [local go_sem] n2 n3 m2 m3 rowD_drew rowD_drewN rowD_alloc rowD_putc rowD_other putD_drew putD_drewN putD_size putD_alloc setObj_cells run_ldD run_stD okC_dcs okC_lit objRow_dcs one_b one_i one_s objRow_lit dcs_0 dcs_1 dcs_2 dcs_3 dcs_4 dcs_5 dcs_6 dcs_7 dcs_8 dcs_9 dcs_10 dcs_11 dcs_12 dcs_13 dcs_14 dcs_15 dcs_16 dcs_17
attribute [local go_sem low] cell_rowD

def clearF (d : Ds) : Ds := if accF d then ⟨d.hv, true, true, d.hw, true, true, d.v, zeroV, zeroV, d.w, false, false⟩ else ⟨true, d.hg, d.hs, true, true, true, zeroV, d.g, d.s, false, false, false⟩
def compR (d : Ds) : Ds := if accF d then ⟨d.hv, true, true, d.hw, true, true, d.v, d.g, d.s, d.w, d.e, d.c⟩ else ⟨true, d.hg, d.hs, true, true, true, d.v, d.g, d.s, d.w, d.e, d.c⟩
set_option maxHeartbeats 4000000 in
theorem clear_any (d : Ds) (w : World) : Calls Try.prog 50 #[DV d] w fun en w' => en = .returned (DV (clearF d)) ∧ Below w.heap.size w w' := by
  have hdx : dcs d = #[.bool (d.hv), .bool (d.hg), .bool (d.hs), .bool (d.hw), .bool (d.he), .bool (d.hc), .int .i64 (d.v.k), .int .i64 (d.v.n), .string (d.v.s), .int .i64 (d.g.k), .int .i64 (d.g.n), .string (d.g.s), .int .i64 (d.s.k), .int .i64 (d.s.n), .string (d.s.s), .bool (d.w), .bool (d.e), .bool (d.c)] := rfl
  unfold DV
  rw [hdx]
  clear hdx
  cases hacc : accF d
  all_goals
    go_enter Try.func50, Try.ntmps50
    go_wp2_with (go_at_call 47; refine (acc_x d _).mono ?_; rintro e w1 ⟨rfl, rfl⟩)
    refine bodyPost_ret (res_rowD Try.results50 _ _ (w.heap.size + 1) _ rfl (by simp [rowD_alloc, objRow_lit]; rfl)) rfl ⟨?_, ?_⟩
    · simp [clearF, hacc, dcs, zeroV]

    · exact three_bels w _ _ _
set_option maxHeartbeats 4000000 in
theorem rcomp_any (d : Ds) (w : World) : Calls Try.prog 32 #[DV d] w fun en w' => en = .returned (DV (compR d)) ∧ Below w.heap.size w w' := by
  have hdx : dcs d = #[.bool (d.hv), .bool (d.hg), .bool (d.hs), .bool (d.hw), .bool (d.he), .bool (d.hc), .int .i64 (d.v.k), .int .i64 (d.v.n), .string (d.v.s), .int .i64 (d.g.k), .int .i64 (d.g.n), .string (d.g.s), .int .i64 (d.s.k), .int .i64 (d.s.n), .string (d.s.s), .bool (d.w), .bool (d.e), .bool (d.c)] := rfl
  unfold DV
  rw [hdx]
  clear hdx
  cases hacc : accF d
  all_goals
    go_enter Try.func32, Try.ntmps32
    go_wp2_with (go_at_call 44; refine (racc_x d _).mono ?_; rintro e w1 ⟨rfl, rfl⟩)
    refine bodyPost_ret (res_rowD Try.results32 _ _ (w.heap.size + 1) _ rfl (by simp [rowD_alloc, objRow_lit]; rfl)) rfl ⟨?_, ?_⟩
    · simp [compR, hacc, dcs, zeroV]

    · exact three_bels w _ _ _
end Go.Proofs.Ytlpfdhmifcmhaaa.Des
