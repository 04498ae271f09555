/-
  The reference's over: what it gives.
-/
import Derived.Test.YtlpfdhmifcmhaaaDeRepl
namespace Go.Proofs.Ytlpfdhmifcmhaaa.Des
open Go.RowKit Go.Proofs.Ytlpfdhmifcmhaaa.Vals
set_option linter.unusedVariables false
set_option linter.unusedSimpArgs false
attribute [local go_sem ↓] to_ldD to_stD run_eqD run_eqV0
attribute [local go_sem] n2 n3 m2 m3 rowD_drew rowD_drewN rowD_alloc rowD_putc rowD_other putD_drew putD_drewN putD_size putD_alloc setObj_cells run_ldD run_stD okC_dcs okC_lit objRow_dcs one_b one_i one_s objRow_lit dcs_0 dcs_1 dcs_2 dcs_3 dcs_4 dcs_5 dcs_6 dcs_7 dcs_8 dcs_9 dcs_10 dcs_11 dcs_12 dcs_13 dcs_14 dcs_15 dcs_16 dcs_17
attribute [local go_sem low] cell_rowD

attribute [local go_sem] World.setCell_drewN World.alloc_drewN
def overF (y x : Ds) : Ds := ⟨y.hv || x.hv, y.hg || x.hg, y.hs || x.hs, y.hw || x.hw, x.he, x.hc, ⟨cond y.hv y.v.k x.v.k, cond y.hv y.v.n x.v.n, cond y.hv y.v.s x.v.s⟩, ⟨cond y.hg y.g.k x.g.k, cond y.hg y.g.n x.g.n, cond y.hg y.g.s x.g.s⟩, ⟨cond y.hs y.s.k x.s.k, cond y.hs y.s.n x.s.n, cond y.hs y.s.s x.s.s⟩, cond y.hw y.w x.w, cond y.he y.e x.e, cond y.hc y.c x.c⟩
end Go.Proofs.Ytlpfdhmifcmhaaa.Des
