/-
  What the reference's Apply gives: plain definitions.
-/
import Derived.Test.YtlpfdhmifcmhaaaDeWhole
import Derived.Test.YtlpfdhmifcmhaaaDeClear
import Derived.Test.YtlpfdhmifcmhaaaDeOver
namespace Go.Proofs.Ytlpfdhmifcmhaaa.Des
open Go.RowKit Go.Proofs.Ytlpfdhmifcmhaaa.Vals
set_option linter.unusedVariables false
set_option linter.unusedSimpArgs false
attribute [local go_sem ↓] to_ldD to_stD run_eqD run_eqV0
attribute [local go_sem] n2 n3 m2 m3 rowD_drew rowD_drewN rowD_alloc rowD_putc rowD_other putD_drew putD_drewN putD_size putD_alloc setObj_cells run_ldD run_stD okC_dcs okC_lit objRow_dcs one_b one_i one_s objRow_lit dcs_0 dcs_1 dcs_2 dcs_3 dcs_4 dcs_5 dcs_6 dcs_7 dcs_8 dcs_9 dcs_10 dcs_11 dcs_12 dcs_13 dcs_14 dcs_15 dcs_16 dcs_17
attribute [local go_sem low] cell_rowD

def f1F (d n : Ds) : Bool := !n.c && ((d.hc && d.c) || (d.he && (d.e != n.e)))
def t4F (d n : Ds) : Bool := !n.c && !n.w && ((d.hw && d.w) || (d.hv && !eqV d.v n.v))
def t5F (d n : Ds) : Bool := !n.c && ((d.hg && !eqV d.g n.g) || (d.hs && !eqV d.s n.s))
def turnF (d n : Ds) : Ds := if accF d then ⟨false, true, true, false, true, true, zeroV, zeroV, zeroV, false, n.e, n.c⟩ else ⟨true, false, false, true, true, true, zeroV, zeroV, zeroV, false, n.e, n.c⟩
def appR (x : Bool) (d : Ds) (h : Bool) (n : Ds) : Ds × Bool := if !rigR d || (h && !whR n) then (zeroD, false) else if !h then (if x then (compR d, true) else (zeroD, false)) else if f1F d n then (zeroD, false) else if !accF d && !datF d then (overF d n, true) else if datF d && datF n then (if t4F d n then (zeroD, false) else (overF d n, true)) else if accF d && accF n then (if t5F d n then (zeroD, false) else (overF d n, true)) else if !n.c then (zeroD, false) else (overF d (turnF d n), true)
end Go.Proofs.Ytlpfdhmifcmhaaa.Des
