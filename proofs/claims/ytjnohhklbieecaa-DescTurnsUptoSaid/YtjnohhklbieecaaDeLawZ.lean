/-
  The walk of DescTurns.
-/
import Derived.Test.YtjnohhklbieecaaDeLawV
import Derived.Test.YtjnohhklbieecaaDeLawW
import Derived.Test.YtjnohhklbieecaaDeLawX
import Derived.Test.YtjnohhklbieecaaDeLawY

namespace Go.Proofs.Ytjnohhklbieecaa.Des
open Go.RowKit Go.Proofs.Ytjnohhklbieecaa.Vals
set_option linter.unusedVariables false
set_option linter.unusedSimpArgs false
attribute [local go_sem ↓] to_ldD to_stD run_eqD run_eqV0
attribute [local go_sem] n2 n3 m2 m3 rowD_drew rowD_drewN rowD_alloc rowD_putc rowD_other putD_drew putD_drewN putD_size putD_alloc setObj_cells run_ldD run_stD okC_dcs okC_lit objRow_dcs one_b one_i one_s objRow_lit dcs_0 dcs_1 dcs_2 dcs_3 dcs_4 dcs_5 dcs_6 dcs_7 dcs_8 dcs_9 dcs_10 dcs_11 dcs_12 dcs_13 dcs_14 dcs_15 dcs_16 dcs_17
attribute [local go_sem low] cell_rowD

theorem lawTurns_walk (d n : Ds) (x : Bool) (w : World) (fd : Fit d) (fn : Fit n) : Calls Try.prog 7 #[DV d, DV n, .bool x] w fun e w' => e = .returned (.bool true) ∧ Below w.heap.size w w' := by
  cases hno : (!whR n || !n.c || !rigR d || !mayF d || !mayF n)
  · simp at hno
    obtain ⟨⟨⟨⟨h1, h2⟩, h3⟩, h4⟩, h5⟩ := hno
    have hs := (rig_and h3).1
    unfold accF datF at hs
    cases g1 : d.hv <;> cases g2 : d.hw <;> cases g3 : d.hg <;> cases g4 : d.hs <;> simp [g1, g2, g3, g4] at hs
    all_goals first
      | exact lawTurns_ffff d n x w fd fn h1 h2 h3 h4 h5 g1 g2 g3 g4
      | exact lawTurns_tfff d n x w fd fn h1 h2 h3 h4 h5 g1 g2 g3 g4
      | exact lawTurns_ftff d n x w fd fn h1 h2 h3 h4 h5 g1 g2 g3 g4
      | exact lawTurns_ttff d n x w fd fn h1 h2 h3 h4 h5 g1 g2 g3 g4
      | exact lawTurns_fftf d n x w fd fn h1 h2 h3 h4 h5 g1 g2 g3 g4
      | exact lawTurns_ffft d n x w fd fn h1 h2 h3 h4 h5 g1 g2 g3 g4
      | exact lawTurns_fftt d n x w fd fn h1 h2 h3 h4 h5 g1 g2 g3 g4
  · exact lawTurns_no d n x w fd fn hno
end Go.Proofs.Ytjnohhklbieecaa.Des
