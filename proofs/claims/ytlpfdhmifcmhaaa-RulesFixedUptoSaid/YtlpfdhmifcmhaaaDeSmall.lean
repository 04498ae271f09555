/-
  The small functions of package desc and of the reference: what they give.
-/
import Derived.Test.YtlpfdhmifcmhaaaDeMem
import Derived.WalkKit
namespace Go.Proofs.Ytlpfdhmifcmhaaa.Des
open Go.RowKit Go.Proofs.Ytlpfdhmifcmhaaa.Vals
set_option linter.unusedVariables false
set_option linter.unusedSimpArgs false
attribute [local go_sem ↓] to_ldD to_stD run_eqD run_eqV0
attribute [local go_sem] n2 n3 m2 m3 rowD_drew rowD_drewN rowD_alloc rowD_putc rowD_other putD_drew putD_drewN putD_size putD_alloc setObj_cells run_ldD run_stD okC_dcs okC_lit objRow_dcs one_b one_i one_s objRow_lit dcs_0 dcs_1 dcs_2 dcs_3 dcs_4 dcs_5 dcs_6 dcs_7 dcs_8 dcs_9 dcs_10 dcs_11 dcs_12 dcs_13 dcs_14 dcs_15 dcs_16 dcs_17
attribute [local go_sem low] cell_rowD

/-- What the flags say. -/
def accF (d : Ds) : Bool := d.hg || d.hs
def datF (d : Ds) : Bool := d.hv || d.hw
def canF (v : Vl) : Bool := v.k == 0 || v.k == 6
theorem acc_x (d : Ds) (w : World) : Calls Try.prog 47 #[DV d] w fun e w' => e = .returned (.bool (accF d)) ∧ w' = w.alloc (.cells (dcs d) 28) := by
  cases h : d.hg
  · go_enter Try.func47, Try.ntmps47
    go_wp2
    go_ret
    exact ⟨by simp [accF, h], rfl⟩
  · go_enter Try.func47, Try.ntmps47
    go_wp2
    go_ret
    exact ⟨by simp [accF, h], rfl⟩
theorem acc_any (d : Ds) (w : World) : Calls Try.prog 47 #[DV d] w fun e w' => e = .returned (.bool (accF d)) ∧ Below w.heap.size w w' :=
  (acc_x d w).mono fun e w' ⟨h1, h2⟩ => ⟨h1, h2 ▸ ball _ _⟩
theorem racc_x (d : Ds) (w : World) : Calls Try.prog 44 #[DV d] w fun e w' => e = .returned (.bool (accF d)) ∧ w' = w.alloc (.cells (dcs d) 28) := by
  cases h : d.hg
  · go_enter Try.func44, Try.ntmps44
    go_wp2
    go_ret
    exact ⟨by simp [accF, h], rfl⟩
  · go_enter Try.func44, Try.ntmps44
    go_wp2
    go_ret
    exact ⟨by simp [accF, h], rfl⟩
theorem racc_any (d : Ds) (w : World) : Calls Try.prog 44 #[DV d] w fun e w' => e = .returned (.bool (accF d)) ∧ Below w.heap.size w w' :=
  (racc_x d w).mono fun e w' ⟨h1, h2⟩ => ⟨h1, h2 ▸ ball _ _⟩
theorem dat_x (d : Ds) (w : World) : Calls Try.prog 39 #[DV d] w fun e w' => e = .returned (.bool (datF d)) ∧ w' = w.alloc (.cells (dcs d) 28) := by
  cases h : d.hv
  · go_enter Try.func39, Try.ntmps39
    go_wp2
    go_ret
    exact ⟨by simp [datF, h], rfl⟩
  · go_enter Try.func39, Try.ntmps39
    go_wp2
    go_ret
    exact ⟨by simp [datF, h], rfl⟩
theorem dat_any (d : Ds) (w : World) : Calls Try.prog 39 #[DV d] w fun e w' => e = .returned (.bool (datF d)) ∧ Below w.heap.size w w' :=
  (dat_x d w).mono fun e w' ⟨h1, h2⟩ => ⟨h1, h2 ▸ ball _ _⟩
theorem rdat_x (d : Ds) (w : World) : Calls Try.prog 27 #[DV d] w fun e w' => e = .returned (.bool (datF d)) ∧ w' = w.alloc (.cells (dcs d) 28) := by
  cases h : d.hv
  · go_enter Try.func27, Try.ntmps27
    go_wp2
    go_ret
    exact ⟨by simp [datF, h], rfl⟩
  · go_enter Try.func27, Try.ntmps27
    go_wp2
    go_ret
    exact ⟨by simp [datF, h], rfl⟩
theorem rdat_any (d : Ds) (w : World) : Calls Try.prog 27 #[DV d] w fun e w' => e = .returned (.bool (datF d)) ∧ Below w.heap.size w w' :=
  (rdat_x d w).mono fun e w' ⟨h1, h2⟩ => ⟨h1, h2 ▸ ball _ _⟩
theorem can_any (v : Vl) (w : World) : Calls Try.prog 48 #[VV v] w fun e w' => e = .returned (.bool (canF v)) ∧ Below w.heap.size w w' := by
  cases h : (v.k == 0)
  · go_enter Try.func48, Try.ntmps48
    go_wp2
    go_ret
    exact ⟨by simp [canF, h], ball _ _⟩
  · go_enter Try.func48, Try.ntmps48
    go_wp2
    go_ret
    exact ⟨by simp [canF, h], ball _ _⟩
theorem side_any (v : Vl) (w : World) : Calls Try.prog 45 #[VV v] w fun e w' => e = .returned (.bool (canF v)) ∧ Below w.heap.size w w' := by
  cases h : (v.k == 0)
  · go_enter Try.func45, Try.ntmps45
    go_wp2
    go_ret
    exact ⟨by simp [canF, h], ball _ _⟩
  · go_enter Try.func45, Try.ntmps45
    go_wp2
    go_ret
    exact ⟨by simp [canF, h], ball _ _⟩
theorem same_any (a b : Vl) (w : World) : Calls Try.prog 36 #[VV a, VV b] w fun e w' => e = .returned (.bool (eqV a b)) ∧ Below w.heap.size w w' := by
  go_enter Try.func36, Try.ntmps36
  go_wp2
  go_ret
  exact ⟨rfl, two_bels _ _ _⟩
end Go.Proofs.Ytlpfdhmifcmhaaa.Des
