/-
  The walk of RulesFast.
-/
import Derived.Test.YtlpfdhmifcmhaaaRuLawFa
import Derived.Test.YtlpfdhmifcmhaaaRuLawFb
namespace Go.Proofs.Ytlpfdhmifcmhaaa.Des
open Go.RowKit Go.Proofs.Ytlpfdhmifcmhaaa.Vals
set_option linter.unusedVariables false
set_option linter.unusedSimpArgs false
attribute [local go_sem ↓] to_ldD to_stD run_eqD run_eqV0
attribute [local go_sem] n2 n3 m2 m3 rowD_drew rowD_drewN rowD_alloc rowD_putc rowD_other putD_drew putD_drewN putD_size putD_alloc setObj_cells run_ldD run_stD okC_dcs okC_lit objRow_dcs one_b one_i one_s objRow_lit dcs_0 dcs_1 dcs_2 dcs_3 dcs_4 dcs_5 dcs_6 dcs_7 dcs_8 dcs_9 dcs_10 dcs_11 dcs_12 dcs_13 dcs_14 dcs_15 dcs_16 dcs_17
attribute [local go_sem low] cell_rowD

attribute [local go_sem] eqV_refl eqD_refl
theorem lawFast_walk (x h : Bool) (n d : Ds) (w : World) (fn : Fit n) (fd : Fit d) : Calls Try.prog 7 #[.bool x, .bool h, DV n, DV d] w fun e w' => e = .returned (.bool true) ∧ Below w.heap.size w w' := by
  cases hno : (h && !(whR n) || !(rigR d) || !(mayF n) || !(mayF d)) with
  | true => exact fast_no x h n d w fn fd _ _ _ _ rfl rfl rfl rfl hno
  | false =>
    simp only [Bool.or_eq_false_iff, Bool.not_eq_false'] at hno
    obtain ⟨⟨⟨q1, q2⟩, q3⟩, q4⟩ := hno
    obtain ⟨c, hc⟩ : ∃ c, compF d = c := ⟨_, rfl⟩
    have hn : h = true → whR n = true := fun e => by subst e; simpa using q1
    clear q1
    cases ho : ownF x h n true d with
    | false =>
      cases h with
      | false => exact fast_a x n d c w fn fd q2 q3 q4 hc ho
      | true =>
        cases k0 : n.c with
        | true => exact fast_b x n d c w fn fd (hn rfl) q2 q3 q4 hc ho k0
        | false => exact fast_c x n d c w fn fd (hn rfl) q2 q3 q4 hc ho k0
    | true =>
      obtain ⟨r1, r2⟩ := own_fast q2 hn hc ho
      cases h with
      | false =>
        cases k1 : c.c with
        | false => have := r1 k1; cases this.1
        | true => exact fast_d x n d c w fn fd q2 q3 q4 hc ho k1
      | true =>
        cases k0 : n.c with
        | true =>
          cases k1 : c.c with
          | false => have := (r1 k1).2; rw [k0] at this; cases this
          | true => exact fast_e x n d c w fn fd (hn rfl) q2 q3 q4 hc ho k0 k1
        | false =>
          obtain ⟨k1, k2, k3, k6⟩ := r2 rfl k0
          cases k4 : datF n with
          | false => exact fast_f x n d c w fn fd (hn rfl) q2 q3 q4 hc ho k0 k1 k2 k3 k4
          | true =>
            cases k5 : n.w with
            | true => exact fast_g x n d c w fn fd (hn rfl) q2 q3 q4 hc ho k0 k1 k2 k3 k4 k5
            | false => exact fast_h x n d c w fn fd (hn rfl) q2 q3 q4 hc ho k0 k1 k2 k3 k4 k5 (k6 k4 k5).1 (k6 k4 k5).2
end Go.Proofs.Ytlpfdhmifcmhaaa.Des
