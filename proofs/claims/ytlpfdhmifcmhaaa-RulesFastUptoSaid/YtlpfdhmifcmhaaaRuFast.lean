/-
  The walk of RulesFast.
-/
import Derived.Test.YtlpfdhmifcmhaaaRuAlive
namespace Go.Proofs.Ytlpfdhmifcmhaaa.Des
open Go.RowKit Go.Proofs.Ytlpfdhmifcmhaaa.Vals
set_option linter.unusedVariables false
set_option linter.unusedSimpArgs false
attribute [local go_sem ↓] to_ldD to_stD run_eqD run_eqV0
attribute [local go_sem] n2 n3 m2 m3 rowD_drew rowD_drewN rowD_alloc rowD_putc rowD_other putD_drew putD_drewN putD_size putD_alloc setObj_cells run_ldD run_stD okC_dcs okC_lit objRow_dcs one_b one_i one_s objRow_lit dcs_0 dcs_1 dcs_2 dcs_3 dcs_4 dcs_5 dcs_6 dcs_7 dcs_8 dcs_9 dcs_10 dcs_11 dcs_12 dcs_13 dcs_14 dcs_15 dcs_16 dcs_17
attribute [local go_sem low] cell_rowD

attribute [local go_sem] eqV_refl eqD_refl
theorem rcomp2 {d : Ds} (h : rigR d = true) (w : World) : Calls Try.prog 32 #[DV d] w fun e w' => e = .returned (DV (compF d)) ∧ Below w.heap.size w w' := by
  rw [comp_eq h]
  exact rcomp_any d w
def RcIs (d c : Ds) : Prop := ∀ w, Calls Try.prog 32 #[DV d] w fun e w' => e = .returned (DV c) ∧ Below w.heap.size w w'
theorem RcIs.at {d c : Ds} (hh : RcIs d c) {w : World} : Calls Try.prog 32 #[DV d] w fun e w' => e = .returned (DV c) ∧ Below w.heap.size w w' := hh w
theorem rc_is {d c : Ds} (h : rigR d = true) (hc : compF d = c) : RcIs d c := fun w => hc ▸ rcomp2 h w
/-- What a told property says of the target's. -/
theorem own_fast {x h : Bool} {n d c : Ds} (hd : rigR d = true) (hn : h = true → whR n = true) (hc : compF d = c) (ho : ownF x h n true d = true) :
    (c.c = false → h = true ∧ n.c = false) ∧ (h = true → n.c = false → c.c = false ∧ c.e = n.e ∧ datF c = datF n ∧ (datF n = true → n.w = false → c.w = false ∧ eqV c.v n.v = true)) := by
  have hw : whR c = true := hc ▸ comp_wh hd
  simp only [ownF, if_true, hc, Bool.and_eq_true] at ho
  obtain ⟨_, h2, h3⟩ := ho
  constructor
  · intro hcc
    rw [hcc] at h3
    simp only [Bool.false_or, Bool.and_eq_true, Bool.not_eq_true'] at h3
    exact ⟨h3.1.1, h3.1.2⟩
  · intro hh hnc
    subst hh
    have hr : appF x c true n = ((appF x c true n).1, true) := Prod.ext rfl h2
    obtain ⟨k1, k2, k3, k4⟩ := app_ok hr
    rw [hnc] at k4
    have k4 : kxF c n = true := by simpa using k4
    rw [kx_is] at k4
    clear hr k1 k3 hc hd hn h2 h3
    rcases wh_cases hw with ⟨v, w, e, cc, rfl⟩ | ⟨g, s, e, cc, rfl, _, _⟩ <;> rcases wh_cases k2 with ⟨v2, w2, e2, cc2, rfl⟩ | ⟨g2, s2, e2, cc2, rfl, _, _⟩
    · cases cc <;> cases e <;> cases e2 <;> cases w <;> cases w2 <;> simp [fixA, othF, datF, accF, kvF] at k4 ⊢ <;> exact k4
    · simp [fixA, othF, datF, accF] at k4
    · simp [fixA, othF, datF, accF] at k4
    · cases cc <;> cases e <;> cases e2 <;> simp [fixA, othF, datF, accF] at k4 ⊢
end Go.Proofs.Ytlpfdhmifcmhaaa.Des
