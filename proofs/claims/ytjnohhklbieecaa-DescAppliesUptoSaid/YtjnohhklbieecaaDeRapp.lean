/-
  The reference's Apply: what it gives.
-/
import Derived.Test.YtjnohhklbieecaaDeRea
import Derived.Test.YtjnohhklbieecaaDeReb
import Derived.Test.YtjnohhklbieecaaDeRec
import Derived.Test.YtjnohhklbieecaaDeRee
import Derived.Test.YtjnohhklbieecaaDeAppl
namespace Go.Proofs.Ytjnohhklbieecaa.Des
open Go.RowKit Go.Proofs.Ytjnohhklbieecaa.Vals
set_option linter.unusedVariables false
set_option linter.unusedSimpArgs false
attribute [local go_sem ↓] to_ldD to_stD run_eqD run_eqV0
attribute [local go_sem] n2 n3 m2 m3 rowD_drew rowD_drewN rowD_alloc rowD_putc rowD_other putD_drew putD_drewN putD_size putD_alloc setObj_cells run_ldD run_stD okC_dcs okC_lit objRow_dcs one_b one_i one_s objRow_lit dcs_0 dcs_1 dcs_2 dcs_3 dcs_4 dcs_5 dcs_6 dcs_7 dcs_8 dcs_9 dcs_10 dcs_11 dcs_12 dcs_13 dcs_14 dcs_15 dcs_16 dcs_17
attribute [local go_sem low] cell_rowD

theorem rapp_any (x : Bool) (d : Ds) (h : Bool) (n : Ds) (w : World) : Calls Try.prog 22 #[.bool x, DV d, .bool h, DV n] w fun e w' => e = .returned (DB (appR x d h n)) ∧ Below w.heap.size w w' := by
  cases hE : (!rigR d || (h && !whR n) || !h) with
  | true => exact rapp_early x d h n w hE
  | false =>
    simp at hE
    obtain ⟨⟨hR, hW⟩, rfl⟩ := hE
    have hW := hW rfl
    unfold DB
    cases hf : f1F d n
    · cases ha : accF d <;> cases hd : datF d <;> cases hn : datF n <;> cases hm : accF n <;> cases hc : n.c <;> cases h4 : t4F d n <;> cases h5 : t5F d n <;> simp only [appR, hR, hW, hf, ha, hd, hn, hm, hc, h4, h5, Bool.not_true, Bool.not_false, Bool.and_true, Bool.true_and, Bool.and_false, Bool.false_and, Bool.or_false, Bool.or_true, Bool.or_self, Bool.and_self, if_true, if_false, Bool.false_eq_true]
      all_goals first
        | exact rapp_a x d n w hR hW hf ha hd
        | exact rapp_btt x d n w hR hW hf ha hd hn h4
        | exact rapp_btf x d n w hR hW hf ha hd hn h4
        | exact rapp_but x d n w hR hW hf ha hd hn h4
        | exact rapp_buf x d n w hR hW hf ha hd hn h4
        | exact rapp_ctf x d n w hR hW hf ha hd hm h5
        | exact rapp_cuf x d n w hR hW hf ha hd hm h5
        | exact rapp_ctt x d n w hR hW hf ha hd hn hm h5
        | exact rapp_cut x d n w hR hW hf ha hd hn hm h5
        | exact rapp_ddt x d n w hR hW hf hc ha hd hn
        | exact rapp_daf x d n w hR hW hf hc ha hd hm
        | exact rapp_dat x d n w hR hW hf hc ha hd hn hm
        | exact rapp_edt x d n w hR hW hf hc ha hd hn
        | exact rapp_eaf x d n w hR hW hf hc ha hd hm
        | exact rapp_eat x d n w hR hW hf hc ha hd hn hm
    · have e : appR x d true n = (zeroD, false) := by simp [appR, hR, hW, hf]
      rw [e]
      exact rapp_f x d n w hR hW hf
end Go.Proofs.Ytjnohhklbieecaa.Des
