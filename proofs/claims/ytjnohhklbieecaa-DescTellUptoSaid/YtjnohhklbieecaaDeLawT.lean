/-
  The walk of DescTell.
-/
import Derived.Test.YtjnohhklbieecaaDeAlive
import Derived.Test.YtjnohhklbieecaaDeIn
namespace Go.Proofs.Ytjnohhklbieecaa.Des
open Go.RowKit Go.Proofs.Ytjnohhklbieecaa.Vals
set_option linter.unusedVariables false
set_option linter.unusedSimpArgs false
attribute [local go_sem ↓] to_ldD to_stD run_eqD run_eqV0
attribute [local go_sem] n2 n3 m2 m3 rowD_drew rowD_drewN rowD_alloc rowD_putc rowD_other putD_drew putD_drewN putD_size putD_alloc setObj_cells run_ldD run_stD okC_dcs okC_lit objRow_dcs one_b one_i one_s objRow_lit dcs_0 dcs_1 dcs_2 dcs_3 dcs_4 dcs_5 dcs_6 dcs_7 dcs_8 dcs_9 dcs_10 dcs_11 dcs_12 dcs_13 dcs_14 dcs_15 dcs_16 dcs_17
attribute [local go_sem low] cell_rowD

attribute [local go_sem] eqV_refl eqD_refl
theorem rigr2_any (d : Ds) (w : World) : Calls Try.prog 16 #[DV d] w fun e w' => e = .returned (.bool (rigF d)) ∧ Below w.heap.size w w' := by
  rw [rig_eq]
  exact rigr_any d w
theorem whr2_any (d : Ds) (w : World) : Calls Try.prog 18 #[DV d] w fun e w' => e = .returned (.bool (whF d)) ∧ Below w.heap.size w w' := by
  rw [wh_eq]
  exact whr_any d w
theorem rcomp2 {d : Ds} (h : rigR d = true) (w : World) : Calls Try.prog 20 #[DV d] w fun e w' => e = .returned (DV (compF d)) ∧ Below w.heap.size w w' := by
  rw [comp_eq h]
  exact rcomp_any d w
theorem comp2 {c : Ds} (h : whR c = true) (w : World) : Calls Try.prog 19 #[DV c] w fun e w' => e = .returned (DV c) ∧ Below w.heap.size w w' := by
  have := comp_any c w
  rw [comp_same h] at this
  exact this
set_option maxHeartbeats 8000000 in
set_option maxRecDepth 100000 in
theorem lawTell_walk (d : Ds) (w : World) (fd : Fit d) : Calls Try.prog 3 #[DV d] w fun e w' => e = .returned (.bool true) ∧ Below w.heap.size w w' := by
  have hmd := may_is fd
  clear fd
  cases hm : mayF d
  · go_enter Try.func3, Try.ntmps3
    go_wp2_with (first | (go_at_call 9; refine (alive_any _).mono ?_; rintro e w1 ⟨rfl, hb1⟩; have := rowD_call hb1 (show rowD _ (w.heap.size) = some (dcs d) by first | assumption | (simp [rowD_alloc, objRow_dcs, rowD_drew, n2, n3, m2, m3]; done) | (simp [rowD_drew, rowD_alloc, n2, n3, m2, m3, objRow_dcs, objRow_lit, rowD_putc, rowD_other, putD_size, okC_dcs, okC_lit, one_b, one_i, one_s, *]; done)); have hbw : Below w.heap.size w w1 := bel_keep hb1 (by first | exact two_bels _ _ _ | exact ball _ _ | exact (by assumption) | exact bel_al (by assumption) | exact bel_drew (by assumption)); clear hb1) | (go_at_call 10; with_reducible refine hmd.at.mono ?_; rintro e w1 ⟨rfl, hb1⟩; have := rowD_call hb1 (show rowD _ (w.heap.size) = some (dcs d) by first | assumption | (simp [rowD_alloc, objRow_dcs, rowD_drew, n2, n3, m2, m3]; done) | (simp [rowD_drew, rowD_alloc, n2, n3, m2, m3, objRow_dcs, objRow_lit, rowD_putc, rowD_other, putD_size, okC_dcs, okC_lit, one_b, one_i, one_s, *]; done)); have hbw : Below w.heap.size w w1 := bel_keep hb1 (by first | exact two_bels _ _ _ | exact ball _ _ | exact (by assumption) | exact bel_al (by assumption) | exact bel_drew (by assumption)); clear hb1))
    all_goals
      go_ret
      exact ⟨by first | rfl | (simp [*]; done), by assumption⟩
  · cases hri : rigF d
    · go_enter Try.func3, Try.ntmps3
      go_wp2_with (first | (go_at_call 9; refine (alive_any _).mono ?_; rintro e w1 ⟨rfl, hb1⟩; have := rowD_call hb1 (show rowD _ (w.heap.size) = some (dcs d) by first | assumption | (simp [rowD_alloc, objRow_dcs, rowD_drew, n2, n3, m2, m3]; done) | (simp [rowD_drew, rowD_alloc, n2, n3, m2, m3, objRow_dcs, objRow_lit, rowD_putc, rowD_other, putD_size, okC_dcs, okC_lit, one_b, one_i, one_s, *]; done)); have hbw : Below w.heap.size w w1 := bel_keep hb1 (by first | exact two_bels _ _ _ | exact ball _ _ | exact (by assumption) | exact bel_al (by assumption) | exact bel_drew (by assumption)); clear hb1) | (go_at_call 10; with_reducible refine hmd.at.mono ?_; rintro e w1 ⟨rfl, hb1⟩; have := rowD_call hb1 (show rowD _ (w.heap.size) = some (dcs d) by first | assumption | (simp [rowD_alloc, objRow_dcs, rowD_drew, n2, n3, m2, m3]; done) | (simp [rowD_drew, rowD_alloc, n2, n3, m2, m3, objRow_dcs, objRow_lit, rowD_putc, rowD_other, putD_size, okC_dcs, okC_lit, one_b, one_i, one_s, *]; done)); have hbw : Below w.heap.size w w1 := bel_keep hb1 (by first | exact two_bels _ _ _ | exact ball _ _ | exact (by assumption) | exact bel_al (by assumption) | exact bel_drew (by assumption)); clear hb1))
      have F0 : ∀ p : Wd (S1 w [(w.heap.size, dcs d)]), rowD p.w (w.heap.size) = some (dcs d) := fun p => wd_row (.head _) p
      refine region_in (B := w) [(w.heap.size, dcs d)] (by kernel_rfl) (by kernel_rfl) (s1_cons (by first | assumption | (simp [rowD_alloc, objRow_dcs, rowD_drew, n2, n3, m2, m3]; done) | (simp [rowD_drew, rowD_alloc, n2, n3, m2, m3, objRow_dcs, objRow_lit, rowD_putc, rowD_other, putD_size, okC_dcs, okC_lit, one_b, one_i, one_s, *]; done)) (s1_nil (by assumption))) (fun hne => ?_)
      repeat (go_big_quiet_step (first | (exact in_call (acc_any d _)) | (exact in_call (racc_any d _)) | (exact in_call (dat_any d _)) | (exact in_call (rdat_any d _)) | (exact in_call (rig_any d _)) | (exact in_call (rigr2_any d _)) | (exact in_call (wh_any d _)) | (exact in_call (whr2_any d _))))
      refine wpQuiet_nil ?_
      intro w1 hw1
      have hS := in_out hw1
      have := hS.row (g := w.heap.size) (cs := dcs d) (.head _)
      have hbw := hS.1
      clear hS hw1 hne F0
      go_wp2_with (go_at_call 15; refine (rig_any d _).mono ?_; rintro e w1 ⟨rfl, hb1⟩; have := rowD_call hb1 (show rowD _ (w.heap.size) = some (dcs d) by first | assumption | (simp [rowD_alloc, objRow_dcs, rowD_drew, n2, n3, m2, m3]; done) | (simp [rowD_drew, rowD_alloc, n2, n3, m2, m3, objRow_dcs, objRow_lit, rowD_putc, rowD_other, putD_size, okC_dcs, okC_lit, one_b, one_i, one_s, *]; done)); have hbw : Below w.heap.size w w1 := bel_keep hb1 (by first | exact two_bels _ _ _ | exact ball _ _ | exact (by assumption) | exact bel_al (by assumption) | exact bel_drew (by assumption)); clear hb1)
      all_goals
        go_ret
        exact ⟨by first | rfl | (simp [*]; done), by assumption⟩
    · have hr : rigR d = true := by rw [← rig_eq]; exact hri
      obtain ⟨c, hc⟩ : ∃ c, compF d = c := ⟨_, rfl⟩
      have hRC := rcomp2 hr
      have hwc := comp_wh hr
      have hD : ∀ w, Calls Try.prog 19 #[DV d] w fun e w' => e = .returned (DV (compF d)) ∧ Below w.heap.size w w' := comp_any d
      rw [hc] at hRC hwc hD
      have hWC := wh_is hwc
      have hCC := comp2 hwc
      have HRC := Lib.hid hRC
      have HCC := Lib.hid hCC
      have HD := Lib.hid hD
      clear hc hwc hr hRC hCC hD
      go_enter Try.func3, Try.ntmps3
      go_wp2_with (first | (go_at_call 9; refine (alive_any _).mono ?_; rintro e w1 ⟨rfl, hb1⟩; have := rowD_call hb1 (show rowD _ (w.heap.size) = some (dcs d) by first | assumption | (simp [rowD_alloc, objRow_dcs, rowD_drew, n2, n3, m2, m3]; done) | (simp [rowD_drew, rowD_alloc, n2, n3, m2, m3, objRow_dcs, objRow_lit, rowD_putc, rowD_other, putD_size, okC_dcs, okC_lit, one_b, one_i, one_s, *]; done)); have hbw : Below w.heap.size w w1 := bel_keep hb1 (by first | exact two_bels _ _ _ | exact ball _ _ | exact (by assumption) | exact bel_al (by assumption) | exact bel_drew (by assumption)); clear hb1) | (go_at_call 10; with_reducible refine hmd.at.mono ?_; rintro e w1 ⟨rfl, hb1⟩; have := rowD_call hb1 (show rowD _ (w.heap.size) = some (dcs d) by first | assumption | (simp [rowD_alloc, objRow_dcs, rowD_drew, n2, n3, m2, m3]; done) | (simp [rowD_drew, rowD_alloc, n2, n3, m2, m3, objRow_dcs, objRow_lit, rowD_putc, rowD_other, putD_size, okC_dcs, okC_lit, one_b, one_i, one_s, *]; done)); have hbw : Below w.heap.size w w1 := bel_keep hb1 (by first | exact two_bels _ _ _ | exact ball _ _ | exact (by assumption) | exact bel_al (by assumption) | exact bel_drew (by assumption)); clear hb1))
      have F0 : ∀ p : Wd (S1 w [(w.heap.size, dcs d)]), rowD p.w (w.heap.size) = some (dcs d) := fun p => wd_row (.head _) p
      refine region_in (B := w) [(w.heap.size, dcs d)] (by kernel_rfl) (by kernel_rfl) (s1_cons (by first | assumption | (simp [rowD_alloc, objRow_dcs, rowD_drew, n2, n3, m2, m3]; done) | (simp [rowD_drew, rowD_alloc, n2, n3, m2, m3, objRow_dcs, objRow_lit, rowD_putc, rowD_other, putD_size, okC_dcs, okC_lit, one_b, one_i, one_s, *]; done)) (s1_nil (by assumption))) (fun hne => ?_)
      repeat (go_big_quiet_step (first | (exact in_call (acc_any d _)) | (exact in_call (racc_any d _)) | (exact in_call (dat_any d _)) | (exact in_call (rdat_any d _)) | (exact in_call (rig_any d _)) | (exact in_call (rigr2_any d _)) | (exact in_call (wh_any d _)) | (exact in_call (whr2_any d _))))
      refine wpQuiet_nil ?_
      intro w1 hw1
      have hS := in_out hw1
      have := hS.row (g := w.heap.size) (cs := dcs d) (.head _)
      have hbw := hS.1
      clear hS hw1 hne F0
      go_wp2_with (first | (go_at_call 15; refine (rig_any d _).mono ?_; rintro e w1 ⟨rfl, hb1⟩; have := rowD_call hb1 (show rowD _ (w.heap.size) = some (dcs d) by first | assumption | (simp [rowD_alloc, objRow_dcs, rowD_drew, n2, n3, m2, m3]; done) | (simp [rowD_drew, rowD_alloc, n2, n3, m2, m3, objRow_dcs, objRow_lit, rowD_putc, rowD_other, putD_size, okC_dcs, okC_lit, one_b, one_i, one_s, *]; done)); have hbw : Below w.heap.size w w1 := bel_keep hb1 (by first | exact two_bels _ _ _ | exact ball _ _ | exact (by assumption) | exact bel_al (by assumption) | exact bel_drew (by assumption)); clear hb1) | (go_at_call 19; with_reducible refine (HD.out _).mono ?_; rintro e u1 ⟨rfl, hb1⟩; have := rowD_call hb1 (show rowD _ (w.heap.size) = some (dcs d) by first | assumption | (simp [rowD_alloc, objRow_dcs, rowD_drew, n2, n3, m2, m3]; done) | (simp [rowD_drew, rowD_alloc, n2, n3, m2, m3, objRow_dcs, objRow_lit, rowD_putc, rowD_other, putD_size, okC_dcs, okC_lit, one_b, one_i, one_s, *]; done)); have := blk_ne (w := u1) (g := w.heap.size) (cs := dcs d) (by assumption); have hbw : Below w.heap.size w u1 := bel_keep hb1 (by first | exact two_bels _ _ _ | exact ball _ _ | exact (by assumption) | exact bel_al (by assumption) | exact bel_drew (by assumption)); clear hb1))
      have F0 : ∀ p : Wd (S1 w [(w.heap.size, dcs d), (u1.heap.size, dcs c)]), rowD p.w (w.heap.size) = some (dcs d) := fun p => wd_row (.head _) p
      have F1 : ∀ p : Wd (S1 w [(w.heap.size, dcs d), (u1.heap.size, dcs c)]), rowD p.w (u1.heap.size) = some (dcs c) := fun p => wd_row (.tail _ (.head _)) p
      refine region_in (B := w) [(w.heap.size, dcs d), (u1.heap.size, dcs c)] (by kernel_rfl) (by kernel_rfl) (s1_cons (by first | assumption | (simp [rowD_alloc, objRow_dcs, rowD_drew, n2, n3, m2, m3]; done) | (simp [rowD_drew, rowD_alloc, n2, n3, m2, m3, objRow_dcs, objRow_lit, rowD_putc, rowD_other, putD_size, okC_dcs, okC_lit, one_b, one_i, one_s, *]; done)) (s1_cons (by first | assumption | (simp [rowD_alloc, objRow_dcs, rowD_drew, n2, n3, m2, m3]; done) | (simp [rowD_drew, rowD_alloc, n2, n3, m2, m3, objRow_dcs, objRow_lit, rowD_putc, rowD_other, putD_size, okC_dcs, okC_lit, one_b, one_i, one_s, *]; done)) (s1_nil (by first | assumption | exact bel_al (by assumption))))) (fun hne => ?_)
      repeat (go_big_quiet_step (first | (exact in_call (by with_reducible exact HRC.out _)) | (exact in_call (by with_reducible exact hWC.at)) | (exact in_call (by with_reducible exact HCC.out _))))
      refine wpQuiet_nil ?_
      intro w1 hw1
      have hS := in_out hw1
      have := hS.row (g := w.heap.size) (cs := dcs d) (.head _)
      have := hS.row (g := u1.heap.size) (cs := dcs c) (.tail _ (.head _))
      have hbw := hS.1
      clear hS hw1 hne F0 F1
      go_wp2
      go_ret
      exact ⟨by first | rfl | (simp [*]; done), by assumption⟩
end Go.Proofs.Ytjnohhklbieecaa.Des
