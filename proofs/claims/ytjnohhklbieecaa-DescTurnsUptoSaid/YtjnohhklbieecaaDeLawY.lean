/-
  The walk of DescTurns, by what is given (3).
-/
import Derived.Test.YtjnohhklbieecaaDeLawU
namespace Go.Proofs.Ytjnohhklbieecaa.Des
open Go.RowKit Go.Proofs.Ytjnohhklbieecaa.Vals
set_option linter.unusedVariables false
set_option linter.unusedSimpArgs false
attribute [local go_sem ↓] to_ldD to_stD run_eqD run_eqV0
attribute [local go_sem] n2 n3 m2 m3 rowD_drew rowD_drewN rowD_alloc rowD_putc rowD_other putD_drew putD_drewN putD_size putD_alloc setObj_cells run_ldD run_stD okC_dcs okC_lit objRow_dcs one_b one_i one_s objRow_lit dcs_0 dcs_1 dcs_2 dcs_3 dcs_4 dcs_5 dcs_6 dcs_7 dcs_8 dcs_9 dcs_10 dcs_11 dcs_12 dcs_13 dcs_14 dcs_15 dcs_16 dcs_17
attribute [local go_sem low] cell_rowD

attribute [local go_sem] eqV_refl eqD_refl
set_option maxHeartbeats 8000000 in
set_option maxRecDepth 100000 in
theorem lawTurns_fftt (d n : Ds) (x : Bool) (w : World) (fd : Fit d) (fn : Fit n) (h1 : whR n = true) (h2 : n.c = true) (h3 : rigR d = true) (h4 : mayF d = true) (h5 : mayF n = true) (g1 : d.hv = false) (g2 : d.hw = false) (g3 : d.hg = true) (g4 : d.hs = true) : Calls Try.prog 7 #[DV d, DV n, .bool x] w fun e w' => e = .returned (.bool true) ∧ Below w.heap.size w w' := by
  have hmd := may_is fd
  have hmn := may_is fn
  clear fd fn
  obtain ⟨a, hr, ha, f1, f2, f3, f4, f5, f6, f7⟩ := turns (x := x) h3 h1 h2
  have hA := app_is hr
  have hW := wh_is ha
  clear hr ha
  have F1 := Lib.hid f1
  have F2 := Lib.hid f2
  have F3 := Lib.hid f3
  have F4 := Lib.hid f4
  have F5 := Lib.hid f5
  have F6 := Lib.hid f6
  have F7 := Lib.hid f7
  clear f1 f2 f3 f4 f5 f6 f7
  go_enter Try.func7, Try.ntmps7
  go_upto_region 7 with (first | (go_at_call 9; refine (alive_any _).mono ?_; rintro e w1 ⟨rfl, hb1⟩; have := rowD_call hb1 (show rowD _ (w.heap.size) = some (dcs d) by first | assumption | (simp [rowD_alloc, objRow_dcs, rowD_drew, n2, n3, m2, m3]; done) | (simp [rowD_drew, rowD_alloc, n2, n3, m2, m3, objRow_dcs, objRow_lit, rowD_putc, rowD_other, putD_size, okC_dcs, okC_lit, one_b, one_i, one_s, *]; done)); have := rowD_call hb1 (show rowD _ (w.heap.size + 1) = some (dcs n) by first | assumption | (simp [rowD_alloc, objRow_dcs, rowD_drew, n2, n3, m2, m3]; done) | (simp [rowD_drew, rowD_alloc, n2, n3, m2, m3, objRow_dcs, objRow_lit, rowD_putc, rowD_other, putD_size, okC_dcs, okC_lit, one_b, one_i, one_s, *]; done)); have hbw : Below w.heap.size w w1 := bel_keep hb1 (by first | exact two_bels _ _ _ | exact ball _ _ | exact (by assumption) | exact bel_al (by assumption) | exact bel_drew (by assumption)); clear hb1) | (go_at_call 18; refine (whr_any n _).mono ?_; rintro e w1 ⟨rfl, hb1⟩; have := rowD_call hb1 (show rowD _ (w.heap.size) = some (dcs d) by first | assumption | (simp [rowD_alloc, objRow_dcs, rowD_drew, n2, n3, m2, m3]; done) | (simp [rowD_drew, rowD_alloc, n2, n3, m2, m3, objRow_dcs, objRow_lit, rowD_putc, rowD_other, putD_size, okC_dcs, okC_lit, one_b, one_i, one_s, *]; done)); have := rowD_call hb1 (show rowD _ (w.heap.size + 1) = some (dcs n) by first | assumption | (simp [rowD_alloc, objRow_dcs, rowD_drew, n2, n3, m2, m3]; done) | (simp [rowD_drew, rowD_alloc, n2, n3, m2, m3, objRow_dcs, objRow_lit, rowD_putc, rowD_other, putD_size, okC_dcs, okC_lit, one_b, one_i, one_s, *]; done)); have hbw : Below w.heap.size w w1 := bel_keep hb1 (by first | exact two_bels _ _ _ | exact ball _ _ | exact (by assumption) | exact bel_al (by assumption) | exact bel_drew (by assumption)); clear hb1) | (go_at_call 16; refine (rigr_any d _).mono ?_; rintro e w1 ⟨rfl, hb1⟩; have := rowD_call hb1 (show rowD _ (w.heap.size) = some (dcs d) by first | assumption | (simp [rowD_alloc, objRow_dcs, rowD_drew, n2, n3, m2, m3]; done) | (simp [rowD_drew, rowD_alloc, n2, n3, m2, m3, objRow_dcs, objRow_lit, rowD_putc, rowD_other, putD_size, okC_dcs, okC_lit, one_b, one_i, one_s, *]; done)); have := rowD_call hb1 (show rowD _ (w.heap.size + 1) = some (dcs n) by first | assumption | (simp [rowD_alloc, objRow_dcs, rowD_drew, n2, n3, m2, m3]; done) | (simp [rowD_drew, rowD_alloc, n2, n3, m2, m3, objRow_dcs, objRow_lit, rowD_putc, rowD_other, putD_size, okC_dcs, okC_lit, one_b, one_i, one_s, *]; done)); have hbw : Below w.heap.size w w1 := bel_keep hb1 (by first | exact two_bels _ _ _ | exact ball _ _ | exact (by assumption) | exact bel_al (by assumption) | exact bel_drew (by assumption)); clear hb1) | (go_at_call 10; with_reducible refine hmd.at.mono ?_; rintro e w1 ⟨rfl, hb1⟩; have := rowD_call hb1 (show rowD _ (w.heap.size) = some (dcs d) by first | assumption | (simp [rowD_alloc, objRow_dcs, rowD_drew, n2, n3, m2, m3]; done) | (simp [rowD_drew, rowD_alloc, n2, n3, m2, m3, objRow_dcs, objRow_lit, rowD_putc, rowD_other, putD_size, okC_dcs, okC_lit, one_b, one_i, one_s, *]; done)); have := rowD_call hb1 (show rowD _ (w.heap.size + 1) = some (dcs n) by first | assumption | (simp [rowD_alloc, objRow_dcs, rowD_drew, n2, n3, m2, m3]; done) | (simp [rowD_drew, rowD_alloc, n2, n3, m2, m3, objRow_dcs, objRow_lit, rowD_putc, rowD_other, putD_size, okC_dcs, okC_lit, one_b, one_i, one_s, *]; done)); have hbw : Below w.heap.size w w1 := bel_keep hb1 (by first | exact two_bels _ _ _ | exact ball _ _ | exact (by assumption) | exact bel_al (by assumption) | exact bel_drew (by assumption)); clear hb1) | (go_at_call 10; with_reducible refine hmn.at.mono ?_; rintro e w1 ⟨rfl, hb1⟩; have := rowD_call hb1 (show rowD _ (w.heap.size) = some (dcs d) by first | assumption | (simp [rowD_alloc, objRow_dcs, rowD_drew, n2, n3, m2, m3]; done) | (simp [rowD_drew, rowD_alloc, n2, n3, m2, m3, objRow_dcs, objRow_lit, rowD_putc, rowD_other, putD_size, okC_dcs, okC_lit, one_b, one_i, one_s, *]; done)); have := rowD_call hb1 (show rowD _ (w.heap.size + 1) = some (dcs n) by first | assumption | (simp [rowD_alloc, objRow_dcs, rowD_drew, n2, n3, m2, m3]; done) | (simp [rowD_drew, rowD_alloc, n2, n3, m2, m3, objRow_dcs, objRow_lit, rowD_putc, rowD_other, putD_size, okC_dcs, okC_lit, one_b, one_i, one_s, *]; done)); have hbw : Below w.heap.size w w1 := bel_keep hb1 (by first | exact two_bels _ _ _ | exact ball _ _ | exact (by assumption) | exact bel_al (by assumption) | exact bel_drew (by assumption)); clear hb1) | (go_at_call 21; with_reducible refine hA.at.mono ?_; rintro e u1 ⟨rfl, hb1⟩; have := rowD_call hb1 (show rowD _ (w.heap.size) = some (dcs d) by first | assumption | (simp [rowD_alloc, objRow_dcs, rowD_drew, n2, n3, m2, m3]; done) | (simp [rowD_drew, rowD_alloc, n2, n3, m2, m3, objRow_dcs, objRow_lit, rowD_putc, rowD_other, putD_size, okC_dcs, okC_lit, one_b, one_i, one_s, *]; done)); have := rowD_call hb1 (show rowD _ (w.heap.size + 1) = some (dcs n) by first | assumption | (simp [rowD_alloc, objRow_dcs, rowD_drew, n2, n3, m2, m3]; done) | (simp [rowD_drew, rowD_alloc, n2, n3, m2, m3, objRow_dcs, objRow_lit, rowD_putc, rowD_other, putD_size, okC_dcs, okC_lit, one_b, one_i, one_s, *]; done)); have := blk_ne (w := u1) (g := w.heap.size) (cs := dcs d) (by assumption); have := blk_ne (w := u1) (g := w.heap.size + 1) (cs := dcs n) (by assumption); have hbw : Below w.heap.size w u1 := bel_keep hb1 (by first | exact two_bels _ _ _ | exact ball _ _ | exact (by assumption) | exact bel_al (by assumption) | exact bel_drew (by assumption)); clear hb1) | (go_at_call 17; with_reducible refine hW.at.mono ?_; rintro e w1 ⟨rfl, hb1⟩; have := rowD_call hb1 (show rowD _ (w.heap.size) = some (dcs d) by first | assumption | (simp [rowD_alloc, objRow_dcs, rowD_drew, n2, n3, m2, m3]; done) | (simp [rowD_drew, rowD_alloc, n2, n3, m2, m3, objRow_dcs, objRow_lit, rowD_putc, rowD_other, putD_size, okC_dcs, okC_lit, one_b, one_i, one_s, *]; done)); have := rowD_call hb1 (show rowD _ (w.heap.size + 1) = some (dcs n) by first | assumption | (simp [rowD_alloc, objRow_dcs, rowD_drew, n2, n3, m2, m3]; done) | (simp [rowD_drew, rowD_alloc, n2, n3, m2, m3, objRow_dcs, objRow_lit, rowD_putc, rowD_other, putD_size, okC_dcs, okC_lit, one_b, one_i, one_s, *]; done)); have := rowD_call hb1 (show rowD _ (u1.heap.size) = some (dcs a) by first | assumption | (simp [rowD_alloc, objRow_dcs, rowD_drew, n2, n3, m2, m3]; done) | (simp [rowD_drew, rowD_alloc, n2, n3, m2, m3, objRow_dcs, objRow_lit, rowD_putc, rowD_other, putD_size, okC_dcs, okC_lit, one_b, one_i, one_s, *]; done)); have hbw : Below w.heap.size w w1 := bel_keep hb1 (by first | exact two_bels _ _ _ | exact ball _ _ | exact (by assumption) | exact bel_al (by assumption) | exact bel_drew (by assumption)); clear hb1))
  go_cut [95] from 11 to 188 (fun s wx => s = .bool false ∧ Below w.heap.size w wx ∧ rowD wx (w.heap.size) = some (dcs d) ∧ rowD wx (w.heap.size + 1) = some (dcs n) ∧ rowD wx (u1.heap.size) = some (dcs a))
  case first =>
    have f1 := F1.out
    have f2 := F2.out
    rw [h2] at f2
    cases he : d.he <;> cases hc : d.hc <;> simp only [he, hc, cond_true, cond_false] at f1 f2
    all_goals
      go_wp2
      go_meet
      exact ⟨by first | rfl | (simp [*]; done), by first | assumption | exact bel_al (by assumption), by first | assumption | (simp [rowD_alloc, objRow_dcs, rowD_drew, n2, n3, m2, m3]; done) | (simp [rowD_drew, rowD_alloc, n2, n3, m2, m3, objRow_dcs, objRow_lit, rowD_putc, rowD_other, putD_size, okC_dcs, okC_lit, one_b, one_i, one_s, *]; done), by first | assumption | (simp [rowD_alloc, objRow_dcs, rowD_drew, n2, n3, m2, m3]; done) | (simp [rowD_drew, rowD_alloc, n2, n3, m2, m3, objRow_dcs, objRow_lit, rowD_putc, rowD_other, putD_size, okC_dcs, okC_lit, one_b, one_i, one_s, *]; done), by first | assumption | (simp [rowD_alloc, objRow_dcs, rowD_drew, n2, n3, m2, m3]; done) | (simp [rowD_drew, rowD_alloc, n2, n3, m2, m3, objRow_dcs, objRow_lit, rowD_putc, rowD_other, putD_size, okC_dcs, okC_lit, one_b, one_i, one_s, *]; done)⟩
  case rest =>
  obtain ⟨rfl, hb, hr1, hr2, hr3⟩ := hcut
  have f3 := F3.out
  have f4 := F4.out
  have f5 := F5.out
  have f6 := F6.out
  simp only [g1, g2, g3, g4, true_implies, Bool.false_eq_true, false_implies] at f3 f4 f5 f6
  go_upto_region 11 with fail
  go_cut [10] from 11 to 188 (fun s wx => s = .bool (datF a == datF n) ∧ Below w.heap.size w wx ∧ rowD wx (w.heap.size) = some (dcs d) ∧ rowD wx (w.heap.size + 1) = some (dcs n) ∧ rowD wx (u1.heap.size) = some (dcs a))
  case first =>
    clear f3 f4 f5 f6
    have F0 : ∀ p : Wd (S1 w [(w.heap.size, dcs d), (w.heap.size + 1, dcs n), (u1.heap.size, dcs a)]), rowD p.w (w.heap.size) = some (dcs d) := fun p => wd_row (.head _) p
    have F1 : ∀ p : Wd (S1 w [(w.heap.size, dcs d), (w.heap.size + 1, dcs n), (u1.heap.size, dcs a)]), rowD p.w (w.heap.size + 1) = some (dcs n) := fun p => wd_row (.tail _ (.head _)) p
    have F2 : ∀ p : Wd (S1 w [(w.heap.size, dcs d), (w.heap.size + 1, dcs n), (u1.heap.size, dcs a)]), rowD p.w (u1.heap.size) = some (dcs a) := fun p => wd_row (.tail _ (.tail _ (.head _))) p
    refine region_in (B := w) [(w.heap.size, dcs d), (w.heap.size + 1, dcs n), (u1.heap.size, dcs a)] (by kernel_rfl) (by kernel_rfl) (s1_cons (by first | assumption | (simp [rowD_alloc, objRow_dcs, rowD_drew, n2, n3, m2, m3]; done) | (simp [rowD_drew, rowD_alloc, n2, n3, m2, m3, objRow_dcs, objRow_lit, rowD_putc, rowD_other, putD_size, okC_dcs, okC_lit, one_b, one_i, one_s, *]; done)) (s1_cons (by first | assumption | (simp [rowD_alloc, objRow_dcs, rowD_drew, n2, n3, m2, m3]; done) | (simp [rowD_drew, rowD_alloc, n2, n3, m2, m3, objRow_dcs, objRow_lit, rowD_putc, rowD_other, putD_size, okC_dcs, okC_lit, one_b, one_i, one_s, *]; done)) (s1_cons (by first | assumption | (simp [rowD_alloc, objRow_dcs, rowD_drew, n2, n3, m2, m3]; done) | (simp [rowD_drew, rowD_alloc, n2, n3, m2, m3, objRow_dcs, objRow_lit, rowD_putc, rowD_other, putD_size, okC_dcs, okC_lit, one_b, one_i, one_s, *]; done)) (s1_nil (by assumption))))) (fun hne => ?_)
    repeat (go_big_quiet_step (first | (exact in_call (dat_any a _)) | (exact in_call (dat_any n _))))
    refine wpQuiet_nil ?_
    intro w1 hw1
    have hS := in_out hw1
    have := hS.row (g := w.heap.size) (cs := dcs d) (.head _)
    have := hS.row (g := w.heap.size + 1) (cs := dcs n) (.tail _ (.head _))
    have := hS.row (g := u1.heap.size) (cs := dcs a) (.tail _ (.tail _ (.head _)))
    have hbw := hS.1
    clear hS hw1 hne F0 F1 F2
    go_wp2
    go_meet
    exact ⟨rfl, by assumption, by assumption, by assumption, by assumption⟩
  case rest =>
  clear f3 f4 f5 f6
  obtain ⟨rfl, hb, hr1, hr2, hr3⟩ := hcut
  cases hk : (datF a == datF n)
  · go_wp2
    go_ret
    exact ⟨rfl, by assumption⟩
  · obtain ⟨k1, k2, k3, k4⟩ := F7.out (by simpa using hk)
    clear hk
    simp only [g1, g2, g3, g4, true_or, Bool.false_eq_true, false_or] at k1 k2 k3 k4
    go_wp2
    go_ret
    exact ⟨by first | rfl | (simp [*]; done), by assumption⟩
end Go.Proofs.Ytjnohhklbieecaa.Des
