/-
  The walk of DescNew.
-/
import Derived.Test.YtjnohhklbieecaaDeAlive
import Derived.Test.YtjnohhklbieecaaDeIn
namespace Go.Proofs.Ytjnohhklbieecaa.Des
open Go.RowKit Go.Proofs.Ytjnohhklbieecaa.Vals
set_option linter.unusedVariables false
set_option linter.unusedSimpArgs false
attribute [local go_sem ↓] to_ldD to_stD run_eqD run_eqV0
attribute [local go_sem] n2 n3 m2 m3 rowD_drew rowD_drewN rowD_alloc rowD_putc rowD_other putD_drew putD_drewN putD_size putD_alloc setObj_cells run_ldD run_stD okC_dcs okC_lit objRow_dcs one_b one_i one_s objRow_lit dcs_0 dcs_1 dcs_2 dcs_3 dcs_4 dcs_5 dcs_6 dcs_7 dcs_8 dcs_9 dcs_10 dcs_11 dcs_12 dcs_13 dcs_14 dcs_15 dcs_16 dcs_17
attribute [local go_sem low] cell_rowD

attribute [local go_sem] eqV_refl eqD_refl
theorem eq_zero (w : World) : (Op.equalIn 10000 25 (.agg (dcs zeroD)) (.agg #[.bool false, .bool false, .bool false, .bool false, .bool false, .bool false, .int .i64 0, .int .i64 0, .string ⟨#[]⟩, .int .i64 0, .int .i64 0, .string ⟨#[]⟩, .int .i64 0, .int .i64 0, .string ⟨#[]⟩, .bool false, .bool false, .bool false])).run Try.prog w = .ok true w := by
  have := run_eqD zeroD zeroD w
  rw [eqD_refl] at this
  exact this
attribute [local go_sem ↓] eq_zero
set_option maxHeartbeats 8000000 in
set_option maxRecDepth 100000 in
theorem lawNew_no (d n : Ds) (w : World) (fd : Fit d) (hno : rigR d = false ∨ mayF d = false) : Calls Try.prog 8 #[DV d, DV n] w fun e w' => e = .returned (.bool true) ∧ Below w.heap.size w w' := by
  have hmd := may_is fd
  clear fd
  cases h1 : rigR d
  · go_enter Try.func8, Try.ntmps8
    go_wp2_with (first | (go_at_call 9; refine (alive_any _).mono ?_; rintro e w1 ⟨rfl, hb1⟩; have := rowD_call hb1 (show rowD _ (w.heap.size) = some (dcs d) by first | assumption | (simp [rowD_alloc, objRow_dcs, rowD_drew, n2, n3, m2, m3]; done) | (simp [rowD_drew, rowD_alloc, n2, n3, m2, m3, objRow_dcs, objRow_lit, rowD_putc, rowD_other, putD_size, okC_dcs, okC_lit, one_b, one_i, one_s, *]; done)); have := rowD_call hb1 (show rowD _ (w.heap.size + 1) = some (dcs n) by first | assumption | (simp [rowD_alloc, objRow_dcs, rowD_drew, n2, n3, m2, m3]; done) | (simp [rowD_drew, rowD_alloc, n2, n3, m2, m3, objRow_dcs, objRow_lit, rowD_putc, rowD_other, putD_size, okC_dcs, okC_lit, one_b, one_i, one_s, *]; done)); have hbw : Below w.heap.size w w1 := bel_keep hb1 (by first | exact two_bels _ _ _ | exact ball _ _ | exact (by assumption) | exact bel_al (by assumption) | exact bel_drew (by assumption)); clear hb1) | (go_at_call 16; refine (rigr_any d _).mono ?_; rintro e w1 ⟨rfl, hb1⟩; have := rowD_call hb1 (show rowD _ (w.heap.size) = some (dcs d) by first | assumption | (simp [rowD_alloc, objRow_dcs, rowD_drew, n2, n3, m2, m3]; done) | (simp [rowD_drew, rowD_alloc, n2, n3, m2, m3, objRow_dcs, objRow_lit, rowD_putc, rowD_other, putD_size, okC_dcs, okC_lit, one_b, one_i, one_s, *]; done)); have := rowD_call hb1 (show rowD _ (w.heap.size + 1) = some (dcs n) by first | assumption | (simp [rowD_alloc, objRow_dcs, rowD_drew, n2, n3, m2, m3]; done) | (simp [rowD_drew, rowD_alloc, n2, n3, m2, m3, objRow_dcs, objRow_lit, rowD_putc, rowD_other, putD_size, okC_dcs, okC_lit, one_b, one_i, one_s, *]; done)); have hbw : Below w.heap.size w w1 := bel_keep hb1 (by first | exact two_bels _ _ _ | exact ball _ _ | exact (by assumption) | exact bel_al (by assumption) | exact bel_drew (by assumption)); clear hb1))
    all_goals
      go_ret
      exact ⟨by first | rfl | (simp [*]; done), by assumption⟩
  · rcases hno with hno | hno
    · rw [h1] at hno; cases hno
    · go_enter Try.func8, Try.ntmps8
      go_wp2_with (first | (go_at_call 9; refine (alive_any _).mono ?_; rintro e w1 ⟨rfl, hb1⟩; have := rowD_call hb1 (show rowD _ (w.heap.size) = some (dcs d) by first | assumption | (simp [rowD_alloc, objRow_dcs, rowD_drew, n2, n3, m2, m3]; done) | (simp [rowD_drew, rowD_alloc, n2, n3, m2, m3, objRow_dcs, objRow_lit, rowD_putc, rowD_other, putD_size, okC_dcs, okC_lit, one_b, one_i, one_s, *]; done)); have := rowD_call hb1 (show rowD _ (w.heap.size + 1) = some (dcs n) by first | assumption | (simp [rowD_alloc, objRow_dcs, rowD_drew, n2, n3, m2, m3]; done) | (simp [rowD_drew, rowD_alloc, n2, n3, m2, m3, objRow_dcs, objRow_lit, rowD_putc, rowD_other, putD_size, okC_dcs, okC_lit, one_b, one_i, one_s, *]; done)); have hbw : Below w.heap.size w w1 := bel_keep hb1 (by first | exact two_bels _ _ _ | exact ball _ _ | exact (by assumption) | exact bel_al (by assumption) | exact bel_drew (by assumption)); clear hb1) | (go_at_call 16; refine (rigr_any d _).mono ?_; rintro e w1 ⟨rfl, hb1⟩; have := rowD_call hb1 (show rowD _ (w.heap.size) = some (dcs d) by first | assumption | (simp [rowD_alloc, objRow_dcs, rowD_drew, n2, n3, m2, m3]; done) | (simp [rowD_drew, rowD_alloc, n2, n3, m2, m3, objRow_dcs, objRow_lit, rowD_putc, rowD_other, putD_size, okC_dcs, okC_lit, one_b, one_i, one_s, *]; done)); have := rowD_call hb1 (show rowD _ (w.heap.size + 1) = some (dcs n) by first | assumption | (simp [rowD_alloc, objRow_dcs, rowD_drew, n2, n3, m2, m3]; done) | (simp [rowD_drew, rowD_alloc, n2, n3, m2, m3, objRow_dcs, objRow_lit, rowD_putc, rowD_other, putD_size, okC_dcs, okC_lit, one_b, one_i, one_s, *]; done)); have hbw : Below w.heap.size w w1 := bel_keep hb1 (by first | exact two_bels _ _ _ | exact ball _ _ | exact (by assumption) | exact bel_al (by assumption) | exact bel_drew (by assumption)); clear hb1) | (go_at_call 10; with_reducible refine hmd.at.mono ?_; rintro e w1 ⟨rfl, hb1⟩; have := rowD_call hb1 (show rowD _ (w.heap.size) = some (dcs d) by first | assumption | (simp [rowD_alloc, objRow_dcs, rowD_drew, n2, n3, m2, m3]; done) | (simp [rowD_drew, rowD_alloc, n2, n3, m2, m3, objRow_dcs, objRow_lit, rowD_putc, rowD_other, putD_size, okC_dcs, okC_lit, one_b, one_i, one_s, *]; done)); have := rowD_call hb1 (show rowD _ (w.heap.size + 1) = some (dcs n) by first | assumption | (simp [rowD_alloc, objRow_dcs, rowD_drew, n2, n3, m2, m3]; done) | (simp [rowD_drew, rowD_alloc, n2, n3, m2, m3, objRow_dcs, objRow_lit, rowD_putc, rowD_other, putD_size, okC_dcs, okC_lit, one_b, one_i, one_s, *]; done)); have hbw : Below w.heap.size w w1 := bel_keep hb1 (by first | exact two_bels _ _ _ | exact ball _ _ | exact (by assumption) | exact bel_al (by assumption) | exact bel_drew (by assumption)); clear hb1))
      all_goals
        go_ret
        exact ⟨by first | rfl | (simp [*]; done), by assumption⟩
set_option maxHeartbeats 8000000 in
set_option maxRecDepth 100000 in
theorem lawNew_yes (d n : Ds) (w : World) (fd : Fit d) (h1 : rigR d = true) (h2 : mayF d = true) (b1 b2 b3 : Bool) (q1 : d.he = b1) (q2 : d.hc = b2) (q3 : d.hw = b3) : Calls Try.prog 8 #[DV d, DV n] w fun e w' => e = .returned (.bool true) ∧ Below w.heap.size w w' := by
  have hmd := may_is fd
  clear fd
  obtain ⟨r1, r2, r3, r4, r5⟩ := new_is (n := n) h1
  obtain ⟨c, hc⟩ : ∃ c, compF d = c := ⟨_, rfl⟩
  have hC : ∀ w, Calls Try.prog 19 #[DV d] w fun e w' => e = .returned (DV (compF d)) ∧ Below w.heap.size w w' := comp_any d
  rw [hc] at r1 r3 r4 r5 hC
  have hA := app_is r1
  have hB := app_is r2
  have HC := Lib.hid hC
  clear hc hC r1 r2
  cases b1 <;> cases b2 <;> cases b3 <;> simp only [q1, q2, q3, Bool.false_eq_true, false_or, true_or] at r3 r4 r5
  all_goals
    go_enter Try.func8, Try.ntmps8
    go_wp2_with (first | (go_at_call 9; refine (alive_any _).mono ?_; rintro e w1 ⟨rfl, hb1⟩; have := rowD_call hb1 (show rowD _ (w.heap.size) = some (dcs d) by first | assumption | (simp [rowD_alloc, objRow_dcs, rowD_drew, n2, n3, m2, m3]; done) | (simp [rowD_drew, rowD_alloc, n2, n3, m2, m3, objRow_dcs, objRow_lit, rowD_putc, rowD_other, putD_size, okC_dcs, okC_lit, one_b, one_i, one_s, *]; done)); have := rowD_call hb1 (show rowD _ (w.heap.size + 1) = some (dcs n) by first | assumption | (simp [rowD_alloc, objRow_dcs, rowD_drew, n2, n3, m2, m3]; done) | (simp [rowD_drew, rowD_alloc, n2, n3, m2, m3, objRow_dcs, objRow_lit, rowD_putc, rowD_other, putD_size, okC_dcs, okC_lit, one_b, one_i, one_s, *]; done)); have hbw : Below w.heap.size w w1 := bel_keep hb1 (by first | exact two_bels _ _ _ | exact ball _ _ | exact (by assumption) | exact bel_al (by assumption) | exact bel_drew (by assumption)); clear hb1) | (go_at_call 16; refine (rigr_any d _).mono ?_; rintro e w1 ⟨rfl, hb1⟩; have := rowD_call hb1 (show rowD _ (w.heap.size) = some (dcs d) by first | assumption | (simp [rowD_alloc, objRow_dcs, rowD_drew, n2, n3, m2, m3]; done) | (simp [rowD_drew, rowD_alloc, n2, n3, m2, m3, objRow_dcs, objRow_lit, rowD_putc, rowD_other, putD_size, okC_dcs, okC_lit, one_b, one_i, one_s, *]; done)); have := rowD_call hb1 (show rowD _ (w.heap.size + 1) = some (dcs n) by first | assumption | (simp [rowD_alloc, objRow_dcs, rowD_drew, n2, n3, m2, m3]; done) | (simp [rowD_drew, rowD_alloc, n2, n3, m2, m3, objRow_dcs, objRow_lit, rowD_putc, rowD_other, putD_size, okC_dcs, okC_lit, one_b, one_i, one_s, *]; done)); have hbw : Below w.heap.size w w1 := bel_keep hb1 (by first | exact two_bels _ _ _ | exact ball _ _ | exact (by assumption) | exact bel_al (by assumption) | exact bel_drew (by assumption)); clear hb1) | (go_at_call 10; with_reducible refine hmd.at.mono ?_; rintro e w1 ⟨rfl, hb1⟩; have := rowD_call hb1 (show rowD _ (w.heap.size) = some (dcs d) by first | assumption | (simp [rowD_alloc, objRow_dcs, rowD_drew, n2, n3, m2, m3]; done) | (simp [rowD_drew, rowD_alloc, n2, n3, m2, m3, objRow_dcs, objRow_lit, rowD_putc, rowD_other, putD_size, okC_dcs, okC_lit, one_b, one_i, one_s, *]; done)); have := rowD_call hb1 (show rowD _ (w.heap.size + 1) = some (dcs n) by first | assumption | (simp [rowD_alloc, objRow_dcs, rowD_drew, n2, n3, m2, m3]; done) | (simp [rowD_drew, rowD_alloc, n2, n3, m2, m3, objRow_dcs, objRow_lit, rowD_putc, rowD_other, putD_size, okC_dcs, okC_lit, one_b, one_i, one_s, *]; done)); have hbw : Below w.heap.size w w1 := bel_keep hb1 (by first | exact two_bels _ _ _ | exact ball _ _ | exact (by assumption) | exact bel_al (by assumption) | exact bel_drew (by assumption)); clear hb1) | (go_at_call 21; with_reducible refine hA.at.mono ?_; rintro e u1 ⟨rfl, hb1⟩; have := rowD_call hb1 (show rowD _ (w.heap.size) = some (dcs d) by first | assumption | (simp [rowD_alloc, objRow_dcs, rowD_drew, n2, n3, m2, m3]; done) | (simp [rowD_drew, rowD_alloc, n2, n3, m2, m3, objRow_dcs, objRow_lit, rowD_putc, rowD_other, putD_size, okC_dcs, okC_lit, one_b, one_i, one_s, *]; done)); have := rowD_call hb1 (show rowD _ (w.heap.size + 1) = some (dcs n) by first | assumption | (simp [rowD_alloc, objRow_dcs, rowD_drew, n2, n3, m2, m3]; done) | (simp [rowD_drew, rowD_alloc, n2, n3, m2, m3, objRow_dcs, objRow_lit, rowD_putc, rowD_other, putD_size, okC_dcs, okC_lit, one_b, one_i, one_s, *]; done)); have := blk_ne (w := u1) (g := w.heap.size) (cs := dcs d) (by assumption); have := blk_ne (w := u1) (g := w.heap.size + 1) (cs := dcs n) (by assumption); have hbw : Below w.heap.size w u1 := bel_keep hb1 (by first | exact two_bels _ _ _ | exact ball _ _ | exact (by assumption) | exact bel_al (by assumption) | exact bel_drew (by assumption)); clear hb1) | (go_at_call 21; with_reducible refine hB.at.mono ?_; rintro e u2 ⟨rfl, hb1⟩; have := rowD_call hb1 (show rowD _ (w.heap.size) = some (dcs d) by first | assumption | (simp [rowD_alloc, objRow_dcs, rowD_drew, n2, n3, m2, m3]; done) | (simp [rowD_drew, rowD_alloc, n2, n3, m2, m3, objRow_dcs, objRow_lit, rowD_putc, rowD_other, putD_size, okC_dcs, okC_lit, one_b, one_i, one_s, *]; done)); have := rowD_call hb1 (show rowD _ (u1.heap.size) = some (dcs c) by first | assumption | (simp [rowD_alloc, objRow_dcs, rowD_drew, n2, n3, m2, m3]; done) | (simp [rowD_drew, rowD_alloc, n2, n3, m2, m3, objRow_dcs, objRow_lit, rowD_putc, rowD_other, putD_size, okC_dcs, okC_lit, one_b, one_i, one_s, *]; done)); have := blk_ne (w := u2) (g := w.heap.size) (cs := dcs d) (by assumption); have := blk_ne (w := u2) (g := u1.heap.size) (cs := dcs c) (by assumption); have hbw : Below w.heap.size w u2 := bel_keep hb1 (by first | exact two_bels _ _ _ | exact ball _ _ | exact (by assumption) | exact bel_al (by assumption) | exact bel_drew (by assumption)); clear hb1))
    have F0 : ∀ p : Wd (S1 w [(w.heap.size, dcs d), (u1.heap.size, dcs c), (u2.heap.size, dcs zeroD)]), rowD p.w (w.heap.size) = some (dcs d) := fun p => wd_row (.head _) p
    have F1 : ∀ p : Wd (S1 w [(w.heap.size, dcs d), (u1.heap.size, dcs c), (u2.heap.size, dcs zeroD)]), rowD p.w (u1.heap.size) = some (dcs c) := fun p => wd_row (.tail _ (.head _)) p
    have F2 : ∀ p : Wd (S1 w [(w.heap.size, dcs d), (u1.heap.size, dcs c), (u2.heap.size, dcs zeroD)]), rowD p.w (u2.heap.size) = some (dcs zeroD) := fun p => wd_row (.tail _ (.tail _ (.head _))) p
    refine region_in (B := w) [(w.heap.size, dcs d), (u1.heap.size, dcs c), (u2.heap.size, dcs zeroD)] (by kernel_rfl) (by kernel_rfl) (s1_cons (by first | assumption | (simp [rowD_alloc, objRow_dcs, rowD_drew, n2, n3, m2, m3]; done) | (simp [rowD_drew, rowD_alloc, n2, n3, m2, m3, objRow_dcs, objRow_lit, rowD_putc, rowD_other, putD_size, okC_dcs, okC_lit, one_b, one_i, one_s, *]; done)) (s1_cons (by first | assumption | (simp [rowD_alloc, objRow_dcs, rowD_drew, n2, n3, m2, m3]; done) | (simp [rowD_drew, rowD_alloc, n2, n3, m2, m3, objRow_dcs, objRow_lit, rowD_putc, rowD_other, putD_size, okC_dcs, okC_lit, one_b, one_i, one_s, *]; done)) (s1_cons (by first | assumption | (simp [rowD_alloc, objRow_dcs, rowD_drew, n2, n3, m2, m3]; done) | (simp [rowD_drew, rowD_alloc, n2, n3, m2, m3, objRow_dcs, objRow_lit, rowD_putc, rowD_other, putD_size, okC_dcs, okC_lit, one_b, one_i, one_s, *]; done)) (s1_nil (by first | assumption | exact bel_al (by assumption)))))) (fun hne => ?_)
    repeat (go_big_quiet_step (first | (exact in_call (by with_reducible exact HC.out _))))
    refine wpQuiet_nil ?_
    intro w1 hw1
    have hS := in_out hw1
    have := hS.row (g := w.heap.size) (cs := dcs d) (.head _)
    have := hS.row (g := u1.heap.size) (cs := dcs c) (.tail _ (.head _))
    have := hS.row (g := u2.heap.size) (cs := dcs zeroD) (.tail _ (.tail _ (.head _)))
    have hbw := hS.1
    clear hS hw1 hne F0 F1 F2
    go_wp2
    go_ret
    exact ⟨by first | rfl | (simp [*]; done), by assumption⟩
theorem lawNew_walk (d n : Ds) (w : World) (fd : Fit d) : Calls Try.prog 8 #[DV d, DV n] w fun e w' => e = .returned (.bool true) ∧ Below w.heap.size w w' := by
  cases h1 : rigR d
  · exact lawNew_no d n w fd (.inl h1)
  · cases h2 : mayF d
    · exact lawNew_no d n w fd (.inr h2)
    · exact lawNew_yes d n w fd h1 h2 _ _ _ rfl rfl rfl
end Go.Proofs.Ytjnohhklbieecaa.Des
