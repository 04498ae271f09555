/-
  Right: what it gives.
-/
import Derived.Test.YtlpfdhmifcmhaaaDeRepl
import Derived.Test.YtlpfdhmifcmhaaaDeIn
namespace Go.Proofs.Ytlpfdhmifcmhaaa.Des
open Go.RowKit Go.Proofs.Ytlpfdhmifcmhaaa.Vals
set_option linter.unusedVariables false
set_option linter.unusedSimpArgs false
attribute [local go_sem ↓] to_ldD to_stD run_eqD run_eqV0
attribute [local go_sem] n2 n3 m2 m3 rowD_drew rowD_drewN rowD_alloc rowD_putc rowD_other putD_drew putD_drewN putD_size putD_alloc setObj_cells run_ldD run_stD okC_dcs okC_lit objRow_dcs one_b one_i one_s objRow_lit dcs_0 dcs_1 dcs_2 dcs_3 dcs_4 dcs_5 dcs_6 dcs_7 dcs_8 dcs_9 dcs_10 dcs_11 dcs_12 dcs_13 dcs_14 dcs_15 dcs_16 dcs_17
attribute [local go_sem low] cell_rowD

def rigF (d : Ds) : Bool := if accF d && datF d then false else canF d.g && canF d.s && eqD (replF zeroD d) d
def CanIs (v : Vl) (b : Bool) : Prop := ∀ w, Calls Try.prog 48 #[VV v] w fun e w' => e = .returned (.bool b) ∧ Below w.heap.size w w'
theorem CanIs.at {v : Vl} {b : Bool} (h : CanIs v b) {w : World} : Calls Try.prog 48 #[VV v] w fun e w' => e = .returned (.bool b) ∧ Below w.heap.size w w' := h w
theorem can_is {v : Vl} {b : Bool} (h : canF v = b) : CanIs v b := fun w => h ▸ can_any v w
theorem repl0_any (d : Ds) (w : World) : Calls Try.prog 49 #[.agg #[.bool false, .bool false, .bool false, .bool false, .bool false, .bool false, .int .i64 0, .int .i64 0, .string ⟨#[]⟩, .int .i64 0, .int .i64 0, .string ⟨#[]⟩, .int .i64 0, .int .i64 0, .string ⟨#[]⟩, .bool false, .bool false, .bool false], DV d] w fun e w' => e = .returned (DV (replF zeroD d)) ∧ Below w.heap.size w w' := repl_any zeroD d w
set_option maxHeartbeats 8000000 in
set_option maxRecDepth 100000 in
theorem rig_x (d : Ds) (w : World) (a t c s : Bool) (ha : accF d = a) (ht : datF d = t) (hc : canF d.g = c) (hs : canF d.s = s) (had : (a && t) = false) : Calls Try.prog 41 #[DV d] w fun en w' => en = .returned (.bool (c && s && eqD (replF zeroD d) d)) ∧ Below w.heap.size w w' := by
  have HC := can_is hc
  have HS := can_is hs
  clear hc hs
  cases a <;> cases t <;> cases c <;> cases s <;> simp only [Bool.and_self, Bool.and_false, Bool.false_and, Bool.true_and, reduceCtorEq] at had
  all_goals
    go_enter Try.func41, Try.ntmps41
    go_wp2_with (first | (go_at_call 47; refine (acc_any d _).mono ?_; rintro e w1 ⟨rfl, hb1⟩; have := rowD_call hb1 (show rowD _ (w.heap.size) = some (dcs d) by first | assumption | (simp [rowD_alloc, objRow_dcs, rowD_drew, n2, n3, m2, m3]; done) | (simp [rowD_drew, rowD_alloc, n2, n3, m2, m3, objRow_dcs, objRow_lit, rowD_putc, rowD_other, putD_size, okC_dcs, okC_lit, one_b, one_i, one_s, *]; done)); have hbw : Below w.heap.size w w1 := bel_keep hb1 (by first | assumption | exact two_bels _ _ _ | exact three_bels _ _ _ _ | exact ball _ _ | exact bel_drew (two_bels _ _ _) | exact bel_drew (three_bels _ _ _ _) | exact bel_drew (ball _ _) | exact bel_drew (by assumption) | exact bel_put (by assumption) (by omega) _); clear hb1) | (go_at_call 39; refine (dat_any d _).mono ?_; rintro e w1 ⟨rfl, hb1⟩; have := rowD_call hb1 (show rowD _ (w.heap.size) = some (dcs d) by first | assumption | (simp [rowD_alloc, objRow_dcs, rowD_drew, n2, n3, m2, m3]; done) | (simp [rowD_drew, rowD_alloc, n2, n3, m2, m3, objRow_dcs, objRow_lit, rowD_putc, rowD_other, putD_size, okC_dcs, okC_lit, one_b, one_i, one_s, *]; done)); have hbw : Below w.heap.size w w1 := bel_keep hb1 (by first | assumption | exact two_bels _ _ _ | exact three_bels _ _ _ _ | exact ball _ _ | exact bel_drew (two_bels _ _ _) | exact bel_drew (three_bels _ _ _ _) | exact bel_drew (ball _ _) | exact bel_drew (by assumption) | exact bel_put (by assumption) (by omega) _); clear hb1))
    have F0 : ∀ p : Wd (S1 w [(w.heap.size, dcs d)]), rowD p.w (w.heap.size) = some (dcs d) := fun p => wd_row (.head _) p
    refine region_in (B := w) [(w.heap.size, dcs d)] (by kernel_rfl) (by kernel_rfl) (s1_cons (by first | assumption | (simp [rowD_alloc, objRow_dcs, rowD_drew, n2, n3, m2, m3]; done) | (simp [rowD_drew, rowD_alloc, n2, n3, m2, m3, objRow_dcs, objRow_lit, rowD_putc, rowD_other, putD_size, okC_dcs, okC_lit, one_b, one_i, one_s, *]; done)) (s1_nil (by assumption))) (fun hne => ?_)
    repeat (go_big_quiet_step (first | (exact in_call (by with_reducible exact HC.at)) | (exact in_call (by with_reducible exact HS.at)) | (exact in_call (repl0_any d _))))
    refine wpQuiet_nil ?_
    intro w1 hw1
    have hS := in_out hw1
    have := hS.row (g := w.heap.size) (cs := dcs d) (.head _)
    have hbw := hS.1
    clear hS hw1 hne F0
    go_wp2
    go_ret
    exact ⟨by simp, by assumption⟩
theorem rig_no (d : Ds) (w : World) (ha : accF d = true) (ht : datF d = true) : Calls Try.prog 41 #[DV d] w fun en w' => en = .returned (.bool false) ∧ Below w.heap.size w w' := by
  go_enter Try.func41, Try.ntmps41
  go_wp2_with (first | (go_at_call 47; refine (acc_any d _).mono ?_; rintro e w1 ⟨rfl, hb1⟩; have := rowD_call hb1 (show rowD _ (w.heap.size) = some (dcs d) by first | assumption | (simp [rowD_alloc, objRow_dcs, rowD_drew, n2, n3, m2, m3]; done) | (simp [rowD_drew, rowD_alloc, n2, n3, m2, m3, objRow_dcs, objRow_lit, rowD_putc, rowD_other, putD_size, okC_dcs, okC_lit, one_b, one_i, one_s, *]; done)); have hbw : Below w.heap.size w w1 := bel_keep hb1 (by first | assumption | exact two_bels _ _ _ | exact three_bels _ _ _ _ | exact ball _ _ | exact bel_drew (two_bels _ _ _) | exact bel_drew (three_bels _ _ _ _) | exact bel_drew (ball _ _) | exact bel_drew (by assumption) | exact bel_put (by assumption) (by omega) _); clear hb1) | (go_at_call 39; refine (dat_any d _).mono ?_; rintro e w1 ⟨rfl, hb1⟩; have := rowD_call hb1 (show rowD _ (w.heap.size) = some (dcs d) by first | assumption | (simp [rowD_alloc, objRow_dcs, rowD_drew, n2, n3, m2, m3]; done) | (simp [rowD_drew, rowD_alloc, n2, n3, m2, m3, objRow_dcs, objRow_lit, rowD_putc, rowD_other, putD_size, okC_dcs, okC_lit, one_b, one_i, one_s, *]; done)); have hbw : Below w.heap.size w w1 := bel_keep hb1 (by first | assumption | exact two_bels _ _ _ | exact three_bels _ _ _ _ | exact ball _ _ | exact bel_drew (two_bels _ _ _) | exact bel_drew (three_bels _ _ _ _) | exact bel_drew (ball _ _) | exact bel_drew (by assumption) | exact bel_put (by assumption) (by omega) _); clear hb1))
  go_ret
  exact ⟨rfl, by assumption⟩
theorem rig_any (d : Ds) (w : World) : Calls Try.prog 41 #[DV d] w fun en w' => en = .returned (.bool (rigF d)) ∧ Below w.heap.size w w' := by
  cases h : accF d && datF d with
  | true =>
    have e : rigF d = false := by simp [rigF, h]
    rw [e]
    simp at h
    exact rig_no d w h.1 h.2
  | false =>
    have e : rigF d = (canF d.g && canF d.s && eqD (replF zeroD d) d) := by simp [rigF, h]
    rw [e]
    exact rig_x d w _ _ _ _ rfl rfl rfl rfl h
end Go.Proofs.Ytlpfdhmifcmhaaa.Des
