/-
  Complete, converted, added: what they give.
-/
import Derived.Test.YtlpfdhmifcmhaaaDeRepl
import Derived.Test.YtlpfdhmifcmhaaaDeClear
import Derived.Deep.RegionHeld3
namespace Go.Proofs.Ytlpfdhmifcmhaaa.Des
open Go.RowKit Go.Proofs.Ytlpfdhmifcmhaaa.Vals
set_option linter.unusedVariables false
set_option linter.unusedSimpArgs false
attribute [local go_sem ↓] to_ldD to_stD run_eqD run_eqV0
attribute [local go_sem] n2 n3 m2 m3 rowD_drew rowD_drewN rowD_alloc rowD_putc rowD_other putD_drew putD_drewN putD_size putD_alloc setObj_cells run_ldD run_stD okC_dcs okC_lit objRow_dcs one_b one_i one_s objRow_lit dcs_0 dcs_1 dcs_2 dcs_3 dcs_4 dcs_5 dcs_6 dcs_7 dcs_8 dcs_9 dcs_10 dcs_11 dcs_12 dcs_13 dcs_14 dcs_15 dcs_16 dcs_17
attribute [local go_sem low] cell_rowD

def compF (d : Ds) : Ds := replF (clearF d) d
def convA (d : Ds) : Ds := ⟨false, datF d, false, false, true, true, zeroV, zeroV, zeroV, false, d.e, d.c⟩
def convF (d : Ds) : Ds := compF (convA d)
set_option maxHeartbeats 4000000 in
set_option maxRecDepth 100000 in
theorem comp_any (d : Ds) (w : World) : Calls Try.prog 42 #[DV d] w fun en w' => en = .returned (DV (compF d)) ∧ Below w.heap.size w w' := by
  go_enter Try.func42, Try.ntmps42
  go_wp2
  go_region_held3 (fun w' => Below w.heap.size w w' ∧ rowD w' w.heap.size = some (dcs d) ∧ (rowD w' (w.heap.size + 1)).isSome = true)
    (first | exact ⟨bel_drew (two_bels _ _ _), by simp [rowD_alloc, rowD_drew, objRow_dcs], by simp [rowD_alloc, rowD_drew, objRow_lit]⟩ | (go_split_ands; exact ⟨bel_keep (by assumption) (by assumption), rowD_call (by assumption) (by assumption), is_call (by assumption) (by assumption)⟩) | (go_split_ands; exact ⟨bel_put (by assumption) (by omega) _, (rowD_other _ _ _ _ (by omega)).trans (by assumption), by rw [rowD_put _ _ _ (by assumption) (dcs_size _)]; rfl⟩))
    (first
      | (go_at_call 50; refine (clear_any d _).mono ?_; rintro e w3 ⟨rfl, hb3⟩; have := is_call hb3 (show (rowD _ (w.heap.size + 1)).isSome = true by first | assumption | (simp [rowD_alloc, objRow_dcs, objRow_lit, rowD_drew, n2, n3, m2, m3]; done) | (simp [rowD_drew, rowD_alloc, n2, n3, m2, m3, objRow_dcs, objRow_lit, rowD_putc, rowD_other, putD_size, okC_dcs, okC_lit, one_b, one_i, one_s, *]; done)))
      | (go_at_call 49; refine (repl_any (clearF d) d _).mono ?_; rintro e w4 ⟨rfl, hb4⟩; have := is_call hb4 (show (rowD _ (w.heap.size + 1)).isSome = true by first | assumption | (simp [rowD_alloc, objRow_dcs, objRow_lit, rowD_drew, n2, n3, m2, m3]; done) | (simp [rowD_drew, rowD_alloc, n2, n3, m2, m3, objRow_dcs, objRow_lit, rowD_putc, rowD_other, putD_size, okC_dcs, okC_lit, one_b, one_i, one_s, *]; done))))
  go_split_ands
  go_wp2
  exact bodyPost_ret (res_rowD Try.results42 _ _ (w.heap.size + 1) _ rfl (rowD_put _ _ _ (by assumption) rfl)) rfl ⟨rfl, by assumption⟩
set_option maxHeartbeats 4000000 in
set_option maxRecDepth 100000 in
theorem conv_any (d : Ds) (w : World) : Calls Try.prog 55 #[DV d] w fun en w' => en = .returned (DV (convF d)) ∧ Below w.heap.size w w' := by
  go_enter Try.func55, Try.ntmps55
  go_wp2
  go_region_held3 (fun w' => Below w.heap.size w w' ∧ rowD w' w.heap.size = some (dcs d) ∧ (rowD w' (w.heap.size + 1)).isSome = true)
    (first | exact ⟨bel_drew (two_bels _ _ _), by simp [rowD_alloc, rowD_drew, objRow_dcs], by simp [rowD_alloc, rowD_drew, objRow_lit]⟩ | (go_split_ands; exact ⟨bel_keep (by assumption) (by assumption), rowD_call (by assumption) (by assumption), is_call (by assumption) (by assumption)⟩) | (go_split_ands; exact ⟨bel_put (by assumption) (by omega) _, (rowD_other _ _ _ _ (by omega)).trans (by assumption), by rw [rowD_put _ _ _ (by assumption) (dcs_size _)]; rfl⟩))
    (first
      | (go_at_call 39; refine (dat_any d _).mono ?_; rintro e w3 ⟨rfl, hb3⟩; have := is_call hb3 (show (rowD _ (w.heap.size + 1)).isSome = true by first | assumption | (simp [rowD_alloc, objRow_dcs, objRow_lit, rowD_drew, n2, n3, m2, m3]; done) | (simp [rowD_drew, rowD_alloc, n2, n3, m2, m3, objRow_dcs, objRow_lit, rowD_putc, rowD_other, putD_size, okC_dcs, okC_lit, one_b, one_i, one_s, *]; done)))
      | (go_at_call 42; refine (comp_any (convA d) _).mono ?_; rintro e w4 ⟨rfl, hb4⟩; have := is_call hb4 (show (rowD _ (w.heap.size + 1)).isSome = true by first | assumption | (simp [rowD_alloc, objRow_dcs, objRow_lit, rowD_drew, n2, n3, m2, m3]; done) | (simp [rowD_drew, rowD_alloc, n2, n3, m2, m3, objRow_dcs, objRow_lit, rowD_putc, rowD_other, putD_size, okC_dcs, okC_lit, one_b, one_i, one_s, *]; done))))
  go_split_ands
  go_wp2
  exact bodyPost_ret (res_rowD Try.results55 _ _ (w.heap.size + 1) _ rfl (rowD_put _ _ _ (by assumption) rfl)) rfl ⟨rfl, by assumption⟩
def addF (x : Bool) (d : Ds) : Ds := if x then compF d else zeroD
theorem add_any (x : Bool) (d : Ds) (w : World) : Calls Try.prog 52 #[.bool x, DV d] w fun en w' => en = .returned (.tuple #[DV (addF x d), .bool x]) ∧ Below w.heap.size w w' := by
  cases x
  · go_enter Try.func52, Try.ntmps52
    go_wp2
    exact bodyPost_ret (res2_rowD Try.results52 _ _ (w.heap.size + 1) _ rfl (by simp [rowD_alloc, objRow_lit]; rfl)) rfl ⟨rfl, two_bels _ _ _⟩
  · go_enter Try.func52, Try.ntmps52
    go_wp2_with (go_at_call 42; refine (comp_any d _).mono ?_; rintro e w3 ⟨rfl, hb3⟩; have := is_call hb3 (show (rowD _ (w.heap.size + 1)).isSome = true by first | assumption | (simp [rowD_alloc, objRow_dcs, objRow_lit, rowD_drew, n2, n3, m2, m3]; done) | (simp [rowD_drew, rowD_alloc, n2, n3, m2, m3, objRow_dcs, objRow_lit, rowD_putc, rowD_other, putD_size, okC_dcs, okC_lit, one_b, one_i, one_s, *]; done)); have hbw : Below w.heap.size w w3 := bel_keep hb3 (two_bels _ _ _); clear hb3)
    exact bodyPost_ret (res2_rowD Try.results52 _ _ (w.heap.size + 1) _ rfl (rowD_put _ _ _ (by assumption) rfl)) rfl ⟨rfl, bel_put hbw (by omega) _⟩
end Go.Proofs.Ytlpfdhmifcmhaaa.Des
