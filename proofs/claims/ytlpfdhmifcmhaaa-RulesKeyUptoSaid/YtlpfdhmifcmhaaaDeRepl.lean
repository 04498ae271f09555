/-
  replaced: what it gives.
-/
import Derived.Test.YtlpfdhmifcmhaaaDeMid
import Derived.Deep.CutRange
import Derived.Deep.DeepCutAuto
import Derived.BigRegion
namespace Go.Proofs.Ytlpfdhmifcmhaaa.Des
open Go.RowKit Go.Proofs.Ytlpfdhmifcmhaaa.Vals
set_option linter.unusedVariables false
set_option linter.unusedSimpArgs false
attribute [local go_sem ↓] to_ldD to_stD run_eqD run_eqV0
attribute [local go_sem] n2 n3 m2 m3 rowD_drew rowD_drewN rowD_alloc rowD_putc rowD_other putD_drew putD_drewN putD_size putD_alloc setObj_cells run_ldD run_stD okC_dcs okC_lit objRow_dcs one_b one_i one_s objRow_lit dcs_0 dcs_1 dcs_2 dcs_3 dcs_4 dcs_5 dcs_6 dcs_7 dcs_8 dcs_9 dcs_10 dcs_11 dcs_12 dcs_13 dcs_14 dcs_15 dcs_16 dcs_17
attribute [local go_sem low] cell_rowD

theorem World.setCell_drewN (w : World) (n : Nat) (a : Addr) (v : Value) : (w.drewN n).setCell a v = (w.setCell a v).drewN n := rfl
theorem World.alloc_drewN (w : World) (n : Nat) (o : Obj) : (w.drewN n).alloc o = (w.alloc o).drewN n := rfl
theorem heap3 (w : World) (a b c : Obj) : (((w.alloc a).alloc b).alloc c).heap[w.heap.size + 1 + 1]? = some c := by
  have e2 : ((w.alloc a).alloc b).heap.size = w.heap.size + 1 + 1 := by simp
  have := heap_alloc_new ((w.alloc a).alloc b) c
  rw [e2] at this
  exact this
attribute [local go_sem] World.setCell_drewN World.alloc_drewN
def replF (x y : Ds) : Ds := ⟨y.hv || x.hv, y.hg || x.hg, y.hs || x.hs, y.hw || x.hw, y.he || x.he, y.hc || x.hc, ⟨cond y.hv y.v.k x.v.k, cond y.hv y.v.n x.v.n, cond y.hv y.v.s x.v.s⟩, ⟨cond y.hg y.g.k x.g.k, cond y.hg y.g.n x.g.n, cond y.hg y.g.s x.g.s⟩, ⟨cond y.hs y.s.k x.s.k, cond y.hs y.s.n x.s.n, cond y.hs y.s.s x.s.s⟩, cond y.hw y.w x.w, cond y.he y.e x.e, cond y.hc y.c x.c⟩
set_option maxHeartbeats 4000000 in
theorem repl_any (x y : Ds) (w : World) :
    Calls Try.prog 49 #[DV x, DV y] w fun en w' => en = .returned (DV (replF x y)) ∧ Below w.heap.size w w' := by
  have hdx : dcs x = #[.bool (x.hv), .bool (x.hg), .bool (x.hs), .bool (x.hw), .bool (x.he), .bool (x.hc), .int .i64 (x.v.k), .int .i64 (x.v.n), .string (x.v.s), .int .i64 (x.g.k), .int .i64 (x.g.n), .string (x.g.s), .int .i64 (x.s.k), .int .i64 (x.s.n), .string (x.s.s), .bool (x.w), .bool (x.e), .bool (x.c)] := rfl
  have hyl : (dcs y).size = 18 := rfl
  unfold DV
  rw [hdx]
  clear hdx hyl
  go_enter Try.func49, Try.ntmps49
  go_upto_if 6 with fail
  go_cut [] from 5 to 41 (fun wx => ∃ z0 z6 z7 z8 q, Hid (z0 = (y.hv || x.hv) ∧ z6 = cond y.hv y.v.k x.v.k ∧ z7 = cond y.hv y.v.n x.v.n ∧ z8 = cond y.hv y.v.s x.v.s) ∧ wx = (((w.alloc (.cells #[.bool (z0), .bool (x.hg), .bool (x.hs), .bool (x.hw), .bool (x.he), .bool (x.hc), .int .i64 (z6), .int .i64 (z7), .string (z8), .int .i64 (x.g.k), .int .i64 (x.g.n), .string (x.g.s), .int .i64 (x.s.k), .int .i64 (x.s.n), .string (x.s.s), .bool (x.w), .bool (x.e), .bool (x.c)] 28)).alloc (.cells (dcs y) 28)).alloc (.cells #[.bool false, .bool false, .bool false, .bool false, .bool false, .bool false, .int .i64 0, .int .i64 0, .string ⟨#[]⟩, .int .i64 0, .int .i64 0, .string ⟨#[]⟩, .int .i64 0, .int .i64 0, .string ⟨#[]⟩, .bool false, .bool false, .bool false] 28)).drewN q)
  case first =>
    cases hy : y.hv
    · go_wp2
      go_meet
      case rel => exact ⟨x.hv, x.v.k, x.v.n, x.v.s, 0, ⟨(by simp [hy]), (by simp [hy]), (by simp [hy]), (by simp [hy])⟩, rfl⟩
    · go_wp2
      go_region
      all_goals (go_wp2_with fail; go_meet; exact ⟨true, y.v.k, y.v.n, y.v.s, 1, ⟨(by simp [hy]), (by simp [hy]), (by simp [hy]), (by simp [hy])⟩, rfl⟩)
  case rest =>
  obtain ⟨z0, z6, z7, z8, q0, h0, rfl⟩ := hcut
  go_upto_if 12 with fail
  go_cut [] from 5 to 41 (fun wx => ∃ z3 z15 q, Hid (z3 = (y.hw || x.hw) ∧ z15 = cond y.hw y.w x.w) ∧ wx = (((w.alloc (.cells #[.bool (z0), .bool (x.hg), .bool (x.hs), .bool (z3), .bool (x.he), .bool (x.hc), .int .i64 (z6), .int .i64 (z7), .string (z8), .int .i64 (x.g.k), .int .i64 (x.g.n), .string (x.g.s), .int .i64 (x.s.k), .int .i64 (x.s.n), .string (x.s.s), .bool (z15), .bool (x.e), .bool (x.c)] 28)).alloc (.cells (dcs y) 28)).alloc (.cells #[.bool false, .bool false, .bool false, .bool false, .bool false, .bool false, .int .i64 0, .int .i64 0, .string ⟨#[]⟩, .int .i64 0, .int .i64 0, .string ⟨#[]⟩, .int .i64 0, .int .i64 0, .string ⟨#[]⟩, .bool false, .bool false, .bool false] 28)).drewN q)
  case first =>
    cases hy : y.hw
    · go_wp2
      go_meet
      case rel => exact ⟨x.hw, x.w, _, ⟨(by simp [hy]), (by simp [hy])⟩, rfl⟩
    · go_wp2
      go_region
      all_goals (go_wp2_with fail; go_meet; exact ⟨true, y.w, _, ⟨(by simp [hy]), (by simp [hy])⟩, rfl⟩)
  case rest =>
  obtain ⟨z3, z15, q1, h1, rfl⟩ := hcut
  go_upto_if 18 with fail
  go_cut [] from 5 to 41 (fun wx => ∃ z1 z9 z10 z11 q, Hid (z1 = (y.hg || x.hg) ∧ z9 = cond y.hg y.g.k x.g.k ∧ z10 = cond y.hg y.g.n x.g.n ∧ z11 = cond y.hg y.g.s x.g.s) ∧ wx = (((w.alloc (.cells #[.bool (z0), .bool (z1), .bool (x.hs), .bool (z3), .bool (x.he), .bool (x.hc), .int .i64 (z6), .int .i64 (z7), .string (z8), .int .i64 (z9), .int .i64 (z10), .string (z11), .int .i64 (x.s.k), .int .i64 (x.s.n), .string (x.s.s), .bool (z15), .bool (x.e), .bool (x.c)] 28)).alloc (.cells (dcs y) 28)).alloc (.cells #[.bool false, .bool false, .bool false, .bool false, .bool false, .bool false, .int .i64 0, .int .i64 0, .string ⟨#[]⟩, .int .i64 0, .int .i64 0, .string ⟨#[]⟩, .int .i64 0, .int .i64 0, .string ⟨#[]⟩, .bool false, .bool false, .bool false] 28)).drewN q)
  case first =>
    cases hy : y.hg
    · go_wp2
      go_meet
      case rel => exact ⟨x.hg, x.g.k, x.g.n, x.g.s, _, ⟨(by simp [hy]), (by simp [hy]), (by simp [hy]), (by simp [hy])⟩, rfl⟩
    · go_wp2
      go_region
      all_goals (go_wp2_with fail; go_meet; exact ⟨true, y.g.k, y.g.n, y.g.s, _, ⟨(by simp [hy]), (by simp [hy]), (by simp [hy]), (by simp [hy])⟩, rfl⟩)
  case rest =>
  obtain ⟨z1, z9, z10, z11, q2, h2, rfl⟩ := hcut
  go_upto_if 24 with fail
  go_cut [] from 5 to 41 (fun wx => ∃ z2 z12 z13 z14 q, Hid (z2 = (y.hs || x.hs) ∧ z12 = cond y.hs y.s.k x.s.k ∧ z13 = cond y.hs y.s.n x.s.n ∧ z14 = cond y.hs y.s.s x.s.s) ∧ wx = (((w.alloc (.cells #[.bool (z0), .bool (z1), .bool (z2), .bool (z3), .bool (x.he), .bool (x.hc), .int .i64 (z6), .int .i64 (z7), .string (z8), .int .i64 (z9), .int .i64 (z10), .string (z11), .int .i64 (z12), .int .i64 (z13), .string (z14), .bool (z15), .bool (x.e), .bool (x.c)] 28)).alloc (.cells (dcs y) 28)).alloc (.cells #[.bool false, .bool false, .bool false, .bool false, .bool false, .bool false, .int .i64 0, .int .i64 0, .string ⟨#[]⟩, .int .i64 0, .int .i64 0, .string ⟨#[]⟩, .int .i64 0, .int .i64 0, .string ⟨#[]⟩, .bool false, .bool false, .bool false] 28)).drewN q)
  case first =>
    cases hy : y.hs
    · go_wp2
      go_meet
      case rel => exact ⟨x.hs, x.s.k, x.s.n, x.s.s, _, ⟨(by simp [hy]), (by simp [hy]), (by simp [hy]), (by simp [hy])⟩, rfl⟩
    · go_wp2
      go_region
      all_goals (go_wp2_with fail; go_meet; exact ⟨true, y.s.k, y.s.n, y.s.s, _, ⟨(by simp [hy]), (by simp [hy]), (by simp [hy]), (by simp [hy])⟩, rfl⟩)
  case rest =>
  obtain ⟨z2, z12, z13, z14, q3, h3, rfl⟩ := hcut
  go_upto_if 30 with fail
  go_cut [] from 5 to 41 (fun wx => ∃ z4 z16 q, Hid (z4 = (y.he || x.he) ∧ z16 = cond y.he y.e x.e) ∧ wx = (((w.alloc (.cells #[.bool (z0), .bool (z1), .bool (z2), .bool (z3), .bool (z4), .bool (x.hc), .int .i64 (z6), .int .i64 (z7), .string (z8), .int .i64 (z9), .int .i64 (z10), .string (z11), .int .i64 (z12), .int .i64 (z13), .string (z14), .bool (z15), .bool (z16), .bool (x.c)] 28)).alloc (.cells (dcs y) 28)).alloc (.cells #[.bool false, .bool false, .bool false, .bool false, .bool false, .bool false, .int .i64 0, .int .i64 0, .string ⟨#[]⟩, .int .i64 0, .int .i64 0, .string ⟨#[]⟩, .int .i64 0, .int .i64 0, .string ⟨#[]⟩, .bool false, .bool false, .bool false] 28)).drewN q)
  case first =>
    cases hy : y.he
    · go_wp2
      go_meet
      case rel => exact ⟨x.he, x.e, _, ⟨(by simp [hy]), (by simp [hy])⟩, rfl⟩
    · go_wp2
      go_region
      all_goals (go_wp2_with fail; go_meet; exact ⟨true, y.e, _, ⟨(by simp [hy]), (by simp [hy])⟩, rfl⟩)
  case rest =>
  obtain ⟨z4, z16, q4, h4, rfl⟩ := hcut
  go_upto_if 36 with fail
  go_cut [] from 5 to 41 (fun wx => ∃ z5 z17 q, Hid (z5 = (y.hc || x.hc) ∧ z17 = cond y.hc y.c x.c) ∧ wx = (((w.alloc (.cells #[.bool (z0), .bool (z1), .bool (z2), .bool (z3), .bool (z4), .bool (z5), .int .i64 (z6), .int .i64 (z7), .string (z8), .int .i64 (z9), .int .i64 (z10), .string (z11), .int .i64 (z12), .int .i64 (z13), .string (z14), .bool (z15), .bool (z16), .bool (z17)] 28)).alloc (.cells (dcs y) 28)).alloc (.cells #[.bool false, .bool false, .bool false, .bool false, .bool false, .bool false, .int .i64 0, .int .i64 0, .string ⟨#[]⟩, .int .i64 0, .int .i64 0, .string ⟨#[]⟩, .int .i64 0, .int .i64 0, .string ⟨#[]⟩, .bool false, .bool false, .bool false] 28)).drewN q)
  case first =>
    cases hy : y.hc
    · go_wp2
      go_meet
      case rel => exact ⟨x.hc, x.c, _, ⟨(by simp [hy]), (by simp [hy])⟩, rfl⟩
    · go_wp2
      go_region
      all_goals (go_wp2_with fail; go_meet; exact ⟨true, y.c, _, ⟨(by simp [hy]), (by simp [hy])⟩, rfl⟩)
  case rest =>
  obtain ⟨z5, z17, q5, h5, rfl⟩ := hcut
  go_wp2
  refine bodyPost_ret (v := .agg #[.bool (z0), .bool (z1), .bool (z2), .bool (z3), .bool (z4), .bool (z5), .int .i64 (z6), .int .i64 (z7), .string (z8), .int .i64 (z9), .int .i64 (z10), .string (z11), .int .i64 (z12), .int .i64 (z13), .string (z14), .bool (z15), .bool (z16), .bool (z17)]) (results_cell_row (g := w.heap.size + 1 + 1) Try.results49 _ _ 28 _ (0, 0) _ rfl (heap3 w _ _ _) Try.underlying28 rfl info18) rfl ⟨?_, ?_⟩
  · rw [h0.out.1, h2.out.1, h3.out.1, h1.out.1, h4.out.1, h5.out.1, h0.out.2.1, h0.out.2.2.1, h0.out.2.2.2, h2.out.2.1, h2.out.2.2.1, h2.out.2.2.2, h3.out.2.1, h3.out.2.2.1, h3.out.2.2.2, h1.out.2, h4.out.2, h5.out.2]
    rfl
  · exact below_dn (three_bels w _ _ _) _
end Go.Proofs.Ytlpfdhmifcmhaaa.Des
