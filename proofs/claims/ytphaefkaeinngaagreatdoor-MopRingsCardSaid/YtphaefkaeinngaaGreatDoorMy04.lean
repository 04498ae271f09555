/-
  Texts of this seat in build order: DeRepl, DeIn, DeRight, DeRdesc, DeWhole, DeClear, DeComp.
-/
import Derived.Test.YtphaefkaeinngaaGreatDoorMy03
import Derived.Deep.CutRange
import Derived.Deep.DeepCutAuto
import Derived.BigRegion
import Derived.Test.YtphaefkaeinngaaGreatDoorMy02
import Derived.BigQuiet
import Derived.WalkKit
import Derived.Deep.RegionHeld3
/-
  replaced: what it gives.
-/
namespace Go.Proofs.YtphaefkaeinngaaGreatDoor.Des
open Go.RowKit Go.Proofs.YtphaefkaeinngaaGreatDoor.Vals
set_option linter.unusedVariables false
set_option linter.unusedSimpArgs false
attribute [local go_sem ↓] to_ldD to_stD run_eqD run_eqV0
attribute [local go_sem] n2 n3 m2 m3 rowD_drew rowD_drewN rowD_alloc rowD_putc rowD_other putD_drew putD_drewN putD_size putD_alloc setObj_cells run_ldD run_stD okC_dcs okC_lit objRow_dcs one_b one_i one_s objRow_lit dcs_0 dcs_1 dcs_2 dcs_3 dcs_4 dcs_5 dcs_6 dcs_7 dcs_8 dcs_9 dcs_10 dcs_11 dcs_12 dcs_13 dcs_14 dcs_15 dcs_16 dcs_17
attribute [local go_sem low] cell_rowD
theorem World.setCell_drewN (w : World) (n : Nat) (a : Addr) (v : Value) : (w.drewN n).setCell a v = (w.setCell a v).drewN n := rfl
theorem World.alloc_drewN (w : World) (n : Nat) (o : Obj) : (w.drewN n).alloc o = (w.alloc o).drewN n := rfl
theorem heap3 (w : World) (a b c : Obj) : (((w.alloc a).alloc b).alloc c).heap[w.heap.size + 1 + 1]? = some c := by
  have e2 : ((w.alloc a).alloc b).heap.size = w.heap.size + 1 + 1 := by simp
  have := heap_alloc_new ((w.alloc a).alloc b) c
  rw [e2] at this
  exact this
attribute [local go_sem] World.setCell_drewN World.alloc_drewN
def replF (x y : Ds) : Ds := ⟨y.hv || x.hv, y.hg || x.hg, y.hs || x.hs, y.hw || x.hw, y.he || x.he, y.hc || x.hc, ⟨cond y.hv y.v.k x.v.k, cond y.hv y.v.n x.v.n, cond y.hv y.v.s x.v.s⟩, ⟨cond y.hg y.g.k x.g.k, cond y.hg y.g.n x.g.n, cond y.hg y.g.s x.g.s⟩, ⟨cond y.hs y.s.k x.s.k, cond y.hs y.s.n x.s.n, cond y.hs y.s.s x.s.s⟩, cond y.hw y.w x.w, cond y.he y.e x.e, cond y.hc y.c x.c⟩
set_option maxHeartbeats 4000000 in
theorem repl_any (x y : Ds) (w : World) :
    Calls Tryz.prog 119 #[DV x, DV y] w fun en w' => en = .returned (DV (replF x y)) ∧ Below w.heap.size w w' := by
  have hdx : dcs x = #[.bool (x.hv), .bool (x.hg), .bool (x.hs), .bool (x.hw), .bool (x.he), .bool (x.hc), .int .i64 (x.v.k), .int .i64 (x.v.n), .string (x.v.s), .int .i64 (x.g.k), .int .i64 (x.g.n), .string (x.g.s), .int .i64 (x.s.k), .int .i64 (x.s.n), .string (x.s.s), .bool (x.w), .bool (x.e), .bool (x.c)] := rfl
  have hyl : (dcs y).size = 18 := rfl
  unfold DV
  rw [hdx]
  clear hdx hyl
  go_enter Tryz.func119, Tryz.ntmps119
  go_upto_if 6 with fail
  go_cut [] from 5 to 41 (fun wx => ∃ z0 z6 z7 z8 q, Hid (z0 = (y.hv || x.hv) ∧ z6 = cond y.hv y.v.k x.v.k ∧ z7 = cond y.hv y.v.n x.v.n ∧ z8 = cond y.hv y.v.s x.v.s) ∧ wx = (((w.alloc (.cells #[.bool (z0), .bool (x.hg), .bool (x.hs), .bool (x.hw), .bool (x.he), .bool (x.hc), .int .i64 (z6), .int .i64 (z7), .string (z8), .int .i64 (x.g.k), .int .i64 (x.g.n), .string (x.g.s), .int .i64 (x.s.k), .int .i64 (x.s.n), .string (x.s.s), .bool (x.w), .bool (x.e), .bool (x.c)] 34)).alloc (.cells (dcs y) 34)).alloc (.cells #[.bool false, .bool false, .bool false, .bool false, .bool false, .bool false, .int .i64 0, .int .i64 0, .string ⟨#[]⟩, .int .i64 0, .int .i64 0, .string ⟨#[]⟩, .int .i64 0, .int .i64 0, .string ⟨#[]⟩, .bool false, .bool false, .bool false] 34)).drewN q)
  case first =>
    cases hy : y.hv
    · go_wp2
      go_meet
      case rel => exact ⟨x.hv, x.v.k, x.v.n, x.v.s, 0, ⟨(by simp [hy]), (by simp [hy]), (by simp [hy]), (by simp [hy])⟩, rfl⟩
    · go_wp2
      go_region
      all_goals (go_wp2_with fail; go_meet; exact ⟨true, y.v.k, y.v.n, y.v.s, 1, ⟨(by simp [hy]), (by simp [hy]), (by simp [hy]), (by simp [hy])⟩, rfl⟩)
  case rest =>
  obtain ⟨z0, z6, z7, z8, q0, h0, rfl⟩ := hcut
  go_upto_if 12 with fail
  go_cut [] from 5 to 41 (fun wx => ∃ z3 z15 q, Hid (z3 = (y.hw || x.hw) ∧ z15 = cond y.hw y.w x.w) ∧ wx = (((w.alloc (.cells #[.bool (z0), .bool (x.hg), .bool (x.hs), .bool (z3), .bool (x.he), .bool (x.hc), .int .i64 (z6), .int .i64 (z7), .string (z8), .int .i64 (x.g.k), .int .i64 (x.g.n), .string (x.g.s), .int .i64 (x.s.k), .int .i64 (x.s.n), .string (x.s.s), .bool (z15), .bool (x.e), .bool (x.c)] 34)).alloc (.cells (dcs y) 34)).alloc (.cells #[.bool false, .bool false, .bool false, .bool false, .bool false, .bool false, .int .i64 0, .int .i64 0, .string ⟨#[]⟩, .int .i64 0, .int .i64 0, .string ⟨#[]⟩, .int .i64 0, .int .i64 0, .string ⟨#[]⟩, .bool false, .bool false, .bool false] 34)).drewN q)
  case first =>
    cases hy : y.hw
    · go_wp2
      go_meet
      case rel => exact ⟨x.hw, x.w, _, ⟨(by simp [hy]), (by simp [hy])⟩, rfl⟩
    · go_wp2
      go_region
      all_goals (go_wp2_with fail; go_meet; exact ⟨true, y.w, _, ⟨(by simp [hy]), (by simp [hy])⟩, rfl⟩)
  case rest =>
  obtain ⟨z3, z15, q1, h1, rfl⟩ := hcut
  go_upto_if 18 with fail
  go_cut [] from 5 to 41 (fun wx => ∃ z1 z9 z10 z11 q, Hid (z1 = (y.hg || x.hg) ∧ z9 = cond y.hg y.g.k x.g.k ∧ z10 = cond y.hg y.g.n x.g.n ∧ z11 = cond y.hg y.g.s x.g.s) ∧ wx = (((w.alloc (.cells #[.bool (z0), .bool (z1), .bool (x.hs), .bool (z3), .bool (x.he), .bool (x.hc), .int .i64 (z6), .int .i64 (z7), .string (z8), .int .i64 (z9), .int .i64 (z10), .string (z11), .int .i64 (x.s.k), .int .i64 (x.s.n), .string (x.s.s), .bool (z15), .bool (x.e), .bool (x.c)] 34)).alloc (.cells (dcs y) 34)).alloc (.cells #[.bool false, .bool false, .bool false, .bool false, .bool false, .bool false, .int .i64 0, .int .i64 0, .string ⟨#[]⟩, .int .i64 0, .int .i64 0, .string ⟨#[]⟩, .int .i64 0, .int .i64 0, .string ⟨#[]⟩, .bool false, .bool false, .bool false] 34)).drewN q)
  case first =>
    cases hy : y.hg
    · go_wp2
      go_meet
      case rel => exact ⟨x.hg, x.g.k, x.g.n, x.g.s, _, ⟨(by simp [hy]), (by simp [hy]), (by simp [hy]), (by simp [hy])⟩, rfl⟩
    · go_wp2
      go_region
      all_goals (go_wp2_with fail; go_meet; exact ⟨true, y.g.k, y.g.n, y.g.s, _, ⟨(by simp [hy]), (by simp [hy]), (by simp [hy]), (by simp [hy])⟩, rfl⟩)
  case rest =>
  obtain ⟨z1, z9, z10, z11, q2, h2, rfl⟩ := hcut
  go_upto_if 24 with fail
  go_cut [] from 5 to 41 (fun wx => ∃ z2 z12 z13 z14 q, Hid (z2 = (y.hs || x.hs) ∧ z12 = cond y.hs y.s.k x.s.k ∧ z13 = cond y.hs y.s.n x.s.n ∧ z14 = cond y.hs y.s.s x.s.s) ∧ wx = (((w.alloc (.cells #[.bool (z0), .bool (z1), .bool (z2), .bool (z3), .bool (x.he), .bool (x.hc), .int .i64 (z6), .int .i64 (z7), .string (z8), .int .i64 (z9), .int .i64 (z10), .string (z11), .int .i64 (z12), .int .i64 (z13), .string (z14), .bool (z15), .bool (x.e), .bool (x.c)] 34)).alloc (.cells (dcs y) 34)).alloc (.cells #[.bool false, .bool false, .bool false, .bool false, .bool false, .bool false, .int .i64 0, .int .i64 0, .string ⟨#[]⟩, .int .i64 0, .int .i64 0, .string ⟨#[]⟩, .int .i64 0, .int .i64 0, .string ⟨#[]⟩, .bool false, .bool false, .bool false] 34)).drewN q)
  case first =>
    cases hy : y.hs
    · go_wp2
      go_meet
      case rel => exact ⟨x.hs, x.s.k, x.s.n, x.s.s, _, ⟨(by simp [hy]), (by simp [hy]), (by simp [hy]), (by simp [hy])⟩, rfl⟩
    · go_wp2
      go_region
      all_goals (go_wp2_with fail; go_meet; exact ⟨true, y.s.k, y.s.n, y.s.s, _, ⟨(by simp [hy]), (by simp [hy]), (by simp [hy]), (by simp [hy])⟩, rfl⟩)
  case rest =>
  obtain ⟨z2, z12, z13, z14, q3, h3, rfl⟩ := hcut
  go_upto_if 30 with fail
  go_cut [] from 5 to 41 (fun wx => ∃ z4 z16 q, Hid (z4 = (y.he || x.he) ∧ z16 = cond y.he y.e x.e) ∧ wx = (((w.alloc (.cells #[.bool (z0), .bool (z1), .bool (z2), .bool (z3), .bool (z4), .bool (x.hc), .int .i64 (z6), .int .i64 (z7), .string (z8), .int .i64 (z9), .int .i64 (z10), .string (z11), .int .i64 (z12), .int .i64 (z13), .string (z14), .bool (z15), .bool (z16), .bool (x.c)] 34)).alloc (.cells (dcs y) 34)).alloc (.cells #[.bool false, .bool false, .bool false, .bool false, .bool false, .bool false, .int .i64 0, .int .i64 0, .string ⟨#[]⟩, .int .i64 0, .int .i64 0, .string ⟨#[]⟩, .int .i64 0, .int .i64 0, .string ⟨#[]⟩, .bool false, .bool false, .bool false] 34)).drewN q)
  case first =>
    cases hy : y.he
    · go_wp2
      go_meet
      case rel => exact ⟨x.he, x.e, _, ⟨(by simp [hy]), (by simp [hy])⟩, rfl⟩
    · go_wp2
      go_region
      all_goals (go_wp2_with fail; go_meet; exact ⟨true, y.e, _, ⟨(by simp [hy]), (by simp [hy])⟩, rfl⟩)
  case rest =>
  obtain ⟨z4, z16, q4, h4, rfl⟩ := hcut
  go_upto_if 36 with fail
  go_cut [] from 5 to 41 (fun wx => ∃ z5 z17 q, Hid (z5 = (y.hc || x.hc) ∧ z17 = cond y.hc y.c x.c) ∧ wx = (((w.alloc (.cells #[.bool (z0), .bool (z1), .bool (z2), .bool (z3), .bool (z4), .bool (z5), .int .i64 (z6), .int .i64 (z7), .string (z8), .int .i64 (z9), .int .i64 (z10), .string (z11), .int .i64 (z12), .int .i64 (z13), .string (z14), .bool (z15), .bool (z16), .bool (z17)] 34)).alloc (.cells (dcs y) 34)).alloc (.cells #[.bool false, .bool false, .bool false, .bool false, .bool false, .bool false, .int .i64 0, .int .i64 0, .string ⟨#[]⟩, .int .i64 0, .int .i64 0, .string ⟨#[]⟩, .int .i64 0, .int .i64 0, .string ⟨#[]⟩, .bool false, .bool false, .bool false] 34)).drewN q)
  case first =>
    cases hy : y.hc
    · go_wp2
      go_meet
      case rel => exact ⟨x.hc, x.c, _, ⟨(by simp [hy]), (by simp [hy])⟩, rfl⟩
    · go_wp2
      go_region
      all_goals (go_wp2_with fail; go_meet; exact ⟨true, y.c, _, ⟨(by simp [hy]), (by simp [hy])⟩, rfl⟩)
  case rest =>
  obtain ⟨z5, z17, q5, h5, rfl⟩ := hcut
  go_wp2
  refine bodyPost_ret (v := .agg #[.bool (z0), .bool (z1), .bool (z2), .bool (z3), .bool (z4), .bool (z5), .int .i64 (z6), .int .i64 (z7), .string (z8), .int .i64 (z9), .int .i64 (z10), .string (z11), .int .i64 (z12), .int .i64 (z13), .string (z14), .bool (z15), .bool (z16), .bool (z17)]) (results_cell_row (g := w.heap.size + 1 + 1) Tryz.results119 _ _ 34 _ (0, 0) _ rfl (heap3 w _ _ _) Tryz.underlying34 rfl info18) rfl ⟨?_, ?_⟩
  · rw [h0.out.1, h2.out.1, h3.out.1, h1.out.1, h4.out.1, h5.out.1, h0.out.2.1, h0.out.2.2.1, h0.out.2.2.2, h2.out.2.1, h2.out.2.2.1, h2.out.2.2.2, h3.out.2.1, h3.out.2.2.1, h3.out.2.2.2, h1.out.2, h4.out.2, h5.out.2]
    rfl
  · exact below_dn (three_bels w _ _ _) _
end Go.Proofs.YtphaefkaeinngaaGreatDoor.Des

/-
  A region whose callees make memory, walked once, in a class of worlds that keep some rows.
-/
namespace Go.Proofs.YtphaefkaeinngaaGreatDoor.Des
open Go.RowKit Go.Proofs.YtphaefkaeinngaaGreatDoor.Vals
set_option linter.unusedVariables false
set_option linter.unusedSimpArgs false
attribute [local go_sem ↓] to_ldD to_stD run_eqD run_eqV0
attribute [local go_sem] n2 n3 m2 m3 rowD_drew rowD_drewN rowD_alloc rowD_putc rowD_other putD_drew putD_drewN putD_size putD_alloc setObj_cells run_ldD run_stD okC_dcs okC_lit objRow_dcs one_b one_i one_s objRow_lit dcs_0 dcs_1 dcs_2 dcs_3 dcs_4 dcs_5 dcs_6 dcs_7 dcs_8 dcs_9 dcs_10 dcs_11 dcs_12 dcs_13 dcs_14 dcs_15 dcs_16 dcs_17
attribute [local go_sem low] cell_rowD
structure Wd (S : World → Prop) where
  w : World
  ok : S w
def S1 (B : World) (l : List (Nat × Array Value)) : World → Prop := fun w' => Below B.heap.size B w' ∧ ∀ x ∈ l, rowD w' x.1 = some x.2
theorem S1.call {B : World} {l : List (Nat × Array Value)} {w w' : World} (h : S1 B l w) (hb : Below w.heap.size w w') : S1 B l w' := ⟨bel_keep hb h.1, fun x hx => rowD_call hb (h.2 x hx)⟩
theorem S1.drew {B : World} {l : List (Nat × Array Value)} {w : World} (h : S1 B l w) : S1 B l w.drew := ⟨bel_drew h.1, fun x hx => (rowD_drew _ _).trans (h.2 x hx)⟩
theorem s1_nil {B w : World} (h : Below B.heap.size B w) : S1 B [] w := ⟨h, fun x hx => by cases hx⟩
theorem s1_cons {B w : World} {g : Nat} {cs : Array Value} {l : List (Nat × Array Value)} (hr : rowD w g = some cs) (h : S1 B l w) : S1 B ((g, cs) :: l) w := ⟨h.1, fun x hx => by
  cases hx with
  | head => exact hr
  | tail _ hx => exact h.2 x hx⟩
theorem S1.row {B w : World} {g : Nat} {cs : Array Value} {l : List (Nat × Array Value)} (h : S1 B l w) (hm : (g, cs) ∈ l) : rowD w g = some cs := h.2 _ hm
theorem wd_row {B : World} {g : Nat} {cs : Array Value} {l : List (Nat × Array Value)} (hm : (g, cs) ∈ l) (p : Wd (S1 B l)) : rowD p.w g = some cs := p.ok.row hm
theorem region_in {P : Program} {id : Nat} {Q : Exit → Act → World → Prop} {a : Act} {w : World} {l : List Oper} {B : World} (rows : List (Nat × Array Value)) (hm : P.follows .mixedOrders = true) (hB : Region.lexB .any l.toArray = true) (h0 : S1 B rows w)
    (h : Nonempty (Wd (S1 B rows)) → wpQuiet P l.toArray (fun w' => ∃ p : Wd (S1 B rows), w' = p.w) (fun a' => ∀ w', (∃ p : Wd (S1 B rows), w' = p.w) → Q .normal a' w') l a) : (Code.region id l.toArray true).wp P Q a w :=
  wp_region_quiet (C := fun w' => ∃ p : Wd (S1 B rows), w' = p.w) hm hB ⟨⟨_, h0.drew⟩, rfl⟩ (by simpa using h ⟨⟨_, h0.drew⟩⟩)
theorem in_call {P : Program} {B : World} {rows : List (Nat × Array Value)} {f : FuncId} {args : Array Value} {v : Value} {p : Wd (S1 B rows)} (h : Calls P f args p.w fun e w' => e = .returned v ∧ Below p.w.heap.size p.w w') :
    Calls P f args p.w fun e w'' => e = .returned v ∧ ∃ q : Wd (S1 B rows), w'' = q.w := h.mono fun _ _ ⟨he, hb⟩ => ⟨he, ⟨⟨_, p.ok.call hb⟩, rfl⟩⟩
theorem in_out {S : World → Prop} {w' : World} (h : ∃ p : Wd S, w' = p.w) : S w' := by
  obtain ⟨p, rfl⟩ := h
  exact p.ok
end Go.Proofs.YtphaefkaeinngaaGreatDoor.Des

/-
  Right: what it gives.
-/
namespace Go.Proofs.YtphaefkaeinngaaGreatDoor.Des
open Go.RowKit Go.Proofs.YtphaefkaeinngaaGreatDoor.Vals
set_option linter.unusedVariables false
set_option linter.unusedSimpArgs false
attribute [local go_sem ↓] to_ldD to_stD run_eqD run_eqV0
attribute [local go_sem] n2 n3 m2 m3 rowD_drew rowD_drewN rowD_alloc rowD_putc rowD_other putD_drew putD_drewN putD_size putD_alloc setObj_cells run_ldD run_stD okC_dcs okC_lit objRow_dcs one_b one_i one_s objRow_lit dcs_0 dcs_1 dcs_2 dcs_3 dcs_4 dcs_5 dcs_6 dcs_7 dcs_8 dcs_9 dcs_10 dcs_11 dcs_12 dcs_13 dcs_14 dcs_15 dcs_16 dcs_17
attribute [local go_sem low] cell_rowD
def rigF (d : Ds) : Bool := if accF d && datF d then false else canF d.g && canF d.s && eqD (replF zeroD d) d
def CanIs (v : Vl) (b : Bool) : Prop := ∀ w, Calls Tryz.prog 118 #[VV v] w fun e w' => e = .returned (.bool b) ∧ Below w.heap.size w w'
theorem CanIs.at {v : Vl} {b : Bool} (h : CanIs v b) {w : World} : Calls Tryz.prog 118 #[VV v] w fun e w' => e = .returned (.bool b) ∧ Below w.heap.size w w' := h w
theorem can_is {v : Vl} {b : Bool} (h : canF v = b) : CanIs v b := fun w => h ▸ can_any v w
theorem repl0_any (d : Ds) (w : World) : Calls Tryz.prog 119 #[.agg #[.bool false, .bool false, .bool false, .bool false, .bool false, .bool false, .int .i64 0, .int .i64 0, .string ⟨#[]⟩, .int .i64 0, .int .i64 0, .string ⟨#[]⟩, .int .i64 0, .int .i64 0, .string ⟨#[]⟩, .bool false, .bool false, .bool false], DV d] w fun e w' => e = .returned (DV (replF zeroD d)) ∧ Below w.heap.size w w' := repl_any zeroD d w
set_option maxHeartbeats 8000000 in
set_option maxRecDepth 100000 in
theorem rig_x (d : Ds) (w : World) (a t c s : Bool) (ha : accF d = a) (ht : datF d = t) (hc : canF d.g = c) (hs : canF d.s = s) (had : (a && t) = false) : Calls Tryz.prog 84 #[DV d] w fun en w' => en = .returned (.bool (c && s && eqD (replF zeroD d) d)) ∧ Below w.heap.size w w' := by
  have HC := can_is hc
  have HS := can_is hs
  clear hc hs
  cases a <;> cases t <;> cases c <;> cases s <;> simp only [Bool.and_self, Bool.and_false, Bool.false_and, Bool.true_and, reduceCtorEq] at had
  all_goals
    go_enter Tryz.func84, Tryz.ntmps84
    go_wp2_with (first | (go_at_call 116; refine (acc_any d _).mono ?_; rintro e w1 ⟨rfl, hb1⟩; have := rowD_call hb1 (show rowD _ (w.heap.size) = some (dcs d) by first | assumption | (simp [rowD_alloc, objRow_dcs, rowD_drew, n2, n3, m2, m3]; done) | (simp [rowD_drew, rowD_alloc, n2, n3, m2, m3, objRow_dcs, objRow_lit, rowD_putc, rowD_other, putD_size, okC_dcs, okC_lit, one_b, one_i, one_s, *]; done)); have hbw : Below w.heap.size w w1 := bel_keep hb1 (by first | assumption | exact two_bels _ _ _ | exact three_bels _ _ _ _ | exact ball _ _ | exact bel_drew (two_bels _ _ _) | exact bel_drew (three_bels _ _ _ _) | exact bel_drew (ball _ _) | exact bel_drew (by assumption) | exact bel_put (by assumption) (by omega) _); clear hb1) | (go_at_call 117; refine (dat_any d _).mono ?_; rintro e w1 ⟨rfl, hb1⟩; have := rowD_call hb1 (show rowD _ (w.heap.size) = some (dcs d) by first | assumption | (simp [rowD_alloc, objRow_dcs, rowD_drew, n2, n3, m2, m3]; done) | (simp [rowD_drew, rowD_alloc, n2, n3, m2, m3, objRow_dcs, objRow_lit, rowD_putc, rowD_other, putD_size, okC_dcs, okC_lit, one_b, one_i, one_s, *]; done)); have hbw : Below w.heap.size w w1 := bel_keep hb1 (by first | assumption | exact two_bels _ _ _ | exact three_bels _ _ _ _ | exact ball _ _ | exact bel_drew (two_bels _ _ _) | exact bel_drew (three_bels _ _ _ _) | exact bel_drew (ball _ _) | exact bel_drew (by assumption) | exact bel_put (by assumption) (by omega) _); clear hb1))
    have F0 : ∀ p : Wd (S1 w [(w.heap.size, dcs d)]), rowD p.w (w.heap.size) = some (dcs d) := fun p => wd_row (.head _) p
    refine region_in (B := w) [(w.heap.size, dcs d)] (by kernel_rfl) (by kernel_rfl) (s1_cons (by first | assumption | (simp [rowD_alloc, objRow_dcs, rowD_drew, n2, n3, m2, m3]; done) | (simp [rowD_drew, rowD_alloc, n2, n3, m2, m3, objRow_dcs, objRow_lit, rowD_putc, rowD_other, putD_size, okC_dcs, okC_lit, one_b, one_i, one_s, *]; done)) (s1_nil (by assumption))) (fun hne => ?_)
    repeat (go_big_quiet_step (first | (exact in_call (by with_reducible exact HC.at)) | (exact in_call (by with_reducible exact HS.at)) | (exact in_call (repl0_any d _))))
    refine wpQuiet_nil ?_
    intro w1 hw1
    have hS := in_out hw1
    have := hS.row (g := w.heap.size) (cs := dcs d) (.head _)
    have hbw := hS.1
    clear hS hw1 hne F0
    go_wp2
    go_ret
    exact ⟨by simp, by assumption⟩
theorem rig_no (d : Ds) (w : World) (ha : accF d = true) (ht : datF d = true) : Calls Tryz.prog 84 #[DV d] w fun en w' => en = .returned (.bool false) ∧ Below w.heap.size w w' := by
  go_enter Tryz.func84, Tryz.ntmps84
  go_wp2_with (first | (go_at_call 116; refine (acc_any d _).mono ?_; rintro e w1 ⟨rfl, hb1⟩; have := rowD_call hb1 (show rowD _ (w.heap.size) = some (dcs d) by first | assumption | (simp [rowD_alloc, objRow_dcs, rowD_drew, n2, n3, m2, m3]; done) | (simp [rowD_drew, rowD_alloc, n2, n3, m2, m3, objRow_dcs, objRow_lit, rowD_putc, rowD_other, putD_size, okC_dcs, okC_lit, one_b, one_i, one_s, *]; done)); have hbw : Below w.heap.size w w1 := bel_keep hb1 (by first | assumption | exact two_bels _ _ _ | exact three_bels _ _ _ _ | exact ball _ _ | exact bel_drew (two_bels _ _ _) | exact bel_drew (three_bels _ _ _ _) | exact bel_drew (ball _ _) | exact bel_drew (by assumption) | exact bel_put (by assumption) (by omega) _); clear hb1) | (go_at_call 117; refine (dat_any d _).mono ?_; rintro e w1 ⟨rfl, hb1⟩; have := rowD_call hb1 (show rowD _ (w.heap.size) = some (dcs d) by first | assumption | (simp [rowD_alloc, objRow_dcs, rowD_drew, n2, n3, m2, m3]; done) | (simp [rowD_drew, rowD_alloc, n2, n3, m2, m3, objRow_dcs, objRow_lit, rowD_putc, rowD_other, putD_size, okC_dcs, okC_lit, one_b, one_i, one_s, *]; done)); have hbw : Below w.heap.size w w1 := bel_keep hb1 (by first | assumption | exact two_bels _ _ _ | exact three_bels _ _ _ _ | exact ball _ _ | exact bel_drew (two_bels _ _ _) | exact bel_drew (three_bels _ _ _ _) | exact bel_drew (ball _ _) | exact bel_drew (by assumption) | exact bel_put (by assumption) (by omega) _); clear hb1))
  go_ret
  exact ⟨rfl, by assumption⟩
theorem rig_any (d : Ds) (w : World) : Calls Tryz.prog 84 #[DV d] w fun en w' => en = .returned (.bool (rigF d)) ∧ Below w.heap.size w w' := by
  cases h : accF d && datF d with
  | true =>
    have e : rigF d = false := by simp [rigF, h]
    rw [e]
    simp at h
    exact rig_no d w h.1 h.2
  | false =>
    have e : rigF d = (canF d.g && canF d.s && eqD (replF zeroD d) d) := by simp [rigF, h]
    rw [e]
    exact rig_x d w _ _ _ _ rfl rfl rfl rfl h
end Go.Proofs.YtphaefkaeinngaaGreatDoor.Des

/-
  The reference's RightDesc: what it gives.
-/
namespace Go.Proofs.YtphaefkaeinngaaGreatDoor.Des
open Go.RowKit Go.Proofs.YtphaefkaeinngaaGreatDoor.Vals
set_option linter.unusedVariables false
set_option linter.unusedSimpArgs false
attribute [local go_sem ↓] to_ldD to_stD run_eqD run_eqV0
attribute [local go_sem] n2 n3 m2 m3 rowD_drew rowD_drewN rowD_alloc rowD_putc rowD_other putD_drew putD_drewN putD_size putD_alloc setObj_cells run_ldD run_stD okC_dcs okC_lit objRow_dcs one_b one_i one_s objRow_lit dcs_0 dcs_1 dcs_2 dcs_3 dcs_4 dcs_5 dcs_6 dcs_7 dcs_8 dcs_9 dcs_10 dcs_11 dcs_12 dcs_13 dcs_14 dcs_15 dcs_16 dcs_17
attribute [local go_sem low] cell_rowD
end Go.Proofs.YtphaefkaeinngaaGreatDoor.Des

/-
  Whole of both sides: what it gives.
-/
namespace Go.Proofs.YtphaefkaeinngaaGreatDoor.Des
open Go.RowKit Go.Proofs.YtphaefkaeinngaaGreatDoor.Vals
set_option linter.unusedVariables false
set_option linter.unusedSimpArgs false
attribute [local go_sem ↓] to_ldD to_stD run_eqD run_eqV0
attribute [local go_sem] n2 n3 m2 m3 rowD_drew rowD_drewN rowD_alloc rowD_putc rowD_other putD_drew putD_drewN putD_size putD_alloc setObj_cells run_ldD run_stD okC_dcs okC_lit objRow_dcs one_b one_i one_s objRow_lit dcs_0 dcs_1 dcs_2 dcs_3 dcs_4 dcs_5 dcs_6 dcs_7 dcs_8 dcs_9 dcs_10 dcs_11 dcs_12 dcs_13 dcs_14 dcs_15 dcs_16 dcs_17
attribute [local go_sem low] cell_rowD
def whF (d : Ds) : Bool := if !rigF d || !d.he || !d.hc then false else (d.hv && d.hw) || (d.hg && d.hs)
set_option maxHeartbeats 4000000 in
theorem wh_any (d : Ds) (w : World) : Calls Tryz.prog 163 #[DV d] w fun e w' => e = .returned (.bool (whF d)) ∧ Below w.heap.size w w' := by
  go_enter Tryz.func163, Tryz.ntmps163
  go_wp2_with (go_at_call 84; refine (rig_any d _).mono ?_; rintro e w1 ⟨rfl, hb1⟩; have := rowD_call hb1 (show rowD _ (w.heap.size) = some (dcs d) by first | assumption | (simp [rowD_alloc, objRow_dcs, rowD_drew, n2, n3, m2, m3]; done) | (simp [rowD_drew, rowD_alloc, n2, n3, m2, m3, objRow_dcs, objRow_lit, rowD_putc, rowD_other, putD_size, okC_dcs, okC_lit, one_b, one_i, one_s, *]; done)); have hbw : Below w.heap.size w w1 := bel_keep hb1 (by first | assumption | exact two_bels _ _ _ | exact three_bels _ _ _ _ | exact ball _ _ | exact bel_drew (two_bels _ _ _) | exact bel_drew (three_bels _ _ _ _) | exact bel_drew (ball _ _) | exact bel_drew (by assumption) | exact bel_put (by assumption) (by omega) _); clear hb1)
  all_goals
    go_ret
    exact ⟨by simp [whF, *], by assumption⟩
end Go.Proofs.YtphaefkaeinngaaGreatDoor.Des

/-
  cleared and the reference's Complete: what they give.
-/
namespace Go.Proofs.YtphaefkaeinngaaGreatDoor.Des
open Go.RowKit Go.Proofs.YtphaefkaeinngaaGreatDoor.Vals
set_option linter.unusedVariables false
set_option linter.unusedSimpArgs false
attribute [local go_sem ↓] to_ldD to_stD run_eqD run_eqV0
attribute [local go_sem] n2 n3 m2 m3 rowD_drew rowD_drewN rowD_alloc rowD_putc rowD_other putD_drew putD_drewN putD_size putD_alloc setObj_cells run_ldD run_stD okC_dcs okC_lit objRow_dcs one_b one_i one_s objRow_lit dcs_0 dcs_1 dcs_2 dcs_3 dcs_4 dcs_5 dcs_6 dcs_7 dcs_8 dcs_9 dcs_10 dcs_11 dcs_12 dcs_13 dcs_14 dcs_15 dcs_16 dcs_17
attribute [local go_sem low] cell_rowD
def clearF (d : Ds) : Ds := if accF d then ⟨d.hv, true, true, d.hw, true, true, d.v, zeroV, zeroV, d.w, false, false⟩ else ⟨true, d.hg, d.hs, true, true, true, zeroV, d.g, d.s, false, false, false⟩
set_option maxHeartbeats 4000000 in
theorem clear_any (d : Ds) (w : World) : Calls Tryz.prog 180 #[DV d] w fun en w' => en = .returned (DV (clearF d)) ∧ Below w.heap.size w w' := by
  have hdx : dcs d = #[.bool (d.hv), .bool (d.hg), .bool (d.hs), .bool (d.hw), .bool (d.he), .bool (d.hc), .int .i64 (d.v.k), .int .i64 (d.v.n), .string (d.v.s), .int .i64 (d.g.k), .int .i64 (d.g.n), .string (d.g.s), .int .i64 (d.s.k), .int .i64 (d.s.n), .string (d.s.s), .bool (d.w), .bool (d.e), .bool (d.c)] := rfl
  unfold DV
  rw [hdx]
  clear hdx
  cases hacc : accF d
  all_goals
    go_enter Tryz.func180, Tryz.ntmps180
    go_wp2_with (go_at_call 116; refine (acc_x d _).mono ?_; rintro e w1 ⟨rfl, rfl⟩)
    refine bodyPost_ret (res_rowD Tryz.results180 _ _ (w.heap.size + 1) _ rfl (by simp [rowD_alloc, objRow_lit]; rfl)) rfl ⟨?_, ?_⟩
    · simp [clearF, hacc, dcs, zeroV]
    · exact three_bels w _ _ _
end Go.Proofs.YtphaefkaeinngaaGreatDoor.Des

/-
  Complete, converted, added: what they give.
-/
namespace Go.Proofs.YtphaefkaeinngaaGreatDoor.Des
open Go.RowKit Go.Proofs.YtphaefkaeinngaaGreatDoor.Vals
set_option linter.unusedVariables false
set_option linter.unusedSimpArgs false
attribute [local go_sem ↓] to_ldD to_stD run_eqD run_eqV0
attribute [local go_sem] n2 n3 m2 m3 rowD_drew rowD_drewN rowD_alloc rowD_putc rowD_other putD_drew putD_drewN putD_size putD_alloc setObj_cells run_ldD run_stD okC_dcs okC_lit objRow_dcs one_b one_i one_s objRow_lit dcs_0 dcs_1 dcs_2 dcs_3 dcs_4 dcs_5 dcs_6 dcs_7 dcs_8 dcs_9 dcs_10 dcs_11 dcs_12 dcs_13 dcs_14 dcs_15 dcs_16 dcs_17
attribute [local go_sem low] cell_rowD
def compF (d : Ds) : Ds := replF (clearF d) d
def convA (d : Ds) : Ds := ⟨false, datF d, false, false, true, true, zeroV, zeroV, zeroV, false, d.e, d.c⟩
def convF (d : Ds) : Ds := compF (convA d)
set_option maxHeartbeats 4000000 in
set_option maxRecDepth 100000 in
theorem comp_any (d : Ds) (w : World) : Calls Tryz.prog 151 #[DV d] w fun en w' => en = .returned (DV (compF d)) ∧ Below w.heap.size w w' := by
  go_enter Tryz.func151, Tryz.ntmps151
  go_wp2
  go_region_held3 (fun w' => Below w.heap.size w w' ∧ rowD w' w.heap.size = some (dcs d) ∧ (rowD w' (w.heap.size + 1)).isSome = true)
    (first | exact ⟨bel_drew (two_bels _ _ _), by simp [rowD_alloc, rowD_drew, objRow_dcs], by simp [rowD_alloc, rowD_drew, objRow_lit]⟩ | (go_split_ands; exact ⟨bel_keep (by assumption) (by assumption), rowD_call (by assumption) (by assumption), is_call (by assumption) (by assumption)⟩) | (go_split_ands; exact ⟨bel_put (by assumption) (by omega) _, (rowD_other _ _ _ _ (by omega)).trans (by assumption), by rw [rowD_put _ _ _ (by assumption) (dcs_size _)]; rfl⟩))
    (first
      | (go_at_call 180; refine (clear_any d _).mono ?_; rintro e w3 ⟨rfl, hb3⟩; have := is_call hb3 (show (rowD _ (w.heap.size + 1)).isSome = true by first | assumption | (simp [rowD_alloc, objRow_dcs, objRow_lit, rowD_drew, n2, n3, m2, m3]; done) | (simp [rowD_drew, rowD_alloc, n2, n3, m2, m3, objRow_dcs, objRow_lit, rowD_putc, rowD_other, putD_size, okC_dcs, okC_lit, one_b, one_i, one_s, *]; done)))
      | (go_at_call 119; refine (repl_any (clearF d) d _).mono ?_; rintro e w4 ⟨rfl, hb4⟩; have := is_call hb4 (show (rowD _ (w.heap.size + 1)).isSome = true by first | assumption | (simp [rowD_alloc, objRow_dcs, objRow_lit, rowD_drew, n2, n3, m2, m3]; done) | (simp [rowD_drew, rowD_alloc, n2, n3, m2, m3, objRow_dcs, objRow_lit, rowD_putc, rowD_other, putD_size, okC_dcs, okC_lit, one_b, one_i, one_s, *]; done))))
  go_split_ands
  go_wp2
  exact bodyPost_ret (res_rowD Tryz.results151 _ _ (w.heap.size + 1) _ rfl (rowD_put _ _ _ (by assumption) rfl)) rfl ⟨rfl, by assumption⟩
set_option maxHeartbeats 4000000 in
set_option maxRecDepth 100000 in
theorem conv_any (d : Ds) (w : World) : Calls Tryz.prog 167 #[DV d] w fun en w' => en = .returned (DV (convF d)) ∧ Below w.heap.size w w' := by
  go_enter Tryz.func167, Tryz.ntmps167
  go_wp2
  go_region_held3 (fun w' => Below w.heap.size w w' ∧ rowD w' w.heap.size = some (dcs d) ∧ (rowD w' (w.heap.size + 1)).isSome = true)
    (first | exact ⟨bel_drew (two_bels _ _ _), by simp [rowD_alloc, rowD_drew, objRow_dcs], by simp [rowD_alloc, rowD_drew, objRow_lit]⟩ | (go_split_ands; exact ⟨bel_keep (by assumption) (by assumption), rowD_call (by assumption) (by assumption), is_call (by assumption) (by assumption)⟩) | (go_split_ands; exact ⟨bel_put (by assumption) (by omega) _, (rowD_other _ _ _ _ (by omega)).trans (by assumption), by rw [rowD_put _ _ _ (by assumption) (dcs_size _)]; rfl⟩))
    (first
      | (go_at_call 117; refine (dat_any d _).mono ?_; rintro e w3 ⟨rfl, hb3⟩; have := is_call hb3 (show (rowD _ (w.heap.size + 1)).isSome = true by first | assumption | (simp [rowD_alloc, objRow_dcs, objRow_lit, rowD_drew, n2, n3, m2, m3]; done) | (simp [rowD_drew, rowD_alloc, n2, n3, m2, m3, objRow_dcs, objRow_lit, rowD_putc, rowD_other, putD_size, okC_dcs, okC_lit, one_b, one_i, one_s, *]; done)))
      | (go_at_call 151; refine (comp_any (convA d) _).mono ?_; rintro e w4 ⟨rfl, hb4⟩; have := is_call hb4 (show (rowD _ (w.heap.size + 1)).isSome = true by first | assumption | (simp [rowD_alloc, objRow_dcs, objRow_lit, rowD_drew, n2, n3, m2, m3]; done) | (simp [rowD_drew, rowD_alloc, n2, n3, m2, m3, objRow_dcs, objRow_lit, rowD_putc, rowD_other, putD_size, okC_dcs, okC_lit, one_b, one_i, one_s, *]; done))))
  go_split_ands
  go_wp2
  exact bodyPost_ret (res_rowD Tryz.results167 _ _ (w.heap.size + 1) _ rfl (rowD_put _ _ _ (by assumption) rfl)) rfl ⟨rfl, by assumption⟩
def addF (x : Bool) (d : Ds) : Ds := if x then compF d else zeroD
theorem add_any (x : Bool) (d : Ds) (w : World) : Calls Tryz.prog 164 #[.bool x, DV d] w fun en w' => en = .returned (.tuple #[DV (addF x d), .bool x]) ∧ Below w.heap.size w w' := by
  cases x
  · go_enter Tryz.func164, Tryz.ntmps164
    go_wp2
    exact bodyPost_ret (res2_rowD Tryz.results164 _ _ (w.heap.size + 1) _ rfl (by simp [rowD_alloc, objRow_lit]; rfl)) rfl ⟨rfl, two_bels _ _ _⟩
  · go_enter Tryz.func164, Tryz.ntmps164
    go_wp2_with (go_at_call 151; refine (comp_any d _).mono ?_; rintro e w3 ⟨rfl, hb3⟩; have := is_call hb3 (show (rowD _ (w.heap.size + 1)).isSome = true by first | assumption | (simp [rowD_alloc, objRow_dcs, objRow_lit, rowD_drew, n2, n3, m2, m3]; done) | (simp [rowD_drew, rowD_alloc, n2, n3, m2, m3, objRow_dcs, objRow_lit, rowD_putc, rowD_other, putD_size, okC_dcs, okC_lit, one_b, one_i, one_s, *]; done)); have hbw : Below w.heap.size w w3 := bel_keep hb3 (two_bels _ _ _); clear hb3)
    exact bodyPost_ret (res2_rowD Tryz.results164 _ _ (w.heap.size + 1) _ rfl (rowD_put _ _ _ (by assumption) rfl)) rfl ⟨rfl, bel_put hbw (by omega) _⟩
end Go.Proofs.YtphaefkaeinngaaGreatDoor.Des
