/-
  Binary: comparisons, and sameness.
-/
import Derived.Test.YthfgicdpbbpnjaaGreatOpCmpd
import Derived.Test.YthfgicdpbbpnjaaGreatOpVal
import Derived.Deep.RegionWith
namespace Go.Proofs.YthfgicdpbbpnjaaGreat.Ops
open Go Go.RowKit Go.Proofs.YthfgicdpbbpnjaaGreat.Uni
open Go.Proofs.YthfgicdpbbpnjaaGreat.Vals (bnext ball rightF Right_any)
set_option linter.unusedVariables false
set_option linter.unusedSimpArgs false
attribute [local go_sem ↓] ldV stV alV bxV bdV ldO stO alO bxO bdO ldS stS alS bxS bdS
attribute [local irreducible] vcs
attribute [local go_sem] run_bx run_alV run_alO run_alS run_stVg run_stOg run_stSg run_bdV0 run_bdV1 run_bdV2 run_bdV3 run_bdO run_bdS vcs_0 vcs_1 vcs_2 vcs_st1
set_option maxRecDepth 100000

/-- What Binary has laid when it begins. -/
def binW (v u : Vl) (w : World) : World := ((w.alloc (.cells (vcs v) 23)).alloc (.cells (vcs u) 23)).alloc (.cells (vcs zeroV) 23)
structure Bin (v u : Vl) (w0 w : World) : Prop where
  below : Below w0.heap.size w0 w
  b4 : Blk w w0.heap.size (vcs v) 23
  b5 : Blk w (w0.heap.size + 1) (vcs u) 23
  b6 : Blk w (w0.heap.size + 2) (vcs zeroV) 23
theorem Bin.start (v u : Vl) (w : World) : Bin v u w (((w.alloc (.cells (vcs v) 23)).alloc (.cells (vcs u) 23)).alloc (.cells (vcs zeroV) 23)) :=
  ⟨bl_alloc bel2, ((Blk.new _ _ _).old _).old _, (blk_newg (by simp)).old _, blk_newg (by simp)⟩
theorem Bin.call {v u : Vl} {w0 w w' : World} (h : Bin v u w0 w) (hb : Below w.heap.size w w') : Bin v u w0 w' := ⟨bnext h.below hb, h.b4.call hb, h.b5.call hb, h.b6.call hb⟩
theorem Bin.drew {v u : Vl} {w0 w : World} (h : Bin v u w0 w) : Bin v u w0 w.drew := ⟨h.below.drew, h.b4, h.b5, h.b6⟩
/-- What Binary ends in, in the worlds of a class. -/
structure BinIs (R : World → Prop) (op : ByteArray) (v u r : Vl) (s : ByteArray) : Prop where
  out : ∀ w, R w → Calls Tryz.prog 8 #[.string op, .agg (vcs v), .agg (vcs u)] w fun e w' => e = retV r s ∧ Below w.heap.size w w'
set_option maxHeartbeats 1000000 in
theorem bin_eq (v u : Vl) (c : Bool) (h1 : rV v = true) (h2 : rV u = true) (hsv : v.s.size ≤ 2000000) (hsu : u.s.size ≤ 2000000) (hs : ∀ w, Calls Tryz.prog 15 #[.agg (vcs v), .agg (vcs u)] w fun e w' => e = .returned (.bool c) ∧ Below w.heap.size w w') (w : World) :
    Calls Tryz.prog 8 #[.string ⟨#[61, 61, 61]⟩, .agg (vcs v), .agg (vcs u)] w fun e w' => e = retV (bV c) ⟨#[]⟩ ∧ Below w.heap.size w w' := by
  have HS := Lib.hid hs
  have HT := Lib.hid (fun w => truth_any c w)
  obtain ⟨r, hr⟩ : ∃ r, bV c = r := ⟨_, rfl⟩
  rw [hr] at HT
  rw [hr]
  clear hs hr
  have hr1 := fun w => right_is v w hsv
  have hr2 := fun w => right_is u w hsu
  rw [h1] at hr1
  rw [h2] at hr2
  have HR1 := Lib.hid hr1
  have HR2 := Lib.hid hr2
  clear hr1 hr2 h1 h2
  have B0 := Bin.start v u w
  have l0 := run_ldV B0.b4
  have HB0 := Lib.hid B0
  clear B0
  go_enter Tryz.func8, Tryz.ntmps8
  go_wp2_with (go_at_call 12; with_reducible refine (HR1.out _).mono ?_; rintro e w1 ⟨rfl, k1⟩; have B1 := HB0.out.call k1; have l1 := run_ldV B1.b5)
  have HB1 := Lib.hid B1
  clear B1 HB0
  go_wp2_with (go_at_call 12; with_reducible refine (HR2.out _).mono ?_)
  rintro e w2 ⟨rfl, k2⟩
  have B2 := HB1.out.call k2
  have la := run_ldV B2.b4
  have lb := run_ldV B2.b5
  have HB2 := Lib.hid B2
  clear B2 HB1 k1 k2 l0 l1 HR1 HR2
  go_wp2_with (first | (go_at_call 15; with_reducible refine (HS.out _).mono ?_; rintro e w3 ⟨rfl, k3⟩; have B3 := HB2.out.call k3) | (go_at_call 14; with_reducible refine (HT.out _).mono ?_; rintro e w4 ⟨rfl, k4⟩; have B4 := B3.call k4; have s1 := run_stV (v := r) B4.b6))
  refine bodyPost_ret (res_V rfl _ _ (w.heap.size + 2) r _ rfl rfl (B4.b6.row _)) rfl ?_
  exact ⟨rfl, below_row B4.below _ (by omega)⟩
set_option maxHeartbeats 1000000 in
theorem bin_ne (v u : Vl) (c : Bool) (h1 : rV v = true) (h2 : rV u = true) (hsv : v.s.size ≤ 2000000) (hsu : u.s.size ≤ 2000000) (hs : ∀ w, Calls Tryz.prog 15 #[.agg (vcs v), .agg (vcs u)] w fun e w' => e = .returned (.bool c) ∧ Below w.heap.size w w') (w : World) :
    Calls Tryz.prog 8 #[.string ⟨#[33, 61, 61]⟩, .agg (vcs v), .agg (vcs u)] w fun e w' => e = retV (bV (!c)) ⟨#[]⟩ ∧ Below w.heap.size w w' := by
  have HS := Lib.hid hs
  have HT := Lib.hid (fun w => truth_any (!c) w)
  obtain ⟨r, hr⟩ : ∃ r, bV (!c) = r := ⟨_, rfl⟩
  rw [hr] at HT
  rw [hr]
  clear hs hr
  have hr1 := fun w => right_is v w hsv
  have hr2 := fun w => right_is u w hsu
  rw [h1] at hr1
  rw [h2] at hr2
  have HR1 := Lib.hid hr1
  have HR2 := Lib.hid hr2
  clear hr1 hr2 h1 h2
  have B0 := Bin.start v u w
  have l0 := run_ldV B0.b4
  have HB0 := Lib.hid B0
  clear B0
  go_enter Tryz.func8, Tryz.ntmps8
  go_wp2_with (go_at_call 12; with_reducible refine (HR1.out _).mono ?_; rintro e w1 ⟨rfl, k1⟩; have B1 := HB0.out.call k1; have l1 := run_ldV B1.b5)
  have HB1 := Lib.hid B1
  clear B1 HB0
  go_wp2_with (go_at_call 12; with_reducible refine (HR2.out _).mono ?_)
  rintro e w2 ⟨rfl, k2⟩
  have B2 := HB1.out.call k2
  have la := run_ldV B2.b4
  have lb := run_ldV B2.b5
  have HB2 := Lib.hid B2
  clear B2 HB1 k1 k2 l0 l1 HR1 HR2
  go_wp2_with (first | (go_at_call 15; with_reducible refine (HS.out _).mono ?_; rintro e w3 ⟨rfl, k3⟩; have B3 := HB2.out.call k3) | (go_at_call 14; with_reducible refine (HT.out _).mono ?_; rintro e w4 ⟨rfl, k4⟩; have B4 := B3.call k4; have s1 := run_stV (v := r) B4.b6))
  refine bodyPost_ret (res_V rfl _ _ (w.heap.size + 2) r _ rfl rfl (B4.b6.row _)) rfl ?_
  exact ⟨rfl, below_row B4.below _ (by omega)⟩
set_option maxHeartbeats 4000000 in
theorem bin_lt {R : World → Prop} (v u r : Vl) (s : ByteArray) (h1 : rV v = true) (h2 : rV u = true) (hsv : v.s.size ≤ 2000000) (hsu : u.s.size ≤ 2000000) (hs : CmpIs R ⟨#[60]⟩ (opd v) (opd u) r s) (w : World) (hR : R w) :
    Calls Tryz.prog 8 #[.string ⟨#[60]⟩, .agg (vcs v), .agg (vcs u)] w fun e w' => e = retV r s ∧ Below w.heap.size w w' := by
  have HS := Lib.hid hs
  have O1 := Lib.hid (fun w => operand_any v w)
  have O2 := Lib.hid (fun w => operand_any u w)
  obtain ⟨x, hx⟩ : ∃ x, opd v = x := ⟨_, rfl⟩
  obtain ⟨y, hy⟩ : ∃ y, opd u = y := ⟨_, rfl⟩
  rw [hx] at O1 HS
  rw [hy] at O2 HS
  clear hs hx hy
  have hr1 := fun w => right_is v w hsv
  have hr2 := fun w => right_is u w hsu
  rw [h1] at hr1
  rw [h2] at hr2
  have HR1 := Lib.hid hr1
  have HR2 := Lib.hid hr2
  clear hr1 hr2 h1 h2
  have B0 := Bin.start v u w
  have l0 := run_ldV B0.b4
  have HB0 := Lib.hid B0
  clear B0
  go_enter Tryz.func8, Tryz.ntmps8
  go_wp2_with (go_at_call 12; with_reducible refine (HR1.out _).mono ?_; rintro e w1 ⟨rfl, k1⟩; have B1 := HB0.out.call k1; have l1 := run_ldV B1.b5)
  have HB1 := Lib.hid B1
  clear B1 HB0
  go_wp2_with (go_at_call 12; with_reducible refine (HR2.out _).mono ?_)
  rintro e w2 ⟨rfl, k2⟩
  have B2 := HB1.out.call k2
  have la := run_ldV B2.b4
  have lb := run_ldV B2.b5
  have HB2 := Lib.hid B2
  clear B2 HB1 k1 k2 l0 l1 HR1 HR2
  have hR2 := HS.out.keep _ _ hR HB2.out.below
  have la := run_ldV HB2.out.drew.b4
  have lb := run_ldV HB2.out.drew.b5
  go_wp2
  go_region_with
    (first
      | (go_at_call 17; with_reducible refine (O1.out _).mono ?_; rintro e w3 ⟨rfl, k3⟩; have B3 := HB2.out.drew.call k3; have l3 := run_ldV B3.b5)
      | (go_at_call 17; with_reducible refine (O2.out _).mono ?_; rintro e w4 ⟨rfl, k4⟩; have B4 := B3.call k4)
      | (go_at_call 19; refine (HS.out.out _ (HS.out.keep _ _ hR B4.below)).mono ?_; rintro e w5 ⟨rfl, k5⟩; have B5 := B4.call k5; have s1 := run_stV (v := r) B5.b6))
  all_goals
    go_wp2
    refine bodyPost_ret (res_V rfl _ _ (w.heap.size + 2) r _ rfl rfl (B5.b6.row _)) rfl ?_
    exact ⟨rfl, below_row B5.below _ (by omega)⟩
set_option maxHeartbeats 4000000 in
theorem bin_gt {R : World → Prop} (v u r : Vl) (s : ByteArray) (h1 : rV v = true) (h2 : rV u = true) (hsv : v.s.size ≤ 2000000) (hsu : u.s.size ≤ 2000000) (hs : CmpIs R ⟨#[62]⟩ (opd v) (opd u) r s) (w : World) (hR : R w) :
    Calls Tryz.prog 8 #[.string ⟨#[62]⟩, .agg (vcs v), .agg (vcs u)] w fun e w' => e = retV r s ∧ Below w.heap.size w w' := by
  have HS := Lib.hid hs
  have O1 := Lib.hid (fun w => operand_any v w)
  have O2 := Lib.hid (fun w => operand_any u w)
  obtain ⟨x, hx⟩ : ∃ x, opd v = x := ⟨_, rfl⟩
  obtain ⟨y, hy⟩ : ∃ y, opd u = y := ⟨_, rfl⟩
  rw [hx] at O1 HS
  rw [hy] at O2 HS
  clear hs hx hy
  have hr1 := fun w => right_is v w hsv
  have hr2 := fun w => right_is u w hsu
  rw [h1] at hr1
  rw [h2] at hr2
  have HR1 := Lib.hid hr1
  have HR2 := Lib.hid hr2
  clear hr1 hr2 h1 h2
  have B0 := Bin.start v u w
  have l0 := run_ldV B0.b4
  have HB0 := Lib.hid B0
  clear B0
  go_enter Tryz.func8, Tryz.ntmps8
  go_wp2_with (go_at_call 12; with_reducible refine (HR1.out _).mono ?_; rintro e w1 ⟨rfl, k1⟩; have B1 := HB0.out.call k1; have l1 := run_ldV B1.b5)
  have HB1 := Lib.hid B1
  clear B1 HB0
  go_wp2_with (go_at_call 12; with_reducible refine (HR2.out _).mono ?_)
  rintro e w2 ⟨rfl, k2⟩
  have B2 := HB1.out.call k2
  have la := run_ldV B2.b4
  have lb := run_ldV B2.b5
  have HB2 := Lib.hid B2
  clear B2 HB1 k1 k2 l0 l1 HR1 HR2
  have hR2 := HS.out.keep _ _ hR HB2.out.below
  have la := run_ldV HB2.out.drew.b4
  have lb := run_ldV HB2.out.drew.b5
  go_wp2
  go_region_with
    (first
      | (go_at_call 17; with_reducible refine (O1.out _).mono ?_; rintro e w3 ⟨rfl, k3⟩; have B3 := HB2.out.drew.call k3; have l3 := run_ldV B3.b5)
      | (go_at_call 17; with_reducible refine (O2.out _).mono ?_; rintro e w4 ⟨rfl, k4⟩; have B4 := B3.call k4)
      | (go_at_call 19; refine (HS.out.out _ (HS.out.keep _ _ hR B4.below)).mono ?_; rintro e w5 ⟨rfl, k5⟩; have B5 := B4.call k5; have s1 := run_stV (v := r) B5.b6))
  all_goals
    go_wp2
    refine bodyPost_ret (res_V rfl _ _ (w.heap.size + 2) r _ rfl rfl (B5.b6.row _)) rfl ?_
    exact ⟨rfl, below_row B5.below _ (by omega)⟩
set_option maxHeartbeats 4000000 in
theorem bin_ge {R : World → Prop} (v u r : Vl) (s : ByteArray) (h1 : rV v = true) (h2 : rV u = true) (hsv : v.s.size ≤ 2000000) (hsu : u.s.size ≤ 2000000) (hs : CmpIs R ⟨#[62, 61]⟩ (opd v) (opd u) r s) (w : World) (hR : R w) :
    Calls Tryz.prog 8 #[.string ⟨#[62, 61]⟩, .agg (vcs v), .agg (vcs u)] w fun e w' => e = retV r s ∧ Below w.heap.size w w' := by
  have HS := Lib.hid hs
  have O1 := Lib.hid (fun w => operand_any v w)
  have O2 := Lib.hid (fun w => operand_any u w)
  obtain ⟨x, hx⟩ : ∃ x, opd v = x := ⟨_, rfl⟩
  obtain ⟨y, hy⟩ : ∃ y, opd u = y := ⟨_, rfl⟩
  rw [hx] at O1 HS
  rw [hy] at O2 HS
  clear hs hx hy
  have hr1 := fun w => right_is v w hsv
  have hr2 := fun w => right_is u w hsu
  rw [h1] at hr1
  rw [h2] at hr2
  have HR1 := Lib.hid hr1
  have HR2 := Lib.hid hr2
  clear hr1 hr2 h1 h2
  have B0 := Bin.start v u w
  have l0 := run_ldV B0.b4
  have HB0 := Lib.hid B0
  clear B0
  go_enter Tryz.func8, Tryz.ntmps8
  go_wp2_with (go_at_call 12; with_reducible refine (HR1.out _).mono ?_; rintro e w1 ⟨rfl, k1⟩; have B1 := HB0.out.call k1; have l1 := run_ldV B1.b5)
  have HB1 := Lib.hid B1
  clear B1 HB0
  go_wp2_with (go_at_call 12; with_reducible refine (HR2.out _).mono ?_)
  rintro e w2 ⟨rfl, k2⟩
  have B2 := HB1.out.call k2
  have la := run_ldV B2.b4
  have lb := run_ldV B2.b5
  have HB2 := Lib.hid B2
  clear B2 HB1 k1 k2 l0 l1 HR1 HR2
  have hR2 := HS.out.keep _ _ hR HB2.out.below
  have la := run_ldV HB2.out.drew.b4
  have lb := run_ldV HB2.out.drew.b5
  go_wp2
  go_region_with
    (first
      | (go_at_call 17; with_reducible refine (O1.out _).mono ?_; rintro e w3 ⟨rfl, k3⟩; have B3 := HB2.out.drew.call k3; have l3 := run_ldV B3.b5)
      | (go_at_call 17; with_reducible refine (O2.out _).mono ?_; rintro e w4 ⟨rfl, k4⟩; have B4 := B3.call k4)
      | (go_at_call 19; refine (HS.out.out _ (HS.out.keep _ _ hR B4.below)).mono ?_; rintro e w5 ⟨rfl, k5⟩; have B5 := B4.call k5; have s1 := run_stV (v := r) B5.b6))
  all_goals
    go_wp2
    refine bodyPost_ret (res_V rfl _ _ (w.heap.size + 2) r _ rfl rfl (B5.b6.row _)) rfl ?_
    exact ⟨rfl, below_row B5.below _ (by omega)⟩
end Go.Proofs.YthfgicdpbbpnjaaGreat.Ops
