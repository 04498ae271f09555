/-
  Two operands ordered.
-/
import Derived.Test.YthfgicdpbbpnjaaGreatOpNum
import Derived.Deep.RegionWith
namespace Go.Proofs.YthfgicdpbbpnjaaGreat.Ops
open Go Go.RowKit Go.Proofs.YthfgicdpbbpnjaaGreat.Uni
open Go.Proofs.YthfgicdpbbpnjaaGreat.Vals (bnext ball)
set_option linter.unusedVariables false
set_option linter.unusedSimpArgs false
attribute [local go_sem ↓] ldV stV alV bxV bdV ldO stO alO bxO bdO ldS stS alS bxS bdS
attribute [local irreducible] vcs
attribute [local go_sem] run_bx run_alV run_alO run_alS run_stVg run_stOg run_stSg run_bdV0 run_bdV1 run_bdV2 run_bdV3 run_bdO run_bdS vcs_0 vcs_1 vcs_2 vcs_st1
set_option maxRecDepth 100000

theorem cell_keep {w w' : World} {a : Addr} {v : Value} (hb : Below w.heap.size w w') (h : w.cell? a = some v) : w'.cell? a = some v :=
  (hb.cell (World.block_lt_of_cell? w _ h)).trans h
set_option maxHeartbeats 8000000 in
theorem order_ss (v u : Vl) (hv : v.k = 4) (hu : u.k = 4) (w : World) (hs : v.s.size ≤ 100000000) (ht : u.s.size ≤ 100000000) (ls : (units v.s).length ≤ 1000000000) (lt : (units u.s).length ≤ 1000000000) :
    Calls Tryz.prog 28 #[opd v, opd u] w fun e w' => e = .returned (.tuple #[.int .i64 (cmpL (units v.s) (units u.s)), .bool true]) ∧ Below w.heap.size w w' := by
  rw [opd_s hv, opd_s hu]
  have a1 := as_s (.agg (vcs v))
  have a2 := as_s (.agg (vcs u))
  obtain ⟨A, hA⟩ : ∃ A, units v.s = A := ⟨_, rfl⟩
  obtain ⟨C, hC⟩ : ∃ C, units u.s = C := ⟨_, rfl⟩
  have o1 := fun w => of_rd v.s w hs
  have o2 := fun w => of_rd u.s w ht
  rw [hA] at o1 ls
  rw [hC] at o2 lt
  rw [hA, hC]
  have O1 := Lib.hid o1
  have O2 := Lib.hid o2
  have b1 : Blk ((w.alloc (.cells (vcs v) 52)).alloc (.cells (vcs u) 52)) w.heap.size (vcs v) 52 := (Blk.new _ _ _).old _
  have b2 : Blk ((w.alloc (.cells (vcs v) 52)).alloc (.cells (vcs u) 52)) (w.heap.size + 1) (vcs u) 52 := blk_newg (by simp)
  have hb : Below w.heap.size w ((w.alloc (.cells (vcs v) 52)).alloc (.cells (vcs u) 52)) := bel2
  have B1 := Lib.hid b1
  have B2 := Lib.hid b2
  have HB := Lib.hid hb
  clear hv hu o1 o2 hA hC b1 b2 hb
  go_enter Tryz.func28, Tryz.ntmps28
  go_wp2
  obtain ⟨W, hW⟩ : ∃ W, W = (w.alloc (.cells (vcs v) 52)).alloc (.cells (vcs u) 52) := ⟨_, rfl⟩
  rw [← hW] at B1 B2 HB ⊢
  clear hW
  have c1 : W.drew.cell? ⟨w.heap.size, 2, none⟩ = some (.string v.s) := (B1.out.cell 2).trans (vcs_2 v)
  have c2 : W.drew.cell? ⟨w.heap.size + 1, 2, none⟩ = some (.string u.s) := (B2.out.cell 2).trans (vcs_2 u)
  go_region_with
    (first
      | (go_at_call 37; with_reducible refine (O1.out _).mono ?_; rintro e w1 ⟨ao, ca, rfl, r1, hb1⟩; have c1 := cell_keep hb1 c1; have c2 := cell_keep hb1 c2)
      | (go_at_call 37; with_reducible refine (O2.out _).mono ?_; rintro e w2 ⟨bo, cb, rfl, r2, hb2⟩)
      | (go_at_call 36; refine (compare_any _ _ _ _ A C _ ls lt (rd_below r1 hb2) r2).mono ?_; rintro e w3 ⟨rfl, rfl⟩))
  all_goals
    go_wp2
    go_ret2
    exact ⟨rfl, bnext (bnext HB.out.drew hb1) hb2⟩
end Go.Proofs.YthfgicdpbbpnjaaGreat.Ops
