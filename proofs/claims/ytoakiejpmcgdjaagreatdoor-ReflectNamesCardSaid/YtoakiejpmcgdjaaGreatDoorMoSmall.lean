/-
  Small functions of the worlds.
-/
import Derived.Test.YtoakiejpmcgdjaaGreatDoorMoMem
import Derived.Deep.RegionWith
import Derived.Handy
namespace Go.Proofs.YtoakiejpmcgdjaaGreatDoor.Mo
open Go Go.RowKit Go.Maps Go.Shelf Go.Proofs.YtoakiejpmcgdjaaGreatDoor.Keys Go.Proofs.YtoakiejpmcgdjaaGreatDoor.Hp
set_option linter.unusedVariables false
set_option linter.unusedSimpArgs false
attribute [local go_sem ↓] ldR stR alR bxR bdR bdD bdE ldD stD alD
attribute [local irreducible] rcs dcs ecs
set_option maxRecDepth 10000
attribute [local go_sem] run_bx run_alR run_stRg run_bdR0 run_bdR1 run_bdR2 run_bdData run_bdEn run_alD run_stDg rcs_0

theorem null_any (w : World) : Calls Tryz.prog 30 #[] w fun e w' => e = .returned (.agg (vcs ⟨1, 0, ⟨#[]⟩⟩)) ∧ Below w.heap.size w w' := by
  go_enter Tryz.func30, Tryz.ntmps30
  go_wp2
  refine bodyPost_ret (res_V rfl _ _ _ ⟨1, 0, ⟨#[]⟩⟩ rfl (Blk.new _ _ _)) rfl ?_
  exact ⟨rfl, (Below.refl _ w).alloc (Nat.le_refl _) _⟩
theorem objv_any (n : Int) (w : World) : Calls Tryz.prog 47 #[.int .i64 n] w fun e w' => e = .returned (.agg (vcs ⟨6, n, ⟨#[]⟩⟩)) ∧ Below w.heap.size w w' := by
  go_enter Tryz.func47, Tryz.ntmps47
  go_wp2
  refine bodyPost_ret (res_V rfl _ _ _ ⟨6, n, ⟨#[]⟩⟩ rfl (Blk.new _ _ _)) rfl ?_
  exact ⟨rfl, (Below.refl _ w).alloc (Nat.le_refl _) _⟩
theorem isM_any (n : Int) (w : World) : Calls Tryz.prog 17 #[.int .i64 n] w fun e w' => e = .returned (.bool (decide (1 ≤ n) && decide (n ≤ 13))) ∧ w' = w := by
  by_cases h : 1 ≤ n
  · have h1 : decide (1 ≤ n) = true := by simpa using h
    rw [h1]
    go_enter Tryz.func17, Tryz.ntmps17
    go_wp2
    go_ret
    exact ⟨by simp, rfl⟩
  · have h1 : decide (1 ≤ n) = false := by simpa using h
    rw [h1]
    clear h
    go_enter Tryz.func17, Tryz.ntmps17
    go_wp2
    go_ret
    exact ⟨by simp, rfl⟩
theorem abrupt_any (r : Rp) (b : Bool) (hb : (r.flow != 0) = b) (w : World) : Calls Tryz.prog 32 #[.agg (rcs r)] w fun e w' => e = .returned (.bool b) ∧ Below w.heap.size w w' := by
  have c0 : (w.alloc (.cells (rcs r) 35)).cell? ⟨w.heap.size, 0, none⟩ = some (.int .i64 r.flow) := ((Blk.new w (rcs r) 35).cell 0).trans (rcs_0 r)
  go_enter Tryz.func32, Tryz.ntmps32
  go_wp2
  go_ret
  exact ⟨rfl, (Below.refl _ w).alloc (Nat.le_refl _) _⟩
theorem data_any (v : Vl) (a b c : Bool) (w : World) : Calls Tryz.prog 31 #[.agg #[.int .i64 v.k, .int .i64 v.n, .string v.s], .bool a, .bool b, .bool c] w fun e w' => e = .returned (.agg (dcs (dataD v a b c))) ∧ Below w.heap.size w w' := by
  go_enter Tryz.func31, Tryz.ntmps31
  go_wp2
  refine bodyPost_ret (res_D rfl _ _ (w.heap.size + 1) (dataD v a b c) rfl (blk_newg (by simp))) rfl ?_
  exact ⟨rfl, ((Below.refl _ w).alloc (Nat.le_refl _) _).alloc (by simp) _⟩
theorem store_world (wb hb : Nat) (cl : Value) (f d p q : Int) (lg : Value) (w : World) (h : Blk w wb (wcs hb cl f d p q lg) 44) : Calls Tryz.prog 45 #[ptr wb] w fun e w' => e = .returned (ptr hb) ∧ w' = w := by
  have c0 : w.cell? ⟨wb, 0, none⟩ = some (ptr hb) := (h.cell 0).trans rfl
  go_enter Tryz.func45, Tryz.ntmps45
  go_wp2
  go_ret
  exact ⟨rfl, rfl⟩
end Go.Proofs.YtoakiejpmcgdjaaGreatDoor.Mo
