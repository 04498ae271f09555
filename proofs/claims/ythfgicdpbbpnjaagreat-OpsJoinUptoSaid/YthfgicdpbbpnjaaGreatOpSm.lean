/-
  Small functions of the operators.
-/
import Derived.Test.YthfgicdpbbpnjaaGreatOpMem
import Derived.Test.YthfgicdpbbpnjaaGreatVaKind
namespace Go.Proofs.YthfgicdpbbpnjaaGreat.Ops
open Go Go.RowKit Go.Proofs.YthfgicdpbbpnjaaGreat.Uni
open Go.Proofs.YthfgicdpbbpnjaaGreat.Vals (bnext ball)
set_option linter.unusedVariables false
set_option linter.unusedSimpArgs false
attribute [local go_sem ↓] ldV stV alV bxV bdV ldO stO alO bxO bdO ldS stS alS bxS bdS
attribute [local irreducible] vcs
attribute [local go_sem] run_bx run_alV run_alO run_alS run_stVg run_stOg run_stSg run_bdV0 run_bdV1 run_bdV2 run_bdV3 run_bdO run_bdS vcs_0 vcs_1 vcs_2 vcs_st1
set_option maxRecDepth 100000

/-- What a call gives that ends in a value and a name. -/
abbrev retV (v : Vl) (s : ByteArray) : Ending := .returned (.tuple #[.agg (vcs v), .string s])
theorem blk_newg {w : World} {g : Nat} {cs : Array Value} {t : TypeId} (hg : g = w.heap.size) : Blk (w.alloc (.cells cs t)) g cs t := by
  subst hg
  exact Blk.new w cs t
theorem bel2 {w : World} {o o' : Obj} : Below w.heap.size w ((w.alloc o).alloc o') := bl_alloc (bel1)
theorem failed_any (s : ByteArray) (w : World) : Calls Tryz.prog 13 #[.string s] w fun e w' => e = retV zeroV s ∧ Below w.heap.size w w' := by
  have b0 : Blk (w.alloc (.cells (vcs zeroV) 23)) w.heap.size (vcs zeroV) 23 := Blk.new _ _ _
  go_enter Tryz.func13, Tryz.ntmps13
  go_wp2
  refine bodyPost_ret (res_V rfl _ _ w.heap.size zeroV _ rfl rfl (Blk.new _ _ _)) rfl ?_
  exact ⟨rfl, bel1⟩
theorem number_any (n : Int) (w : World) : Calls Tryz.prog 27 #[.int .i64 n] w fun e w' => e = retV ⟨3, n, ⟨#[]⟩⟩ ⟨#[]⟩ ∧ Below w.heap.size w w' := by
  have b0 : Blk (w.alloc (.cells (vcs zeroV) 23)) w.heap.size (vcs zeroV) 23 := Blk.new _ _ _
  go_enter Tryz.func27, Tryz.ntmps27
  go_wp2
  refine bodyPost_ret (res_V rfl _ _ w.heap.size ⟨3, n, ⟨#[]⟩⟩ _ rfl rfl (Blk.new _ _ _)) rfl ?_
  exact ⟨rfl, bel1⟩
theorem text_any (s : ByteArray) (w : World) : Calls Tryz.prog 33 #[.string s] w fun e w' => e = retV ⟨4, 0, s⟩ ⟨#[]⟩ ∧ Below w.heap.size w w' := by
  have b0 : Blk (w.alloc (.cells (vcs zeroV) 23)) w.heap.size (vcs zeroV) 23 := Blk.new _ _ _
  go_enter Tryz.func33, Tryz.ntmps33
  go_wp2
  refine bodyPost_ret (res_V rfl _ _ w.heap.size ⟨4, 0, s⟩ _ rfl rfl (Blk.new _ _ _)) rfl ?_
  exact ⟨rfl, bel1⟩
theorem truth_f (w : World) : Calls Tryz.prog 14 #[.bool false] w fun e w' => e = retV ⟨2, 0, ⟨#[]⟩⟩ ⟨#[]⟩ ∧ Below w.heap.size w w' := by
  have b2 : Blk ((w.alloc (.cells (vcs zeroV) 23)).alloc (.cells (vcs ⟨2, 0, ⟨#[]⟩⟩) 23)) (w.heap.size + 1) (vcs ⟨2, 0, ⟨#[]⟩⟩) 23 := blk_newg (by simp)
  have b1 : Blk ((w.alloc (.cells (vcs zeroV) 23)).alloc (.cells (vcs ⟨2, 0, ⟨#[]⟩⟩) 23)) w.heap.size (vcs zeroV) 23 := (Blk.new _ _ _).old _
  have l2 := run_ldV b2
  have s1 := run_stV (v := ⟨2, 0, ⟨#[]⟩⟩) b1
  go_enter Tryz.func14, Tryz.ntmps14
  go_wp2
  refine bodyPost_ret (res_V rfl _ _ w.heap.size ⟨2, 0, ⟨#[]⟩⟩ _ rfl rfl (b1.row _)) rfl ?_
  exact ⟨rfl, below_row bel2 _ (Nat.le_refl _)⟩
theorem truth_t (w : World) : Calls Tryz.prog 14 #[.bool true] w fun e w' => e = retV ⟨2, 1, ⟨#[]⟩⟩ ⟨#[]⟩ ∧ Below w.heap.size w w' := by
  have b2 : Blk ((w.alloc (.cells (vcs zeroV) 23)).alloc (.cells (vcs ⟨2, 0, ⟨#[]⟩⟩) 23)) (w.heap.size + 1) (vcs ⟨2, 0, ⟨#[]⟩⟩) 23 := blk_newg (by simp)
  have c2 := b2.cell 1
  have f2 := b2.frozen 1
  rw [vcs_1] at c2
  have b3 : Blk ((w.alloc (.cells (vcs zeroV) 23)).alloc (.cells (vcs ⟨2, 1, ⟨#[]⟩⟩) 23)) (w.heap.size + 1) (vcs ⟨2, 1, ⟨#[]⟩⟩) 23 := blk_newg (by simp)
  have b4 : Blk ((w.alloc (.cells (vcs zeroV) 23)).alloc (.cells (vcs ⟨2, 1, ⟨#[]⟩⟩) 23)) w.heap.size (vcs zeroV) 23 := (Blk.new _ _ _).old _
  have l2 := run_ldV b3
  have s1 := run_stV (v := ⟨2, 1, ⟨#[]⟩⟩) b4
  have B4 := Lib.hid b4
  clear b2 b3 b4
  go_enter Tryz.func14, Tryz.ntmps14
  go_wp2
  refine bodyPost_ret (res_V rfl _ _ w.heap.size ⟨2, 1, ⟨#[]⟩⟩ _ rfl rfl (B4.out.row _)) rfl ?_
  exact ⟨rfl, below_row bel2 _ (Nat.le_refl _)⟩
/-- A Bool. -/
def bV (c : Bool) : Vl := ⟨2, if c then 1 else 0, ⟨#[]⟩⟩
theorem truth_any (c : Bool) (w : World) : Calls Tryz.prog 14 #[.bool c] w fun e w' => e = retV (bV c) ⟨#[]⟩ ∧ Below w.heap.size w w' := by
  cases c with
  | true => exact truth_t w
  | false => exact truth_f w
theorem cmp_int_lt (a b : Int) (h : a < b) (w : World) : Calls Tryz.prog 38 #[.int .i64 a, .int .i64 b] w fun e w' => e = .returned (.int .i64 (-1)) ∧ w = w' := by
  have nan : ∀ x w, Calls Tryz.prog 56 #[.int .i64 x] w fun e w' => e = .returned (.bool false) ∧ w = w' := fun x w => by
    go_enter Tryz.func56, Tryz.ntmps56
    go_wp2
    go_ret
    exact ⟨by simp, rfl⟩
  
  go_enter Tryz.func38, Tryz.ntmps38
  go_wp2_with (go_at_call 56; refine (nan _ _).mono ?_; rintro e w' ⟨rfl, rfl⟩)
  go_ret
  exact ⟨rfl, rfl⟩
theorem cmp_int_gt (a b : Int) (h : b < a) (w : World) : Calls Tryz.prog 38 #[.int .i64 a, .int .i64 b] w fun e w' => e = .returned (.int .i64 (1)) ∧ w = w' := by
  have nan : ∀ x w, Calls Tryz.prog 56 #[.int .i64 x] w fun e w' => e = .returned (.bool false) ∧ w = w' := fun x w => by
    go_enter Tryz.func56, Tryz.ntmps56
    go_wp2
    go_ret
    exact ⟨by simp, rfl⟩
  have h1 : decide (a < b) = false := by simp; omega
  go_enter Tryz.func38, Tryz.ntmps38
  go_wp2_with (go_at_call 56; refine (nan _ _).mono ?_; rintro e w' ⟨rfl, rfl⟩)
  go_ret
  exact ⟨rfl, rfl⟩
theorem cmp_int_eq (a b : Int) (h : a = b) (w : World) : Calls Tryz.prog 38 #[.int .i64 a, .int .i64 b] w fun e w' => e = .returned (.int .i64 (0)) ∧ w = w' := by
  have nan : ∀ x w, Calls Tryz.prog 56 #[.int .i64 x] w fun e w' => e = .returned (.bool false) ∧ w = w' := fun x w => by
    go_enter Tryz.func56, Tryz.ntmps56
    go_wp2
    go_ret
    exact ⟨by simp, rfl⟩
  subst h
  have h1 : decide (a < a) = false := by simp
  go_enter Tryz.func38, Tryz.ntmps38
  go_wp2_with (go_at_call 56; refine (nan _ _).mono ?_; rintro e w' ⟨rfl, rfl⟩)
  go_ret
  exact ⟨rfl, rfl⟩
theorem cmp_uint16_lt (a b : Int) (h : a < b) (w : World) : Calls Tryz.prog 53 #[.int .u16 a, .int .u16 b] w fun e w' => e = .returned (.int .i64 (-1)) ∧ w = w' := by
  have nan : ∀ x w, Calls Tryz.prog 63 #[.int .u16 x] w fun e w' => e = .returned (.bool false) ∧ w = w' := fun x w => by
    go_enter Tryz.func63, Tryz.ntmps63
    go_wp2
    go_ret
    exact ⟨by simp, rfl⟩
  
  go_enter Tryz.func53, Tryz.ntmps53
  go_wp2_with (go_at_call 63; refine (nan _ _).mono ?_; rintro e w' ⟨rfl, rfl⟩)
  go_ret
  exact ⟨rfl, rfl⟩
theorem cmp_uint16_gt (a b : Int) (h : b < a) (w : World) : Calls Tryz.prog 53 #[.int .u16 a, .int .u16 b] w fun e w' => e = .returned (.int .i64 (1)) ∧ w = w' := by
  have nan : ∀ x w, Calls Tryz.prog 63 #[.int .u16 x] w fun e w' => e = .returned (.bool false) ∧ w = w' := fun x w => by
    go_enter Tryz.func63, Tryz.ntmps63
    go_wp2
    go_ret
    exact ⟨by simp, rfl⟩
  have h1 : decide (a < b) = false := by simp; omega
  go_enter Tryz.func53, Tryz.ntmps53
  go_wp2_with (go_at_call 63; refine (nan _ _).mono ?_; rintro e w' ⟨rfl, rfl⟩)
  go_ret
  exact ⟨rfl, rfl⟩
theorem cmp_uint16_eq (a b : Int) (h : a = b) (w : World) : Calls Tryz.prog 53 #[.int .u16 a, .int .u16 b] w fun e w' => e = .returned (.int .i64 (0)) ∧ w = w' := by
  have nan : ∀ x w, Calls Tryz.prog 63 #[.int .u16 x] w fun e w' => e = .returned (.bool false) ∧ w = w' := fun x w => by
    go_enter Tryz.func63, Tryz.ntmps63
    go_wp2
    go_ret
    exact ⟨by simp, rfl⟩
  subst h
  have h1 : decide (a < a) = false := by simp
  go_enter Tryz.func53, Tryz.ntmps53
  go_wp2_with (go_at_call 63; refine (nan _ _).mono ?_; rintro e w' ⟨rfl, rfl⟩)
  go_ret
  exact ⟨rfl, rfl⟩
end Go.Proofs.YthfgicdpbbpnjaaGreat.Ops
