/-
  The names of the methods.
-/
import Derived.Test.YtoakiejpmcgdjaaGreatDoorMoNew
namespace Go.Proofs.YtoakiejpmcgdjaaGreatDoor.Mo
open Go Go.RowKit Go.Maps Go.Shelf Go.Proofs.YtoakiejpmcgdjaaGreatDoor.Keys Go.Proofs.YtoakiejpmcgdjaaGreatDoor.Hp
set_option linter.unusedVariables false
set_option linter.unusedSimpArgs false
/-- The name of a method. -/
def trapS (m : Int) : ByteArray :=
  if m = 1 then ⟨#[103, 101, 116, 80, 114, 111, 116, 111, 116, 121, 112, 101, 79, 102]⟩ else
  if m = 2 then ⟨#[115, 101, 116, 80, 114, 111, 116, 111, 116, 121, 112, 101, 79, 102]⟩ else
  if m = 3 then ⟨#[105, 115, 69, 120, 116, 101, 110, 115, 105, 98, 108, 101]⟩ else
  if m = 4 then ⟨#[112, 114, 101, 118, 101, 110, 116, 69, 120, 116, 101, 110, 115, 105, 111, 110, 115]⟩ else
  if m = 5 then ⟨#[103, 101, 116, 79, 119, 110, 80, 114, 111, 112, 101, 114, 116, 121, 68, 101, 115, 99, 114, 105, 112, 116, 111, 114]⟩ else
  if m = 6 then ⟨#[100, 101, 102, 105, 110, 101, 80, 114, 111, 112, 101, 114, 116, 121]⟩ else
  if m = 7 then ⟨#[104, 97, 115]⟩ else
  if m = 8 then ⟨#[103, 101, 116]⟩ else
  if m = 9 then ⟨#[115, 101, 116]⟩ else
  if m = 10 then ⟨#[100, 101, 108, 101, 116, 101, 80, 114, 111, 112, 101, 114, 116, 121]⟩ else
  if m = 11 then ⟨#[111, 119, 110, 75, 101, 121, 115]⟩ else
  if m = 12 then ⟨#[97, 112, 112, 108, 121]⟩ else
  if m = 13 then ⟨#[99, 111, 110, 115, 116, 114, 117, 99, 116]⟩ else
  ⟨#[]⟩
theorem trapS_1 : trapS 1 = ⟨#[103, 101, 116, 80, 114, 111, 116, 111, 116, 121, 112, 101, 79, 102]⟩ := rfl
theorem trapS_2 : trapS 2 = ⟨#[115, 101, 116, 80, 114, 111, 116, 111, 116, 121, 112, 101, 79, 102]⟩ := rfl
theorem trapS_3 : trapS 3 = ⟨#[105, 115, 69, 120, 116, 101, 110, 115, 105, 98, 108, 101]⟩ := rfl
theorem trapS_4 : trapS 4 = ⟨#[112, 114, 101, 118, 101, 110, 116, 69, 120, 116, 101, 110, 115, 105, 111, 110, 115]⟩ := rfl
theorem trapS_5 : trapS 5 = ⟨#[103, 101, 116, 79, 119, 110, 80, 114, 111, 112, 101, 114, 116, 121, 68, 101, 115, 99, 114, 105, 112, 116, 111, 114]⟩ := rfl
theorem trapS_6 : trapS 6 = ⟨#[100, 101, 102, 105, 110, 101, 80, 114, 111, 112, 101, 114, 116, 121]⟩ := rfl
theorem trapS_7 : trapS 7 = ⟨#[104, 97, 115]⟩ := rfl
theorem trapS_8 : trapS 8 = ⟨#[103, 101, 116]⟩ := rfl
theorem trapS_9 : trapS 9 = ⟨#[115, 101, 116]⟩ := rfl
theorem trapS_10 : trapS 10 = ⟨#[100, 101, 108, 101, 116, 101, 80, 114, 111, 112, 101, 114, 116, 121]⟩ := rfl
theorem trapS_11 : trapS 11 = ⟨#[111, 119, 110, 75, 101, 121, 115]⟩ := rfl
theorem trapS_12 : trapS 12 = ⟨#[97, 112, 112, 108, 121]⟩ := rfl
theorem trapS_13 : trapS 13 = ⟨#[99, 111, 110, 115, 116, 114, 117, 99, 116]⟩ := rfl
theorem trapS_out {m : Int} (h : m < 1 ∨ 13 < m) : trapS m = ⟨#[]⟩ := by
  unfold trapS
  repeat rw [if_neg (by omega)]
/-- The names as a row. -/
def trapC : Array Value := #[.string ⟨#[]⟩, .string ⟨#[103, 101, 116, 80, 114, 111, 116, 111, 116, 121, 112, 101, 79, 102]⟩, .string ⟨#[115, 101, 116, 80, 114, 111, 116, 111, 116, 121, 112, 101, 79, 102]⟩, .string ⟨#[105, 115, 69, 120, 116, 101, 110, 115, 105, 98, 108, 101]⟩, .string ⟨#[112, 114, 101, 118, 101, 110, 116, 69, 120, 116, 101, 110, 115, 105, 111, 110, 115]⟩, .string ⟨#[103, 101, 116, 79, 119, 110, 80, 114, 111, 112, 101, 114, 116, 121, 68, 101, 115, 99, 114, 105, 112, 116, 111, 114]⟩, .string ⟨#[100, 101, 102, 105, 110, 101, 80, 114, 111, 112, 101, 114, 116, 121]⟩, .string ⟨#[104, 97, 115]⟩, .string ⟨#[103, 101, 116]⟩, .string ⟨#[115, 101, 116]⟩, .string ⟨#[100, 101, 108, 101, 116, 101, 80, 114, 111, 112, 101, 114, 116, 121]⟩, .string ⟨#[111, 119, 110, 75, 101, 121, 115]⟩, .string ⟨#[97, 112, 112, 108, 121]⟩, .string ⟨#[99, 111, 110, 115, 116, 114, 117, 99, 116]⟩]
theorem trapC_size : trapC.size = 14 := rfl
theorem bdA (ps : Array (Nat × Value)) : Instr.build 54 ps = Bd 54 ps := (rfl)
theorem alA : Instr.alloc 54 true (.tuple #[]) = Al 54 := (rfl)
theorem stA (p v : Value) : Instr.storeAt 54 p v = St 54 p v := (rfl)
def zeroA : Array Value := #[.string ⟨#[]⟩, .string ⟨#[]⟩, .string ⟨#[]⟩, .string ⟨#[]⟩, .string ⟨#[]⟩, .string ⟨#[]⟩, .string ⟨#[]⟩, .string ⟨#[]⟩, .string ⟨#[]⟩, .string ⟨#[]⟩, .string ⟨#[]⟩, .string ⟨#[]⟩, .string ⟨#[]⟩, .string ⟨#[]⟩]
theorem infoA : (Tryz.prog.info? 54).map (fun i => (i.zero, i.size)) = some (some (.agg zeroA), 14) := by kernel_rfl
theorem run_alA (w : World) : (Al 54).run Tryz.prog w = .ok (ptr w.heap.size) (w.alloc (.cells zeroA 54)) := run_al infoA w
theorem run_stA (w : World) (g : Nat) (hg : g = w.heap.size) : (St 54 (.pointer (some ⟨g, 0, none⟩)) (.agg trapC)).run Tryz.prog (w.alloc (.cells zeroA 54)) = .ok () (w.alloc (.cells trapC 54)) := by
  subst hg
  have h := run_storeVar_row (P := Tryz.prog) (w.alloc (.cells zeroA 54)) w.heap.size 54 54 zeroA trapC (Blk.new w zeroA _) (by kernel_rfl) rfl (by simp [trapC, Value.oneCell'])
  unfold St
  simp only [Instr.storeAt, Instr.sureAddr, Sem.run_bind, Sem.run_pure, Result.andThen_ok, h, setRow_new]
theorem run_bdA (w : World) : (Bd 54 #[(1, .string ⟨#[103, 101, 116, 80, 114, 111, 116, 111, 116, 121, 112, 101, 79, 102]⟩), (2, .string ⟨#[115, 101, 116, 80, 114, 111, 116, 111, 116, 121, 112, 101, 79, 102]⟩), (3, .string ⟨#[105, 115, 69, 120, 116, 101, 110, 115, 105, 98, 108, 101]⟩), (4, .string ⟨#[112, 114, 101, 118, 101, 110, 116, 69, 120, 116, 101, 110, 115, 105, 111, 110, 115]⟩), (5, .string ⟨#[103, 101, 116, 79, 119, 110, 80, 114, 111, 112, 101, 114, 116, 121, 68, 101, 115, 99, 114, 105, 112, 116, 111, 114]⟩), (6, .string ⟨#[100, 101, 102, 105, 110, 101, 80, 114, 111, 112, 101, 114, 116, 121]⟩), (7, .string ⟨#[104, 97, 115]⟩), (8, .string ⟨#[103, 101, 116]⟩), (9, .string ⟨#[115, 101, 116]⟩), (10, .string ⟨#[100, 101, 108, 101, 116, 101, 80, 114, 111, 112, 101, 114, 116, 121]⟩), (11, .string ⟨#[111, 119, 110, 75, 101, 121, 115]⟩), (12, .string ⟨#[97, 112, 112, 108, 121]⟩), (13, .string ⟨#[99, 111, 110, 115, 116, 114, 117, 99, 116]⟩)]).run Tryz.prog w = .ok (.agg trapC) w := run_build w _ _ _ (by kernel_rfl)
theorem trapC_1 : trapC[1]? = some (.string ⟨#[103, 101, 116, 80, 114, 111, 116, 111, 116, 121, 112, 101, 79, 102]⟩) := rfl
theorem trapC_2 : trapC[2]? = some (.string ⟨#[115, 101, 116, 80, 114, 111, 116, 111, 116, 121, 112, 101, 79, 102]⟩) := rfl
theorem trapC_3 : trapC[3]? = some (.string ⟨#[105, 115, 69, 120, 116, 101, 110, 115, 105, 98, 108, 101]⟩) := rfl
theorem trapC_4 : trapC[4]? = some (.string ⟨#[112, 114, 101, 118, 101, 110, 116, 69, 120, 116, 101, 110, 115, 105, 111, 110, 115]⟩) := rfl
theorem trapC_5 : trapC[5]? = some (.string ⟨#[103, 101, 116, 79, 119, 110, 80, 114, 111, 112, 101, 114, 116, 121, 68, 101, 115, 99, 114, 105, 112, 116, 111, 114]⟩) := rfl
theorem trapC_6 : trapC[6]? = some (.string ⟨#[100, 101, 102, 105, 110, 101, 80, 114, 111, 112, 101, 114, 116, 121]⟩) := rfl
theorem trapC_7 : trapC[7]? = some (.string ⟨#[104, 97, 115]⟩) := rfl
theorem trapC_8 : trapC[8]? = some (.string ⟨#[103, 101, 116]⟩) := rfl
theorem trapC_9 : trapC[9]? = some (.string ⟨#[115, 101, 116]⟩) := rfl
theorem trapC_10 : trapC[10]? = some (.string ⟨#[100, 101, 108, 101, 116, 101, 80, 114, 111, 112, 101, 114, 116, 121]⟩) := rfl
theorem trapC_11 : trapC[11]? = some (.string ⟨#[111, 119, 110, 75, 101, 121, 115]⟩) := rfl
theorem trapC_12 : trapC[12]? = some (.string ⟨#[97, 112, 112, 108, 121]⟩) := rfl
theorem trapC_13 : trapC[13]? = some (.string ⟨#[99, 111, 110, 115, 116, 114, 117, 99, 116]⟩) := rfl
attribute [local go_sem ↓] bdA alA stA
attribute [local irreducible] trapC zeroA
attribute [local go_sem] run_alA run_stA run_bdA
set_option maxRecDepth 100000
theorem trap_out (m : Int) (h : m < 1 ∨ 13 < m) (w : World) : Calls Tryz.prog 10 #[.int .i64 m] w fun e w' => e = .returned (.string (trapS m)) ∧ Below w.heap.size w w' := by
  rw [trapS_out h]
  have hq : (decide (1 ≤ m) && decide (m ≤ 13)) = false := by rcases h with h | h <;> simp <;> omega
  clear h
  go_enter Tryz.func10, Tryz.ntmps10
  go_wp2_with (go_at_call 17; refine (isM_any m _).mono ?_; rintro e w2 ⟨rfl, rfl⟩; (try rw [hq]))
  go_ret
  exact ⟨rfl, (Below.refl _ w).alloc (Nat.le_refl _) _⟩
theorem trap_1 (w : World) : Calls Tryz.prog 10 #[.int .i64 1] w fun e w' => e = .returned (.string (trapS 1)) ∧ Below w.heap.size w w' := by
  rw [trapS_1]
  have c : (w.alloc (.cells trapC 54)).cell? ⟨w.heap.size, 1, none⟩ = some (.string ⟨#[103, 101, 116, 80, 114, 111, 116, 111, 116, 121, 112, 101, 79, 102]⟩) := ((Blk.new w trapC _).cell 1).trans trapC_1
  go_enter Tryz.func10, Tryz.ntmps10
  go_wp2_with (go_at_call 17; refine (isM_any 1 _).mono ?_; rintro e w2 ⟨rfl, rfl⟩)
  go_ret
  exact ⟨rfl, (Below.refl _ w).alloc (Nat.le_refl _) _⟩
theorem trap_2 (w : World) : Calls Tryz.prog 10 #[.int .i64 2] w fun e w' => e = .returned (.string (trapS 2)) ∧ Below w.heap.size w w' := by
  rw [trapS_2]
  have c : (w.alloc (.cells trapC 54)).cell? ⟨w.heap.size, 2, none⟩ = some (.string ⟨#[115, 101, 116, 80, 114, 111, 116, 111, 116, 121, 112, 101, 79, 102]⟩) := ((Blk.new w trapC _).cell 2).trans trapC_2
  go_enter Tryz.func10, Tryz.ntmps10
  go_wp2_with (go_at_call 17; refine (isM_any 2 _).mono ?_; rintro e w2 ⟨rfl, rfl⟩)
  go_ret
  exact ⟨rfl, (Below.refl _ w).alloc (Nat.le_refl _) _⟩
theorem trap_3 (w : World) : Calls Tryz.prog 10 #[.int .i64 3] w fun e w' => e = .returned (.string (trapS 3)) ∧ Below w.heap.size w w' := by
  rw [trapS_3]
  have c : (w.alloc (.cells trapC 54)).cell? ⟨w.heap.size, 3, none⟩ = some (.string ⟨#[105, 115, 69, 120, 116, 101, 110, 115, 105, 98, 108, 101]⟩) := ((Blk.new w trapC _).cell 3).trans trapC_3
  go_enter Tryz.func10, Tryz.ntmps10
  go_wp2_with (go_at_call 17; refine (isM_any 3 _).mono ?_; rintro e w2 ⟨rfl, rfl⟩)
  go_ret
  exact ⟨rfl, (Below.refl _ w).alloc (Nat.le_refl _) _⟩
theorem trap_4 (w : World) : Calls Tryz.prog 10 #[.int .i64 4] w fun e w' => e = .returned (.string (trapS 4)) ∧ Below w.heap.size w w' := by
  rw [trapS_4]
  have c : (w.alloc (.cells trapC 54)).cell? ⟨w.heap.size, 4, none⟩ = some (.string ⟨#[112, 114, 101, 118, 101, 110, 116, 69, 120, 116, 101, 110, 115, 105, 111, 110, 115]⟩) := ((Blk.new w trapC _).cell 4).trans trapC_4
  go_enter Tryz.func10, Tryz.ntmps10
  go_wp2_with (go_at_call 17; refine (isM_any 4 _).mono ?_; rintro e w2 ⟨rfl, rfl⟩)
  go_ret
  exact ⟨rfl, (Below.refl _ w).alloc (Nat.le_refl _) _⟩
theorem trap_5 (w : World) : Calls Tryz.prog 10 #[.int .i64 5] w fun e w' => e = .returned (.string (trapS 5)) ∧ Below w.heap.size w w' := by
  rw [trapS_5]
  have c : (w.alloc (.cells trapC 54)).cell? ⟨w.heap.size, 5, none⟩ = some (.string ⟨#[103, 101, 116, 79, 119, 110, 80, 114, 111, 112, 101, 114, 116, 121, 68, 101, 115, 99, 114, 105, 112, 116, 111, 114]⟩) := ((Blk.new w trapC _).cell 5).trans trapC_5
  go_enter Tryz.func10, Tryz.ntmps10
  go_wp2_with (go_at_call 17; refine (isM_any 5 _).mono ?_; rintro e w2 ⟨rfl, rfl⟩)
  go_ret
  exact ⟨rfl, (Below.refl _ w).alloc (Nat.le_refl _) _⟩
theorem trap_6 (w : World) : Calls Tryz.prog 10 #[.int .i64 6] w fun e w' => e = .returned (.string (trapS 6)) ∧ Below w.heap.size w w' := by
  rw [trapS_6]
  have c : (w.alloc (.cells trapC 54)).cell? ⟨w.heap.size, 6, none⟩ = some (.string ⟨#[100, 101, 102, 105, 110, 101, 80, 114, 111, 112, 101, 114, 116, 121]⟩) := ((Blk.new w trapC _).cell 6).trans trapC_6
  go_enter Tryz.func10, Tryz.ntmps10
  go_wp2_with (go_at_call 17; refine (isM_any 6 _).mono ?_; rintro e w2 ⟨rfl, rfl⟩)
  go_ret
  exact ⟨rfl, (Below.refl _ w).alloc (Nat.le_refl _) _⟩
theorem trap_7 (w : World) : Calls Tryz.prog 10 #[.int .i64 7] w fun e w' => e = .returned (.string (trapS 7)) ∧ Below w.heap.size w w' := by
  rw [trapS_7]
  have c : (w.alloc (.cells trapC 54)).cell? ⟨w.heap.size, 7, none⟩ = some (.string ⟨#[104, 97, 115]⟩) := ((Blk.new w trapC _).cell 7).trans trapC_7
  go_enter Tryz.func10, Tryz.ntmps10
  go_wp2_with (go_at_call 17; refine (isM_any 7 _).mono ?_; rintro e w2 ⟨rfl, rfl⟩)
  go_ret
  exact ⟨rfl, (Below.refl _ w).alloc (Nat.le_refl _) _⟩
theorem trap_8 (w : World) : Calls Tryz.prog 10 #[.int .i64 8] w fun e w' => e = .returned (.string (trapS 8)) ∧ Below w.heap.size w w' := by
  rw [trapS_8]
  have c : (w.alloc (.cells trapC 54)).cell? ⟨w.heap.size, 8, none⟩ = some (.string ⟨#[103, 101, 116]⟩) := ((Blk.new w trapC _).cell 8).trans trapC_8
  go_enter Tryz.func10, Tryz.ntmps10
  go_wp2_with (go_at_call 17; refine (isM_any 8 _).mono ?_; rintro e w2 ⟨rfl, rfl⟩)
  go_ret
  exact ⟨rfl, (Below.refl _ w).alloc (Nat.le_refl _) _⟩
theorem trap_9 (w : World) : Calls Tryz.prog 10 #[.int .i64 9] w fun e w' => e = .returned (.string (trapS 9)) ∧ Below w.heap.size w w' := by
  rw [trapS_9]
  have c : (w.alloc (.cells trapC 54)).cell? ⟨w.heap.size, 9, none⟩ = some (.string ⟨#[115, 101, 116]⟩) := ((Blk.new w trapC _).cell 9).trans trapC_9
  go_enter Tryz.func10, Tryz.ntmps10
  go_wp2_with (go_at_call 17; refine (isM_any 9 _).mono ?_; rintro e w2 ⟨rfl, rfl⟩)
  go_ret
  exact ⟨rfl, (Below.refl _ w).alloc (Nat.le_refl _) _⟩
theorem trap_10 (w : World) : Calls Tryz.prog 10 #[.int .i64 10] w fun e w' => e = .returned (.string (trapS 10)) ∧ Below w.heap.size w w' := by
  rw [trapS_10]
  have c : (w.alloc (.cells trapC 54)).cell? ⟨w.heap.size, 10, none⟩ = some (.string ⟨#[100, 101, 108, 101, 116, 101, 80, 114, 111, 112, 101, 114, 116, 121]⟩) := ((Blk.new w trapC _).cell 10).trans trapC_10
  go_enter Tryz.func10, Tryz.ntmps10
  go_wp2_with (go_at_call 17; refine (isM_any 10 _).mono ?_; rintro e w2 ⟨rfl, rfl⟩)
  go_ret
  exact ⟨rfl, (Below.refl _ w).alloc (Nat.le_refl _) _⟩
theorem trap_11 (w : World) : Calls Tryz.prog 10 #[.int .i64 11] w fun e w' => e = .returned (.string (trapS 11)) ∧ Below w.heap.size w w' := by
  rw [trapS_11]
  have c : (w.alloc (.cells trapC 54)).cell? ⟨w.heap.size, 11, none⟩ = some (.string ⟨#[111, 119, 110, 75, 101, 121, 115]⟩) := ((Blk.new w trapC _).cell 11).trans trapC_11
  go_enter Tryz.func10, Tryz.ntmps10
  go_wp2_with (go_at_call 17; refine (isM_any 11 _).mono ?_; rintro e w2 ⟨rfl, rfl⟩)
  go_ret
  exact ⟨rfl, (Below.refl _ w).alloc (Nat.le_refl _) _⟩
theorem trap_12 (w : World) : Calls Tryz.prog 10 #[.int .i64 12] w fun e w' => e = .returned (.string (trapS 12)) ∧ Below w.heap.size w w' := by
  rw [trapS_12]
  have c : (w.alloc (.cells trapC 54)).cell? ⟨w.heap.size, 12, none⟩ = some (.string ⟨#[97, 112, 112, 108, 121]⟩) := ((Blk.new w trapC _).cell 12).trans trapC_12
  go_enter Tryz.func10, Tryz.ntmps10
  go_wp2_with (go_at_call 17; refine (isM_any 12 _).mono ?_; rintro e w2 ⟨rfl, rfl⟩)
  go_ret
  exact ⟨rfl, (Below.refl _ w).alloc (Nat.le_refl _) _⟩
theorem trap_13 (w : World) : Calls Tryz.prog 10 #[.int .i64 13] w fun e w' => e = .returned (.string (trapS 13)) ∧ Below w.heap.size w w' := by
  rw [trapS_13]
  have c : (w.alloc (.cells trapC 54)).cell? ⟨w.heap.size, 13, none⟩ = some (.string ⟨#[99, 111, 110, 115, 116, 114, 117, 99, 116]⟩) := ((Blk.new w trapC _).cell 13).trans trapC_13
  go_enter Tryz.func10, Tryz.ntmps10
  go_wp2_with (go_at_call 17; refine (isM_any 13 _).mono ?_; rintro e w2 ⟨rfl, rfl⟩)
  go_ret
  exact ⟨rfl, (Below.refl _ w).alloc (Nat.le_refl _) _⟩
theorem trap_any (m : Int) (w : World) : Calls Tryz.prog 10 #[.int .i64 m] w fun e w' => e = .returned (.string (trapS m)) ∧ Below w.heap.size w w' := by
  by_cases h : m < 1 ∨ 13 < m
  · exact trap_out m h w
  · rcases (by omega : m = 1 ∨ m = 2 ∨ m = 3 ∨ m = 4 ∨ m = 5 ∨ m = 6 ∨ m = 7 ∨ m = 8 ∨ m = 9 ∨ m = 10 ∨ m = 11 ∨ m = 12 ∨ m = 13) with rfl | rfl | rfl | rfl | rfl | rfl | rfl | rfl | rfl | rfl | rfl | rfl | rfl
    · exact trap_1 w
    · exact trap_2 w
    · exact trap_3 w
    · exact trap_4 w
    · exact trap_5 w
    · exact trap_6 w
    · exact trap_7 w
    · exact trap_8 w
    · exact trap_9 w
    · exact trap_10 w
    · exact trap_11 w
    · exact trap_12 w
    · exact trap_13 w
end Go.Proofs.YtoakiejpmcgdjaaGreatDoor.Mo
