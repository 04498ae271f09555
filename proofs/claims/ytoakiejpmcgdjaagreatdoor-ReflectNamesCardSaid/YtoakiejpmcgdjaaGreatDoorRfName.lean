/-
  The names: reflect's and the reference's.
-/
import Derived.Test.YtoakiejpmcgdjaaGreatDoorMoTrap
namespace Go.Proofs.YtoakiejpmcgdjaaGreatDoor.Mo
open Go Go.RowKit Go.Maps Go.Shelf Go.Proofs.YtoakiejpmcgdjaaGreatDoor.Keys Go.Proofs.YtoakiejpmcgdjaaGreatDoor.Hp
set_option linter.unusedVariables false
set_option linter.unusedSimpArgs false
set_option maxRecDepth 100000
theorem rname_any (m : Int) (w : World) : Calls Tryz.prog 7 #[.int .i64 m] w fun e w' => e = .returned (.string (trapS m)) ∧ Below w.heap.size w w' := by
  go_enter Tryz.func7, Tryz.ntmps7
  go_wp2_with (go_at_call 10; refine (trap_any m _).mono ?_; rintro e w2 ⟨rfl, hb⟩)
  go_ret
  exact ⟨rfl, hb⟩
theorem rtrap_any (m : Int) (w : World) : Calls Tryz.prog 5 #[.int .i64 m] w fun e w' => e = .returned (.string (trapS m)) ∧ Below w.heap.size w w' := by
  go_enter Tryz.func5, Tryz.ntmps5
  go_wp2_with (go_at_call 7; refine (rname_any m _).mono ?_; rintro e w2 ⟨rfl, hb⟩)
  go_ret
  exact ⟨rfl, hb⟩
def BsA (ps : Array (Nat × Value)) : Sem Value := Instr.buildSlice 37 14 ps
theorem bsA (ps : Array (Nat × Value)) : Instr.buildSlice 37 14 ps = BsA ps := (rfl)
theorem infoS : (Tryz.prog.info? 9).map (fun i => (i.zero, i.size, i.bytes)) = some (some (.string ⟨#[]⟩), 1, 16) := by kernel_rfl
theorem run_bsA (w : World) : (BsA #[(0, .string ⟨#[]⟩), (1, .string ⟨#[103, 101, 116, 80, 114, 111, 116, 111, 116, 121, 112, 101, 79, 102]⟩), (2, .string ⟨#[115, 101, 116, 80, 114, 111, 116, 111, 116, 121, 112, 101, 79, 102]⟩), (3, .string ⟨#[105, 115, 69, 120, 116, 101, 110, 115, 105, 98, 108, 101]⟩), (4, .string ⟨#[112, 114, 101, 118, 101, 110, 116, 69, 120, 116, 101, 110, 115, 105, 111, 110, 115]⟩), (5, .string ⟨#[103, 101, 116, 79, 119, 110, 80, 114, 111, 112, 101, 114, 116, 121, 68, 101, 115, 99, 114, 105, 112, 116, 111, 114]⟩), (6, .string ⟨#[100, 101, 102, 105, 110, 101, 80, 114, 111, 112, 101, 114, 116, 121]⟩), (7, .string ⟨#[104, 97, 115]⟩), (8, .string ⟨#[103, 101, 116]⟩), (9, .string ⟨#[115, 101, 116]⟩), (10, .string ⟨#[100, 101, 108, 101, 116, 101, 80, 114, 111, 112, 101, 114, 116, 121]⟩), (11, .string ⟨#[111, 119, 110, 75, 101, 121, 115]⟩), (12, .string ⟨#[97, 112, 112, 108, 121]⟩), (13, .string ⟨#[99, 111, 110, 115, 116, 114, 117, 99, 116]⟩)]).run Tryz.prog w = .ok (.slice (some ⟨w.heap.size, 0, none⟩) 14 14) (w.alloc (.cells trapC 9)) := by
  obtain ⟨i, hi, hz, hs, hb⟩ := info_parts infoS
  exact run_buildSlice w 37 9 14 _ trapC i (.string ⟨#[]⟩) Tryz.underlying37 hi hz (by rw [hs]; decide) (by rw [hs]; decide) (by rw [hs]; kernel_rfl)
attribute [local go_sem ↓] bsA
attribute [local irreducible] trapC
attribute [local go_sem] run_bsA
theorem ref_out (m : Int) (h : m < 1 ∨ 13 < m) (w : World) : Calls Tryz.prog 6 #[.int .i64 m] w fun e w' => e = .returned (.string (trapS m)) ∧ Below w.heap.size w w' := by
  rw [trapS_out h]
  rcases h with h | h
  · go_enter Tryz.func6, Tryz.ntmps6
    go_wp2
    go_ret
    exact ⟨rfl, (Below.refl _ w).alloc (Nat.le_refl _) _⟩
  · have h1 : decide (m < 1) = false := by simp; omega
    go_enter Tryz.func6, Tryz.ntmps6
    go_wp2
    go_ret
    exact ⟨rfl, (Below.refl _ w).alloc (Nat.le_refl _) _⟩
theorem ref_1 (w : World) : Calls Tryz.prog 6 #[.int .i64 1] w fun e w' => e = .returned (.string (trapS 1)) ∧ Below w.heap.size w w' := by
  rw [trapS_1]
  have c : (w.alloc (.cells trapC 9)).cell? ⟨w.heap.size, 1, none⟩ = some (.string ⟨#[103, 101, 116, 80, 114, 111, 116, 111, 116, 121, 112, 101, 79, 102]⟩) := ((Blk.new w trapC _).cell 1).trans trapC_1
  go_enter Tryz.func6, Tryz.ntmps6
  go_wp2
  go_ret
  exact ⟨rfl, (Below.refl _ w).alloc (Nat.le_refl _) _⟩
theorem ref_2 (w : World) : Calls Tryz.prog 6 #[.int .i64 2] w fun e w' => e = .returned (.string (trapS 2)) ∧ Below w.heap.size w w' := by
  rw [trapS_2]
  have c : (w.alloc (.cells trapC 9)).cell? ⟨w.heap.size, 2, none⟩ = some (.string ⟨#[115, 101, 116, 80, 114, 111, 116, 111, 116, 121, 112, 101, 79, 102]⟩) := ((Blk.new w trapC _).cell 2).trans trapC_2
  go_enter Tryz.func6, Tryz.ntmps6
  go_wp2
  go_ret
  exact ⟨rfl, (Below.refl _ w).alloc (Nat.le_refl _) _⟩
theorem ref_3 (w : World) : Calls Tryz.prog 6 #[.int .i64 3] w fun e w' => e = .returned (.string (trapS 3)) ∧ Below w.heap.size w w' := by
  rw [trapS_3]
  have c : (w.alloc (.cells trapC 9)).cell? ⟨w.heap.size, 3, none⟩ = some (.string ⟨#[105, 115, 69, 120, 116, 101, 110, 115, 105, 98, 108, 101]⟩) := ((Blk.new w trapC _).cell 3).trans trapC_3
  go_enter Tryz.func6, Tryz.ntmps6
  go_wp2
  go_ret
  exact ⟨rfl, (Below.refl _ w).alloc (Nat.le_refl _) _⟩
theorem ref_4 (w : World) : Calls Tryz.prog 6 #[.int .i64 4] w fun e w' => e = .returned (.string (trapS 4)) ∧ Below w.heap.size w w' := by
  rw [trapS_4]
  have c : (w.alloc (.cells trapC 9)).cell? ⟨w.heap.size, 4, none⟩ = some (.string ⟨#[112, 114, 101, 118, 101, 110, 116, 69, 120, 116, 101, 110, 115, 105, 111, 110, 115]⟩) := ((Blk.new w trapC _).cell 4).trans trapC_4
  go_enter Tryz.func6, Tryz.ntmps6
  go_wp2
  go_ret
  exact ⟨rfl, (Below.refl _ w).alloc (Nat.le_refl _) _⟩
theorem ref_5 (w : World) : Calls Tryz.prog 6 #[.int .i64 5] w fun e w' => e = .returned (.string (trapS 5)) ∧ Below w.heap.size w w' := by
  rw [trapS_5]
  have c : (w.alloc (.cells trapC 9)).cell? ⟨w.heap.size, 5, none⟩ = some (.string ⟨#[103, 101, 116, 79, 119, 110, 80, 114, 111, 112, 101, 114, 116, 121, 68, 101, 115, 99, 114, 105, 112, 116, 111, 114]⟩) := ((Blk.new w trapC _).cell 5).trans trapC_5
  go_enter Tryz.func6, Tryz.ntmps6
  go_wp2
  go_ret
  exact ⟨rfl, (Below.refl _ w).alloc (Nat.le_refl _) _⟩
theorem ref_6 (w : World) : Calls Tryz.prog 6 #[.int .i64 6] w fun e w' => e = .returned (.string (trapS 6)) ∧ Below w.heap.size w w' := by
  rw [trapS_6]
  have c : (w.alloc (.cells trapC 9)).cell? ⟨w.heap.size, 6, none⟩ = some (.string ⟨#[100, 101, 102, 105, 110, 101, 80, 114, 111, 112, 101, 114, 116, 121]⟩) := ((Blk.new w trapC _).cell 6).trans trapC_6
  go_enter Tryz.func6, Tryz.ntmps6
  go_wp2
  go_ret
  exact ⟨rfl, (Below.refl _ w).alloc (Nat.le_refl _) _⟩
theorem ref_7 (w : World) : Calls Tryz.prog 6 #[.int .i64 7] w fun e w' => e = .returned (.string (trapS 7)) ∧ Below w.heap.size w w' := by
  rw [trapS_7]
  have c : (w.alloc (.cells trapC 9)).cell? ⟨w.heap.size, 7, none⟩ = some (.string ⟨#[104, 97, 115]⟩) := ((Blk.new w trapC _).cell 7).trans trapC_7
  go_enter Tryz.func6, Tryz.ntmps6
  go_wp2
  go_ret
  exact ⟨rfl, (Below.refl _ w).alloc (Nat.le_refl _) _⟩
theorem ref_8 (w : World) : Calls Tryz.prog 6 #[.int .i64 8] w fun e w' => e = .returned (.string (trapS 8)) ∧ Below w.heap.size w w' := by
  rw [trapS_8]
  have c : (w.alloc (.cells trapC 9)).cell? ⟨w.heap.size, 8, none⟩ = some (.string ⟨#[103, 101, 116]⟩) := ((Blk.new w trapC _).cell 8).trans trapC_8
  go_enter Tryz.func6, Tryz.ntmps6
  go_wp2
  go_ret
  exact ⟨rfl, (Below.refl _ w).alloc (Nat.le_refl _) _⟩
theorem ref_9 (w : World) : Calls Tryz.prog 6 #[.int .i64 9] w fun e w' => e = .returned (.string (trapS 9)) ∧ Below w.heap.size w w' := by
  rw [trapS_9]
  have c : (w.alloc (.cells trapC 9)).cell? ⟨w.heap.size, 9, none⟩ = some (.string ⟨#[115, 101, 116]⟩) := ((Blk.new w trapC _).cell 9).trans trapC_9
  go_enter Tryz.func6, Tryz.ntmps6
  go_wp2
  go_ret
  exact ⟨rfl, (Below.refl _ w).alloc (Nat.le_refl _) _⟩
theorem ref_10 (w : World) : Calls Tryz.prog 6 #[.int .i64 10] w fun e w' => e = .returned (.string (trapS 10)) ∧ Below w.heap.size w w' := by
  rw [trapS_10]
  have c : (w.alloc (.cells trapC 9)).cell? ⟨w.heap.size, 10, none⟩ = some (.string ⟨#[100, 101, 108, 101, 116, 101, 80, 114, 111, 112, 101, 114, 116, 121]⟩) := ((Blk.new w trapC _).cell 10).trans trapC_10
  go_enter Tryz.func6, Tryz.ntmps6
  go_wp2
  go_ret
  exact ⟨rfl, (Below.refl _ w).alloc (Nat.le_refl _) _⟩
theorem ref_11 (w : World) : Calls Tryz.prog 6 #[.int .i64 11] w fun e w' => e = .returned (.string (trapS 11)) ∧ Below w.heap.size w w' := by
  rw [trapS_11]
  have c : (w.alloc (.cells trapC 9)).cell? ⟨w.heap.size, 11, none⟩ = some (.string ⟨#[111, 119, 110, 75, 101, 121, 115]⟩) := ((Blk.new w trapC _).cell 11).trans trapC_11
  go_enter Tryz.func6, Tryz.ntmps6
  go_wp2
  go_ret
  exact ⟨rfl, (Below.refl _ w).alloc (Nat.le_refl _) _⟩
theorem ref_12 (w : World) : Calls Tryz.prog 6 #[.int .i64 12] w fun e w' => e = .returned (.string (trapS 12)) ∧ Below w.heap.size w w' := by
  rw [trapS_12]
  have c : (w.alloc (.cells trapC 9)).cell? ⟨w.heap.size, 12, none⟩ = some (.string ⟨#[97, 112, 112, 108, 121]⟩) := ((Blk.new w trapC _).cell 12).trans trapC_12
  go_enter Tryz.func6, Tryz.ntmps6
  go_wp2
  go_ret
  exact ⟨rfl, (Below.refl _ w).alloc (Nat.le_refl _) _⟩
theorem ref_13 (w : World) : Calls Tryz.prog 6 #[.int .i64 13] w fun e w' => e = .returned (.string (trapS 13)) ∧ Below w.heap.size w w' := by
  rw [trapS_13]
  have c : (w.alloc (.cells trapC 9)).cell? ⟨w.heap.size, 13, none⟩ = some (.string ⟨#[99, 111, 110, 115, 116, 114, 117, 99, 116]⟩) := ((Blk.new w trapC _).cell 13).trans trapC_13
  go_enter Tryz.func6, Tryz.ntmps6
  go_wp2
  go_ret
  exact ⟨rfl, (Below.refl _ w).alloc (Nat.le_refl _) _⟩
theorem ref_any (m : Int) (w : World) : Calls Tryz.prog 6 #[.int .i64 m] w fun e w' => e = .returned (.string (trapS m)) ∧ Below w.heap.size w w' := by
  by_cases h : m < 1 ∨ 13 < m
  · exact ref_out m h w
  · rcases (by omega : m = 1 ∨ m = 2 ∨ m = 3 ∨ m = 4 ∨ m = 5 ∨ m = 6 ∨ m = 7 ∨ m = 8 ∨ m = 9 ∨ m = 10 ∨ m = 11 ∨ m = 12 ∨ m = 13) with rfl | rfl | rfl | rfl | rfl | rfl | rfl | rfl | rfl | rfl | rfl | rfl | rfl
    · exact ref_1 w
    · exact ref_2 w
    · exact ref_3 w
    · exact ref_4 w
    · exact ref_5 w
    · exact ref_6 w
    · exact ref_7 w
    · exact ref_8 w
    · exact ref_9 w
    · exact ref_10 w
    · exact ref_11 w
    · exact ref_12 w
    · exact ref_13 w
end Go.Proofs.YtoakiejpmcgdjaaGreatDoor.Mo
