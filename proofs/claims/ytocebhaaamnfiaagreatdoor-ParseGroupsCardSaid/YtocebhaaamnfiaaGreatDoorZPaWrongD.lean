/-
  ParseWrong.
-/
import Derived.Test.YtocebhaaamnfiaaGreatDoorMg36
namespace Go.Proofs.YtocebhaaamnfiaaGreatDoor.Pa
open Go Go.RowKit Go.Proofs.YtocebhaaamnfiaaGreatDoor.Lx Go.Proofs.YtocebhaaamnfiaaGreatDoor.Uni
set_option linter.unusedVariables false
set_option linter.unusedSimpArgs false
attribute [local go_sem ↓] ldK stK alK bdK bsK ldN stN alN bdN bsN
attribute [local irreducible] kcs ncs ncells
attribute [local go_sem] run_alK run_bdK0 run_bdKs run_bdKn run_bdKe run_bsK run_fdK0 run_fdK1 run_fdK2 run_fdK3 run_fdN4 run_alN run_stNg run_ldNg run_bdN0 run_bdN04 run_bdN02 run_bdN01 run_bdN024 run_bdN03 run_bdN0234 run_bsN1 run_bsN2 run_bsN3

/-- The programs that are none, and where. -/
def wrongS : Nat → ByteArray
  | 0 => ⟨#[97]⟩
  | 1 => ⟨#[97, 32, 98, 59]⟩
  | 2 => ⟨#[59, 59, 41]⟩
  | 3 => ⟨#[108, 101, 116, 59]⟩
  | 4 => ⟨#[108, 101, 116, 32, 97, 32, 49, 59]⟩
  | 5 => ⟨#[108, 101, 116, 32, 97, 32, 61, 59]⟩
  | 6 => ⟨#[99, 111, 110, 115, 116, 32, 97, 59]⟩
  | 7 => ⟨#[105, 102, 32, 97, 59]⟩
  | 8 => ⟨#[105, 102, 32, 40, 97, 41, 59, 101, 108, 115, 101]⟩
  | 9 => ⟨#[119, 104, 105, 108, 101, 32, 40, 41, 59]⟩
  | 10 => ⟨#[114, 101, 116, 117, 114, 110]⟩
  | 11 => ⟨#[116, 104, 114, 111, 119, 59]⟩
  | 12 => ⟨#[116, 114, 121, 32, 123, 32, 125]⟩
  | 13 => ⟨#[116, 114, 121, 32, 123, 32, 125, 32, 99, 97, 116, 99, 104, 32, 123, 32, 125]⟩
  | 14 => ⟨#[123, 32, 97, 59, 32]⟩
  | 15 => ⟨#[49, 32, 61, 32, 50, 59]⟩
  | 16 => ⟨#[102, 40, 41, 32, 61, 32, 49, 59]⟩
  | 17 => ⟨#[100, 101, 108, 101, 116, 101, 32, 97, 59]⟩
  | 18 => ⟨#[100, 101, 108, 101, 116, 101, 32, 102, 40, 41, 59]⟩
  | 19 => ⟨#[110, 101, 119, 32, 102, 59]⟩
  | 20 => ⟨#[97, 46, 46, 98, 59]⟩
  | 21 => ⟨#[97, 46, 49, 59]⟩
  | 22 => ⟨#[91, 49, 44, 93, 59]⟩
  | 23 => ⟨#[102, 40, 49, 44, 41, 59]⟩
  | 24 => ⟨#[40, 123, 97, 125, 41, 59]⟩
  | 25 => ⟨#[40, 123, 97, 58, 32, 49, 44, 125, 41, 59]⟩
  | 26 => ⟨#[40, 123, 103, 101, 116, 32, 120, 58, 32, 49, 125, 41, 59]⟩
  | 27 => ⟨#[40, 123, 103, 101, 116, 32, 120, 40, 97, 41, 32, 123, 32, 125, 125, 41, 59]⟩
  | 28 => ⟨#[40, 123, 115, 101, 116, 32, 120, 40, 41, 32, 123, 32, 125, 125, 41, 59]⟩
  | 29 => ⟨#[102, 117, 110, 99, 116, 105, 111, 110, 32, 40, 41, 32, 123, 32, 125]⟩
  | 30 => ⟨#[102, 117, 110, 99, 116, 105, 111, 110, 32, 102, 40, 97, 44, 41, 32, 123, 32, 125]⟩
  | 31 => ⟨#[102, 117, 110, 99, 116, 105, 111, 110, 32, 102, 40, 49, 41, 32, 123, 32, 125]⟩
  | 32 => ⟨#[97, 32, 63, 32, 98, 59]⟩
  | 33 => ⟨#[97, 32, 61, 61, 61, 32, 59]⟩
  | 34 => ⟨#[108, 101, 116, 32, 105, 102, 32, 61, 32, 49, 59]⟩
  | 35 => ⟨#[97, 32, 61, 32, 98, 32, 61, 32, 59]⟩
  | 36 => ⟨#[40, 41, 32, 59]⟩
  | 37 => ⟨#[123, 97, 58, 32, 49, 125, 59]⟩
  | 38 => ⟨#[45, 32, 59]⟩
  | _ => ⟨#[97, 32, 105, 110, 32, 59]⟩
def wrongN : Nat → Int
  | 0 => 1
  | 1 => 2
  | 2 => 2
  | 3 => 3
  | 4 => 6
  | 5 => 7
  | 6 => 7
  | 7 => 3
  | 8 => 11
  | 9 => 7
  | 10 => 6
  | 11 => 5
  | 12 => 7
  | 13 => 14
  | 14 => 5
  | 15 => 2
  | 16 => 4
  | 17 => 8
  | 18 => 10
  | 19 => 5
  | 20 => 2
  | 21 => 2
  | 22 => 3
  | 23 => 4
  | 24 => 3
  | 25 => 7
  | 26 => 7
  | 27 => 8
  | 28 => 8
  | 29 => 9
  | 30 => 13
  | 31 => 11
  | 32 => 5
  | 33 => 6
  | 34 => 4
  | 35 => 8
  | 36 => 1
  | 37 => 2
  | 38 => 2
  | _ => 5
theorem wrong_0 : parseF ⟨#[97]⟩ = (zeroT, 1, 2) := by kernel_rfl
theorem wrong_1 : parseF ⟨#[97, 32, 98, 59]⟩ = (zeroT, 2, 2) := by kernel_rfl
theorem wrong_2 : parseF ⟨#[59, 59, 41]⟩ = (zeroT, 2, 2) := by kernel_rfl
theorem wrong_3 : parseF ⟨#[108, 101, 116, 59]⟩ = (zeroT, 3, 2) := by kernel_rfl
theorem wrong_4 : parseF ⟨#[108, 101, 116, 32, 97, 32, 49, 59]⟩ = (zeroT, 6, 2) := by kernel_rfl
theorem wrong_5 : parseF ⟨#[108, 101, 116, 32, 97, 32, 61, 59]⟩ = (zeroT, 7, 2) := by kernel_rfl
theorem wrong_6 : parseF ⟨#[99, 111, 110, 115, 116, 32, 97, 59]⟩ = (zeroT, 7, 2) := by kernel_rfl
theorem wrong_7 : parseF ⟨#[105, 102, 32, 97, 59]⟩ = (zeroT, 3, 2) := by kernel_rfl
theorem wrong_8 : parseF ⟨#[105, 102, 32, 40, 97, 41, 59, 101, 108, 115, 101]⟩ = (zeroT, 11, 2) := by kernel_rfl
theorem wrong_9 : parseF ⟨#[119, 104, 105, 108, 101, 32, 40, 41, 59]⟩ = (zeroT, 7, 2) := by kernel_rfl
theorem wrong_10 : parseF ⟨#[114, 101, 116, 117, 114, 110]⟩ = (zeroT, 6, 2) := by kernel_rfl
theorem wrong_11 : parseF ⟨#[116, 104, 114, 111, 119, 59]⟩ = (zeroT, 5, 2) := by kernel_rfl
theorem wrong_12 : parseF ⟨#[116, 114, 121, 32, 123, 32, 125]⟩ = (zeroT, 7, 2) := by kernel_rfl
theorem wrong_13 : parseF ⟨#[116, 114, 121, 32, 123, 32, 125, 32, 99, 97, 116, 99, 104, 32, 123, 32, 125]⟩ = (zeroT, 14, 2) := by kernel_rfl
theorem wrong_14 : parseF ⟨#[123, 32, 97, 59, 32]⟩ = (zeroT, 5, 2) := by kernel_rfl
theorem wrong_15 : parseF ⟨#[49, 32, 61, 32, 50, 59]⟩ = (zeroT, 2, 2) := by kernel_rfl
theorem wrong_16 : parseF ⟨#[102, 40, 41, 32, 61, 32, 49, 59]⟩ = (zeroT, 4, 2) := by kernel_rfl
theorem wrong_17 : parseF ⟨#[100, 101, 108, 101, 116, 101, 32, 97, 59]⟩ = (zeroT, 8, 2) := by kernel_rfl
theorem wrong_18 : parseF ⟨#[100, 101, 108, 101, 116, 101, 32, 102, 40, 41, 59]⟩ = (zeroT, 10, 2) := by kernel_rfl
theorem wrong_19 : parseF ⟨#[110, 101, 119, 32, 102, 59]⟩ = (zeroT, 5, 2) := by kernel_rfl
theorem wrong_20 : parseF ⟨#[97, 46, 46, 98, 59]⟩ = (zeroT, 2, 2) := by kernel_rfl
theorem wrong_21 : parseF ⟨#[97, 46, 49, 59]⟩ = (zeroT, 2, 2) := by kernel_rfl
theorem wrong_22 : parseF ⟨#[91, 49, 44, 93, 59]⟩ = (zeroT, 3, 2) := by kernel_rfl
theorem wrong_23 : parseF ⟨#[102, 40, 49, 44, 41, 59]⟩ = (zeroT, 4, 2) := by kernel_rfl
theorem wrong_24 : parseF ⟨#[40, 123, 97, 125, 41, 59]⟩ = (zeroT, 3, 2) := by kernel_rfl
theorem wrong_25 : parseF ⟨#[40, 123, 97, 58, 32, 49, 44, 125, 41, 59]⟩ = (zeroT, 7, 2) := by kernel_rfl
theorem wrong_26 : parseF ⟨#[40, 123, 103, 101, 116, 32, 120, 58, 32, 49, 125, 41, 59]⟩ = (zeroT, 7, 2) := by kernel_rfl
theorem wrong_27 : parseF ⟨#[40, 123, 103, 101, 116, 32, 120, 40, 97, 41, 32, 123, 32, 125, 125, 41, 59]⟩ = (zeroT, 8, 2) := by kernel_rfl
theorem wrong_28 : parseF ⟨#[40, 123, 115, 101, 116, 32, 120, 40, 41, 32, 123, 32, 125, 125, 41, 59]⟩ = (zeroT, 8, 2) := by kernel_rfl
theorem wrong_29 : parseF ⟨#[102, 117, 110, 99, 116, 105, 111, 110, 32, 40, 41, 32, 123, 32, 125]⟩ = (zeroT, 9, 2) := by kernel_rfl
theorem wrong_30 : parseF ⟨#[102, 117, 110, 99, 116, 105, 111, 110, 32, 102, 40, 97, 44, 41, 32, 123, 32, 125]⟩ = (zeroT, 13, 2) := by kernel_rfl
theorem wrong_31 : parseF ⟨#[102, 117, 110, 99, 116, 105, 111, 110, 32, 102, 40, 49, 41, 32, 123, 32, 125]⟩ = (zeroT, 11, 2) := by kernel_rfl
theorem wrong_32 : parseF ⟨#[97, 32, 63, 32, 98, 59]⟩ = (zeroT, 5, 2) := by kernel_rfl
theorem wrong_33 : parseF ⟨#[97, 32, 61, 61, 61, 32, 59]⟩ = (zeroT, 6, 2) := by kernel_rfl
theorem wrong_34 : parseF ⟨#[108, 101, 116, 32, 105, 102, 32, 61, 32, 49, 59]⟩ = (zeroT, 4, 2) := by kernel_rfl
theorem wrong_35 : parseF ⟨#[97, 32, 61, 32, 98, 32, 61, 32, 59]⟩ = (zeroT, 8, 2) := by kernel_rfl
theorem wrong_36 : parseF ⟨#[40, 41, 32, 59]⟩ = (zeroT, 1, 2) := by kernel_rfl
theorem wrong_37 : parseF ⟨#[123, 97, 58, 32, 49, 125, 59]⟩ = (zeroT, 2, 2) := by kernel_rfl
theorem wrong_38 : parseF ⟨#[45, 32, 59]⟩ = (zeroT, 2, 2) := by kernel_rfl
theorem wrong_39 : parseF ⟨#[97, 32, 105, 110, 32, 59]⟩ = (zeroT, 5, 2) := by kernel_rfl
theorem wrong_at {k : Nat} (h : k < 40) : parseF (wrongS k) = (zeroT, wrongN k, 2) := by
  rcases (by omega : k = 0 ∨ k = 1 ∨ k = 2 ∨ k = 3 ∨ k = 4 ∨ k = 5 ∨ k = 6 ∨ k = 7 ∨ k = 8 ∨ k = 9 ∨ k = 10 ∨ k = 11 ∨ k = 12 ∨ k = 13 ∨ k = 14 ∨ k = 15 ∨ k = 16 ∨ k = 17 ∨ k = 18 ∨ k = 19 ∨ k = 20 ∨ k = 21 ∨ k = 22 ∨ k = 23 ∨ k = 24 ∨ k = 25 ∨ k = 26 ∨ k = 27 ∨ k = 28 ∨ k = 29 ∨ k = 30 ∨ k = 31 ∨ k = 32 ∨ k = 33 ∨ k = 34 ∨ k = 35 ∨ k = 36 ∨ k = 37 ∨ k = 38 ∨ k = 39) with rfl | rfl | rfl | rfl | rfl | rfl | rfl | rfl | rfl | rfl | rfl | rfl | rfl | rfl | rfl | rfl | rfl | rfl | rfl | rfl | rfl | rfl | rfl | rfl | rfl | rfl | rfl | rfl | rfl | rfl | rfl | rfl | rfl | rfl | rfl | rfl | rfl | rfl | rfl | rfl
  · exact wrong_0
  · exact wrong_1
  · exact wrong_2
  · exact wrong_3
  · exact wrong_4
  · exact wrong_5
  · exact wrong_6
  · exact wrong_7
  · exact wrong_8
  · exact wrong_9
  · exact wrong_10
  · exact wrong_11
  · exact wrong_12
  · exact wrong_13
  · exact wrong_14
  · exact wrong_15
  · exact wrong_16
  · exact wrong_17
  · exact wrong_18
  · exact wrong_19
  · exact wrong_20
  · exact wrong_21
  · exact wrong_22
  · exact wrong_23
  · exact wrong_24
  · exact wrong_25
  · exact wrong_26
  · exact wrong_27
  · exact wrong_28
  · exact wrong_29
  · exact wrong_30
  · exact wrong_31
  · exact wrong_32
  · exact wrong_33
  · exact wrong_34
  · exact wrong_35
  · exact wrong_36
  · exact wrong_37
  · exact wrong_38
  · exact wrong_39
theorem wrong_sz {k : Nat} (h : k < 40) : (wrongS k).size ≤ 100 := by
  rcases (by omega : k = 0 ∨ k = 1 ∨ k = 2 ∨ k = 3 ∨ k = 4 ∨ k = 5 ∨ k = 6 ∨ k = 7 ∨ k = 8 ∨ k = 9 ∨ k = 10 ∨ k = 11 ∨ k = 12 ∨ k = 13 ∨ k = 14 ∨ k = 15 ∨ k = 16 ∨ k = 17 ∨ k = 18 ∨ k = 19 ∨ k = 20 ∨ k = 21 ∨ k = 22 ∨ k = 23 ∨ k = 24 ∨ k = 25 ∨ k = 26 ∨ k = 27 ∨ k = 28 ∨ k = 29 ∨ k = 30 ∨ k = 31 ∨ k = 32 ∨ k = 33 ∨ k = 34 ∨ k = 35 ∨ k = 36 ∨ k = 37 ∨ k = 38 ∨ k = 39) with rfl | rfl | rfl | rfl | rfl | rfl | rfl | rfl | rfl | rfl | rfl | rfl | rfl | rfl | rfl | rfl | rfl | rfl | rfl | rfl | rfl | rfl | rfl | rfl | rfl | rfl | rfl | rfl | rfl | rfl | rfl | rfl | rfl | rfl | rfl | rfl | rfl | rfl | rfl | rfl <;> decide
def wrongC : Array Value := #[.string ⟨#[97]⟩, .string ⟨#[97, 32, 98, 59]⟩, .string ⟨#[59, 59, 41]⟩, .string ⟨#[108, 101, 116, 59]⟩, .string ⟨#[108, 101, 116, 32, 97, 32, 49, 59]⟩, .string ⟨#[108, 101, 116, 32, 97, 32, 61, 59]⟩, .string ⟨#[99, 111, 110, 115, 116, 32, 97, 59]⟩, .string ⟨#[105, 102, 32, 97, 59]⟩, .string ⟨#[105, 102, 32, 40, 97, 41, 59, 101, 108, 115, 101]⟩, .string ⟨#[119, 104, 105, 108, 101, 32, 40, 41, 59]⟩, .string ⟨#[114, 101, 116, 117, 114, 110]⟩, .string ⟨#[116, 104, 114, 111, 119, 59]⟩, .string ⟨#[116, 114, 121, 32, 123, 32, 125]⟩, .string ⟨#[116, 114, 121, 32, 123, 32, 125, 32, 99, 97, 116, 99, 104, 32, 123, 32, 125]⟩, .string ⟨#[123, 32, 97, 59, 32]⟩, .string ⟨#[49, 32, 61, 32, 50, 59]⟩, .string ⟨#[102, 40, 41, 32, 61, 32, 49, 59]⟩, .string ⟨#[100, 101, 108, 101, 116, 101, 32, 97, 59]⟩, .string ⟨#[100, 101, 108, 101, 116, 101, 32, 102, 40, 41, 59]⟩, .string ⟨#[110, 101, 119, 32, 102, 59]⟩, .string ⟨#[97, 46, 46, 98, 59]⟩, .string ⟨#[97, 46, 49, 59]⟩, .string ⟨#[91, 49, 44, 93, 59]⟩, .string ⟨#[102, 40, 49, 44, 41, 59]⟩, .string ⟨#[40, 123, 97, 125, 41, 59]⟩, .string ⟨#[40, 123, 97, 58, 32, 49, 44, 125, 41, 59]⟩, .string ⟨#[40, 123, 103, 101, 116, 32, 120, 58, 32, 49, 125, 41, 59]⟩, .string ⟨#[40, 123, 103, 101, 116, 32, 120, 40, 97, 41, 32, 123, 32, 125, 125, 41, 59]⟩, .string ⟨#[40, 123, 115, 101, 116, 32, 120, 40, 41, 32, 123, 32, 125, 125, 41, 59]⟩, .string ⟨#[102, 117, 110, 99, 116, 105, 111, 110, 32, 40, 41, 32, 123, 32, 125]⟩, .string ⟨#[102, 117, 110, 99, 116, 105, 111, 110, 32, 102, 40, 97, 44, 41, 32, 123, 32, 125]⟩, .string ⟨#[102, 117, 110, 99, 116, 105, 111, 110, 32, 102, 40, 49, 41, 32, 123, 32, 125]⟩, .string ⟨#[97, 32, 63, 32, 98, 59]⟩, .string ⟨#[97, 32, 61, 61, 61, 32, 59]⟩, .string ⟨#[108, 101, 116, 32, 105, 102, 32, 61, 32, 49, 59]⟩, .string ⟨#[97, 32, 61, 32, 98, 32, 61, 32, 59]⟩, .string ⟨#[40, 41, 32, 59]⟩, .string ⟨#[123, 97, 58, 32, 49, 125, 59]⟩, .string ⟨#[45, 32, 59]⟩, .string ⟨#[97, 32, 105, 110, 32, 59]⟩]
def wrongI : Array Value := #[.int .i64 1, .int .i64 2, .int .i64 2, .int .i64 3, .int .i64 6, .int .i64 7, .int .i64 7, .int .i64 3, .int .i64 11, .int .i64 7, .int .i64 6, .int .i64 5, .int .i64 7, .int .i64 14, .int .i64 5, .int .i64 2, .int .i64 4, .int .i64 8, .int .i64 10, .int .i64 5, .int .i64 2, .int .i64 2, .int .i64 3, .int .i64 4, .int .i64 3, .int .i64 7, .int .i64 7, .int .i64 8, .int .i64 8, .int .i64 9, .int .i64 13, .int .i64 11, .int .i64 5, .int .i64 6, .int .i64 4, .int .i64 8, .int .i64 1, .int .i64 2, .int .i64 2, .int .i64 5]
theorem wrongC_at {k : Nat} (h : k < 40) : wrongC[k]? = some (.string (wrongS k)) := by
  rcases (by omega : k = 0 ∨ k = 1 ∨ k = 2 ∨ k = 3 ∨ k = 4 ∨ k = 5 ∨ k = 6 ∨ k = 7 ∨ k = 8 ∨ k = 9 ∨ k = 10 ∨ k = 11 ∨ k = 12 ∨ k = 13 ∨ k = 14 ∨ k = 15 ∨ k = 16 ∨ k = 17 ∨ k = 18 ∨ k = 19 ∨ k = 20 ∨ k = 21 ∨ k = 22 ∨ k = 23 ∨ k = 24 ∨ k = 25 ∨ k = 26 ∨ k = 27 ∨ k = 28 ∨ k = 29 ∨ k = 30 ∨ k = 31 ∨ k = 32 ∨ k = 33 ∨ k = 34 ∨ k = 35 ∨ k = 36 ∨ k = 37 ∨ k = 38 ∨ k = 39) with rfl | rfl | rfl | rfl | rfl | rfl | rfl | rfl | rfl | rfl | rfl | rfl | rfl | rfl | rfl | rfl | rfl | rfl | rfl | rfl | rfl | rfl | rfl | rfl | rfl | rfl | rfl | rfl | rfl | rfl | rfl | rfl | rfl | rfl | rfl | rfl | rfl | rfl | rfl | rfl <;> rfl
theorem wrongI_at {k : Nat} (h : k < 40) : wrongI[k]? = some (.int .i64 (wrongN k)) := by
  rcases (by omega : k = 0 ∨ k = 1 ∨ k = 2 ∨ k = 3 ∨ k = 4 ∨ k = 5 ∨ k = 6 ∨ k = 7 ∨ k = 8 ∨ k = 9 ∨ k = 10 ∨ k = 11 ∨ k = 12 ∨ k = 13 ∨ k = 14 ∨ k = 15 ∨ k = 16 ∨ k = 17 ∨ k = 18 ∨ k = 19 ∨ k = 20 ∨ k = 21 ∨ k = 22 ∨ k = 23 ∨ k = 24 ∨ k = 25 ∨ k = 26 ∨ k = 27 ∨ k = 28 ∨ k = 29 ∨ k = 30 ∨ k = 31 ∨ k = 32 ∨ k = 33 ∨ k = 34 ∨ k = 35 ∨ k = 36 ∨ k = 37 ∨ k = 38 ∨ k = 39) with rfl | rfl | rfl | rfl | rfl | rfl | rfl | rfl | rfl | rfl | rfl | rfl | rfl | rfl | rfl | rfl | rfl | rfl | rfl | rfl | rfl | rfl | rfl | rfl | rfl | rfl | rfl | rfl | rfl | rfl | rfl | rfl | rfl | rfl | rfl | rfl | rfl | rfl | rfl | rfl <;> rfl
theorem infoI3 : (Tryz.prog.info? 3).map (fun i => (i.zero, i.size, i.bytes)) = some (some (.int .i64 0), 1, 8) := by kernel_rfl
def BsI (n : Nat) (ps : Array (Nat × Value)) : Sem Value := Instr.buildSlice 36 n ps
theorem bsI (n : Nat) (ps : Array (Nat × Value)) : Instr.buildSlice 36 n ps = BsI n ps := (rfl)
theorem run_wrongC (w : World) : (BsS 40 #[(0, .string ⟨#[97]⟩), (1, .string ⟨#[97, 32, 98, 59]⟩), (2, .string ⟨#[59, 59, 41]⟩), (3, .string ⟨#[108, 101, 116, 59]⟩), (4, .string ⟨#[108, 101, 116, 32, 97, 32, 49, 59]⟩), (5, .string ⟨#[108, 101, 116, 32, 97, 32, 61, 59]⟩), (6, .string ⟨#[99, 111, 110, 115, 116, 32, 97, 59]⟩), (7, .string ⟨#[105, 102, 32, 97, 59]⟩), (8, .string ⟨#[105, 102, 32, 40, 97, 41, 59, 101, 108, 115, 101]⟩), (9, .string ⟨#[119, 104, 105, 108, 101, 32, 40, 41, 59]⟩), (10, .string ⟨#[114, 101, 116, 117, 114, 110]⟩), (11, .string ⟨#[116, 104, 114, 111, 119, 59]⟩), (12, .string ⟨#[116, 114, 121, 32, 123, 32, 125]⟩), (13, .string ⟨#[116, 114, 121, 32, 123, 32, 125, 32, 99, 97, 116, 99, 104, 32, 123, 32, 125]⟩), (14, .string ⟨#[123, 32, 97, 59, 32]⟩), (15, .string ⟨#[49, 32, 61, 32, 50, 59]⟩), (16, .string ⟨#[102, 40, 41, 32, 61, 32, 49, 59]⟩), (17, .string ⟨#[100, 101, 108, 101, 116, 101, 32, 97, 59]⟩), (18, .string ⟨#[100, 101, 108, 101, 116, 101, 32, 102, 40, 41, 59]⟩), (19, .string ⟨#[110, 101, 119, 32, 102, 59]⟩), (20, .string ⟨#[97, 46, 46, 98, 59]⟩), (21, .string ⟨#[97, 46, 49, 59]⟩), (22, .string ⟨#[91, 49, 44, 93, 59]⟩), (23, .string ⟨#[102, 40, 49, 44, 41, 59]⟩), (24, .string ⟨#[40, 123, 97, 125, 41, 59]⟩), (25, .string ⟨#[40, 123, 97, 58, 32, 49, 44, 125, 41, 59]⟩), (26, .string ⟨#[40, 123, 103, 101, 116, 32, 120, 58, 32, 49, 125, 41, 59]⟩), (27, .string ⟨#[40, 123, 103, 101, 116, 32, 120, 40, 97, 41, 32, 123, 32, 125, 125, 41, 59]⟩), (28, .string ⟨#[40, 123, 115, 101, 116, 32, 120, 40, 41, 32, 123, 32, 125, 125, 41, 59]⟩), (29, .string ⟨#[102, 117, 110, 99, 116, 105, 111, 110, 32, 40, 41, 32, 123, 32, 125]⟩), (30, .string ⟨#[102, 117, 110, 99, 116, 105, 111, 110, 32, 102, 40, 97, 44, 41, 32, 123, 32, 125]⟩), (31, .string ⟨#[102, 117, 110, 99, 116, 105, 111, 110, 32, 102, 40, 49, 41, 32, 123, 32, 125]⟩), (32, .string ⟨#[97, 32, 63, 32, 98, 59]⟩), (33, .string ⟨#[97, 32, 61, 61, 61, 32, 59]⟩), (34, .string ⟨#[108, 101, 116, 32, 105, 102, 32, 61, 32, 49, 59]⟩), (35, .string ⟨#[97, 32, 61, 32, 98, 32, 61, 32, 59]⟩), (36, .string ⟨#[40, 41, 32, 59]⟩), (37, .string ⟨#[123, 97, 58, 32, 49, 125, 59]⟩), (38, .string ⟨#[45, 32, 59]⟩), (39, .string ⟨#[97, 32, 105, 110, 32, 59]⟩)]).run Tryz.prog w = .ok (.slice (some ⟨w.heap.size, 0, none⟩) 40 40) (w.alloc (.cells wrongC 9)) := by
  obtain ⟨i, hi, hz, hs, hb⟩ := info_parts infoS3
  exact run_buildSlice w 24 9 40 _ wrongC i (.string noS) Tryz.underlying24 hi hz (by rw [hs]; decide) (by rw [hs]; decide) (by rw [hs]; kernel_rfl)
theorem run_wrongI (w : World) : (BsI 40 #[(0, .int .i64 1), (1, .int .i64 2), (2, .int .i64 2), (3, .int .i64 3), (4, .int .i64 6), (5, .int .i64 7), (6, .int .i64 7), (7, .int .i64 3), (8, .int .i64 11), (9, .int .i64 7), (10, .int .i64 6), (11, .int .i64 5), (12, .int .i64 7), (13, .int .i64 14), (14, .int .i64 5), (15, .int .i64 2), (16, .int .i64 4), (17, .int .i64 8), (18, .int .i64 10), (19, .int .i64 5), (20, .int .i64 2), (21, .int .i64 2), (22, .int .i64 3), (23, .int .i64 4), (24, .int .i64 3), (25, .int .i64 7), (26, .int .i64 7), (27, .int .i64 8), (28, .int .i64 8), (29, .int .i64 9), (30, .int .i64 13), (31, .int .i64 11), (32, .int .i64 5), (33, .int .i64 6), (34, .int .i64 4), (35, .int .i64 8), (36, .int .i64 1), (37, .int .i64 2), (38, .int .i64 2), (39, .int .i64 5)]).run Tryz.prog w = .ok (.slice (some ⟨w.heap.size, 0, none⟩) 40 40) (w.alloc (.cells wrongI 3)) := by
  obtain ⟨i, hi, hz, hs, hb⟩ := info_parts infoI3
  exact run_buildSlice w 36 3 40 _ wrongI i (.int .i64 0) Tryz.underlying36 hi hz (by rw [hs]; decide) (by rw [hs]; decide) (by rw [hs]; kernel_rfl)
theorem slim0 : Slim zeroT := by
  unfold zeroT Slim Slims
  simp
end Go.Proofs.YtocebhaaamnfiaaGreatDoor.Pa
