/-
  ParseSame: the walk.
-/
import Derived.Test.YtocebhaaamnfiaaGreatDoorZPaWrong
import Derived.Test.YtocebhaaamnfiaaGreatDoorZPaSameD
namespace Go.Proofs.YtocebhaaamnfiaaGreatDoor.Pa
open Go Go.RowKit Go.Proofs.YtocebhaaamnfiaaGreatDoor.Lx Go.Proofs.YtocebhaaamnfiaaGreatDoor.Uni
set_option linter.unusedVariables false
set_option linter.unusedSimpArgs false
attribute [local go_sem ↓] ldK stK alK bdK bsK ldN stN alN bdN bsN
attribute [local irreducible] kcs ncs ncells
attribute [local go_sem] run_alK run_bdK0 run_bdKs run_bdKn run_bdKe run_bsK run_fdK0 run_fdK1 run_fdK2 run_fdK3 run_fdN4 run_alN run_stNg run_ldNg run_bdN0 run_bdN04 run_bdN02 run_bdN01 run_bdN024 run_bdN03 run_bdN0234 run_bsN1 run_bsN2 run_bsN3

def sameC : Array Value := #[.string ⟨#[97, 32, 61, 32, 98, 32, 61, 32, 99, 59]⟩, .string ⟨#[97, 32, 61, 32, 40, 98, 32, 61, 32, 99, 41, 59]⟩, .string ⟨#[97, 32, 63, 32, 98, 32, 58, 32, 99, 32, 63, 32, 100, 32, 58, 32, 101, 59]⟩, .string ⟨#[97, 32, 63, 32, 98, 32, 58, 32, 40, 99, 32, 63, 32, 100, 32, 58, 32, 101, 41, 59]⟩, .string ⟨#[97, 32, 63, 32, 98, 32, 61, 32, 49, 32, 58, 32, 99, 59]⟩, .string ⟨#[97, 32, 63, 32, 40, 98, 32, 61, 32, 49, 41, 32, 58, 32, 99, 59]⟩, .string ⟨#[33, 97, 46, 98, 59]⟩, .string ⟨#[33, 40, 97, 46, 98, 41, 59]⟩, .string ⟨#[45, 97, 32, 42, 32, 98, 59]⟩, .string ⟨#[40, 45, 97, 41, 32, 42, 32, 98, 59]⟩, .string ⟨#[116, 121, 112, 101, 111, 102, 32, 97, 32, 61, 61, 61, 32, 98, 59]⟩, .string ⟨#[40, 116, 121, 112, 101, 111, 102, 32, 97, 41, 32, 61, 61, 61, 32, 98, 59]⟩, .string ⟨#[110, 101, 119, 32, 97, 46, 98, 40, 99, 41, 46, 100, 59]⟩, .string ⟨#[40, 110, 101, 119, 32, 40, 97, 46, 98, 41, 40, 99, 41, 41, 46, 100, 59]⟩, .string ⟨#[110, 101, 119, 32, 102, 40, 41, 40, 41, 59]⟩, .string ⟨#[40, 110, 101, 119, 32, 102, 40, 41, 41, 40, 41, 59]⟩, .string ⟨#[97, 46, 98, 40, 99, 41, 91, 100, 93, 59]⟩, .string ⟨#[40, 40, 97, 46, 98, 41, 40, 99, 41, 41, 91, 100, 93, 59]⟩, .string ⟨#[105, 102, 32, 40, 97, 41, 32, 105, 102, 32, 40, 98, 41, 32, 99, 59, 32, 101, 108, 115, 101, 32, 100, 59]⟩, .string ⟨#[105, 102, 32, 40, 97, 41, 32, 123, 32, 105, 102, 32, 40, 98, 41, 32, 99, 59, 32, 101, 108, 115, 101, 32, 100, 59, 32, 125]⟩, .string ⟨#[40, 123, 34, 97, 34, 58, 32, 49, 125, 41, 59]⟩, .string ⟨#[40, 123, 97, 58, 32, 49, 125, 41, 59]⟩, .string ⟨#[40, 123, 55, 58, 32, 49, 125, 41, 59]⟩, .string ⟨#[40, 123, 34, 55, 34, 58, 32, 49, 125, 41, 59]⟩, .string ⟨#[97, 32, 47, 47, 32, 99, 10, 59]⟩, .string ⟨#[97, 59]⟩, .string ⟨#[39, 97, 39, 59]⟩, .string ⟨#[34, 97, 34, 59]⟩, .string ⟨#[34, 92, 117, 48, 48, 54, 49, 34, 59]⟩, .string ⟨#[34, 97, 34, 59]⟩, .string ⟨#[40, 123, 103, 101, 116, 58, 32, 49, 125, 41, 59]⟩, .string ⟨#[40, 123, 34, 103, 101, 116, 34, 58, 32, 49, 125, 41, 59]⟩, .string ⟨#[97, 46, 105, 102, 59]⟩, .string ⟨#[97, 32, 46, 32, 105, 102, 32, 59]⟩, .string ⟨#[40, 40, 97, 41, 41, 59]⟩, .string ⟨#[97, 59]⟩]
theorem sameC_a {k : Nat} (h : k < 18) : sameC[k * 2]? = some (.string (sameA k)) := by
  rcases (by omega : k = 0 ∨ k = 1 ∨ k = 2 ∨ k = 3 ∨ k = 4 ∨ k = 5 ∨ k = 6 ∨ k = 7 ∨ k = 8 ∨ k = 9 ∨ k = 10 ∨ k = 11 ∨ k = 12 ∨ k = 13 ∨ k = 14 ∨ k = 15 ∨ k = 16 ∨ k = 17) with rfl | rfl | rfl | rfl | rfl | rfl | rfl | rfl | rfl | rfl | rfl | rfl | rfl | rfl | rfl | rfl | rfl | rfl <;> rfl
theorem sameC_b {k : Nat} (h : k < 18) : sameC[k * 2 + 1]? = some (.string (sameB k)) := by
  rcases (by omega : k = 0 ∨ k = 1 ∨ k = 2 ∨ k = 3 ∨ k = 4 ∨ k = 5 ∨ k = 6 ∨ k = 7 ∨ k = 8 ∨ k = 9 ∨ k = 10 ∨ k = 11 ∨ k = 12 ∨ k = 13 ∨ k = 14 ∨ k = 15 ∨ k = 16 ∨ k = 17) with rfl | rfl | rfl | rfl | rfl | rfl | rfl | rfl | rfl | rfl | rfl | rfl | rfl | rfl | rfl | rfl | rfl | rfl <;> rfl
def BsQ (n : Nat) (ps : Array (Nat × Value)) : Sem Value := Instr.buildSlice 39 n ps
theorem bsQ (n : Nat) (ps : Array (Nat × Value)) : Instr.buildSlice 39 n ps = BsQ n ps := (rfl)
theorem bdQ (ps : Array (Nat × Value)) : Instr.build 38 ps = Bd 38 ps := (rfl)
theorem infoQ : (Tryz.prog.info? 38).map (fun i => (i.zero, i.size, i.bytes)) = some (some (.agg #[.string noS, .string noS]), 2, 32) := by kernel_rfl
theorem run_bdQ (w : World) (a b : ByteArray) : (Bd 38 #[(0, .string a), (1, .string b)]).run Tryz.prog w = .ok (.agg #[.string a, .string b]) w := run_build w _ _ _ (by kernel_rfl)
theorem run_sameC (w : World) : (BsQ 18 #[(0, .agg #[.string ⟨#[97, 32, 61, 32, 98, 32, 61, 32, 99, 59]⟩, .string ⟨#[97, 32, 61, 32, 40, 98, 32, 61, 32, 99, 41, 59]⟩]), (1, .agg #[.string ⟨#[97, 32, 63, 32, 98, 32, 58, 32, 99, 32, 63, 32, 100, 32, 58, 32, 101, 59]⟩, .string ⟨#[97, 32, 63, 32, 98, 32, 58, 32, 40, 99, 32, 63, 32, 100, 32, 58, 32, 101, 41, 59]⟩]), (2, .agg #[.string ⟨#[97, 32, 63, 32, 98, 32, 61, 32, 49, 32, 58, 32, 99, 59]⟩, .string ⟨#[97, 32, 63, 32, 40, 98, 32, 61, 32, 49, 41, 32, 58, 32, 99, 59]⟩]), (3, .agg #[.string ⟨#[33, 97, 46, 98, 59]⟩, .string ⟨#[33, 40, 97, 46, 98, 41, 59]⟩]), (4, .agg #[.string ⟨#[45, 97, 32, 42, 32, 98, 59]⟩, .string ⟨#[40, 45, 97, 41, 32, 42, 32, 98, 59]⟩]), (5, .agg #[.string ⟨#[116, 121, 112, 101, 111, 102, 32, 97, 32, 61, 61, 61, 32, 98, 59]⟩, .string ⟨#[40, 116, 121, 112, 101, 111, 102, 32, 97, 41, 32, 61, 61, 61, 32, 98, 59]⟩]), (6, .agg #[.string ⟨#[110, 101, 119, 32, 97, 46, 98, 40, 99, 41, 46, 100, 59]⟩, .string ⟨#[40, 110, 101, 119, 32, 40, 97, 46, 98, 41, 40, 99, 41, 41, 46, 100, 59]⟩]), (7, .agg #[.string ⟨#[110, 101, 119, 32, 102, 40, 41, 40, 41, 59]⟩, .string ⟨#[40, 110, 101, 119, 32, 102, 40, 41, 41, 40, 41, 59]⟩]), (8, .agg #[.string ⟨#[97, 46, 98, 40, 99, 41, 91, 100, 93, 59]⟩, .string ⟨#[40, 40, 97, 46, 98, 41, 40, 99, 41, 41, 91, 100, 93, 59]⟩]), (9, .agg #[.string ⟨#[105, 102, 32, 40, 97, 41, 32, 105, 102, 32, 40, 98, 41, 32, 99, 59, 32, 101, 108, 115, 101, 32, 100, 59]⟩, .string ⟨#[105, 102, 32, 40, 97, 41, 32, 123, 32, 105, 102, 32, 40, 98, 41, 32, 99, 59, 32, 101, 108, 115, 101, 32, 100, 59, 32, 125]⟩]), (10, .agg #[.string ⟨#[40, 123, 34, 97, 34, 58, 32, 49, 125, 41, 59]⟩, .string ⟨#[40, 123, 97, 58, 32, 49, 125, 41, 59]⟩]), (11, .agg #[.string ⟨#[40, 123, 55, 58, 32, 49, 125, 41, 59]⟩, .string ⟨#[40, 123, 34, 55, 34, 58, 32, 49, 125, 41, 59]⟩]), (12, .agg #[.string ⟨#[97, 32, 47, 47, 32, 99, 10, 59]⟩, .string ⟨#[97, 59]⟩]), (13, .agg #[.string ⟨#[39, 97, 39, 59]⟩, .string ⟨#[34, 97, 34, 59]⟩]), (14, .agg #[.string ⟨#[34, 92, 117, 48, 48, 54, 49, 34, 59]⟩, .string ⟨#[34, 97, 34, 59]⟩]), (15, .agg #[.string ⟨#[40, 123, 103, 101, 116, 58, 32, 49, 125, 41, 59]⟩, .string ⟨#[40, 123, 34, 103, 101, 116, 34, 58, 32, 49, 125, 41, 59]⟩]), (16, .agg #[.string ⟨#[97, 46, 105, 102, 59]⟩, .string ⟨#[97, 32, 46, 32, 105, 102, 32, 59]⟩]), (17, .agg #[.string ⟨#[40, 40, 97, 41, 41, 59]⟩, .string ⟨#[97, 59]⟩])]).run Tryz.prog w = .ok (.slice (some ⟨w.heap.size, 0, none⟩) 18 18) (w.alloc (.cells sameC 38)) := by
  obtain ⟨i, hi, hz, hs, hb⟩ := info_parts infoQ
  exact run_buildSlice w 39 38 18 _ sameC i (.agg #[.string noS, .string noS]) Tryz.underlying39 hi hz (by rw [hs]; decide) (by rw [hs]; decide) (by rw [hs]; kernel_rfl)
attribute [local irreducible] sameC sameA sameB
attribute [local go_sem ↓] bsQ bdQ
attribute [local go_sem] run_bdQ run_sameC

set_option maxRecDepth 100000 in
set_option maxHeartbeats 8000000 in
theorem same_out (i : Int) (w : World) (hX : Gp w) (h0 : -9223372036854775808 ≤ i) (h1 : i ≤ 9223372036854775807) (hi : i < 0 ∨ 18 ≤ i) : Calls Tryz.prog 7 #[.int .i64 i] w fun e w' => e = .returned (.bool true) ∧ Below w.heap.size w w' := by
  have hal := alive_any w hX
  clear hX
  by_cases hn : i < 0
  · have e1 : decide (i < 0) = true := decide_eq_true hn
    clear hi
    go_enter Tryz.func7, Tryz.ntmps7
    go_wp2_with (go_at_call 8; (with_reducible refine hal.mono ?_); rintro e w1 ⟨rfl, hb1⟩; have HB := Lib.hid hb1; clear hb1)
    go_ret
    exact ⟨rfl, HB.out.trans ((bel1 (o := .cells sameC 38)).mono HB.out.size)⟩
  · have e1 : decide (i < 0) = false := decide_eq_false hn
    have hn2 : 0 ≤ i := by omega
    have h40 : 18 ≤ i := by omega
    clear hi hn
    go_enter Tryz.func7, Tryz.ntmps7
    go_wp2_with (go_at_call 8; (with_reducible refine hal.mono ?_); rintro e w1 ⟨rfl, hb1⟩; have HB := Lib.hid hb1; clear hb1)
    go_ret
    exact ⟨rfl, HB.out.trans ((bel1 (o := .cells sameC 38)).mono HB.out.size)⟩

set_option maxRecDepth 100000 in
set_option maxHeartbeats 8000000 in
theorem same_in (k : Nat) (hk : k < 18) (hk9 : k ≠ 9) (w : World) (hX : Gp w) : Calls Tryz.prog 7 #[.int .i64 (k : Int)] w fun e w' => e = .returned (.bool true) ∧ Below w.heap.size w w' := by
  have hal := alive_any w hX
  have hs := same_all ⟨k, hk⟩
  simp only [sameOk, Bool.and_eq_true, beq_iff_eq, decide_eq_true_eq] at hs
  have hca := sameC_a hk
  have hcb := sameC_b hk
  have hki : (k : Int) < 18 := by omega
  have hk0 : decide ((k : Int) < 0) = false := by simp
  have hk4 : decide ((18 : Int) ≤ (k : Int)) = false := by simp; omega
  have hk5 : decide ((k : Int) = 9) = false := decide_eq_false (by omega)
  generalize sameA k = sa at hs hca
  generalize sameB k = sb at hs hcb
  obtain ⟨ea, eb, hsl, hsm, hza, hzb⟩ := hs
  rw [decide_eq_true hk9] at hsm
  have hpa := fun (b : Nat) (w : World) (hb : b = w.heap.size) (hX : Gp w) => parse_strAt sa w hb hX (by omega)
  have hpb := fun (b : Nat) (w : World) (hb : b = w.heap.size) (hX : Gp w) => parse_strAt sb w hb hX (by omega)
  rw [ea] at hpa
  rw [eb] at hpb
  have hsame := fun (S U : Nat → Prop) (w : World) (X Y : Nd) (h1 : Rep S w (parseF sa).1 X) (h2 : Rep U w (parseF sb).1 Y) => same_any _ (Nat.le_refl _) (slim_of _ hsl) h1 h2
  rw [hsm] at hsame
  generalize parseF sa = ra at hpa hsame
  generalize parseF sb = rb at hpb hsame
  have hcv := fun (s : ByteArray) (w : World) => Lib.run_convert_string_bytes (P := Tryz.prog) w 9 22 5 s Tryz.underlying9 Tryz.underlying22 Tryz.underlying5
  have HX := Lib.hid hX
  clear hX ea eb hsl hza hzb
  go_enter Tryz.func7, Tryz.ntmps7
  go_wp2_with (go_at_call 8; (with_reducible refine hal.mono ?_); rintro e w1 ⟨rfl, hb1⟩; refine Hid.out ?_)
  refine Lib.hid ?_
  have hb2 : Below w1.heap.size w1 (w1.alloc (.cells sameC 38)) := bel1
  have B1 := Blk.new w1 sameC 38
  have ca := (B1.cell (k * 2)).trans hca
  have cb := (B1.cell (k * 2 + 1)).trans hcb
  have hpr := hpa (w1.heap.size + 1) _ (by simp) ((HX.out.below hb1).below hb2)
  go_wp2_with (go_at_call 9; (with_reducible refine hpr.mono ?_); rintro e w2 ⟨N, rfl, hr, hb⟩; refine Hid.out ?_)
  refine Lib.hid ?_
  have hb3 : Below w1.heap.size w1 (w2.alloc (.cells (ncs N) 27)) := bl_alloc (bnext hb2 hb)
  have cb2 := (((B1.call hb).old (.cells (ncs N) 27)).cell (k * 2 + 1)).trans hcb
  have BN := Blk.new w2 (ncs N) 27
  have hpr2 := hpb (w2.heap.size + 1) _ (by simp) ((HX.out.below hb1).below hb3)
  have hrN := hr.below (bel1 (o := .cells (ncs N) 27))
  have HRN := Lib.hid hrN
  have HBN := Lib.hid BN
  have HB := Lib.hid (bnext hb1 hb3)
  clear hr hb hb1 hb2 hb3 B1 ca cb hpr hrN BN hal hpa hpb hca hcb HX
  go_wp2_with (first | (go_at_call 9; (with_reducible refine hpr2.mono ?_); rintro e w3 ⟨M, rfl, hr3, hb4⟩; have lN := run_ldN ((HBN.out.call hb4).old (.cells (ncs M) 27)); have hsm2 := hsame _ _ _ N M ((HRN.out.below hb4).below (bel1 (o := .cells (ncs M) 27))) (hr3.below (bel1 (o := .cells (ncs M) 27))); have HC := Lib.hid (bnext HB.out (bl_alloc (o := .cells (ncs M) 27) hb4)); clear hr3 hb4 hpr2) | (go_at_call 10; (with_reducible refine (num_any _ _).mono ?_); rintro e w4 ⟨rfl, rfl⟩) | (go_at_call 11; (with_reducible refine hsm2.mono ?_); intro e w5 hp; obtain ⟨rfl, hb5⟩ := hp; have HD := Lib.hid (bnext HC.out hb5); clear hb5))
  go_ret
  exact ⟨by simp, HD.out⟩

set_option maxRecDepth 100000 in
set_option maxHeartbeats 8000000 in
theorem same_in9 (k : Nat) (hk9 : k = 9) (w : World) (hX : Gp w) : Calls Tryz.prog 7 #[.int .i64 (k : Int)] w fun e w' => e = .returned (.bool true) ∧ Below w.heap.size w w' := by
  have hal := alive_any w hX
  have hk : k < 18 := by omega
  have hs := same_all ⟨k, hk⟩
  have hT : (parseF (sameA k)).1 = node 44 [node 34 [nmT 97, node 34 [nmT 98, node 33 [nmT 99], node 33 [nmT 100]]]] := by rw [hk9]; exact same_nine
  simp only [sameOk, Bool.and_eq_true, beq_iff_eq, decide_eq_true_eq] at hs
  have hca := sameC_a hk
  have hcb := sameC_b hk
  have hki : (k : Int) < 18 := by omega
  have hk0 : decide ((k : Int) < 0) = false := by simp
  have hk4 : decide ((18 : Int) ≤ (k : Int)) = false := by simp; omega
  have hk5 : ((k : Int) == 9) = true := beq_iff_eq.2 (by omega)
  generalize sameA k = sa at hs hca hT
  generalize sameB k = sb at hs hcb
  obtain ⟨ea, eb, hsl, hsm, hza, hzb⟩ := hs
  rw [decide_eq_false (by omega : ¬ k ≠ 9)] at hsm
  have hpa := fun (b : Nat) (w : World) (hb : b = w.heap.size) (hX : Gp w) => parse_strAt sa w hb hX (by omega)
  have hpb := fun (b : Nat) (w : World) (hb : b = w.heap.size) (hX : Gp w) => parse_strAt sb w hb hX (by omega)
  rw [ea] at hpa
  rw [eb] at hpb
  have hsame := fun (S U : Nat → Prop) (w : World) (X Y : Nd) (h1 : Rep S w (parseF sa).1 X) (h2 : Rep U w (parseF sb).1 Y) => same_any _ (Nat.le_refl _) (slim_of _ hsl) h1 h2
  rw [hsm] at hsame
  generalize parseF sa = ra at hpa hsame hT
  generalize parseF sb = rb at hpb hsame
  have hcv := fun (s : ByteArray) (w : World) => Lib.run_convert_string_bytes (P := Tryz.prog) w 9 22 5 s Tryz.underlying9 Tryz.underlying22 Tryz.underlying5
  have HX := Lib.hid hX
  clear hX ea eb hsl hza hzb hk9
  go_enter Tryz.func7, Tryz.ntmps7
  go_wp2_with (go_at_call 8; (with_reducible refine hal.mono ?_); rintro e w1 ⟨rfl, hb1⟩; refine Hid.out ?_)
  refine Lib.hid ?_
  have hb2 : Below w1.heap.size w1 (w1.alloc (.cells sameC 38)) := bel1
  have B1 := Blk.new w1 sameC 38
  have ca := (B1.cell (k * 2)).trans hca
  have cb := (B1.cell (k * 2 + 1)).trans hcb
  have hpr := hpa (w1.heap.size + 1) _ (by simp) ((HX.out.below hb1).below hb2)
  go_wp2_with (go_at_call 9; (with_reducible refine hpr.mono ?_); rintro e w2 ⟨N, rfl, hr, hb⟩; refine Hid.out ?_)
  refine Lib.hid ?_
  have hb3 : Below w1.heap.size w1 (w2.alloc (.cells (ncs N) 27)) := bl_alloc (bnext hb2 hb)
  have cb2 := (((B1.call hb).old (.cells (ncs N) 27)).cell (k * 2 + 1)).trans hcb
  have BN := Blk.new w2 (ncs N) 27
  have hpr2 := hpb (w2.heap.size + 1) _ (by simp) ((HX.out.below hb1).below hb3)
  rw [hT] at hr hsame
  obtain ⟨g1, c1, x1, e1, q1, r1, -, -, z3⟩ := hr.kid1
  obtain ⟨xs1, h11, -⟩ := r1.ks
  obtain ⟨g2, c2, e2, -, -⟩ := h11.at (by show 0 < 2; decide)
  have e3 : x1.kids = ⟨some ⟨g2, 0, none⟩, 2, c2⟩ := e2
  rw [e3] at z3
  have hrN := hr.below (bel1 (o := .cells (ncs N) 27))
  have HRN := Lib.hid hrN
  have HBN := Lib.hid BN
  have HB := Lib.hid (bnext hb1 hb3)
  clear hr hb e2 h11 r1 hb1 hb2 hb3 B1 ca cb hpr hrN BN hal hpa hpb hca hcb HX
  go_wp2_with (first | (go_at_call 9; (with_reducible refine hpr2.mono ?_); rintro e w3 ⟨M, rfl, hr3, hb4⟩; have BN4 := (HBN.out.call hb4).old (.cells (ncs M) 27); have lN := run_ldN BN4; have HBN4 := Lib.hid BN4; clear BN4; have H25 := Lib.hid (bnext (bnext (bel1 (w := w2) (o := .cells (ncs N) 27)) hb4) (bel1 (o := .cells (ncs M) 27))); have hsm2 := hsame _ _ _ N M ((HRN.out.below hb4).below (bel1 (o := .cells (ncs M) 27))) (hr3.below (bel1 (o := .cells (ncs M) 27))); have HC := Lib.hid (bnext HB.out (bl_alloc (o := .cells (ncs M) 27) hb4)); clear hr3 hb4 hpr2) | (go_at_call 10; (with_reducible refine (num_any _ _).mono ?_); rintro e w4 ⟨rfl, rfl⟩) | (go_at_call 11; (with_reducible refine hsm2.mono ?_); intro e w5 hp; obtain ⟨rfl, hb5⟩ := hp; have b4 := ((HBN4.out.call hb5).cell 4).trans (ncs_4 N); rw [e1] at b4; have z5 := cell_keep z3 (fun hl => (bnext H25.out hb5).block _ hl); have HD := Lib.hid (bnext HC.out hb5); clear hb5))
  go_ret
  exact ⟨by simp, HD.out⟩
theorem same_walk (i : Int) (w : World) (hX : Gp w) (h0 : -9223372036854775808 ≤ i) (h1 : i ≤ 9223372036854775807) : Calls Tryz.prog 7 #[.int .i64 i] w fun e w' => e = .returned (.bool true) ∧ Below w.heap.size w w' := by
  by_cases hi : i < 0 ∨ 18 ≤ i
  · exact same_out i w hX h0 h1 hi
  · obtain ⟨k, rfl⟩ := Int.eq_ofNat_of_zero_le (by omega : 0 ≤ i)
    by_cases h9 : k = 9
    · exact same_in9 k h9 w hX
    · exact same_in k (by omega) h9 w hX
end Go.Proofs.YtocebhaaamnfiaaGreatDoor.Pa
