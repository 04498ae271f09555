/-
  ParseWrong: the walk.
-/
import Derived.Test.YtocebhaaamnfiaaGreatDoorZPaWrongD
namespace Go.Proofs.YtocebhaaamnfiaaGreatDoor.Pa
open Go Go.RowKit Go.Proofs.YtocebhaaamnfiaaGreatDoor.Lx Go.Proofs.YtocebhaaamnfiaaGreatDoor.Uni
set_option linter.unusedVariables false
set_option linter.unusedSimpArgs false
attribute [local go_sem ↓] ldK stK alK bdK bsK ldN stN alN bdN bsN
attribute [local irreducible] kcs ncs ncells
attribute [local go_sem] run_alK run_bdK0 run_bdKs run_bdKn run_bdKe run_bsK run_fdK0 run_fdK1 run_fdK2 run_fdK3 run_fdN4 run_alN run_stNg run_ldNg run_bdN0 run_bdN04 run_bdN02 run_bdN01 run_bdN024 run_bdN03 run_bdN0234 run_bsN1 run_bsN2 run_bsN3

theorem rep0 (w : World) : Rep (fun _ => True) w zeroT zeroN := Rep.nil _ _ _ _ _
theorem sz0 : zeroT.sz ≤ 1 := by decide
theorem same0 {S : Nat → Prop} {w : World} {N : Nd} (h : Rep S w zeroT N) : Calls Tryz.prog 11 #[.agg (ncs N), .agg (ncs zeroN)] w (PostR w (.bool true)) := same_any 1 sz0 slim0 h (rep0 w)
theorem parse_strAt (s : ByteArray) {b : Nat} (w : World) (hb : b = w.heap.size) (hX : Gp w) (hm : s.size ≤ 9223372036854775807) :
    Calls Tryz.prog 9 #[.slice (some ⟨b, 0, none⟩) s.size (grownCap w s.size 0 5)] (Lib.bytesWorld w 5 s) fun e w' => ∃ N, e = .returned (.tuple #[.agg (ncs N), .int .i64 (parseF s).2.1, .int .i64 (parseF s).2.2]) ∧ Rep (w.heap.size ≤ ·) w' (parseF s).1 N ∧ Below w.heap.size w w' := by
  subst hb
  exact parse_str s w hX hm
attribute [local irreducible] wrongC wrongI wrongS wrongN
attribute [local go_sem ↓] bsS bsI
attribute [local go_sem] run_wrongC run_wrongI

set_option maxRecDepth 100000 in
set_option maxHeartbeats 8000000 in
theorem wrong_out (i : Int) (w : World) (hX : Gp w) (h0 : -9223372036854775808 ≤ i) (h1 : i ≤ 9223372036854775807) (hi : i < 0 ∨ 40 ≤ i) : Calls Tryz.prog 5 #[.int .i64 i] w fun e w' => e = .returned (.bool true) ∧ Below w.heap.size w w' := by
  have hal := alive_any w hX
  clear hX
  by_cases hn : i < 0
  · have e1 : decide (i < 0) = true := decide_eq_true hn
    clear hi
    go_enter Tryz.func5, Tryz.ntmps5
    go_wp2_with (go_at_call 8; (with_reducible refine hal.mono ?_); rintro e w1 ⟨rfl, hb1⟩; have HB := Lib.hid hb1; clear hb1)
    go_ret
    exact ⟨rfl, HB.out.trans ((bl_alloc bel1).mono HB.out.size)⟩
  · have e1 : decide (i < 0) = false := decide_eq_false hn
    have hn2 : 0 ≤ i := by omega
    have h40 : 40 ≤ i := by omega
    clear hi hn
    go_enter Tryz.func5, Tryz.ntmps5
    go_wp2_with (go_at_call 8; (with_reducible refine hal.mono ?_); rintro e w1 ⟨rfl, hb1⟩; have HB := Lib.hid hb1; clear hb1)
    go_ret
    exact ⟨rfl, HB.out.trans ((bl_alloc bel1).mono HB.out.size)⟩

set_option maxRecDepth 100000 in
set_option maxHeartbeats 8000000 in
theorem wrong_in (k : Nat) (hk : k < 40) (w : World) (hX : Gp w) : Calls Tryz.prog 5 #[.int .i64 (k : Int)] w fun e w' => e = .returned (.bool true) ∧ Below w.heap.size w w' := by
  have hal := alive_any w hX
  have hp := wrong_at hk
  have hz := wrong_sz hk
  have hc := wrongC_at hk
  have hn := wrongI_at hk
  have hki : (k : Int) < 40 := by omega
  have hk0 : decide ((k : Int) < 0) = false := by simp
  have hk4 : decide ((40 : Int) ≤ (k : Int)) = false := by simp; omega
  generalize wrongS k = s at hp hz hc
  generalize wrongN k = n at hp hn
  have hps := fun (b : Nat) (w : World) (hb : b = w.heap.size) (hX : Gp w) => parse_strAt s w hb hX (by omega)
  rw [hp] at hps
  have hcv := fun w : World => Lib.run_convert_string_bytes (P := Tryz.prog) w 9 22 5 s Tryz.underlying9 Tryz.underlying22 Tryz.underlying5
  have HX := Lib.hid hX
  clear hX hp hz
  go_enter Tryz.func5, Tryz.ntmps5
  go_wp2_with (go_at_call 8; (with_reducible refine hal.mono ?_); rintro e w1 ⟨rfl, hb1⟩; refine Hid.out ?_)
  refine Lib.hid ?_
  have hb2 : Below w1.heap.size w1 ((w1.alloc (.cells wrongC 9)).alloc (.cells wrongI 3)) := bl_alloc bel1
  have B1 := (Blk.new w1 wrongC 9).old (.cells wrongI 3)
  have B2 := blk_newg (w := w1.alloc (.cells wrongC 9)) (g := w1.heap.size + 1) (cs := wrongI) (t := 3) (by simp)
  have cs := (B1.cell k).trans hc
  have hpr := hps (w1.heap.size + 1 + 1) _ (by simp) ((HX.out.below hb1).below hb2)
  have hlt : w1.heap.size + 1 < ((w1.alloc (.cells wrongC 9)).alloc (.cells wrongI 3)).heap.size := by simp
  have HB := Lib.hid (bnext hb1 hb2)
  have HB2 := Lib.hid B2
  have HN := Lib.hid hn
  clear hb1 hb2 B1 B2 hps hal hc hn
  go_wp2_with (first | (go_at_call 9; (with_reducible refine hpr.mono ?_); rintro e w2 ⟨N, rfl, hr, hb⟩; have ci := ((HB2.out.call hb).old (.cells (ncs N) 27)).cell k; rw [HN.out] at ci; have hr2 := hr.below (bel1 (o := .cells (ncs N) 27)); have hsm := same0 hr2; have HC := Lib.hid (HB.out.trans ((hb.trans ((bel1 (o := .cells (ncs N) 27)).mono hb.size)).mono HB.out.size)); clear hr hb hr2) | (go_at_call 10; (with_reducible refine (num_any _ _).mono ?_); rintro e w3 ⟨rfl, rfl⟩) | (go_at_call 11; (with_reducible refine hsm.mono ?_); intro e w4 hp; obtain ⟨rfl, hb4⟩ := hp; have HD := Lib.hid (HC.out.trans (hb4.mono HC.out.size)); clear hb4))

  go_ret
  exact ⟨by simp, HD.out⟩
theorem wrong_walk (i : Int) (w : World) (hX : Gp w) (h0 : -9223372036854775808 ≤ i) (h1 : i ≤ 9223372036854775807) : Calls Tryz.prog 5 #[.int .i64 i] w fun e w' => e = .returned (.bool true) ∧ Below w.heap.size w w' := by
  by_cases hi : i < 0 ∨ 40 ≤ i
  · exact wrong_out i w hX h0 h1 hi
  · obtain ⟨k, rfl⟩ := Int.eq_ofNat_of_zero_le (by omega : 0 ≤ i)
    exact wrong_in k (by omega) w hX
end Go.Proofs.YtocebhaaamnfiaaGreatDoor.Pa
