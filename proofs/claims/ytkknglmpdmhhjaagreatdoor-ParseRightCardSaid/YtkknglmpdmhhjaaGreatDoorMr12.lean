/-
  ParseRight: the walk.
-/
import Derived.Test.YtkknglmpdmhhjaaGreatDoorMr09
import Derived.Test.YtkknglmpdmhhjaaGreatDoorMr11
namespace Go.Proofs.YtkknglmpdmhhjaaGreatDoor.Pr
open Go Go.RowKit Go.Proofs.YtkknglmpdmhhjaaGreatDoor.Pa Go.Proofs.YtkknglmpdmhhjaaGreatDoor.Uni
open Go.Proofs.YtkknglmpdmhhjaaGreatDoor.Lx hiding nameF
set_option linter.unusedVariables false
set_option linter.unusedSimpArgs false
attribute [local go_sem ↓] ldK stK alK bdK bsK ldN stN alN bdN bsN
attribute [local irreducible] kcs ncs ncells
attribute [local go_sem] run_alN run_stNg run_ldNg run_bdN0

theorem rep0 (w : World) : Rep (fun _ => True) w zeroT zeroN := Rep.nil _ _ _ _ _
theorem sz0 : zeroT.sz ≤ 1 := by decide
theorem slim00 : Slim zeroT := by unfold zeroT Slim; exact ⟨by simp, by simp, by unfold Slims; trivial⟩
theorem same0 {S : Nat → Prop} {w : World} {N : Nd} (h : Rep S w zeroT N) : Calls Tryz.prog 12 #[.agg (ncs N), .agg (ncs zeroN)] w (PostR w (.bool true)) := same_any 1 sz0 slim00 h (rep0 w)

set_option maxRecDepth 100000 in
set_option maxHeartbeats 4000000 in
theorem right_long (n cp : Nat) (ao : Option Addr) (w : World) (hX : Gp w) (hn : 3000 < n) : Calls Tryz.prog 3 #[.slice ao n cp] w fun e w' => e = .returned (.bool true) ∧ Below w.heap.size w w' := by
  have hal := alive_any w hX
  have hz : decide (3000 < (n : Int)) = true := decide_eq_true (by omega)
  clear hn hX
  go_enter Tryz.func3, Tryz.ntmps3
  go_wp2_with (go_at_call 9; (with_reducible refine hal.mono ?_); rintro e w1 ⟨rfl, hb1⟩; have HB := Lib.hid hb1; clear hb1)
  go_ret
  exact ⟨rfl, HB.out⟩
set_option maxRecDepth 100000 in
set_option maxHeartbeats 4000000 in
theorem right_bad (L : By) (n cp : Nat) (ao : Option Addr) (w : World) (hX : Gp w) (hn : n ≤ 3000) (hA : ArgRow w ao n cp L) (he : (parseF (bs L)).2.2 ≠ 0) : Calls Tryz.prog 3 #[.slice ao n cp] w fun e w' => e = .returned (.bool true) ∧ Below w.heap.size w w' := by
  have hal := alive_any w hX
  have hz : decide (3000 < (n : Int)) = false := by simp; omega
  have ht := parse_wrong he
  have hpa := fun (W : World) (hb : Below w.heap.size w W) => parse_arg L n cp ao W (hX.below hb) (by omega) (hA.below hb)
  obtain ⟨p, hp⟩ : ∃ p, (parseF (bs L)).2.1 = p := ⟨_, rfl⟩
  obtain ⟨f, hf⟩ : ∃ f, (parseF (bs L)).2.2 = f := ⟨_, rfl⟩
  have hf0 : (f != 0) = true := by rw [hf] at he; simpa using he
  have HP := Lib.hid hp
  have HF := Lib.hid hf
  have HT := Lib.hid ht
  clear hn hX hA he ht hp hf
  go_enter Tryz.func3, Tryz.ntmps3
  go_wp2_with (first | (go_at_call 9; (with_reducible refine hal.mono ?_); rintro e w1 ⟨rfl, hb1⟩; have HB := Lib.hid hb1; clear hb1) | (go_at_call 10; (with_reducible refine (hpa _ HB.out).mono ?_); rintro e w2 ⟨N, rfl, hr, hb⟩; rw [HP.out, HF.out]; rw [HT.out] at hr; have HB := Lib.hid (HB.out.trans (hb.mono HB.out.size)); have hrA := hr.below (w' := w2.alloc (.cells (ncs N) 27)) bel1; have cs := same0 hrA; clear hb hr hrA) | (go_at_call 11; (with_reducible refine (num_any _ _).mono ?_); rintro e w3 ⟨rfl, rfl⟩) | (go_at_call 12; (with_reducible refine cs.mono ?_); intro e w4 hp; obtain ⟨rfl, hb⟩ := hp; have HB := Lib.hid ((bl_alloc HB.out).trans (hb.mono (bl_alloc HB.out).size)); clear hb))
  go_ret
  exact ⟨rfl, HB.out⟩
set_option maxRecDepth 100000 in
set_option maxHeartbeats 4000000 in
theorem right_good (L : By) (n cp : Nat) (ao : Option Addr) (w : World) (hX : Gp w) (hn : n ≤ 3000) (hA : ArgRow w ao n cp L) (he : (parseF (bs L)).2.2 = 0) : Calls Tryz.prog 3 #[.slice ao n cp] w fun e w' => e = .returned (.bool true) ∧ Below w.heap.size w w' := by
  have hal := alive_any w hX
  have hz : decide (3000 < (n : Int)) = false := by simp; omega
  have hzz : (bs L).size ≤ 10000 := by rw [bs_size, hA.1]; omega
  have ht := parse_right hzz he
  have hst := ok_small _ _ ht
  have hpa := fun (W : World) (hb : Below w.heap.size w W) => parse_arg L n cp ao W (hX.below hb) (by omega) (hA.below hb)
  obtain ⟨p, hp⟩ : ∃ p, (parseF (bs L)).2.1 = p := ⟨_, rfl⟩
  have HP := Lib.hid hp
  have HF := Lib.hid he
  have HT := Lib.hid ht
  have HS := Lib.hid hst
  clear hn hX hA he ht hp hst hzz
  go_enter Tryz.func3, Tryz.ntmps3
  go_wp2_with (first | (go_at_call 9; (with_reducible refine hal.mono ?_); rintro e w1 ⟨rfl, hb1⟩; have HB := Lib.hid hb1; clear hb1) | (go_at_call 10; (with_reducible refine (hpa _ HB.out).mono ?_); rintro e w2 ⟨N, rfl, hr, hb⟩; rw [HP.out, HF.out]; have HB := Lib.hid (HB.out.trans (hb.mono HB.out.size)); have hrA := rep_rd _ _ (hr.below (w' := w2.alloc (.cells (ncs N) 27)) bel1); have cs := right_any hrA HS.out; rw [HT.out] at cs; clear hb hr hrA) | (go_at_call 11; (with_reducible refine (num_any _ _).mono ?_); rintro e w3 ⟨rfl, rfl⟩) | (go_at_call 13; (with_reducible refine cs.mono ?_); intro e w4 hp; obtain ⟨rfl, hb⟩ := hp; have HB := Lib.hid ((bl_alloc HB.out).trans (hb.mono (bl_alloc HB.out).size)); clear hb))
  go_ret
  exact ⟨rfl, HB.out⟩
theorem lawRight_walk (a : Option Addr) (n cp : Nat) (zs : List Int) (w : World) (hr : IsRow .u8 w a n cp zs) (hX : Gp w) : Calls Tryz.prog 3 #[.slice a n cp] w fun e w' => e = .returned (.bool true) ∧ Below w.heap.size w w' := by
  by_cases hn : n ≤ 3000
  · obtain ⟨L, hA⟩ := arg_of hr
    by_cases he : (parseF (bs L)).2.2 = 0
    · exact right_good L n cp a w hX hn hA he
    · exact right_bad L n cp a w hX hn hA he
  · exact right_long n cp a w hX (by omega)
end Go.Proofs.YtkknglmpdmhhjaaGreatDoor.Pr
