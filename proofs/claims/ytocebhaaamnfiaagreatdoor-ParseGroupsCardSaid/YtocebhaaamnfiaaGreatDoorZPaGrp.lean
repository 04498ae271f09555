/-
  ParseGroups: the walk.
-/
import Derived.Test.YtocebhaaamnfiaaGreatDoorZPaWrong
import Derived.Test.YtocebhaaamnfiaaGreatDoorZPaSameD
import Derived.Deep.DeepCutAuto
namespace Go.Proofs.YtocebhaaamnfiaaGreatDoor.Pa
open Go Go.RowKit Go.Proofs.YtocebhaaamnfiaaGreatDoor.Lx Go.Proofs.YtocebhaaamnfiaaGreatDoor.Uni
set_option linter.unusedVariables false
set_option linter.unusedSimpArgs false
attribute [local go_sem ↓] ldK stK alK bdK bsK ldN stN alN bdN bsN
attribute [local irreducible] kcs ncs ncells
attribute [local go_sem] run_alK run_bdK0 run_bdKs run_bdKn run_bdKe run_bsK run_fdK0 run_fdK1 run_fdK2 run_fdK3 run_fdN4 run_alN run_stNg run_ldNg run_bdN0 run_bdN04 run_bdN02 run_bdN01 run_bdN024 run_bdN03 run_bdN0234 run_bsN1 run_bsN2 run_bsN3

def opC : Array Value := #[.string ⟨#[124, 124]⟩, .string ⟨#[38, 38]⟩, .string ⟨#[61, 61, 61]⟩, .string ⟨#[33, 61, 61]⟩, .string ⟨#[60]⟩, .string ⟨#[62]⟩, .string ⟨#[60, 61]⟩, .string ⟨#[62, 61]⟩, .string ⟨#[105, 110]⟩, .string ⟨#[43]⟩, .string ⟨#[45]⟩, .string ⟨#[42]⟩, .string ⟨#[47]⟩, .string ⟨#[37]⟩]
def rankC : Array Value := #[.int .i64 0, .int .i64 1, .int .i64 2, .int .i64 2, .int .i64 3, .int .i64 3, .int .i64 3, .int .i64 3, .int .i64 3, .int .i64 4, .int .i64 4, .int .i64 5, .int .i64 5, .int .i64 5]
theorem opC_at {k : Nat} (h : k < 14) : opC[k]? = some (.string (opS k)) := by
  rcases (by omega : k = 0 ∨ k = 1 ∨ k = 2 ∨ k = 3 ∨ k = 4 ∨ k = 5 ∨ k = 6 ∨ k = 7 ∨ k = 8 ∨ k = 9 ∨ k = 10 ∨ k = 11 ∨ k = 12 ∨ k = 13) with rfl | rfl | rfl | rfl | rfl | rfl | rfl | rfl | rfl | rfl | rfl | rfl | rfl | rfl <;> rfl
theorem rankC_at {k : Nat} (h : k < 14) : rankC[k]? = some (.int .i64 (rankN k)) := by
  rcases (by omega : k = 0 ∨ k = 1 ∨ k = 2 ∨ k = 3 ∨ k = 4 ∨ k = 5 ∨ k = 6 ∨ k = 7 ∨ k = 8 ∨ k = 9 ∨ k = 10 ∨ k = 11 ∨ k = 12 ∨ k = 13) with rfl | rfl | rfl | rfl | rfl | rfl | rfl | rfl | rfl | rfl | rfl | rfl | rfl | rfl <;> rfl
theorem opS_sz {k : Nat} (h : k < 14) : (opS k).size ≤ 10 := by
  rcases (by omega : k = 0 ∨ k = 1 ∨ k = 2 ∨ k = 3 ∨ k = 4 ∨ k = 5 ∨ k = 6 ∨ k = 7 ∨ k = 8 ∨ k = 9 ∨ k = 10 ∨ k = 11 ∨ k = 12 ∨ k = 13) with rfl | rfl | rfl | rfl | rfl | rfl | rfl | rfl | rfl | rfl | rfl | rfl | rfl | rfl <;> decide
theorem run_opC (w : World) : (BsS 14 #[(0, .string ⟨#[124, 124]⟩), (1, .string ⟨#[38, 38]⟩), (2, .string ⟨#[61, 61, 61]⟩), (3, .string ⟨#[33, 61, 61]⟩), (4, .string ⟨#[60]⟩), (5, .string ⟨#[62]⟩), (6, .string ⟨#[60, 61]⟩), (7, .string ⟨#[62, 61]⟩), (8, .string ⟨#[105, 110]⟩), (9, .string ⟨#[43]⟩), (10, .string ⟨#[45]⟩), (11, .string ⟨#[42]⟩), (12, .string ⟨#[47]⟩), (13, .string ⟨#[37]⟩)]).run Tryz.prog w = .ok (.slice (some ⟨w.heap.size, 0, none⟩) 14 14) (w.alloc (.cells opC 9)) := by
  obtain ⟨i, hi, hz, hs, hb⟩ := info_parts infoS3
  exact run_buildSlice w 24 9 14 _ opC i (.string noS) Tryz.underlying24 hi hz (by rw [hs]; decide) (by rw [hs]; decide) (by rw [hs]; kernel_rfl)
theorem run_rankC (w : World) : (BsI 14 #[(0, .int .i64 0), (1, .int .i64 1), (2, .int .i64 2), (3, .int .i64 2), (4, .int .i64 3), (5, .int .i64 3), (6, .int .i64 3), (7, .int .i64 3), (8, .int .i64 3), (9, .int .i64 4), (10, .int .i64 4), (11, .int .i64 5), (12, .int .i64 5), (13, .int .i64 5)]).run Tryz.prog w = .ok (.slice (some ⟨w.heap.size, 0, none⟩) 14 14) (w.alloc (.cells rankC 3)) := by
  obtain ⟨i, hi, hz, hs, hb⟩ := info_parts infoI3
  exact run_buildSlice w 36 3 14 _ rankC i (.int .i64 0) Tryz.underlying36 hi hz (by rw [hs]; decide) (by rw [hs]; decide) (by rw [hs]; kernel_rfl)
def AddS (a b : ByteArray) : Sem Value := Op.stringOp .add a b
theorem adS (a b : ByteArray) : Op.stringOp .add a b = AddS a b := (rfl)
theorem run_adS (a b : ByteArray) (ha : a.size ≤ 100) (hb : b.size ≤ 100) (w : World) : (AddS a b).run Tryz.prog w = .ok (.string (a ++ b)) w := by
  unfold AddS
  exact run_string_add w a b (by omega) (by omega)
theorem cv_grpN (x y : ByteArray) (w : World) : (convert 9 22 (.string (⟨#[97, 32]⟩ ++ x ++ ⟨#[32, 98, 32]⟩ ++ y ++ ⟨#[32, 99, 59]⟩))).run Tryz.prog w = .ok (.slice (some ⟨w.heap.size, 0, none⟩) (grpN x y).size (grownCap w (grpN x y).size 0 5)) (Lib.bytesWorld w 5 (grpN x y)) := Lib.run_convert_string_bytes (P := Tryz.prog) w 9 22 5 (grpN x y) Tryz.underlying9 Tryz.underlying22 Tryz.underlying5
theorem sz_grpN {x y : ByteArray} (hx : x.size ≤ 10) (hy : y.size ≤ 10) : (grpN x y).size ≤ 9223372036854775807 := by
  have e1 : (⟨#[97, 32]⟩ : ByteArray).size ≤ 10 := by decide
  have e2 : (⟨#[32, 98, 32]⟩ : ByteArray).size ≤ 10 := by decide
  have e3 : (⟨#[32, 99, 59]⟩ : ByteArray).size ≤ 10 := by decide
  unfold grpN
  simp only [ByteArray.size_append]
  omega
theorem ad_grpN {x y : ByteArray} (hx : x.size ≤ 10) (hy : y.size ≤ 10) : (∀ w, (AddS ⟨#[97, 32]⟩ x).run Tryz.prog w = .ok (.string (⟨#[97, 32]⟩ ++ x)) w) ∧ (∀ w, (AddS (⟨#[97, 32]⟩ ++ x) ⟨#[32, 98, 32]⟩).run Tryz.prog w = .ok (.string (⟨#[97, 32]⟩ ++ x ++ ⟨#[32, 98, 32]⟩)) w) ∧ (∀ w, (AddS (⟨#[97, 32]⟩ ++ x ++ ⟨#[32, 98, 32]⟩) y).run Tryz.prog w = .ok (.string (⟨#[97, 32]⟩ ++ x ++ ⟨#[32, 98, 32]⟩ ++ y)) w) ∧ (∀ w, (AddS (⟨#[97, 32]⟩ ++ x ++ ⟨#[32, 98, 32]⟩ ++ y) ⟨#[32, 99, 59]⟩).run Tryz.prog w = .ok (.string (⟨#[97, 32]⟩ ++ x ++ ⟨#[32, 98, 32]⟩ ++ y ++ ⟨#[32, 99, 59]⟩)) w) := by
  have e1 : (⟨#[97, 32]⟩ : ByteArray).size ≤ 10 := by decide
  have e2 : (⟨#[32, 98, 32]⟩ : ByteArray).size ≤ 10 := by decide
  have e3 : (⟨#[32, 99, 59]⟩ : ByteArray).size ≤ 10 := by decide
  refine ⟨run_adS _ _ (by omega) (by omega), run_adS _ _ (by simp only [ByteArray.size_append]; omega) (by omega), run_adS _ _ (by simp only [ByteArray.size_append]; omega) (by omega), run_adS _ _ (by simp only [ByteArray.size_append]; omega) (by omega)⟩
theorem cv_grpL (x y : ByteArray) (w : World) : (convert 9 22 (.string (⟨#[40, 97, 32]⟩ ++ x ++ ⟨#[32, 98, 41, 32]⟩ ++ y ++ ⟨#[32, 99, 59]⟩))).run Tryz.prog w = .ok (.slice (some ⟨w.heap.size, 0, none⟩) (grpL x y).size (grownCap w (grpL x y).size 0 5)) (Lib.bytesWorld w 5 (grpL x y)) := Lib.run_convert_string_bytes (P := Tryz.prog) w 9 22 5 (grpL x y) Tryz.underlying9 Tryz.underlying22 Tryz.underlying5
theorem sz_grpL {x y : ByteArray} (hx : x.size ≤ 10) (hy : y.size ≤ 10) : (grpL x y).size ≤ 9223372036854775807 := by
  have e1 : (⟨#[40, 97, 32]⟩ : ByteArray).size ≤ 10 := by decide
  have e2 : (⟨#[32, 98, 41, 32]⟩ : ByteArray).size ≤ 10 := by decide
  have e3 : (⟨#[32, 99, 59]⟩ : ByteArray).size ≤ 10 := by decide
  unfold grpL
  simp only [ByteArray.size_append]
  omega
theorem ad_grpL {x y : ByteArray} (hx : x.size ≤ 10) (hy : y.size ≤ 10) : (∀ w, (AddS ⟨#[40, 97, 32]⟩ x).run Tryz.prog w = .ok (.string (⟨#[40, 97, 32]⟩ ++ x)) w) ∧ (∀ w, (AddS (⟨#[40, 97, 32]⟩ ++ x) ⟨#[32, 98, 41, 32]⟩).run Tryz.prog w = .ok (.string (⟨#[40, 97, 32]⟩ ++ x ++ ⟨#[32, 98, 41, 32]⟩)) w) ∧ (∀ w, (AddS (⟨#[40, 97, 32]⟩ ++ x ++ ⟨#[32, 98, 41, 32]⟩) y).run Tryz.prog w = .ok (.string (⟨#[40, 97, 32]⟩ ++ x ++ ⟨#[32, 98, 41, 32]⟩ ++ y)) w) ∧ (∀ w, (AddS (⟨#[40, 97, 32]⟩ ++ x ++ ⟨#[32, 98, 41, 32]⟩ ++ y) ⟨#[32, 99, 59]⟩).run Tryz.prog w = .ok (.string (⟨#[40, 97, 32]⟩ ++ x ++ ⟨#[32, 98, 41, 32]⟩ ++ y ++ ⟨#[32, 99, 59]⟩)) w) := by
  have e1 : (⟨#[40, 97, 32]⟩ : ByteArray).size ≤ 10 := by decide
  have e2 : (⟨#[32, 98, 41, 32]⟩ : ByteArray).size ≤ 10 := by decide
  have e3 : (⟨#[32, 99, 59]⟩ : ByteArray).size ≤ 10 := by decide
  refine ⟨run_adS _ _ (by omega) (by omega), run_adS _ _ (by simp only [ByteArray.size_append]; omega) (by omega), run_adS _ _ (by simp only [ByteArray.size_append]; omega) (by omega), run_adS _ _ (by simp only [ByteArray.size_append]; omega) (by omega)⟩
theorem cv_grpR (x y : ByteArray) (w : World) : (convert 9 22 (.string (⟨#[97, 32]⟩ ++ x ++ ⟨#[32, 40, 98, 32]⟩ ++ y ++ ⟨#[32, 99, 41, 59]⟩))).run Tryz.prog w = .ok (.slice (some ⟨w.heap.size, 0, none⟩) (grpR x y).size (grownCap w (grpR x y).size 0 5)) (Lib.bytesWorld w 5 (grpR x y)) := Lib.run_convert_string_bytes (P := Tryz.prog) w 9 22 5 (grpR x y) Tryz.underlying9 Tryz.underlying22 Tryz.underlying5
theorem sz_grpR {x y : ByteArray} (hx : x.size ≤ 10) (hy : y.size ≤ 10) : (grpR x y).size ≤ 9223372036854775807 := by
  have e1 : (⟨#[97, 32]⟩ : ByteArray).size ≤ 10 := by decide
  have e2 : (⟨#[32, 40, 98, 32]⟩ : ByteArray).size ≤ 10 := by decide
  have e3 : (⟨#[32, 99, 41, 59]⟩ : ByteArray).size ≤ 10 := by decide
  unfold grpR
  simp only [ByteArray.size_append]
  omega
theorem ad_grpR {x y : ByteArray} (hx : x.size ≤ 10) (hy : y.size ≤ 10) : (∀ w, (AddS ⟨#[97, 32]⟩ x).run Tryz.prog w = .ok (.string (⟨#[97, 32]⟩ ++ x)) w) ∧ (∀ w, (AddS (⟨#[97, 32]⟩ ++ x) ⟨#[32, 40, 98, 32]⟩).run Tryz.prog w = .ok (.string (⟨#[97, 32]⟩ ++ x ++ ⟨#[32, 40, 98, 32]⟩)) w) ∧ (∀ w, (AddS (⟨#[97, 32]⟩ ++ x ++ ⟨#[32, 40, 98, 32]⟩) y).run Tryz.prog w = .ok (.string (⟨#[97, 32]⟩ ++ x ++ ⟨#[32, 40, 98, 32]⟩ ++ y)) w) ∧ (∀ w, (AddS (⟨#[97, 32]⟩ ++ x ++ ⟨#[32, 40, 98, 32]⟩ ++ y) ⟨#[32, 99, 41, 59]⟩).run Tryz.prog w = .ok (.string (⟨#[97, 32]⟩ ++ x ++ ⟨#[32, 40, 98, 32]⟩ ++ y ++ ⟨#[32, 99, 41, 59]⟩)) w) := by
  have e1 : (⟨#[97, 32]⟩ : ByteArray).size ≤ 10 := by decide
  have e2 : (⟨#[32, 40, 98, 32]⟩ : ByteArray).size ≤ 10 := by decide
  have e3 : (⟨#[32, 99, 41, 59]⟩ : ByteArray).size ≤ 10 := by decide
  refine ⟨run_adS _ _ (by omega) (by omega), run_adS _ _ (by simp only [ByteArray.size_append]; omega) (by omega), run_adS _ _ (by simp only [ByteArray.size_append]; omega) (by omega), run_adS _ _ (by simp only [ByteArray.size_append]; omega) (by omega)⟩
attribute [local irreducible] opC rankC opS rankN grpN grpL grpR
attribute [local go_sem ↓] bsS bsI adS
attribute [local go_sem] run_opC run_rankC

theorem grp_facts {i j : Nat} (hi : i < 14) (hj : j < 14) : (parseF (grpN (opS i) (opS j))).2.2 = 0 ∧ (parseF (grpL (opS i) (opS j))).2.2 = 0 ∧ (parseF (grpR (opS i) (opS j))).2.2 = 0 ∧ Slim (parseF (grpN (opS i) (opS j))).1 ∧ Slim (parseF (grpL (opS i) (opS j))).1 ∧ sameT (parseF (grpL (opS i) (opS j))).1 (parseF (grpR (opS i) (opS j))).1 = false ∧ (if rankN i ≥ rankN j then sameT (parseF (grpN (opS i) (opS j))).1 (parseF (grpL (opS i) (opS j))).1 else sameT (parseF (grpN (opS i) (opS j))).1 (parseF (grpR (opS i) (opS j))).1) = true := by
  have h := grp_all ⟨i, hi⟩ ⟨j, hj⟩
  simp only [grpOk, Bool.and_eq_true, beq_iff_eq, decide_eq_true_eq] at h
  exact ⟨h.1, h.2.1, h.2.2.1, slim_of _ h.2.2.2.1, slim_of _ h.2.2.2.2.1, h.2.2.2.2.2.1, h.2.2.2.2.2.2.1⟩

set_option maxRecDepth 100000 in
set_option maxHeartbeats 8000000 in
theorem grp_out (i j : Int) (w : World) (hX : Gp w) (hi : i < 0 ∨ 14 ≤ i ∨ j < 0 ∨ 14 ≤ j) : Calls Tryz.prog 6 #[.int .i64 i, .int .i64 j] w fun e w' => e = .returned (.bool true) ∧ Below w.heap.size w w' := by
  have hal := alive_any w hX
  clear hX
  have hb2 : ∀ w1 : World, Below w1.heap.size w1 ((w1.alloc (.cells opC 9)).alloc (.cells rankC 3)) := fun w1 => bl_alloc bel1
  rcases (by omega : i < 0 ∨ (0 ≤ i ∧ 14 ≤ i) ∨ (0 ≤ i ∧ i < 14 ∧ j < 0) ∨ (0 ≤ i ∧ i < 14 ∧ 0 ≤ j ∧ 14 ≤ j)) with h | ⟨h, g⟩ | ⟨h, g, k⟩ | ⟨h, g, k, l⟩
  · have e1 : decide (i < 0) = true := decide_eq_true h
    go_enter Tryz.func6, Tryz.ntmps6
    go_wp2_with (go_at_call 8; (with_reducible refine hal.mono ?_); rintro e w1 ⟨rfl, hb1⟩; have HB := Lib.hid hb1; clear hb1)
    go_ret
    exact ⟨rfl, bnext HB.out (hb2 _)⟩
  · have e1 : decide (i < 0) = false := decide_eq_false (by omega)
    have e2 : decide (14 ≤ i) = true := decide_eq_true g
    go_enter Tryz.func6, Tryz.ntmps6
    go_wp2_with (go_at_call 8; (with_reducible refine hal.mono ?_); rintro e w1 ⟨rfl, hb1⟩; have HB := Lib.hid hb1; clear hb1)
    go_ret
    exact ⟨rfl, bnext HB.out (hb2 _)⟩
  · have e1 : decide (i < 0) = false := decide_eq_false (by omega)
    have e2 : decide (14 ≤ i) = false := decide_eq_false (by omega)
    have e3 : decide (j < 0) = true := decide_eq_true k
    go_enter Tryz.func6, Tryz.ntmps6
    go_wp2_with (go_at_call 8; (with_reducible refine hal.mono ?_); rintro e w1 ⟨rfl, hb1⟩; have HB := Lib.hid hb1; clear hb1)
    go_ret
    exact ⟨rfl, bnext HB.out (hb2 _)⟩
  · have e1 : decide (i < 0) = false := decide_eq_false (by omega)
    have e2 : decide (14 ≤ i) = false := decide_eq_false (by omega)
    have e3 : decide (j < 0) = false := decide_eq_false (by omega)
    have e4 : decide (14 ≤ j) = true := decide_eq_true l
    go_enter Tryz.func6, Tryz.ntmps6
    go_wp2_with (go_at_call 8; (with_reducible refine hal.mono ?_); rintro e w1 ⟨rfl, hb1⟩; have HB := Lib.hid hb1; clear hb1)
    go_ret
    exact ⟨rfl, bnext HB.out (hb2 _)⟩
/-- What 'n, _, e := parse.Parse(..)' leaves. -/
def Got (t : Tree) (q : Int) (W wx : World) (s1 s2 s3 : Value) : Prop :=
  ∃ (p : Nat) (N : Nd), s1 = .pointer (some ⟨p, 0, none⟩) ∧ s2 = .int .i64 q ∧ s3 = .int .i64 0 ∧ Blk wx p (ncs N) 27 ∧ Rep (fun _ => True) wx t N ∧ Below W.heap.size W wx
theorem parse_strZ (s : ByteArray) {b : Nat} (w : World) (o : Obj) (hb : b = w.heap.size) (hX : Gp w) (hm : s.size ≤ 9223372036854775807) :
    Calls Tryz.prog 9 #[.slice (some ⟨b, 0, none⟩) s.size (grownCap w s.size 0 5)] ((Lib.bytesWorld w 5 s).alloc o) fun e w' => ∃ N, e = .returned (.tuple #[.agg (ncs N), .int .i64 (parseF s).2.1, .int .i64 (parseF s).2.2]) ∧ Rep (((Lib.bytesWorld w 5 s).alloc o).heap.size ≤ ·) w' (parseF s).1 N ∧ Below ((Lib.bytesWorld w 5 s).alloc o).heap.size ((Lib.bytesWorld w 5 s).alloc o) w' := by
  subst hb
  exact parse_bytes _ _ s _ ((hX.below (bw_below w s)).below (bel1 (o := o))) hm (fun i hi => cell_keep (Lib.bytesWorld_cell w _ s i hi) (fun hl => (bel1 (o := o)).block _ hl))
theorem gotA {t : Tree} {q : Int} {W w2 : World} {N : Nd} (hr : Rep (W.drew.heap.size ≤ ·) w2 t N) (hb : Below W.drew.heap.size W.drew w2) : Got t q W (w2.alloc (.cells (ncs N) 27)) (.pointer (some ⟨w2.heap.size, 0, none⟩)) (.int .i64 q) (.int .i64 0) :=
  ⟨_, N, rfl, rfl, rfl, Blk.new _ _ _, Rep.keep (fun b hb hS => ⟨trivial, rfl⟩) _ _ (hr.below (bel1 (o := .cells (ncs N) 27))), bl_alloc (below_undrew hb)⟩
theorem gotS {t : Tree} {q : Int} {W W' w2 : World} {N : Nd} {p : Nat} (hW : Below W.heap.size W W') (hp : W.heap.size ≤ p) (B : Blk W' p (ncs zeroN) 27) (hr : Rep (W'.heap.size ≤ ·) w2 t N) (hb : Below W'.heap.size W' w2) : Got t q W (w2.setRow p (ncs N)) (.pointer (some ⟨p, 0, none⟩)) (.int .i64 q) (.int .i64 0) :=
  ⟨p, N, rfl, rfl, rfl, (B.call hb).row _, Rep.keep (fun b hb' hS => ⟨trivial, setRow_other w2 p b _ (by have h1 : W'.heap.size ≤ b := hS; have h2 := B.lt; omega)⟩) _ _ hr, below_row (bnext hW hb) _ hp⟩
theorem drew_size (w : World) : w.drew.heap.size = w.heap.size := rfl
theorem size_al (w : World) (o : Obj) : (w.alloc o).heap.size = w.heap.size + 1 := by simp
attribute [local go_sem ↓] ldK stK alK bdK bsK ldN stN alN bdN bsN
attribute [local go_sem] run_alN run_stNg run_ldNg

set_option maxRecDepth 100000 in
set_option maxHeartbeats 16000000 in
theorem grp_in (i j : Nat) (hi : i < 14) (hj : j < 14) (w : World) (hX : Gp w) : Calls Tryz.prog 6 #[.int .i64 (i : Int), .int .i64 (j : Int)] w fun e w' => e = .returned (.bool true) ∧ Below w.heap.size w w' := by
  have hal := alive_any w hX
  have hs := grp_facts hi hj
  have hci := opC_at hi
  have hcj := opC_at hj
  have hri := rankC_at hi
  have hrj := rankC_at hj
  have hzi := opS_sz hi
  have hzj := opS_sz hj
  have hi1 : (i : Int) < 14 := by omega
  have hj1 : (j : Int) < 14 := by omega
  have e1 : decide ((i : Int) < 0) = false := by simp
  have e2 : decide ((14 : Int) ≤ (i : Int)) = false := by simp; omega
  have e3 : decide ((j : Int) < 0) = false := by simp
  have e4 : decide ((14 : Int) ≤ (j : Int)) = false := by simp; omega
  generalize opS i = x at hs hci hzi
  generalize opS j = y at hs hcj hzj
  generalize rankN i = rx at hs hri
  generalize rankN j = ry at hs hrj
  obtain ⟨en, el, er, hsn, hsl, hlr, hrk⟩ := hs
  obtain ⟨an1, an2, an3, an4⟩ := ad_grpN hzi hzj
  obtain ⟨al1, al2, al3, al4⟩ := ad_grpL hzi hzj
  obtain ⟨ar1, ar2, ar3, ar4⟩ := ad_grpR hzi hzj
  have cvn := cv_grpN x y
  have cvl := cv_grpL x y
  have cvr := cv_grpR x y
  have hpn := fun (b : Nat) (w : World) (hb : b = w.heap.size) (hX : Gp w) => And.intro (parse_strAt (grpN x y) w hb hX (sz_grpN hzi hzj)) (fun o => parse_strZ (grpN x y) w o hb hX (sz_grpN hzi hzj))
  have hpl := fun (b : Nat) (w : World) (hb : b = w.heap.size) (hX : Gp w) => And.intro (parse_strAt (grpL x y) w hb hX (sz_grpL hzi hzj)) (fun o => parse_strZ (grpL x y) w o hb hX (sz_grpL hzi hzj))
  have hpr := fun (b : Nat) (w : World) (hb : b = w.heap.size) (hX : Gp w) => And.intro (parse_strAt (grpR x y) w hb hX (sz_grpR hzi hzj)) (fun o => parse_strZ (grpR x y) w o hb hX (sz_grpR hzi hzj))
  have hs1 := fun (S U : Nat → Prop) (w : World) (X Y : Nd) (h1 : Rep S w (parseF (grpL x y)).1 X) (h2 : Rep U w (parseF (grpR x y)).1 Y) => same_any _ (Nat.le_refl _) hsl h1 h2
  have hs2 := fun (S U : Nat → Prop) (w : World) (X Y : Nd) (h1 : Rep S w (parseF (grpN x y)).1 X) (h2 : Rep U w (parseF (grpL x y)).1 Y) => same_any _ (Nat.le_refl _) hsn h1 h2
  have hs3 := fun (S U : Nat → Prop) (w : World) (X Y : Nd) (h1 : Rep S w (parseF (grpN x y)).1 X) (h2 : Rep U w (parseF (grpR x y)).1 Y) => same_any _ (Nat.le_refl _) hsn h1 h2
  rw [hlr] at hs1
  rw [en] at hpn
  rw [el] at hpl
  rw [er] at hpr
  generalize grpN x y = zn at *
  generalize grpL x y = zl at *
  generalize grpR x y = zr at *
  generalize parseF zn = tn at *
  generalize parseF zl = tl at *
  generalize parseF zr = tr at *
  have HX := Lib.hid hX
  have HRK := Lib.hid hrk
  clear hX en el er hzi hzj hsn hsl hlr hrk
  go_enter Tryz.func6, Tryz.ntmps6
  go_wp2_with (go_at_call 8; (with_reducible refine hal.mono ?_); rintro e w1 ⟨rfl, hb1⟩; refine Hid.out ?_)
  refine Lib.hid ?_
  have hb2 : Below w1.heap.size w1 ((w1.alloc (.cells opC 9)).alloc (.cells rankC 3)) := bl_alloc bel1
  have HC := Lib.hid ((Blk.new w1 opC 9).old (.cells rankC 3))
  have HR := Lib.hid (blk_newg (w := w1.alloc (.cells opC 9)) (g := w1.heap.size + 1) (cs := rankC) (t := 3) (by simp))
  have HG := Lib.hid ((HX.out.below hb1).below hb2)
  have HB := Lib.hid (bnext hb1 hb2)
  clear hal hb1 hb2
  go_upto_region 6 with fail
  go_cut [8, 9, 10] (fun s1 s2 s3 wx => Got tn.1 tn.2.1 ((w1.alloc (.cells opC 9)).alloc (.cells rankC 3)) wx s1 s2 s3)
  case first =>
      have ci1 := (HC.out.drew.cell i).trans hci
      have cj1 := (HC.out.drew.cell j).trans hcj
      have ci2 := ((HC.out.old (.cells (ncs zeroN) 27)).drew.cell i).trans hci
      have cj2 := ((HC.out.old (.cells (ncs zeroN) 27)).drew.cell j).trans hcj
      have GW := HG.out
      have GW1 : Gp (World.drew ((w1.alloc (.cells opC 9)).alloc (.cells rankC 3))) := GW.below (Below.refl _ _).drew
      have hbZ : Below (World.heap ((w1.alloc (.cells opC 9)).alloc (.cells rankC 3))).size ((w1.alloc (.cells opC 9)).alloc (.cells rankC 3)) (World.drew (((w1.alloc (.cells opC 9)).alloc (.cells rankC 3)).alloc (.cells (ncs zeroN) 27))) := bel1.drew
      have hbX : Below (World.heap ((w1.alloc (.cells opC 9)).alloc (.cells rankC 3))).size ((w1.alloc (.cells opC 9)).alloc (.cells rankC 3)) (World.drew ((w1.alloc (.cells opC 9)).alloc (.cells rankC 3))) := (Below.refl _ _).drew
      have q1 := (hpn (w1.heap.size + 1 + 1) (World.drew ((w1.alloc (.cells opC 9)).alloc (.cells rankC 3))) (by rw [drew_size]; simp) GW1).1
      have q2 := (hpn (w1.heap.size + 1 + 1) (World.drew ((w1.alloc (.cells opC 9)).alloc (.cells rankC 3))) (by rw [drew_size]; simp) GW1).2 (.cells (ncs zeroN) 27)
      have q3 := (hpn (w1.heap.size + 1 + 1 + 1) (World.drew (((w1.alloc (.cells opC 9)).alloc (.cells rankC 3)).alloc (.cells (ncs zeroN) 27))) (by rw [drew_size, size_al]; simp) (GW.below hbZ)).1
      have BZ2 := Blk.new (Lib.bytesWorld (World.drew ((w1.alloc (.cells opC 9)).alloc (.cells rankC 3))) 5 zn) (ncs zeroN) 27
      have BZ3 := (blk_newg (w := (w1.alloc (.cells opC 9)).alloc (.cells rankC 3)) (g := w1.heap.size + 1 + 1) (cs := ncs zeroN) (t := 27) (by simp)).drew
      have hz2 : (World.heap ((w1.alloc (.cells opC 9)).alloc (.cells rankC 3))).size ≤ (Lib.bytesWorld (World.drew ((w1.alloc (.cells opC 9)).alloc (.cells rankC 3))) 5 zn).heap.size := by rw [Lib.bytesWorld_size, drew_size]; omega
      have hz3 : (World.heap ((w1.alloc (.cells opC 9)).alloc (.cells rankC 3))).size ≤ w1.heap.size + 1 + 1 := by simp
      have hw2 : Below (World.heap ((w1.alloc (.cells opC 9)).alloc (.cells rankC 3))).size ((w1.alloc (.cells opC 9)).alloc (.cells rankC 3)) ((Lib.bytesWorld (World.drew ((w1.alloc (.cells opC 9)).alloc (.cells rankC 3))) 5 zn).alloc (.cells (ncs zeroN) 27)) := bl_alloc (bnext hbX (bw_below _ _))
      have hw3 := hbZ
      have H2 := Lib.hid (And.intro BZ2 hw2)
      have H3 := Lib.hid (And.intro BZ3 hw3)
      clear GW GW1 hbZ hbX BZ2 BZ3 hw2 hw3
      go_region_with (go_at_call 9; first | ((with_reducible refine q1.mono ?_); rintro e w2 ⟨N, rfl, hr, hb⟩; have G := Lib.hid (gotA (q := tn.2.1) hr hb); clear hr hb) | ((with_reducible refine q2.mono ?_); rintro e w2 ⟨N, rfl, hr, hb⟩; have G := Lib.hid (gotS (q := tn.2.1) H2.out.2 hz2 H2.out.1 hr hb); have st := fun M => run_stN (t := M) (H2.out.1.call hb); clear hr hb) | ((with_reducible refine q3.mono ?_); rintro e w2 ⟨N, rfl, hr, hb⟩; have G := Lib.hid (gotS (q := tn.2.1) H3.out.2 hz3 H3.out.1 hr hb); have st := fun M => run_stN (t := M) (H3.out.1.call hb); clear hr hb))
      all_goals (go_wp2_with fail; go_meet; exact G.out)
  case rest =>
  obtain ⟨p0, N0, rfl, rfl, rfl, BN0, RN0, hbc⟩ := hcut
  have HC := Lib.hid (HC.out.call hbc)
  have HR := Lib.hid (HR.out.call hbc)
  have HG := Lib.hid (HG.out.below hbc)
  have HB := Lib.hid (bnext HB.out hbc)
  clear hbc
  go_upto_region 7 with fail
  go_cut [11, 12, 13] (fun s1 s2 s3 wx => Got tl.1 tl.2.1 (wc) wx s1 s2 s3)
  case first =>
      have ci1 := (HC.out.drew.cell i).trans hci
      have cj1 := (HC.out.drew.cell j).trans hcj
      have ci2 := ((HC.out.old (.cells (ncs zeroN) 27)).drew.cell i).trans hci
      have cj2 := ((HC.out.old (.cells (ncs zeroN) 27)).drew.cell j).trans hcj
      have GW := HG.out
      have GW1 : Gp (World.drew (wc)) := GW.below (Below.refl _ _).drew
      have hbZ : Below (World.heap (wc)).size (wc) (World.drew ((wc).alloc (.cells (ncs zeroN) 27))) := bel1.drew
      have hbX : Below (World.heap (wc)).size (wc) (World.drew (wc)) := (Below.refl _ _).drew
      have q1 := (hpl (wc.heap.size) (World.drew (wc)) (by rw [drew_size]; try rfl) GW1).1
      have q2 := (hpl (wc.heap.size) (World.drew (wc)) (by rw [drew_size]; try rfl) GW1).2 (.cells (ncs zeroN) 27)
      have q3 := (hpl (wc.heap.size + 1) (World.drew ((wc).alloc (.cells (ncs zeroN) 27))) (by rw [drew_size, size_al]; try rfl) (GW.below hbZ)).1
      have BZ2 := Blk.new (Lib.bytesWorld (World.drew (wc)) 5 zl) (ncs zeroN) 27
      have BZ3 := (blk_newg (w := wc) (g := wc.heap.size) (cs := ncs zeroN) (t := 27) (by try rfl)).drew
      have hz2 : (World.heap (wc)).size ≤ (Lib.bytesWorld (World.drew (wc)) 5 zl).heap.size := by rw [Lib.bytesWorld_size, drew_size]; omega
      have hz3 : (World.heap (wc)).size ≤ wc.heap.size := by omega
      have hw2 : Below (World.heap (wc)).size (wc) ((Lib.bytesWorld (World.drew (wc)) 5 zl).alloc (.cells (ncs zeroN) 27)) := bl_alloc (bnext hbX (bw_below _ _))
      have hw3 := hbZ
      have H2 := Lib.hid (And.intro BZ2 hw2)
      have H3 := Lib.hid (And.intro BZ3 hw3)
      clear GW GW1 hbZ hbX BZ2 BZ3 hw2 hw3
      go_region_with (go_at_call 9; first | ((with_reducible refine q1.mono ?_); rintro e w2 ⟨N, rfl, hr, hb⟩; have G := Lib.hid (gotA (q := tl.2.1) hr hb); clear hr hb) | ((with_reducible refine q2.mono ?_); rintro e w2 ⟨N, rfl, hr, hb⟩; have G := Lib.hid (gotS (q := tl.2.1) H2.out.2 hz2 H2.out.1 hr hb); have st := fun M => run_stN (t := M) (H2.out.1.call hb); clear hr hb) | ((with_reducible refine q3.mono ?_); rintro e w2 ⟨N, rfl, hr, hb⟩; have G := Lib.hid (gotS (q := tl.2.1) H3.out.2 hz3 H3.out.1 hr hb); have st := fun M => run_stN (t := M) (H3.out.1.call hb); clear hr hb))
      all_goals (go_wp2_with fail; go_meet; exact G.out)
  case rest =>
  obtain ⟨p1, N1, rfl, rfl, rfl, BN1, RN1, hbc⟩ := hcut
  have BN0 := BN0.call hbc
  have RN0 := RN0.below hbc
  have HC := Lib.hid (HC.out.call hbc)
  have HR := Lib.hid (HR.out.call hbc)
  have HG := Lib.hid (HG.out.below hbc)
  have HB := Lib.hid (bnext HB.out hbc)
  clear hbc
  go_upto_region 8 with fail
  go_cut [14, 15, 16] (fun s1 s2 s3 wx => Got tr.1 tr.2.1 (wc) wx s1 s2 s3)
  case first =>
      have ci1 := (HC.out.drew.cell i).trans hci
      have cj1 := (HC.out.drew.cell j).trans hcj
      have ci2 := ((HC.out.old (.cells (ncs zeroN) 27)).drew.cell i).trans hci
      have cj2 := ((HC.out.old (.cells (ncs zeroN) 27)).drew.cell j).trans hcj
      have GW := HG.out
      have GW1 : Gp (World.drew (wc)) := GW.below (Below.refl _ _).drew
      have hbZ : Below (World.heap (wc)).size (wc) (World.drew ((wc).alloc (.cells (ncs zeroN) 27))) := bel1.drew
      have hbX : Below (World.heap (wc)).size (wc) (World.drew (wc)) := (Below.refl _ _).drew
      have q1 := (hpr (wc.heap.size) (World.drew (wc)) (by rw [drew_size]; try rfl) GW1).1
      have q2 := (hpr (wc.heap.size) (World.drew (wc)) (by rw [drew_size]; try rfl) GW1).2 (.cells (ncs zeroN) 27)
      have q3 := (hpr (wc.heap.size + 1) (World.drew ((wc).alloc (.cells (ncs zeroN) 27))) (by rw [drew_size, size_al]; try rfl) (GW.below hbZ)).1
      have BZ2 := Blk.new (Lib.bytesWorld (World.drew (wc)) 5 zr) (ncs zeroN) 27
      have BZ3 := (blk_newg (w := wc) (g := wc.heap.size) (cs := ncs zeroN) (t := 27) (by try rfl)).drew
      have hz2 : (World.heap (wc)).size ≤ (Lib.bytesWorld (World.drew (wc)) 5 zr).heap.size := by rw [Lib.bytesWorld_size, drew_size]; omega
      have hz3 : (World.heap (wc)).size ≤ wc.heap.size := by omega
      have hw2 : Below (World.heap (wc)).size (wc) ((Lib.bytesWorld (World.drew (wc)) 5 zr).alloc (.cells (ncs zeroN) 27)) := bl_alloc (bnext hbX (bw_below _ _))
      have hw3 := hbZ
      have H2 := Lib.hid (And.intro BZ2 hw2)
      have H3 := Lib.hid (And.intro BZ3 hw3)
      clear GW GW1 hbZ hbX BZ2 BZ3 hw2 hw3
      go_region_with (go_at_call 9; first | ((with_reducible refine q1.mono ?_); rintro e w2 ⟨N, rfl, hr, hb⟩; have G := Lib.hid (gotA (q := tr.2.1) hr hb); clear hr hb) | ((with_reducible refine q2.mono ?_); rintro e w2 ⟨N, rfl, hr, hb⟩; have G := Lib.hid (gotS (q := tr.2.1) H2.out.2 hz2 H2.out.1 hr hb); have st := fun M => run_stN (t := M) (H2.out.1.call hb); clear hr hb) | ((with_reducible refine q3.mono ?_); rintro e w2 ⟨N, rfl, hr, hb⟩; have G := Lib.hid (gotS (q := tr.2.1) H3.out.2 hz3 H3.out.1 hr hb); have st := fun M => run_stN (t := M) (H3.out.1.call hb); clear hr hb))
      all_goals (go_wp2_with fail; go_meet; exact G.out)
  case rest =>
  obtain ⟨p2, N2, rfl, rfl, rfl, BN2, RN2, hbc⟩ := hcut
  have BN0 := BN0.call hbc
  have RN0 := RN0.below hbc
  have BN1 := BN1.call hbc
  have RN1 := RN1.below hbc
  have HC := Lib.hid (HC.out.call hbc)
  have HR := Lib.hid (HR.out.call hbc)
  have HG := Lib.hid (HG.out.below hbc)
  have HB := Lib.hid (bnext HB.out hbc)
  clear hbc
  by_cases hge : rx ≥ ry
  · have hrk := HRK.out
    rw [if_pos hge] at hrk
    rw [hrk] at hs2
    have hg2 : decide (ry ≤ rx) = true := decide_eq_true hge
    have r3 := HR.out
    have l0 := run_ldN BN0
    have l1 := run_ldN BN1
    have l2 := run_ldN BN2
    have hq1 := hs1 _ _ wc N1 N2 RN1 RN2
    go_wp2_with (first | (go_at_call 10; (with_reducible refine (num_any _ _).mono ?_); rintro e w4 ⟨rfl, rfl⟩) | (go_at_call 11; (with_reducible refine hq1.mono ?_); intro e w5 hp; obtain ⟨rfl, hb5⟩ := hp; have K0 := run_ldN (BN0.call hb5).drew; have K1 := run_ldN (BN1.call hb5).drew; have K2 := run_ldN (BN2.call hb5).drew; have ri := ((r3.call hb5).drew.cell i).trans hri; have rj := ((r3.call hb5).drew.cell j).trans hrj; have hq2 := hs2 _ _ _ N0 N1 (RN0.below hb5.drew) (RN1.below hb5.drew); have HD := Lib.hid (bnext HB.out hb5.drew); clear hb5 hq1))
    go_region
    all_goals (go_wp2_with (go_at_call 11; (with_reducible refine hq2.mono ?_); intro e w6 hp; obtain ⟨rfl, hb6⟩ := hp; have HE := Lib.hid (bnext HD.out hb6); clear hb6))
    all_goals go_ret
    all_goals exact ⟨by simp, HE.out⟩
  · have hrk := HRK.out
    rw [if_neg hge] at hrk
    rw [hrk] at hs3
    have hg2 : decide (ry ≤ rx) = false := decide_eq_false hge
    have hg3 : rx < ry := by omega
    clear hge
    have r3 := HR.out
    have l0 := run_ldN BN0
    have l1 := run_ldN BN1
    have l2 := run_ldN BN2
    have hq1 := hs1 _ _ wc N1 N2 RN1 RN2
    go_wp2_with (first | (go_at_call 10; (with_reducible refine (num_any _ _).mono ?_); rintro e w4 ⟨rfl, rfl⟩) | (go_at_call 11; (with_reducible refine hq1.mono ?_); intro e w5 hp; obtain ⟨rfl, hb5⟩ := hp; have K0 := run_ldN (BN0.call hb5).drew; have K1 := run_ldN (BN1.call hb5).drew; have K2 := run_ldN (BN2.call hb5).drew; have ri := ((r3.call hb5).drew.cell i).trans hri; have rj := ((r3.call hb5).drew.cell j).trans hrj; have hq2 := hs3 _ _ _ N0 N2 (RN0.below hb5.drew) (RN2.below hb5.drew); have HD := Lib.hid (bnext HB.out hb5.drew); clear hb5 hq1))
    go_region
    all_goals (go_wp2_with (go_at_call 11; (with_reducible refine hq2.mono ?_); intro e w6 hp; obtain ⟨rfl, hb6⟩ := hp; have HE := Lib.hid (bnext HD.out hb6); clear hb6))
    all_goals go_ret
    all_goals exact ⟨by simp, HE.out⟩
theorem grp_walk (i j : Int) (w : World) (hX : Gp w) (h0 : -9223372036854775808 ≤ i) (h1 : i ≤ 9223372036854775807) : Calls Tryz.prog 6 #[.int .i64 i, .int .i64 j] w fun e w' => e = .returned (.bool true) ∧ Below w.heap.size w w' := by
  by_cases ho : i < 0 ∨ 14 ≤ i ∨ j < 0 ∨ 14 ≤ j
  · exact grp_out i j w hX ho
  · obtain ⟨k, rfl⟩ := Int.eq_ofNat_of_zero_le (by omega : 0 ≤ i)
    obtain ⟨l, rfl⟩ := Int.eq_ofNat_of_zero_le (by omega : 0 ≤ j)
    exact grp_in k l (by omega) (by omega) w hX
end Go.Proofs.YtocebhaaamnfiaaGreatDoor.Pa
