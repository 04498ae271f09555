/-
  Two operands compared.
-/
import Derived.Test.YthfgicdpbbpnjaaGreatOpCmp
namespace Go.Proofs.YthfgicdpbbpnjaaGreat.Ops
open Go Go.RowKit Go.Proofs.YthfgicdpbbpnjaaGreat.Uni
open Go.Proofs.YthfgicdpbbpnjaaGreat.Vals (bnext ball)
set_option linter.unusedVariables false
set_option linter.unusedSimpArgs false
attribute [local go_sem ↓] ldV stV alV bxV bdV ldO stO alO bxO bdO ldS stS alS bxS bdS
attribute [local irreducible] vcs
attribute [local go_sem] run_bx run_alV run_alO run_alS run_stVg run_stOg run_stSg run_bdV0 run_bdV1 run_bdV2 run_bdV3 run_bdO run_bdS vcs_0 vcs_1 vcs_2 vcs_st1
set_option maxRecDepth 100000

/-- How two numbers stand. -/
def cmpI (x y : Int) : Int := if x < y then -1 else if y < x then 1 else 0
theorem cmp_int (a b : Int) (w : World) : Calls Tryz.prog 38 #[.int .i64 a, .int .i64 b] w fun e w' => e = .returned (.int .i64 (cmpI a b)) ∧ w = w' := by
  unfold cmpI
  by_cases h : a < b
  · rw [if_pos h]; exact cmp_int_lt a b h w
  · rw [if_neg h]
    by_cases h2 : b < a
    · rw [if_pos h2]; exact cmp_int_gt a b h2 w
    · rw [if_neg h2]; exact cmp_int_eq a b (by omega) w
/-- What values.Number gives of v in the worlds of a class that calls keep. -/
structure NumIs (R : World → Prop) (v : Vl) (n : Int) (ok : Bool) : Prop where
  out : ∀ w, R w → Calls Tryz.prog 86 #[.agg (vcs v)] w fun e w' => e = .returned (.tuple #[.int .i64 n, .bool ok]) ∧ Below w.heap.size w w'
  keep : ∀ w w', R w → Below w.heap.size w w' → R w'
theorem NumIs.m {R : World → Prop} {v : Vl} {n : Int} {ok : Bool} (h : NumIs R v n ok) {w : World} (hR : R w) : Calls Tryz.prog 84 #[.agg (vcs v)] w fun e w' => e = .returned (.tuple #[.int .i64 n, .bool ok]) ∧ Below w.heap.size w w' :=
  onum_any v n ok w R (Lib.hid h.out) (h.keep _ _ hR bel1)
theorem nums_ss {R : World → Prop} {v u : Vl} {x y : Int} {p q : Bool} (hv : v.k = 4) (hu : u.k = 4) (h1 : NumIs R v x p) (h2 : NumIs R u y q) (w : World) (hR : R w) :
    Calls Tryz.prog 25 #[opd v, opd u] w fun e w' => e = .returned (.tuple #[.int .i64 x, .int .i64 y, .bool (p && q)]) ∧ Below w.heap.size w w' := by
  rw [opd_s hv, opd_s hu]
  have i1 := fun d w => in_s d v w
  have i2 := fun d w => in_s d u w
  have H1 := Lib.hid h1
  have H2 := Lib.hid h2
  have HK := Lib.hid h1.keep
  clear hv hu h1 h2
  cases p with
  | false =>
    go_enter Tryz.func25, Tryz.ntmps25
    go_wp2_with (go_at_call 84; refine (H1.out.m hR).mono ?_)
    rintro e w1 ⟨rfl, b1⟩
    have hR1 := HK.out _ _ hR b1
    clear i1 H1
    go_wp2_with (go_at_call 84; refine (H2.out.m hR1).mono ?_)
    rintro e w2 ⟨rfl, b2⟩
    go_wp2
    refine bodyPost_ret (v := .tuple #[.int .i64 x, .int .i64 y, .bool (false && q)]) (by simp [results, Tryz.results25, go_sem]) rfl ?_
    exact ⟨rfl, bnext b1 b2⟩
  | true =>
    go_enter Tryz.func25, Tryz.ntmps25
    go_wp2_with (go_at_call 84; refine (H1.out.m hR).mono ?_)
    rintro e w1 ⟨rfl, b1⟩
    have hR1 := HK.out _ _ hR b1
    clear i1 H1
    go_wp2_with (go_at_call 84; refine (H2.out.m hR1).mono ?_)
    rintro e w2 ⟨rfl, b2⟩
    go_wp2
    refine bodyPost_ret (v := .tuple #[.int .i64 x, .int .i64 y, .bool (true && q)]) (by simp [results, Tryz.results25, go_sem]) rfl ?_
    exact ⟨rfl, bnext b1 b2⟩
theorem nums_so {R : World → Prop} {v u : Vl} {x y : Int} {p q : Bool} (hv : v.k = 4) (hu : u.k ≠ 4) (h1 : NumIs R v x p) (h2 : NumIs R u y q) (w : World) (hR : R w) :
    Calls Tryz.prog 25 #[opd v, opd u] w fun e w' => e = .returned (.tuple #[.int .i64 x, .int .i64 y, .bool (p && q)]) ∧ Below w.heap.size w w' := by
  rw [opd_s hv, opd_o hu]
  have i1 := fun d w => in_s d v w
  have i2 := fun d w => in_o d u w
  have H1 := Lib.hid h1
  have H2 := Lib.hid h2
  have HK := Lib.hid h1.keep
  clear hv hu h1 h2
  cases p with
  | false =>
    go_enter Tryz.func25, Tryz.ntmps25
    go_wp2_with (go_at_call 84; refine (H1.out.m hR).mono ?_)
    rintro e w1 ⟨rfl, b1⟩
    have hR1 := HK.out _ _ hR b1
    clear i1 H1
    go_wp2_with (go_at_call 84; refine (H2.out.m hR1).mono ?_)
    rintro e w2 ⟨rfl, b2⟩
    go_wp2
    refine bodyPost_ret (v := .tuple #[.int .i64 x, .int .i64 y, .bool (false && q)]) (by simp [results, Tryz.results25, go_sem]) rfl ?_
    exact ⟨rfl, bnext b1 b2⟩
  | true =>
    go_enter Tryz.func25, Tryz.ntmps25
    go_wp2_with (go_at_call 84; refine (H1.out.m hR).mono ?_)
    rintro e w1 ⟨rfl, b1⟩
    have hR1 := HK.out _ _ hR b1
    clear i1 H1
    go_wp2_with (go_at_call 84; refine (H2.out.m hR1).mono ?_)
    rintro e w2 ⟨rfl, b2⟩
    go_wp2
    refine bodyPost_ret (v := .tuple #[.int .i64 x, .int .i64 y, .bool (true && q)]) (by simp [results, Tryz.results25, go_sem]) rfl ?_
    exact ⟨rfl, bnext b1 b2⟩
theorem nums_os {R : World → Prop} {v u : Vl} {x y : Int} {p q : Bool} (hv : v.k ≠ 4) (hu : u.k = 4) (h1 : NumIs R v x p) (h2 : NumIs R u y q) (w : World) (hR : R w) :
    Calls Tryz.prog 25 #[opd v, opd u] w fun e w' => e = .returned (.tuple #[.int .i64 x, .int .i64 y, .bool (p && q)]) ∧ Below w.heap.size w w' := by
  rw [opd_o hv, opd_s hu]
  have i1 := fun d w => in_o d v w
  have i2 := fun d w => in_s d u w
  have H1 := Lib.hid h1
  have H2 := Lib.hid h2
  have HK := Lib.hid h1.keep
  clear hv hu h1 h2
  cases p with
  | false =>
    go_enter Tryz.func25, Tryz.ntmps25
    go_wp2_with (go_at_call 84; refine (H1.out.m hR).mono ?_)
    rintro e w1 ⟨rfl, b1⟩
    have hR1 := HK.out _ _ hR b1
    clear i1 H1
    go_wp2_with (go_at_call 84; refine (H2.out.m hR1).mono ?_)
    rintro e w2 ⟨rfl, b2⟩
    go_wp2
    refine bodyPost_ret (v := .tuple #[.int .i64 x, .int .i64 y, .bool (false && q)]) (by simp [results, Tryz.results25, go_sem]) rfl ?_
    exact ⟨rfl, bnext b1 b2⟩
  | true =>
    go_enter Tryz.func25, Tryz.ntmps25
    go_wp2_with (go_at_call 84; refine (H1.out.m hR).mono ?_)
    rintro e w1 ⟨rfl, b1⟩
    have hR1 := HK.out _ _ hR b1
    clear i1 H1
    go_wp2_with (go_at_call 84; refine (H2.out.m hR1).mono ?_)
    rintro e w2 ⟨rfl, b2⟩
    go_wp2
    refine bodyPost_ret (v := .tuple #[.int .i64 x, .int .i64 y, .bool (true && q)]) (by simp [results, Tryz.results25, go_sem]) rfl ?_
    exact ⟨rfl, bnext b1 b2⟩
theorem nums_oo {R : World → Prop} {v u : Vl} {x y : Int} {p q : Bool} (hv : v.k ≠ 4) (hu : u.k ≠ 4) (h1 : NumIs R v x p) (h2 : NumIs R u y q) (w : World) (hR : R w) :
    Calls Tryz.prog 25 #[opd v, opd u] w fun e w' => e = .returned (.tuple #[.int .i64 x, .int .i64 y, .bool (p && q)]) ∧ Below w.heap.size w w' := by
  rw [opd_o hv, opd_o hu]
  have i1 := fun d w => in_o d v w
  have i2 := fun d w => in_o d u w
  have H1 := Lib.hid h1
  have H2 := Lib.hid h2
  have HK := Lib.hid h1.keep
  clear hv hu h1 h2
  cases p with
  | false =>
    go_enter Tryz.func25, Tryz.ntmps25
    go_wp2_with (go_at_call 84; refine (H1.out.m hR).mono ?_)
    rintro e w1 ⟨rfl, b1⟩
    have hR1 := HK.out _ _ hR b1
    clear i1 H1
    go_wp2_with (go_at_call 84; refine (H2.out.m hR1).mono ?_)
    rintro e w2 ⟨rfl, b2⟩
    go_wp2
    refine bodyPost_ret (v := .tuple #[.int .i64 x, .int .i64 y, .bool (false && q)]) (by simp [results, Tryz.results25, go_sem]) rfl ?_
    exact ⟨rfl, bnext b1 b2⟩
  | true =>
    go_enter Tryz.func25, Tryz.ntmps25
    go_wp2_with (go_at_call 84; refine (H1.out.m hR).mono ?_)
    rintro e w1 ⟨rfl, b1⟩
    have hR1 := HK.out _ _ hR b1
    clear i1 H1
    go_wp2_with (go_at_call 84; refine (H2.out.m hR1).mono ?_)
    rintro e w2 ⟨rfl, b2⟩
    go_wp2
    refine bodyPost_ret (v := .tuple #[.int .i64 x, .int .i64 y, .bool (true && q)]) (by simp [results, Tryz.results25, go_sem]) rfl ?_
    exact ⟨rfl, bnext b1 b2⟩
theorem nums_any {R : World → Prop} {v u : Vl} {x y : Int} {p q : Bool} (h1 : NumIs R v x p) (h2 : NumIs R u y q) (w : World) (hR : R w) :
    Calls Tryz.prog 25 #[opd v, opd u] w fun e w' => e = .returned (.tuple #[.int .i64 x, .int .i64 y, .bool (p && q)]) ∧ Below w.heap.size w w' := by
  by_cases hv : v.k = 4
  · by_cases hu : u.k = 4
    · exact nums_ss hv hu h1 h2 w hR
    · exact nums_so hv hu h1 h2 w hR
  · by_cases hu : u.k = 4
    · exact nums_os hv hu h1 h2 w hR
    · exact nums_oo hv hu h1 h2 w hR
end Go.Proofs.YthfgicdpbbpnjaaGreat.Ops
