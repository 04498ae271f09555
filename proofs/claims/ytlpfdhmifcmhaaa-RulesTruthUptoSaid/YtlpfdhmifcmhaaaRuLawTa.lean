/-
  The walk of RulesTruth: the ways that end at once.
-/
import Derived.Test.YtlpfdhmifcmhaaaRuTruth
namespace Go.Proofs.Ytlpfdhmifcmhaaa.Des
open Go Go.RowKit Go.Maps Go.Proofs.Ytlpfdhmifcmhaaa.Vals Go.Proofs.Ytlpfdhmifcmhaaa.Keys Go.Proofs.Ytlpfdhmifcmhaaa.Arrs
set_option linter.unusedVariables false
set_option linter.unusedSimpArgs false
attribute [local go_sem ↓] to_ldD to_stD run_eqD run_eqV0 to_ldE to_alE to_stE run_eqK
attribute [local go_sem] n2 n3 m2 m3 rowD_drew rowD_drewN rowD_alloc rowD_putc rowD_other putD_drew putD_drewN putD_size putD_alloc setObj_cells run_ldD run_stD okC_dcs okC_lit objRow_dcs one_b one_i one_s objRow_lit dcs_0 dcs_1 dcs_2 dcs_3 dcs_4 dcs_5 dcs_6 dcs_7 dcs_8 dcs_9 dcs_10 dcs_11 dcs_12 dcs_13 dcs_14 dcs_15 dcs_16 dcs_17
attribute [local go_sem low] cell_rowD
attribute [local irreducible] ecs zer
attribute [local go_sem] run_alE run_stE ecs_0 ecs_1 ecs_10 ecs_19
attribute [local go_sem] eqV_refl eqD_refl

set_option maxHeartbeats 8000000 in
set_option maxRecDepth 100000 in
theorem truth_a (x : Bool) (n : Ds) (p : Vl) (ao : Option Addr) (cap : Nat) (es : List En) (w : World) (fn : Fit n) (fp : p.s.size ≤ 2000000) (hle : (es.length : Int) ≤ 9223372036854775807) (hce : EsAt ao es w) (hfe : ∀ e ∈ es, Fine (ekey e)) (h1 : whR n = false) : Calls Try.prog 5 #[.bool x, .bool true, DV n, VV p, .slice ao es.length cap] w fun e w' => e = .returned (.bool true) ∧ Below w.heap.size w w' := by
  have hW := whr_is h1
  clear h1
  have HCE := Lib.hid hce
  have HFE := Lib.hid hfe
  clear fn fp hce hfe
  go_enter Try.func5, Try.ntmps5
  go_wp2_with (go_at_call 9; refine (alive_any _).mono ?_; rintro e w1 ⟨rfl, hb1⟩; have := rowD_call hb1 (show rowD _ (w.heap.size) = some (dcs n) by first | assumption | (simp [rowD_alloc, objRow_dcs, rowD_drew, n2, n3, m2, m3]; done) | (simp [rowD_drew, rowD_alloc, n2, n3, m2, m3, objRow_dcs, objRow_lit, rowD_putc, rowD_other, putD_size, okC_dcs, okC_lit, one_b, one_i, one_s, *]; done)); have := cell_call (a := ⟨w.heap.size + 1, 0, none⟩) (v := .int .i64 p.k) hb1 (by first | assumption | (simp; done) | (simp [*]; done)); have := cell_call (a := ⟨w.heap.size + 1, 1, none⟩) (v := .int .i64 p.n) hb1 (by first | assumption | (simp; done) | (simp [*]; done)); have := cell_call (a := ⟨w.heap.size + 1, 2, none⟩) (v := .string p.s) hb1 (by first | assumption | (simp; done) | (simp [*]; done)); have hbw : Below w.heap.size w w1 := bel_keep hb1 (by first | exact (by assumption) | exact two_bels _ _ _ | exact ball _ _ | exact bel_al (by assumption) | exact bel_drew (by assumption) | exact bel_drew (two_bels _ _ _) | exact three_bels _ _ _ _ | exact bel_al (bel_al (by assumption))); clear hb1; refine Hid.out ?_)
  refine Lib.hid ?_
  have hbg : Calls Try.prog 25 #[.slice ao es.length cap] w1 (BigPost es w1) := big_any ao cap es w1 hle (HCE.out.below hbw)
  go_wp2_with (go_at_call 25; (with_reducible refine Calls.mono hbg ?_); rintro x w1' ⟨bg, rfl, hbg2, rfl⟩; refine Hid.out ?_)
  refine Lib.hid ?_
  clear hbg
  cases hbv : bg with
  | true =>
    clear hbg2
    subst hbv
    go_wp2
    go_ret
    exact ⟨rfl, hbw⟩
  | false =>
    have h60 := (hbg2 hbv).1
    clear hbg2
    subst hbv
    go_wp2_with (first | (go_at_call 15; with_reducible refine (hW.at).mono ?_; rintro e w1 ⟨rfl, hb1⟩; have := rowD_call hb1 (show rowD _ (w.heap.size) = some (dcs n) by first | assumption | (simp [rowD_alloc, objRow_dcs, rowD_drew, n2, n3, m2, m3]; done) | (simp [rowD_drew, rowD_alloc, n2, n3, m2, m3, objRow_dcs, objRow_lit, rowD_putc, rowD_other, putD_size, okC_dcs, okC_lit, one_b, one_i, one_s, *]; done)); have := cell_call (a := ⟨w.heap.size + 1, 0, none⟩) (v := .int .i64 p.k) hb1 (by first | assumption | (simp; done) | (simp [*]; done)); have := cell_call (a := ⟨w.heap.size + 1, 1, none⟩) (v := .int .i64 p.n) hb1 (by first | assumption | (simp; done) | (simp [*]; done)); have := cell_call (a := ⟨w.heap.size + 1, 2, none⟩) (v := .string p.s) hb1 (by first | assumption | (simp; done) | (simp [*]; done)); have hbw : Below w.heap.size w w1 := bel_keep hb1 (by first | exact (by assumption) | exact two_bels _ _ _ | exact ball _ _ | exact bel_al (by assumption) | exact bel_drew (by assumption) | exact bel_drew (two_bels _ _ _) | exact three_bels _ _ _ _ | exact bel_al (bel_al (by assumption))); clear hb1))
    all_goals
      go_ret
      exact ⟨by first | rfl | (simp [*]; done), by first | exact (by assumption) | exact two_bels _ _ _ | exact ball _ _ | exact bel_al (by assumption) | exact bel_drew (by assumption) | exact bel_drew (two_bels _ _ _) | exact three_bels _ _ _ _ | exact bel_al (bel_al (by assumption))⟩
set_option maxHeartbeats 8000000 in
set_option maxRecDepth 100000 in
theorem truth_b_true (x : Bool) (n : Ds) (p : Vl) (ao : Option Addr) (cap : Nat) (es : List En) (w : World) (fn : Fit n) (fp : p.s.size ≤ 2000000) (hle : (es.length : Int) ≤ 9223372036854775807) (hce : EsAt ao es w) (hfe : ∀ e ∈ es, Fine (ekey e)) (h1 : whR n = true) (h2 : mayF n = false) : Calls Try.prog 5 #[.bool x, .bool true, DV n, VV p, .slice ao es.length cap] w fun e w' => e = .returned (.bool true) ∧ Below w.heap.size w w' := by
  have hW := whr_is h1
  clear h1
  have hM := may_is fn h2
  clear h2
  have HCE := Lib.hid hce
  have HFE := Lib.hid hfe
  clear fn fp hce hfe
  go_enter Try.func5, Try.ntmps5
  go_wp2_with (go_at_call 9; refine (alive_any _).mono ?_; rintro e w1 ⟨rfl, hb1⟩; have := rowD_call hb1 (show rowD _ (w.heap.size) = some (dcs n) by first | assumption | (simp [rowD_alloc, objRow_dcs, rowD_drew, n2, n3, m2, m3]; done) | (simp [rowD_drew, rowD_alloc, n2, n3, m2, m3, objRow_dcs, objRow_lit, rowD_putc, rowD_other, putD_size, okC_dcs, okC_lit, one_b, one_i, one_s, *]; done)); have := cell_call (a := ⟨w.heap.size + 1, 0, none⟩) (v := .int .i64 p.k) hb1 (by first | assumption | (simp; done) | (simp [*]; done)); have := cell_call (a := ⟨w.heap.size + 1, 1, none⟩) (v := .int .i64 p.n) hb1 (by first | assumption | (simp; done) | (simp [*]; done)); have := cell_call (a := ⟨w.heap.size + 1, 2, none⟩) (v := .string p.s) hb1 (by first | assumption | (simp; done) | (simp [*]; done)); have hbw : Below w.heap.size w w1 := bel_keep hb1 (by first | exact (by assumption) | exact two_bels _ _ _ | exact ball _ _ | exact bel_al (by assumption) | exact bel_drew (by assumption) | exact bel_drew (two_bels _ _ _) | exact three_bels _ _ _ _ | exact bel_al (bel_al (by assumption))); clear hb1; refine Hid.out ?_)
  refine Lib.hid ?_
  have hbg : Calls Try.prog 25 #[.slice ao es.length cap] w1 (BigPost es w1) := big_any ao cap es w1 hle (HCE.out.below hbw)
  go_wp2_with (go_at_call 25; (with_reducible refine Calls.mono hbg ?_); rintro x w1' ⟨bg, rfl, hbg2, rfl⟩; refine Hid.out ?_)
  refine Lib.hid ?_
  clear hbg
  cases hbv : bg with
  | true =>
    clear hbg2
    subst hbv
    go_wp2
    go_ret
    exact ⟨rfl, hbw⟩
  | false =>
    have h60 := (hbg2 hbv).1
    clear hbg2
    subst hbv
    go_wp2_with (first | (go_at_call 15; with_reducible refine (hW.at).mono ?_; rintro e w1 ⟨rfl, hb1⟩; have := rowD_call hb1 (show rowD _ (w.heap.size) = some (dcs n) by first | assumption | (simp [rowD_alloc, objRow_dcs, rowD_drew, n2, n3, m2, m3]; done) | (simp [rowD_drew, rowD_alloc, n2, n3, m2, m3, objRow_dcs, objRow_lit, rowD_putc, rowD_other, putD_size, okC_dcs, okC_lit, one_b, one_i, one_s, *]; done)); have := cell_call (a := ⟨w.heap.size + 1, 0, none⟩) (v := .int .i64 p.k) hb1 (by first | assumption | (simp; done) | (simp [*]; done)); have := cell_call (a := ⟨w.heap.size + 1, 1, none⟩) (v := .int .i64 p.n) hb1 (by first | assumption | (simp; done) | (simp [*]; done)); have := cell_call (a := ⟨w.heap.size + 1, 2, none⟩) (v := .string p.s) hb1 (by first | assumption | (simp; done) | (simp [*]; done)); have hbw : Below w.heap.size w w1 := bel_keep hb1 (by first | exact (by assumption) | exact two_bels _ _ _ | exact ball _ _ | exact bel_al (by assumption) | exact bel_drew (by assumption) | exact bel_drew (two_bels _ _ _) | exact three_bels _ _ _ _ | exact bel_al (bel_al (by assumption))); clear hb1) | (go_at_call 16; with_reducible refine (hM.at).mono ?_; rintro e w1 ⟨rfl, hb1⟩; have := rowD_call hb1 (show rowD _ (w.heap.size) = some (dcs n) by first | assumption | (simp [rowD_alloc, objRow_dcs, rowD_drew, n2, n3, m2, m3]; done) | (simp [rowD_drew, rowD_alloc, n2, n3, m2, m3, objRow_dcs, objRow_lit, rowD_putc, rowD_other, putD_size, okC_dcs, okC_lit, one_b, one_i, one_s, *]; done)); have := cell_call (a := ⟨w.heap.size + 1, 0, none⟩) (v := .int .i64 p.k) hb1 (by first | assumption | (simp; done) | (simp [*]; done)); have := cell_call (a := ⟨w.heap.size + 1, 1, none⟩) (v := .int .i64 p.n) hb1 (by first | assumption | (simp; done) | (simp [*]; done)); have := cell_call (a := ⟨w.heap.size + 1, 2, none⟩) (v := .string p.s) hb1 (by first | assumption | (simp; done) | (simp [*]; done)); have hbw : Below w.heap.size w w1 := bel_keep hb1 (by first | exact (by assumption) | exact two_bels _ _ _ | exact ball _ _ | exact bel_al (by assumption) | exact bel_drew (by assumption) | exact bel_drew (two_bels _ _ _) | exact three_bels _ _ _ _ | exact bel_al (bel_al (by assumption))); clear hb1))
    all_goals
      go_ret
      exact ⟨by first | rfl | (simp [*]; done), by first | exact (by assumption) | exact two_bels _ _ _ | exact ball _ _ | exact bel_al (by assumption) | exact bel_drew (by assumption) | exact bel_drew (two_bels _ _ _) | exact three_bels _ _ _ _ | exact bel_al (bel_al (by assumption))⟩
set_option maxHeartbeats 8000000 in
set_option maxRecDepth 100000 in
theorem truth_c_true (x : Bool) (n : Ds) (p : Vl) (ao : Option Addr) (cap : Nat) (es : List En) (w : World) (fn : Fit n) (fp : p.s.size ≤ 2000000) (hle : (es.length : Int) ≤ 9223372036854775807) (hce : EsAt ao es w) (hfe : ∀ e ∈ es, Fine (ekey e)) (h1 : whR n = true) (h2 : mayF n = true) (h3 : rvF p = false) : Calls Try.prog 5 #[.bool x, .bool true, DV n, VV p, .slice ao es.length cap] w fun e w' => e = .returned (.bool true) ∧ Below w.heap.size w w' := by
  have hW := whr_is h1
  clear h1
  have hM := may_is fn h2
  clear h2
  have hV := rvq_is fp h3
  clear h3
  have HCE := Lib.hid hce
  have HFE := Lib.hid hfe
  clear fn fp hce hfe
  go_enter Try.func5, Try.ntmps5
  go_wp2_with (go_at_call 9; refine (alive_any _).mono ?_; rintro e w1 ⟨rfl, hb1⟩; have := rowD_call hb1 (show rowD _ (w.heap.size) = some (dcs n) by first | assumption | (simp [rowD_alloc, objRow_dcs, rowD_drew, n2, n3, m2, m3]; done) | (simp [rowD_drew, rowD_alloc, n2, n3, m2, m3, objRow_dcs, objRow_lit, rowD_putc, rowD_other, putD_size, okC_dcs, okC_lit, one_b, one_i, one_s, *]; done)); have := cell_call (a := ⟨w.heap.size + 1, 0, none⟩) (v := .int .i64 p.k) hb1 (by first | assumption | (simp; done) | (simp [*]; done)); have := cell_call (a := ⟨w.heap.size + 1, 1, none⟩) (v := .int .i64 p.n) hb1 (by first | assumption | (simp; done) | (simp [*]; done)); have := cell_call (a := ⟨w.heap.size + 1, 2, none⟩) (v := .string p.s) hb1 (by first | assumption | (simp; done) | (simp [*]; done)); have hbw : Below w.heap.size w w1 := bel_keep hb1 (by first | exact (by assumption) | exact two_bels _ _ _ | exact ball _ _ | exact bel_al (by assumption) | exact bel_drew (by assumption) | exact bel_drew (two_bels _ _ _) | exact three_bels _ _ _ _ | exact bel_al (bel_al (by assumption))); clear hb1; refine Hid.out ?_)
  refine Lib.hid ?_
  have hbg : Calls Try.prog 25 #[.slice ao es.length cap] w1 (BigPost es w1) := big_any ao cap es w1 hle (HCE.out.below hbw)
  go_wp2_with (go_at_call 25; (with_reducible refine Calls.mono hbg ?_); rintro x w1' ⟨bg, rfl, hbg2, rfl⟩; refine Hid.out ?_)
  refine Lib.hid ?_
  clear hbg
  cases hbv : bg with
  | true =>
    clear hbg2
    subst hbv
    go_wp2
    go_ret
    exact ⟨rfl, hbw⟩
  | false =>
    have h60 := (hbg2 hbv).1
    clear hbg2
    subst hbv
    go_wp2_with (first | (go_at_call 15; with_reducible refine (hW.at).mono ?_; rintro e w1 ⟨rfl, hb1⟩; have := rowD_call hb1 (show rowD _ (w.heap.size) = some (dcs n) by first | assumption | (simp [rowD_alloc, objRow_dcs, rowD_drew, n2, n3, m2, m3]; done) | (simp [rowD_drew, rowD_alloc, n2, n3, m2, m3, objRow_dcs, objRow_lit, rowD_putc, rowD_other, putD_size, okC_dcs, okC_lit, one_b, one_i, one_s, *]; done)); have := cell_call (a := ⟨w.heap.size + 1, 0, none⟩) (v := .int .i64 p.k) hb1 (by first | assumption | (simp; done) | (simp [*]; done)); have := cell_call (a := ⟨w.heap.size + 1, 1, none⟩) (v := .int .i64 p.n) hb1 (by first | assumption | (simp; done) | (simp [*]; done)); have := cell_call (a := ⟨w.heap.size + 1, 2, none⟩) (v := .string p.s) hb1 (by first | assumption | (simp; done) | (simp [*]; done)); have hbw : Below w.heap.size w w1 := bel_keep hb1 (by first | exact (by assumption) | exact two_bels _ _ _ | exact ball _ _ | exact bel_al (by assumption) | exact bel_drew (by assumption) | exact bel_drew (two_bels _ _ _) | exact three_bels _ _ _ _ | exact bel_al (bel_al (by assumption))); clear hb1) | (go_at_call 16; with_reducible refine (hM.at).mono ?_; rintro e w1 ⟨rfl, hb1⟩; have := rowD_call hb1 (show rowD _ (w.heap.size) = some (dcs n) by first | assumption | (simp [rowD_alloc, objRow_dcs, rowD_drew, n2, n3, m2, m3]; done) | (simp [rowD_drew, rowD_alloc, n2, n3, m2, m3, objRow_dcs, objRow_lit, rowD_putc, rowD_other, putD_size, okC_dcs, okC_lit, one_b, one_i, one_s, *]; done)); have := cell_call (a := ⟨w.heap.size + 1, 0, none⟩) (v := .int .i64 p.k) hb1 (by first | assumption | (simp; done) | (simp [*]; done)); have := cell_call (a := ⟨w.heap.size + 1, 1, none⟩) (v := .int .i64 p.n) hb1 (by first | assumption | (simp; done) | (simp [*]; done)); have := cell_call (a := ⟨w.heap.size + 1, 2, none⟩) (v := .string p.s) hb1 (by first | assumption | (simp; done) | (simp [*]; done)); have hbw : Below w.heap.size w w1 := bel_keep hb1 (by first | exact (by assumption) | exact two_bels _ _ _ | exact ball _ _ | exact bel_al (by assumption) | exact bel_drew (by assumption) | exact bel_drew (two_bels _ _ _) | exact three_bels _ _ _ _ | exact bel_al (bel_al (by assumption))); clear hb1) | (go_at_call 10; with_reducible refine (hV.at).mono ?_; rintro e w1 ⟨rfl, hb1⟩; have := rowD_call hb1 (show rowD _ (w.heap.size) = some (dcs n) by first | assumption | (simp [rowD_alloc, objRow_dcs, rowD_drew, n2, n3, m2, m3]; done) | (simp [rowD_drew, rowD_alloc, n2, n3, m2, m3, objRow_dcs, objRow_lit, rowD_putc, rowD_other, putD_size, okC_dcs, okC_lit, one_b, one_i, one_s, *]; done)); have := cell_call (a := ⟨w.heap.size + 1, 0, none⟩) (v := .int .i64 p.k) hb1 (by first | assumption | (simp; done) | (simp [*]; done)); have := cell_call (a := ⟨w.heap.size + 1, 1, none⟩) (v := .int .i64 p.n) hb1 (by first | assumption | (simp; done) | (simp [*]; done)); have := cell_call (a := ⟨w.heap.size + 1, 2, none⟩) (v := .string p.s) hb1 (by first | assumption | (simp; done) | (simp [*]; done)); have hbw : Below w.heap.size w w1 := bel_keep hb1 (by first | exact (by assumption) | exact two_bels _ _ _ | exact ball _ _ | exact bel_al (by assumption) | exact bel_drew (by assumption) | exact bel_drew (two_bels _ _ _) | exact three_bels _ _ _ _ | exact bel_al (bel_al (by assumption))); clear hb1))
    all_goals
      go_ret
      exact ⟨by first | rfl | (simp [*]; done), by first | exact (by assumption) | exact two_bels _ _ _ | exact ball _ _ | exact bel_al (by assumption) | exact bel_drew (by assumption) | exact bel_drew (two_bels _ _ _) | exact three_bels _ _ _ _ | exact bel_al (bel_al (by assumption))⟩
set_option maxHeartbeats 8000000 in
set_option maxRecDepth 100000 in
theorem truth_d_true (x : Bool) (n : Ds) (p : Vl) (ao : Option Addr) (cap : Nat) (es : List En) (w : World) (fn : Fit n) (fp : p.s.size ≤ 2000000) (hle : (es.length : Int) ≤ 9223372036854775807) (hce : EsAt ao es w) (hfe : ∀ e ∈ es, Fine (ekey e)) (h1 : whR n = true) (h2 : mayF n = true) (h3 : rvF p = true) (k1 : (p.k != 1) = true) (k2 : (p.k != 6) = true) : Calls Try.prog 5 #[.bool x, .bool true, DV n, VV p, .slice ao es.length cap] w fun e w' => e = .returned (.bool true) ∧ Below w.heap.size w w' := by
  have hW := whr_is h1
  clear h1
  have hM := may_is fn h2
  clear h2
  have hV := rvq_is fp h3
  clear h3
  have HCE := Lib.hid hce
  have HFE := Lib.hid hfe
  clear fn fp hce hfe
  go_enter Try.func5, Try.ntmps5
  go_wp2_with (go_at_call 9; refine (alive_any _).mono ?_; rintro e w1 ⟨rfl, hb1⟩; have := rowD_call hb1 (show rowD _ (w.heap.size) = some (dcs n) by first | assumption | (simp [rowD_alloc, objRow_dcs, rowD_drew, n2, n3, m2, m3]; done) | (simp [rowD_drew, rowD_alloc, n2, n3, m2, m3, objRow_dcs, objRow_lit, rowD_putc, rowD_other, putD_size, okC_dcs, okC_lit, one_b, one_i, one_s, *]; done)); have := cell_call (a := ⟨w.heap.size + 1, 0, none⟩) (v := .int .i64 p.k) hb1 (by first | assumption | (simp; done) | (simp [*]; done)); have := cell_call (a := ⟨w.heap.size + 1, 1, none⟩) (v := .int .i64 p.n) hb1 (by first | assumption | (simp; done) | (simp [*]; done)); have := cell_call (a := ⟨w.heap.size + 1, 2, none⟩) (v := .string p.s) hb1 (by first | assumption | (simp; done) | (simp [*]; done)); have hbw : Below w.heap.size w w1 := bel_keep hb1 (by first | exact (by assumption) | exact two_bels _ _ _ | exact ball _ _ | exact bel_al (by assumption) | exact bel_drew (by assumption) | exact bel_drew (two_bels _ _ _) | exact three_bels _ _ _ _ | exact bel_al (bel_al (by assumption))); clear hb1; refine Hid.out ?_)
  refine Lib.hid ?_
  have hbg : Calls Try.prog 25 #[.slice ao es.length cap] w1 (BigPost es w1) := big_any ao cap es w1 hle (HCE.out.below hbw)
  go_wp2_with (go_at_call 25; (with_reducible refine Calls.mono hbg ?_); rintro x w1' ⟨bg, rfl, hbg2, rfl⟩; refine Hid.out ?_)
  refine Lib.hid ?_
  clear hbg
  cases hbv : bg with
  | true =>
    clear hbg2
    subst hbv
    go_wp2
    go_ret
    exact ⟨rfl, hbw⟩
  | false =>
    have h60 := (hbg2 hbv).1
    clear hbg2
    subst hbv
    go_wp2_with (first | (go_at_call 15; with_reducible refine (hW.at).mono ?_; rintro e w1 ⟨rfl, hb1⟩; have := rowD_call hb1 (show rowD _ (w.heap.size) = some (dcs n) by first | assumption | (simp [rowD_alloc, objRow_dcs, rowD_drew, n2, n3, m2, m3]; done) | (simp [rowD_drew, rowD_alloc, n2, n3, m2, m3, objRow_dcs, objRow_lit, rowD_putc, rowD_other, putD_size, okC_dcs, okC_lit, one_b, one_i, one_s, *]; done)); have := cell_call (a := ⟨w.heap.size + 1, 0, none⟩) (v := .int .i64 p.k) hb1 (by first | assumption | (simp; done) | (simp [*]; done)); have := cell_call (a := ⟨w.heap.size + 1, 1, none⟩) (v := .int .i64 p.n) hb1 (by first | assumption | (simp; done) | (simp [*]; done)); have := cell_call (a := ⟨w.heap.size + 1, 2, none⟩) (v := .string p.s) hb1 (by first | assumption | (simp; done) | (simp [*]; done)); have hbw : Below w.heap.size w w1 := bel_keep hb1 (by first | exact (by assumption) | exact two_bels _ _ _ | exact ball _ _ | exact bel_al (by assumption) | exact bel_drew (by assumption) | exact bel_drew (two_bels _ _ _) | exact three_bels _ _ _ _ | exact bel_al (bel_al (by assumption))); clear hb1) | (go_at_call 16; with_reducible refine (hM.at).mono ?_; rintro e w1 ⟨rfl, hb1⟩; have := rowD_call hb1 (show rowD _ (w.heap.size) = some (dcs n) by first | assumption | (simp [rowD_alloc, objRow_dcs, rowD_drew, n2, n3, m2, m3]; done) | (simp [rowD_drew, rowD_alloc, n2, n3, m2, m3, objRow_dcs, objRow_lit, rowD_putc, rowD_other, putD_size, okC_dcs, okC_lit, one_b, one_i, one_s, *]; done)); have := cell_call (a := ⟨w.heap.size + 1, 0, none⟩) (v := .int .i64 p.k) hb1 (by first | assumption | (simp; done) | (simp [*]; done)); have := cell_call (a := ⟨w.heap.size + 1, 1, none⟩) (v := .int .i64 p.n) hb1 (by first | assumption | (simp; done) | (simp [*]; done)); have := cell_call (a := ⟨w.heap.size + 1, 2, none⟩) (v := .string p.s) hb1 (by first | assumption | (simp; done) | (simp [*]; done)); have hbw : Below w.heap.size w w1 := bel_keep hb1 (by first | exact (by assumption) | exact two_bels _ _ _ | exact ball _ _ | exact bel_al (by assumption) | exact bel_drew (by assumption) | exact bel_drew (two_bels _ _ _) | exact three_bels _ _ _ _ | exact bel_al (bel_al (by assumption))); clear hb1) | (go_at_call 10; with_reducible refine (hV.at).mono ?_; rintro e w1 ⟨rfl, hb1⟩; have := rowD_call hb1 (show rowD _ (w.heap.size) = some (dcs n) by first | assumption | (simp [rowD_alloc, objRow_dcs, rowD_drew, n2, n3, m2, m3]; done) | (simp [rowD_drew, rowD_alloc, n2, n3, m2, m3, objRow_dcs, objRow_lit, rowD_putc, rowD_other, putD_size, okC_dcs, okC_lit, one_b, one_i, one_s, *]; done)); have := cell_call (a := ⟨w.heap.size + 1, 0, none⟩) (v := .int .i64 p.k) hb1 (by first | assumption | (simp; done) | (simp [*]; done)); have := cell_call (a := ⟨w.heap.size + 1, 1, none⟩) (v := .int .i64 p.n) hb1 (by first | assumption | (simp; done) | (simp [*]; done)); have := cell_call (a := ⟨w.heap.size + 1, 2, none⟩) (v := .string p.s) hb1 (by first | assumption | (simp; done) | (simp [*]; done)); have hbw : Below w.heap.size w w1 := bel_keep hb1 (by first | exact (by assumption) | exact two_bels _ _ _ | exact ball _ _ | exact bel_al (by assumption) | exact bel_drew (by assumption) | exact bel_drew (two_bels _ _ _) | exact three_bels _ _ _ _ | exact bel_al (bel_al (by assumption))); clear hb1))
    all_goals
      go_ret
      exact ⟨by first | rfl | (simp [*]; done), by first | exact (by assumption) | exact two_bels _ _ _ | exact ball _ _ | exact bel_al (by assumption) | exact bel_drew (by assumption) | exact bel_drew (two_bels _ _ _) | exact three_bels _ _ _ _ | exact bel_al (bel_al (by assumption))⟩
set_option maxHeartbeats 8000000 in
set_option maxRecDepth 100000 in
theorem truth_b_false (x : Bool) (n : Ds) (p : Vl) (ao : Option Addr) (cap : Nat) (es : List En) (w : World) (fn : Fit n) (fp : p.s.size ≤ 2000000) (hle : (es.length : Int) ≤ 9223372036854775807) (hce : EsAt ao es w) (hfe : ∀ e ∈ es, Fine (ekey e)) (h2 : mayF n = false) : Calls Try.prog 5 #[.bool x, .bool false, DV n, VV p, .slice ao es.length cap] w fun e w' => e = .returned (.bool true) ∧ Below w.heap.size w w' := by
  have hM := may_is fn h2
  clear h2
  have HCE := Lib.hid hce
  have HFE := Lib.hid hfe
  clear fn fp hce hfe
  go_enter Try.func5, Try.ntmps5
  go_wp2_with (go_at_call 9; refine (alive_any _).mono ?_; rintro e w1 ⟨rfl, hb1⟩; have := rowD_call hb1 (show rowD _ (w.heap.size) = some (dcs n) by first | assumption | (simp [rowD_alloc, objRow_dcs, rowD_drew, n2, n3, m2, m3]; done) | (simp [rowD_drew, rowD_alloc, n2, n3, m2, m3, objRow_dcs, objRow_lit, rowD_putc, rowD_other, putD_size, okC_dcs, okC_lit, one_b, one_i, one_s, *]; done)); have := cell_call (a := ⟨w.heap.size + 1, 0, none⟩) (v := .int .i64 p.k) hb1 (by first | assumption | (simp; done) | (simp [*]; done)); have := cell_call (a := ⟨w.heap.size + 1, 1, none⟩) (v := .int .i64 p.n) hb1 (by first | assumption | (simp; done) | (simp [*]; done)); have := cell_call (a := ⟨w.heap.size + 1, 2, none⟩) (v := .string p.s) hb1 (by first | assumption | (simp; done) | (simp [*]; done)); have hbw : Below w.heap.size w w1 := bel_keep hb1 (by first | exact (by assumption) | exact two_bels _ _ _ | exact ball _ _ | exact bel_al (by assumption) | exact bel_drew (by assumption) | exact bel_drew (two_bels _ _ _) | exact three_bels _ _ _ _ | exact bel_al (bel_al (by assumption))); clear hb1; refine Hid.out ?_)
  refine Lib.hid ?_
  have hbg : Calls Try.prog 25 #[.slice ao es.length cap] w1 (BigPost es w1) := big_any ao cap es w1 hle (HCE.out.below hbw)
  go_wp2_with (go_at_call 25; (with_reducible refine Calls.mono hbg ?_); rintro x w1' ⟨bg, rfl, hbg2, rfl⟩; refine Hid.out ?_)
  refine Lib.hid ?_
  clear hbg
  cases hbv : bg with
  | true =>
    clear hbg2
    subst hbv
    go_wp2
    go_ret
    exact ⟨rfl, hbw⟩
  | false =>
    have h60 := (hbg2 hbv).1
    clear hbg2
    subst hbv
    go_wp2_with (first | (go_at_call 16; with_reducible refine (hM.at).mono ?_; rintro e w1 ⟨rfl, hb1⟩; have := rowD_call hb1 (show rowD _ (w.heap.size) = some (dcs n) by first | assumption | (simp [rowD_alloc, objRow_dcs, rowD_drew, n2, n3, m2, m3]; done) | (simp [rowD_drew, rowD_alloc, n2, n3, m2, m3, objRow_dcs, objRow_lit, rowD_putc, rowD_other, putD_size, okC_dcs, okC_lit, one_b, one_i, one_s, *]; done)); have := cell_call (a := ⟨w.heap.size + 1, 0, none⟩) (v := .int .i64 p.k) hb1 (by first | assumption | (simp; done) | (simp [*]; done)); have := cell_call (a := ⟨w.heap.size + 1, 1, none⟩) (v := .int .i64 p.n) hb1 (by first | assumption | (simp; done) | (simp [*]; done)); have := cell_call (a := ⟨w.heap.size + 1, 2, none⟩) (v := .string p.s) hb1 (by first | assumption | (simp; done) | (simp [*]; done)); have hbw : Below w.heap.size w w1 := bel_keep hb1 (by first | exact (by assumption) | exact two_bels _ _ _ | exact ball _ _ | exact bel_al (by assumption) | exact bel_drew (by assumption) | exact bel_drew (two_bels _ _ _) | exact three_bels _ _ _ _ | exact bel_al (bel_al (by assumption))); clear hb1))
    all_goals
      go_ret
      exact ⟨by first | rfl | (simp [*]; done), by first | exact (by assumption) | exact two_bels _ _ _ | exact ball _ _ | exact bel_al (by assumption) | exact bel_drew (by assumption) | exact bel_drew (two_bels _ _ _) | exact three_bels _ _ _ _ | exact bel_al (bel_al (by assumption))⟩
set_option maxHeartbeats 8000000 in
set_option maxRecDepth 100000 in
theorem truth_c_false (x : Bool) (n : Ds) (p : Vl) (ao : Option Addr) (cap : Nat) (es : List En) (w : World) (fn : Fit n) (fp : p.s.size ≤ 2000000) (hle : (es.length : Int) ≤ 9223372036854775807) (hce : EsAt ao es w) (hfe : ∀ e ∈ es, Fine (ekey e)) (h2 : mayF n = true) (h3 : rvF p = false) : Calls Try.prog 5 #[.bool x, .bool false, DV n, VV p, .slice ao es.length cap] w fun e w' => e = .returned (.bool true) ∧ Below w.heap.size w w' := by
  have hM := may_is fn h2
  clear h2
  have hV := rvq_is fp h3
  clear h3
  have HCE := Lib.hid hce
  have HFE := Lib.hid hfe
  clear fn fp hce hfe
  go_enter Try.func5, Try.ntmps5
  go_wp2_with (go_at_call 9; refine (alive_any _).mono ?_; rintro e w1 ⟨rfl, hb1⟩; have := rowD_call hb1 (show rowD _ (w.heap.size) = some (dcs n) by first | assumption | (simp [rowD_alloc, objRow_dcs, rowD_drew, n2, n3, m2, m3]; done) | (simp [rowD_drew, rowD_alloc, n2, n3, m2, m3, objRow_dcs, objRow_lit, rowD_putc, rowD_other, putD_size, okC_dcs, okC_lit, one_b, one_i, one_s, *]; done)); have := cell_call (a := ⟨w.heap.size + 1, 0, none⟩) (v := .int .i64 p.k) hb1 (by first | assumption | (simp; done) | (simp [*]; done)); have := cell_call (a := ⟨w.heap.size + 1, 1, none⟩) (v := .int .i64 p.n) hb1 (by first | assumption | (simp; done) | (simp [*]; done)); have := cell_call (a := ⟨w.heap.size + 1, 2, none⟩) (v := .string p.s) hb1 (by first | assumption | (simp; done) | (simp [*]; done)); have hbw : Below w.heap.size w w1 := bel_keep hb1 (by first | exact (by assumption) | exact two_bels _ _ _ | exact ball _ _ | exact bel_al (by assumption) | exact bel_drew (by assumption) | exact bel_drew (two_bels _ _ _) | exact three_bels _ _ _ _ | exact bel_al (bel_al (by assumption))); clear hb1; refine Hid.out ?_)
  refine Lib.hid ?_
  have hbg : Calls Try.prog 25 #[.slice ao es.length cap] w1 (BigPost es w1) := big_any ao cap es w1 hle (HCE.out.below hbw)
  go_wp2_with (go_at_call 25; (with_reducible refine Calls.mono hbg ?_); rintro x w1' ⟨bg, rfl, hbg2, rfl⟩; refine Hid.out ?_)
  refine Lib.hid ?_
  clear hbg
  cases hbv : bg with
  | true =>
    clear hbg2
    subst hbv
    go_wp2
    go_ret
    exact ⟨rfl, hbw⟩
  | false =>
    have h60 := (hbg2 hbv).1
    clear hbg2
    subst hbv
    go_wp2_with (first | (go_at_call 16; with_reducible refine (hM.at).mono ?_; rintro e w1 ⟨rfl, hb1⟩; have := rowD_call hb1 (show rowD _ (w.heap.size) = some (dcs n) by first | assumption | (simp [rowD_alloc, objRow_dcs, rowD_drew, n2, n3, m2, m3]; done) | (simp [rowD_drew, rowD_alloc, n2, n3, m2, m3, objRow_dcs, objRow_lit, rowD_putc, rowD_other, putD_size, okC_dcs, okC_lit, one_b, one_i, one_s, *]; done)); have := cell_call (a := ⟨w.heap.size + 1, 0, none⟩) (v := .int .i64 p.k) hb1 (by first | assumption | (simp; done) | (simp [*]; done)); have := cell_call (a := ⟨w.heap.size + 1, 1, none⟩) (v := .int .i64 p.n) hb1 (by first | assumption | (simp; done) | (simp [*]; done)); have := cell_call (a := ⟨w.heap.size + 1, 2, none⟩) (v := .string p.s) hb1 (by first | assumption | (simp; done) | (simp [*]; done)); have hbw : Below w.heap.size w w1 := bel_keep hb1 (by first | exact (by assumption) | exact two_bels _ _ _ | exact ball _ _ | exact bel_al (by assumption) | exact bel_drew (by assumption) | exact bel_drew (two_bels _ _ _) | exact three_bels _ _ _ _ | exact bel_al (bel_al (by assumption))); clear hb1) | (go_at_call 10; with_reducible refine (hV.at).mono ?_; rintro e w1 ⟨rfl, hb1⟩; have := rowD_call hb1 (show rowD _ (w.heap.size) = some (dcs n) by first | assumption | (simp [rowD_alloc, objRow_dcs, rowD_drew, n2, n3, m2, m3]; done) | (simp [rowD_drew, rowD_alloc, n2, n3, m2, m3, objRow_dcs, objRow_lit, rowD_putc, rowD_other, putD_size, okC_dcs, okC_lit, one_b, one_i, one_s, *]; done)); have := cell_call (a := ⟨w.heap.size + 1, 0, none⟩) (v := .int .i64 p.k) hb1 (by first | assumption | (simp; done) | (simp [*]; done)); have := cell_call (a := ⟨w.heap.size + 1, 1, none⟩) (v := .int .i64 p.n) hb1 (by first | assumption | (simp; done) | (simp [*]; done)); have := cell_call (a := ⟨w.heap.size + 1, 2, none⟩) (v := .string p.s) hb1 (by first | assumption | (simp; done) | (simp [*]; done)); have hbw : Below w.heap.size w w1 := bel_keep hb1 (by first | exact (by assumption) | exact two_bels _ _ _ | exact ball _ _ | exact bel_al (by assumption) | exact bel_drew (by assumption) | exact bel_drew (two_bels _ _ _) | exact three_bels _ _ _ _ | exact bel_al (bel_al (by assumption))); clear hb1))
    all_goals
      go_ret
      exact ⟨by first | rfl | (simp [*]; done), by first | exact (by assumption) | exact two_bels _ _ _ | exact ball _ _ | exact bel_al (by assumption) | exact bel_drew (by assumption) | exact bel_drew (two_bels _ _ _) | exact three_bels _ _ _ _ | exact bel_al (bel_al (by assumption))⟩
set_option maxHeartbeats 8000000 in
set_option maxRecDepth 100000 in
theorem truth_d_false (x : Bool) (n : Ds) (p : Vl) (ao : Option Addr) (cap : Nat) (es : List En) (w : World) (fn : Fit n) (fp : p.s.size ≤ 2000000) (hle : (es.length : Int) ≤ 9223372036854775807) (hce : EsAt ao es w) (hfe : ∀ e ∈ es, Fine (ekey e)) (h2 : mayF n = true) (h3 : rvF p = true) (k1 : (p.k != 1) = true) (k2 : (p.k != 6) = true) : Calls Try.prog 5 #[.bool x, .bool false, DV n, VV p, .slice ao es.length cap] w fun e w' => e = .returned (.bool true) ∧ Below w.heap.size w w' := by
  have hM := may_is fn h2
  clear h2
  have hV := rvq_is fp h3
  clear h3
  have HCE := Lib.hid hce
  have HFE := Lib.hid hfe
  clear fn fp hce hfe
  go_enter Try.func5, Try.ntmps5
  go_wp2_with (go_at_call 9; refine (alive_any _).mono ?_; rintro e w1 ⟨rfl, hb1⟩; have := rowD_call hb1 (show rowD _ (w.heap.size) = some (dcs n) by first | assumption | (simp [rowD_alloc, objRow_dcs, rowD_drew, n2, n3, m2, m3]; done) | (simp [rowD_drew, rowD_alloc, n2, n3, m2, m3, objRow_dcs, objRow_lit, rowD_putc, rowD_other, putD_size, okC_dcs, okC_lit, one_b, one_i, one_s, *]; done)); have := cell_call (a := ⟨w.heap.size + 1, 0, none⟩) (v := .int .i64 p.k) hb1 (by first | assumption | (simp; done) | (simp [*]; done)); have := cell_call (a := ⟨w.heap.size + 1, 1, none⟩) (v := .int .i64 p.n) hb1 (by first | assumption | (simp; done) | (simp [*]; done)); have := cell_call (a := ⟨w.heap.size + 1, 2, none⟩) (v := .string p.s) hb1 (by first | assumption | (simp; done) | (simp [*]; done)); have hbw : Below w.heap.size w w1 := bel_keep hb1 (by first | exact (by assumption) | exact two_bels _ _ _ | exact ball _ _ | exact bel_al (by assumption) | exact bel_drew (by assumption) | exact bel_drew (two_bels _ _ _) | exact three_bels _ _ _ _ | exact bel_al (bel_al (by assumption))); clear hb1; refine Hid.out ?_)
  refine Lib.hid ?_
  have hbg : Calls Try.prog 25 #[.slice ao es.length cap] w1 (BigPost es w1) := big_any ao cap es w1 hle (HCE.out.below hbw)
  go_wp2_with (go_at_call 25; (with_reducible refine Calls.mono hbg ?_); rintro x w1' ⟨bg, rfl, hbg2, rfl⟩; refine Hid.out ?_)
  refine Lib.hid ?_
  clear hbg
  cases hbv : bg with
  | true =>
    clear hbg2
    subst hbv
    go_wp2
    go_ret
    exact ⟨rfl, hbw⟩
  | false =>
    have h60 := (hbg2 hbv).1
    clear hbg2
    subst hbv
    go_wp2_with (first | (go_at_call 16; with_reducible refine (hM.at).mono ?_; rintro e w1 ⟨rfl, hb1⟩; have := rowD_call hb1 (show rowD _ (w.heap.size) = some (dcs n) by first | assumption | (simp [rowD_alloc, objRow_dcs, rowD_drew, n2, n3, m2, m3]; done) | (simp [rowD_drew, rowD_alloc, n2, n3, m2, m3, objRow_dcs, objRow_lit, rowD_putc, rowD_other, putD_size, okC_dcs, okC_lit, one_b, one_i, one_s, *]; done)); have := cell_call (a := ⟨w.heap.size + 1, 0, none⟩) (v := .int .i64 p.k) hb1 (by first | assumption | (simp; done) | (simp [*]; done)); have := cell_call (a := ⟨w.heap.size + 1, 1, none⟩) (v := .int .i64 p.n) hb1 (by first | assumption | (simp; done) | (simp [*]; done)); have := cell_call (a := ⟨w.heap.size + 1, 2, none⟩) (v := .string p.s) hb1 (by first | assumption | (simp; done) | (simp [*]; done)); have hbw : Below w.heap.size w w1 := bel_keep hb1 (by first | exact (by assumption) | exact two_bels _ _ _ | exact ball _ _ | exact bel_al (by assumption) | exact bel_drew (by assumption) | exact bel_drew (two_bels _ _ _) | exact three_bels _ _ _ _ | exact bel_al (bel_al (by assumption))); clear hb1) | (go_at_call 10; with_reducible refine (hV.at).mono ?_; rintro e w1 ⟨rfl, hb1⟩; have := rowD_call hb1 (show rowD _ (w.heap.size) = some (dcs n) by first | assumption | (simp [rowD_alloc, objRow_dcs, rowD_drew, n2, n3, m2, m3]; done) | (simp [rowD_drew, rowD_alloc, n2, n3, m2, m3, objRow_dcs, objRow_lit, rowD_putc, rowD_other, putD_size, okC_dcs, okC_lit, one_b, one_i, one_s, *]; done)); have := cell_call (a := ⟨w.heap.size + 1, 0, none⟩) (v := .int .i64 p.k) hb1 (by first | assumption | (simp; done) | (simp [*]; done)); have := cell_call (a := ⟨w.heap.size + 1, 1, none⟩) (v := .int .i64 p.n) hb1 (by first | assumption | (simp; done) | (simp [*]; done)); have := cell_call (a := ⟨w.heap.size + 1, 2, none⟩) (v := .string p.s) hb1 (by first | assumption | (simp; done) | (simp [*]; done)); have hbw : Below w.heap.size w w1 := bel_keep hb1 (by first | exact (by assumption) | exact two_bels _ _ _ | exact ball _ _ | exact bel_al (by assumption) | exact bel_drew (by assumption) | exact bel_drew (two_bels _ _ _) | exact three_bels _ _ _ _ | exact bel_al (bel_al (by assumption))); clear hb1))
    all_goals
      go_ret
      exact ⟨by first | rfl | (simp [*]; done), by first | exact (by assumption) | exact two_bels _ _ _ | exact ball _ _ | exact bel_al (by assumption) | exact bel_drew (by assumption) | exact bel_drew (two_bels _ _ _) | exact three_bels _ _ _ _ | exact bel_al (bel_al (by assumption))⟩
end Go.Proofs.Ytlpfdhmifcmhaaa.Des
