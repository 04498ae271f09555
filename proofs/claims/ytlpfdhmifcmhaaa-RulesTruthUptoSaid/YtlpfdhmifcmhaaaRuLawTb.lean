/-
  The walk of RulesTruth: the ways that collect the keys.
-/
import Derived.Test.YtlpfdhmifcmhaaaRuTruth
namespace Go.Proofs.Ytlpfdhmifcmhaaa.Des
open Go Go.RowKit Go.Maps Go.Proofs.Ytlpfdhmifcmhaaa.Vals Go.Proofs.Ytlpfdhmifcmhaaa.Keys Go.Proofs.Ytlpfdhmifcmhaaa.Arrs
set_option linter.unusedVariables false
set_option linter.unusedSimpArgs false
attribute [local go_sem ↓] to_ldD to_stD run_eqD run_eqV0 to_ldE to_alE to_stE run_eqK
attribute [local go_sem] n2 n3 m2 m3 rowD_drew rowD_drewN rowD_alloc rowD_putc rowD_other putD_drew putD_drewN putD_size putD_alloc setObj_cells run_ldD run_stD okC_dcs okC_lit objRow_dcs one_b one_i one_s objRow_lit dcs_0 dcs_1 dcs_2 dcs_3 dcs_4 dcs_5 dcs_6 dcs_7 dcs_8 dcs_9 dcs_10 dcs_11 dcs_12 dcs_13 dcs_14 dcs_15 dcs_16 dcs_17
attribute [local go_sem low] cell_rowD
attribute [local irreducible] ecs zer
attribute [local go_sem] run_alE run_stE ecs_0 ecs_1 ecs_10 ecs_19
attribute [local go_sem] eqV_refl eqD_refl

def ProtoIs (x : Bool) (t o : Vl) (b : Bool) : Prop := ∀ w, Calls Try.prog 11 #[.bool x, VV t, VV o] w fun e w' => e = .returned (.bool b) ∧ Below w.heap.size w w'
theorem ProtoIs.at {x : Bool} {t o : Vl} {b : Bool} (h : ProtoIs x t o b) {w : World} : Calls Try.prog 11 #[.bool x, VV t, VV o] w fun e w' => e = .returned (.bool b) ∧ Below w.heap.size w w' := h w
theorem proto_self (x : Bool) {p : Vl} (h : p.k = 1 ∨ p.k = 6) : ProtoIs x p p true := fun w => by
  have e : protoF x p p = true := by rcases h with h | h <;> simp [protoF, objF, h, eqV_refl]
  exact e ▸ proto_any x p p w
set_option maxHeartbeats 8000000 in
set_option maxRecDepth 100000 in
theorem truth_e0 (x : Bool) (n : Ds) (p : Vl) (ao : Option Addr) (cap : Nat) (es : List En) (w : World) (fn : Fit n) (fp : p.s.size ≤ 2000000) (hle : (es.length : Int) ≤ 9223372036854775807) (hce : EsAt ao es w) (hfe : ∀ e ∈ es, Fine (ekey e)) (h2 : mayF n = true) (h3 : rvF p = true) (k1 : (p.k != 1) = false) : Calls Try.prog 5 #[.bool x, .bool false, DV n, VV p, .slice ao es.length cap] w fun e w' => e = .returned (.bool true) ∧ Below w.heap.size w w' := by
  obtain ⟨i26, hi26, hz260, hz261, hz262⟩ := info_parts info26
  have hM := may_is fn h2
  clear h2
  have hV := rvq_is fp h3
  clear h3
  have hP := proto_self x (p := p) (by left; simpa using k1)
  have hO := own_is (x := x) (h := false) (n := n) (t := false) (d := n) (b := true) (by simp [ownF, missF])
  have hH := miss_is (x := x) (h := false) (d := n) (b := true) (by simp [missF])
  have HCE := Lib.hid hce
  have HFE := Lib.hid hfe
  clear fn fp hce hfe
  go_enter Try.func5, Try.ntmps5
  go_wp2_with (go_at_call 9; refine (alive_any _).mono ?_; rintro e w1 ⟨rfl, hb1⟩; have := rowD_call hb1 (show rowD _ (w.heap.size) = some (dcs n) by first | assumption | (simp [rowD_alloc, objRow_dcs, rowD_drew, n2, n3, m2, m3]; done) | (simp [rowD_drew, rowD_alloc, n2, n3, m2, m3, objRow_dcs, objRow_lit, rowD_putc, rowD_other, putD_size, okC_dcs, okC_lit, one_b, one_i, one_s, *]; done)); have := cell_call (a := ⟨w.heap.size + 1, 0, none⟩) (v := .int .i64 p.k) hb1 (by first | assumption | (simp; done) | (simp [*]; done)); have := cell_call (a := ⟨w.heap.size + 1, 1, none⟩) (v := .int .i64 p.n) hb1 (by first | assumption | (simp; done) | (simp [*]; done)); have := cell_call (a := ⟨w.heap.size + 1, 2, none⟩) (v := .string p.s) hb1 (by first | assumption | (simp; done) | (simp [*]; done)); have hbw : Below w.heap.size w w1 := bel_keep hb1 (by first | exact (by assumption) | exact two_bels _ _ _ | exact ball _ _ | exact bel_al (by assumption) | exact bel_drew (by assumption) | exact bel_drew (two_bels _ _ _) | exact three_bels _ _ _ _ | exact bel_al (bel_al (by assumption))); clear hb1; refine Hid.out ?_)
  refine Lib.hid ?_
  have hbg : Calls Try.prog 25 #[.slice ao es.length cap] w1 (BigPost es w1) := big_any ao cap es w1 hle (HCE.out.below hbw)
  go_wp2_with (go_at_call 25; (with_reducible refine Calls.mono hbg ?_); rintro x w1' ⟨bg, rfl, hbg2, rfl⟩; refine Hid.out ?_)
  refine Lib.hid ?_
  clear hbg
  cases hbv : bg with
  | true =>
    clear hbg2
    subst hbv
    go_wp2
    go_ret
    exact ⟨rfl, hbw⟩
  | false =>
    have h60 := (hbg2 hbv).1
    clear hbg2
    subst hbv
    go_wp2_with (first | (go_at_call 16; with_reducible refine (hM.at).mono ?_; rintro e w1 ⟨rfl, hb1⟩; have := rowD_call hb1 (show rowD _ (w.heap.size) = some (dcs n) by first | assumption | (simp [rowD_alloc, objRow_dcs, rowD_drew, n2, n3, m2, m3]; done) | (simp [rowD_drew, rowD_alloc, n2, n3, m2, m3, objRow_dcs, objRow_lit, rowD_putc, rowD_other, putD_size, okC_dcs, okC_lit, one_b, one_i, one_s, *]; done)); have := cell_call (a := ⟨w.heap.size + 1, 0, none⟩) (v := .int .i64 p.k) hb1 (by first | assumption | (simp; done) | (simp [*]; done)); have := cell_call (a := ⟨w.heap.size + 1, 1, none⟩) (v := .int .i64 p.n) hb1 (by first | assumption | (simp; done) | (simp [*]; done)); have := cell_call (a := ⟨w.heap.size + 1, 2, none⟩) (v := .string p.s) hb1 (by first | assumption | (simp; done) | (simp [*]; done)); have hbw : Below w.heap.size w w1 := bel_keep hb1 (by first | exact (by assumption) | exact two_bels _ _ _ | exact ball _ _ | exact bel_al (by assumption) | exact bel_drew (by assumption) | exact bel_drew (two_bels _ _ _) | exact three_bels _ _ _ _ | exact bel_al (bel_al (by assumption))); clear hb1) | (go_at_call 10; with_reducible refine (hV.at).mono ?_; rintro e w1 ⟨rfl, hb1⟩; have := rowD_call hb1 (show rowD _ (w.heap.size) = some (dcs n) by first | assumption | (simp [rowD_alloc, objRow_dcs, rowD_drew, n2, n3, m2, m3]; done) | (simp [rowD_drew, rowD_alloc, n2, n3, m2, m3, objRow_dcs, objRow_lit, rowD_putc, rowD_other, putD_size, okC_dcs, okC_lit, one_b, one_i, one_s, *]; done)); have := cell_call (a := ⟨w.heap.size + 1, 0, none⟩) (v := .int .i64 p.k) hb1 (by first | assumption | (simp; done) | (simp [*]; done)); have := cell_call (a := ⟨w.heap.size + 1, 1, none⟩) (v := .int .i64 p.n) hb1 (by first | assumption | (simp; done) | (simp [*]; done)); have := cell_call (a := ⟨w.heap.size + 1, 2, none⟩) (v := .string p.s) hb1 (by first | assumption | (simp; done) | (simp [*]; done)); have hbw : Below w.heap.size w w1 := bel_keep hb1 (by first | exact (by assumption) | exact two_bels _ _ _ | exact ball _ _ | exact bel_al (by assumption) | exact bel_drew (by assumption) | exact bel_drew (two_bels _ _ _) | exact three_bels _ _ _ _ | exact bel_al (bel_al (by assumption))); clear hb1) | (go_at_call 11; with_reducible refine (hP.at).mono ?_; rintro e w1 ⟨rfl, hb1⟩; have := rowD_call hb1 (show rowD _ (w.heap.size) = some (dcs n) by first | assumption | (simp [rowD_alloc, objRow_dcs, rowD_drew, n2, n3, m2, m3]; done) | (simp [rowD_drew, rowD_alloc, n2, n3, m2, m3, objRow_dcs, objRow_lit, rowD_putc, rowD_other, putD_size, okC_dcs, okC_lit, one_b, one_i, one_s, *]; done)); have := cell_call (a := ⟨w.heap.size + 1, 0, none⟩) (v := .int .i64 p.k) hb1 (by first | assumption | (simp; done) | (simp [*]; done)); have := cell_call (a := ⟨w.heap.size + 1, 1, none⟩) (v := .int .i64 p.n) hb1 (by first | assumption | (simp; done) | (simp [*]; done)); have := cell_call (a := ⟨w.heap.size + 1, 2, none⟩) (v := .string p.s) hb1 (by first | assumption | (simp; done) | (simp [*]; done)); have hbw : Below w.heap.size w w1 := bel_keep hb1 (by first | exact (by assumption) | exact two_bels _ _ _ | exact ball _ _ | exact bel_al (by assumption) | exact bel_drew (by assumption) | exact bel_drew (two_bels _ _ _) | exact three_bels _ _ _ _ | exact bel_al (bel_al (by assumption))); clear hb1) | (go_at_call 26; with_reducible refine (hO.at).mono ?_; rintro e w1 ⟨rfl, hb1⟩; have := rowD_call hb1 (show rowD _ (w.heap.size) = some (dcs n) by first | assumption | (simp [rowD_alloc, objRow_dcs, rowD_drew, n2, n3, m2, m3]; done) | (simp [rowD_drew, rowD_alloc, n2, n3, m2, m3, objRow_dcs, objRow_lit, rowD_putc, rowD_other, putD_size, okC_dcs, okC_lit, one_b, one_i, one_s, *]; done)); have := cell_call (a := ⟨w.heap.size + 1, 0, none⟩) (v := .int .i64 p.k) hb1 (by first | assumption | (simp; done) | (simp [*]; done)); have := cell_call (a := ⟨w.heap.size + 1, 1, none⟩) (v := .int .i64 p.n) hb1 (by first | assumption | (simp; done) | (simp [*]; done)); have := cell_call (a := ⟨w.heap.size + 1, 2, none⟩) (v := .string p.s) hb1 (by first | assumption | (simp; done) | (simp [*]; done)); have hbw : Below w.heap.size w w1 := bel_keep hb1 (by first | exact (by assumption) | exact two_bels _ _ _ | exact ball _ _ | exact bel_al (by assumption) | exact bel_drew (by assumption) | exact bel_drew (two_bels _ _ _) | exact three_bels _ _ _ _ | exact bel_al (bel_al (by assumption))); clear hb1) | (go_at_call 17; with_reducible refine (hH.at).mono ?_; rintro e w1 ⟨rfl, hb1⟩; have := rowD_call hb1 (show rowD _ (w.heap.size) = some (dcs n) by first | assumption | (simp [rowD_alloc, objRow_dcs, rowD_drew, n2, n3, m2, m3]; done) | (simp [rowD_drew, rowD_alloc, n2, n3, m2, m3, objRow_dcs, objRow_lit, rowD_putc, rowD_other, putD_size, okC_dcs, okC_lit, one_b, one_i, one_s, *]; done)); have := cell_call (a := ⟨w.heap.size + 1, 0, none⟩) (v := .int .i64 p.k) hb1 (by first | assumption | (simp; done) | (simp [*]; done)); have := cell_call (a := ⟨w.heap.size + 1, 1, none⟩) (v := .int .i64 p.n) hb1 (by first | assumption | (simp; done) | (simp [*]; done)); have := cell_call (a := ⟨w.heap.size + 1, 2, none⟩) (v := .string p.s) hb1 (by first | assumption | (simp; done) | (simp [*]; done)); have hbw : Below w.heap.size w w1 := bel_keep hb1 (by first | exact (by assumption) | exact two_bels _ _ _ | exact ball _ _ | exact bel_al (by assumption) | exact bel_drew (by assumption) | exact bel_drew (two_bels _ _ _) | exact three_bels _ _ _ _ | exact bel_al (bel_al (by assumption))); clear hb1))
    go_loopw [13, 14] (fun v i wr => ∃ j : Nat, j ≤ es.length ∧ i = .int .i64 j ∧ TInv w es j v wr) (fun _ i _ => es.length - (intOf i).toNat)
    case atStart => exact ⟨0, Nat.zero_le _, rfl, TInv.start (by assumption)⟩
    case round =>
      clear hbw
      obtain ⟨j, hj, rfl, hinv⟩ := hrel
      obtain ⟨a, c, rfl⟩ := own_shape hinv.own
      by_cases hlt : j < es.length
      · obtain ⟨e, he⟩ : ∃ e, es[j]? = some e := ⟨es[j], by simp [hlt]⟩
        have hlt2 : (j : Int) < es.length := by omega
        obtain ⟨b, off, rfl, hb, hat⟩ := (HCE.out.below hinv.below) j e he
        have d0 := enAt_cell hat 0 _ (ecs_0 e)
        have d1 := enAt_cell hat 1 _ (ecs_1 e)
        rw [Nat.add_zero] at d0
        have HE := Lib.hid he
        clear he hat hb
        cases hmb : memb (ekey e) ((es.take j).map ekey)
        · have hKD : KeyedIs wr (.slice a j c) (e.ks, e.kn) false := hinv.keyed hj h60 (ekey e) hmb
          have HMB := Lib.hid hmb
          clear hmb
          go_wp2_with (go_at_call 28; with_reducible refine (hKD.at (Below.refl _ _)).mono ?_; rintro y w2 ⟨rfl, hb2⟩; refine Hid.out ?_)
          refine Lib.hid ?_
          have c0 := cell_call hb2 d0
          have c1 := cell_call hb2 d1
          have hinv2 := hinv.call hb2
          have hr := hinv2.own
          have hws := hinv2.below.size
          clear d0 d1 hinv hb2 hKD
          go_wp2_with (at_builtin; refine wpList_append_own _ rfl _ _ 36 rfl w.heap.size 39 i26 (.agg #[.string ⟨#[]⟩, .int .i64 0]) 2 24 Try.underlying36 hi26 hz260 hz261 hz262 rfl (by decide) _ _ _ rfl (hr.alloc _) ⟨w2.heap.size, 0, none⟩ 1 1 [.string e.ks, .int .i64 e.kn] rfl rfl (two_new _ _ _ _) (two_cells _ _) (by unfold maxLen; omega) (by omega) (size_alloc_le _ hws) ?_; intro v' w3 hown3 hgrow3 _)
          have hinv' := hinv2.push HE.out HMB.out hown3 hgrow3
          clear hown3 hgrow3 hinv2 hr
          go_wp2
          go_roundw
          case rel => exact ⟨j + 1, by omega, by go_num, hinv'⟩
          case measure => simp [intOf]; omega
        · have hKD : KeyedIs wr (.slice a j c) (e.ks, e.kn) true := hinv.keyed hj h60 (ekey e) hmb
          clear hmb
          go_wp2_with (go_at_call 28; with_reducible refine (hKD.at (Below.refl _ _)).mono ?_; rintro y w2 ⟨rfl, hb2⟩)
          go_ret
          exact ⟨rfl, bel_keep hb2 hinv.below⟩
      · obtain rfl : j = es.length := by omega
        clear hlt hj
        have hKI : KeysIs wr x (.slice ao es.length cap) (.slice a es.length c) true := hinv.done x h60 (HCE.out.below hinv.below) HFE.out
        have hbx := hinv.below
        clear hinv
        go_wp2_with (go_at_call 29; with_reducible refine (hKI.at (Below.refl _ _)).mono ?_; rintro y w9 ⟨rfl, hb9⟩)
        go_ret
        exact ⟨rfl, bel_keep hb9 hbx⟩
set_option maxHeartbeats 8000000 in
set_option maxRecDepth 100000 in
theorem truth_e1 (x : Bool) (n : Ds) (p : Vl) (ao : Option Addr) (cap : Nat) (es : List En) (w : World) (fn : Fit n) (fp : p.s.size ≤ 2000000) (hle : (es.length : Int) ≤ 9223372036854775807) (hce : EsAt ao es w) (hfe : ∀ e ∈ es, Fine (ekey e)) (h2 : mayF n = true) (h3 : rvF p = true) (k1 : (p.k != 1) = true) (k2 : (p.k != 6) = false) : Calls Try.prog 5 #[.bool x, .bool false, DV n, VV p, .slice ao es.length cap] w fun e w' => e = .returned (.bool true) ∧ Below w.heap.size w w' := by
  obtain ⟨i26, hi26, hz260, hz261, hz262⟩ := info_parts info26
  have hM := may_is fn h2
  clear h2
  have hV := rvq_is fp h3
  clear h3
  have hP := proto_self x (p := p) (by right; simpa using k2)
  have hO := own_is (x := x) (h := false) (n := n) (t := false) (d := n) (b := true) (by simp [ownF, missF])
  have hH := miss_is (x := x) (h := false) (d := n) (b := true) (by simp [missF])
  have HCE := Lib.hid hce
  have HFE := Lib.hid hfe
  clear fn fp hce hfe
  go_enter Try.func5, Try.ntmps5
  go_wp2_with (go_at_call 9; refine (alive_any _).mono ?_; rintro e w1 ⟨rfl, hb1⟩; have := rowD_call hb1 (show rowD _ (w.heap.size) = some (dcs n) by first | assumption | (simp [rowD_alloc, objRow_dcs, rowD_drew, n2, n3, m2, m3]; done) | (simp [rowD_drew, rowD_alloc, n2, n3, m2, m3, objRow_dcs, objRow_lit, rowD_putc, rowD_other, putD_size, okC_dcs, okC_lit, one_b, one_i, one_s, *]; done)); have := cell_call (a := ⟨w.heap.size + 1, 0, none⟩) (v := .int .i64 p.k) hb1 (by first | assumption | (simp; done) | (simp [*]; done)); have := cell_call (a := ⟨w.heap.size + 1, 1, none⟩) (v := .int .i64 p.n) hb1 (by first | assumption | (simp; done) | (simp [*]; done)); have := cell_call (a := ⟨w.heap.size + 1, 2, none⟩) (v := .string p.s) hb1 (by first | assumption | (simp; done) | (simp [*]; done)); have hbw : Below w.heap.size w w1 := bel_keep hb1 (by first | exact (by assumption) | exact two_bels _ _ _ | exact ball _ _ | exact bel_al (by assumption) | exact bel_drew (by assumption) | exact bel_drew (two_bels _ _ _) | exact three_bels _ _ _ _ | exact bel_al (bel_al (by assumption))); clear hb1; refine Hid.out ?_)
  refine Lib.hid ?_
  have hbg : Calls Try.prog 25 #[.slice ao es.length cap] w1 (BigPost es w1) := big_any ao cap es w1 hle (HCE.out.below hbw)
  go_wp2_with (go_at_call 25; (with_reducible refine Calls.mono hbg ?_); rintro x w1' ⟨bg, rfl, hbg2, rfl⟩; refine Hid.out ?_)
  refine Lib.hid ?_
  clear hbg
  cases hbv : bg with
  | true =>
    clear hbg2
    subst hbv
    go_wp2
    go_ret
    exact ⟨rfl, hbw⟩
  | false =>
    have h60 := (hbg2 hbv).1
    clear hbg2
    subst hbv
    go_wp2_with (first | (go_at_call 16; with_reducible refine (hM.at).mono ?_; rintro e w1 ⟨rfl, hb1⟩; have := rowD_call hb1 (show rowD _ (w.heap.size) = some (dcs n) by first | assumption | (simp [rowD_alloc, objRow_dcs, rowD_drew, n2, n3, m2, m3]; done) | (simp [rowD_drew, rowD_alloc, n2, n3, m2, m3, objRow_dcs, objRow_lit, rowD_putc, rowD_other, putD_size, okC_dcs, okC_lit, one_b, one_i, one_s, *]; done)); have := cell_call (a := ⟨w.heap.size + 1, 0, none⟩) (v := .int .i64 p.k) hb1 (by first | assumption | (simp; done) | (simp [*]; done)); have := cell_call (a := ⟨w.heap.size + 1, 1, none⟩) (v := .int .i64 p.n) hb1 (by first | assumption | (simp; done) | (simp [*]; done)); have := cell_call (a := ⟨w.heap.size + 1, 2, none⟩) (v := .string p.s) hb1 (by first | assumption | (simp; done) | (simp [*]; done)); have hbw : Below w.heap.size w w1 := bel_keep hb1 (by first | exact (by assumption) | exact two_bels _ _ _ | exact ball _ _ | exact bel_al (by assumption) | exact bel_drew (by assumption) | exact bel_drew (two_bels _ _ _) | exact three_bels _ _ _ _ | exact bel_al (bel_al (by assumption))); clear hb1) | (go_at_call 10; with_reducible refine (hV.at).mono ?_; rintro e w1 ⟨rfl, hb1⟩; have := rowD_call hb1 (show rowD _ (w.heap.size) = some (dcs n) by first | assumption | (simp [rowD_alloc, objRow_dcs, rowD_drew, n2, n3, m2, m3]; done) | (simp [rowD_drew, rowD_alloc, n2, n3, m2, m3, objRow_dcs, objRow_lit, rowD_putc, rowD_other, putD_size, okC_dcs, okC_lit, one_b, one_i, one_s, *]; done)); have := cell_call (a := ⟨w.heap.size + 1, 0, none⟩) (v := .int .i64 p.k) hb1 (by first | assumption | (simp; done) | (simp [*]; done)); have := cell_call (a := ⟨w.heap.size + 1, 1, none⟩) (v := .int .i64 p.n) hb1 (by first | assumption | (simp; done) | (simp [*]; done)); have := cell_call (a := ⟨w.heap.size + 1, 2, none⟩) (v := .string p.s) hb1 (by first | assumption | (simp; done) | (simp [*]; done)); have hbw : Below w.heap.size w w1 := bel_keep hb1 (by first | exact (by assumption) | exact two_bels _ _ _ | exact ball _ _ | exact bel_al (by assumption) | exact bel_drew (by assumption) | exact bel_drew (two_bels _ _ _) | exact three_bels _ _ _ _ | exact bel_al (bel_al (by assumption))); clear hb1) | (go_at_call 11; with_reducible refine (hP.at).mono ?_; rintro e w1 ⟨rfl, hb1⟩; have := rowD_call hb1 (show rowD _ (w.heap.size) = some (dcs n) by first | assumption | (simp [rowD_alloc, objRow_dcs, rowD_drew, n2, n3, m2, m3]; done) | (simp [rowD_drew, rowD_alloc, n2, n3, m2, m3, objRow_dcs, objRow_lit, rowD_putc, rowD_other, putD_size, okC_dcs, okC_lit, one_b, one_i, one_s, *]; done)); have := cell_call (a := ⟨w.heap.size + 1, 0, none⟩) (v := .int .i64 p.k) hb1 (by first | assumption | (simp; done) | (simp [*]; done)); have := cell_call (a := ⟨w.heap.size + 1, 1, none⟩) (v := .int .i64 p.n) hb1 (by first | assumption | (simp; done) | (simp [*]; done)); have := cell_call (a := ⟨w.heap.size + 1, 2, none⟩) (v := .string p.s) hb1 (by first | assumption | (simp; done) | (simp [*]; done)); have hbw : Below w.heap.size w w1 := bel_keep hb1 (by first | exact (by assumption) | exact two_bels _ _ _ | exact ball _ _ | exact bel_al (by assumption) | exact bel_drew (by assumption) | exact bel_drew (two_bels _ _ _) | exact three_bels _ _ _ _ | exact bel_al (bel_al (by assumption))); clear hb1) | (go_at_call 26; with_reducible refine (hO.at).mono ?_; rintro e w1 ⟨rfl, hb1⟩; have := rowD_call hb1 (show rowD _ (w.heap.size) = some (dcs n) by first | assumption | (simp [rowD_alloc, objRow_dcs, rowD_drew, n2, n3, m2, m3]; done) | (simp [rowD_drew, rowD_alloc, n2, n3, m2, m3, objRow_dcs, objRow_lit, rowD_putc, rowD_other, putD_size, okC_dcs, okC_lit, one_b, one_i, one_s, *]; done)); have := cell_call (a := ⟨w.heap.size + 1, 0, none⟩) (v := .int .i64 p.k) hb1 (by first | assumption | (simp; done) | (simp [*]; done)); have := cell_call (a := ⟨w.heap.size + 1, 1, none⟩) (v := .int .i64 p.n) hb1 (by first | assumption | (simp; done) | (simp [*]; done)); have := cell_call (a := ⟨w.heap.size + 1, 2, none⟩) (v := .string p.s) hb1 (by first | assumption | (simp; done) | (simp [*]; done)); have hbw : Below w.heap.size w w1 := bel_keep hb1 (by first | exact (by assumption) | exact two_bels _ _ _ | exact ball _ _ | exact bel_al (by assumption) | exact bel_drew (by assumption) | exact bel_drew (two_bels _ _ _) | exact three_bels _ _ _ _ | exact bel_al (bel_al (by assumption))); clear hb1) | (go_at_call 17; with_reducible refine (hH.at).mono ?_; rintro e w1 ⟨rfl, hb1⟩; have := rowD_call hb1 (show rowD _ (w.heap.size) = some (dcs n) by first | assumption | (simp [rowD_alloc, objRow_dcs, rowD_drew, n2, n3, m2, m3]; done) | (simp [rowD_drew, rowD_alloc, n2, n3, m2, m3, objRow_dcs, objRow_lit, rowD_putc, rowD_other, putD_size, okC_dcs, okC_lit, one_b, one_i, one_s, *]; done)); have := cell_call (a := ⟨w.heap.size + 1, 0, none⟩) (v := .int .i64 p.k) hb1 (by first | assumption | (simp; done) | (simp [*]; done)); have := cell_call (a := ⟨w.heap.size + 1, 1, none⟩) (v := .int .i64 p.n) hb1 (by first | assumption | (simp; done) | (simp [*]; done)); have := cell_call (a := ⟨w.heap.size + 1, 2, none⟩) (v := .string p.s) hb1 (by first | assumption | (simp; done) | (simp [*]; done)); have hbw : Below w.heap.size w w1 := bel_keep hb1 (by first | exact (by assumption) | exact two_bels _ _ _ | exact ball _ _ | exact bel_al (by assumption) | exact bel_drew (by assumption) | exact bel_drew (two_bels _ _ _) | exact three_bels _ _ _ _ | exact bel_al (bel_al (by assumption))); clear hb1))
    go_loopw [13, 14] (fun v i wr => ∃ j : Nat, j ≤ es.length ∧ i = .int .i64 j ∧ TInv w es j v wr) (fun _ i _ => es.length - (intOf i).toNat)
    case atStart => exact ⟨0, Nat.zero_le _, rfl, TInv.start (by assumption)⟩
    case round =>
      clear hbw
      obtain ⟨j, hj, rfl, hinv⟩ := hrel
      obtain ⟨a, c, rfl⟩ := own_shape hinv.own
      by_cases hlt : j < es.length
      · obtain ⟨e, he⟩ : ∃ e, es[j]? = some e := ⟨es[j], by simp [hlt]⟩
        have hlt2 : (j : Int) < es.length := by omega
        obtain ⟨b, off, rfl, hb, hat⟩ := (HCE.out.below hinv.below) j e he
        have d0 := enAt_cell hat 0 _ (ecs_0 e)
        have d1 := enAt_cell hat 1 _ (ecs_1 e)
        rw [Nat.add_zero] at d0
        have HE := Lib.hid he
        clear he hat hb
        cases hmb : memb (ekey e) ((es.take j).map ekey)
        · have hKD : KeyedIs wr (.slice a j c) (e.ks, e.kn) false := hinv.keyed hj h60 (ekey e) hmb
          have HMB := Lib.hid hmb
          clear hmb
          go_wp2_with (go_at_call 28; with_reducible refine (hKD.at (Below.refl _ _)).mono ?_; rintro y w2 ⟨rfl, hb2⟩; refine Hid.out ?_)
          refine Lib.hid ?_
          have c0 := cell_call hb2 d0
          have c1 := cell_call hb2 d1
          have hinv2 := hinv.call hb2
          have hr := hinv2.own
          have hws := hinv2.below.size
          clear d0 d1 hinv hb2 hKD
          go_wp2_with (at_builtin; refine wpList_append_own _ rfl _ _ 36 rfl w.heap.size 39 i26 (.agg #[.string ⟨#[]⟩, .int .i64 0]) 2 24 Try.underlying36 hi26 hz260 hz261 hz262 rfl (by decide) _ _ _ rfl (hr.alloc _) ⟨w2.heap.size, 0, none⟩ 1 1 [.string e.ks, .int .i64 e.kn] rfl rfl (two_new _ _ _ _) (two_cells _ _) (by unfold maxLen; omega) (by omega) (size_alloc_le _ hws) ?_; intro v' w3 hown3 hgrow3 _)
          have hinv' := hinv2.push HE.out HMB.out hown3 hgrow3
          clear hown3 hgrow3 hinv2 hr
          go_wp2
          go_roundw
          case rel => exact ⟨j + 1, by omega, by go_num, hinv'⟩
          case measure => simp [intOf]; omega
        · have hKD : KeyedIs wr (.slice a j c) (e.ks, e.kn) true := hinv.keyed hj h60 (ekey e) hmb
          clear hmb
          go_wp2_with (go_at_call 28; with_reducible refine (hKD.at (Below.refl _ _)).mono ?_; rintro y w2 ⟨rfl, hb2⟩)
          go_ret
          exact ⟨rfl, bel_keep hb2 hinv.below⟩
      · obtain rfl : j = es.length := by omega
        clear hlt hj
        have hKI : KeysIs wr x (.slice ao es.length cap) (.slice a es.length c) true := hinv.done x h60 (HCE.out.below hinv.below) HFE.out
        have hbx := hinv.below
        clear hinv
        go_wp2_with (go_at_call 29; with_reducible refine (hKI.at (Below.refl _ _)).mono ?_; rintro y w9 ⟨rfl, hb9⟩)
        go_ret
        exact ⟨rfl, bel_keep hb9 hbx⟩
end Go.Proofs.Ytlpfdhmifcmhaaa.Des
