/-
  The reference's statement, kind by kind.
-/
import Derived.Test.YtinoaajohkafmaaGreatMt09
namespace Go.Proofs.YtinoaajohkafmaaGreat.Pr
open Go Go.RowKit Go.Proofs.YtinoaajohkafmaaGreat.Pa Go.Proofs.YtinoaajohkafmaaGreat.Uni
open Go.Proofs.YtinoaajohkafmaaGreat.Lx
set_option linter.unusedVariables false
set_option linter.unusedSimpArgs false
theorem pure_rst_30 {n : Int} {tx : ByteArray} {ns : List ByteArray} {ks : List Tree}  : okT 83 (.mk 30 n tx ns ks) = (onlyV false true false n tx ns.length && (varB tx && (decide (ks.length ≤ 1) && allT 65 ks))) := by
  rw [tl_data_only]
  rcases ks with _ | ⟨a, _ | ⟨b, _ | ⟨c, _ | ⟨d, ks⟩⟩⟩⟩ <;> simp [okT, okKs, hereB, kindB, textB, namesB, numB, elseB, elseL, placesB, layB, exL, stL, funL, tryL, headK, emptyB, isUp, allT, up_app, up_list, up_rep, up_brace, Tree.kind, Tree.text, Tree.names, Tree.num, Tree.kids, propB, bin12L, binL] <;> grind
theorem pure_rst_31 {n : Int} {tx : ByteArray} {ns : List ByteArray} {ks : List Tree}  : okT 83 (.mk 31 n tx ns ks) = (onlyV false true false n tx ns.length && (varB tx && (decide (ks.length = 1) && allT 65 ks))) := by
  rw [tl_data_only]
  rcases ks with _ | ⟨a, _ | ⟨b, _ | ⟨c, _ | ⟨d, ks⟩⟩⟩⟩ <;> simp [okT, okKs, hereB, kindB, textB, namesB, numB, elseB, elseL, placesB, layB, exL, stL, funL, tryL, headK, emptyB, isUp, allT, up_app, up_list, up_rep, up_brace, Tree.kind, Tree.text, Tree.names, Tree.num, Tree.kids, propB, bin12L, binL] <;> grind
theorem pure_rst_33 {n : Int} {tx : ByteArray} {ns : List ByteArray} {ks : List Tree}  : okT 83 (.mk 33 n tx ns ks) = (onlyV false false false n tx ns.length && (decide (ks.length = 1) && allT 65 ks)) := by
  rw [tl_data_only]
  rcases ks with _ | ⟨a, _ | ⟨b, _ | ⟨c, _ | ⟨d, ks⟩⟩⟩⟩ <;> simp [okT, okKs, hereB, kindB, textB, namesB, numB, elseB, elseL, placesB, layB, exL, stL, funL, tryL, headK, emptyB, isUp, allT, up_app, up_list, up_rep, up_brace, Tree.kind, Tree.text, Tree.names, Tree.num, Tree.kids, propB, bin12L, binL] <;> grind
theorem pure_rst_37 {n : Int} {tx : ByteArray} {ns : List ByteArray} {ks : List Tree}  : okT 83 (.mk 37 n tx ns ks) = (onlyV false false false n tx ns.length && (decide (ks.length = 1) && allT 65 ks)) := by
  rw [tl_data_only]
  rcases ks with _ | ⟨a, _ | ⟨b, _ | ⟨c, _ | ⟨d, ks⟩⟩⟩⟩ <;> simp [okT, okKs, hereB, kindB, textB, namesB, numB, elseB, elseL, placesB, layB, exL, stL, funL, tryL, headK, emptyB, isUp, allT, up_app, up_list, up_rep, up_brace, Tree.kind, Tree.text, Tree.names, Tree.num, Tree.kids, propB, bin12L, binL] <;> grind
theorem pure_rst_36 {n : Int} {tx : ByteArray} {ns : List ByteArray} {ks : List Tree}  : okT 83 (.mk 36 n tx ns ks) = (onlyV false false false n tx ns.length && (decide (ks.length ≤ 1) && allT 65 ks)) := by
  rw [tl_data_only]
  rcases ks with _ | ⟨a, _ | ⟨b, _ | ⟨c, _ | ⟨d, ks⟩⟩⟩⟩ <;> simp [okT, okKs, hereB, kindB, textB, namesB, numB, elseB, elseL, placesB, layB, exL, stL, funL, tryL, headK, emptyB, isUp, allT, up_app, up_list, up_rep, up_brace, Tree.kind, Tree.text, Tree.names, Tree.num, Tree.kids, propB, bin12L, binL] <;> grind
theorem pure_rst_41 {n : Int} {tx : ByteArray} {ns : List ByteArray} {ks : List Tree}  : okT 83 (.mk 41 n tx ns ks) = (onlyV false false false n tx ns.length && decide (ks.length = 0)) := by
  rw [tl_data_only]
  rcases ks with _ | ⟨a, _ | ⟨b, _ | ⟨c, _ | ⟨d, ks⟩⟩⟩⟩ <;> simp [okT, okKs, hereB, kindB, textB, namesB, numB, elseB, elseL, placesB, layB, exL, stL, funL, tryL, headK, emptyB, isUp, allT, up_app, up_list, up_rep, up_brace, Tree.kind, Tree.text, Tree.names, Tree.num, Tree.kids, propB, bin12L, binL] <;> grind
theorem pure_rst_42 {n : Int} {tx : ByteArray} {ns : List ByteArray} {ks : List Tree}  : okT 83 (.mk 42 n tx ns ks) = (onlyV false false false n tx ns.length && decide (ks.length = 0)) := by
  rw [tl_data_only]
  rcases ks with _ | ⟨a, _ | ⟨b, _ | ⟨c, _ | ⟨d, ks⟩⟩⟩⟩ <;> simp [okT, okKs, hereB, kindB, textB, namesB, numB, elseB, elseL, placesB, layB, exL, stL, funL, tryL, headK, emptyB, isUp, allT, up_app, up_list, up_rep, up_brace, Tree.kind, Tree.text, Tree.names, Tree.num, Tree.kids, propB, bin12L, binL] <;> grind
theorem pure_rst_43 {n : Int} {tx : ByteArray} {ns : List ByteArray} {ks : List Tree}  : okT 83 (.mk 43 n tx ns ks) = (onlyV false false false n tx ns.length && decide (ks.length = 0)) := by
  rw [tl_data_only]
  rcases ks with _ | ⟨a, _ | ⟨b, _ | ⟨c, _ | ⟨d, ks⟩⟩⟩⟩ <;> simp [okT, okKs, hereB, kindB, textB, namesB, numB, elseB, elseL, placesB, layB, exL, stL, funL, tryL, headK, emptyB, isUp, allT, up_app, up_list, up_rep, up_brace, Tree.kind, Tree.text, Tree.names, Tree.num, Tree.kids, propB, bin12L, binL] <;> grind
theorem pure_rst_32n {n : Int} {tx : ByteArray} {ns : List ByteArray} {ks : List Tree} (hh : ks.length ≠ 1) : okT 83 (.mk 32 n tx ns ks) = (onlyV false false false n tx ns.length && decide (ks.length = 1)) := by
  rw [tl_data_only]
  rcases ks with _ | ⟨a, _ | ⟨b, _ | ⟨c, _ | ⟨d, ks⟩⟩⟩⟩ <;> simp [okT, okKs, hereB, kindB, textB, namesB, numB, elseB, elseL, placesB, layB, exL, stL, funL, tryL, headK, emptyB, isUp, allT, up_app, up_list, up_rep, up_brace, Tree.kind, Tree.text, Tree.names, Tree.num, Tree.kids, propB, bin12L, binL] <;> grind
theorem pure_rst_35n {n : Int} {tx : ByteArray} {ns : List ByteArray} {ks : List Tree} (hh : ks.length ≠ 2) : okT 83 (.mk 35 n tx ns ks) = (onlyV false false false n tx ns.length && decide (ks.length = 2)) := by
  rw [tl_data_only]
  rcases ks with _ | ⟨a, _ | ⟨b, _ | ⟨c, _ | ⟨d, ks⟩⟩⟩⟩ <;> simp [okT, okKs, hereB, kindB, textB, namesB, numB, elseB, elseL, placesB, layB, exL, stL, funL, tryL, headK, emptyB, isUp, allT, up_app, up_list, up_rep, up_brace, Tree.kind, Tree.text, Tree.names, Tree.num, Tree.kids, propB, bin12L, binL] <;> grind
theorem pure_rst_35 {n : Int} {tx : ByteArray} {ns : List ByteArray} {a b : Tree}  : okT 83 (.mk 35 n tx ns [a, b]) = (onlyV false false false n tx ns.length && (okT 65 a && okT 83 b)) := by
  rw [tl_data_only]
  simp [okT, okKs, hereB, kindB, textB, namesB, numB, elseB, elseL, placesB, layB, exL, stL, funL, tryL, headK, emptyB, isUp, allT, up_app, up_list, up_rep, up_brace, Tree.kind, Tree.text, Tree.names, Tree.num, Tree.kids, propB, bin12L, binL] <;> grind
theorem pure_rst_34b {n : Int} {tx : ByteArray} {ns : List ByteArray} {a b : Tree}  : okT 83 (.mk 34 n tx ns [a, b]) = (onlyV false false false n tx ns.length && (okT 65 a && allT 83 [b])) := by
  rw [tl_data_only]
  simp [okT, okKs, hereB, kindB, textB, namesB, numB, elseB, elseL, placesB, layB, exL, stL, funL, tryL, headK, emptyB, isUp, allT, up_app, up_list, up_rep, up_brace, Tree.kind, Tree.text, Tree.names, Tree.num, Tree.kids, propB, bin12L, binL] <;> grind
theorem pure_rst_34c {n : Int} {tx : ByteArray} {ns : List ByteArray} {a b c : Tree}  : okT 83 (.mk 34 n tx ns [a, b, c]) = (onlyV false false false n tx ns.length && (okT 65 a && (allT 83 [b, c] && (!openT b)))) := by
  rw [tl_data_only]
  simp [okT, okKs, hereB, kindB, textB, namesB, numB, elseB, elseL, placesB, layB, exL, stL, funL, tryL, headK, emptyB, isUp, allT, up_app, up_list, up_rep, up_brace, Tree.kind, Tree.text, Tree.names, Tree.num, Tree.kids, propB, bin12L, binL] <;> grind
theorem pure_rst_32 {n : Int} {tx : ByteArray} {ns : List ByteArray} {a : Tree}  : okT 83 (.mk 32 n tx ns [a]) = (onlyV false false false n tx ns.length && (funB a && varB a.text)) := by
  rw [tl_data_only]
  obtain ⟨k1, n1, t1, s1, ks1⟩ := a
  have h := okKs_rep 83 ks1
  by_cases hk : k1 = 14
  · subst hk
    simp [okT, okKs, hereB, kindB, textB, namesB, numB, elseB, elseL, placesB, layB, exL, stL, funL, tryL, headK, emptyB, isUp, allT, up_app, up_list, up_rep, up_brace, Tree.kind, Tree.text, Tree.names, Tree.num, Tree.kids, funB, h] <;> grind
  · simp [okT, okKs, hereB, kindB, textB, namesB, numB, elseB, elseL, placesB, layB, exL, stL, funL, tryL, headK, emptyB, isUp, allT, up_app, up_list, up_rep, up_brace, Tree.kind, Tree.text, Tree.names, Tree.num, Tree.kids, funB, h, hk]
attribute [local go_sem ↓] ldK stK alK bdK bsK ldN stN alN bdN bsN bs_un3 bs_bin12
attribute [local irreducible] kcs ncs ncells un3_cs bin12_cs
attribute [local go_sem] run_alN run_stNg run_ldNg run_bdN0 run_un3 run_bin12
set_option maxRecDepth 100000 in
set_option maxHeartbeats 4000000 in
theorem rst_30 {n : Int} {tx : ByteArray} {ns : List ByteArray} {ks : List Tree}  (IH : ExpsC ks) {N : Nd} {w : World} (hr : Rd w (.mk 30 n tx ns ks) N) (hs : Str (.mk 30 n tx ns ks)) : Calls Tryz.prog 52 #[.agg (ncs N)] w (PostR w (.bool (okT 83 (.mk 30 n tx ns ks)))) := by
  obtain ⟨hz, hzn, hzk⟩ := hs.of
  obtain ⟨bN, n0, n1, n2, n3, n4, HB, e1, e2, e3, e4, e5⟩ := nd_start hr
  rw [e1] at n0
  rw [pure_rst_30]
  have co : ∀ W, Calls Tryz.prog 29 #[.agg (ncs N), .bool false, .bool true, .bool false] W (PostR W (.bool (onlyV false true false n tx ns.length))) := fun W => by
    have := only_ftf N W
    unfold onlyB at this
    rw [e2, e3, e4] at this
    exact this
  obtain ⟨o, ho⟩ : ∃ o, onlyV false true false n tx ns.length = o := ⟨_, rfl⟩
  rw [ho] at co
  obtain ⟨m, hm⟩ : ∃ m, N.kids.n = m := ⟨_, rfl⟩
  rw [hm] at n4 e5
  rw [e3] at n2
  rw [e2] at n1
  have ld := run_ldN bN
  have cp0 := fun W => plainName_any tx W hz
  obtain ⟨p0, hp0⟩ : ∃ q, varB tx = q := ⟨_, rfl⟩
  rw [hp0] at cp0
  obtain ⟨p1, hp1⟩ : ∃ q, decide (ks.length ≤ 1) = q := ⟨_, rfl⟩
  have fp1 : decide ((m : Int) ≤ 1) = p1 := by rw [← hp1, e5]; exact decide_eq_decide.2 (by omega)
  have cp2 := kids_ex hr IH hzk
  rw [hm] at cp2
  obtain ⟨p2, hp2⟩ : ∃ q, allT 65 ks = q := ⟨_, rfl⟩
  rw [hp2] at cp2
  rw [ho]
  rw [hp0]
  rw [hp1]
  rw [hp2]
  have HBN := Lib.hid bN
  have HM := Lib.hid hm
  have E2 := Lib.hid e2
  have E3 := Lib.hid e3
  clear hz hzn hzk hr hs e1 e2 e3 e4 e5 bN ho hp0 hp1 hp2 IH hm
  cases o; rotate_left; cases p0; rotate_left; cases p1; rotate_left; cases p2
  all_goals (
    go_enter Tryz.func52, Tryz.ntmps52
    go_wp2_with (first | (go_at_call 29; (with_reducible refine (co _).mono ?_); intro e w2 hp; obtain ⟨rfl, hb⟩ := hp; have HB := Lib.hid (HB.out.trans (hb.mono HB.out.size)); have HBN := Lib.hid (HBN.out.call hb); have ld := run_ldN HBN.out; have n1 := (HBN.out.cell 1).trans (ncs_1 N); rw [E2.out] at n1; have n2 := (HBN.out.cell 2).trans (ncs_2 N); rw [E3.out] at n2; have n4 := (HBN.out.cell 4).trans (ncs_4 N); rw [HM.out] at n4; clear hb) | (go_at_call 68; (with_reducible refine (cp0 _).mono ?_); intro e w2 hp; obtain ⟨rfl, hb⟩ := hp; have HB := Lib.hid (HB.out.trans (hb.mono HB.out.size)); have HBN := Lib.hid (HBN.out.call hb); have ld := run_ldN HBN.out; have n1 := (HBN.out.cell 1).trans (ncs_1 N); rw [E2.out] at n1; have n2 := (HBN.out.cell 2).trans (ncs_2 N); rw [E3.out] at n2; have n4 := (HBN.out.cell 4).trans (ncs_4 N); rw [HM.out] at n4; clear hb) | (go_at_call 69; (with_reducible refine (cp2 _ HB.out).mono ?_); intro e w2 hp; obtain ⟨rfl, hb⟩ := hp; have HB := Lib.hid (HB.out.trans (hb.mono HB.out.size)); have HBN := Lib.hid (HBN.out.call hb); have ld := run_ldN HBN.out; have n1 := (HBN.out.cell 1).trans (ncs_1 N); rw [E2.out] at n1; have n2 := (HBN.out.cell 2).trans (ncs_2 N); rw [E3.out] at n2; have n4 := (HBN.out.cell 4).trans (ncs_4 N); rw [HM.out] at n4; clear hb))
    go_ret
    first | exact ⟨rfl, HB.out⟩ | exact ⟨rfl, bl_alloc HB.out⟩)
set_option maxRecDepth 100000 in
set_option maxHeartbeats 4000000 in
theorem rst_31 {n : Int} {tx : ByteArray} {ns : List ByteArray} {ks : List Tree}  (IH : ExpsC ks) {N : Nd} {w : World} (hr : Rd w (.mk 31 n tx ns ks) N) (hs : Str (.mk 31 n tx ns ks)) : Calls Tryz.prog 52 #[.agg (ncs N)] w (PostR w (.bool (okT 83 (.mk 31 n tx ns ks)))) := by
  obtain ⟨hz, hzn, hzk⟩ := hs.of
  obtain ⟨bN, n0, n1, n2, n3, n4, HB, e1, e2, e3, e4, e5⟩ := nd_start hr
  rw [e1] at n0
  rw [pure_rst_31]
  have co : ∀ W, Calls Tryz.prog 29 #[.agg (ncs N), .bool false, .bool true, .bool false] W (PostR W (.bool (onlyV false true false n tx ns.length))) := fun W => by
    have := only_ftf N W
    unfold onlyB at this
    rw [e2, e3, e4] at this
    exact this
  obtain ⟨o, ho⟩ : ∃ o, onlyV false true false n tx ns.length = o := ⟨_, rfl⟩
  rw [ho] at co
  obtain ⟨m, hm⟩ : ∃ m, N.kids.n = m := ⟨_, rfl⟩
  rw [hm] at n4 e5
  rw [e3] at n2
  rw [e2] at n1
  have ld := run_ldN bN
  have cp0 := fun W => plainName_any tx W hz
  obtain ⟨p0, hp0⟩ : ∃ q, varB tx = q := ⟨_, rfl⟩
  rw [hp0] at cp0
  obtain ⟨p1, hp1⟩ : ∃ q, decide (ks.length = 1) = q := ⟨_, rfl⟩
  have fp1 : ((m : Int) == 1) = p1 := by rw [← hp1, e5]; rw [Bool.eq_iff_iff]; simp; try omega
  have cp2 := kids_ex hr IH hzk
  rw [hm] at cp2
  obtain ⟨p2, hp2⟩ : ∃ q, allT 65 ks = q := ⟨_, rfl⟩
  rw [hp2] at cp2
  rw [ho]
  rw [hp0]
  rw [hp1]
  rw [hp2]
  have HBN := Lib.hid bN
  have HM := Lib.hid hm
  have E2 := Lib.hid e2
  have E3 := Lib.hid e3
  clear hz hzn hzk hr hs e1 e2 e3 e4 e5 bN ho hp0 hp1 hp2 IH hm
  cases o; rotate_left; cases p0; rotate_left; cases p1; rotate_left; cases p2
  all_goals (
    go_enter Tryz.func52, Tryz.ntmps52
    go_wp2_with (first | (go_at_call 29; (with_reducible refine (co _).mono ?_); intro e w2 hp; obtain ⟨rfl, hb⟩ := hp; have HB := Lib.hid (HB.out.trans (hb.mono HB.out.size)); have HBN := Lib.hid (HBN.out.call hb); have ld := run_ldN HBN.out; have n1 := (HBN.out.cell 1).trans (ncs_1 N); rw [E2.out] at n1; have n2 := (HBN.out.cell 2).trans (ncs_2 N); rw [E3.out] at n2; have n4 := (HBN.out.cell 4).trans (ncs_4 N); rw [HM.out] at n4; clear hb) | (go_at_call 68; (with_reducible refine (cp0 _).mono ?_); intro e w2 hp; obtain ⟨rfl, hb⟩ := hp; have HB := Lib.hid (HB.out.trans (hb.mono HB.out.size)); have HBN := Lib.hid (HBN.out.call hb); have ld := run_ldN HBN.out; have n1 := (HBN.out.cell 1).trans (ncs_1 N); rw [E2.out] at n1; have n2 := (HBN.out.cell 2).trans (ncs_2 N); rw [E3.out] at n2; have n4 := (HBN.out.cell 4).trans (ncs_4 N); rw [HM.out] at n4; clear hb) | (go_at_call 69; (with_reducible refine (cp2 _ HB.out).mono ?_); intro e w2 hp; obtain ⟨rfl, hb⟩ := hp; have HB := Lib.hid (HB.out.trans (hb.mono HB.out.size)); have HBN := Lib.hid (HBN.out.call hb); have ld := run_ldN HBN.out; have n1 := (HBN.out.cell 1).trans (ncs_1 N); rw [E2.out] at n1; have n2 := (HBN.out.cell 2).trans (ncs_2 N); rw [E3.out] at n2; have n4 := (HBN.out.cell 4).trans (ncs_4 N); rw [HM.out] at n4; clear hb))
    go_ret
    first | exact ⟨rfl, HB.out⟩ | exact ⟨rfl, bl_alloc HB.out⟩)
set_option maxRecDepth 100000 in
set_option maxHeartbeats 4000000 in
theorem rst_33 {n : Int} {tx : ByteArray} {ns : List ByteArray} {ks : List Tree}  (IH : ExpsC ks) {N : Nd} {w : World} (hr : Rd w (.mk 33 n tx ns ks) N) (hs : Str (.mk 33 n tx ns ks)) : Calls Tryz.prog 52 #[.agg (ncs N)] w (PostR w (.bool (okT 83 (.mk 33 n tx ns ks)))) := by
  obtain ⟨hz, hzn, hzk⟩ := hs.of
  obtain ⟨bN, n0, n1, n2, n3, n4, HB, e1, e2, e3, e4, e5⟩ := nd_start hr
  rw [e1] at n0
  rw [pure_rst_33]
  have co : ∀ W, Calls Tryz.prog 29 #[.agg (ncs N), .bool false, .bool false, .bool false] W (PostR W (.bool (onlyV false false false n tx ns.length))) := fun W => by
    have := only_fff N W
    unfold onlyB at this
    rw [e2, e3, e4] at this
    exact this
  obtain ⟨o, ho⟩ : ∃ o, onlyV false false false n tx ns.length = o := ⟨_, rfl⟩
  rw [ho] at co
  obtain ⟨m, hm⟩ : ∃ m, N.kids.n = m := ⟨_, rfl⟩
  rw [hm] at n4 e5
  rw [e3] at n2
  rw [e2] at n1
  have ld := run_ldN bN
  obtain ⟨p0, hp0⟩ : ∃ q, decide (ks.length = 1) = q := ⟨_, rfl⟩
  have fp0 : ((m : Int) == 1) = p0 := by rw [← hp0, e5]; rw [Bool.eq_iff_iff]; simp; try omega
  have cp1 := kids_ex hr IH hzk
  rw [hm] at cp1
  obtain ⟨p1, hp1⟩ : ∃ q, allT 65 ks = q := ⟨_, rfl⟩
  rw [hp1] at cp1
  rw [ho]
  rw [hp0]
  rw [hp1]
  have HBN := Lib.hid bN
  have HM := Lib.hid hm
  have E2 := Lib.hid e2
  have E3 := Lib.hid e3
  clear hz hzn hzk hr hs e1 e2 e3 e4 e5 bN ho hp0 hp1 IH hm
  cases o; rotate_left; cases p0; rotate_left; cases p1
  all_goals (
    go_enter Tryz.func52, Tryz.ntmps52
    go_wp2_with (first | (go_at_call 29; (with_reducible refine (co _).mono ?_); intro e w2 hp; obtain ⟨rfl, hb⟩ := hp; have HB := Lib.hid (HB.out.trans (hb.mono HB.out.size)); have HBN := Lib.hid (HBN.out.call hb); have ld := run_ldN HBN.out; have n1 := (HBN.out.cell 1).trans (ncs_1 N); rw [E2.out] at n1; have n2 := (HBN.out.cell 2).trans (ncs_2 N); rw [E3.out] at n2; have n4 := (HBN.out.cell 4).trans (ncs_4 N); rw [HM.out] at n4; clear hb) | (go_at_call 69; (with_reducible refine (cp1 _ HB.out).mono ?_); intro e w2 hp; obtain ⟨rfl, hb⟩ := hp; have HB := Lib.hid (HB.out.trans (hb.mono HB.out.size)); have HBN := Lib.hid (HBN.out.call hb); have ld := run_ldN HBN.out; have n1 := (HBN.out.cell 1).trans (ncs_1 N); rw [E2.out] at n1; have n2 := (HBN.out.cell 2).trans (ncs_2 N); rw [E3.out] at n2; have n4 := (HBN.out.cell 4).trans (ncs_4 N); rw [HM.out] at n4; clear hb))
    go_ret
    first | exact ⟨rfl, HB.out⟩ | exact ⟨rfl, bl_alloc HB.out⟩)
set_option maxRecDepth 100000 in
set_option maxHeartbeats 4000000 in
theorem rst_37 {n : Int} {tx : ByteArray} {ns : List ByteArray} {ks : List Tree}  (IH : ExpsC ks) {N : Nd} {w : World} (hr : Rd w (.mk 37 n tx ns ks) N) (hs : Str (.mk 37 n tx ns ks)) : Calls Tryz.prog 52 #[.agg (ncs N)] w (PostR w (.bool (okT 83 (.mk 37 n tx ns ks)))) := by
  obtain ⟨hz, hzn, hzk⟩ := hs.of
  obtain ⟨bN, n0, n1, n2, n3, n4, HB, e1, e2, e3, e4, e5⟩ := nd_start hr
  rw [e1] at n0
  rw [pure_rst_37]
  have co : ∀ W, Calls Tryz.prog 29 #[.agg (ncs N), .bool false, .bool false, .bool false] W (PostR W (.bool (onlyV false false false n tx ns.length))) := fun W => by
    have := only_fff N W
    unfold onlyB at this
    rw [e2, e3, e4] at this
    exact this
  obtain ⟨o, ho⟩ : ∃ o, onlyV false false false n tx ns.length = o := ⟨_, rfl⟩
  rw [ho] at co
  obtain ⟨m, hm⟩ : ∃ m, N.kids.n = m := ⟨_, rfl⟩
  rw [hm] at n4 e5
  rw [e3] at n2
  rw [e2] at n1
  have ld := run_ldN bN
  obtain ⟨p0, hp0⟩ : ∃ q, decide (ks.length = 1) = q := ⟨_, rfl⟩
  have fp0 : ((m : Int) == 1) = p0 := by rw [← hp0, e5]; rw [Bool.eq_iff_iff]; simp; try omega
  have cp1 := kids_ex hr IH hzk
  rw [hm] at cp1
  obtain ⟨p1, hp1⟩ : ∃ q, allT 65 ks = q := ⟨_, rfl⟩
  rw [hp1] at cp1
  rw [ho]
  rw [hp0]
  rw [hp1]
  have HBN := Lib.hid bN
  have HM := Lib.hid hm
  have E2 := Lib.hid e2
  have E3 := Lib.hid e3
  clear hz hzn hzk hr hs e1 e2 e3 e4 e5 bN ho hp0 hp1 IH hm
  cases o; rotate_left; cases p0; rotate_left; cases p1
  all_goals (
    go_enter Tryz.func52, Tryz.ntmps52
    go_wp2_with (first | (go_at_call 29; (with_reducible refine (co _).mono ?_); intro e w2 hp; obtain ⟨rfl, hb⟩ := hp; have HB := Lib.hid (HB.out.trans (hb.mono HB.out.size)); have HBN := Lib.hid (HBN.out.call hb); have ld := run_ldN HBN.out; have n1 := (HBN.out.cell 1).trans (ncs_1 N); rw [E2.out] at n1; have n2 := (HBN.out.cell 2).trans (ncs_2 N); rw [E3.out] at n2; have n4 := (HBN.out.cell 4).trans (ncs_4 N); rw [HM.out] at n4; clear hb) | (go_at_call 69; (with_reducible refine (cp1 _ HB.out).mono ?_); intro e w2 hp; obtain ⟨rfl, hb⟩ := hp; have HB := Lib.hid (HB.out.trans (hb.mono HB.out.size)); have HBN := Lib.hid (HBN.out.call hb); have ld := run_ldN HBN.out; have n1 := (HBN.out.cell 1).trans (ncs_1 N); rw [E2.out] at n1; have n2 := (HBN.out.cell 2).trans (ncs_2 N); rw [E3.out] at n2; have n4 := (HBN.out.cell 4).trans (ncs_4 N); rw [HM.out] at n4; clear hb))
    go_ret
    first | exact ⟨rfl, HB.out⟩ | exact ⟨rfl, bl_alloc HB.out⟩)
set_option maxRecDepth 100000 in
set_option maxHeartbeats 4000000 in
theorem rst_36 {n : Int} {tx : ByteArray} {ns : List ByteArray} {ks : List Tree}  (IH : ExpsC ks) {N : Nd} {w : World} (hr : Rd w (.mk 36 n tx ns ks) N) (hs : Str (.mk 36 n tx ns ks)) : Calls Tryz.prog 52 #[.agg (ncs N)] w (PostR w (.bool (okT 83 (.mk 36 n tx ns ks)))) := by
  obtain ⟨hz, hzn, hzk⟩ := hs.of
  obtain ⟨bN, n0, n1, n2, n3, n4, HB, e1, e2, e3, e4, e5⟩ := nd_start hr
  rw [e1] at n0
  rw [pure_rst_36]
  have co : ∀ W, Calls Tryz.prog 29 #[.agg (ncs N), .bool false, .bool false, .bool false] W (PostR W (.bool (onlyV false false false n tx ns.length))) := fun W => by
    have := only_fff N W
    unfold onlyB at this
    rw [e2, e3, e4] at this
    exact this
  obtain ⟨o, ho⟩ : ∃ o, onlyV false false false n tx ns.length = o := ⟨_, rfl⟩
  rw [ho] at co
  obtain ⟨m, hm⟩ : ∃ m, N.kids.n = m := ⟨_, rfl⟩
  rw [hm] at n4 e5
  rw [e3] at n2
  rw [e2] at n1
  have ld := run_ldN bN
  obtain ⟨p0, hp0⟩ : ∃ q, decide (ks.length ≤ 1) = q := ⟨_, rfl⟩
  have fp0 : decide ((m : Int) ≤ 1) = p0 := by rw [← hp0, e5]; exact decide_eq_decide.2 (by omega)
  have cp1 := kids_ex hr IH hzk
  rw [hm] at cp1
  obtain ⟨p1, hp1⟩ : ∃ q, allT 65 ks = q := ⟨_, rfl⟩
  rw [hp1] at cp1
  rw [ho]
  rw [hp0]
  rw [hp1]
  have HBN := Lib.hid bN
  have HM := Lib.hid hm
  have E2 := Lib.hid e2
  have E3 := Lib.hid e3
  clear hz hzn hzk hr hs e1 e2 e3 e4 e5 bN ho hp0 hp1 IH hm
  cases o; rotate_left; cases p0; rotate_left; cases p1
  all_goals (
    go_enter Tryz.func52, Tryz.ntmps52
    go_wp2_with (first | (go_at_call 29; (with_reducible refine (co _).mono ?_); intro e w2 hp; obtain ⟨rfl, hb⟩ := hp; have HB := Lib.hid (HB.out.trans (hb.mono HB.out.size)); have HBN := Lib.hid (HBN.out.call hb); have ld := run_ldN HBN.out; have n1 := (HBN.out.cell 1).trans (ncs_1 N); rw [E2.out] at n1; have n2 := (HBN.out.cell 2).trans (ncs_2 N); rw [E3.out] at n2; have n4 := (HBN.out.cell 4).trans (ncs_4 N); rw [HM.out] at n4; clear hb) | (go_at_call 69; (with_reducible refine (cp1 _ HB.out).mono ?_); intro e w2 hp; obtain ⟨rfl, hb⟩ := hp; have HB := Lib.hid (HB.out.trans (hb.mono HB.out.size)); have HBN := Lib.hid (HBN.out.call hb); have ld := run_ldN HBN.out; have n1 := (HBN.out.cell 1).trans (ncs_1 N); rw [E2.out] at n1; have n2 := (HBN.out.cell 2).trans (ncs_2 N); rw [E3.out] at n2; have n4 := (HBN.out.cell 4).trans (ncs_4 N); rw [HM.out] at n4; clear hb))
    go_ret
    first | exact ⟨rfl, HB.out⟩ | exact ⟨rfl, bl_alloc HB.out⟩)
set_option maxRecDepth 100000 in
set_option maxHeartbeats 4000000 in
theorem rst_41 {n : Int} {tx : ByteArray} {ns : List ByteArray} {ks : List Tree}   {N : Nd} {w : World} (hr : Rd w (.mk 41 n tx ns ks) N) (hs : Str (.mk 41 n tx ns ks)) : Calls Tryz.prog 52 #[.agg (ncs N)] w (PostR w (.bool (okT 83 (.mk 41 n tx ns ks)))) := by
  obtain ⟨hz, hzn, hzk⟩ := hs.of
  obtain ⟨bN, n0, n1, n2, n3, n4, HB, e1, e2, e3, e4, e5⟩ := nd_start hr
  rw [e1] at n0
  rw [pure_rst_41]
  have co : ∀ W, Calls Tryz.prog 29 #[.agg (ncs N), .bool false, .bool false, .bool false] W (PostR W (.bool (onlyV false false false n tx ns.length))) := fun W => by
    have := only_fff N W
    unfold onlyB at this
    rw [e2, e3, e4] at this
    exact this
  obtain ⟨o, ho⟩ : ∃ o, onlyV false false false n tx ns.length = o := ⟨_, rfl⟩
  rw [ho] at co
  obtain ⟨m, hm⟩ : ∃ m, N.kids.n = m := ⟨_, rfl⟩
  rw [hm] at n4 e5
  rw [e3] at n2
  rw [e2] at n1
  have ld := run_ldN bN
  obtain ⟨p0, hp0⟩ : ∃ q, decide (ks.length = 0) = q := ⟨_, rfl⟩
  have fp0 : ((m : Int) == 0) = p0 := by rw [← hp0, e5]; rw [Bool.eq_iff_iff]; simp; try omega
  rw [ho]
  rw [hp0]
  have HBN := Lib.hid bN
  have HM := Lib.hid hm
  have E2 := Lib.hid e2
  have E3 := Lib.hid e3
  clear hz hzn hzk hr hs e1 e2 e3 e4 e5 bN ho hp0 hm
  cases o; rotate_left; cases p0
  all_goals (
    go_enter Tryz.func52, Tryz.ntmps52
    go_wp2_with (first | (go_at_call 29; (with_reducible refine (co _).mono ?_); intro e w2 hp; obtain ⟨rfl, hb⟩ := hp; have HB := Lib.hid (HB.out.trans (hb.mono HB.out.size)); have HBN := Lib.hid (HBN.out.call hb); have ld := run_ldN HBN.out; have n1 := (HBN.out.cell 1).trans (ncs_1 N); rw [E2.out] at n1; have n2 := (HBN.out.cell 2).trans (ncs_2 N); rw [E3.out] at n2; have n4 := (HBN.out.cell 4).trans (ncs_4 N); rw [HM.out] at n4; clear hb))
    go_ret
    first | exact ⟨rfl, HB.out⟩ | exact ⟨rfl, bl_alloc HB.out⟩)
set_option maxRecDepth 100000 in
set_option maxHeartbeats 4000000 in
theorem rst_42 {n : Int} {tx : ByteArray} {ns : List ByteArray} {ks : List Tree}   {N : Nd} {w : World} (hr : Rd w (.mk 42 n tx ns ks) N) (hs : Str (.mk 42 n tx ns ks)) : Calls Tryz.prog 52 #[.agg (ncs N)] w (PostR w (.bool (okT 83 (.mk 42 n tx ns ks)))) := by
  obtain ⟨hz, hzn, hzk⟩ := hs.of
  obtain ⟨bN, n0, n1, n2, n3, n4, HB, e1, e2, e3, e4, e5⟩ := nd_start hr
  rw [e1] at n0
  rw [pure_rst_42]
  have co : ∀ W, Calls Tryz.prog 29 #[.agg (ncs N), .bool false, .bool false, .bool false] W (PostR W (.bool (onlyV false false false n tx ns.length))) := fun W => by
    have := only_fff N W
    unfold onlyB at this
    rw [e2, e3, e4] at this
    exact this
  obtain ⟨o, ho⟩ : ∃ o, onlyV false false false n tx ns.length = o := ⟨_, rfl⟩
  rw [ho] at co
  obtain ⟨m, hm⟩ : ∃ m, N.kids.n = m := ⟨_, rfl⟩
  rw [hm] at n4 e5
  rw [e3] at n2
  rw [e2] at n1
  have ld := run_ldN bN
  obtain ⟨p0, hp0⟩ : ∃ q, decide (ks.length = 0) = q := ⟨_, rfl⟩
  have fp0 : ((m : Int) == 0) = p0 := by rw [← hp0, e5]; rw [Bool.eq_iff_iff]; simp; try omega
  rw [ho]
  rw [hp0]
  have HBN := Lib.hid bN
  have HM := Lib.hid hm
  have E2 := Lib.hid e2
  have E3 := Lib.hid e3
  clear hz hzn hzk hr hs e1 e2 e3 e4 e5 bN ho hp0 hm
  cases o; rotate_left; cases p0
  all_goals (
    go_enter Tryz.func52, Tryz.ntmps52
    go_wp2_with (first | (go_at_call 29; (with_reducible refine (co _).mono ?_); intro e w2 hp; obtain ⟨rfl, hb⟩ := hp; have HB := Lib.hid (HB.out.trans (hb.mono HB.out.size)); have HBN := Lib.hid (HBN.out.call hb); have ld := run_ldN HBN.out; have n1 := (HBN.out.cell 1).trans (ncs_1 N); rw [E2.out] at n1; have n2 := (HBN.out.cell 2).trans (ncs_2 N); rw [E3.out] at n2; have n4 := (HBN.out.cell 4).trans (ncs_4 N); rw [HM.out] at n4; clear hb))
    go_ret
    first | exact ⟨rfl, HB.out⟩ | exact ⟨rfl, bl_alloc HB.out⟩)
set_option maxRecDepth 100000 in
set_option maxHeartbeats 4000000 in
theorem rst_43 {n : Int} {tx : ByteArray} {ns : List ByteArray} {ks : List Tree}   {N : Nd} {w : World} (hr : Rd w (.mk 43 n tx ns ks) N) (hs : Str (.mk 43 n tx ns ks)) : Calls Tryz.prog 52 #[.agg (ncs N)] w (PostR w (.bool (okT 83 (.mk 43 n tx ns ks)))) := by
  obtain ⟨hz, hzn, hzk⟩ := hs.of
  obtain ⟨bN, n0, n1, n2, n3, n4, HB, e1, e2, e3, e4, e5⟩ := nd_start hr
  rw [e1] at n0
  rw [pure_rst_43]
  have co : ∀ W, Calls Tryz.prog 29 #[.agg (ncs N), .bool false, .bool false, .bool false] W (PostR W (.bool (onlyV false false false n tx ns.length))) := fun W => by
    have := only_fff N W
    unfold onlyB at this
    rw [e2, e3, e4] at this
    exact this
  obtain ⟨o, ho⟩ : ∃ o, onlyV false false false n tx ns.length = o := ⟨_, rfl⟩
  rw [ho] at co
  obtain ⟨m, hm⟩ : ∃ m, N.kids.n = m := ⟨_, rfl⟩
  rw [hm] at n4 e5
  rw [e3] at n2
  rw [e2] at n1
  have ld := run_ldN bN
  obtain ⟨p0, hp0⟩ : ∃ q, decide (ks.length = 0) = q := ⟨_, rfl⟩
  have fp0 : ((m : Int) == 0) = p0 := by rw [← hp0, e5]; rw [Bool.eq_iff_iff]; simp; try omega
  rw [ho]
  rw [hp0]
  have HBN := Lib.hid bN
  have HM := Lib.hid hm
  have E2 := Lib.hid e2
  have E3 := Lib.hid e3
  clear hz hzn hzk hr hs e1 e2 e3 e4 e5 bN ho hp0 hm
  cases o; rotate_left; cases p0
  all_goals (
    go_enter Tryz.func52, Tryz.ntmps52
    go_wp2_with (first | (go_at_call 29; (with_reducible refine (co _).mono ?_); intro e w2 hp; obtain ⟨rfl, hb⟩ := hp; have HB := Lib.hid (HB.out.trans (hb.mono HB.out.size)); have HBN := Lib.hid (HBN.out.call hb); have ld := run_ldN HBN.out; have n1 := (HBN.out.cell 1).trans (ncs_1 N); rw [E2.out] at n1; have n2 := (HBN.out.cell 2).trans (ncs_2 N); rw [E3.out] at n2; have n4 := (HBN.out.cell 4).trans (ncs_4 N); rw [HM.out] at n4; clear hb))
    go_ret
    first | exact ⟨rfl, HB.out⟩ | exact ⟨rfl, bl_alloc HB.out⟩)
set_option maxRecDepth 100000 in
set_option maxHeartbeats 4000000 in
theorem rst_32n {n : Int} {tx : ByteArray} {ns : List ByteArray} {ks : List Tree} (hh : ks.length ≠ 1)  {N : Nd} {w : World} (hr : Rd w (.mk 32 n tx ns ks) N) (hs : Str (.mk 32 n tx ns ks)) : Calls Tryz.prog 52 #[.agg (ncs N)] w (PostR w (.bool (okT 83 (.mk 32 n tx ns ks)))) := by
  obtain ⟨hz, hzn, hzk⟩ := hs.of
  obtain ⟨bN, n0, n1, n2, n3, n4, HB, e1, e2, e3, e4, e5⟩ := nd_start hr
  rw [e1] at n0
  rw [pure_rst_32n hh]
  have co : ∀ W, Calls Tryz.prog 29 #[.agg (ncs N), .bool false, .bool false, .bool false] W (PostR W (.bool (onlyV false false false n tx ns.length))) := fun W => by
    have := only_fff N W
    unfold onlyB at this
    rw [e2, e3, e4] at this
    exact this
  obtain ⟨o, ho⟩ : ∃ o, onlyV false false false n tx ns.length = o := ⟨_, rfl⟩
  rw [ho] at co
  obtain ⟨m, hm⟩ : ∃ m, N.kids.n = m := ⟨_, rfl⟩
  rw [hm] at n4 e5
  rw [e3] at n2
  rw [e2] at n1
  have ld := run_ldN bN
  have ep0 : decide (ks.length = 1) = false := by simp [hh]
  rw [ep0]
  have fp00 : ((m : Int) == 1) = false := by rw [e5]; simp; omega
  clear ep0
  rw [ho]
  have HBN := Lib.hid bN
  have HM := Lib.hid hm
  have E2 := Lib.hid e2
  have E3 := Lib.hid e3
  clear hz hzn hzk hr hs e1 e2 e3 e4 e5 bN ho hh hm
  cases o
  all_goals (
    go_enter Tryz.func52, Tryz.ntmps52
    go_wp2_with (first | (go_at_call 29; (with_reducible refine (co _).mono ?_); intro e w2 hp; obtain ⟨rfl, hb⟩ := hp; have HB := Lib.hid (HB.out.trans (hb.mono HB.out.size)); have HBN := Lib.hid (HBN.out.call hb); have ld := run_ldN HBN.out; have n1 := (HBN.out.cell 1).trans (ncs_1 N); rw [E2.out] at n1; have n2 := (HBN.out.cell 2).trans (ncs_2 N); rw [E3.out] at n2; have n4 := (HBN.out.cell 4).trans (ncs_4 N); rw [HM.out] at n4; clear hb))
    go_ret
    first | exact ⟨rfl, HB.out⟩ | exact ⟨rfl, bl_alloc HB.out⟩)
set_option maxRecDepth 100000 in
set_option maxHeartbeats 4000000 in
theorem rst_35n {n : Int} {tx : ByteArray} {ns : List ByteArray} {ks : List Tree} (hh : ks.length ≠ 2)  {N : Nd} {w : World} (hr : Rd w (.mk 35 n tx ns ks) N) (hs : Str (.mk 35 n tx ns ks)) : Calls Tryz.prog 52 #[.agg (ncs N)] w (PostR w (.bool (okT 83 (.mk 35 n tx ns ks)))) := by
  obtain ⟨hz, hzn, hzk⟩ := hs.of
  obtain ⟨bN, n0, n1, n2, n3, n4, HB, e1, e2, e3, e4, e5⟩ := nd_start hr
  rw [e1] at n0
  rw [pure_rst_35n hh]
  have co : ∀ W, Calls Tryz.prog 29 #[.agg (ncs N), .bool false, .bool false, .bool false] W (PostR W (.bool (onlyV false false false n tx ns.length))) := fun W => by
    have := only_fff N W
    unfold onlyB at this
    rw [e2, e3, e4] at this
    exact this
  obtain ⟨o, ho⟩ : ∃ o, onlyV false false false n tx ns.length = o := ⟨_, rfl⟩
  rw [ho] at co
  obtain ⟨m, hm⟩ : ∃ m, N.kids.n = m := ⟨_, rfl⟩
  rw [hm] at n4 e5
  rw [e3] at n2
  rw [e2] at n1
  have ld := run_ldN bN
  have ep0 : decide (ks.length = 2) = false := by simp [hh]
  rw [ep0]
  have fp00 : ((m : Int) == 2) = false := by rw [e5]; simp; omega
  clear ep0
  rw [ho]
  have HBN := Lib.hid bN
  have HM := Lib.hid hm
  have E2 := Lib.hid e2
  have E3 := Lib.hid e3
  clear hz hzn hzk hr hs e1 e2 e3 e4 e5 bN ho hh hm
  cases o
  all_goals (
    go_enter Tryz.func52, Tryz.ntmps52
    go_wp2_with (first | (go_at_call 29; (with_reducible refine (co _).mono ?_); intro e w2 hp; obtain ⟨rfl, hb⟩ := hp; have HB := Lib.hid (HB.out.trans (hb.mono HB.out.size)); have HBN := Lib.hid (HBN.out.call hb); have ld := run_ldN HBN.out; have n1 := (HBN.out.cell 1).trans (ncs_1 N); rw [E2.out] at n1; have n2 := (HBN.out.cell 2).trans (ncs_2 N); rw [E3.out] at n2; have n4 := (HBN.out.cell 4).trans (ncs_4 N); rw [HM.out] at n4; clear hb))
    go_ret
    first | exact ⟨rfl, HB.out⟩ | exact ⟨rfl, bl_alloc HB.out⟩)
set_option maxRecDepth 100000 in
set_option maxHeartbeats 4000000 in
theorem rst_35 {n : Int} {tx : ByteArray} {ns : List ByteArray} {a b : Tree}  (Ha : ExpC a) (Hb : StmC b) {N : Nd} {w : World} (hr : Rd w (.mk 35 n tx ns [a, b]) N) (hs : Str (.mk 35 n tx ns [a, b])) : Calls Tryz.prog 52 #[.agg (ncs N)] w (PostR w (.bool (okT 83 (.mk 35 n tx ns [a, b])))) := by
  obtain ⟨hz, hzn, hzk⟩ := hs.of
  obtain ⟨bN, n0, n1, n2, n3, n4, HB, e1, e2, e3, e4, e5⟩ := nd_start hr
  rw [e1] at n0
  rw [pure_rst_35]
  have co : ∀ W, Calls Tryz.prog 29 #[.agg (ncs N), .bool false, .bool false, .bool false] W (PostR W (.bool (onlyV false false false n tx ns.length))) := fun W => by
    have := only_fff N W
    unfold onlyB at this
    rw [e2, e3, e4] at this
    exact this
  obtain ⟨o, ho⟩ : ∃ o, onlyV false false false n tx ns.length = o := ⟨_, rfl⟩
  rw [ho] at co
  obtain ⟨m, hm⟩ : ∃ m, N.kids.n = m := ⟨_, rfl⟩
  rw [hm] at n4 e5
  rw [e3] at n2
  rw [e2] at n1
  have ld := run_ldN bN
  obtain ⟨b0, o0, cp, xa, xb, hkk, hc1, hc2, ka, ra, kb, rb⟩ := kids_2 hr
  rw [hkk] at hm n4
  simp only at hm n4
  subst hm
  have Ka := Lib.hid ka
  have Kb := Lib.hid kb
  have hm : N.kids = ⟨some ⟨b0, o0, none⟩, 2, cp⟩ := hkk
  have la := ka.ld HB.out
  have kka := ka.kind HB.out
  have kta := ka.text HB.out
  have kna := ka.names HB.out
  have lb := kb.ld HB.out
  have kkb := kb.kind HB.out
  have ktb := kb.text HB.out
  have knb := kb.names HB.out
  have cp0 := fun W (hb : Below w.heap.size w W) => Ha (ra.below hb) (hzk.at (i := 0) rfl)
  obtain ⟨p0, hp0⟩ : ∃ q, okT 65 a = q := ⟨_, rfl⟩
  rw [hp0] at cp0
  have cp1 := fun W (hb : Below w.heap.size w W) => Hb (rb.below hb) (hzk.at (i := 1) rfl)
  obtain ⟨p1, hp1⟩ : ∃ q, okT 83 b = q := ⟨_, rfl⟩
  rw [hp1] at cp1
  rw [ho]
  rw [hp0]
  rw [hp1]
  have HBN := Lib.hid bN
  have HM := Lib.hid hm
  have E2 := Lib.hid e2
  have E3 := Lib.hid e3
  clear hz hzn hzk hr hs e1 e2 e3 e4 e5 bN ho hkk ka kb ra rb hp0 Ha hp1 Hb hm
  cases o; rotate_left; cases p0; rotate_left; cases p1
  all_goals (
    go_enter Tryz.func52, Tryz.ntmps52
    go_wp2_with (first | (go_at_call 29; (with_reducible refine (co _).mono ?_); intro e w2 hp; obtain ⟨rfl, hb⟩ := hp; have HB := Lib.hid (HB.out.trans (hb.mono HB.out.size)); have HBN := Lib.hid (HBN.out.call hb); have ld := run_ldN HBN.out; have n1 := (HBN.out.cell 1).trans (ncs_1 N); rw [E2.out] at n1; have n2 := (HBN.out.cell 2).trans (ncs_2 N); rw [E3.out] at n2; have n4 := (HBN.out.cell 4).trans (ncs_4 N); rw [HM.out] at n4; simp only at n4; have la := Ka.out.ld HB.out; have kka := Ka.out.kind HB.out; have kta := Ka.out.text HB.out; have kna := Ka.out.names HB.out; have lb := Kb.out.ld HB.out; have kkb := Kb.out.kind HB.out; have ktb := Kb.out.text HB.out; have knb := Kb.out.names HB.out; clear hb) | (go_at_call 71; (with_reducible refine (cp0 _ HB.out).mono ?_); intro e w2 hp; obtain ⟨rfl, hb⟩ := hp; have HB := Lib.hid (HB.out.trans (hb.mono HB.out.size)); have HBN := Lib.hid (HBN.out.call hb); have ld := run_ldN HBN.out; have n1 := (HBN.out.cell 1).trans (ncs_1 N); rw [E2.out] at n1; have n2 := (HBN.out.cell 2).trans (ncs_2 N); rw [E3.out] at n2; have n4 := (HBN.out.cell 4).trans (ncs_4 N); rw [HM.out] at n4; simp only at n4; have la := Ka.out.ld HB.out; have kka := Ka.out.kind HB.out; have kta := Ka.out.text HB.out; have kna := Ka.out.names HB.out; have lb := Kb.out.ld HB.out; have kkb := Kb.out.kind HB.out; have ktb := Kb.out.text HB.out; have knb := Kb.out.names HB.out; clear hb) | (go_at_call 52; (with_reducible refine (cp1 _ HB.out).mono ?_); intro e w2 hp; obtain ⟨rfl, hb⟩ := hp; have HB := Lib.hid (HB.out.trans (hb.mono HB.out.size)); have HBN := Lib.hid (HBN.out.call hb); have ld := run_ldN HBN.out; have n1 := (HBN.out.cell 1).trans (ncs_1 N); rw [E2.out] at n1; have n2 := (HBN.out.cell 2).trans (ncs_2 N); rw [E3.out] at n2; have n4 := (HBN.out.cell 4).trans (ncs_4 N); rw [HM.out] at n4; simp only at n4; have la := Ka.out.ld HB.out; have kka := Ka.out.kind HB.out; have kta := Ka.out.text HB.out; have kna := Ka.out.names HB.out; have lb := Kb.out.ld HB.out; have kkb := Kb.out.kind HB.out; have ktb := Kb.out.text HB.out; have knb := Kb.out.names HB.out; clear hb))
    go_ret
    first | exact ⟨rfl, HB.out⟩ | exact ⟨rfl, bl_alloc HB.out⟩)
set_option maxRecDepth 100000 in
set_option maxHeartbeats 4000000 in
theorem rst_34b {n : Int} {tx : ByteArray} {ns : List ByteArray} {a b : Tree}  (Ha : ExpC a) (HT : StmsC [b]) {N : Nd} {w : World} (hr : Rd w (.mk 34 n tx ns [a, b]) N) (hs : Str (.mk 34 n tx ns [a, b])) : Calls Tryz.prog 52 #[.agg (ncs N)] w (PostR w (.bool (okT 83 (.mk 34 n tx ns [a, b])))) := by
  obtain ⟨hz, hzn, hzk⟩ := hs.of
  obtain ⟨bN, n0, n1, n2, n3, n4, HB, e1, e2, e3, e4, e5⟩ := nd_start hr
  rw [e1] at n0
  rw [pure_rst_34b]
  have co : ∀ W, Calls Tryz.prog 29 #[.agg (ncs N), .bool false, .bool false, .bool false] W (PostR W (.bool (onlyV false false false n tx ns.length))) := fun W => by
    have := only_fff N W
    unfold onlyB at this
    rw [e2, e3, e4] at this
    exact this
  obtain ⟨o, ho⟩ : ∃ o, onlyV false false false n tx ns.length = o := ⟨_, rfl⟩
  rw [ho] at co
  obtain ⟨m, hm⟩ : ∃ m, N.kids.n = m := ⟨_, rfl⟩
  rw [hm] at n4 e5
  rw [e3] at n2
  rw [e2] at n1
  have ld := run_ldN bN
  obtain ⟨b0, o0, cp, xa, xb, hkk, hc1, hc2, ka, ra, kb, rb⟩ := kids_2 hr
  rw [hkk] at hm n4
  simp only at hm n4
  subst hm
  have Ka := Lib.hid ka
  have Kb := Lib.hid kb
  have hm : N.kids = ⟨some ⟨b0, o0, none⟩, 2, cp⟩ := hkk
  have la := ka.ld HB.out
  have kka := ka.kind HB.out
  have kta := ka.text HB.out
  have kna := ka.names HB.out
  have cp0 := fun W (hb : Below w.heap.size w W) => Ha (ra.below hb) (hzk.at (i := 0) rfl)
  obtain ⟨p0, hp0⟩ : ∃ q, okT 65 a = q := ⟨_, rfl⟩
  rw [hp0] at cp0
  have cp1 := fun W (hb : Below w.heap.size w W) => kids_tail hr HT hzk W hb hkk
  obtain ⟨p1, hp1⟩ : ∃ q, allT 83 [b] = q := ⟨_, rfl⟩
  rw [hp1] at cp1
  simp only [Nat.reduceSub] at cp1
  have HPp1 := Lib.hid hp1
  rw [ho]
  rw [hp0]
  rw [hp1]
  have HBN := Lib.hid bN
  have HM := Lib.hid hm
  have E2 := Lib.hid e2
  have E3 := Lib.hid e3
  clear hz hzn hzk hr hs e1 e2 e3 e4 e5 bN ho hkk ka kb ra rb hp0 Ha hp1 HT hm
  cases o; rotate_left; cases p0; rotate_left; cases p1
  all_goals (
    go_enter Tryz.func52, Tryz.ntmps52
    go_wp2_with (first | (go_at_call 29; (with_reducible refine (co _).mono ?_); intro e w2 hp; obtain ⟨rfl, hb⟩ := hp; have HB := Lib.hid (HB.out.trans (hb.mono HB.out.size)); have HBN := Lib.hid (HBN.out.call hb); have ld := run_ldN HBN.out; have n1 := (HBN.out.cell 1).trans (ncs_1 N); rw [E2.out] at n1; have n2 := (HBN.out.cell 2).trans (ncs_2 N); rw [E3.out] at n2; have n4 := (HBN.out.cell 4).trans (ncs_4 N); rw [HM.out] at n4; simp only at n4; have la := Ka.out.ld HB.out; have kka := Ka.out.kind HB.out; have kta := Ka.out.text HB.out; have kna := Ka.out.names HB.out; clear hb) | (go_at_call 71; (with_reducible refine (cp0 _ HB.out).mono ?_); intro e w2 hp; obtain ⟨rfl, hb⟩ := hp; have HB := Lib.hid (HB.out.trans (hb.mono HB.out.size)); have HBN := Lib.hid (HBN.out.call hb); have ld := run_ldN HBN.out; have n1 := (HBN.out.cell 1).trans (ncs_1 N); rw [E2.out] at n1; have n2 := (HBN.out.cell 2).trans (ncs_2 N); rw [E3.out] at n2; have n4 := (HBN.out.cell 4).trans (ncs_4 N); rw [HM.out] at n4; simp only at n4; have la := Ka.out.ld HB.out; have kka := Ka.out.kind HB.out; have kta := Ka.out.text HB.out; have kna := Ka.out.names HB.out; clear hb) | (go_at_call 30; (with_reducible refine (cp1 _ HB.out).mono ?_); intro e w2 hp; obtain ⟨rfl, hb⟩ := hp; have HB := Lib.hid (HB.out.trans (hb.mono HB.out.size)); have HBN := Lib.hid (HBN.out.call hb); have ld := run_ldN HBN.out; have n1 := (HBN.out.cell 1).trans (ncs_1 N); rw [E2.out] at n1; have n2 := (HBN.out.cell 2).trans (ncs_2 N); rw [E3.out] at n2; have n4 := (HBN.out.cell 4).trans (ncs_4 N); rw [HM.out] at n4; simp only at n4; have la := Ka.out.ld HB.out; have kka := Ka.out.kind HB.out; have kta := Ka.out.text HB.out; have kna := Ka.out.names HB.out; clear hb))
    go_ret
    first | exact ⟨rfl, HB.out⟩ | exact ⟨rfl, bl_alloc HB.out⟩)
set_option maxRecDepth 100000 in
set_option maxHeartbeats 4000000 in
theorem rst_34c {n : Int} {tx : ByteArray} {ns : List ByteArray} {a b c : Tree}  (Ha : ExpC a) (HT : StmsC [b, c]) (Hb : OpenC b) {N : Nd} {w : World} (hr : Rd w (.mk 34 n tx ns [a, b, c]) N) (hs : Str (.mk 34 n tx ns [a, b, c])) : Calls Tryz.prog 52 #[.agg (ncs N)] w (PostR w (.bool (okT 83 (.mk 34 n tx ns [a, b, c])))) := by
  obtain ⟨hz, hzn, hzk⟩ := hs.of
  obtain ⟨bN, n0, n1, n2, n3, n4, HB, e1, e2, e3, e4, e5⟩ := nd_start hr
  rw [e1] at n0
  rw [pure_rst_34c]
  have co : ∀ W, Calls Tryz.prog 29 #[.agg (ncs N), .bool false, .bool false, .bool false] W (PostR W (.bool (onlyV false false false n tx ns.length))) := fun W => by
    have := only_fff N W
    unfold onlyB at this
    rw [e2, e3, e4] at this
    exact this
  obtain ⟨o, ho⟩ : ∃ o, onlyV false false false n tx ns.length = o := ⟨_, rfl⟩
  rw [ho] at co
  obtain ⟨m, hm⟩ : ∃ m, N.kids.n = m := ⟨_, rfl⟩
  rw [hm] at n4 e5
  rw [e3] at n2
  rw [e2] at n1
  have ld := run_ldN bN
  obtain ⟨b0, o0, cp, xa, xb, xc, hkk, hc1, hc2, ka, ra, kb, rb, kc, rc⟩ := kids_3 hr
  rw [hkk] at hm n4
  simp only at hm n4
  subst hm
  have Ka := Lib.hid ka
  have Kb := Lib.hid kb
  have Kc := Lib.hid kc
  have hm : N.kids = ⟨some ⟨b0, o0, none⟩, 3, cp⟩ := hkk
  have la := ka.ld HB.out
  have kka := ka.kind HB.out
  have kta := ka.text HB.out
  have kna := ka.names HB.out
  have lb := kb.ld HB.out
  have kkb := kb.kind HB.out
  have ktb := kb.text HB.out
  have knb := kb.names HB.out
  have cp0 := fun W (hb : Below w.heap.size w W) => Ha (ra.below hb) (hzk.at (i := 0) rfl)
  obtain ⟨p0, hp0⟩ : ∃ q, okT 65 a = q := ⟨_, rfl⟩
  rw [hp0] at cp0
  have cp1 := fun W (hb : Below w.heap.size w W) => kids_tail hr HT hzk W hb hkk
  obtain ⟨p1, hp1⟩ : ∃ q, allT 83 [b, c] = q := ⟨_, rfl⟩
  rw [hp1] at cp1
  simp only [Nat.reduceSub] at cp1
  have HPp1 := Lib.hid hp1
  have cp2 := fun (hq : allT 83 [b, c] = true) W (hb : Below w.heap.size w W) => Hb (rb.below hb) (by simp [allT] at hq; exact hq.1)
  obtain ⟨p2, hp2⟩ : ∃ q, (!openT b) = q := ⟨_, rfl⟩
  have ep2 : openT b = !p2 := by rw [← hp2, Bool.not_not]
  rw [ep2] at cp2
  clear ep2
  rw [ho]
  rw [hp0]
  rw [hp1]
  rw [hp2]
  have HBN := Lib.hid bN
  have HM := Lib.hid hm
  have E2 := Lib.hid e2
  have E3 := Lib.hid e3
  clear hz hzn hzk hr hs e1 e2 e3 e4 e5 bN ho hkk ka kb kc ra rb rc hp0 Ha hp1 HT hp2 Hb hm
  cases o; rotate_left; cases p0; rotate_left; cases p1; rotate_left; cases p2
  all_goals (
    go_enter Tryz.func52, Tryz.ntmps52
    go_wp2_with (first | (go_at_call 29; (with_reducible refine (co _).mono ?_); intro e w2 hp; obtain ⟨rfl, hb⟩ := hp; have HB := Lib.hid (HB.out.trans (hb.mono HB.out.size)); have HBN := Lib.hid (HBN.out.call hb); have ld := run_ldN HBN.out; have n1 := (HBN.out.cell 1).trans (ncs_1 N); rw [E2.out] at n1; have n2 := (HBN.out.cell 2).trans (ncs_2 N); rw [E3.out] at n2; have n4 := (HBN.out.cell 4).trans (ncs_4 N); rw [HM.out] at n4; simp only at n4; have la := Ka.out.ld HB.out; have kka := Ka.out.kind HB.out; have kta := Ka.out.text HB.out; have kna := Ka.out.names HB.out; have lb := Kb.out.ld HB.out; have kkb := Kb.out.kind HB.out; have ktb := Kb.out.text HB.out; have knb := Kb.out.names HB.out; clear hb) | (go_at_call 71; (with_reducible refine (cp0 _ HB.out).mono ?_); intro e w2 hp; obtain ⟨rfl, hb⟩ := hp; have HB := Lib.hid (HB.out.trans (hb.mono HB.out.size)); have HBN := Lib.hid (HBN.out.call hb); have ld := run_ldN HBN.out; have n1 := (HBN.out.cell 1).trans (ncs_1 N); rw [E2.out] at n1; have n2 := (HBN.out.cell 2).trans (ncs_2 N); rw [E3.out] at n2; have n4 := (HBN.out.cell 4).trans (ncs_4 N); rw [HM.out] at n4; simp only at n4; have la := Ka.out.ld HB.out; have kka := Ka.out.kind HB.out; have kta := Ka.out.text HB.out; have kna := Ka.out.names HB.out; have lb := Kb.out.ld HB.out; have kkb := Kb.out.kind HB.out; have ktb := Kb.out.text HB.out; have knb := Kb.out.names HB.out; clear hb) | (go_at_call 30; (with_reducible refine (cp1 _ HB.out).mono ?_); intro e w2 hp; obtain ⟨rfl, hb⟩ := hp; have HB := Lib.hid (HB.out.trans (hb.mono HB.out.size)); have HBN := Lib.hid (HBN.out.call hb); have ld := run_ldN HBN.out; have n1 := (HBN.out.cell 1).trans (ncs_1 N); rw [E2.out] at n1; have n2 := (HBN.out.cell 2).trans (ncs_2 N); rw [E3.out] at n2; have n4 := (HBN.out.cell 4).trans (ncs_4 N); rw [HM.out] at n4; simp only at n4; have la := Ka.out.ld HB.out; have kka := Ka.out.kind HB.out; have kta := Ka.out.text HB.out; have kna := Ka.out.names HB.out; have lb := Kb.out.ld HB.out; have kkb := Kb.out.kind HB.out; have ktb := Kb.out.text HB.out; have knb := Kb.out.names HB.out; clear hb) | (go_at_call 72; (with_reducible refine (cp2 HPp1.out _ HB.out).mono ?_); intro e w2 hp; obtain ⟨rfl, hb⟩ := hp; have HB := Lib.hid (HB.out.trans (hb.mono HB.out.size)); have HBN := Lib.hid (HBN.out.call hb); have ld := run_ldN HBN.out; have n1 := (HBN.out.cell 1).trans (ncs_1 N); rw [E2.out] at n1; have n2 := (HBN.out.cell 2).trans (ncs_2 N); rw [E3.out] at n2; have n4 := (HBN.out.cell 4).trans (ncs_4 N); rw [HM.out] at n4; simp only at n4; have la := Ka.out.ld HB.out; have kka := Ka.out.kind HB.out; have kta := Ka.out.text HB.out; have kna := Ka.out.names HB.out; have lb := Kb.out.ld HB.out; have kkb := Kb.out.kind HB.out; have ktb := Kb.out.text HB.out; have knb := Kb.out.names HB.out; clear hb))
    go_ret
    first | exact ⟨rfl, HB.out⟩ | exact ⟨rfl, bl_alloc HB.out⟩)
set_option maxRecDepth 100000 in
set_option maxHeartbeats 4000000 in
theorem rst_32 {n : Int} {tx : ByteArray} {ns : List ByteArray} {a : Tree}  (Ha : FunC a) {N : Nd} {w : World} (hr : Rd w (.mk 32 n tx ns [a]) N) (hs : Str (.mk 32 n tx ns [a])) : Calls Tryz.prog 52 #[.agg (ncs N)] w (PostR w (.bool (okT 83 (.mk 32 n tx ns [a])))) := by
  obtain ⟨hz, hzn, hzk⟩ := hs.of
  obtain ⟨bN, n0, n1, n2, n3, n4, HB, e1, e2, e3, e4, e5⟩ := nd_start hr
  rw [e1] at n0
  rw [pure_rst_32]
  have co : ∀ W, Calls Tryz.prog 29 #[.agg (ncs N), .bool false, .bool false, .bool false] W (PostR W (.bool (onlyV false false false n tx ns.length))) := fun W => by
    have := only_fff N W
    unfold onlyB at this
    rw [e2, e3, e4] at this
    exact this
  obtain ⟨o, ho⟩ : ∃ o, onlyV false false false n tx ns.length = o := ⟨_, rfl⟩
  rw [ho] at co
  obtain ⟨m, hm⟩ : ∃ m, N.kids.n = m := ⟨_, rfl⟩
  rw [hm] at n4 e5
  rw [e3] at n2
  rw [e2] at n1
  have ld := run_ldN bN
  obtain ⟨b0, o0, cp, xa, hkk, hc1, hc2, ka, ra⟩ := kids_1 hr
  rw [hkk] at hm n4
  simp only at hm n4
  subst hm
  have Ka := Lib.hid ka
  have hm : N.kids = ⟨some ⟨b0, o0, none⟩, 1, cp⟩ := hkk
  have la := ka.ld HB.out
  have kka := ka.kind HB.out
  have kta := ka.text HB.out
  have kna := ka.names HB.out
  have cp0 := fun W (hb : Below w.heap.size w W) => Ha (ra.below hb) (hzk.at (i := 0) rfl)
  obtain ⟨p0, hp0⟩ : ∃ q, funB a = q := ⟨_, rfl⟩
  rw [hp0] at cp0
  have ea : xa.text = a.text := rd_text ra
  have cp1 := fun W => plainName_any xa.text W (by rw [ea]; exact str_text (hzk.at (i := 0) rfl))
  obtain ⟨p1, hp1⟩ : ∃ q, varB a.text = q := ⟨_, rfl⟩
  rw [ea, hp1] at cp1
  rw [ea] at kta
  rw [ho]
  rw [hp0]
  rw [hp1]
  have HBN := Lib.hid bN
  have HM := Lib.hid hm
  have E2 := Lib.hid e2
  have E3 := Lib.hid e3
  clear hz hzn hzk hr hs e1 e2 e3 e4 e5 bN ho hkk ka ra hp0 Ha hp1 hm
  cases o; rotate_left; cases p0; rotate_left; cases p1
  all_goals (
    go_enter Tryz.func52, Tryz.ntmps52
    go_wp2_with (first | (go_at_call 29; (with_reducible refine (co _).mono ?_); intro e w2 hp; obtain ⟨rfl, hb⟩ := hp; have HB := Lib.hid (HB.out.trans (hb.mono HB.out.size)); have HBN := Lib.hid (HBN.out.call hb); have ld := run_ldN HBN.out; have n1 := (HBN.out.cell 1).trans (ncs_1 N); rw [E2.out] at n1; have n2 := (HBN.out.cell 2).trans (ncs_2 N); rw [E3.out] at n2; have n4 := (HBN.out.cell 4).trans (ncs_4 N); rw [HM.out] at n4; simp only at n4; have la := Ka.out.ld HB.out; have kka := Ka.out.kind HB.out; have kta := Ka.out.text HB.out; have kna := Ka.out.names HB.out; clear hb) | (go_at_call 70; (with_reducible refine (cp0 _ HB.out).mono ?_); intro e w2 hp; obtain ⟨rfl, hb⟩ := hp; have HB := Lib.hid (HB.out.trans (hb.mono HB.out.size)); have HBN := Lib.hid (HBN.out.call hb); have ld := run_ldN HBN.out; have n1 := (HBN.out.cell 1).trans (ncs_1 N); rw [E2.out] at n1; have n2 := (HBN.out.cell 2).trans (ncs_2 N); rw [E3.out] at n2; have n4 := (HBN.out.cell 4).trans (ncs_4 N); rw [HM.out] at n4; simp only at n4; have la := Ka.out.ld HB.out; have kka := Ka.out.kind HB.out; have kta := Ka.out.text HB.out; have kna := Ka.out.names HB.out; clear hb) | (go_at_call 68; (with_reducible refine (cp1 _).mono ?_); intro e w2 hp; obtain ⟨rfl, hb⟩ := hp; have HB := Lib.hid (HB.out.trans (hb.mono HB.out.size)); have HBN := Lib.hid (HBN.out.call hb); have ld := run_ldN HBN.out; have n1 := (HBN.out.cell 1).trans (ncs_1 N); rw [E2.out] at n1; have n2 := (HBN.out.cell 2).trans (ncs_2 N); rw [E3.out] at n2; have n4 := (HBN.out.cell 4).trans (ncs_4 N); rw [HM.out] at n4; simp only at n4; have la := Ka.out.ld HB.out; have kka := Ka.out.kind HB.out; have kta := Ka.out.text HB.out; have kna := Ka.out.names HB.out; clear hb))
    go_ret
    first | exact ⟨rfl, HB.out⟩ | exact ⟨rfl, bl_alloc HB.out⟩)
end Go.Proofs.YtinoaajohkafmaaGreat.Pr
