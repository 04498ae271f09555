/-
  The reference's functions on trees: what is left of the kinds, second part.
-/
import Derived.Test.YtinoaajohkafmaaGreatMt22
namespace Go.Proofs.YtinoaajohkafmaaGreat.Pr
open Go Go.RowKit Go.Proofs.YtinoaajohkafmaaGreat.Pa Go.Proofs.YtinoaajohkafmaaGreat.Uni
open Go.Proofs.YtinoaajohkafmaaGreat.Lx
set_option linter.unusedVariables false
set_option linter.unusedSimpArgs false
theorem pure_rpair_12 {n : Int} {tx : ByteArray} {ns : List ByteArray} {a : Tree}  : okT 68 (.mk 12 n tx ns [a]) = (onlyV false true false n tx ns.length && (rtB tx && ((a.kind == 14) && (emptyB a.text && ((a.names.length == 0) && funB a))))) := by
  rw [tl_data_only]
  obtain ⟨k1, n1, t1, s1, ks1⟩ := a
  have h := okKs_rep 83 ks1
  by_cases hk : k1 = 14
  · subst hk
    simp [okT, okKs, hereB, kindB, textB, namesB, numB, elseB, elseL, placesB, layB, exL, stL, funL, tryL, headK, emptyB, isUp, allT, up_app, up_list, up_rep, up_brace, Tree.kind, Tree.text, Tree.names, Tree.num, Tree.kids, funB, h] <;> grind
  · simp [okT, okKs, hereB, kindB, textB, namesB, numB, elseB, elseL, placesB, layB, exL, stL, funL, tryL, headK, emptyB, isUp, allT, up_app, up_list, up_rep, up_brace, Tree.kind, Tree.text, Tree.names, Tree.num, Tree.kids, funB, h, hk]
theorem pure_rpair_13 {n : Int} {tx : ByteArray} {ns : List ByteArray} {a : Tree}  : okT 68 (.mk 13 n tx ns [a]) = (onlyV false true false n tx ns.length && (rtB tx && ((a.kind == 14) && (emptyB a.text && ((a.names.length == 1) && funB a))))) := by
  rw [tl_data_only]
  obtain ⟨k1, n1, t1, s1, ks1⟩ := a
  have h := okKs_rep 83 ks1
  by_cases hk : k1 = 14
  · subst hk
    simp [okT, okKs, hereB, kindB, textB, namesB, numB, elseB, elseL, placesB, layB, exL, stL, funL, tryL, headK, emptyB, isUp, allT, up_app, up_list, up_rep, up_brace, Tree.kind, Tree.text, Tree.names, Tree.num, Tree.kids, funB, h] <;> grind
  · simp [okT, okKs, hereB, kindB, textB, namesB, numB, elseB, elseL, placesB, layB, exL, stL, funL, tryL, headK, emptyB, isUp, allT, up_app, up_list, up_rep, up_brace, Tree.kind, Tree.text, Tree.names, Tree.num, Tree.kids, funB, h, hk]
theorem pure_rex_14 {n : Int} {tx : ByteArray} {ns : List ByteArray} {ks : List Tree}  : okT 65 (.mk 14 n tx ns ks) = (funB (.mk 14 n tx ns ks) && (!(!emptyB tx) || varB tx)) := by
  have h := okKs_rep 83 ks
  simp [okT, okKs, hereB, kindB, textB, namesB, numB, elseB, elseL, placesB, layB, exL, stL, funL, tryL, headK, emptyB, isUp, allT, up_app, up_list, up_rep, up_brace, Tree.kind, Tree.text, Tree.names, Tree.num, Tree.kids, funB, h]
  grind
theorem pure_rex_19 {n : Int} {tx : ByteArray} {ns : List ByteArray} {a : Tree}  : okT 65 (.mk 19 n tx ns [a]) = (onlyV false true false n tx ns.length && (allT 65 [a] && (!(!un3L.contains tx.data.toList) || ((tx.data.toList == [100, 101, 108, 101, 116, 101]) && (!(!(a.kind == 15)) || (a.kind == 16)))))) := by
  rw [tl_data_only, ok_unx]
  obtain ⟨k1, n1, t1, s1, ks1⟩ := a
  simp [memberB, Tree.kind, un3L, unL, allT]
  grind
theorem pure_rex_24 {n : Int} {tx : ByteArray} {ns : List ByteArray} {a b : Tree}  : okT 65 (.mk 24 n tx ns [a, b]) = (onlyV false false false n tx ns.length && (allT 65 [a, b] && (a.kind == 8 || (a.kind == 15 || a.kind == 16)))) := by
  rw [tl_data_only, ok_setx]
  simp [memberB, allT, emptyB]
  grind
attribute [local go_sem ↓] ldK stK alK bdK bsK ldN stN alN bdN bsN bs_un3 bs_bin12
attribute [local irreducible] kcs ncs ncells un3_cs bin12_cs
attribute [local go_sem] run_alN run_stNg run_ldNg run_bdN0 run_un3 run_bin12
set_option maxRecDepth 100000 in
set_option maxHeartbeats 4000000 in
theorem rpair_12 {n : Int} {tx : ByteArray} {ns : List ByteArray} {a : Tree}  (Ha : FunC a) {N : Nd} {w : World} (hr : Rd w (.mk 12 n tx ns [a]) N) (hs : Str (.mk 12 n tx ns [a])) : Calls Tryz.prog 99 #[.agg (ncs N)] w (PostR w (.bool (okT 68 (.mk 12 n tx ns [a])))) := by
  obtain ⟨hz, hzn, hzk⟩ := hs.of
  obtain ⟨bN, n0, n1, n2, n3, n4, HB, e1, e2, e3, e4, e5⟩ := nd_start hr
  rw [e1] at n0
  rw [pure_rpair_12]
  have co : ∀ W, Calls Tryz.prog 29 #[.agg (ncs N), .bool false, .bool true, .bool false] W (PostR W (.bool (onlyV false true false n tx ns.length))) := fun W => by
    have := only_ftf N W
    unfold onlyB at this
    rw [e2, e3, e4] at this
    exact this
  obtain ⟨o, ho⟩ : ∃ o, onlyV false true false n tx ns.length = o := ⟨_, rfl⟩
  rw [ho] at co
  obtain ⟨m, hm⟩ : ∃ m, N.kids.n = m := ⟨_, rfl⟩
  rw [hm] at n4 e5
  rw [e3] at n2
  rw [e2] at n1
  have ld := run_ldN bN
  obtain ⟨b0, o0, cp, xa, hkk, hc1, hc2, ka, ra⟩ := kids_1 hr
  rw [hkk] at hm n4
  simp only at hm n4
  subst hm
  have Ka := Lib.hid ka
  have hm : N.kids = ⟨some ⟨b0, o0, none⟩, 1, cp⟩ := hkk
  have la := ka.ld HB.out
  have kka := ka.kind HB.out
  have kta := ka.text HB.out
  have kna := ka.names HB.out
  have cp0 := fun W => plainText_any tx W hz
  obtain ⟨p0, hp0⟩ : ∃ q, rtB tx = q := ⟨_, rfl⟩
  rw [hp0] at cp0
  obtain ⟨p1, hp1⟩ : ∃ q, (a.kind == 14) = q := ⟨_, rfl⟩
  rw [rd_kind ra] at kka
  have fp1 : (a.kind == 14) = p1 := hp1
  rw [rd_text ra] at kta
  obtain ⟨p2, hp2⟩ : ∃ q, emptyB a.text = q := ⟨_, rfl⟩
  have fp2 : a.text.toList.isEmpty = p2 := by rw [← hp2, tl_data]; rfl
  obtain ⟨an, hn0⟩ : ∃ an, xa.names.n = an := ⟨_, rfl⟩
  have hn1 := rd_names ra
  rw [hn0] at kna hn1
  obtain ⟨p3, hp3⟩ : ∃ q, (a.names.length == 0) = q := ⟨_, rfl⟩
  have fp3 : ((an : Int) == 0) = p3 := by rw [← hp3, hn1, Bool.eq_iff_iff]; simp; try omega
  have HN0 := Lib.hid hn0
  have cp4 := fun W (hb : Below w.heap.size w W) => Ha (ra.below hb) (hzk.at (i := 0) rfl)
  obtain ⟨p4, hp4⟩ : ∃ q, funB a = q := ⟨_, rfl⟩
  rw [hp4] at cp4
  rw [ho]
  rw [hp0]
  rw [hp1]
  rw [hp2]
  rw [hp3]
  rw [hp4]
  have EK := Lib.hid (rd_kind ra)
  have ET := Lib.hid (rd_text ra)
  have HBN := Lib.hid bN
  have HM := Lib.hid hm
  have E2 := Lib.hid e2
  have E3 := Lib.hid e3
  clear hz hzn hzk hr hs e1 e2 e3 e4 e5 bN ho hkk ka ra hp0 hp1 hp2 hp3 hn0 hn1 hp4 Ha hm
  cases o; rotate_left; cases p0; rotate_left; cases p1; rotate_left; cases p2; rotate_left; cases p3; rotate_left; cases p4
  all_goals (
    go_enter Tryz.func99, Tryz.ntmps99
    go_wp2_with (first | (go_at_call 29; (with_reducible refine (co _).mono ?_); intro e w2 hp; obtain ⟨rfl, hb⟩ := hp; have HB := Lib.hid (HB.out.trans (hb.mono HB.out.size)); have HBN := Lib.hid (HBN.out.call hb); have ld := run_ldN HBN.out; have n1 := (HBN.out.cell 1).trans (ncs_1 N); rw [E2.out] at n1; have n2 := (HBN.out.cell 2).trans (ncs_2 N); rw [E3.out] at n2; have n4 := (HBN.out.cell 4).trans (ncs_4 N); rw [HM.out] at n4; simp only at n4; have la := Ka.out.ld HB.out; have kka := Ka.out.kind HB.out; rw [EK.out] at kka; have kta := Ka.out.text HB.out; rw [ET.out] at kta; have kna := Ka.out.names HB.out; rw [HN0.out] at kna; clear hb) | (go_at_call 98; (with_reducible refine (cp0 _).mono ?_); intro e w2 hp; obtain ⟨rfl, hb⟩ := hp; have HB := Lib.hid (HB.out.trans (hb.mono HB.out.size)); have HBN := Lib.hid (HBN.out.call hb); have ld := run_ldN HBN.out; have n1 := (HBN.out.cell 1).trans (ncs_1 N); rw [E2.out] at n1; have n2 := (HBN.out.cell 2).trans (ncs_2 N); rw [E3.out] at n2; have n4 := (HBN.out.cell 4).trans (ncs_4 N); rw [HM.out] at n4; simp only at n4; have la := Ka.out.ld HB.out; have kka := Ka.out.kind HB.out; rw [EK.out] at kka; have kta := Ka.out.text HB.out; rw [ET.out] at kta; have kna := Ka.out.names HB.out; rw [HN0.out] at kna; clear hb) | (go_at_call 70; (with_reducible refine (cp4 _ HB.out).mono ?_); intro e w2 hp; obtain ⟨rfl, hb⟩ := hp; have HB := Lib.hid (HB.out.trans (hb.mono HB.out.size)); have HBN := Lib.hid (HBN.out.call hb); have ld := run_ldN HBN.out; have n1 := (HBN.out.cell 1).trans (ncs_1 N); rw [E2.out] at n1; have n2 := (HBN.out.cell 2).trans (ncs_2 N); rw [E3.out] at n2; have n4 := (HBN.out.cell 4).trans (ncs_4 N); rw [HM.out] at n4; simp only at n4; have la := Ka.out.ld HB.out; have kka := Ka.out.kind HB.out; rw [EK.out] at kka; have kta := Ka.out.text HB.out; rw [ET.out] at kta; have kna := Ka.out.names HB.out; rw [HN0.out] at kna; clear hb))
    go_ret
    first | exact ⟨rfl, HB.out⟩ | exact ⟨rfl, bl_alloc HB.out⟩)
set_option maxRecDepth 100000 in
set_option maxHeartbeats 4000000 in
theorem rpair_13 {n : Int} {tx : ByteArray} {ns : List ByteArray} {a : Tree}  (Ha : FunC a) {N : Nd} {w : World} (hr : Rd w (.mk 13 n tx ns [a]) N) (hs : Str (.mk 13 n tx ns [a])) : Calls Tryz.prog 99 #[.agg (ncs N)] w (PostR w (.bool (okT 68 (.mk 13 n tx ns [a])))) := by
  obtain ⟨hz, hzn, hzk⟩ := hs.of
  obtain ⟨bN, n0, n1, n2, n3, n4, HB, e1, e2, e3, e4, e5⟩ := nd_start hr
  rw [e1] at n0
  rw [pure_rpair_13]
  have co : ∀ W, Calls Tryz.prog 29 #[.agg (ncs N), .bool false, .bool true, .bool false] W (PostR W (.bool (onlyV false true false n tx ns.length))) := fun W => by
    have := only_ftf N W
    unfold onlyB at this
    rw [e2, e3, e4] at this
    exact this
  obtain ⟨o, ho⟩ : ∃ o, onlyV false true false n tx ns.length = o := ⟨_, rfl⟩
  rw [ho] at co
  obtain ⟨m, hm⟩ : ∃ m, N.kids.n = m := ⟨_, rfl⟩
  rw [hm] at n4 e5
  rw [e3] at n2
  rw [e2] at n1
  have ld := run_ldN bN
  obtain ⟨b0, o0, cp, xa, hkk, hc1, hc2, ka, ra⟩ := kids_1 hr
  rw [hkk] at hm n4
  simp only at hm n4
  subst hm
  have Ka := Lib.hid ka
  have hm : N.kids = ⟨some ⟨b0, o0, none⟩, 1, cp⟩ := hkk
  have la := ka.ld HB.out
  have kka := ka.kind HB.out
  have kta := ka.text HB.out
  have kna := ka.names HB.out
  have cp0 := fun W => plainText_any tx W hz
  obtain ⟨p0, hp0⟩ : ∃ q, rtB tx = q := ⟨_, rfl⟩
  rw [hp0] at cp0
  obtain ⟨p1, hp1⟩ : ∃ q, (a.kind == 14) = q := ⟨_, rfl⟩
  rw [rd_kind ra] at kka
  have fp1 : (a.kind == 14) = p1 := hp1
  rw [rd_text ra] at kta
  obtain ⟨p2, hp2⟩ : ∃ q, emptyB a.text = q := ⟨_, rfl⟩
  have fp2 : a.text.toList.isEmpty = p2 := by rw [← hp2, tl_data]; rfl
  obtain ⟨an, hn0⟩ : ∃ an, xa.names.n = an := ⟨_, rfl⟩
  have hn1 := rd_names ra
  rw [hn0] at kna hn1
  obtain ⟨p3, hp3⟩ : ∃ q, (a.names.length == 1) = q := ⟨_, rfl⟩
  have fp3 : ((an : Int) == 1) = p3 := by rw [← hp3, hn1, Bool.eq_iff_iff]; simp; try omega
  have HN0 := Lib.hid hn0
  have cp4 := fun W (hb : Below w.heap.size w W) => Ha (ra.below hb) (hzk.at (i := 0) rfl)
  obtain ⟨p4, hp4⟩ : ∃ q, funB a = q := ⟨_, rfl⟩
  rw [hp4] at cp4
  rw [ho]
  rw [hp0]
  rw [hp1]
  rw [hp2]
  rw [hp3]
  rw [hp4]
  have EK := Lib.hid (rd_kind ra)
  have ET := Lib.hid (rd_text ra)
  have HBN := Lib.hid bN
  have HM := Lib.hid hm
  have E2 := Lib.hid e2
  have E3 := Lib.hid e3
  clear hz hzn hzk hr hs e1 e2 e3 e4 e5 bN ho hkk ka ra hp0 hp1 hp2 hp3 hn0 hn1 hp4 Ha hm
  cases o; rotate_left; cases p0; rotate_left; cases p1; rotate_left; cases p2; rotate_left; cases p3; rotate_left; cases p4
  all_goals (
    go_enter Tryz.func99, Tryz.ntmps99
    go_wp2_with (first | (go_at_call 29; (with_reducible refine (co _).mono ?_); intro e w2 hp; obtain ⟨rfl, hb⟩ := hp; have HB := Lib.hid (HB.out.trans (hb.mono HB.out.size)); have HBN := Lib.hid (HBN.out.call hb); have ld := run_ldN HBN.out; have n1 := (HBN.out.cell 1).trans (ncs_1 N); rw [E2.out] at n1; have n2 := (HBN.out.cell 2).trans (ncs_2 N); rw [E3.out] at n2; have n4 := (HBN.out.cell 4).trans (ncs_4 N); rw [HM.out] at n4; simp only at n4; have la := Ka.out.ld HB.out; have kka := Ka.out.kind HB.out; rw [EK.out] at kka; have kta := Ka.out.text HB.out; rw [ET.out] at kta; have kna := Ka.out.names HB.out; rw [HN0.out] at kna; clear hb) | (go_at_call 98; (with_reducible refine (cp0 _).mono ?_); intro e w2 hp; obtain ⟨rfl, hb⟩ := hp; have HB := Lib.hid (HB.out.trans (hb.mono HB.out.size)); have HBN := Lib.hid (HBN.out.call hb); have ld := run_ldN HBN.out; have n1 := (HBN.out.cell 1).trans (ncs_1 N); rw [E2.out] at n1; have n2 := (HBN.out.cell 2).trans (ncs_2 N); rw [E3.out] at n2; have n4 := (HBN.out.cell 4).trans (ncs_4 N); rw [HM.out] at n4; simp only at n4; have la := Ka.out.ld HB.out; have kka := Ka.out.kind HB.out; rw [EK.out] at kka; have kta := Ka.out.text HB.out; rw [ET.out] at kta; have kna := Ka.out.names HB.out; rw [HN0.out] at kna; clear hb) | (go_at_call 70; (with_reducible refine (cp4 _ HB.out).mono ?_); intro e w2 hp; obtain ⟨rfl, hb⟩ := hp; have HB := Lib.hid (HB.out.trans (hb.mono HB.out.size)); have HBN := Lib.hid (HBN.out.call hb); have ld := run_ldN HBN.out; have n1 := (HBN.out.cell 1).trans (ncs_1 N); rw [E2.out] at n1; have n2 := (HBN.out.cell 2).trans (ncs_2 N); rw [E3.out] at n2; have n4 := (HBN.out.cell 4).trans (ncs_4 N); rw [HM.out] at n4; simp only at n4; have la := Ka.out.ld HB.out; have kka := Ka.out.kind HB.out; rw [EK.out] at kka; have kta := Ka.out.text HB.out; rw [ET.out] at kta; have kna := Ka.out.names HB.out; rw [HN0.out] at kna; clear hb))
    go_ret
    first | exact ⟨rfl, HB.out⟩ | exact ⟨rfl, bl_alloc HB.out⟩)
set_option maxRecDepth 100000 in
set_option maxHeartbeats 4000000 in
theorem rex_14 {n : Int} {tx : ByteArray} {ns : List ByteArray} {ks : List Tree}  (Hf : FunC (.mk 14 n tx ns ks)) {N : Nd} {w : World} (hr : Rd w (.mk 14 n tx ns ks) N) (hs : Str (.mk 14 n tx ns ks)) : Calls Tryz.prog 71 #[.agg (ncs N)] w (PostR w (.bool (okT 65 (.mk 14 n tx ns ks)))) := by
  obtain ⟨hz, hzn, hzk⟩ := hs.of
  obtain ⟨bN, n0, n1, n2, n3, n4, HB, e1, e2, e3, e4, e5⟩ := nd_start hr
  rw [e1] at n0
  rw [pure_rex_14]
  obtain ⟨m, hm⟩ : ∃ m, N.kids.n = m := ⟨_, rfl⟩
  rw [hm] at n4 e5
  rw [e3] at n2
  rw [e2] at n1
  have ld := run_ldN bN
  have cp0 := fun W (hb : Below w.heap.size w W) => Hf (hr.below hb) hs
  obtain ⟨p0, hp0⟩ : ∃ q, funB (.mk 14 n tx ns ks) = q := ⟨_, rfl⟩
  rw [hp0] at cp0
  obtain ⟨p1, hp1⟩ : ∃ q, (!emptyB tx) = q := ⟨_, rfl⟩
  have fp1 : tx.toList.isEmpty = !p1 := by rw [← hp1, tl_data, Bool.not_not]; rfl
  have cp2 := fun W => plainName_any tx W hz
  obtain ⟨p2, hp2⟩ : ∃ q, varB tx = q := ⟨_, rfl⟩
  rw [hp2] at cp2
  rw [hp0]
  rw [hp1]
  rw [hp2]
  have HBN := Lib.hid bN
  have HM := Lib.hid hm
  have E2 := Lib.hid e2
  have E3 := Lib.hid e3
  clear hz hzn hzk hr hs e1 e2 e3 e4 e5 bN hp0 Hf hp1 hp2 hm
  cases p0; rotate_left; cases p1; rotate_left; cases p2
  all_goals (
    go_enter Tryz.func71, Tryz.ntmps71
    go_wp2_with (first | (go_at_call 70; (with_reducible refine (cp0 _ HB.out).mono ?_); intro e w2 hp; obtain ⟨rfl, hb⟩ := hp; have HB := Lib.hid (HB.out.trans (hb.mono HB.out.size)); have HBN := Lib.hid (HBN.out.call hb); have ld := run_ldN HBN.out; have n1 := (HBN.out.cell 1).trans (ncs_1 N); rw [E2.out] at n1; have n2 := (HBN.out.cell 2).trans (ncs_2 N); rw [E3.out] at n2; have n4 := (HBN.out.cell 4).trans (ncs_4 N); rw [HM.out] at n4; clear hb) | (go_at_call 68; (with_reducible refine (cp2 _).mono ?_); intro e w2 hp; obtain ⟨rfl, hb⟩ := hp; have HB := Lib.hid (HB.out.trans (hb.mono HB.out.size)); have HBN := Lib.hid (HBN.out.call hb); have ld := run_ldN HBN.out; have n1 := (HBN.out.cell 1).trans (ncs_1 N); rw [E2.out] at n1; have n2 := (HBN.out.cell 2).trans (ncs_2 N); rw [E3.out] at n2; have n4 := (HBN.out.cell 4).trans (ncs_4 N); rw [HM.out] at n4; clear hb))
    go_ret
    first | exact ⟨rfl, HB.out⟩ | exact ⟨rfl, bl_alloc HB.out⟩)
set_option maxRecDepth 100000 in
set_option maxHeartbeats 4000000 in
theorem rex_19 {n : Int} {tx : ByteArray} {ns : List ByteArray} {a : Tree}  (IH : ExpsC [a]) {N : Nd} {w : World} (hr : Rd w (.mk 19 n tx ns [a]) N) (hs : Str (.mk 19 n tx ns [a])) : Calls Tryz.prog 71 #[.agg (ncs N)] w (PostR w (.bool (okT 65 (.mk 19 n tx ns [a])))) := by
  obtain ⟨hz, hzn, hzk⟩ := hs.of
  obtain ⟨bN, n0, n1, n2, n3, n4, HB, e1, e2, e3, e4, e5⟩ := nd_start hr
  rw [e1] at n0
  rw [pure_rex_19]
  have co : ∀ W, Calls Tryz.prog 29 #[.agg (ncs N), .bool false, .bool true, .bool false] W (PostR W (.bool (onlyV false true false n tx ns.length))) := fun W => by
    have := only_ftf N W
    unfold onlyB at this
    rw [e2, e3, e4] at this
    exact this
  obtain ⟨o, ho⟩ : ∃ o, onlyV false true false n tx ns.length = o := ⟨_, rfl⟩
  rw [ho] at co
  obtain ⟨m, hm⟩ : ∃ m, N.kids.n = m := ⟨_, rfl⟩
  rw [hm] at n4 e5
  rw [e3] at n2
  rw [e2] at n1
  have ld := run_ldN bN
  obtain ⟨b0, o0, cp, xa, hkk, hc1, hc2, ka, ra⟩ := kids_1 hr
  rw [hkk] at hm n4
  simp only at hm n4
  subst hm
  have Ka := Lib.hid ka
  have hm : N.kids = ⟨some ⟨b0, o0, none⟩, 1, cp⟩ := hkk
  have la := ka.ld HB.out
  have kka := ka.kind HB.out
  have kta := ka.text HB.out
  have kna := ka.names HB.out
  have cp0 := kids_ex hr IH hzk
  rw [hkk] at cp0
  simp only at cp0
  obtain ⟨p0, hp0⟩ : ∃ q, allT 65 [a] = q := ⟨_, rfl⟩
  rw [hp0] at cp0
  have cp1 := fun W => has_un3 W.heap.size tx (W.alloc (.cells un3_cs 9)) (Blk.new W _ _)
  obtain ⟨p1, hp1⟩ : ∃ q, (!un3L.contains tx.data.toList) = q := ⟨_, rfl⟩
  have ep1 : un3L.contains tx.data.toList = !p1 := by rw [← hp1, Bool.not_not]
  rw [ep1] at cp1
  clear ep1
  obtain ⟨p2, hp2⟩ : ∃ q, (tx.data.toList == [100, 101, 108, 101, 116, 101]) = q := ⟨_, rfl⟩
  have fp2 : (tx.toList == [100, 101, 108, 101, 116, 101]) = p2 := by rw [← hp2, tl_data]
  obtain ⟨p3, hp3⟩ : ∃ q, (!(a.kind == 15)) = q := ⟨_, rfl⟩
  have fp3 : (a.kind == 15) = !p3 := by rw [← hp3, Bool.not_not]
  obtain ⟨p4, hp4⟩ : ∃ q, (a.kind == 16) = q := ⟨_, rfl⟩
  have fp4 : (a.kind == 16) = p4 := hp4
  rw [ho]
  rw [hp0]
  rw [hp1]
  rw [hp2]
  rw [hp3]
  rw [hp4]
  have EK := Lib.hid (rd_kind ra)
  rw [rd_kind ra] at kka
  have HBN := Lib.hid bN
  have HM := Lib.hid hm
  have E2 := Lib.hid e2
  have E3 := Lib.hid e3
  clear hz hzn hzk hr hs e1 e2 e3 e4 e5 bN ho hkk ka ra hp0 IH hp1 hp2 hp3 hp4 hm
  cases o; rotate_left; cases p0; rotate_left; cases p1; rotate_left; cases p2; rotate_left; cases p3; rotate_left; cases p4
  all_goals (
    go_enter Tryz.func71, Tryz.ntmps71
    go_wp2_with (first | (go_at_call 29; (with_reducible refine (co _).mono ?_); intro e w2 hp; obtain ⟨rfl, hb⟩ := hp; have HB := Lib.hid (HB.out.trans (hb.mono HB.out.size)); have HBN := Lib.hid (HBN.out.call hb); have ld := run_ldN HBN.out; have n1 := (HBN.out.cell 1).trans (ncs_1 N); rw [E2.out] at n1; have n2 := (HBN.out.cell 2).trans (ncs_2 N); rw [E3.out] at n2; have n4 := (HBN.out.cell 4).trans (ncs_4 N); rw [HM.out] at n4; simp only at n4; have la := Ka.out.ld HB.out; have kka := Ka.out.kind HB.out; rw [EK.out] at kka; have kkx := fun o => Ka.out.kind (bl_alloc (o := o) HB.out); rw [EK.out] at kkx; have n2a := fun o => ((HBN.out.old o).cell 2).trans (ncs_2 N); rw [E3.out] at n2a; have n4a := fun o => ((HBN.out.old o).cell 4).trans (ncs_4 N); rw [HM.out] at n4a; simp only at n4a; have kta := Ka.out.text HB.out; have kna := Ka.out.names HB.out; clear hb) | (go_at_call 69; (with_reducible refine (cp0 _ HB.out).mono ?_); intro e w2 hp; obtain ⟨rfl, hb⟩ := hp; have HB := Lib.hid (HB.out.trans (hb.mono HB.out.size)); have HBN := Lib.hid (HBN.out.call hb); have ld := run_ldN HBN.out; have n1 := (HBN.out.cell 1).trans (ncs_1 N); rw [E2.out] at n1; have n2 := (HBN.out.cell 2).trans (ncs_2 N); rw [E3.out] at n2; have n4 := (HBN.out.cell 4).trans (ncs_4 N); rw [HM.out] at n4; simp only at n4; have la := Ka.out.ld HB.out; have kka := Ka.out.kind HB.out; rw [EK.out] at kka; have kkx := fun o => Ka.out.kind (bl_alloc (o := o) HB.out); rw [EK.out] at kkx; have n2a := fun o => ((HBN.out.old o).cell 2).trans (ncs_2 N); rw [E3.out] at n2a; have n4a := fun o => ((HBN.out.old o).cell 4).trans (ncs_4 N); rw [HM.out] at n4a; simp only at n4a; have kta := Ka.out.text HB.out; have kna := Ka.out.names HB.out; clear hb) | (go_at_call 53; (with_reducible refine (cp1 _).mono ?_); intro e w2 hp; obtain ⟨rfl, hb⟩ := hp; have HB := Lib.hid ((bl_alloc HB.out).trans (hb.mono (bl_alloc HB.out).size)); have HBN := Lib.hid ((HBN.out.old _).call hb); have ld := run_ldN HBN.out; have n1 := (HBN.out.cell 1).trans (ncs_1 N); rw [E2.out] at n1; have n2 := (HBN.out.cell 2).trans (ncs_2 N); rw [E3.out] at n2; have n4 := (HBN.out.cell 4).trans (ncs_4 N); rw [HM.out] at n4; simp only at n4; have la := Ka.out.ld HB.out; have kka := Ka.out.kind HB.out; rw [EK.out] at kka; have kkx := fun o => Ka.out.kind (bl_alloc (o := o) HB.out); rw [EK.out] at kkx; have n2a := fun o => ((HBN.out.old o).cell 2).trans (ncs_2 N); rw [E3.out] at n2a; have n4a := fun o => ((HBN.out.old o).cell 4).trans (ncs_4 N); rw [HM.out] at n4a; simp only at n4a; have kta := Ka.out.text HB.out; have kna := Ka.out.names HB.out; clear hb))
    go_ret
    first | exact ⟨rfl, HB.out⟩ | exact ⟨rfl, bl_alloc HB.out⟩)
set_option maxRecDepth 100000 in
set_option maxHeartbeats 4000000 in
theorem rex_24 {n : Int} {tx : ByteArray} {ns : List ByteArray} {a b : Tree}  (IH : ExpsC [a, b]) {N : Nd} {w : World} (hr : Rd w (.mk 24 n tx ns [a, b]) N) (hs : Str (.mk 24 n tx ns [a, b])) : Calls Tryz.prog 71 #[.agg (ncs N)] w (PostR w (.bool (okT 65 (.mk 24 n tx ns [a, b])))) := by
  obtain ⟨hz, hzn, hzk⟩ := hs.of
  obtain ⟨bN, n0, n1, n2, n3, n4, HB, e1, e2, e3, e4, e5⟩ := nd_start hr
  rw [e1] at n0
  rw [pure_rex_24]
  have co : ∀ W, Calls Tryz.prog 29 #[.agg (ncs N), .bool false, .bool false, .bool false] W (PostR W (.bool (onlyV false false false n tx ns.length))) := fun W => by
    have := only_fff N W
    unfold onlyB at this
    rw [e2, e3, e4] at this
    exact this
  obtain ⟨o, ho⟩ : ∃ o, onlyV false false false n tx ns.length = o := ⟨_, rfl⟩
  rw [ho] at co
  obtain ⟨m, hm⟩ : ∃ m, N.kids.n = m := ⟨_, rfl⟩
  rw [hm] at n4 e5
  rw [e3] at n2
  rw [e2] at n1
  have ld := run_ldN bN
  obtain ⟨b0, o0, cp, xa, xb, hkk, hc1, hc2, ka, ra, kb, rb⟩ := kids_2 hr
  rw [hkk] at hm n4
  simp only at hm n4
  subst hm
  have Ka := Lib.hid ka
  have Kb := Lib.hid kb
  have hm : N.kids = ⟨some ⟨b0, o0, none⟩, 2, cp⟩ := hkk
  have la := ka.ld HB.out
  have kka := ka.kind HB.out
  have kta := ka.text HB.out
  have kna := ka.names HB.out
  have cp0 := kids_ex hr IH hzk
  rw [hkk] at cp0
  simp only at cp0
  obtain ⟨p0, hp0⟩ : ∃ q, allT 65 [a, b] = q := ⟨_, rfl⟩
  rw [hp0] at cp0
  have cp1 := fun W => target_any xa W
  rw [rd_kind ra] at cp1
  obtain ⟨p1, hp1⟩ : ∃ q, (a.kind == 8 || (a.kind == 15 || a.kind == 16)) = q := ⟨_, rfl⟩
  rw [hp1] at cp1
  rw [ho]
  rw [hp0]
  rw [hp1]
  have HBN := Lib.hid bN
  have HM := Lib.hid hm
  have E2 := Lib.hid e2
  have E3 := Lib.hid e3
  clear hz hzn hzk hr hs e1 e2 e3 e4 e5 bN ho hkk ka kb ra rb hp0 IH hp1 hm
  cases o; rotate_left; cases p0; rotate_left; cases p1
  all_goals (
    go_enter Tryz.func71, Tryz.ntmps71
    go_wp2_with (first | (go_at_call 29; (with_reducible refine (co _).mono ?_); intro e w2 hp; obtain ⟨rfl, hb⟩ := hp; have HB := Lib.hid (HB.out.trans (hb.mono HB.out.size)); have HBN := Lib.hid (HBN.out.call hb); have ld := run_ldN HBN.out; have n1 := (HBN.out.cell 1).trans (ncs_1 N); rw [E2.out] at n1; have n2 := (HBN.out.cell 2).trans (ncs_2 N); rw [E3.out] at n2; have n4 := (HBN.out.cell 4).trans (ncs_4 N); rw [HM.out] at n4; simp only at n4; have la := Ka.out.ld HB.out; have kka := Ka.out.kind HB.out; have kta := Ka.out.text HB.out; have kna := Ka.out.names HB.out; clear hb) | (go_at_call 69; (with_reducible refine (cp0 _ HB.out).mono ?_); intro e w2 hp; obtain ⟨rfl, hb⟩ := hp; have HB := Lib.hid (HB.out.trans (hb.mono HB.out.size)); have HBN := Lib.hid (HBN.out.call hb); have ld := run_ldN HBN.out; have n1 := (HBN.out.cell 1).trans (ncs_1 N); rw [E2.out] at n1; have n2 := (HBN.out.cell 2).trans (ncs_2 N); rw [E3.out] at n2; have n4 := (HBN.out.cell 4).trans (ncs_4 N); rw [HM.out] at n4; simp only at n4; have la := Ka.out.ld HB.out; have kka := Ka.out.kind HB.out; have kta := Ka.out.text HB.out; have kna := Ka.out.names HB.out; clear hb) | (go_at_call 100; (with_reducible refine (cp1 _).mono ?_); intro e w2 hp; obtain ⟨rfl, hb⟩ := hp; have HB := Lib.hid (HB.out.trans (hb.mono HB.out.size)); have HBN := Lib.hid (HBN.out.call hb); have ld := run_ldN HBN.out; have n1 := (HBN.out.cell 1).trans (ncs_1 N); rw [E2.out] at n1; have n2 := (HBN.out.cell 2).trans (ncs_2 N); rw [E3.out] at n2; have n4 := (HBN.out.cell 4).trans (ncs_4 N); rw [HM.out] at n4; simp only at n4; have la := Ka.out.ld HB.out; have kka := Ka.out.kind HB.out; have kta := Ka.out.text HB.out; have kna := Ka.out.names HB.out; clear hb))
    go_ret
    first | exact ⟨rfl, HB.out⟩ | exact ⟨rfl, bl_alloc HB.out⟩)
end Go.Proofs.YtinoaajohkafmaaGreat.Pr
