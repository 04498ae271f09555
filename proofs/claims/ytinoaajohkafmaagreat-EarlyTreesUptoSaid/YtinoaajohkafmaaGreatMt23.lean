/-
  The reference's try.
-/
import Derived.Test.YtinoaajohkafmaaGreatMt22
namespace Go.Proofs.YtinoaajohkafmaaGreat.Pr
open Go Go.RowKit Go.Proofs.YtinoaajohkafmaaGreat.Pa Go.Proofs.YtinoaajohkafmaaGreat.Uni
open Go.Proofs.YtinoaajohkafmaaGreat.Lx
set_option linter.unusedVariables false
set_option linter.unusedSimpArgs false
theorem rd_kids {w : World} {t : Tree} {x : Nd} (h : Rd w t x) : x.kids.n = t.kids.length := by
  cases t
  unfold Rd at h
  obtain ⟨-, -, -, -, xs, h5, h6⟩ := h
  rw [h5.1, Rds.len h6]
  rfl
theorem pure_rtry_lo {n : Int} {tx : ByteArray} {ns : List ByteArray} {ks : List Tree} (hh : n < 1) : okT 83 (.mk 38 n tx ns ks) = (onlyV true false false n tx ns.length && decide (1 ≤ n ∧ n ≤ 3)) := by
  rw [tl_data_only]
  have : ¬ (1 ≤ n ∧ n ≤ 3) := by omega
  simp [okT, hereB, kindB, textB, namesB, numB, this]
theorem pure_rtry_hi {n : Int} {tx : ByteArray} {ns : List ByteArray} {ks : List Tree} (hh : 3 < n) : okT 83 (.mk 38 n tx ns ks) = (onlyV true false false n tx ns.length && decide (1 ≤ n ∧ n ≤ 3)) := by
  rw [tl_data_only]
  have : ¬ (1 ≤ n ∧ n ≤ 3) := by omega
  simp [okT, hereB, kindB, textB, namesB, numB, this]
theorem pure_rtry_1n {tx : ByteArray} {ns : List ByteArray} {ks : List Tree} (hh : ks.length ≠ 2) : okT 83 (.mk 38 1 tx ns ks) = (onlyV true false false 1 tx ns.length && decide (ks.length = 2)) := by
  rw [tl_data_only]
  rcases ks with _ | ⟨a, _ | ⟨b, _ | ⟨c, ks⟩⟩⟩ <;> simp [okT, okKs, hereB, kindB, textB, namesB, numB, elseB, elseL, placesB, layB, exL, stL, funL, tryL, headK, emptyB, isUp, allT, up_app, up_list, up_rep, up_brace, Tree.kind, Tree.text, Tree.names, Tree.num, Tree.kids] at hh ⊢
theorem pure_rtry_2n {tx : ByteArray} {ns : List ByteArray} {ks : List Tree} (hh : ks.length ≠ 2) : okT 83 (.mk 38 2 tx ns ks) = (onlyV true false false 2 tx ns.length && decide (ks.length = 2)) := by
  rw [tl_data_only]
  rcases ks with _ | ⟨a, _ | ⟨b, _ | ⟨c, ks⟩⟩⟩ <;> simp [okT, okKs, hereB, kindB, textB, namesB, numB, elseB, elseL, placesB, layB, exL, stL, funL, tryL, headK, emptyB, isUp, allT, up_app, up_list, up_rep, up_brace, Tree.kind, Tree.text, Tree.names, Tree.num, Tree.kids] at hh ⊢
theorem pure_rtry_3n {tx : ByteArray} {ns : List ByteArray} {ks : List Tree} (hh : ks.length ≠ 3) : okT 83 (.mk 38 3 tx ns ks) = (onlyV true false false 3 tx ns.length && decide (ks.length = 3)) := by
  rw [tl_data_only]
  rcases ks with _ | ⟨a, _ | ⟨b, _ | ⟨c, _ | ⟨d, ks⟩⟩⟩⟩ <;> simp [okT, okKs, hereB, kindB, textB, namesB, numB, elseB, elseL, placesB, layB, exL, stL, funL, tryL, headK, emptyB, isUp, allT, up_app, up_list, up_rep, up_brace, Tree.kind, Tree.text, Tree.names, Tree.num, Tree.kids] at hh ⊢
theorem pure_rtry_2 {tx : ByteArray} {ns : List ByteArray} {a b : Tree}  : okT 83 (.mk 38 2 tx ns [a, b]) = (onlyV true false false 2 tx ns.length && (okT 66 a && okT 66 b)) := by
  rw [tl_data_only]
  simp [okT, okKs, hereB, kindB, textB, namesB, numB, elseB, elseL, placesB, layB, exL, stL, funL, tryL, headK, emptyB, isUp, allT, up_app, up_list, up_rep, up_brace, Tree.kind, Tree.text, Tree.names, Tree.num, Tree.kids] <;> grind
theorem pure_rtry_1d {tx : ByteArray} {ns : List ByteArray} {kb nb : Int} {tb : ByteArray} {sb : List ByteArray} {a d : Tree}   : okT 83 (.mk 38 1 tx ns [a, (.mk kb nb tb sb [d])]) = (onlyV true false false 1 tx ns.length && (okT 66 a && ((kb == 39) && (onlyV false true false nb tb sb.length && (varB tb && okT 66 d))))) := by
  rw [tl_data_only, tl_data_only]
  by_cases hk : kb = 39
  · subst hk
    simp [okT, okKs, hereB, kindB, textB, namesB, numB, elseB, elseL, placesB, layB, exL, stL, funL, tryL, headK, emptyB, isUp, allT, up_app, up_list, up_rep, up_brace, Tree.kind, Tree.text, Tree.names, Tree.num, Tree.kids] <;> grind
  · simp [okT, okKs, hereB, kindB, textB, namesB, numB, elseB, elseL, placesB, layB, exL, stL, funL, tryL, headK, emptyB, isUp, allT, up_app, up_list, up_rep, up_brace, Tree.kind, Tree.text, Tree.names, Tree.num, Tree.kids, hk]
theorem pure_rtry_1k {tx : ByteArray} {ns : List ByteArray} {kb nb : Int} {tb : ByteArray} {sb : List ByteArray} {a : Tree} {kk : List Tree} (hh : kk.length ≠ 1) : okT 83 (.mk 38 1 tx ns [a, (.mk kb nb tb sb kk)]) = (onlyV true false false 1 tx ns.length && (okT 66 a && ((kb == 39) && (onlyV false true false nb tb sb.length && (varB tb && decide (kk.length = 1)))))) := by
  rw [tl_data_only, tl_data_only]
  by_cases hk : kb = 39
  · subst hk
    rcases kk with _ | ⟨x1, _ | ⟨x2, x3⟩⟩ <;>
    simp [okT, okKs, hereB, kindB, textB, namesB, numB, elseB, elseL, placesB, layB, exL, stL, funL, tryL, headK, emptyB, isUp, allT, up_app, up_list, up_rep, up_brace, Tree.kind, Tree.text, Tree.names, Tree.num, Tree.kids] at hh ⊢
  · simp [okT, okKs, hereB, kindB, textB, namesB, numB, elseB, elseL, placesB, layB, exL, stL, funL, tryL, headK, emptyB, isUp, allT, up_app, up_list, up_rep, up_brace, Tree.kind, Tree.text, Tree.names, Tree.num, Tree.kids, hk]
theorem pure_rtry_3d {tx : ByteArray} {ns : List ByteArray} {kb nb : Int} {tb : ByteArray} {sb : List ByteArray} {a d c : Tree}   : okT 83 (.mk 38 3 tx ns [a, (.mk kb nb tb sb [d]), c]) = (onlyV true false false 3 tx ns.length && (okT 66 a && ((kb == 39) && (onlyV false true false nb tb sb.length && (varB tb && (okT 66 d && okT 66 c)))))) := by
  rw [tl_data_only, tl_data_only]
  by_cases hk : kb = 39
  · subst hk
    simp [okT, okKs, hereB, kindB, textB, namesB, numB, elseB, elseL, placesB, layB, exL, stL, funL, tryL, headK, emptyB, isUp, allT, up_app, up_list, up_rep, up_brace, Tree.kind, Tree.text, Tree.names, Tree.num, Tree.kids] <;> grind
  · simp [okT, okKs, hereB, kindB, textB, namesB, numB, elseB, elseL, placesB, layB, exL, stL, funL, tryL, headK, emptyB, isUp, allT, up_app, up_list, up_rep, up_brace, Tree.kind, Tree.text, Tree.names, Tree.num, Tree.kids, hk]
theorem pure_rtry_3k {tx : ByteArray} {ns : List ByteArray} {kb nb : Int} {tb : ByteArray} {sb : List ByteArray} {a c : Tree} {kk : List Tree} (hh : kk.length ≠ 1) : okT 83 (.mk 38 3 tx ns [a, (.mk kb nb tb sb kk), c]) = (onlyV true false false 3 tx ns.length && (okT 66 a && ((kb == 39) && (onlyV false true false nb tb sb.length && (varB tb && decide (kk.length = 1)))))) := by
  rw [tl_data_only, tl_data_only]
  by_cases hk : kb = 39
  · subst hk
    rcases kk with _ | ⟨x1, _ | ⟨x2, x3⟩⟩ <;>
    simp [okT, okKs, hereB, kindB, textB, namesB, numB, elseB, elseL, placesB, layB, exL, stL, funL, tryL, headK, emptyB, isUp, allT, up_app, up_list, up_rep, up_brace, Tree.kind, Tree.text, Tree.names, Tree.num, Tree.kids] at hh ⊢
  · simp [okT, okKs, hereB, kindB, textB, namesB, numB, elseB, elseL, placesB, layB, exL, stL, funL, tryL, headK, emptyB, isUp, allT, up_app, up_list, up_rep, up_brace, Tree.kind, Tree.text, Tree.names, Tree.num, Tree.kids, hk]
attribute [local go_sem ↓] ldK stK alK bdK bsK ldN stN alN bdN bsN bs_un3 bs_bin12
attribute [local irreducible] kcs ncs ncells un3_cs bin12_cs
attribute [local go_sem] run_alN run_stNg run_ldNg run_bdN0 run_un3 run_bin12
set_option maxRecDepth 100000 in
set_option maxHeartbeats 4000000 in
theorem rtry_lo {n : Int} {tx : ByteArray} {ns : List ByteArray} {ks : List Tree} (hh : n < 1)  {N : Nd} {w : World} (hr : Rd w (.mk 38 n tx ns ks) N) (hs : Str (.mk 38 n tx ns ks)) : Calls Tryz.prog 73 #[.agg (ncs N)] w (PostR w (.bool (tryB (.mk 38 n tx ns ks)))) := by
  unfold tryB
  obtain ⟨hz, hzn, hzk⟩ := hs.of
  obtain ⟨bN, n0, n1, n2, n3, n4, HB, e1, e2, e3, e4, e5⟩ := nd_start hr
  rw [e1] at n0
  rw [pure_rtry_lo hh]
  have co : ∀ W, Calls Tryz.prog 29 #[.agg (ncs N), .bool true, .bool false, .bool false] W (PostR W (.bool (onlyV true false false n tx ns.length))) := fun W => by
    have := only_tff N W
    unfold onlyB at this
    rw [e2, e3, e4] at this
    exact this
  obtain ⟨o, ho⟩ : ∃ o, onlyV true false false n tx ns.length = o := ⟨_, rfl⟩
  rw [ho] at co
  obtain ⟨m, hm⟩ : ∃ m, N.kids.n = m := ⟨_, rfl⟩
  rw [hm] at n4 e5
  rw [e3] at n2
  rw [e2] at n1
  have ld := run_ldN bN
  have ep0 : decide (1 ≤ n ∧ n ≤ 3) = false := by simp; omega
  rw [ep0]
  have fp00 : decide (n < 1) = true := by simp; omega
  clear ep0
  rw [ho]
  have HBN := Lib.hid bN
  have HM := Lib.hid hm
  have E2 := Lib.hid e2
  have E3 := Lib.hid e3
  clear hz hzn hzk hr hs e1 e2 e3 e4 e5 bN ho hh hm
  cases o
  all_goals (
    go_enter Tryz.func73, Tryz.ntmps73
    go_wp2_with (first | (go_at_call 29; (with_reducible refine (co _).mono ?_); intro e w2 hp; obtain ⟨rfl, hb⟩ := hp; have HB := Lib.hid (HB.out.trans (hb.mono HB.out.size)); have HBN := Lib.hid (HBN.out.call hb); have ld := run_ldN HBN.out; have n1 := (HBN.out.cell 1).trans (ncs_1 N); rw [E2.out] at n1; have n2 := (HBN.out.cell 2).trans (ncs_2 N); rw [E3.out] at n2; have n4 := (HBN.out.cell 4).trans (ncs_4 N); rw [HM.out] at n4; clear hb))
    go_ret
    first | exact ⟨rfl, HB.out⟩ | exact ⟨rfl, bl_alloc HB.out⟩)
set_option maxRecDepth 100000 in
set_option maxHeartbeats 4000000 in
theorem rtry_hi {n : Int} {tx : ByteArray} {ns : List ByteArray} {ks : List Tree} (hh : 3 < n)  {N : Nd} {w : World} (hr : Rd w (.mk 38 n tx ns ks) N) (hs : Str (.mk 38 n tx ns ks)) : Calls Tryz.prog 73 #[.agg (ncs N)] w (PostR w (.bool (tryB (.mk 38 n tx ns ks)))) := by
  unfold tryB
  obtain ⟨hz, hzn, hzk⟩ := hs.of
  obtain ⟨bN, n0, n1, n2, n3, n4, HB, e1, e2, e3, e4, e5⟩ := nd_start hr
  rw [e1] at n0
  rw [pure_rtry_hi hh]
  have co : ∀ W, Calls Tryz.prog 29 #[.agg (ncs N), .bool true, .bool false, .bool false] W (PostR W (.bool (onlyV true false false n tx ns.length))) := fun W => by
    have := only_tff N W
    unfold onlyB at this
    rw [e2, e3, e4] at this
    exact this
  obtain ⟨o, ho⟩ : ∃ o, onlyV true false false n tx ns.length = o := ⟨_, rfl⟩
  rw [ho] at co
  obtain ⟨m, hm⟩ : ∃ m, N.kids.n = m := ⟨_, rfl⟩
  rw [hm] at n4 e5
  rw [e3] at n2
  rw [e2] at n1
  have ld := run_ldN bN
  have ep0 : decide (1 ≤ n ∧ n ≤ 3) = false := by simp; omega
  rw [ep0]
  have fp00 : decide (n < 1) = false := by simp; omega
  have fp01 : decide (3 < n) = true := by simp; omega
  clear ep0
  rw [ho]
  have HBN := Lib.hid bN
  have HM := Lib.hid hm
  have E2 := Lib.hid e2
  have E3 := Lib.hid e3
  clear hz hzn hzk hr hs e1 e2 e3 e4 e5 bN ho hh hm
  cases o
  all_goals (
    go_enter Tryz.func73, Tryz.ntmps73
    go_wp2_with (first | (go_at_call 29; (with_reducible refine (co _).mono ?_); intro e w2 hp; obtain ⟨rfl, hb⟩ := hp; have HB := Lib.hid (HB.out.trans (hb.mono HB.out.size)); have HBN := Lib.hid (HBN.out.call hb); have ld := run_ldN HBN.out; have n1 := (HBN.out.cell 1).trans (ncs_1 N); rw [E2.out] at n1; have n2 := (HBN.out.cell 2).trans (ncs_2 N); rw [E3.out] at n2; have n4 := (HBN.out.cell 4).trans (ncs_4 N); rw [HM.out] at n4; clear hb))
    go_ret
    first | exact ⟨rfl, HB.out⟩ | exact ⟨rfl, bl_alloc HB.out⟩)
set_option maxRecDepth 100000 in
set_option maxHeartbeats 4000000 in
theorem rtry_1n {tx : ByteArray} {ns : List ByteArray} {ks : List Tree} (hh : ks.length ≠ 2)  {N : Nd} {w : World} (hr : Rd w (.mk 38 1 tx ns ks) N) (hs : Str (.mk 38 1 tx ns ks)) : Calls Tryz.prog 73 #[.agg (ncs N)] w (PostR w (.bool (tryB (.mk 38 1 tx ns ks)))) := by
  unfold tryB
  obtain ⟨hz, hzn, hzk⟩ := hs.of
  obtain ⟨bN, n0, n1, n2, n3, n4, HB, e1, e2, e3, e4, e5⟩ := nd_start hr
  rw [e1] at n0
  rw [pure_rtry_1n hh]
  have co : ∀ W, Calls Tryz.prog 29 #[.agg (ncs N), .bool true, .bool false, .bool false] W (PostR W (.bool (onlyV true false false 1 tx ns.length))) := fun W => by
    have := only_tff N W
    unfold onlyB at this
    rw [e2, e3, e4] at this
    exact this
  obtain ⟨o, ho⟩ : ∃ o, onlyV true false false 1 tx ns.length = o := ⟨_, rfl⟩
  rw [ho] at co
  obtain ⟨m, hm⟩ : ∃ m, N.kids.n = m := ⟨_, rfl⟩
  rw [hm] at n4 e5
  rw [e3] at n2
  rw [e2] at n1
  have ld := run_ldN bN
  have bb1 : bits .and .i64 1 1 = 1 := by decide +kernel
  have bb2 : bits .and .i64 2 1 = 0 := by decide +kernel
  have bb3 : bits .and .i64 3 1 = 1 := by decide +kernel
  have bb4 : bits .and .i64 1 2 = 0 := by decide +kernel
  have bb5 : bits .and .i64 2 2 = 2 := by decide +kernel
  have bb6 : bits .and .i64 3 2 = 2 := by decide +kernel
  have bb7 : bits .and .i64 0 1 = 0 := by decide +kernel
  have ep0 : decide (ks.length = 2) = false := by simp [hh]
  rw [ep0]
  have fp00 : ((m : Int) != 2) = true := by rw [e5]; simp; omega
  clear ep0
  rw [ho]
  have HBN := Lib.hid bN
  have HM := Lib.hid hm
  have E2 := Lib.hid e2
  have E3 := Lib.hid e3
  clear hz hzn hzk hr hs e1 e2 e3 e4 e5 bN ho hh hm
  cases o
  all_goals (
    go_enter Tryz.func73, Tryz.ntmps73
    go_wp2_with (first | (go_at_call 29; (with_reducible refine (co _).mono ?_); intro e w2 hp; obtain ⟨rfl, hb⟩ := hp; have HB := Lib.hid (HB.out.trans (hb.mono HB.out.size)); have HBN := Lib.hid (HBN.out.call hb); have ld := run_ldN HBN.out; have n1 := (HBN.out.cell 1).trans (ncs_1 N); rw [E2.out] at n1; have n2 := (HBN.out.cell 2).trans (ncs_2 N); rw [E3.out] at n2; have n4 := (HBN.out.cell 4).trans (ncs_4 N); rw [HM.out] at n4; clear hb))
    go_ret
    first | exact ⟨rfl, HB.out⟩ | exact ⟨rfl, bl_alloc HB.out⟩)
set_option maxRecDepth 100000 in
set_option maxHeartbeats 4000000 in
theorem rtry_2n {tx : ByteArray} {ns : List ByteArray} {ks : List Tree} (hh : ks.length ≠ 2)  {N : Nd} {w : World} (hr : Rd w (.mk 38 2 tx ns ks) N) (hs : Str (.mk 38 2 tx ns ks)) : Calls Tryz.prog 73 #[.agg (ncs N)] w (PostR w (.bool (tryB (.mk 38 2 tx ns ks)))) := by
  unfold tryB
  obtain ⟨hz, hzn, hzk⟩ := hs.of
  obtain ⟨bN, n0, n1, n2, n3, n4, HB, e1, e2, e3, e4, e5⟩ := nd_start hr
  rw [e1] at n0
  rw [pure_rtry_2n hh]
  have co : ∀ W, Calls Tryz.prog 29 #[.agg (ncs N), .bool true, .bool false, .bool false] W (PostR W (.bool (onlyV true false false 2 tx ns.length))) := fun W => by
    have := only_tff N W
    unfold onlyB at this
    rw [e2, e3, e4] at this
    exact this
  obtain ⟨o, ho⟩ : ∃ o, onlyV true false false 2 tx ns.length = o := ⟨_, rfl⟩
  rw [ho] at co
  obtain ⟨m, hm⟩ : ∃ m, N.kids.n = m := ⟨_, rfl⟩
  rw [hm] at n4 e5
  rw [e3] at n2
  rw [e2] at n1
  have ld := run_ldN bN
  have bb1 : bits .and .i64 1 1 = 1 := by decide +kernel
  have bb2 : bits .and .i64 2 1 = 0 := by decide +kernel
  have bb3 : bits .and .i64 3 1 = 1 := by decide +kernel
  have bb4 : bits .and .i64 1 2 = 0 := by decide +kernel
  have bb5 : bits .and .i64 2 2 = 2 := by decide +kernel
  have bb6 : bits .and .i64 3 2 = 2 := by decide +kernel
  have bb7 : bits .and .i64 0 1 = 0 := by decide +kernel
  have ep0 : decide (ks.length = 2) = false := by simp [hh]
  rw [ep0]
  have fp00 : ((m : Int) != 2) = true := by rw [e5]; simp; omega
  clear ep0
  rw [ho]
  have HBN := Lib.hid bN
  have HM := Lib.hid hm
  have E2 := Lib.hid e2
  have E3 := Lib.hid e3
  clear hz hzn hzk hr hs e1 e2 e3 e4 e5 bN ho hh hm
  cases o
  all_goals (
    go_enter Tryz.func73, Tryz.ntmps73
    go_wp2_with (first | (go_at_call 29; (with_reducible refine (co _).mono ?_); intro e w2 hp; obtain ⟨rfl, hb⟩ := hp; have HB := Lib.hid (HB.out.trans (hb.mono HB.out.size)); have HBN := Lib.hid (HBN.out.call hb); have ld := run_ldN HBN.out; have n1 := (HBN.out.cell 1).trans (ncs_1 N); rw [E2.out] at n1; have n2 := (HBN.out.cell 2).trans (ncs_2 N); rw [E3.out] at n2; have n4 := (HBN.out.cell 4).trans (ncs_4 N); rw [HM.out] at n4; clear hb))
    go_ret
    first | exact ⟨rfl, HB.out⟩ | exact ⟨rfl, bl_alloc HB.out⟩)
set_option maxRecDepth 100000 in
set_option maxHeartbeats 4000000 in
theorem rtry_3n {tx : ByteArray} {ns : List ByteArray} {ks : List Tree} (hh : ks.length ≠ 3)  {N : Nd} {w : World} (hr : Rd w (.mk 38 3 tx ns ks) N) (hs : Str (.mk 38 3 tx ns ks)) : Calls Tryz.prog 73 #[.agg (ncs N)] w (PostR w (.bool (tryB (.mk 38 3 tx ns ks)))) := by
  unfold tryB
  obtain ⟨hz, hzn, hzk⟩ := hs.of
  obtain ⟨bN, n0, n1, n2, n3, n4, HB, e1, e2, e3, e4, e5⟩ := nd_start hr
  rw [e1] at n0
  rw [pure_rtry_3n hh]
  have co : ∀ W, Calls Tryz.prog 29 #[.agg (ncs N), .bool true, .bool false, .bool false] W (PostR W (.bool (onlyV true false false 3 tx ns.length))) := fun W => by
    have := only_tff N W
    unfold onlyB at this
    rw [e2, e3, e4] at this
    exact this
  obtain ⟨o, ho⟩ : ∃ o, onlyV true false false 3 tx ns.length = o := ⟨_, rfl⟩
  rw [ho] at co
  obtain ⟨m, hm⟩ : ∃ m, N.kids.n = m := ⟨_, rfl⟩
  rw [hm] at n4 e5
  rw [e3] at n2
  rw [e2] at n1
  have ld := run_ldN bN
  have bb1 : bits .and .i64 1 1 = 1 := by decide +kernel
  have bb2 : bits .and .i64 2 1 = 0 := by decide +kernel
  have bb3 : bits .and .i64 3 1 = 1 := by decide +kernel
  have bb4 : bits .and .i64 1 2 = 0 := by decide +kernel
  have bb5 : bits .and .i64 2 2 = 2 := by decide +kernel
  have bb6 : bits .and .i64 3 2 = 2 := by decide +kernel
  have bb7 : bits .and .i64 0 1 = 0 := by decide +kernel
  have ep0 : decide (ks.length = 3) = false := by simp [hh]
  rw [ep0]
  have fp00 : ((m : Int) != 3) = true := by rw [e5]; simp; omega
  clear ep0
  rw [ho]
  have HBN := Lib.hid bN
  have HM := Lib.hid hm
  have E2 := Lib.hid e2
  have E3 := Lib.hid e3
  clear hz hzn hzk hr hs e1 e2 e3 e4 e5 bN ho hh hm
  cases o
  all_goals (
    go_enter Tryz.func73, Tryz.ntmps73
    go_wp2_with (first | (go_at_call 29; (with_reducible refine (co _).mono ?_); intro e w2 hp; obtain ⟨rfl, hb⟩ := hp; have HB := Lib.hid (HB.out.trans (hb.mono HB.out.size)); have HBN := Lib.hid (HBN.out.call hb); have ld := run_ldN HBN.out; have n1 := (HBN.out.cell 1).trans (ncs_1 N); rw [E2.out] at n1; have n2 := (HBN.out.cell 2).trans (ncs_2 N); rw [E3.out] at n2; have n4 := (HBN.out.cell 4).trans (ncs_4 N); rw [HM.out] at n4; clear hb))
    go_ret
    first | exact ⟨rfl, HB.out⟩ | exact ⟨rfl, bl_alloc HB.out⟩)
set_option maxRecDepth 100000 in
set_option maxHeartbeats 4000000 in
theorem rtry_2 {tx : ByteArray} {ns : List ByteArray} {a b : Tree}  (Ha : BlkC a) (Hb : BlkC b) {N : Nd} {w : World} (hr : Rd w (.mk 38 2 tx ns [a, b]) N) (hs : Str (.mk 38 2 tx ns [a, b])) : Calls Tryz.prog 73 #[.agg (ncs N)] w (PostR w (.bool (tryB (.mk 38 2 tx ns [a, b])))) := by
  unfold tryB
  obtain ⟨hz, hzn, hzk⟩ := hs.of
  obtain ⟨bN, n0, n1, n2, n3, n4, HB, e1, e2, e3, e4, e5⟩ := nd_start hr
  rw [e1] at n0
  rw [pure_rtry_2]
  have co : ∀ W, Calls Tryz.prog 29 #[.agg (ncs N), .bool true, .bool false, .bool false] W (PostR W (.bool (onlyV true false false 2 tx ns.length))) := fun W => by
    have := only_tff N W
    unfold onlyB at this
    rw [e2, e3, e4] at this
    exact this
  obtain ⟨o, ho⟩ : ∃ o, onlyV true false false 2 tx ns.length = o := ⟨_, rfl⟩
  rw [ho] at co
  obtain ⟨m, hm⟩ : ∃ m, N.kids.n = m := ⟨_, rfl⟩
  rw [hm] at n4 e5
  rw [e3] at n2
  rw [e2] at n1
  have ld := run_ldN bN
  obtain ⟨b0, o0, cp, xa, xb, hkk, hc1, hc2, ka, ra, kb, rb⟩ := kids_2 hr
  rw [hkk] at hm n4
  simp only at hm n4
  subst hm
  have Ka := Lib.hid ka
  have Kb := Lib.hid kb
  have hm : N.kids = ⟨some ⟨b0, o0, none⟩, 2, cp⟩ := hkk
  have la := ka.ld HB.out
  have kka := ka.kind HB.out
  have kta := ka.text HB.out
  have kna := ka.names HB.out
  have lb := kb.ld HB.out
  have kkb := kb.kind HB.out
  have ktb := kb.text HB.out
  have knb := kb.names HB.out
  have bb1 : bits .and .i64 1 1 = 1 := by decide +kernel
  have bb2 : bits .and .i64 2 1 = 0 := by decide +kernel
  have bb3 : bits .and .i64 3 1 = 1 := by decide +kernel
  have bb4 : bits .and .i64 1 2 = 0 := by decide +kernel
  have bb5 : bits .and .i64 2 2 = 2 := by decide +kernel
  have bb6 : bits .and .i64 3 2 = 2 := by decide +kernel
  have bb7 : bits .and .i64 0 1 = 0 := by decide +kernel
  have cp0 := fun W (hb : Below w.heap.size w W) => Ha (ra.below hb) (hzk.at (i := 0) rfl)
  obtain ⟨p0, hp0⟩ : ∃ q, okT 66 a = q := ⟨_, rfl⟩
  rw [hp0] at cp0
  have cp1 := fun W (hb : Below w.heap.size w W) => Hb (rb.below hb) (hzk.at (i := 1) rfl)
  obtain ⟨p1, hp1⟩ : ∃ q, okT 66 b = q := ⟨_, rfl⟩
  rw [hp1] at cp1
  rw [ho]
  rw [hp0]
  rw [hp1]
  have HBN := Lib.hid bN
  have HM := Lib.hid hm
  have E2 := Lib.hid e2
  have E3 := Lib.hid e3
  clear hz hzn hzk hr hs e1 e2 e3 e4 e5 bN ho hkk ka kb ra rb hp0 Ha hp1 Hb hm
  cases o; rotate_left; cases p0; rotate_left; cases p1
  all_goals (
    go_enter Tryz.func73, Tryz.ntmps73
    go_wp2_with (first | (go_at_call 29; (with_reducible refine (co _).mono ?_); intro e w2 hp; obtain ⟨rfl, hb⟩ := hp; have HB := Lib.hid (HB.out.trans (hb.mono HB.out.size)); have HBN := Lib.hid (HBN.out.call hb); have ld := run_ldN HBN.out; have n1 := (HBN.out.cell 1).trans (ncs_1 N); rw [E2.out] at n1; have n2 := (HBN.out.cell 2).trans (ncs_2 N); rw [E3.out] at n2; have n4 := (HBN.out.cell 4).trans (ncs_4 N); rw [HM.out] at n4; simp only at n4; have la := Ka.out.ld HB.out; have kka := Ka.out.kind HB.out; have kta := Ka.out.text HB.out; have kna := Ka.out.names HB.out; have lb := Kb.out.ld HB.out; have kkb := Kb.out.kind HB.out; have ktb := Kb.out.text HB.out; have knb := Kb.out.names HB.out; clear hb) | (go_at_call 74; (with_reducible refine (cp0 _ HB.out).mono ?_); intro e w2 hp; obtain ⟨rfl, hb⟩ := hp; have HB := Lib.hid (HB.out.trans (hb.mono HB.out.size)); have HBN := Lib.hid (HBN.out.call hb); have ld := run_ldN HBN.out; have n1 := (HBN.out.cell 1).trans (ncs_1 N); rw [E2.out] at n1; have n2 := (HBN.out.cell 2).trans (ncs_2 N); rw [E3.out] at n2; have n4 := (HBN.out.cell 4).trans (ncs_4 N); rw [HM.out] at n4; simp only at n4; have la := Ka.out.ld HB.out; have kka := Ka.out.kind HB.out; have kta := Ka.out.text HB.out; have kna := Ka.out.names HB.out; have lb := Kb.out.ld HB.out; have kkb := Kb.out.kind HB.out; have ktb := Kb.out.text HB.out; have knb := Kb.out.names HB.out; clear hb) | (go_at_call 74; (with_reducible refine (cp1 _ HB.out).mono ?_); intro e w2 hp; obtain ⟨rfl, hb⟩ := hp; have HB := Lib.hid (HB.out.trans (hb.mono HB.out.size)); have HBN := Lib.hid (HBN.out.call hb); have ld := run_ldN HBN.out; have n1 := (HBN.out.cell 1).trans (ncs_1 N); rw [E2.out] at n1; have n2 := (HBN.out.cell 2).trans (ncs_2 N); rw [E3.out] at n2; have n4 := (HBN.out.cell 4).trans (ncs_4 N); rw [HM.out] at n4; simp only at n4; have la := Ka.out.ld HB.out; have kka := Ka.out.kind HB.out; have kta := Ka.out.text HB.out; have kna := Ka.out.names HB.out; have lb := Kb.out.ld HB.out; have kkb := Kb.out.kind HB.out; have ktb := Kb.out.text HB.out; have knb := Kb.out.names HB.out; clear hb))
    go_ret
    first | exact ⟨rfl, HB.out⟩ | exact ⟨rfl, bl_alloc HB.out⟩)
set_option maxRecDepth 100000 in
set_option maxHeartbeats 4000000 in
theorem rtry_1d {tx : ByteArray} {ns : List ByteArray} {kb nb : Int} {tb : ByteArray} {sb : List ByteArray} {a d : Tree}   (Ha : BlkC a) (Hd : BlkC d) {N : Nd} {w : World} (hr : Rd w (.mk 38 1 tx ns [a, (.mk kb nb tb sb [d])]) N) (hs : Str (.mk 38 1 tx ns [a, (.mk kb nb tb sb [d])])) : Calls Tryz.prog 73 #[.agg (ncs N)] w (PostR w (.bool (tryB (.mk 38 1 tx ns [a, (.mk kb nb tb sb [d])])))) := by
  unfold tryB
  obtain ⟨hz, hzn, hzk⟩ := hs.of
  obtain ⟨bN, n0, n1, n2, n3, n4, HB, e1, e2, e3, e4, e5⟩ := nd_start hr
  rw [e1] at n0
  rw [pure_rtry_1d]
  have co : ∀ W, Calls Tryz.prog 29 #[.agg (ncs N), .bool true, .bool false, .bool false] W (PostR W (.bool (onlyV true false false 1 tx ns.length))) := fun W => by
    have := only_tff N W
    unfold onlyB at this
    rw [e2, e3, e4] at this
    exact this
  obtain ⟨o, ho⟩ : ∃ o, onlyV true false false 1 tx ns.length = o := ⟨_, rfl⟩
  rw [ho] at co
  obtain ⟨m, hm⟩ : ∃ m, N.kids.n = m := ⟨_, rfl⟩
  rw [hm] at n4 e5
  rw [e3] at n2
  rw [e2] at n1
  have ld := run_ldN bN
  obtain ⟨b0, o0, cp, xa, xb, hkk, hc1, hc2, ka, ra, kkb, rb⟩ := kids_2 hr
  rw [hkk] at hm n4
  simp only at hm n4
  subst hm
  have Ka := Lib.hid ka
  have KB := Lib.hid kkb
  have hm : N.kids = ⟨some ⟨b0, o0, none⟩, 2, cp⟩ := hkk
  have la := ka.ld HB.out
  have kka := ka.kind HB.out
  have kta := ka.text HB.out
  have kna := ka.names HB.out
  have EKB : Hid (xb.kind = kb) := Lib.hid (rd_kind rb)
  have ETB : Hid (xb.text = tb) := Lib.hid (rd_text rb)
  obtain ⟨b1, o1, c1, xd, hkd, hcd1, hcd2, kd1, rd1⟩ := kids_1 rb
  have EXB := Lib.hid hkd
  have KD := Lib.hid kd1
  have lb1 := kkb.ld HB.out
  have bb1 : bits .and .i64 1 1 = 1 := by decide +kernel
  have bb2 : bits .and .i64 2 1 = 0 := by decide +kernel
  have bb3 : bits .and .i64 3 1 = 1 := by decide +kernel
  have bb4 : bits .and .i64 1 2 = 0 := by decide +kernel
  have bb5 : bits .and .i64 2 2 = 2 := by decide +kernel
  have bb6 : bits .and .i64 3 2 = 2 := by decide +kernel
  have bb7 : bits .and .i64 0 1 = 0 := by decide +kernel
  have cp0 := fun W (hb : Below w.heap.size w W) => Ha (ra.below hb) (hzk.at (i := 0) rfl)
  obtain ⟨p0, hp0⟩ : ∃ q, okT 66 a = q := ⟨_, rfl⟩
  rw [hp0] at cp0
  obtain ⟨p1, hp1⟩ : ∃ q, (kb == 39) = q := ⟨_, rfl⟩
  have fp1 : (kb != 39) = !p1 := by rw [← hp1]; rfl
  have cp2 : ∀ W, Calls Tryz.prog 29 #[.agg (ncs xb), .bool false, .bool true, .bool false] W (PostR W (.bool (onlyV false true false nb tb sb.length))) := fun W => by
    have := only_ftf xb W
    unfold onlyB at this
    rw [rd_num rb, rd_text rb, rd_names rb] at this
    exact this
  obtain ⟨p2, hp2⟩ : ∃ q, onlyV false true false nb tb sb.length = q := ⟨_, rfl⟩
  rw [hp2] at cp2
  have cp3 := fun W => plainName_any tb W (hzk.at (i := 1) rfl).of.1
  obtain ⟨p3, hp3⟩ : ∃ q, varB tb = q := ⟨_, rfl⟩
  rw [hp3] at cp3
  have cp4 := fun W (hb : Below w.heap.size w W) => Hd (rd1.below hb) ((hzk.at (i := 1) rfl).of.2.2.at (i := 0) rfl)
  obtain ⟨p4, hp4⟩ : ∃ q, okT 66 d = q := ⟨_, rfl⟩
  rw [hp4] at cp4
  rw [ho]
  rw [hp0]
  rw [hp1]
  rw [hp2]
  rw [hp3]
  rw [hp4]
  have HBN := Lib.hid bN
  have HM := Lib.hid hm
  have E2 := Lib.hid e2
  have E3 := Lib.hid e3
  clear hz hzn hzk hr hs e1 e2 e3 e4 e5 bN ho hkk ka kkb ra rb hkd kd1 rd1 hcd1 hcd2 hp0 Ha hp1 hp2 hp3 hp4 Hd hm
  cases o; rotate_left; cases p0; rotate_left; cases p1; rotate_left; cases p2; rotate_left; cases p3; rotate_left; cases p4
  all_goals (
    go_enter Tryz.func73, Tryz.ntmps73
    go_wp2_with (first | (go_at_call 29; (with_reducible refine (co _).mono ?_); intro e w2 hp; obtain ⟨rfl, hb⟩ := hp; have HB := Lib.hid (HB.out.trans (hb.mono HB.out.size)); have HBN := Lib.hid (HBN.out.call hb); have ld := run_ldN HBN.out; have n1 := (HBN.out.cell 1).trans (ncs_1 N); rw [E2.out] at n1; have n2 := (HBN.out.cell 2).trans (ncs_2 N); rw [E3.out] at n2; have n4 := (HBN.out.cell 4).trans (ncs_4 N); rw [HM.out] at n4; simp only at n4; have la := Ka.out.ld HB.out; have lb1 := KB.out.ld HB.out; have kka := Ka.out.kind HB.out; have kta := Ka.out.text HB.out; have kna := Ka.out.names HB.out; have ldd := KD.out.ld HB.out; clear hb) | (go_at_call 74; (with_reducible refine (cp0 _ HB.out).mono ?_); intro e w2 hp; obtain ⟨rfl, hb⟩ := hp; have HB := Lib.hid (HB.out.trans (hb.mono HB.out.size)); have HBN := Lib.hid (HBN.out.call hb); have ld := run_ldN HBN.out; have n1 := (HBN.out.cell 1).trans (ncs_1 N); rw [E2.out] at n1; have n2 := (HBN.out.cell 2).trans (ncs_2 N); rw [E3.out] at n2; have n4 := (HBN.out.cell 4).trans (ncs_4 N); rw [HM.out] at n4; simp only at n4; have la := Ka.out.ld HB.out; have lb1 := KB.out.ld HB.out; have kka := Ka.out.kind HB.out; have kta := Ka.out.text HB.out; have kna := Ka.out.names HB.out; have HC := Lib.hid (Blk.new w2 (ncs xb) 25); have uc0 := (HC.out.cell 0).trans (ncs_0 xb); have uc2 := (HC.out.cell 2).trans (ncs_2 xb); have uc4 := (HC.out.cell 4).trans (ncs_4 xb); rw [EKB.out] at uc0; rw [ETB.out] at uc2; rw [EXB.out] at uc4; simp only at uc4; have ldc := run_ldN HC.out; have ldd := KD.out.ld HB.out; clear hb) | (go_at_call 29; (with_reducible refine (cp2 _).mono ?_); intro e w2 hp; obtain ⟨rfl, hb⟩ := hp; have HB := Lib.hid ((bl_alloc HB.out).trans (hb.mono (bl_alloc HB.out).size)); have HBN := Lib.hid ((HBN.out.old _).call hb); have ld := run_ldN HBN.out; have n1 := (HBN.out.cell 1).trans (ncs_1 N); rw [E2.out] at n1; have n2 := (HBN.out.cell 2).trans (ncs_2 N); rw [E3.out] at n2; have n4 := (HBN.out.cell 4).trans (ncs_4 N); rw [HM.out] at n4; simp only at n4; have la := Ka.out.ld HB.out; have lb1 := KB.out.ld HB.out; have kka := Ka.out.kind HB.out; have kta := Ka.out.text HB.out; have kna := Ka.out.names HB.out; have HC := Lib.hid (HC.out.call hb); have uc0 := (HC.out.cell 0).trans (ncs_0 xb); have uc2 := (HC.out.cell 2).trans (ncs_2 xb); have uc4 := (HC.out.cell 4).trans (ncs_4 xb); rw [EKB.out] at uc0; rw [ETB.out] at uc2; rw [EXB.out] at uc4; simp only at uc4; have ldc := run_ldN HC.out; have ldd := KD.out.ld HB.out; clear hb) | (go_at_call 68; (with_reducible refine (cp3 _).mono ?_); intro e w2 hp; obtain ⟨rfl, hb⟩ := hp; have HB := Lib.hid (HB.out.trans (hb.mono HB.out.size)); have HBN := Lib.hid (HBN.out.call hb); have ld := run_ldN HBN.out; have n1 := (HBN.out.cell 1).trans (ncs_1 N); rw [E2.out] at n1; have n2 := (HBN.out.cell 2).trans (ncs_2 N); rw [E3.out] at n2; have n4 := (HBN.out.cell 4).trans (ncs_4 N); rw [HM.out] at n4; simp only at n4; have la := Ka.out.ld HB.out; have lb1 := KB.out.ld HB.out; have kka := Ka.out.kind HB.out; have kta := Ka.out.text HB.out; have kna := Ka.out.names HB.out; have HC := Lib.hid (HC.out.call hb); have uc0 := (HC.out.cell 0).trans (ncs_0 xb); have uc2 := (HC.out.cell 2).trans (ncs_2 xb); have uc4 := (HC.out.cell 4).trans (ncs_4 xb); rw [EKB.out] at uc0; rw [ETB.out] at uc2; rw [EXB.out] at uc4; simp only at uc4; have ldc := run_ldN HC.out; have ldd := KD.out.ld HB.out; clear hb) | (go_at_call 74; (with_reducible refine (cp4 _ HB.out).mono ?_); intro e w2 hp; obtain ⟨rfl, hb⟩ := hp; have HB := Lib.hid (HB.out.trans (hb.mono HB.out.size)); have HBN := Lib.hid (HBN.out.call hb); have ld := run_ldN HBN.out; have n1 := (HBN.out.cell 1).trans (ncs_1 N); rw [E2.out] at n1; have n2 := (HBN.out.cell 2).trans (ncs_2 N); rw [E3.out] at n2; have n4 := (HBN.out.cell 4).trans (ncs_4 N); rw [HM.out] at n4; simp only at n4; have la := Ka.out.ld HB.out; have lb1 := KB.out.ld HB.out; have kka := Ka.out.kind HB.out; have kta := Ka.out.text HB.out; have kna := Ka.out.names HB.out; have HC := Lib.hid (HC.out.call hb); have uc0 := (HC.out.cell 0).trans (ncs_0 xb); have uc2 := (HC.out.cell 2).trans (ncs_2 xb); have uc4 := (HC.out.cell 4).trans (ncs_4 xb); rw [EKB.out] at uc0; rw [ETB.out] at uc2; rw [EXB.out] at uc4; simp only at uc4; have ldc := run_ldN HC.out; have ldd := KD.out.ld HB.out; clear hb))
    go_ret
    first | exact ⟨rfl, HB.out⟩ | exact ⟨rfl, bl_alloc HB.out⟩)
set_option maxRecDepth 100000 in
set_option maxHeartbeats 4000000 in
theorem rtry_1k {tx : ByteArray} {ns : List ByteArray} {kb nb : Int} {tb : ByteArray} {sb : List ByteArray} {a : Tree} {kk : List Tree} (hh : kk.length ≠ 1) (Ha : BlkC a) {N : Nd} {w : World} (hr : Rd w (.mk 38 1 tx ns [a, (.mk kb nb tb sb kk)]) N) (hs : Str (.mk 38 1 tx ns [a, (.mk kb nb tb sb kk)])) : Calls Tryz.prog 73 #[.agg (ncs N)] w (PostR w (.bool (tryB (.mk 38 1 tx ns [a, (.mk kb nb tb sb kk)])))) := by
  unfold tryB
  obtain ⟨hz, hzn, hzk⟩ := hs.of
  obtain ⟨bN, n0, n1, n2, n3, n4, HB, e1, e2, e3, e4, e5⟩ := nd_start hr
  rw [e1] at n0
  rw [pure_rtry_1k hh]
  have co : ∀ W, Calls Tryz.prog 29 #[.agg (ncs N), .bool true, .bool false, .bool false] W (PostR W (.bool (onlyV true false false 1 tx ns.length))) := fun W => by
    have := only_tff N W
    unfold onlyB at this
    rw [e2, e3, e4] at this
    exact this
  obtain ⟨o, ho⟩ : ∃ o, onlyV true false false 1 tx ns.length = o := ⟨_, rfl⟩
  rw [ho] at co
  obtain ⟨m, hm⟩ : ∃ m, N.kids.n = m := ⟨_, rfl⟩
  rw [hm] at n4 e5
  rw [e3] at n2
  rw [e2] at n1
  have ld := run_ldN bN
  obtain ⟨b0, o0, cp, xa, xb, hkk, hc1, hc2, ka, ra, kkb, rb⟩ := kids_2 hr
  rw [hkk] at hm n4
  simp only at hm n4
  subst hm
  have Ka := Lib.hid ka
  have KB := Lib.hid kkb
  have hm : N.kids = ⟨some ⟨b0, o0, none⟩, 2, cp⟩ := hkk
  have la := ka.ld HB.out
  have kka := ka.kind HB.out
  have kta := ka.text HB.out
  have kna := ka.names HB.out
  have EKB : Hid (xb.kind = kb) := Lib.hid (rd_kind rb)
  have ETB : Hid (xb.text = tb) := Lib.hid (rd_text rb)
  obtain ⟨q4, hq4x⟩ : ∃ q, xb.kids.n = q := ⟨_, rfl⟩
  have hq4 : q4 = kk.length := by rw [← hq4x]; exact rd_kids rb
  obtain ⟨a4, c4, hkd⟩ : ∃ a c, xb.kids = ⟨a, q4, c⟩ := ⟨_, _, by rw [← hq4x]⟩
  have EXB := Lib.hid hkd
  have lb1 := kkb.ld HB.out
  have bb1 : bits .and .i64 1 1 = 1 := by decide +kernel
  have bb2 : bits .and .i64 2 1 = 0 := by decide +kernel
  have bb3 : bits .and .i64 3 1 = 1 := by decide +kernel
  have bb4 : bits .and .i64 1 2 = 0 := by decide +kernel
  have bb5 : bits .and .i64 2 2 = 2 := by decide +kernel
  have bb6 : bits .and .i64 3 2 = 2 := by decide +kernel
  have bb7 : bits .and .i64 0 1 = 0 := by decide +kernel
  have cp0 := fun W (hb : Below w.heap.size w W) => Ha (ra.below hb) (hzk.at (i := 0) rfl)
  obtain ⟨p0, hp0⟩ : ∃ q, okT 66 a = q := ⟨_, rfl⟩
  rw [hp0] at cp0
  obtain ⟨p1, hp1⟩ : ∃ q, (kb == 39) = q := ⟨_, rfl⟩
  have fp1 : (kb != 39) = !p1 := by rw [← hp1]; rfl
  have cp2 : ∀ W, Calls Tryz.prog 29 #[.agg (ncs xb), .bool false, .bool true, .bool false] W (PostR W (.bool (onlyV false true false nb tb sb.length))) := fun W => by
    have := only_ftf xb W
    unfold onlyB at this
    rw [rd_num rb, rd_text rb, rd_names rb] at this
    exact this
  obtain ⟨p2, hp2⟩ : ∃ q, onlyV false true false nb tb sb.length = q := ⟨_, rfl⟩
  rw [hp2] at cp2
  have cp3 := fun W => plainName_any tb W (hzk.at (i := 1) rfl).of.1
  obtain ⟨p3, hp3⟩ : ∃ q, varB tb = q := ⟨_, rfl⟩
  rw [hp3] at cp3
  have ep4 : decide (kk.length = 1) = false := by simp [hh]
  rw [ep4]
  have fp4 : ((q4 : Int) != 1) = true := by rw [hq4]; simp; omega
  clear ep4
  rw [ho]
  rw [hp0]
  rw [hp1]
  rw [hp2]
  rw [hp3]
  have HBN := Lib.hid bN
  have HM := Lib.hid hm
  have E2 := Lib.hid e2
  have E3 := Lib.hid e3
  clear hz hzn hzk hr hs e1 e2 e3 e4 e5 bN ho hkk ka kkb ra rb hh hq4 hq4x hkd hp0 Ha hp1 hp2 hp3 hm
  cases o; rotate_left; cases p0; rotate_left; cases p1; rotate_left; cases p2; rotate_left; cases p3
  all_goals (
    go_enter Tryz.func73, Tryz.ntmps73
    go_wp2_with (first | (go_at_call 29; (with_reducible refine (co _).mono ?_); intro e w2 hp; obtain ⟨rfl, hb⟩ := hp; have HB := Lib.hid (HB.out.trans (hb.mono HB.out.size)); have HBN := Lib.hid (HBN.out.call hb); have ld := run_ldN HBN.out; have n1 := (HBN.out.cell 1).trans (ncs_1 N); rw [E2.out] at n1; have n2 := (HBN.out.cell 2).trans (ncs_2 N); rw [E3.out] at n2; have n4 := (HBN.out.cell 4).trans (ncs_4 N); rw [HM.out] at n4; simp only at n4; have la := Ka.out.ld HB.out; have lb1 := KB.out.ld HB.out; have kka := Ka.out.kind HB.out; have kta := Ka.out.text HB.out; have kna := Ka.out.names HB.out; clear hb) | (go_at_call 74; (with_reducible refine (cp0 _ HB.out).mono ?_); intro e w2 hp; obtain ⟨rfl, hb⟩ := hp; have HB := Lib.hid (HB.out.trans (hb.mono HB.out.size)); have HBN := Lib.hid (HBN.out.call hb); have ld := run_ldN HBN.out; have n1 := (HBN.out.cell 1).trans (ncs_1 N); rw [E2.out] at n1; have n2 := (HBN.out.cell 2).trans (ncs_2 N); rw [E3.out] at n2; have n4 := (HBN.out.cell 4).trans (ncs_4 N); rw [HM.out] at n4; simp only at n4; have la := Ka.out.ld HB.out; have lb1 := KB.out.ld HB.out; have kka := Ka.out.kind HB.out; have kta := Ka.out.text HB.out; have kna := Ka.out.names HB.out; have HC := Lib.hid (Blk.new w2 (ncs xb) 25); have uc0 := (HC.out.cell 0).trans (ncs_0 xb); have uc2 := (HC.out.cell 2).trans (ncs_2 xb); have uc4 := (HC.out.cell 4).trans (ncs_4 xb); rw [EKB.out] at uc0; rw [ETB.out] at uc2; rw [EXB.out] at uc4; simp only at uc4; have ldc := run_ldN HC.out; clear hb) | (go_at_call 29; (with_reducible refine (cp2 _).mono ?_); intro e w2 hp; obtain ⟨rfl, hb⟩ := hp; have HB := Lib.hid ((bl_alloc HB.out).trans (hb.mono (bl_alloc HB.out).size)); have HBN := Lib.hid ((HBN.out.old _).call hb); have ld := run_ldN HBN.out; have n1 := (HBN.out.cell 1).trans (ncs_1 N); rw [E2.out] at n1; have n2 := (HBN.out.cell 2).trans (ncs_2 N); rw [E3.out] at n2; have n4 := (HBN.out.cell 4).trans (ncs_4 N); rw [HM.out] at n4; simp only at n4; have la := Ka.out.ld HB.out; have lb1 := KB.out.ld HB.out; have kka := Ka.out.kind HB.out; have kta := Ka.out.text HB.out; have kna := Ka.out.names HB.out; have HC := Lib.hid (HC.out.call hb); have uc0 := (HC.out.cell 0).trans (ncs_0 xb); have uc2 := (HC.out.cell 2).trans (ncs_2 xb); have uc4 := (HC.out.cell 4).trans (ncs_4 xb); rw [EKB.out] at uc0; rw [ETB.out] at uc2; rw [EXB.out] at uc4; simp only at uc4; have ldc := run_ldN HC.out; clear hb) | (go_at_call 68; (with_reducible refine (cp3 _).mono ?_); intro e w2 hp; obtain ⟨rfl, hb⟩ := hp; have HB := Lib.hid (HB.out.trans (hb.mono HB.out.size)); have HBN := Lib.hid (HBN.out.call hb); have ld := run_ldN HBN.out; have n1 := (HBN.out.cell 1).trans (ncs_1 N); rw [E2.out] at n1; have n2 := (HBN.out.cell 2).trans (ncs_2 N); rw [E3.out] at n2; have n4 := (HBN.out.cell 4).trans (ncs_4 N); rw [HM.out] at n4; simp only at n4; have la := Ka.out.ld HB.out; have lb1 := KB.out.ld HB.out; have kka := Ka.out.kind HB.out; have kta := Ka.out.text HB.out; have kna := Ka.out.names HB.out; have HC := Lib.hid (HC.out.call hb); have uc0 := (HC.out.cell 0).trans (ncs_0 xb); have uc2 := (HC.out.cell 2).trans (ncs_2 xb); have uc4 := (HC.out.cell 4).trans (ncs_4 xb); rw [EKB.out] at uc0; rw [ETB.out] at uc2; rw [EXB.out] at uc4; simp only at uc4; have ldc := run_ldN HC.out; clear hb))
    go_ret
    first | exact ⟨rfl, HB.out⟩ | exact ⟨rfl, bl_alloc HB.out⟩)
set_option maxRecDepth 100000 in
set_option maxHeartbeats 4000000 in
theorem rtry_3d {tx : ByteArray} {ns : List ByteArray} {kb nb : Int} {tb : ByteArray} {sb : List ByteArray} {a d c : Tree}   (Ha : BlkC a) (Hd : BlkC d) (Hc : BlkC c) {N : Nd} {w : World} (hr : Rd w (.mk 38 3 tx ns [a, (.mk kb nb tb sb [d]), c]) N) (hs : Str (.mk 38 3 tx ns [a, (.mk kb nb tb sb [d]), c])) : Calls Tryz.prog 73 #[.agg (ncs N)] w (PostR w (.bool (tryB (.mk 38 3 tx ns [a, (.mk kb nb tb sb [d]), c])))) := by
  unfold tryB
  obtain ⟨hz, hzn, hzk⟩ := hs.of
  obtain ⟨bN, n0, n1, n2, n3, n4, HB, e1, e2, e3, e4, e5⟩ := nd_start hr
  rw [e1] at n0
  rw [pure_rtry_3d]
  have co : ∀ W, Calls Tryz.prog 29 #[.agg (ncs N), .bool true, .bool false, .bool false] W (PostR W (.bool (onlyV true false false 3 tx ns.length))) := fun W => by
    have := only_tff N W
    unfold onlyB at this
    rw [e2, e3, e4] at this
    exact this
  obtain ⟨o, ho⟩ : ∃ o, onlyV true false false 3 tx ns.length = o := ⟨_, rfl⟩
  rw [ho] at co
  obtain ⟨m, hm⟩ : ∃ m, N.kids.n = m := ⟨_, rfl⟩
  rw [hm] at n4 e5
  rw [e3] at n2
  rw [e2] at n1
  have ld := run_ldN bN
  obtain ⟨b0, o0, cp, xa, xb, xc, hkk, hc1, hc2, ka, ra, kkb, rb, kc, rc⟩ := kids_3 hr
  rw [hkk] at hm n4
  simp only at hm n4
  subst hm
  have Ka := Lib.hid ka
  have KB := Lib.hid kkb
  have Kc := Lib.hid kc
  have hm : N.kids = ⟨some ⟨b0, o0, none⟩, 3, cp⟩ := hkk
  have la := ka.ld HB.out
  have kka := ka.kind HB.out
  have kta := ka.text HB.out
  have kna := ka.names HB.out
  have EKB : Hid (xb.kind = kb) := Lib.hid (rd_kind rb)
  have ETB : Hid (xb.text = tb) := Lib.hid (rd_text rb)
  obtain ⟨b1, o1, c1, xd, hkd, hcd1, hcd2, kd1, rd1⟩ := kids_1 rb
  have EXB := Lib.hid hkd
  have KD := Lib.hid kd1
  have lb1 := kkb.ld HB.out
  have bb1 : bits .and .i64 1 1 = 1 := by decide +kernel
  have bb2 : bits .and .i64 2 1 = 0 := by decide +kernel
  have bb3 : bits .and .i64 3 1 = 1 := by decide +kernel
  have bb4 : bits .and .i64 1 2 = 0 := by decide +kernel
  have bb5 : bits .and .i64 2 2 = 2 := by decide +kernel
  have bb6 : bits .and .i64 3 2 = 2 := by decide +kernel
  have bb7 : bits .and .i64 0 1 = 0 := by decide +kernel
  have cp0 := fun W (hb : Below w.heap.size w W) => Ha (ra.below hb) (hzk.at (i := 0) rfl)
  obtain ⟨p0, hp0⟩ : ∃ q, okT 66 a = q := ⟨_, rfl⟩
  rw [hp0] at cp0
  obtain ⟨p1, hp1⟩ : ∃ q, (kb == 39) = q := ⟨_, rfl⟩
  have fp1 : (kb != 39) = !p1 := by rw [← hp1]; rfl
  have cp2 : ∀ W, Calls Tryz.prog 29 #[.agg (ncs xb), .bool false, .bool true, .bool false] W (PostR W (.bool (onlyV false true false nb tb sb.length))) := fun W => by
    have := only_ftf xb W
    unfold onlyB at this
    rw [rd_num rb, rd_text rb, rd_names rb] at this
    exact this
  obtain ⟨p2, hp2⟩ : ∃ q, onlyV false true false nb tb sb.length = q := ⟨_, rfl⟩
  rw [hp2] at cp2
  have cp3 := fun W => plainName_any tb W (hzk.at (i := 1) rfl).of.1
  obtain ⟨p3, hp3⟩ : ∃ q, varB tb = q := ⟨_, rfl⟩
  rw [hp3] at cp3
  have cp4 := fun W (hb : Below w.heap.size w W) => Hd (rd1.below hb) ((hzk.at (i := 1) rfl).of.2.2.at (i := 0) rfl)
  obtain ⟨p4, hp4⟩ : ∃ q, okT 66 d = q := ⟨_, rfl⟩
  rw [hp4] at cp4
  have cp5 := fun W (hb : Below w.heap.size w W) => Hc (rc.below hb) (hzk.at (i := 2) rfl)
  obtain ⟨p5, hp5⟩ : ∃ q, okT 66 c = q := ⟨_, rfl⟩
  rw [hp5] at cp5
  rw [ho]
  rw [hp0]
  rw [hp1]
  rw [hp2]
  rw [hp3]
  rw [hp4]
  rw [hp5]
  have HBN := Lib.hid bN
  have HM := Lib.hid hm
  have E2 := Lib.hid e2
  have E3 := Lib.hid e3
  clear hz hzn hzk hr hs e1 e2 e3 e4 e5 bN ho hkk ka kkb kc ra rb rc hkd kd1 rd1 hcd1 hcd2 hp0 Ha hp1 hp2 hp3 hp4 Hd hp5 Hc hm
  cases o; rotate_left; cases p0; rotate_left; cases p1; rotate_left; cases p2; rotate_left; cases p3; rotate_left; cases p4; rotate_left; cases p5
  all_goals (
    go_enter Tryz.func73, Tryz.ntmps73
    go_wp2_with (first | (go_at_call 29; (with_reducible refine (co _).mono ?_); intro e w2 hp; obtain ⟨rfl, hb⟩ := hp; have HB := Lib.hid (HB.out.trans (hb.mono HB.out.size)); have HBN := Lib.hid (HBN.out.call hb); have ld := run_ldN HBN.out; have n1 := (HBN.out.cell 1).trans (ncs_1 N); rw [E2.out] at n1; have n2 := (HBN.out.cell 2).trans (ncs_2 N); rw [E3.out] at n2; have n4 := (HBN.out.cell 4).trans (ncs_4 N); rw [HM.out] at n4; simp only at n4; have la := Ka.out.ld HB.out; have lb1 := KB.out.ld HB.out; have lc1 := Kc.out.ld HB.out; have kka := Ka.out.kind HB.out; have kta := Ka.out.text HB.out; have kna := Ka.out.names HB.out; have ldd := KD.out.ld HB.out; clear hb) | (go_at_call 74; (with_reducible refine (cp0 _ HB.out).mono ?_); intro e w2 hp; obtain ⟨rfl, hb⟩ := hp; have HB := Lib.hid (HB.out.trans (hb.mono HB.out.size)); have HBN := Lib.hid (HBN.out.call hb); have ld := run_ldN HBN.out; have n1 := (HBN.out.cell 1).trans (ncs_1 N); rw [E2.out] at n1; have n2 := (HBN.out.cell 2).trans (ncs_2 N); rw [E3.out] at n2; have n4 := (HBN.out.cell 4).trans (ncs_4 N); rw [HM.out] at n4; simp only at n4; have la := Ka.out.ld HB.out; have lb1 := KB.out.ld HB.out; have lc1 := Kc.out.ld HB.out; have kka := Ka.out.kind HB.out; have kta := Ka.out.text HB.out; have kna := Ka.out.names HB.out; have HC := Lib.hid (Blk.new w2 (ncs xb) 25); have uc0 := (HC.out.cell 0).trans (ncs_0 xb); have uc2 := (HC.out.cell 2).trans (ncs_2 xb); have uc4 := (HC.out.cell 4).trans (ncs_4 xb); rw [EKB.out] at uc0; rw [ETB.out] at uc2; rw [EXB.out] at uc4; simp only at uc4; have ldc := run_ldN HC.out; have ldd := KD.out.ld HB.out; clear hb) | (go_at_call 29; (with_reducible refine (cp2 _).mono ?_); intro e w2 hp; obtain ⟨rfl, hb⟩ := hp; have HB := Lib.hid ((bl_alloc HB.out).trans (hb.mono (bl_alloc HB.out).size)); have HBN := Lib.hid ((HBN.out.old _).call hb); have ld := run_ldN HBN.out; have n1 := (HBN.out.cell 1).trans (ncs_1 N); rw [E2.out] at n1; have n2 := (HBN.out.cell 2).trans (ncs_2 N); rw [E3.out] at n2; have n4 := (HBN.out.cell 4).trans (ncs_4 N); rw [HM.out] at n4; simp only at n4; have la := Ka.out.ld HB.out; have lb1 := KB.out.ld HB.out; have lc1 := Kc.out.ld HB.out; have kka := Ka.out.kind HB.out; have kta := Ka.out.text HB.out; have kna := Ka.out.names HB.out; have HC := Lib.hid (HC.out.call hb); have uc0 := (HC.out.cell 0).trans (ncs_0 xb); have uc2 := (HC.out.cell 2).trans (ncs_2 xb); have uc4 := (HC.out.cell 4).trans (ncs_4 xb); rw [EKB.out] at uc0; rw [ETB.out] at uc2; rw [EXB.out] at uc4; simp only at uc4; have ldc := run_ldN HC.out; have ldd := KD.out.ld HB.out; clear hb) | (go_at_call 68; (with_reducible refine (cp3 _).mono ?_); intro e w2 hp; obtain ⟨rfl, hb⟩ := hp; have HB := Lib.hid (HB.out.trans (hb.mono HB.out.size)); have HBN := Lib.hid (HBN.out.call hb); have ld := run_ldN HBN.out; have n1 := (HBN.out.cell 1).trans (ncs_1 N); rw [E2.out] at n1; have n2 := (HBN.out.cell 2).trans (ncs_2 N); rw [E3.out] at n2; have n4 := (HBN.out.cell 4).trans (ncs_4 N); rw [HM.out] at n4; simp only at n4; have la := Ka.out.ld HB.out; have lb1 := KB.out.ld HB.out; have lc1 := Kc.out.ld HB.out; have kka := Ka.out.kind HB.out; have kta := Ka.out.text HB.out; have kna := Ka.out.names HB.out; have HC := Lib.hid (HC.out.call hb); have uc0 := (HC.out.cell 0).trans (ncs_0 xb); have uc2 := (HC.out.cell 2).trans (ncs_2 xb); have uc4 := (HC.out.cell 4).trans (ncs_4 xb); rw [EKB.out] at uc0; rw [ETB.out] at uc2; rw [EXB.out] at uc4; simp only at uc4; have ldc := run_ldN HC.out; have ldd := KD.out.ld HB.out; clear hb) | (go_at_call 74; (with_reducible refine (cp4 _ HB.out).mono ?_); intro e w2 hp; obtain ⟨rfl, hb⟩ := hp; have HB := Lib.hid (HB.out.trans (hb.mono HB.out.size)); have HBN := Lib.hid (HBN.out.call hb); have ld := run_ldN HBN.out; have n1 := (HBN.out.cell 1).trans (ncs_1 N); rw [E2.out] at n1; have n2 := (HBN.out.cell 2).trans (ncs_2 N); rw [E3.out] at n2; have n4 := (HBN.out.cell 4).trans (ncs_4 N); rw [HM.out] at n4; simp only at n4; have la := Ka.out.ld HB.out; have lb1 := KB.out.ld HB.out; have lc1 := Kc.out.ld HB.out; have kka := Ka.out.kind HB.out; have kta := Ka.out.text HB.out; have kna := Ka.out.names HB.out; have HC := Lib.hid (HC.out.call hb); have uc0 := (HC.out.cell 0).trans (ncs_0 xb); have uc2 := (HC.out.cell 2).trans (ncs_2 xb); have uc4 := (HC.out.cell 4).trans (ncs_4 xb); rw [EKB.out] at uc0; rw [ETB.out] at uc2; rw [EXB.out] at uc4; simp only at uc4; have ldc := run_ldN HC.out; have ldd := KD.out.ld HB.out; clear hb) | (go_at_call 74; (with_reducible refine (cp5 _ HB.out).mono ?_); intro e w2 hp; obtain ⟨rfl, hb⟩ := hp; have HB := Lib.hid (HB.out.trans (hb.mono HB.out.size)); have HBN := Lib.hid (HBN.out.call hb); have ld := run_ldN HBN.out; have n1 := (HBN.out.cell 1).trans (ncs_1 N); rw [E2.out] at n1; have n2 := (HBN.out.cell 2).trans (ncs_2 N); rw [E3.out] at n2; have n4 := (HBN.out.cell 4).trans (ncs_4 N); rw [HM.out] at n4; simp only at n4; have la := Ka.out.ld HB.out; have lb1 := KB.out.ld HB.out; have lc1 := Kc.out.ld HB.out; have kka := Ka.out.kind HB.out; have kta := Ka.out.text HB.out; have kna := Ka.out.names HB.out; have ldd := KD.out.ld HB.out; clear hb))
    go_ret
    first | exact ⟨rfl, HB.out⟩ | exact ⟨rfl, bl_alloc HB.out⟩)
set_option maxRecDepth 100000 in
set_option maxHeartbeats 4000000 in
theorem rtry_3k {tx : ByteArray} {ns : List ByteArray} {kb nb : Int} {tb : ByteArray} {sb : List ByteArray} {a c : Tree} {kk : List Tree} (hh : kk.length ≠ 1) (Ha : BlkC a) {N : Nd} {w : World} (hr : Rd w (.mk 38 3 tx ns [a, (.mk kb nb tb sb kk), c]) N) (hs : Str (.mk 38 3 tx ns [a, (.mk kb nb tb sb kk), c])) : Calls Tryz.prog 73 #[.agg (ncs N)] w (PostR w (.bool (tryB (.mk 38 3 tx ns [a, (.mk kb nb tb sb kk), c])))) := by
  unfold tryB
  obtain ⟨hz, hzn, hzk⟩ := hs.of
  obtain ⟨bN, n0, n1, n2, n3, n4, HB, e1, e2, e3, e4, e5⟩ := nd_start hr
  rw [e1] at n0
  rw [pure_rtry_3k hh]
  have co : ∀ W, Calls Tryz.prog 29 #[.agg (ncs N), .bool true, .bool false, .bool false] W (PostR W (.bool (onlyV true false false 3 tx ns.length))) := fun W => by
    have := only_tff N W
    unfold onlyB at this
    rw [e2, e3, e4] at this
    exact this
  obtain ⟨o, ho⟩ : ∃ o, onlyV true false false 3 tx ns.length = o := ⟨_, rfl⟩
  rw [ho] at co
  obtain ⟨m, hm⟩ : ∃ m, N.kids.n = m := ⟨_, rfl⟩
  rw [hm] at n4 e5
  rw [e3] at n2
  rw [e2] at n1
  have ld := run_ldN bN
  obtain ⟨b0, o0, cp, xa, xb, xc, hkk, hc1, hc2, ka, ra, kkb, rb, kc, rc⟩ := kids_3 hr
  rw [hkk] at hm n4
  simp only at hm n4
  subst hm
  have Ka := Lib.hid ka
  have KB := Lib.hid kkb
  have Kc := Lib.hid kc
  have hm : N.kids = ⟨some ⟨b0, o0, none⟩, 3, cp⟩ := hkk
  have la := ka.ld HB.out
  have kka := ka.kind HB.out
  have kta := ka.text HB.out
  have kna := ka.names HB.out
  have EKB : Hid (xb.kind = kb) := Lib.hid (rd_kind rb)
  have ETB : Hid (xb.text = tb) := Lib.hid (rd_text rb)
  obtain ⟨q4, hq4x⟩ : ∃ q, xb.kids.n = q := ⟨_, rfl⟩
  have hq4 : q4 = kk.length := by rw [← hq4x]; exact rd_kids rb
  obtain ⟨a4, c4, hkd⟩ : ∃ a c, xb.kids = ⟨a, q4, c⟩ := ⟨_, _, by rw [← hq4x]⟩
  have EXB := Lib.hid hkd
  have lb1 := kkb.ld HB.out
  have bb1 : bits .and .i64 1 1 = 1 := by decide +kernel
  have bb2 : bits .and .i64 2 1 = 0 := by decide +kernel
  have bb3 : bits .and .i64 3 1 = 1 := by decide +kernel
  have bb4 : bits .and .i64 1 2 = 0 := by decide +kernel
  have bb5 : bits .and .i64 2 2 = 2 := by decide +kernel
  have bb6 : bits .and .i64 3 2 = 2 := by decide +kernel
  have bb7 : bits .and .i64 0 1 = 0 := by decide +kernel
  have cp0 := fun W (hb : Below w.heap.size w W) => Ha (ra.below hb) (hzk.at (i := 0) rfl)
  obtain ⟨p0, hp0⟩ : ∃ q, okT 66 a = q := ⟨_, rfl⟩
  rw [hp0] at cp0
  obtain ⟨p1, hp1⟩ : ∃ q, (kb == 39) = q := ⟨_, rfl⟩
  have fp1 : (kb != 39) = !p1 := by rw [← hp1]; rfl
  have cp2 : ∀ W, Calls Tryz.prog 29 #[.agg (ncs xb), .bool false, .bool true, .bool false] W (PostR W (.bool (onlyV false true false nb tb sb.length))) := fun W => by
    have := only_ftf xb W
    unfold onlyB at this
    rw [rd_num rb, rd_text rb, rd_names rb] at this
    exact this
  obtain ⟨p2, hp2⟩ : ∃ q, onlyV false true false nb tb sb.length = q := ⟨_, rfl⟩
  rw [hp2] at cp2
  have cp3 := fun W => plainName_any tb W (hzk.at (i := 1) rfl).of.1
  obtain ⟨p3, hp3⟩ : ∃ q, varB tb = q := ⟨_, rfl⟩
  rw [hp3] at cp3
  have ep4 : decide (kk.length = 1) = false := by simp [hh]
  rw [ep4]
  have fp4 : ((q4 : Int) != 1) = true := by rw [hq4]; simp; omega
  clear ep4
  rw [ho]
  rw [hp0]
  rw [hp1]
  rw [hp2]
  rw [hp3]
  have HBN := Lib.hid bN
  have HM := Lib.hid hm
  have E2 := Lib.hid e2
  have E3 := Lib.hid e3
  clear hz hzn hzk hr hs e1 e2 e3 e4 e5 bN ho hkk ka kkb kc ra rb rc hh hq4 hq4x hkd hp0 Ha hp1 hp2 hp3 hm
  cases o; rotate_left; cases p0; rotate_left; cases p1; rotate_left; cases p2; rotate_left; cases p3
  all_goals (
    go_enter Tryz.func73, Tryz.ntmps73
    go_wp2_with (first | (go_at_call 29; (with_reducible refine (co _).mono ?_); intro e w2 hp; obtain ⟨rfl, hb⟩ := hp; have HB := Lib.hid (HB.out.trans (hb.mono HB.out.size)); have HBN := Lib.hid (HBN.out.call hb); have ld := run_ldN HBN.out; have n1 := (HBN.out.cell 1).trans (ncs_1 N); rw [E2.out] at n1; have n2 := (HBN.out.cell 2).trans (ncs_2 N); rw [E3.out] at n2; have n4 := (HBN.out.cell 4).trans (ncs_4 N); rw [HM.out] at n4; simp only at n4; have la := Ka.out.ld HB.out; have lb1 := KB.out.ld HB.out; have lc1 := Kc.out.ld HB.out; have kka := Ka.out.kind HB.out; have kta := Ka.out.text HB.out; have kna := Ka.out.names HB.out; clear hb) | (go_at_call 74; (with_reducible refine (cp0 _ HB.out).mono ?_); intro e w2 hp; obtain ⟨rfl, hb⟩ := hp; have HB := Lib.hid (HB.out.trans (hb.mono HB.out.size)); have HBN := Lib.hid (HBN.out.call hb); have ld := run_ldN HBN.out; have n1 := (HBN.out.cell 1).trans (ncs_1 N); rw [E2.out] at n1; have n2 := (HBN.out.cell 2).trans (ncs_2 N); rw [E3.out] at n2; have n4 := (HBN.out.cell 4).trans (ncs_4 N); rw [HM.out] at n4; simp only at n4; have la := Ka.out.ld HB.out; have lb1 := KB.out.ld HB.out; have lc1 := Kc.out.ld HB.out; have kka := Ka.out.kind HB.out; have kta := Ka.out.text HB.out; have kna := Ka.out.names HB.out; have HC := Lib.hid (Blk.new w2 (ncs xb) 25); have uc0 := (HC.out.cell 0).trans (ncs_0 xb); have uc2 := (HC.out.cell 2).trans (ncs_2 xb); have uc4 := (HC.out.cell 4).trans (ncs_4 xb); rw [EKB.out] at uc0; rw [ETB.out] at uc2; rw [EXB.out] at uc4; simp only at uc4; have ldc := run_ldN HC.out; clear hb) | (go_at_call 29; (with_reducible refine (cp2 _).mono ?_); intro e w2 hp; obtain ⟨rfl, hb⟩ := hp; have HB := Lib.hid ((bl_alloc HB.out).trans (hb.mono (bl_alloc HB.out).size)); have HBN := Lib.hid ((HBN.out.old _).call hb); have ld := run_ldN HBN.out; have n1 := (HBN.out.cell 1).trans (ncs_1 N); rw [E2.out] at n1; have n2 := (HBN.out.cell 2).trans (ncs_2 N); rw [E3.out] at n2; have n4 := (HBN.out.cell 4).trans (ncs_4 N); rw [HM.out] at n4; simp only at n4; have la := Ka.out.ld HB.out; have lb1 := KB.out.ld HB.out; have lc1 := Kc.out.ld HB.out; have kka := Ka.out.kind HB.out; have kta := Ka.out.text HB.out; have kna := Ka.out.names HB.out; have HC := Lib.hid (HC.out.call hb); have uc0 := (HC.out.cell 0).trans (ncs_0 xb); have uc2 := (HC.out.cell 2).trans (ncs_2 xb); have uc4 := (HC.out.cell 4).trans (ncs_4 xb); rw [EKB.out] at uc0; rw [ETB.out] at uc2; rw [EXB.out] at uc4; simp only at uc4; have ldc := run_ldN HC.out; clear hb) | (go_at_call 68; (with_reducible refine (cp3 _).mono ?_); intro e w2 hp; obtain ⟨rfl, hb⟩ := hp; have HB := Lib.hid (HB.out.trans (hb.mono HB.out.size)); have HBN := Lib.hid (HBN.out.call hb); have ld := run_ldN HBN.out; have n1 := (HBN.out.cell 1).trans (ncs_1 N); rw [E2.out] at n1; have n2 := (HBN.out.cell 2).trans (ncs_2 N); rw [E3.out] at n2; have n4 := (HBN.out.cell 4).trans (ncs_4 N); rw [HM.out] at n4; simp only at n4; have la := Ka.out.ld HB.out; have lb1 := KB.out.ld HB.out; have lc1 := Kc.out.ld HB.out; have kka := Ka.out.kind HB.out; have kta := Ka.out.text HB.out; have kna := Ka.out.names HB.out; have HC := Lib.hid (HC.out.call hb); have uc0 := (HC.out.cell 0).trans (ncs_0 xb); have uc2 := (HC.out.cell 2).trans (ncs_2 xb); have uc4 := (HC.out.cell 4).trans (ncs_4 xb); rw [EKB.out] at uc0; rw [ETB.out] at uc2; rw [EXB.out] at uc4; simp only at uc4; have ldc := run_ldN HC.out; clear hb))
    go_ret
    first | exact ⟨rfl, HB.out⟩ | exact ⟨rfl, bl_alloc HB.out⟩)
end Go.Proofs.YtinoaajohkafmaaGreat.Pr
