/-
  The reference's functions on trees: what is left of the kinds.
-/
import Derived.Test.YtinoaajohkafmaaGreatMt21
namespace Go.Proofs.YtinoaajohkafmaaGreat.Pr
open Go Go.RowKit Go.Proofs.YtinoaajohkafmaaGreat.Pa Go.Proofs.YtinoaajohkafmaaGreat.Uni
open Go.Proofs.YtinoaajohkafmaaGreat.Lx
set_option linter.unusedVariables false
set_option linter.unusedSimpArgs false
def tryB (t : Tree) : Bool := okT 83 t
def TryC (t : Tree) : Prop := ∀ {N : Nd} {w : World}, Rd w t N → Str t → Calls Tryz.prog 73 #[.agg (ncs N)] w (PostR w (.bool (tryB t)))
theorem up_c0 : ([105, 102, 32, 40, 65, 41, 32, 83] : By).filter isUp = [65, 83] := by decide
theorem up_c1 : ([105, 102, 32, 40, 65, 41, 32, 83, 32, 101, 108, 115, 101, 32, 83] : By).filter isUp = [65, 83, 83] := by decide
theorem ok77x (t : Tree) : okT 77 t = (memberB t && okT 65 t) := by
  obtain ⟨k, n, tx, ns, ks⟩ := t
  unfold okT memberB Tree.kind
  by_cases h : k = 15
  · subst h; simp [hereB, kindB, textB, namesB, numB, placesB, layB]
  by_cases h : k = 16
  · subst h; simp [hereB, kindB, textB, namesB, numB, placesB, layB]
  simp [hereB, kindB, *]
theorem ok84x (t : Tree) : okT 84 t = ((t.kind == 8 || memberB t) && okT 65 t) := by
  obtain ⟨k, n, tx, ns, ks⟩ := t
  unfold okT memberB Tree.kind
  by_cases h : k = 15
  · subst h; simp [hereB, kindB, textB, namesB, numB, placesB, layB]
  by_cases h : k = 16
  · subst h; simp [hereB, kindB, textB, namesB, numB, placesB, layB]
  by_cases h : k = 8
  · subst h; simp [hereB, kindB, textB, namesB, numB, placesB, layB]
  simp [hereB, kindB, *]
theorem ok_unx (n : Int) (tx : ByteArray) (ns : List ByteArray) (a : Tree) : okT 65 (.mk 19 n tx ns [a]) = (((decide (n = 0)) && ns.isEmpty) && (unL.contains tx.data.toList && (if tx.data.toList = [100, 101, 108, 101, 116, 101] then memberB a && okT 65 a else okT 65 a))) := by
  by_cases h : tx.data.toList = [100, 101, 108, 101, 116, 101] <;> by_cases h2 : tx.data.toList = [116, 121, 112, 101, 111, 102] <;>
  simp [okT, okKs, hereB, kindB, textB, namesB, numB, elseB, elseL, placesB, layB, exL, isUp, h, h2, ok77x] <;> grind
theorem ok_setx (n : Int) (tx : ByteArray) (ns : List ByteArray) (a b : Tree) : okT 65 (.mk 24 n tx ns [a, b]) = (((decide (n = 0)) && (ns.isEmpty && emptyB tx)) && (((a.kind == 8 || memberB a) && okT 65 a) && okT 65 b)) := by
  simp [okT, okKs, hereB, kindB, textB, namesB, numB, elseB, elseL, placesB, layB, exL, isUp, ok84x] <;> grind
theorem pure_rst_34s {n : Int} {tx : ByteArray} {ns : List ByteArray} {ks : List Tree} (hh : ks.length < 2) : okT 83 (.mk 34 n tx ns ks) = (onlyV false false false n tx ns.length && decide (2 ≤ ks.length)) := by
  rw [tl_data_only]
  rcases ks with _ | ⟨a, _ | ⟨b, _ | ⟨c, _ | ⟨d, ks⟩⟩⟩⟩ <;> simp [okT, okKs, hereB, kindB, textB, namesB, numB, elseB, elseL, placesB, layB, exL, stL, funL, tryL, headK, emptyB, allT, up_app, up_list, up_rep, up_brace, Tree.kind, Tree.text, Tree.names, Tree.num, Tree.kids, up_c0, up_c1] at hh ⊢ <;> (try omega) <;> (try simp [show ¬ (ks.length + 1 + 1 + 1 + 1 < 3) from by omega, up_c1, okKs])
theorem pure_rst_34l {n : Int} {tx : ByteArray} {ns : List ByteArray} {ks : List Tree} (hh : 3 < ks.length) : okT 83 (.mk 34 n tx ns ks) = (onlyV false false false n tx ns.length && decide (ks.length ≤ 3)) := by
  rw [tl_data_only]
  rcases ks with _ | ⟨a, _ | ⟨b, _ | ⟨c, _ | ⟨d, ks⟩⟩⟩⟩ <;> simp [okT, okKs, hereB, kindB, textB, namesB, numB, elseB, elseL, placesB, layB, exL, stL, funL, tryL, headK, emptyB, allT, up_app, up_list, up_rep, up_brace, Tree.kind, Tree.text, Tree.names, Tree.num, Tree.kids, up_c0, up_c1] at hh ⊢ <;> (try omega) <;> (try simp [show ¬ (ks.length + 1 + 1 + 1 + 1 < 3) from by omega, up_c1, okKs])
theorem pure_rst_38 {n : Int} {tx : ByteArray} {ns : List ByteArray} {ks : List Tree}  : okT 83 (.mk 38 n tx ns ks) = tryB (.mk 38 n tx ns ks) := by
  rfl
theorem pure_rst_40 {n : Int} {tx : ByteArray} {ns : List ByteArray} {ks : List Tree}  : okT 83 (.mk 40 n tx ns ks) = okT 66 (.mk 40 n tx ns ks) := by
  simp [okT, hereB, kindB, textB, namesB, numB, placesB, layB]
theorem pure_rblk_40 {n : Int} {tx : ByteArray} {ns : List ByteArray} {ks : List Tree}  : okT 66 (.mk 40 n tx ns ks) = (onlyV false false false n tx ns.length && allT 83 ks) := by
  rw [tl_data_only]
  have h := okKs_rep 83 ks
  simp [okT, okKs, hereB, kindB, textB, namesB, numB, elseB, elseL, placesB, layB, exL, stL, funL, tryL, headK, emptyB, isUp, allT, up_app, up_list, up_rep, up_brace, Tree.kind, Tree.text, Tree.names, Tree.num, Tree.kids, h, Bool.and_assoc, Bool.and_comm, Bool.and_left_comm]
theorem pure_rprog_44 {n : Int} {tx : ByteArray} {ns : List ByteArray} {ks : List Tree}  : okT 80 (.mk 44 n tx ns ks) = (onlyV false false false n tx ns.length && allT 83 ks) := by
  rw [tl_data_only]
  have h := okKs_rep 83 ks
  simp [okT, okKs, hereB, kindB, textB, namesB, numB, elseB, elseL, placesB, layB, exL, stL, funL, tryL, headK, emptyB, isUp, allT, up_app, up_list, up_rep, up_brace, Tree.kind, Tree.text, Tree.names, Tree.num, Tree.kids, h, Bool.and_assoc, Bool.and_comm, Bool.and_left_comm]
theorem pure_rpair_11 {n : Int} {tx : ByteArray} {ns : List ByteArray} {ks : List Tree}  : okT 68 (.mk 11 n tx ns ks) = (onlyV false false false n tx ns.length && (decide (ks.length = 2) && allT 65 ks)) := by
  rw [tl_data_only]
  rcases ks with _ | ⟨a, _ | ⟨b, _ | ⟨c, ks⟩⟩⟩
  · simp [okT, okKs, hereB, kindB, textB, namesB, numB, elseB, elseL, placesB, layB, exL, stL, funL, tryL, headK, emptyB, isUp, allT, up_app, up_list, up_rep, up_brace, Tree.kind, Tree.text, Tree.names, Tree.num, Tree.kids] <;> grind
  all_goals by_cases hk : a.kind = 2 <;> simp [okT, okKs, hereB, kindB, textB, namesB, numB, elseB, elseL, placesB, layB, exL, stL, funL, tryL, headK, emptyB, isUp, allT, up_app, up_list, up_rep, up_brace, hk] <;> grind
theorem pure_rpair_12n {n : Int} {tx : ByteArray} {ns : List ByteArray} {ks : List Tree} (hh : ks.length ≠ 1) : okT 68 (.mk 12 n tx ns ks) = (onlyV false true false n tx ns.length && (rtB tx && decide (ks.length = 1))) := by
  rw [tl_data_only]
  rcases ks with _ | ⟨a, _ | ⟨b, _ | ⟨c, _ | ⟨d, ks⟩⟩⟩⟩ <;> simp [okT, okKs, hereB, kindB, textB, namesB, numB, elseB, elseL, placesB, layB, exL, stL, funL, tryL, headK, emptyB, isUp, allT, up_app, up_list, up_rep, up_brace, Tree.kind, Tree.text, Tree.names, Tree.num, Tree.kids, propB, bin12L, binL] <;> grind
theorem pure_rpair_13n {n : Int} {tx : ByteArray} {ns : List ByteArray} {ks : List Tree} (hh : ks.length ≠ 1) : okT 68 (.mk 13 n tx ns ks) = (onlyV false true false n tx ns.length && (rtB tx && decide (ks.length = 1))) := by
  rw [tl_data_only]
  rcases ks with _ | ⟨a, _ | ⟨b, _ | ⟨c, _ | ⟨d, ks⟩⟩⟩⟩ <;> simp [okT, okKs, hereB, kindB, textB, namesB, numB, elseB, elseL, placesB, layB, exL, stL, funL, tryL, headK, emptyB, isUp, allT, up_app, up_list, up_rep, up_brace, Tree.kind, Tree.text, Tree.names, Tree.num, Tree.kids, propB, bin12L, binL] <;> grind
theorem pure_rex_19n {n : Int} {tx : ByteArray} {ns : List ByteArray} {ks : List Tree} (hh : ks.length ≠ 1) : okT 65 (.mk 19 n tx ns ks) = (onlyV false true false n tx ns.length && decide (ks.length = 1)) := by
  rw [tl_data_only]
  by_cases h : tx.data.toList = [100, 101, 108, 101, 116, 101] <;> by_cases h2 : tx.data.toList = [116, 121, 112, 101, 111, 102] <;> rcases ks with _ | ⟨a, _ | ⟨b, ks⟩⟩ <;> simp [okT, okKs, hereB, kindB, textB, namesB, numB, elseB, elseL, placesB, layB, exL, stL, funL, tryL, headK, emptyB, isUp, allT, up_app, up_list, up_rep, up_brace, Tree.kind, Tree.text, Tree.names, Tree.num, Tree.kids, h, h2] at hh ⊢
theorem pure_rex_24n {n : Int} {tx : ByteArray} {ns : List ByteArray} {ks : List Tree} (hh : ks.length ≠ 2) : okT 65 (.mk 24 n tx ns ks) = (onlyV false false false n tx ns.length && decide (ks.length = 2)) := by
  rw [tl_data_only]
  rcases ks with _ | ⟨a, _ | ⟨b, _ | ⟨c, _ | ⟨d, ks⟩⟩⟩⟩ <;> simp [okT, okKs, hereB, kindB, textB, namesB, numB, elseB, elseL, placesB, layB, exL, stL, funL, tryL, headK, emptyB, isUp, allT, up_app, up_list, up_rep, up_brace, Tree.kind, Tree.text, Tree.names, Tree.num, Tree.kids, propB, bin12L, binL] <;> grind
attribute [local go_sem ↓] ldK stK alK bdK bsK ldN stN alN bdN bsN bs_un3 bs_bin12
attribute [local irreducible] kcs ncs ncells un3_cs bin12_cs
attribute [local go_sem] run_alN run_stNg run_ldNg run_bdN0 run_un3 run_bin12
set_option maxRecDepth 100000 in
set_option maxHeartbeats 4000000 in
theorem rst_34s {n : Int} {tx : ByteArray} {ns : List ByteArray} {ks : List Tree} (hh : ks.length < 2)  {N : Nd} {w : World} (hr : Rd w (.mk 34 n tx ns ks) N) (hs : Str (.mk 34 n tx ns ks)) : Calls Tryz.prog 52 #[.agg (ncs N)] w (PostR w (.bool (okT 83 (.mk 34 n tx ns ks)))) := by
  obtain ⟨hz, hzn, hzk⟩ := hs.of
  obtain ⟨bN, n0, n1, n2, n3, n4, HB, e1, e2, e3, e4, e5⟩ := nd_start hr
  rw [e1] at n0
  rw [pure_rst_34s hh]
  have co : ∀ W, Calls Tryz.prog 29 #[.agg (ncs N), .bool false, .bool false, .bool false] W (PostR W (.bool (onlyV false false false n tx ns.length))) := fun W => by
    have := only_fff N W
    unfold onlyB at this
    rw [e2, e3, e4] at this
    exact this
  obtain ⟨o, ho⟩ : ∃ o, onlyV false false false n tx ns.length = o := ⟨_, rfl⟩
  rw [ho] at co
  obtain ⟨m, hm⟩ : ∃ m, N.kids.n = m := ⟨_, rfl⟩
  rw [hm] at n4 e5
  rw [e3] at n2
  rw [e2] at n1
  have ld := run_ldN bN
  have ep0 : decide (2 ≤ ks.length) = false := by simp; omega
  rw [ep0]
  have fp00 : decide ((m : Int) < 2) = true := by rw [e5]; simp; omega
  clear ep0
  rw [ho]
  have HBN := Lib.hid bN
  have HM := Lib.hid hm
  have E2 := Lib.hid e2
  have E3 := Lib.hid e3
  clear hz hzn hzk hr hs e1 e2 e3 e4 e5 bN ho hh hm
  cases o
  all_goals (
    go_enter Tryz.func52, Tryz.ntmps52
    go_wp2_with (first | (go_at_call 29; (with_reducible refine (co _).mono ?_); intro e w2 hp; obtain ⟨rfl, hb⟩ := hp; have HB := Lib.hid (HB.out.trans (hb.mono HB.out.size)); have HBN := Lib.hid (HBN.out.call hb); have ld := run_ldN HBN.out; have n1 := (HBN.out.cell 1).trans (ncs_1 N); rw [E2.out] at n1; have n2 := (HBN.out.cell 2).trans (ncs_2 N); rw [E3.out] at n2; have n4 := (HBN.out.cell 4).trans (ncs_4 N); rw [HM.out] at n4; clear hb))
    go_ret
    first | exact ⟨rfl, HB.out⟩ | exact ⟨rfl, bl_alloc HB.out⟩)
set_option maxRecDepth 100000 in
set_option maxHeartbeats 4000000 in
theorem rst_34l {n : Int} {tx : ByteArray} {ns : List ByteArray} {ks : List Tree} (hh : 3 < ks.length)  {N : Nd} {w : World} (hr : Rd w (.mk 34 n tx ns ks) N) (hs : Str (.mk 34 n tx ns ks)) : Calls Tryz.prog 52 #[.agg (ncs N)] w (PostR w (.bool (okT 83 (.mk 34 n tx ns ks)))) := by
  obtain ⟨hz, hzn, hzk⟩ := hs.of
  obtain ⟨bN, n0, n1, n2, n3, n4, HB, e1, e2, e3, e4, e5⟩ := nd_start hr
  rw [e1] at n0
  rw [pure_rst_34l hh]
  have co : ∀ W, Calls Tryz.prog 29 #[.agg (ncs N), .bool false, .bool false, .bool false] W (PostR W (.bool (onlyV false false false n tx ns.length))) := fun W => by
    have := only_fff N W
    unfold onlyB at this
    rw [e2, e3, e4] at this
    exact this
  obtain ⟨o, ho⟩ : ∃ o, onlyV false false false n tx ns.length = o := ⟨_, rfl⟩
  rw [ho] at co
  obtain ⟨m, hm⟩ : ∃ m, N.kids.n = m := ⟨_, rfl⟩
  rw [hm] at n4 e5
  rw [e3] at n2
  rw [e2] at n1
  have ld := run_ldN bN
  have ep0 : decide (ks.length ≤ 3) = false := by simp; omega
  rw [ep0]
  have fp00 : decide ((m : Int) < 2) = false := by rw [e5]; simp; omega
  have fp01 : decide (3 < (m : Int)) = true := by rw [e5]; simp; omega
  clear ep0
  rw [ho]
  have HBN := Lib.hid bN
  have HM := Lib.hid hm
  have E2 := Lib.hid e2
  have E3 := Lib.hid e3
  clear hz hzn hzk hr hs e1 e2 e3 e4 e5 bN ho hh hm
  cases o
  all_goals (
    go_enter Tryz.func52, Tryz.ntmps52
    go_wp2_with (first | (go_at_call 29; (with_reducible refine (co _).mono ?_); intro e w2 hp; obtain ⟨rfl, hb⟩ := hp; have HB := Lib.hid (HB.out.trans (hb.mono HB.out.size)); have HBN := Lib.hid (HBN.out.call hb); have ld := run_ldN HBN.out; have n1 := (HBN.out.cell 1).trans (ncs_1 N); rw [E2.out] at n1; have n2 := (HBN.out.cell 2).trans (ncs_2 N); rw [E3.out] at n2; have n4 := (HBN.out.cell 4).trans (ncs_4 N); rw [HM.out] at n4; clear hb))
    go_ret
    first | exact ⟨rfl, HB.out⟩ | exact ⟨rfl, bl_alloc HB.out⟩)
set_option maxRecDepth 100000 in
set_option maxHeartbeats 4000000 in
theorem rst_38 {n : Int} {tx : ByteArray} {ns : List ByteArray} {ks : List Tree}  (Ht : TryC (.mk 38 n tx ns ks)) {N : Nd} {w : World} (hr : Rd w (.mk 38 n tx ns ks) N) (hs : Str (.mk 38 n tx ns ks)) : Calls Tryz.prog 52 #[.agg (ncs N)] w (PostR w (.bool (okT 83 (.mk 38 n tx ns ks)))) := by
  obtain ⟨hz, hzn, hzk⟩ := hs.of
  obtain ⟨bN, n0, n1, n2, n3, n4, HB, e1, e2, e3, e4, e5⟩ := nd_start hr
  rw [e1] at n0
  rw [pure_rst_38]
  obtain ⟨m, hm⟩ : ∃ m, N.kids.n = m := ⟨_, rfl⟩
  rw [hm] at n4 e5
  rw [e3] at n2
  rw [e2] at n1
  have ld := run_ldN bN
  have cp0 := fun W (hb : Below w.heap.size w W) => Ht (hr.below hb) hs
  obtain ⟨p0, hp0⟩ : ∃ q, tryB (.mk 38 n tx ns ks) = q := ⟨_, rfl⟩
  rw [hp0] at cp0
  rw [hp0]
  have HBN := Lib.hid bN
  have HM := Lib.hid hm
  have E2 := Lib.hid e2
  have E3 := Lib.hid e3
  clear hz hzn hzk hr hs e1 e2 e3 e4 e5 bN hp0 Ht hm
  cases p0
  all_goals (
    go_enter Tryz.func52, Tryz.ntmps52
    go_wp2_with (first | (go_at_call 73; (with_reducible refine (cp0 _ HB.out).mono ?_); intro e w2 hp; obtain ⟨rfl, hb⟩ := hp; have HB := Lib.hid (HB.out.trans (hb.mono HB.out.size)); have HBN := Lib.hid (HBN.out.call hb); have ld := run_ldN HBN.out; have n1 := (HBN.out.cell 1).trans (ncs_1 N); rw [E2.out] at n1; have n2 := (HBN.out.cell 2).trans (ncs_2 N); rw [E3.out] at n2; have n4 := (HBN.out.cell 4).trans (ncs_4 N); rw [HM.out] at n4; clear hb))
    go_ret
    first | exact ⟨rfl, HB.out⟩ | exact ⟨rfl, bl_alloc HB.out⟩)
set_option maxRecDepth 100000 in
set_option maxHeartbeats 4000000 in
theorem rst_40 {n : Int} {tx : ByteArray} {ns : List ByteArray} {ks : List Tree}  (Hb : BlkC (.mk 40 n tx ns ks)) {N : Nd} {w : World} (hr : Rd w (.mk 40 n tx ns ks) N) (hs : Str (.mk 40 n tx ns ks)) : Calls Tryz.prog 52 #[.agg (ncs N)] w (PostR w (.bool (okT 83 (.mk 40 n tx ns ks)))) := by
  obtain ⟨hz, hzn, hzk⟩ := hs.of
  obtain ⟨bN, n0, n1, n2, n3, n4, HB, e1, e2, e3, e4, e5⟩ := nd_start hr
  rw [e1] at n0
  rw [pure_rst_40]
  obtain ⟨m, hm⟩ : ∃ m, N.kids.n = m := ⟨_, rfl⟩
  rw [hm] at n4 e5
  rw [e3] at n2
  rw [e2] at n1
  have ld := run_ldN bN
  have cp0 := fun W (hb : Below w.heap.size w W) => Hb (hr.below hb) hs
  obtain ⟨p0, hp0⟩ : ∃ q, okT 66 (.mk 40 n tx ns ks) = q := ⟨_, rfl⟩
  rw [hp0] at cp0
  rw [hp0]
  have HBN := Lib.hid bN
  have HM := Lib.hid hm
  have E2 := Lib.hid e2
  have E3 := Lib.hid e3
  clear hz hzn hzk hr hs e1 e2 e3 e4 e5 bN hp0 Hb hm
  cases p0
  all_goals (
    go_enter Tryz.func52, Tryz.ntmps52
    go_wp2_with (first | (go_at_call 74; (with_reducible refine (cp0 _ HB.out).mono ?_); intro e w2 hp; obtain ⟨rfl, hb⟩ := hp; have HB := Lib.hid (HB.out.trans (hb.mono HB.out.size)); have HBN := Lib.hid (HBN.out.call hb); have ld := run_ldN HBN.out; have n1 := (HBN.out.cell 1).trans (ncs_1 N); rw [E2.out] at n1; have n2 := (HBN.out.cell 2).trans (ncs_2 N); rw [E3.out] at n2; have n4 := (HBN.out.cell 4).trans (ncs_4 N); rw [HM.out] at n4; clear hb))
    go_ret
    first | exact ⟨rfl, HB.out⟩ | exact ⟨rfl, bl_alloc HB.out⟩)
set_option maxRecDepth 100000 in
set_option maxHeartbeats 4000000 in
theorem rblk_40 {n : Int} {tx : ByteArray} {ns : List ByteArray} {ks : List Tree}  (IH : StmsC ks) {N : Nd} {w : World} (hr : Rd w (.mk 40 n tx ns ks) N) (hs : Str (.mk 40 n tx ns ks)) : Calls Tryz.prog 74 #[.agg (ncs N)] w (PostR w (.bool (okT 66 (.mk 40 n tx ns ks)))) := by
  obtain ⟨hz, hzn, hzk⟩ := hs.of
  obtain ⟨bN, n0, n1, n2, n3, n4, HB, e1, e2, e3, e4, e5⟩ := nd_start hr
  rw [e1] at n0
  rw [pure_rblk_40]
  have co : ∀ W, Calls Tryz.prog 29 #[.agg (ncs N), .bool false, .bool false, .bool false] W (PostR W (.bool (onlyV false false false n tx ns.length))) := fun W => by
    have := only_fff N W
    unfold onlyB at this
    rw [e2, e3, e4] at this
    exact this
  obtain ⟨o, ho⟩ : ∃ o, onlyV false false false n tx ns.length = o := ⟨_, rfl⟩
  rw [ho] at co
  obtain ⟨m, hm⟩ : ∃ m, N.kids.n = m := ⟨_, rfl⟩
  rw [hm] at n4 e5
  rw [e3] at n2
  rw [e2] at n1
  have ld := run_ldN bN
  have cp0 := kids_st hr IH hzk
  rw [hm] at cp0
  obtain ⟨p0, hp0⟩ : ∃ q, allT 83 ks = q := ⟨_, rfl⟩
  rw [hp0] at cp0
  rw [ho]
  rw [hp0]
  have HBN := Lib.hid bN
  have HM := Lib.hid hm
  have E2 := Lib.hid e2
  have E3 := Lib.hid e3
  clear hz hzn hzk hr hs e1 e2 e3 e4 e5 bN ho hp0 IH hm
  cases o; rotate_left; cases p0
  all_goals (
    go_enter Tryz.func74, Tryz.ntmps74
    go_wp2_with (first | (go_at_call 29; (with_reducible refine (co _).mono ?_); intro e w2 hp; obtain ⟨rfl, hb⟩ := hp; have HB := Lib.hid (HB.out.trans (hb.mono HB.out.size)); have HBN := Lib.hid (HBN.out.call hb); have ld := run_ldN HBN.out; have n1 := (HBN.out.cell 1).trans (ncs_1 N); rw [E2.out] at n1; have n2 := (HBN.out.cell 2).trans (ncs_2 N); rw [E3.out] at n2; have n4 := (HBN.out.cell 4).trans (ncs_4 N); rw [HM.out] at n4; clear hb) | (go_at_call 30; (with_reducible refine (cp0 _ HB.out).mono ?_); intro e w2 hp; obtain ⟨rfl, hb⟩ := hp; have HB := Lib.hid (HB.out.trans (hb.mono HB.out.size)); have HBN := Lib.hid (HBN.out.call hb); have ld := run_ldN HBN.out; have n1 := (HBN.out.cell 1).trans (ncs_1 N); rw [E2.out] at n1; have n2 := (HBN.out.cell 2).trans (ncs_2 N); rw [E3.out] at n2; have n4 := (HBN.out.cell 4).trans (ncs_4 N); rw [HM.out] at n4; clear hb))
    go_ret
    first | exact ⟨rfl, HB.out⟩ | exact ⟨rfl, bl_alloc HB.out⟩)
set_option maxRecDepth 100000 in
set_option maxHeartbeats 4000000 in
theorem rprog_44 {n : Int} {tx : ByteArray} {ns : List ByteArray} {ks : List Tree}  (IH : StmsC ks) {N : Nd} {w : World} (hr : Rd w (.mk 44 n tx ns ks) N) (hs : Str (.mk 44 n tx ns ks)) : Calls Tryz.prog 17 #[.agg (ncs N)] w (PostR w (.bool (okT 80 (.mk 44 n tx ns ks)))) := by
  obtain ⟨hz, hzn, hzk⟩ := hs.of
  obtain ⟨bN, n0, n1, n2, n3, n4, HB, e1, e2, e3, e4, e5⟩ := nd_start hr
  rw [e1] at n0
  rw [pure_rprog_44]
  have co : ∀ W, Calls Tryz.prog 29 #[.agg (ncs N), .bool false, .bool false, .bool false] W (PostR W (.bool (onlyV false false false n tx ns.length))) := fun W => by
    have := only_fff N W
    unfold onlyB at this
    rw [e2, e3, e4] at this
    exact this
  obtain ⟨o, ho⟩ : ∃ o, onlyV false false false n tx ns.length = o := ⟨_, rfl⟩
  rw [ho] at co
  obtain ⟨m, hm⟩ : ∃ m, N.kids.n = m := ⟨_, rfl⟩
  rw [hm] at n4 e5
  rw [e3] at n2
  rw [e2] at n1
  have ld := run_ldN bN
  have cp0 := kids_st hr IH hzk
  rw [hm] at cp0
  obtain ⟨p0, hp0⟩ : ∃ q, allT 83 ks = q := ⟨_, rfl⟩
  rw [hp0] at cp0
  rw [ho]
  rw [hp0]
  have HBN := Lib.hid bN
  have HM := Lib.hid hm
  have E2 := Lib.hid e2
  have E3 := Lib.hid e3
  clear hz hzn hzk hr hs e1 e2 e3 e4 e5 bN ho hp0 IH hm
  cases o; rotate_left; cases p0
  all_goals (
    go_enter Tryz.func17, Tryz.ntmps17
    go_wp2_with (first | (go_at_call 29; (with_reducible refine (co _).mono ?_); intro e w2 hp; obtain ⟨rfl, hb⟩ := hp; have HB := Lib.hid (HB.out.trans (hb.mono HB.out.size)); have HBN := Lib.hid (HBN.out.call hb); have ld := run_ldN HBN.out; have n1 := (HBN.out.cell 1).trans (ncs_1 N); rw [E2.out] at n1; have n2 := (HBN.out.cell 2).trans (ncs_2 N); rw [E3.out] at n2; have n4 := (HBN.out.cell 4).trans (ncs_4 N); rw [HM.out] at n4; clear hb) | (go_at_call 30; (with_reducible refine (cp0 _ HB.out).mono ?_); intro e w2 hp; obtain ⟨rfl, hb⟩ := hp; have HB := Lib.hid (HB.out.trans (hb.mono HB.out.size)); have HBN := Lib.hid (HBN.out.call hb); have ld := run_ldN HBN.out; have n1 := (HBN.out.cell 1).trans (ncs_1 N); rw [E2.out] at n1; have n2 := (HBN.out.cell 2).trans (ncs_2 N); rw [E3.out] at n2; have n4 := (HBN.out.cell 4).trans (ncs_4 N); rw [HM.out] at n4; clear hb))
    go_ret
    first | exact ⟨rfl, HB.out⟩ | exact ⟨rfl, bl_alloc HB.out⟩)
set_option maxRecDepth 100000 in
set_option maxHeartbeats 4000000 in
theorem rpair_11 {n : Int} {tx : ByteArray} {ns : List ByteArray} {ks : List Tree}  (IH : ExpsC ks) {N : Nd} {w : World} (hr : Rd w (.mk 11 n tx ns ks) N) (hs : Str (.mk 11 n tx ns ks)) : Calls Tryz.prog 99 #[.agg (ncs N)] w (PostR w (.bool (okT 68 (.mk 11 n tx ns ks)))) := by
  obtain ⟨hz, hzn, hzk⟩ := hs.of
  obtain ⟨bN, n0, n1, n2, n3, n4, HB, e1, e2, e3, e4, e5⟩ := nd_start hr
  rw [e1] at n0
  rw [pure_rpair_11]
  have co : ∀ W, Calls Tryz.prog 29 #[.agg (ncs N), .bool false, .bool false, .bool false] W (PostR W (.bool (onlyV false false false n tx ns.length))) := fun W => by
    have := only_fff N W
    unfold onlyB at this
    rw [e2, e3, e4] at this
    exact this
  obtain ⟨o, ho⟩ : ∃ o, onlyV false false false n tx ns.length = o := ⟨_, rfl⟩
  rw [ho] at co
  obtain ⟨m, hm⟩ : ∃ m, N.kids.n = m := ⟨_, rfl⟩
  rw [hm] at n4 e5
  rw [e3] at n2
  rw [e2] at n1
  have ld := run_ldN bN
  obtain ⟨p0, hp0⟩ : ∃ q, decide (ks.length = 2) = q := ⟨_, rfl⟩
  have fp0 : ((m : Int) == 2) = p0 := by rw [← hp0, e5]; rw [Bool.eq_iff_iff]; simp; try omega
  have cp1 := kids_ex hr IH hzk
  rw [hm] at cp1
  obtain ⟨p1, hp1⟩ : ∃ q, allT 65 ks = q := ⟨_, rfl⟩
  rw [hp1] at cp1
  rw [ho]
  rw [hp0]
  rw [hp1]
  have HBN := Lib.hid bN
  have HM := Lib.hid hm
  have E2 := Lib.hid e2
  have E3 := Lib.hid e3
  clear hz hzn hzk hr hs e1 e2 e3 e4 e5 bN ho hp0 hp1 IH hm
  cases o; rotate_left; cases p0; rotate_left; cases p1
  all_goals (
    go_enter Tryz.func99, Tryz.ntmps99
    go_wp2_with (first | (go_at_call 29; (with_reducible refine (co _).mono ?_); intro e w2 hp; obtain ⟨rfl, hb⟩ := hp; have HB := Lib.hid (HB.out.trans (hb.mono HB.out.size)); have HBN := Lib.hid (HBN.out.call hb); have ld := run_ldN HBN.out; have n1 := (HBN.out.cell 1).trans (ncs_1 N); rw [E2.out] at n1; have n2 := (HBN.out.cell 2).trans (ncs_2 N); rw [E3.out] at n2; have n4 := (HBN.out.cell 4).trans (ncs_4 N); rw [HM.out] at n4; clear hb) | (go_at_call 69; (with_reducible refine (cp1 _ HB.out).mono ?_); intro e w2 hp; obtain ⟨rfl, hb⟩ := hp; have HB := Lib.hid (HB.out.trans (hb.mono HB.out.size)); have HBN := Lib.hid (HBN.out.call hb); have ld := run_ldN HBN.out; have n1 := (HBN.out.cell 1).trans (ncs_1 N); rw [E2.out] at n1; have n2 := (HBN.out.cell 2).trans (ncs_2 N); rw [E3.out] at n2; have n4 := (HBN.out.cell 4).trans (ncs_4 N); rw [HM.out] at n4; clear hb))
    go_ret
    first | exact ⟨rfl, HB.out⟩ | exact ⟨rfl, bl_alloc HB.out⟩)
set_option maxRecDepth 100000 in
set_option maxHeartbeats 4000000 in
theorem rpair_12n {n : Int} {tx : ByteArray} {ns : List ByteArray} {ks : List Tree} (hh : ks.length ≠ 1)  {N : Nd} {w : World} (hr : Rd w (.mk 12 n tx ns ks) N) (hs : Str (.mk 12 n tx ns ks)) : Calls Tryz.prog 99 #[.agg (ncs N)] w (PostR w (.bool (okT 68 (.mk 12 n tx ns ks)))) := by
  obtain ⟨hz, hzn, hzk⟩ := hs.of
  obtain ⟨bN, n0, n1, n2, n3, n4, HB, e1, e2, e3, e4, e5⟩ := nd_start hr
  rw [e1] at n0
  rw [pure_rpair_12n hh]
  have co : ∀ W, Calls Tryz.prog 29 #[.agg (ncs N), .bool false, .bool true, .bool false] W (PostR W (.bool (onlyV false true false n tx ns.length))) := fun W => by
    have := only_ftf N W
    unfold onlyB at this
    rw [e2, e3, e4] at this
    exact this
  obtain ⟨o, ho⟩ : ∃ o, onlyV false true false n tx ns.length = o := ⟨_, rfl⟩
  rw [ho] at co
  obtain ⟨m, hm⟩ : ∃ m, N.kids.n = m := ⟨_, rfl⟩
  rw [hm] at n4 e5
  rw [e3] at n2
  rw [e2] at n1
  have ld := run_ldN bN
  have cp0 := fun W => plainText_any tx W hz
  obtain ⟨p0, hp0⟩ : ∃ q, rtB tx = q := ⟨_, rfl⟩
  rw [hp0] at cp0
  have ep1 : decide (ks.length = 1) = false := by simp [hh]
  rw [ep1]
  have fp10 : ((m : Int) == 1) = false := by rw [e5]; simp; omega
  clear ep1
  rw [ho]
  rw [hp0]
  have HBN := Lib.hid bN
  have HM := Lib.hid hm
  have E2 := Lib.hid e2
  have E3 := Lib.hid e3
  clear hz hzn hzk hr hs e1 e2 e3 e4 e5 bN ho hh hp0 hm
  cases o; rotate_left; cases p0
  all_goals (
    go_enter Tryz.func99, Tryz.ntmps99
    go_wp2_with (first | (go_at_call 29; (with_reducible refine (co _).mono ?_); intro e w2 hp; obtain ⟨rfl, hb⟩ := hp; have HB := Lib.hid (HB.out.trans (hb.mono HB.out.size)); have HBN := Lib.hid (HBN.out.call hb); have ld := run_ldN HBN.out; have n1 := (HBN.out.cell 1).trans (ncs_1 N); rw [E2.out] at n1; have n2 := (HBN.out.cell 2).trans (ncs_2 N); rw [E3.out] at n2; have n4 := (HBN.out.cell 4).trans (ncs_4 N); rw [HM.out] at n4; clear hb) | (go_at_call 98; (with_reducible refine (cp0 _).mono ?_); intro e w2 hp; obtain ⟨rfl, hb⟩ := hp; have HB := Lib.hid (HB.out.trans (hb.mono HB.out.size)); have HBN := Lib.hid (HBN.out.call hb); have ld := run_ldN HBN.out; have n1 := (HBN.out.cell 1).trans (ncs_1 N); rw [E2.out] at n1; have n2 := (HBN.out.cell 2).trans (ncs_2 N); rw [E3.out] at n2; have n4 := (HBN.out.cell 4).trans (ncs_4 N); rw [HM.out] at n4; clear hb))
    go_ret
    first | exact ⟨rfl, HB.out⟩ | exact ⟨rfl, bl_alloc HB.out⟩)
set_option maxRecDepth 100000 in
set_option maxHeartbeats 4000000 in
theorem rpair_13n {n : Int} {tx : ByteArray} {ns : List ByteArray} {ks : List Tree} (hh : ks.length ≠ 1)  {N : Nd} {w : World} (hr : Rd w (.mk 13 n tx ns ks) N) (hs : Str (.mk 13 n tx ns ks)) : Calls Tryz.prog 99 #[.agg (ncs N)] w (PostR w (.bool (okT 68 (.mk 13 n tx ns ks)))) := by
  obtain ⟨hz, hzn, hzk⟩ := hs.of
  obtain ⟨bN, n0, n1, n2, n3, n4, HB, e1, e2, e3, e4, e5⟩ := nd_start hr
  rw [e1] at n0
  rw [pure_rpair_13n hh]
  have co : ∀ W, Calls Tryz.prog 29 #[.agg (ncs N), .bool false, .bool true, .bool false] W (PostR W (.bool (onlyV false true false n tx ns.length))) := fun W => by
    have := only_ftf N W
    unfold onlyB at this
    rw [e2, e3, e4] at this
    exact this
  obtain ⟨o, ho⟩ : ∃ o, onlyV false true false n tx ns.length = o := ⟨_, rfl⟩
  rw [ho] at co
  obtain ⟨m, hm⟩ : ∃ m, N.kids.n = m := ⟨_, rfl⟩
  rw [hm] at n4 e5
  rw [e3] at n2
  rw [e2] at n1
  have ld := run_ldN bN
  have cp0 := fun W => plainText_any tx W hz
  obtain ⟨p0, hp0⟩ : ∃ q, rtB tx = q := ⟨_, rfl⟩
  rw [hp0] at cp0
  have ep1 : decide (ks.length = 1) = false := by simp [hh]
  rw [ep1]
  have fp10 : ((m : Int) == 1) = false := by rw [e5]; simp; omega
  clear ep1
  rw [ho]
  rw [hp0]
  have HBN := Lib.hid bN
  have HM := Lib.hid hm
  have E2 := Lib.hid e2
  have E3 := Lib.hid e3
  clear hz hzn hzk hr hs e1 e2 e3 e4 e5 bN ho hh hp0 hm
  cases o; rotate_left; cases p0
  all_goals (
    go_enter Tryz.func99, Tryz.ntmps99
    go_wp2_with (first | (go_at_call 29; (with_reducible refine (co _).mono ?_); intro e w2 hp; obtain ⟨rfl, hb⟩ := hp; have HB := Lib.hid (HB.out.trans (hb.mono HB.out.size)); have HBN := Lib.hid (HBN.out.call hb); have ld := run_ldN HBN.out; have n1 := (HBN.out.cell 1).trans (ncs_1 N); rw [E2.out] at n1; have n2 := (HBN.out.cell 2).trans (ncs_2 N); rw [E3.out] at n2; have n4 := (HBN.out.cell 4).trans (ncs_4 N); rw [HM.out] at n4; clear hb) | (go_at_call 98; (with_reducible refine (cp0 _).mono ?_); intro e w2 hp; obtain ⟨rfl, hb⟩ := hp; have HB := Lib.hid (HB.out.trans (hb.mono HB.out.size)); have HBN := Lib.hid (HBN.out.call hb); have ld := run_ldN HBN.out; have n1 := (HBN.out.cell 1).trans (ncs_1 N); rw [E2.out] at n1; have n2 := (HBN.out.cell 2).trans (ncs_2 N); rw [E3.out] at n2; have n4 := (HBN.out.cell 4).trans (ncs_4 N); rw [HM.out] at n4; clear hb))
    go_ret
    first | exact ⟨rfl, HB.out⟩ | exact ⟨rfl, bl_alloc HB.out⟩)
set_option maxRecDepth 100000 in
set_option maxHeartbeats 4000000 in
theorem rex_19n {n : Int} {tx : ByteArray} {ns : List ByteArray} {ks : List Tree} (hh : ks.length ≠ 1)  {N : Nd} {w : World} (hr : Rd w (.mk 19 n tx ns ks) N) (hs : Str (.mk 19 n tx ns ks)) : Calls Tryz.prog 71 #[.agg (ncs N)] w (PostR w (.bool (okT 65 (.mk 19 n tx ns ks)))) := by
  obtain ⟨hz, hzn, hzk⟩ := hs.of
  obtain ⟨bN, n0, n1, n2, n3, n4, HB, e1, e2, e3, e4, e5⟩ := nd_start hr
  rw [e1] at n0
  rw [pure_rex_19n hh]
  have co : ∀ W, Calls Tryz.prog 29 #[.agg (ncs N), .bool false, .bool true, .bool false] W (PostR W (.bool (onlyV false true false n tx ns.length))) := fun W => by
    have := only_ftf N W
    unfold onlyB at this
    rw [e2, e3, e4] at this
    exact this
  obtain ⟨o, ho⟩ : ∃ o, onlyV false true false n tx ns.length = o := ⟨_, rfl⟩
  rw [ho] at co
  obtain ⟨m, hm⟩ : ∃ m, N.kids.n = m := ⟨_, rfl⟩
  rw [hm] at n4 e5
  rw [e3] at n2
  rw [e2] at n1
  have ld := run_ldN bN
  have ep0 : decide (ks.length = 1) = false := by simp [hh]
  rw [ep0]
  have fp00 : ((m : Int) != 1) = true := by rw [e5]; simp; omega
  clear ep0
  rw [ho]
  have HBN := Lib.hid bN
  have HM := Lib.hid hm
  have E2 := Lib.hid e2
  have E3 := Lib.hid e3
  clear hz hzn hzk hr hs e1 e2 e3 e4 e5 bN ho hh hm
  cases o
  all_goals (
    go_enter Tryz.func71, Tryz.ntmps71
    go_wp2_with (first | (go_at_call 29; (with_reducible refine (co _).mono ?_); intro e w2 hp; obtain ⟨rfl, hb⟩ := hp; have HB := Lib.hid (HB.out.trans (hb.mono HB.out.size)); have HBN := Lib.hid (HBN.out.call hb); have ld := run_ldN HBN.out; have n1 := (HBN.out.cell 1).trans (ncs_1 N); rw [E2.out] at n1; have n2 := (HBN.out.cell 2).trans (ncs_2 N); rw [E3.out] at n2; have n4 := (HBN.out.cell 4).trans (ncs_4 N); rw [HM.out] at n4; clear hb))
    go_ret
    first | exact ⟨rfl, HB.out⟩ | exact ⟨rfl, bl_alloc HB.out⟩)
set_option maxRecDepth 100000 in
set_option maxHeartbeats 4000000 in
theorem rex_24n {n : Int} {tx : ByteArray} {ns : List ByteArray} {ks : List Tree} (hh : ks.length ≠ 2)  {N : Nd} {w : World} (hr : Rd w (.mk 24 n tx ns ks) N) (hs : Str (.mk 24 n tx ns ks)) : Calls Tryz.prog 71 #[.agg (ncs N)] w (PostR w (.bool (okT 65 (.mk 24 n tx ns ks)))) := by
  obtain ⟨hz, hzn, hzk⟩ := hs.of
  obtain ⟨bN, n0, n1, n2, n3, n4, HB, e1, e2, e3, e4, e5⟩ := nd_start hr
  rw [e1] at n0
  rw [pure_rex_24n hh]
  have co : ∀ W, Calls Tryz.prog 29 #[.agg (ncs N), .bool false, .bool false, .bool false] W (PostR W (.bool (onlyV false false false n tx ns.length))) := fun W => by
    have := only_fff N W
    unfold onlyB at this
    rw [e2, e3, e4] at this
    exact this
  obtain ⟨o, ho⟩ : ∃ o, onlyV false false false n tx ns.length = o := ⟨_, rfl⟩
  rw [ho] at co
  obtain ⟨m, hm⟩ : ∃ m, N.kids.n = m := ⟨_, rfl⟩
  rw [hm] at n4 e5
  rw [e3] at n2
  rw [e2] at n1
  have ld := run_ldN bN
  have ep0 : decide (ks.length = 2) = false := by simp [hh]
  rw [ep0]
  have fp00 : ((m : Int) == 2) = false := by rw [e5]; simp; omega
  clear ep0
  rw [ho]
  have HBN := Lib.hid bN
  have HM := Lib.hid hm
  have E2 := Lib.hid e2
  have E3 := Lib.hid e3
  clear hz hzn hzk hr hs e1 e2 e3 e4 e5 bN ho hh hm
  cases o
  all_goals (
    go_enter Tryz.func71, Tryz.ntmps71
    go_wp2_with (first | (go_at_call 29; (with_reducible refine (co _).mono ?_); intro e w2 hp; obtain ⟨rfl, hb⟩ := hp; have HB := Lib.hid (HB.out.trans (hb.mono HB.out.size)); have HBN := Lib.hid (HBN.out.call hb); have ld := run_ldN HBN.out; have n1 := (HBN.out.cell 1).trans (ncs_1 N); rw [E2.out] at n1; have n2 := (HBN.out.cell 2).trans (ncs_2 N); rw [E3.out] at n2; have n4 := (HBN.out.cell 4).trans (ncs_4 N); rw [HM.out] at n4; clear hb))
    go_ret
    first | exact ⟨rfl, HB.out⟩ | exact ⟨rfl, bl_alloc HB.out⟩)
end Go.Proofs.YtinoaajohkafmaaGreat.Pr
