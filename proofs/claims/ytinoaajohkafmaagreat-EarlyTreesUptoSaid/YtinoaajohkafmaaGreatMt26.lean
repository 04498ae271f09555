/-
  The reference's expression, kind by kind: the walks.
-/
import Derived.Test.YtinoaajohkafmaaGreatMt09
namespace Go.Proofs.YtinoaajohkafmaaGreat.Pr
open Go Go.RowKit Go.Proofs.YtinoaajohkafmaaGreat.Pa Go.Proofs.YtinoaajohkafmaaGreat.Uni
open Go.Proofs.YtinoaajohkafmaaGreat.Lx
set_option linter.unusedVariables false
set_option linter.unusedSimpArgs false
attribute [local go_sem ↓] ldK stK alK bdK bsK ldN stN alN bdN bsN bs_un3 bs_bin12
attribute [local irreducible] kcs ncs ncells un3_cs bin12_cs
attribute [local go_sem] run_alN run_stNg run_ldNg run_bdN0 run_un3 run_bin12
set_option maxRecDepth 100000 in
set_option maxHeartbeats 4000000 in
theorem rex_1 {n : Int} {tx : ByteArray} {ns : List ByteArray} {ks : List Tree} (IH : ExpsC ks) : ExpC (.mk 1 n tx ns ks) := by
  intro N w hr hs
  obtain ⟨hz, hzn, hzk⟩ := hs.of
  have co := only_tff N
  obtain ⟨bN, n0, n1, n2, n3, n4, HB, e1, e2, e3, e4, e5, ce⟩ := ex_start hr IH hzk
  rw [e1] at n0
  rw [okx_1, ← e2, ← e3, ← e4]
  obtain ⟨m, hm⟩ : ∃ m, N.kids.n = m := ⟨_, rfl⟩
  rw [hm] at n4 ce e5
  have HBN := Lib.hid bN
  have ld := run_ldN bN
  obtain ⟨o, ho⟩ : ∃ o, onlyV true false false N.num N.text N.names.n = o := ⟨_, rfl⟩
  have co2 : ∀ W, Calls Tryz.prog 29 #[.agg (ncs N), .bool true, .bool false, .bool false] W (PostR W (.bool o)) := fun W => by rw [← ho]; exact co W
  obtain ⟨p0, hp0⟩ : ∃ b, decide (ks.length = 0) = b := ⟨_, rfl⟩
  have fp0 : ((m : Int) == 0) = p0 := by rw [← hp0, e5]; rw [Bool.eq_iff_iff]; simp; try omega
  obtain ⟨p1, hp1⟩ : ∃ b, decide (0 ≤ N.num) = b := ⟨_, rfl⟩
  obtain ⟨p2, hp2⟩ : ∃ b, decide (N.num ≤ 9007199254740991) = b := ⟨_, rfl⟩
  rw [ho]
  rw [hp0]
  rw [hp1]
  rw [hp2]
  clear co hz hzn hzk hr e1 e2 e3 e4 e5 ho bN IH hp0
  have HM := Lib.hid hm
  clear hm
  cases o; rotate_left; cases p0; rotate_left; cases p1; rotate_left; cases p2
  all_goals (
    go_enter Tryz.func71, Tryz.ntmps71
    go_wp2_with (first | (go_at_call 29; (with_reducible refine (co2 _).mono ?_); intro e w2 hp; obtain ⟨rfl, hb⟩ := hp; have HB := Lib.hid (HB.out.trans (hb.mono HB.out.size)); have HBN := Lib.hid (HBN.out.call hb); have ld := run_ldN HBN.out; have n1 := (HBN.out.cell 1).trans (ncs_1 N); have n2 := (HBN.out.cell 2).trans (ncs_2 N); have n4 := (HBN.out.cell 4).trans (ncs_4 N); rw [HM.out] at n4; have n2a := fun o => ((HBN.out.old o).cell 2).trans (ncs_2 N); clear hb))
    go_ret
    first | exact ⟨rfl, HB.out⟩ | exact ⟨rfl, bl_alloc HB.out⟩)
set_option maxRecDepth 100000 in
set_option maxHeartbeats 4000000 in
theorem rex_2 {n : Int} {tx : ByteArray} {ns : List ByteArray} {ks : List Tree} (IH : ExpsC ks) : ExpC (.mk 2 n tx ns ks) := by
  intro N w hr hs
  obtain ⟨hz, hzn, hzk⟩ := hs.of
  have co := only_ftf N
  obtain ⟨bN, n0, n1, n2, n3, n4, HB, e1, e2, e3, e4, e5, ce⟩ := ex_start hr IH hzk
  rw [e1] at n0
  rw [okx_2, ← e2, ← e3, ← e4]
  obtain ⟨m, hm⟩ : ∃ m, N.kids.n = m := ⟨_, rfl⟩
  rw [hm] at n4 ce e5
  have HBN := Lib.hid bN
  have ld := run_ldN bN
  obtain ⟨o, ho⟩ : ∃ o, onlyV false true false N.num N.text N.names.n = o := ⟨_, rfl⟩
  have co2 : ∀ W, Calls Tryz.prog 29 #[.agg (ncs N), .bool false, .bool true, .bool false] W (PostR W (.bool o)) := fun W => by rw [← ho]; exact co W
  obtain ⟨p0, hp0⟩ : ∃ b, decide (ks.length = 0) = b := ⟨_, rfl⟩
  have fp0 : ((m : Int) == 0) = p0 := by rw [← hp0, e5]; rw [Bool.eq_iff_iff]; simp; try omega
  have cp1 := fun W => plainText_any N.text W (by rw [e3]; exact hz)
  obtain ⟨p1, hp1⟩ : ∃ b, rtB N.text = b := ⟨_, rfl⟩
  rw [hp1] at cp1
  rw [ho]
  rw [hp0]
  rw [hp1]
  clear co hz hzn hzk hr e1 e2 e3 e4 e5 ho bN IH hp0 hp1
  have HM := Lib.hid hm
  clear hm
  cases o; rotate_left; cases p0; rotate_left; cases p1
  all_goals (
    go_enter Tryz.func71, Tryz.ntmps71
    go_wp2_with (first | (go_at_call 29; (with_reducible refine (co2 _).mono ?_); intro e w2 hp; obtain ⟨rfl, hb⟩ := hp; have HB := Lib.hid (HB.out.trans (hb.mono HB.out.size)); have HBN := Lib.hid (HBN.out.call hb); have ld := run_ldN HBN.out; have n1 := (HBN.out.cell 1).trans (ncs_1 N); have n2 := (HBN.out.cell 2).trans (ncs_2 N); have n4 := (HBN.out.cell 4).trans (ncs_4 N); rw [HM.out] at n4; have n2a := fun o => ((HBN.out.old o).cell 2).trans (ncs_2 N); clear hb) | (go_at_call 98; (with_reducible refine (cp1 _).mono ?_); intro e w2 hp; obtain ⟨rfl, hb⟩ := hp; have HB := Lib.hid (HB.out.trans (hb.mono HB.out.size)); have HBN := Lib.hid (HBN.out.call hb); have ld := run_ldN HBN.out; have n1 := (HBN.out.cell 1).trans (ncs_1 N); have n2 := (HBN.out.cell 2).trans (ncs_2 N); have n4 := (HBN.out.cell 4).trans (ncs_4 N); rw [HM.out] at n4; have n2a := fun o => ((HBN.out.old o).cell 2).trans (ncs_2 N); clear hb))
    go_ret
    first | exact ⟨rfl, HB.out⟩ | exact ⟨rfl, bl_alloc HB.out⟩)
set_option maxRecDepth 100000 in
set_option maxHeartbeats 4000000 in
theorem rex_3 {n : Int} {tx : ByteArray} {ns : List ByteArray} {ks : List Tree} (IH : ExpsC ks) : ExpC (.mk 3 n tx ns ks) := by
  intro N w hr hs
  obtain ⟨hz, hzn, hzk⟩ := hs.of
  have co := only_fff N
  obtain ⟨bN, n0, n1, n2, n3, n4, HB, e1, e2, e3, e4, e5, ce⟩ := ex_start hr IH hzk
  rw [e1] at n0
  rw [okx_3, ← e2, ← e3, ← e4]
  obtain ⟨m, hm⟩ : ∃ m, N.kids.n = m := ⟨_, rfl⟩
  rw [hm] at n4 ce e5
  have HBN := Lib.hid bN
  have ld := run_ldN bN
  obtain ⟨o, ho⟩ : ∃ o, onlyV false false false N.num N.text N.names.n = o := ⟨_, rfl⟩
  have co2 : ∀ W, Calls Tryz.prog 29 #[.agg (ncs N), .bool false, .bool false, .bool false] W (PostR W (.bool o)) := fun W => by rw [← ho]; exact co W
  obtain ⟨p0, hp0⟩ : ∃ b, decide (ks.length = 0) = b := ⟨_, rfl⟩
  have fp0 : ((m : Int) == 0) = p0 := by rw [← hp0, e5]; rw [Bool.eq_iff_iff]; simp; try omega
  rw [ho]
  rw [hp0]
  clear co hz hzn hzk hr e1 e2 e3 e4 e5 ho bN IH hp0
  have HM := Lib.hid hm
  clear hm
  cases o; rotate_left; cases p0
  all_goals (
    go_enter Tryz.func71, Tryz.ntmps71
    go_wp2_with (first | (go_at_call 29; (with_reducible refine (co2 _).mono ?_); intro e w2 hp; obtain ⟨rfl, hb⟩ := hp; have HB := Lib.hid (HB.out.trans (hb.mono HB.out.size)); have HBN := Lib.hid (HBN.out.call hb); have ld := run_ldN HBN.out; have n1 := (HBN.out.cell 1).trans (ncs_1 N); have n2 := (HBN.out.cell 2).trans (ncs_2 N); have n4 := (HBN.out.cell 4).trans (ncs_4 N); rw [HM.out] at n4; have n2a := fun o => ((HBN.out.old o).cell 2).trans (ncs_2 N); clear hb))
    go_ret
    first | exact ⟨rfl, HB.out⟩ | exact ⟨rfl, bl_alloc HB.out⟩)
set_option maxRecDepth 100000 in
set_option maxHeartbeats 4000000 in
theorem rex_4 {n : Int} {tx : ByteArray} {ns : List ByteArray} {ks : List Tree} (IH : ExpsC ks) : ExpC (.mk 4 n tx ns ks) := by
  intro N w hr hs
  obtain ⟨hz, hzn, hzk⟩ := hs.of
  have co := only_fff N
  obtain ⟨bN, n0, n1, n2, n3, n4, HB, e1, e2, e3, e4, e5, ce⟩ := ex_start hr IH hzk
  rw [e1] at n0
  rw [okx_4, ← e2, ← e3, ← e4]
  obtain ⟨m, hm⟩ : ∃ m, N.kids.n = m := ⟨_, rfl⟩
  rw [hm] at n4 ce e5
  have HBN := Lib.hid bN
  have ld := run_ldN bN
  obtain ⟨o, ho⟩ : ∃ o, onlyV false false false N.num N.text N.names.n = o := ⟨_, rfl⟩
  have co2 : ∀ W, Calls Tryz.prog 29 #[.agg (ncs N), .bool false, .bool false, .bool false] W (PostR W (.bool o)) := fun W => by rw [← ho]; exact co W
  obtain ⟨p0, hp0⟩ : ∃ b, decide (ks.length = 0) = b := ⟨_, rfl⟩
  have fp0 : ((m : Int) == 0) = p0 := by rw [← hp0, e5]; rw [Bool.eq_iff_iff]; simp; try omega
  rw [ho]
  rw [hp0]
  clear co hz hzn hzk hr e1 e2 e3 e4 e5 ho bN IH hp0
  have HM := Lib.hid hm
  clear hm
  cases o; rotate_left; cases p0
  all_goals (
    go_enter Tryz.func71, Tryz.ntmps71
    go_wp2_with (first | (go_at_call 29; (with_reducible refine (co2 _).mono ?_); intro e w2 hp; obtain ⟨rfl, hb⟩ := hp; have HB := Lib.hid (HB.out.trans (hb.mono HB.out.size)); have HBN := Lib.hid (HBN.out.call hb); have ld := run_ldN HBN.out; have n1 := (HBN.out.cell 1).trans (ncs_1 N); have n2 := (HBN.out.cell 2).trans (ncs_2 N); have n4 := (HBN.out.cell 4).trans (ncs_4 N); rw [HM.out] at n4; have n2a := fun o => ((HBN.out.old o).cell 2).trans (ncs_2 N); clear hb))
    go_ret
    first | exact ⟨rfl, HB.out⟩ | exact ⟨rfl, bl_alloc HB.out⟩)
set_option maxRecDepth 100000 in
set_option maxHeartbeats 4000000 in
theorem rex_5 {n : Int} {tx : ByteArray} {ns : List ByteArray} {ks : List Tree} (IH : ExpsC ks) : ExpC (.mk 5 n tx ns ks) := by
  intro N w hr hs
  obtain ⟨hz, hzn, hzk⟩ := hs.of
  have co := only_fff N
  obtain ⟨bN, n0, n1, n2, n3, n4, HB, e1, e2, e3, e4, e5, ce⟩ := ex_start hr IH hzk
  rw [e1] at n0
  rw [okx_5, ← e2, ← e3, ← e4]
  obtain ⟨m, hm⟩ : ∃ m, N.kids.n = m := ⟨_, rfl⟩
  rw [hm] at n4 ce e5
  have HBN := Lib.hid bN
  have ld := run_ldN bN
  obtain ⟨o, ho⟩ : ∃ o, onlyV false false false N.num N.text N.names.n = o := ⟨_, rfl⟩
  have co2 : ∀ W, Calls Tryz.prog 29 #[.agg (ncs N), .bool false, .bool false, .bool false] W (PostR W (.bool o)) := fun W => by rw [← ho]; exact co W
  obtain ⟨p0, hp0⟩ : ∃ b, decide (ks.length = 0) = b := ⟨_, rfl⟩
  have fp0 : ((m : Int) == 0) = p0 := by rw [← hp0, e5]; rw [Bool.eq_iff_iff]; simp; try omega
  rw [ho]
  rw [hp0]
  clear co hz hzn hzk hr e1 e2 e3 e4 e5 ho bN IH hp0
  have HM := Lib.hid hm
  clear hm
  cases o; rotate_left; cases p0
  all_goals (
    go_enter Tryz.func71, Tryz.ntmps71
    go_wp2_with (first | (go_at_call 29; (with_reducible refine (co2 _).mono ?_); intro e w2 hp; obtain ⟨rfl, hb⟩ := hp; have HB := Lib.hid (HB.out.trans (hb.mono HB.out.size)); have HBN := Lib.hid (HBN.out.call hb); have ld := run_ldN HBN.out; have n1 := (HBN.out.cell 1).trans (ncs_1 N); have n2 := (HBN.out.cell 2).trans (ncs_2 N); have n4 := (HBN.out.cell 4).trans (ncs_4 N); rw [HM.out] at n4; have n2a := fun o => ((HBN.out.old o).cell 2).trans (ncs_2 N); clear hb))
    go_ret
    first | exact ⟨rfl, HB.out⟩ | exact ⟨rfl, bl_alloc HB.out⟩)
set_option maxRecDepth 100000 in
set_option maxHeartbeats 4000000 in
theorem rex_6 {n : Int} {tx : ByteArray} {ns : List ByteArray} {ks : List Tree} (IH : ExpsC ks) : ExpC (.mk 6 n tx ns ks) := by
  intro N w hr hs
  obtain ⟨hz, hzn, hzk⟩ := hs.of
  have co := only_fff N
  obtain ⟨bN, n0, n1, n2, n3, n4, HB, e1, e2, e3, e4, e5, ce⟩ := ex_start hr IH hzk
  rw [e1] at n0
  rw [okx_6, ← e2, ← e3, ← e4]
  obtain ⟨m, hm⟩ : ∃ m, N.kids.n = m := ⟨_, rfl⟩
  rw [hm] at n4 ce e5
  have HBN := Lib.hid bN
  have ld := run_ldN bN
  obtain ⟨o, ho⟩ : ∃ o, onlyV false false false N.num N.text N.names.n = o := ⟨_, rfl⟩
  have co2 : ∀ W, Calls Tryz.prog 29 #[.agg (ncs N), .bool false, .bool false, .bool false] W (PostR W (.bool o)) := fun W => by rw [← ho]; exact co W
  obtain ⟨p0, hp0⟩ : ∃ b, decide (ks.length = 0) = b := ⟨_, rfl⟩
  have fp0 : ((m : Int) == 0) = p0 := by rw [← hp0, e5]; rw [Bool.eq_iff_iff]; simp; try omega
  rw [ho]
  rw [hp0]
  clear co hz hzn hzk hr e1 e2 e3 e4 e5 ho bN IH hp0
  have HM := Lib.hid hm
  clear hm
  cases o; rotate_left; cases p0
  all_goals (
    go_enter Tryz.func71, Tryz.ntmps71
    go_wp2_with (first | (go_at_call 29; (with_reducible refine (co2 _).mono ?_); intro e w2 hp; obtain ⟨rfl, hb⟩ := hp; have HB := Lib.hid (HB.out.trans (hb.mono HB.out.size)); have HBN := Lib.hid (HBN.out.call hb); have ld := run_ldN HBN.out; have n1 := (HBN.out.cell 1).trans (ncs_1 N); have n2 := (HBN.out.cell 2).trans (ncs_2 N); have n4 := (HBN.out.cell 4).trans (ncs_4 N); rw [HM.out] at n4; have n2a := fun o => ((HBN.out.old o).cell 2).trans (ncs_2 N); clear hb))
    go_ret
    first | exact ⟨rfl, HB.out⟩ | exact ⟨rfl, bl_alloc HB.out⟩)
set_option maxRecDepth 100000 in
set_option maxHeartbeats 4000000 in
theorem rex_7 {n : Int} {tx : ByteArray} {ns : List ByteArray} {ks : List Tree} (IH : ExpsC ks) : ExpC (.mk 7 n tx ns ks) := by
  intro N w hr hs
  obtain ⟨hz, hzn, hzk⟩ := hs.of
  have co := only_fff N
  obtain ⟨bN, n0, n1, n2, n3, n4, HB, e1, e2, e3, e4, e5, ce⟩ := ex_start hr IH hzk
  rw [e1] at n0
  rw [okx_7, ← e2, ← e3, ← e4]
  obtain ⟨m, hm⟩ : ∃ m, N.kids.n = m := ⟨_, rfl⟩
  rw [hm] at n4 ce e5
  have HBN := Lib.hid bN
  have ld := run_ldN bN
  obtain ⟨o, ho⟩ : ∃ o, onlyV false false false N.num N.text N.names.n = o := ⟨_, rfl⟩
  have co2 : ∀ W, Calls Tryz.prog 29 #[.agg (ncs N), .bool false, .bool false, .bool false] W (PostR W (.bool o)) := fun W => by rw [← ho]; exact co W
  obtain ⟨p0, hp0⟩ : ∃ b, decide (ks.length = 0) = b := ⟨_, rfl⟩
  have fp0 : ((m : Int) == 0) = p0 := by rw [← hp0, e5]; rw [Bool.eq_iff_iff]; simp; try omega
  rw [ho]
  rw [hp0]
  clear co hz hzn hzk hr e1 e2 e3 e4 e5 ho bN IH hp0
  have HM := Lib.hid hm
  clear hm
  cases o; rotate_left; cases p0
  all_goals (
    go_enter Tryz.func71, Tryz.ntmps71
    go_wp2_with (first | (go_at_call 29; (with_reducible refine (co2 _).mono ?_); intro e w2 hp; obtain ⟨rfl, hb⟩ := hp; have HB := Lib.hid (HB.out.trans (hb.mono HB.out.size)); have HBN := Lib.hid (HBN.out.call hb); have ld := run_ldN HBN.out; have n1 := (HBN.out.cell 1).trans (ncs_1 N); have n2 := (HBN.out.cell 2).trans (ncs_2 N); have n4 := (HBN.out.cell 4).trans (ncs_4 N); rw [HM.out] at n4; have n2a := fun o => ((HBN.out.old o).cell 2).trans (ncs_2 N); clear hb))
    go_ret
    first | exact ⟨rfl, HB.out⟩ | exact ⟨rfl, bl_alloc HB.out⟩)
set_option maxRecDepth 100000 in
set_option maxHeartbeats 4000000 in
theorem rex_8 {n : Int} {tx : ByteArray} {ns : List ByteArray} {ks : List Tree} (IH : ExpsC ks) : ExpC (.mk 8 n tx ns ks) := by
  intro N w hr hs
  obtain ⟨hz, hzn, hzk⟩ := hs.of
  have co := only_ftf N
  obtain ⟨bN, n0, n1, n2, n3, n4, HB, e1, e2, e3, e4, e5, ce⟩ := ex_start hr IH hzk
  rw [e1] at n0
  rw [okx_8, ← e2, ← e3, ← e4]
  obtain ⟨m, hm⟩ : ∃ m, N.kids.n = m := ⟨_, rfl⟩
  rw [hm] at n4 ce e5
  have HBN := Lib.hid bN
  have ld := run_ldN bN
  obtain ⟨o, ho⟩ : ∃ o, onlyV false true false N.num N.text N.names.n = o := ⟨_, rfl⟩
  have co2 : ∀ W, Calls Tryz.prog 29 #[.agg (ncs N), .bool false, .bool true, .bool false] W (PostR W (.bool o)) := fun W => by rw [← ho]; exact co W
  obtain ⟨p0, hp0⟩ : ∃ b, decide (ks.length = 0) = b := ⟨_, rfl⟩
  have fp0 : ((m : Int) == 0) = p0 := by rw [← hp0, e5]; rw [Bool.eq_iff_iff]; simp; try omega
  have cp1 := fun W => plainName_any N.text W (by rw [e3]; exact hz)
  obtain ⟨p1, hp1⟩ : ∃ b, varB N.text = b := ⟨_, rfl⟩
  rw [hp1] at cp1
  rw [ho]
  rw [hp0]
  rw [hp1]
  clear co hz hzn hzk hr e1 e2 e3 e4 e5 ho bN IH hp0 hp1
  have HM := Lib.hid hm
  clear hm
  cases o; rotate_left; cases p0; rotate_left; cases p1
  all_goals (
    go_enter Tryz.func71, Tryz.ntmps71
    go_wp2_with (first | (go_at_call 29; (with_reducible refine (co2 _).mono ?_); intro e w2 hp; obtain ⟨rfl, hb⟩ := hp; have HB := Lib.hid (HB.out.trans (hb.mono HB.out.size)); have HBN := Lib.hid (HBN.out.call hb); have ld := run_ldN HBN.out; have n1 := (HBN.out.cell 1).trans (ncs_1 N); have n2 := (HBN.out.cell 2).trans (ncs_2 N); have n4 := (HBN.out.cell 4).trans (ncs_4 N); rw [HM.out] at n4; have n2a := fun o => ((HBN.out.old o).cell 2).trans (ncs_2 N); clear hb) | (go_at_call 68; (with_reducible refine (cp1 _).mono ?_); intro e w2 hp; obtain ⟨rfl, hb⟩ := hp; have HB := Lib.hid (HB.out.trans (hb.mono HB.out.size)); have HBN := Lib.hid (HBN.out.call hb); have ld := run_ldN HBN.out; have n1 := (HBN.out.cell 1).trans (ncs_1 N); have n2 := (HBN.out.cell 2).trans (ncs_2 N); have n4 := (HBN.out.cell 4).trans (ncs_4 N); rw [HM.out] at n4; have n2a := fun o => ((HBN.out.old o).cell 2).trans (ncs_2 N); clear hb))
    go_ret
    first | exact ⟨rfl, HB.out⟩ | exact ⟨rfl, bl_alloc HB.out⟩)
set_option maxRecDepth 100000 in
set_option maxHeartbeats 4000000 in
theorem rex_9 {n : Int} {tx : ByteArray} {ns : List ByteArray} {ks : List Tree} (IH : ExpsC ks) : ExpC (.mk 9 n tx ns ks) := by
  intro N w hr hs
  obtain ⟨hz, hzn, hzk⟩ := hs.of
  have co := only_fff N
  obtain ⟨bN, n0, n1, n2, n3, n4, HB, e1, e2, e3, e4, e5, ce⟩ := ex_start hr IH hzk
  rw [e1] at n0
  rw [okx_9, ← e2, ← e3, ← e4]
  obtain ⟨m, hm⟩ : ∃ m, N.kids.n = m := ⟨_, rfl⟩
  rw [hm] at n4 ce e5
  have HBN := Lib.hid bN
  have ld := run_ldN bN
  obtain ⟨o, ho⟩ : ∃ o, onlyV false false false N.num N.text N.names.n = o := ⟨_, rfl⟩
  have co2 : ∀ W, Calls Tryz.prog 29 #[.agg (ncs N), .bool false, .bool false, .bool false] W (PostR W (.bool o)) := fun W => by rw [← ho]; exact co W
  obtain ⟨p0, hp0⟩ : ∃ b, allT 65 ks = b := ⟨_, rfl⟩
  rw [hp0] at ce
  rw [ho]
  rw [hp0]
  clear co hz hzn hzk hr e1 e2 e3 e4 e5 ho bN IH hp0
  have HM := Lib.hid hm
  clear hm
  cases o; rotate_left; cases p0
  all_goals (
    go_enter Tryz.func71, Tryz.ntmps71
    go_wp2_with (first | (go_at_call 29; (with_reducible refine (co2 _).mono ?_); intro e w2 hp; obtain ⟨rfl, hb⟩ := hp; have HB := Lib.hid (HB.out.trans (hb.mono HB.out.size)); have HBN := Lib.hid (HBN.out.call hb); have ld := run_ldN HBN.out; have n1 := (HBN.out.cell 1).trans (ncs_1 N); have n2 := (HBN.out.cell 2).trans (ncs_2 N); have n4 := (HBN.out.cell 4).trans (ncs_4 N); rw [HM.out] at n4; have n2a := fun o => ((HBN.out.old o).cell 2).trans (ncs_2 N); clear hb) | (go_at_call 69; (with_reducible refine (ce _ HB.out).mono ?_); intro e w2 hp; obtain ⟨rfl, hb⟩ := hp; have HB := Lib.hid (HB.out.trans (hb.mono HB.out.size)); have HBN := Lib.hid (HBN.out.call hb); have ld := run_ldN HBN.out; have n1 := (HBN.out.cell 1).trans (ncs_1 N); have n2 := (HBN.out.cell 2).trans (ncs_2 N); have n4 := (HBN.out.cell 4).trans (ncs_4 N); rw [HM.out] at n4; have n2a := fun o => ((HBN.out.old o).cell 2).trans (ncs_2 N); clear hb))
    go_ret
    first | exact ⟨rfl, HB.out⟩ | exact ⟨rfl, bl_alloc HB.out⟩)
end Go.Proofs.YtinoaajohkafmaaGreat.Pr
