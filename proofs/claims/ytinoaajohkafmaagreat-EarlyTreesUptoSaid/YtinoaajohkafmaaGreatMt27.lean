/-
  The reference's expression, kind by kind: the walks.
-/
import Derived.Test.YtinoaajohkafmaaGreatMt09
namespace Go.Proofs.YtinoaajohkafmaaGreat.Pr
open Go Go.RowKit Go.Proofs.YtinoaajohkafmaaGreat.Pa Go.Proofs.YtinoaajohkafmaaGreat.Uni
open Go.Proofs.YtinoaajohkafmaaGreat.Lx
set_option linter.unusedVariables false
set_option linter.unusedSimpArgs false
attribute [local go_sem ↓] ldK stK alK bdK bsK ldN stN alN bdN bsN bs_un3 bs_bin12
attribute [local irreducible] kcs ncs ncells un3_cs bin12_cs
attribute [local go_sem] run_alN run_stNg run_ldNg run_bdN0 run_un3 run_bin12
set_option maxRecDepth 100000 in
set_option maxHeartbeats 4000000 in
theorem rex_15 {n : Int} {tx : ByteArray} {ns : List ByteArray} {ks : List Tree} (IH : ExpsC ks) : ExpC (.mk 15 n tx ns ks) := by
  intro N w hr hs
  obtain ⟨hz, hzn, hzk⟩ := hs.of
  have co := only_ftf N
  obtain ⟨bN, n0, n1, n2, n3, n4, HB, e1, e2, e3, e4, e5, ce⟩ := ex_start hr IH hzk
  rw [e1] at n0
  rw [okx_15, ← e2, ← e3, ← e4]
  obtain ⟨m, hm⟩ : ∃ m, N.kids.n = m := ⟨_, rfl⟩
  rw [hm] at n4 ce e5
  have HBN := Lib.hid bN
  have ld := run_ldN bN
  obtain ⟨o, ho⟩ : ∃ o, onlyV false true false N.num N.text N.names.n = o := ⟨_, rfl⟩
  have co2 : ∀ W, Calls Tryz.prog 29 #[.agg (ncs N), .bool false, .bool true, .bool false] W (PostR W (.bool o)) := fun W => by rw [← ho]; exact co W
  obtain ⟨p0, hp0⟩ : ∃ b, decide (ks.length = 1) = b := ⟨_, rfl⟩
  have fp0 : ((m : Int) == 1) = p0 := by rw [← hp0, e5]; rw [Bool.eq_iff_iff]; simp; try omega
  have cp1 := fun W => named_p N.text W (by rw [e3]; exact hz)
  obtain ⟨p1, hp1⟩ : ∃ b, nameB N.text = b := ⟨_, rfl⟩
  rw [hp1] at cp1
  have cp2 := fun W => rword_any N.text W
  obtain ⟨vp2, hvp2⟩ : ∃ v, wordF N.text.toList = v := ⟨_, rfl⟩
  obtain ⟨p2, hp2⟩ : ∃ b, decide (wordF N.text.data.toList < 2) = b := ⟨_, rfl⟩
  have fp2 : decide ((vp2 : Int) < 2) = p2 := by rw [← hp2, ← hvp2, tl_data]; exact decide_eq_decide.2 (by omega)
  rw [hvp2] at cp2
  obtain ⟨p3, hp3⟩ : ∃ b, allT 65 ks = b := ⟨_, rfl⟩
  rw [hp3] at ce
  rw [ho]
  rw [hp0]
  rw [hp1]
  rw [hp2]
  rw [hp3]
  clear co hz hzn hzk hr e1 e2 e3 e4 e5 ho bN IH hp0 hp1 hp2 hvp2 hp3
  have HM := Lib.hid hm
  clear hm
  cases o; rotate_left; cases p0; rotate_left; cases p1; rotate_left; cases p2; rotate_left; cases p3
  all_goals (
    go_enter Tryz.func71, Tryz.ntmps71
    go_wp2_with (first | (go_at_call 29; (with_reducible refine (co2 _).mono ?_); intro e w2 hp; obtain ⟨rfl, hb⟩ := hp; have HB := Lib.hid (HB.out.trans (hb.mono HB.out.size)); have HBN := Lib.hid (HBN.out.call hb); have ld := run_ldN HBN.out; have n1 := (HBN.out.cell 1).trans (ncs_1 N); have n2 := (HBN.out.cell 2).trans (ncs_2 N); have n4 := (HBN.out.cell 4).trans (ncs_4 N); rw [HM.out] at n4; have n2a := fun o => ((HBN.out.old o).cell 2).trans (ncs_2 N); clear hb) | (go_at_call 97; (with_reducible refine (cp1 _).mono ?_); intro e w2 hp; obtain ⟨rfl, hb⟩ := hp; have HB := Lib.hid (HB.out.trans (hb.mono HB.out.size)); have HBN := Lib.hid (HBN.out.call hb); have ld := run_ldN HBN.out; have n1 := (HBN.out.cell 1).trans (ncs_1 N); have n2 := (HBN.out.cell 2).trans (ncs_2 N); have n4 := (HBN.out.cell 4).trans (ncs_4 N); rw [HM.out] at n4; have n2a := fun o => ((HBN.out.old o).cell 2).trans (ncs_2 N); clear hb) | (go_at_call 59; (with_reducible refine (cp2 _).mono ?_); intro e w2 hp; obtain ⟨rfl, hb⟩ := hp; have HB := Lib.hid (HB.out.trans (hb.mono HB.out.size)); have HBN := Lib.hid (HBN.out.call hb); have ld := run_ldN HBN.out; have n1 := (HBN.out.cell 1).trans (ncs_1 N); have n2 := (HBN.out.cell 2).trans (ncs_2 N); have n4 := (HBN.out.cell 4).trans (ncs_4 N); rw [HM.out] at n4; have n2a := fun o => ((HBN.out.old o).cell 2).trans (ncs_2 N); clear hb) | (go_at_call 69; (with_reducible refine (ce _ HB.out).mono ?_); intro e w2 hp; obtain ⟨rfl, hb⟩ := hp; have HB := Lib.hid (HB.out.trans (hb.mono HB.out.size)); have HBN := Lib.hid (HBN.out.call hb); have ld := run_ldN HBN.out; have n1 := (HBN.out.cell 1).trans (ncs_1 N); have n2 := (HBN.out.cell 2).trans (ncs_2 N); have n4 := (HBN.out.cell 4).trans (ncs_4 N); rw [HM.out] at n4; have n2a := fun o => ((HBN.out.old o).cell 2).trans (ncs_2 N); clear hb))
    go_ret
    first | exact ⟨rfl, HB.out⟩ | exact ⟨rfl, bl_alloc HB.out⟩)
set_option maxRecDepth 100000 in
set_option maxHeartbeats 4000000 in
theorem rex_16 {n : Int} {tx : ByteArray} {ns : List ByteArray} {ks : List Tree} (IH : ExpsC ks) : ExpC (.mk 16 n tx ns ks) := by
  intro N w hr hs
  obtain ⟨hz, hzn, hzk⟩ := hs.of
  have co := only_fff N
  obtain ⟨bN, n0, n1, n2, n3, n4, HB, e1, e2, e3, e4, e5, ce⟩ := ex_start hr IH hzk
  rw [e1] at n0
  rw [okx_16, ← e2, ← e3, ← e4]
  obtain ⟨m, hm⟩ : ∃ m, N.kids.n = m := ⟨_, rfl⟩
  rw [hm] at n4 ce e5
  have HBN := Lib.hid bN
  have ld := run_ldN bN
  obtain ⟨o, ho⟩ : ∃ o, onlyV false false false N.num N.text N.names.n = o := ⟨_, rfl⟩
  have co2 : ∀ W, Calls Tryz.prog 29 #[.agg (ncs N), .bool false, .bool false, .bool false] W (PostR W (.bool o)) := fun W => by rw [← ho]; exact co W
  obtain ⟨p0, hp0⟩ : ∃ b, decide (ks.length = 2) = b := ⟨_, rfl⟩
  have fp0 : ((m : Int) == 2) = p0 := by rw [← hp0, e5]; rw [Bool.eq_iff_iff]; simp; try omega
  obtain ⟨p1, hp1⟩ : ∃ b, allT 65 ks = b := ⟨_, rfl⟩
  rw [hp1] at ce
  rw [ho]
  rw [hp0]
  rw [hp1]
  clear co hz hzn hzk hr e1 e2 e3 e4 e5 ho bN IH hp0 hp1
  have HM := Lib.hid hm
  clear hm
  cases o; rotate_left; cases p0; rotate_left; cases p1
  all_goals (
    go_enter Tryz.func71, Tryz.ntmps71
    go_wp2_with (first | (go_at_call 29; (with_reducible refine (co2 _).mono ?_); intro e w2 hp; obtain ⟨rfl, hb⟩ := hp; have HB := Lib.hid (HB.out.trans (hb.mono HB.out.size)); have HBN := Lib.hid (HBN.out.call hb); have ld := run_ldN HBN.out; have n1 := (HBN.out.cell 1).trans (ncs_1 N); have n2 := (HBN.out.cell 2).trans (ncs_2 N); have n4 := (HBN.out.cell 4).trans (ncs_4 N); rw [HM.out] at n4; have n2a := fun o => ((HBN.out.old o).cell 2).trans (ncs_2 N); clear hb) | (go_at_call 69; (with_reducible refine (ce _ HB.out).mono ?_); intro e w2 hp; obtain ⟨rfl, hb⟩ := hp; have HB := Lib.hid (HB.out.trans (hb.mono HB.out.size)); have HBN := Lib.hid (HBN.out.call hb); have ld := run_ldN HBN.out; have n1 := (HBN.out.cell 1).trans (ncs_1 N); have n2 := (HBN.out.cell 2).trans (ncs_2 N); have n4 := (HBN.out.cell 4).trans (ncs_4 N); rw [HM.out] at n4; have n2a := fun o => ((HBN.out.old o).cell 2).trans (ncs_2 N); clear hb))
    go_ret
    first | exact ⟨rfl, HB.out⟩ | exact ⟨rfl, bl_alloc HB.out⟩)
set_option maxRecDepth 100000 in
set_option maxHeartbeats 4000000 in
theorem rex_17 {n : Int} {tx : ByteArray} {ns : List ByteArray} {ks : List Tree} (IH : ExpsC ks) : ExpC (.mk 17 n tx ns ks) := by
  intro N w hr hs
  obtain ⟨hz, hzn, hzk⟩ := hs.of
  have co := only_fff N
  obtain ⟨bN, n0, n1, n2, n3, n4, HB, e1, e2, e3, e4, e5, ce⟩ := ex_start hr IH hzk
  rw [e1] at n0
  rw [okx_17, ← e2, ← e3, ← e4]
  obtain ⟨m, hm⟩ : ∃ m, N.kids.n = m := ⟨_, rfl⟩
  rw [hm] at n4 ce e5
  have HBN := Lib.hid bN
  have ld := run_ldN bN
  obtain ⟨o, ho⟩ : ∃ o, onlyV false false false N.num N.text N.names.n = o := ⟨_, rfl⟩
  have co2 : ∀ W, Calls Tryz.prog 29 #[.agg (ncs N), .bool false, .bool false, .bool false] W (PostR W (.bool o)) := fun W => by rw [← ho]; exact co W
  obtain ⟨p0, hp0⟩ : ∃ b, decide (1 ≤ ks.length) = b := ⟨_, rfl⟩
  have fp0 : decide (1 ≤ (m : Int)) = p0 := by rw [← hp0, e5]; exact decide_eq_decide.2 (by omega)
  obtain ⟨p1, hp1⟩ : ∃ b, allT 65 ks = b := ⟨_, rfl⟩
  rw [hp1] at ce
  rw [ho]
  rw [hp0]
  rw [hp1]
  clear co hz hzn hzk hr e1 e2 e3 e4 e5 ho bN IH hp0 hp1
  have HM := Lib.hid hm
  clear hm
  cases o; rotate_left; cases p0; rotate_left; cases p1
  all_goals (
    go_enter Tryz.func71, Tryz.ntmps71
    go_wp2_with (first | (go_at_call 29; (with_reducible refine (co2 _).mono ?_); intro e w2 hp; obtain ⟨rfl, hb⟩ := hp; have HB := Lib.hid (HB.out.trans (hb.mono HB.out.size)); have HBN := Lib.hid (HBN.out.call hb); have ld := run_ldN HBN.out; have n1 := (HBN.out.cell 1).trans (ncs_1 N); have n2 := (HBN.out.cell 2).trans (ncs_2 N); have n4 := (HBN.out.cell 4).trans (ncs_4 N); rw [HM.out] at n4; have n2a := fun o => ((HBN.out.old o).cell 2).trans (ncs_2 N); clear hb) | (go_at_call 69; (with_reducible refine (ce _ HB.out).mono ?_); intro e w2 hp; obtain ⟨rfl, hb⟩ := hp; have HB := Lib.hid (HB.out.trans (hb.mono HB.out.size)); have HBN := Lib.hid (HBN.out.call hb); have ld := run_ldN HBN.out; have n1 := (HBN.out.cell 1).trans (ncs_1 N); have n2 := (HBN.out.cell 2).trans (ncs_2 N); have n4 := (HBN.out.cell 4).trans (ncs_4 N); rw [HM.out] at n4; have n2a := fun o => ((HBN.out.old o).cell 2).trans (ncs_2 N); clear hb))
    go_ret
    first | exact ⟨rfl, HB.out⟩ | exact ⟨rfl, bl_alloc HB.out⟩)
set_option maxRecDepth 100000 in
set_option maxHeartbeats 4000000 in
theorem rex_18 {n : Int} {tx : ByteArray} {ns : List ByteArray} {ks : List Tree} (IH : ExpsC ks) : ExpC (.mk 18 n tx ns ks) := by
  intro N w hr hs
  obtain ⟨hz, hzn, hzk⟩ := hs.of
  have co := only_fff N
  obtain ⟨bN, n0, n1, n2, n3, n4, HB, e1, e2, e3, e4, e5, ce⟩ := ex_start hr IH hzk
  rw [e1] at n0
  rw [okx_18, ← e2, ← e3, ← e4]
  obtain ⟨m, hm⟩ : ∃ m, N.kids.n = m := ⟨_, rfl⟩
  rw [hm] at n4 ce e5
  have HBN := Lib.hid bN
  have ld := run_ldN bN
  obtain ⟨o, ho⟩ : ∃ o, onlyV false false false N.num N.text N.names.n = o := ⟨_, rfl⟩
  have co2 : ∀ W, Calls Tryz.prog 29 #[.agg (ncs N), .bool false, .bool false, .bool false] W (PostR W (.bool o)) := fun W => by rw [← ho]; exact co W
  obtain ⟨p0, hp0⟩ : ∃ b, decide (1 ≤ ks.length) = b := ⟨_, rfl⟩
  have fp0 : decide (1 ≤ (m : Int)) = p0 := by rw [← hp0, e5]; exact decide_eq_decide.2 (by omega)
  obtain ⟨p1, hp1⟩ : ∃ b, allT 65 ks = b := ⟨_, rfl⟩
  rw [hp1] at ce
  rw [ho]
  rw [hp0]
  rw [hp1]
  clear co hz hzn hzk hr e1 e2 e3 e4 e5 ho bN IH hp0 hp1
  have HM := Lib.hid hm
  clear hm
  cases o; rotate_left; cases p0; rotate_left; cases p1
  all_goals (
    go_enter Tryz.func71, Tryz.ntmps71
    go_wp2_with (first | (go_at_call 29; (with_reducible refine (co2 _).mono ?_); intro e w2 hp; obtain ⟨rfl, hb⟩ := hp; have HB := Lib.hid (HB.out.trans (hb.mono HB.out.size)); have HBN := Lib.hid (HBN.out.call hb); have ld := run_ldN HBN.out; have n1 := (HBN.out.cell 1).trans (ncs_1 N); have n2 := (HBN.out.cell 2).trans (ncs_2 N); have n4 := (HBN.out.cell 4).trans (ncs_4 N); rw [HM.out] at n4; have n2a := fun o => ((HBN.out.old o).cell 2).trans (ncs_2 N); clear hb) | (go_at_call 69; (with_reducible refine (ce _ HB.out).mono ?_); intro e w2 hp; obtain ⟨rfl, hb⟩ := hp; have HB := Lib.hid (HB.out.trans (hb.mono HB.out.size)); have HBN := Lib.hid (HBN.out.call hb); have ld := run_ldN HBN.out; have n1 := (HBN.out.cell 1).trans (ncs_1 N); have n2 := (HBN.out.cell 2).trans (ncs_2 N); have n4 := (HBN.out.cell 4).trans (ncs_4 N); rw [HM.out] at n4; have n2a := fun o => ((HBN.out.old o).cell 2).trans (ncs_2 N); clear hb))
    go_ret
    first | exact ⟨rfl, HB.out⟩ | exact ⟨rfl, bl_alloc HB.out⟩)
set_option maxRecDepth 100000 in
set_option maxHeartbeats 4000000 in
theorem rex_20 {n : Int} {tx : ByteArray} {ns : List ByteArray} {ks : List Tree} (IH : ExpsC ks) : ExpC (.mk 20 n tx ns ks) := by
  intro N w hr hs
  obtain ⟨hz, hzn, hzk⟩ := hs.of
  have co := only_ftf N
  obtain ⟨bN, n0, n1, n2, n3, n4, HB, e1, e2, e3, e4, e5, ce⟩ := ex_start hr IH hzk
  rw [e1] at n0
  rw [okx_20, ← e2, ← e3, ← e4]
  obtain ⟨m, hm⟩ : ∃ m, N.kids.n = m := ⟨_, rfl⟩
  rw [hm] at n4 ce e5
  have HBN := Lib.hid bN
  have ld := run_ldN bN
  obtain ⟨o, ho⟩ : ∃ o, onlyV false true false N.num N.text N.names.n = o := ⟨_, rfl⟩
  have co2 : ∀ W, Calls Tryz.prog 29 #[.agg (ncs N), .bool false, .bool true, .bool false] W (PostR W (.bool o)) := fun W => by rw [← ho]; exact co W
  obtain ⟨p0, hp0⟩ : ∃ b, decide (ks.length = 2) = b := ⟨_, rfl⟩
  have fp0 : ((m : Int) == 2) = p0 := by rw [← hp0, e5]; rw [Bool.eq_iff_iff]; simp; try omega
  obtain ⟨p1, hp1⟩ : ∃ b, allT 65 ks = b := ⟨_, rfl⟩
  rw [hp1] at ce
  have cp2 := fun W => has_bin12 W.heap.size N.text (W.alloc (.cells bin12_cs 9)) (Blk.new W _ _)
  obtain ⟨p2, hp2⟩ : ∃ b, bin12L.contains N.text.data.toList = b := ⟨_, rfl⟩
  rw [hp2] at cp2
  rw [ho]
  rw [hp0]
  rw [hp1]
  rw [hp2]
  clear co hz hzn hzk hr e1 e2 e3 e4 e5 ho bN IH hp0 hp1 hp2
  have HM := Lib.hid hm
  clear hm
  cases o; rotate_left; cases p0; rotate_left; cases p1; rotate_left; cases p2
  all_goals (
    go_enter Tryz.func71, Tryz.ntmps71
    go_wp2_with (first | (go_at_call 29; (with_reducible refine (co2 _).mono ?_); intro e w2 hp; obtain ⟨rfl, hb⟩ := hp; have HB := Lib.hid (HB.out.trans (hb.mono HB.out.size)); have HBN := Lib.hid (HBN.out.call hb); have ld := run_ldN HBN.out; have n1 := (HBN.out.cell 1).trans (ncs_1 N); have n2 := (HBN.out.cell 2).trans (ncs_2 N); have n4 := (HBN.out.cell 4).trans (ncs_4 N); rw [HM.out] at n4; have n2a := fun o => ((HBN.out.old o).cell 2).trans (ncs_2 N); clear hb) | (go_at_call 69; (with_reducible refine (ce _ HB.out).mono ?_); intro e w2 hp; obtain ⟨rfl, hb⟩ := hp; have HB := Lib.hid (HB.out.trans (hb.mono HB.out.size)); have HBN := Lib.hid (HBN.out.call hb); have ld := run_ldN HBN.out; have n1 := (HBN.out.cell 1).trans (ncs_1 N); have n2 := (HBN.out.cell 2).trans (ncs_2 N); have n4 := (HBN.out.cell 4).trans (ncs_4 N); rw [HM.out] at n4; have n2a := fun o => ((HBN.out.old o).cell 2).trans (ncs_2 N); clear hb) | (go_at_call 53; (with_reducible refine (cp2 _).mono ?_); intro e w2 hp; obtain ⟨rfl, hb⟩ := hp; have HB := Lib.hid ((bl_alloc HB.out).trans (hb.mono (bl_alloc HB.out).size)); have HBN := Lib.hid ((HBN.out.old _).call hb); have ld := run_ldN HBN.out; have n1 := (HBN.out.cell 1).trans (ncs_1 N); have n2 := (HBN.out.cell 2).trans (ncs_2 N); have n4 := (HBN.out.cell 4).trans (ncs_4 N); rw [HM.out] at n4; have n2a := fun o => ((HBN.out.old o).cell 2).trans (ncs_2 N); clear hb))
    go_ret
    first | exact ⟨rfl, HB.out⟩ | exact ⟨rfl, bl_alloc HB.out⟩)
set_option maxRecDepth 100000 in
set_option maxHeartbeats 4000000 in
theorem rex_21 {n : Int} {tx : ByteArray} {ns : List ByteArray} {ks : List Tree} (IH : ExpsC ks) : ExpC (.mk 21 n tx ns ks) := by
  intro N w hr hs
  obtain ⟨hz, hzn, hzk⟩ := hs.of
  have co := only_fff N
  obtain ⟨bN, n0, n1, n2, n3, n4, HB, e1, e2, e3, e4, e5, ce⟩ := ex_start hr IH hzk
  rw [e1] at n0
  rw [okx_21, ← e2, ← e3, ← e4]
  obtain ⟨m, hm⟩ : ∃ m, N.kids.n = m := ⟨_, rfl⟩
  rw [hm] at n4 ce e5
  have HBN := Lib.hid bN
  have ld := run_ldN bN
  obtain ⟨o, ho⟩ : ∃ o, onlyV false false false N.num N.text N.names.n = o := ⟨_, rfl⟩
  have co2 : ∀ W, Calls Tryz.prog 29 #[.agg (ncs N), .bool false, .bool false, .bool false] W (PostR W (.bool o)) := fun W => by rw [← ho]; exact co W
  obtain ⟨p0, hp0⟩ : ∃ b, decide (ks.length = 2) = b := ⟨_, rfl⟩
  have fp0 : ((m : Int) == 2) = p0 := by rw [← hp0, e5]; rw [Bool.eq_iff_iff]; simp; try omega
  obtain ⟨p1, hp1⟩ : ∃ b, allT 65 ks = b := ⟨_, rfl⟩
  rw [hp1] at ce
  rw [ho]
  rw [hp0]
  rw [hp1]
  clear co hz hzn hzk hr e1 e2 e3 e4 e5 ho bN IH hp0 hp1
  have HM := Lib.hid hm
  clear hm
  cases o; rotate_left; cases p0; rotate_left; cases p1
  all_goals (
    go_enter Tryz.func71, Tryz.ntmps71
    go_wp2_with (first | (go_at_call 29; (with_reducible refine (co2 _).mono ?_); intro e w2 hp; obtain ⟨rfl, hb⟩ := hp; have HB := Lib.hid (HB.out.trans (hb.mono HB.out.size)); have HBN := Lib.hid (HBN.out.call hb); have ld := run_ldN HBN.out; have n1 := (HBN.out.cell 1).trans (ncs_1 N); have n2 := (HBN.out.cell 2).trans (ncs_2 N); have n4 := (HBN.out.cell 4).trans (ncs_4 N); rw [HM.out] at n4; have n2a := fun o => ((HBN.out.old o).cell 2).trans (ncs_2 N); clear hb) | (go_at_call 69; (with_reducible refine (ce _ HB.out).mono ?_); intro e w2 hp; obtain ⟨rfl, hb⟩ := hp; have HB := Lib.hid (HB.out.trans (hb.mono HB.out.size)); have HBN := Lib.hid (HBN.out.call hb); have ld := run_ldN HBN.out; have n1 := (HBN.out.cell 1).trans (ncs_1 N); have n2 := (HBN.out.cell 2).trans (ncs_2 N); have n4 := (HBN.out.cell 4).trans (ncs_4 N); rw [HM.out] at n4; have n2a := fun o => ((HBN.out.old o).cell 2).trans (ncs_2 N); clear hb))
    go_ret
    first | exact ⟨rfl, HB.out⟩ | exact ⟨rfl, bl_alloc HB.out⟩)
set_option maxRecDepth 100000 in
set_option maxHeartbeats 4000000 in
theorem rex_22 {n : Int} {tx : ByteArray} {ns : List ByteArray} {ks : List Tree} (IH : ExpsC ks) : ExpC (.mk 22 n tx ns ks) := by
  intro N w hr hs
  obtain ⟨hz, hzn, hzk⟩ := hs.of
  have co := only_fff N
  obtain ⟨bN, n0, n1, n2, n3, n4, HB, e1, e2, e3, e4, e5, ce⟩ := ex_start hr IH hzk
  rw [e1] at n0
  rw [okx_22, ← e2, ← e3, ← e4]
  obtain ⟨m, hm⟩ : ∃ m, N.kids.n = m := ⟨_, rfl⟩
  rw [hm] at n4 ce e5
  have HBN := Lib.hid bN
  have ld := run_ldN bN
  obtain ⟨o, ho⟩ : ∃ o, onlyV false false false N.num N.text N.names.n = o := ⟨_, rfl⟩
  have co2 : ∀ W, Calls Tryz.prog 29 #[.agg (ncs N), .bool false, .bool false, .bool false] W (PostR W (.bool o)) := fun W => by rw [← ho]; exact co W
  obtain ⟨p0, hp0⟩ : ∃ b, decide (ks.length = 2) = b := ⟨_, rfl⟩
  have fp0 : ((m : Int) == 2) = p0 := by rw [← hp0, e5]; rw [Bool.eq_iff_iff]; simp; try omega
  obtain ⟨p1, hp1⟩ : ∃ b, allT 65 ks = b := ⟨_, rfl⟩
  rw [hp1] at ce
  rw [ho]
  rw [hp0]
  rw [hp1]
  clear co hz hzn hzk hr e1 e2 e3 e4 e5 ho bN IH hp0 hp1
  have HM := Lib.hid hm
  clear hm
  cases o; rotate_left; cases p0; rotate_left; cases p1
  all_goals (
    go_enter Tryz.func71, Tryz.ntmps71
    go_wp2_with (first | (go_at_call 29; (with_reducible refine (co2 _).mono ?_); intro e w2 hp; obtain ⟨rfl, hb⟩ := hp; have HB := Lib.hid (HB.out.trans (hb.mono HB.out.size)); have HBN := Lib.hid (HBN.out.call hb); have ld := run_ldN HBN.out; have n1 := (HBN.out.cell 1).trans (ncs_1 N); have n2 := (HBN.out.cell 2).trans (ncs_2 N); have n4 := (HBN.out.cell 4).trans (ncs_4 N); rw [HM.out] at n4; have n2a := fun o => ((HBN.out.old o).cell 2).trans (ncs_2 N); clear hb) | (go_at_call 69; (with_reducible refine (ce _ HB.out).mono ?_); intro e w2 hp; obtain ⟨rfl, hb⟩ := hp; have HB := Lib.hid (HB.out.trans (hb.mono HB.out.size)); have HBN := Lib.hid (HBN.out.call hb); have ld := run_ldN HBN.out; have n1 := (HBN.out.cell 1).trans (ncs_1 N); have n2 := (HBN.out.cell 2).trans (ncs_2 N); have n4 := (HBN.out.cell 4).trans (ncs_4 N); rw [HM.out] at n4; have n2a := fun o => ((HBN.out.old o).cell 2).trans (ncs_2 N); clear hb))
    go_ret
    first | exact ⟨rfl, HB.out⟩ | exact ⟨rfl, bl_alloc HB.out⟩)
set_option maxRecDepth 100000 in
set_option maxHeartbeats 4000000 in
theorem rex_23 {n : Int} {tx : ByteArray} {ns : List ByteArray} {ks : List Tree} (IH : ExpsC ks) : ExpC (.mk 23 n tx ns ks) := by
  intro N w hr hs
  obtain ⟨hz, hzn, hzk⟩ := hs.of
  have co := only_fff N
  obtain ⟨bN, n0, n1, n2, n3, n4, HB, e1, e2, e3, e4, e5, ce⟩ := ex_start hr IH hzk
  rw [e1] at n0
  rw [okx_23, ← e2, ← e3, ← e4]
  obtain ⟨m, hm⟩ : ∃ m, N.kids.n = m := ⟨_, rfl⟩
  rw [hm] at n4 ce e5
  have HBN := Lib.hid bN
  have ld := run_ldN bN
  obtain ⟨o, ho⟩ : ∃ o, onlyV false false false N.num N.text N.names.n = o := ⟨_, rfl⟩
  have co2 : ∀ W, Calls Tryz.prog 29 #[.agg (ncs N), .bool false, .bool false, .bool false] W (PostR W (.bool o)) := fun W => by rw [← ho]; exact co W
  obtain ⟨p0, hp0⟩ : ∃ b, decide (ks.length = 3) = b := ⟨_, rfl⟩
  have fp0 : ((m : Int) == 3) = p0 := by rw [← hp0, e5]; rw [Bool.eq_iff_iff]; simp; try omega
  obtain ⟨p1, hp1⟩ : ∃ b, allT 65 ks = b := ⟨_, rfl⟩
  rw [hp1] at ce
  rw [ho]
  rw [hp0]
  rw [hp1]
  clear co hz hzn hzk hr e1 e2 e3 e4 e5 ho bN IH hp0 hp1
  have HM := Lib.hid hm
  clear hm
  cases o; rotate_left; cases p0; rotate_left; cases p1
  all_goals (
    go_enter Tryz.func71, Tryz.ntmps71
    go_wp2_with (first | (go_at_call 29; (with_reducible refine (co2 _).mono ?_); intro e w2 hp; obtain ⟨rfl, hb⟩ := hp; have HB := Lib.hid (HB.out.trans (hb.mono HB.out.size)); have HBN := Lib.hid (HBN.out.call hb); have ld := run_ldN HBN.out; have n1 := (HBN.out.cell 1).trans (ncs_1 N); have n2 := (HBN.out.cell 2).trans (ncs_2 N); have n4 := (HBN.out.cell 4).trans (ncs_4 N); rw [HM.out] at n4; have n2a := fun o => ((HBN.out.old o).cell 2).trans (ncs_2 N); clear hb) | (go_at_call 69; (with_reducible refine (ce _ HB.out).mono ?_); intro e w2 hp; obtain ⟨rfl, hb⟩ := hp; have HB := Lib.hid (HB.out.trans (hb.mono HB.out.size)); have HBN := Lib.hid (HBN.out.call hb); have ld := run_ldN HBN.out; have n1 := (HBN.out.cell 1).trans (ncs_1 N); have n2 := (HBN.out.cell 2).trans (ncs_2 N); have n4 := (HBN.out.cell 4).trans (ncs_4 N); rw [HM.out] at n4; have n2a := fun o => ((HBN.out.old o).cell 2).trans (ncs_2 N); clear hb))
    go_ret
    first | exact ⟨rfl, HB.out⟩ | exact ⟨rfl, bl_alloc HB.out⟩)
end Go.Proofs.YtinoaajohkafmaaGreat.Pr
