/-
 Texts of this seat in build order: DeRight, DeRdesc, DeWhole, DeClear, DeComp, DeAppl, ArSpec, ArReach.
-/
import Derived.Test.YtkadkmnolkkhgaaGreatDoorMb05
import Derived.Deep.CutRange
import Derived.Deep.DeepCutAuto
import Derived.Deep.RegionHeld3
import Derived.Test.YtkadkmnolkkhgaaGreatDoorMb04
/-
 Right: what it gives.
-/
set_option linter.unusedVariables false
set_option linter.unusedSimpArgs false
namespace Go.Proofs.YtkadkmnolkkhgaaGreatDoor.Des
open Go.RowKit Vals
attribute [local go_sem ↓] to_ldD to_stD run_eqD run_eqV0
attribute [local go_sem] n2 n3 m2 m3 rowD_drew rowD_drewN rowD_alloc rowD_putc rowD_other putD_drew putD_drewN putD_size putD_alloc setObj_cells run_ldD run_stD okC_dcs okC_lit objRow_dcs one_b one_i one_s objRow_lit dcs_0 dcs_1 dcs_2 dcs_3 dcs_4 dcs_5 dcs_6 dcs_7 dcs_8 dcs_9 dcs_10 dcs_11 dcs_12 dcs_13 dcs_14 dcs_15 dcs_16 dcs_17
attribute [local go_sem low] cell_rowD
def rigF (d:Ds):Bool:=if accF d && datF d then false else canF d.g && canF d.s && eqD (replF zeroD d) d
def CanIs (v:Vl) (b:Bool):Prop:=∀ w,Calls Tryz.prog 123 #[VV v] w fun e w'=>e = .returned (.bool b)∧Below w.heap.size w w'
theorem CanIs.at {v:Vl} {b:Bool} (h:CanIs v b) {w:World}:Calls Tryz.prog 123 #[VV v] w fun e w'=>e = .returned (.bool b)∧Below w.heap.size w w':=h w
theorem can_is {v:Vl} {b:Bool} (h:canF v=b):CanIs v b:=fun w=>h ▸ can_any v w
theorem repl0_any (d:Ds) (w:World):Calls Tryz.prog 124 #[.agg #[.bool false,.bool false,.bool false,.bool false,.bool false,.bool false,.int .i64 0,.int .i64 0,.string ⟨#[]⟩,.int .i64 0,.int .i64 0,.string ⟨#[]⟩,.int .i64 0,.int .i64 0,.string ⟨#[]⟩,.bool false,.bool false,.bool false],DV d] w fun e w'=>e = .returned (DV (replF zeroD d))∧Below w.heap.size w w':=repl_any zeroD d w
set_option maxHeartbeats 8000000 in
set_option maxRecDepth 100000 in
theorem rig_x (d:Ds) (w:World) (a t c s:Bool) (ha:accF d=a) (ht:datF d=t) (hc:canF d.g=c) (hs:canF d.s=s) (had:(a && t)=false):Calls Tryz.prog 79 #[DV d] w fun en w'=>en = .returned (.bool (c && s && eqD (replF zeroD d) d))∧Below w.heap.size w w':=by
 have HC:=can_is hc
 have HS:=can_is hs
 clear hc hs
 cases a <;> cases t <;> cases c <;> cases s <;> simp only [Bool.and_self,Bool.and_false,Bool.false_and,Bool.true_and,reduceCtorEq] at had
 all_goals
  go_enter Tryz.func79,Tryz.ntmps79
  go_wp2_with (first |(go_at_call 121;refine (acc_any d _).mono ?_;rintro e w1 ⟨rfl,hb1⟩;have:=rowD_call hb1 (show rowD _ (w.heap.size)=some (dcs d) by first |assumption |(simp [rowD_alloc,objRow_dcs,rowD_drew,n2,n3,m2,m3];done) |(simp [rowD_drew,rowD_alloc,n2,n3,m2,m3,objRow_dcs,objRow_lit,rowD_putc,rowD_other,putD_size,okC_dcs,okC_lit,one_b,one_i,one_s, *];done));have hbw:Below w.heap.size w w1:=bel_keep hb1 (by first |assumption |exact two_bels _ _ _ |exact three_bels _ _ _ _ |exact ball _ _ |exact bel_drew (two_bels _ _ _) |exact bel_drew (three_bels _ _ _ _) |exact bel_drew (ball _ _) |exact bel_drew (by assumption) |exact bel_put (by assumption) (by omega) _);clear hb1) |(go_at_call 122;refine (dat_any d _).mono ?_;rintro e w1 ⟨rfl,hb1⟩;have:=rowD_call hb1 (show rowD _ (w.heap.size)=some (dcs d) by first |assumption |(simp [rowD_alloc,objRow_dcs,rowD_drew,n2,n3,m2,m3];done) |(simp [rowD_drew,rowD_alloc,n2,n3,m2,m3,objRow_dcs,objRow_lit,rowD_putc,rowD_other,putD_size,okC_dcs,okC_lit,one_b,one_i,one_s, *];done));have hbw:Below w.heap.size w w1:=bel_keep hb1 (by first |assumption |exact two_bels _ _ _ |exact three_bels _ _ _ _ |exact ball _ _ |exact bel_drew (two_bels _ _ _) |exact bel_drew (three_bels _ _ _ _) |exact bel_drew (ball _ _) |exact bel_drew (by assumption) |exact bel_put (by assumption) (by omega) _);clear hb1))
  have F0:∀ p:Wd (S1 w [(w.heap.size,dcs d)]),rowD p.w (w.heap.size)=some (dcs d):=fun p=>wd_row (.head _) p
  refine region_in (B:=w) [(w.heap.size,dcs d)] (by kernel_rfl) (by kernel_rfl) (s1_cons (by first |assumption |(simp [rowD_alloc,objRow_dcs,rowD_drew,n2,n3,m2,m3];done) |(simp [rowD_drew,rowD_alloc,n2,n3,m2,m3,objRow_dcs,objRow_lit,rowD_putc,rowD_other,putD_size,okC_dcs,okC_lit,one_b,one_i,one_s, *];done)) (s1_nil (by assumption))) (fun hne=>?_)
  repeat (go_big_quiet_step (first |(exact in_call (by with_reducible exact HC.at)) |(exact in_call (by with_reducible exact HS.at)) |(exact in_call (repl0_any d _))))
  refine wpQuiet_nil ?_
  intro w1 hw1
  have hS:=in_out hw1
  have:=hS.row (g:=w.heap.size) (cs:=dcs d) (.head _)
  have hbw:=hS.1
  clear hS hw1 hne F0
  go_wp2
  go_ret
  exact ⟨by simp,by assumption⟩
theorem rig_no (d:Ds) (w:World) (ha:accF d=true) (ht:datF d=true):Calls Tryz.prog 79 #[DV d] w fun en w'=>en = .returned (.bool false)∧Below w.heap.size w w':=by
 go_enter Tryz.func79,Tryz.ntmps79
 go_wp2_with (first |(go_at_call 121;refine (acc_any d _).mono ?_;rintro e w1 ⟨rfl,hb1⟩;have:=rowD_call hb1 (show rowD _ (w.heap.size)=some (dcs d) by first |assumption |(simp [rowD_alloc,objRow_dcs,rowD_drew,n2,n3,m2,m3];done) |(simp [rowD_drew,rowD_alloc,n2,n3,m2,m3,objRow_dcs,objRow_lit,rowD_putc,rowD_other,putD_size,okC_dcs,okC_lit,one_b,one_i,one_s, *];done));have hbw:Below w.heap.size w w1:=bel_keep hb1 (by first |assumption |exact two_bels _ _ _ |exact three_bels _ _ _ _ |exact ball _ _ |exact bel_drew (two_bels _ _ _) |exact bel_drew (three_bels _ _ _ _) |exact bel_drew (ball _ _) |exact bel_drew (by assumption) |exact bel_put (by assumption) (by omega) _);clear hb1) |(go_at_call 122;refine (dat_any d _).mono ?_;rintro e w1 ⟨rfl,hb1⟩;have:=rowD_call hb1 (show rowD _ (w.heap.size)=some (dcs d) by first |assumption |(simp [rowD_alloc,objRow_dcs,rowD_drew,n2,n3,m2,m3];done) |(simp [rowD_drew,rowD_alloc,n2,n3,m2,m3,objRow_dcs,objRow_lit,rowD_putc,rowD_other,putD_size,okC_dcs,okC_lit,one_b,one_i,one_s, *];done));have hbw:Below w.heap.size w w1:=bel_keep hb1 (by first |assumption |exact two_bels _ _ _ |exact three_bels _ _ _ _ |exact ball _ _ |exact bel_drew (two_bels _ _ _) |exact bel_drew (three_bels _ _ _ _) |exact bel_drew (ball _ _) |exact bel_drew (by assumption) |exact bel_put (by assumption) (by omega) _);clear hb1))
 go_ret
 exact ⟨rfl,by assumption⟩
theorem rig_any (d:Ds) (w:World):Calls Tryz.prog 79 #[DV d] w fun en w'=>en = .returned (.bool (rigF d))∧Below w.heap.size w w':=by
 cases h:accF d && datF d with
 | true =>
  have e:rigF d=false:=by simp [rigF,h]
  rw [e]
  simp at h
  exact rig_no d w h.1 h.2
 | false =>
  have e:rigF d=(canF d.g && canF d.s && eqD (replF zeroD d) d):=by simp [rigF,h]
  rw [e]
  exact rig_x d w _ _ _ _ rfl rfl rfl rfl h
end Go.Proofs.YtkadkmnolkkhgaaGreatDoor.Des

/-
 The reference's RightDesc: what it gives.
-/
namespace Go.Proofs.YtkadkmnolkkhgaaGreatDoor.Des
open Go.RowKit Vals
attribute [local go_sem ↓] to_ldD to_stD run_eqD run_eqV0
attribute [local go_sem] n2 n3 m2 m3 rowD_drew rowD_drewN rowD_alloc rowD_putc rowD_other putD_drew putD_drewN putD_size putD_alloc setObj_cells run_ldD run_stD okC_dcs okC_lit objRow_dcs one_b one_i one_s objRow_lit dcs_0 dcs_1 dcs_2 dcs_3 dcs_4 dcs_5 dcs_6 dcs_7 dcs_8 dcs_9 dcs_10 dcs_11 dcs_12 dcs_13 dcs_14 dcs_15 dcs_16 dcs_17
attribute [local go_sem low] cell_rowD
theorem cell_call {w w':World} {a:Addr} {v:Value} (hb:Below w.heap.size w w') (h:w.cell? a=some v):w'.cell? a=some v:=(hb.cell (World.block_lt_of_cell? w _ h)).trans h
def badF (d:Ds):Bool:=(accF d && datF d) || (d.hg && !canF d.g) || (d.hs && !canF d.s)
def rigR (d:Ds):Bool:=if badF d then false else (d.hv || eqV d.v zeroV) && (d.hg || eqV d.g zeroV) && (d.hs || eqV d.s zeroV) && (d.hw || !d.w) && (d.he || !d.e) && (d.hc || !d.c)
set_option maxHeartbeats 8000000 in
set_option maxRecDepth 100000 in
theorem rigr_any (d:Ds) (w:World):Calls Tryz.prog 31 #[DV d] w fun en w'=>en = .returned (.bool (rigR d))∧Below w.heap.size w w':=by
 go_enter Tryz.func31,Tryz.ntmps31
 go_upto_region 2 with fail
 go_cut [29] from 4 to 84 (fun s wx=>s = .bool (badF d)∧Below w.heap.size w wx∧rowD wx w.heap.size=some (dcs d)∧wx.cell? ⟨w.heap.size+1,0,none⟩=some (.int .i64 0)∧wx.cell? ⟨w.heap.size+1,1,none⟩=some (.int .i64 0)∧wx.cell? ⟨w.heap.size+1,2,none⟩=some (.string ⟨#[]⟩))
 case first =>
  go_wp2_with (first |(go_at_call 25;refine (racc_any d _).mono ?_;rintro e w1 ⟨rfl,hb1⟩;have:=rowD_call hb1 (show rowD _ (w.heap.size)=some (dcs d) by first |assumption |(simp [rowD_alloc,objRow_dcs,rowD_drew,n2,n3,m2,m3];done) |(simp [rowD_drew,rowD_alloc,n2,n3,m2,m3,objRow_dcs,objRow_lit,rowD_putc,rowD_other,putD_size,okC_dcs,okC_lit,one_b,one_i,one_s, *];done));have:=cell_call (a:=⟨w.heap.size+1,0,none⟩) (v:=.int .i64 0) hb1 (by first |assumption |(simp;done));have:=cell_call (a:=⟨w.heap.size+1,1,none⟩) (v:=.int .i64 0) hb1 (by first |assumption |(simp;done));have:=cell_call (a:=⟨w.heap.size+1,2,none⟩) (v:=.string ⟨#[]⟩) hb1 (by first |assumption |(simp;done));have hbw:Below w.heap.size w w1:=bel_keep hb1 (by first |assumption |exact two_bels _ _ _);clear hb1) |(go_at_call 24;refine (rdat_any d _).mono ?_;rintro e w1 ⟨rfl,hb1⟩;have:=rowD_call hb1 (show rowD _ (w.heap.size)=some (dcs d) by first |assumption |(simp [rowD_alloc,objRow_dcs,rowD_drew,n2,n3,m2,m3];done) |(simp [rowD_drew,rowD_alloc,n2,n3,m2,m3,objRow_dcs,objRow_lit,rowD_putc,rowD_other,putD_size,okC_dcs,okC_lit,one_b,one_i,one_s, *];done));have:=cell_call (a:=⟨w.heap.size+1,0,none⟩) (v:=.int .i64 0) hb1 (by first |assumption |(simp;done));have:=cell_call (a:=⟨w.heap.size+1,1,none⟩) (v:=.int .i64 0) hb1 (by first |assumption |(simp;done));have:=cell_call (a:=⟨w.heap.size+1,2,none⟩) (v:=.string ⟨#[]⟩) hb1 (by first |assumption |(simp;done));have hbw:Below w.heap.size w w1:=bel_keep hb1 (by first |assumption |exact two_bels _ _ _);clear hb1) |(go_at_call 70;refine (side_any ⟨_,_,_⟩ _).mono ?_;rintro e w1 ⟨rfl,hb1⟩;have:=rowD_call hb1 (show rowD _ (w.heap.size)=some (dcs d) by first |assumption |(simp [rowD_alloc,objRow_dcs,rowD_drew,n2,n3,m2,m3];done) |(simp [rowD_drew,rowD_alloc,n2,n3,m2,m3,objRow_dcs,objRow_lit,rowD_putc,rowD_other,putD_size,okC_dcs,okC_lit,one_b,one_i,one_s, *];done));have:=cell_call (a:=⟨w.heap.size+1,0,none⟩) (v:=.int .i64 0) hb1 (by first |assumption |(simp;done));have:=cell_call (a:=⟨w.heap.size+1,1,none⟩) (v:=.int .i64 0) hb1 (by first |assumption |(simp;done));have:=cell_call (a:=⟨w.heap.size+1,2,none⟩) (v:=.string ⟨#[]⟩) hb1 (by first |assumption |(simp;done));have hbw:Below w.heap.size w w1:=bel_keep hb1 (by first |assumption |exact two_bels _ _ _);clear hb1))
  all_goals
   go_meet
   exact ⟨by simp [badF, *],by assumption,by assumption,by assumption,by assumption,by assumption⟩
 case rest =>
 obtain ⟨rfl,hb,hr,z0,z1,z2⟩:=hcut
 cases hbad:badF d
 ·go_wp2
  all_goals
   go_ret
   exact ⟨by simp [rigR,zeroV, *],by assumption⟩
 ·go_wp2
  go_ret
  exact ⟨by simp [rigR,hbad],by assumption⟩
end Go.Proofs.YtkadkmnolkkhgaaGreatDoor.Des

/-
 Whole of both sides: what it gives.
-/
namespace Go.Proofs.YtkadkmnolkkhgaaGreatDoor.Des
open Go.RowKit Vals
attribute [local go_sem ↓] to_ldD to_stD run_eqD run_eqV0
attribute [local go_sem] n2 n3 m2 m3 rowD_drew rowD_drewN rowD_alloc rowD_putc rowD_other putD_drew putD_drewN putD_size putD_alloc setObj_cells run_ldD run_stD okC_dcs okC_lit objRow_dcs one_b one_i one_s objRow_lit dcs_0 dcs_1 dcs_2 dcs_3 dcs_4 dcs_5 dcs_6 dcs_7 dcs_8 dcs_9 dcs_10 dcs_11 dcs_12 dcs_13 dcs_14 dcs_15 dcs_16 dcs_17
attribute [local go_sem low] cell_rowD
def whF (d:Ds):Bool:=if !rigF d || !d.he || !d.hc then false else (d.hv && d.hw) || (d.hg && d.hs)
def whR (d:Ds):Bool:=rigR d && d.he && d.hc && ((d.hv && d.hw) || (d.hg && d.hs))
set_option maxHeartbeats 4000000 in
theorem wh_any (d:Ds) (w:World):Calls Tryz.prog 228 #[DV d] w fun e w'=>e = .returned (.bool (whF d))∧Below w.heap.size w w':=by
 go_enter Tryz.func228,Tryz.ntmps228
 go_wp2_with (go_at_call 79;refine (rig_any d _).mono ?_;rintro e w1 ⟨rfl,hb1⟩;have:=rowD_call hb1 (show rowD _ (w.heap.size)=some (dcs d) by first |assumption |(simp [rowD_alloc,objRow_dcs,rowD_drew,n2,n3,m2,m3];done) |(simp [rowD_drew,rowD_alloc,n2,n3,m2,m3,objRow_dcs,objRow_lit,rowD_putc,rowD_other,putD_size,okC_dcs,okC_lit,one_b,one_i,one_s, *];done));have hbw:Below w.heap.size w w1:=bel_keep hb1 (by first |assumption |exact two_bels _ _ _ |exact three_bels _ _ _ _ |exact ball _ _ |exact bel_drew (two_bels _ _ _) |exact bel_drew (three_bels _ _ _ _) |exact bel_drew (ball _ _) |exact bel_drew (by assumption) |exact bel_put (by assumption) (by omega) _);clear hb1)
 all_goals
  go_ret
  exact ⟨by simp [whF, *],by assumption⟩
set_option maxHeartbeats 4000000 in
theorem whr_any (d:Ds) (w:World):Calls Tryz.prog 87 #[DV d] w fun e w'=>e = .returned (.bool (whR d))∧Below w.heap.size w w':=by
 go_enter Tryz.func87,Tryz.ntmps87
 go_wp2_with (go_at_call 31;refine (rigr_any d _).mono ?_;rintro e w1 ⟨rfl,hb1⟩;have:=rowD_call hb1 (show rowD _ (w.heap.size)=some (dcs d) by first |assumption |(simp [rowD_alloc,objRow_dcs,rowD_drew,n2,n3,m2,m3];done) |(simp [rowD_drew,rowD_alloc,n2,n3,m2,m3,objRow_dcs,objRow_lit,rowD_putc,rowD_other,putD_size,okC_dcs,okC_lit,one_b,one_i,one_s, *];done));have hbw:Below w.heap.size w w1:=bel_keep hb1 (by first |assumption |exact two_bels _ _ _ |exact three_bels _ _ _ _ |exact ball _ _ |exact bel_drew (two_bels _ _ _) |exact bel_drew (three_bels _ _ _ _) |exact bel_drew (ball _ _) |exact bel_drew (by assumption) |exact bel_put (by assumption) (by omega) _);clear hb1)
 all_goals
  go_ret
  exact ⟨by simp [whR, *],by assumption⟩
end Go.Proofs.YtkadkmnolkkhgaaGreatDoor.Des

/-
 cleared and the reference's Complete: what they give.
-/
namespace Go.Proofs.YtkadkmnolkkhgaaGreatDoor.Des
open Go.RowKit Vals
attribute [local go_sem ↓] to_ldD to_stD run_eqD run_eqV0
attribute [local go_sem] n2 n3 m2 m3 rowD_drew rowD_drewN rowD_alloc rowD_putc rowD_other putD_drew putD_drewN putD_size putD_alloc setObj_cells run_ldD run_stD okC_dcs okC_lit objRow_dcs one_b one_i one_s objRow_lit dcs_0 dcs_1 dcs_2 dcs_3 dcs_4 dcs_5 dcs_6 dcs_7 dcs_8 dcs_9 dcs_10 dcs_11 dcs_12 dcs_13 dcs_14 dcs_15 dcs_16 dcs_17
attribute [local go_sem low] cell_rowD
def clearF (d:Ds):Ds:=if accF d then ⟨d.hv,true,true,d.hw,true,true,d.v,zeroV,zeroV,d.w,false,false⟩ else ⟨true,d.hg,d.hs,true,true,true,zeroV,d.g,d.s,false,false,false⟩
set_option maxHeartbeats 4000000 in
theorem clear_any (d:Ds) (w:World):Calls Tryz.prog 246 #[DV d] w fun en w'=>en = .returned (DV (clearF d))∧Below w.heap.size w w':=by
 have hdx:dcs d=#[.bool (d.hv),.bool (d.hg),.bool (d.hs),.bool (d.hw),.bool (d.he),.bool (d.hc),.int .i64 (d.v.k),.int .i64 (d.v.n),.string (d.v.s),.int .i64 (d.g.k),.int .i64 (d.g.n),.string (d.g.s),.int .i64 (d.s.k),.int .i64 (d.s.n),.string (d.s.s),.bool (d.w),.bool (d.e),.bool (d.c)]:=rfl
 unfold DV
 rw [hdx]
 clear hdx
 cases hacc:accF d
 all_goals
  go_enter Tryz.func246,Tryz.ntmps246
  go_wp2_with (go_at_call 121;refine (acc_x d _).mono ?_;rintro e w1 ⟨rfl,rfl⟩)
  refine bodyPost_ret (res_rowD Tryz.results246 _ _ (w.heap.size+1) _ rfl (by simp [rowD_alloc,objRow_lit];rfl)) rfl ⟨?_,?_⟩
  ·simp [clearF,hacc,dcs,zeroV]
  ·exact three_bels w _ _ _
end Go.Proofs.YtkadkmnolkkhgaaGreatDoor.Des

/-
 Complete, converted, added: what they give.
-/
namespace Go.Proofs.YtkadkmnolkkhgaaGreatDoor.Des
open Go.RowKit Vals
attribute [local go_sem ↓] to_ldD to_stD run_eqD run_eqV0
attribute [local go_sem] n2 n3 m2 m3 rowD_drew rowD_drewN rowD_alloc rowD_putc rowD_other putD_drew putD_drewN putD_size putD_alloc setObj_cells run_ldD run_stD okC_dcs okC_lit objRow_dcs one_b one_i one_s objRow_lit dcs_0 dcs_1 dcs_2 dcs_3 dcs_4 dcs_5 dcs_6 dcs_7 dcs_8 dcs_9 dcs_10 dcs_11 dcs_12 dcs_13 dcs_14 dcs_15 dcs_16 dcs_17
attribute [local go_sem low] cell_rowD
def compF (d:Ds):Ds:=replF (clearF d) d
def convA (d:Ds):Ds:=⟨false,datF d,false,false,true,true,zeroV,zeroV,zeroV,false,d.e,d.c⟩
def convF (d:Ds):Ds:=compF (convA d)
set_option maxHeartbeats 4000000 in
set_option maxRecDepth 100000 in
theorem comp_any (d:Ds) (w:World):Calls Tryz.prog 217 #[DV d] w fun en w'=>en = .returned (DV (compF d))∧Below w.heap.size w w':=by
 go_enter Tryz.func217,Tryz.ntmps217
 go_wp2
 go_region_held3 (fun w'=>Below w.heap.size w w'∧rowD w' w.heap.size=some (dcs d)∧(rowD w' (w.heap.size+1)).isSome=true)
  (first |exact ⟨bel_drew (two_bels _ _ _),by simp [rowD_alloc,rowD_drew,objRow_dcs],by simp [rowD_alloc,rowD_drew,objRow_lit]⟩ |(go_split_ands;exact ⟨bel_keep (by assumption) (by assumption),rowD_call (by assumption) (by assumption),is_call (by assumption) (by assumption)⟩) |(go_split_ands;exact ⟨bel_put (by assumption) (by omega) _,(rowD_other _ _ _ _ (by omega)).trans (by assumption),by rw [rowD_put _ _ _ (by assumption) (dcs_size _)];rfl⟩))
  (first
   | (go_at_call 246;refine (clear_any d _).mono ?_;rintro e w3 ⟨rfl,hb3⟩;have:=is_call hb3 (show (rowD _ (w.heap.size+1)).isSome=true by first |assumption |(simp [rowD_alloc,objRow_dcs,objRow_lit,rowD_drew,n2,n3,m2,m3];done) |(simp [rowD_drew,rowD_alloc,n2,n3,m2,m3,objRow_dcs,objRow_lit,rowD_putc,rowD_other,putD_size,okC_dcs,okC_lit,one_b,one_i,one_s, *];done)))
   | (go_at_call 124;refine (repl_any (clearF d) d _).mono ?_;rintro e w4 ⟨rfl,hb4⟩;have:=is_call hb4 (show (rowD _ (w.heap.size+1)).isSome=true by first |assumption |(simp [rowD_alloc,objRow_dcs,objRow_lit,rowD_drew,n2,n3,m2,m3];done) |(simp [rowD_drew,rowD_alloc,n2,n3,m2,m3,objRow_dcs,objRow_lit,rowD_putc,rowD_other,putD_size,okC_dcs,okC_lit,one_b,one_i,one_s, *];done))))
 go_split_ands
 go_wp2
 exact bodyPost_ret (res_rowD Tryz.results217 _ _ (w.heap.size+1) _ rfl (rowD_put _ _ _ (by assumption) rfl)) rfl ⟨rfl,by assumption⟩
set_option maxHeartbeats 4000000 in
set_option maxRecDepth 100000 in
theorem conv_any (d:Ds) (w:World):Calls Tryz.prog 232 #[DV d] w fun en w'=>en = .returned (DV (convF d))∧Below w.heap.size w w':=by
 go_enter Tryz.func232,Tryz.ntmps232
 go_wp2
 go_region_held3 (fun w'=>Below w.heap.size w w'∧rowD w' w.heap.size=some (dcs d)∧(rowD w' (w.heap.size+1)).isSome=true)
  (first |exact ⟨bel_drew (two_bels _ _ _),by simp [rowD_alloc,rowD_drew,objRow_dcs],by simp [rowD_alloc,rowD_drew,objRow_lit]⟩ |(go_split_ands;exact ⟨bel_keep (by assumption) (by assumption),rowD_call (by assumption) (by assumption),is_call (by assumption) (by assumption)⟩) |(go_split_ands;exact ⟨bel_put (by assumption) (by omega) _,(rowD_other _ _ _ _ (by omega)).trans (by assumption),by rw [rowD_put _ _ _ (by assumption) (dcs_size _)];rfl⟩))
  (first
   | (go_at_call 122;refine (dat_any d _).mono ?_;rintro e w3 ⟨rfl,hb3⟩;have:=is_call hb3 (show (rowD _ (w.heap.size+1)).isSome=true by first |assumption |(simp [rowD_alloc,objRow_dcs,objRow_lit,rowD_drew,n2,n3,m2,m3];done) |(simp [rowD_drew,rowD_alloc,n2,n3,m2,m3,objRow_dcs,objRow_lit,rowD_putc,rowD_other,putD_size,okC_dcs,okC_lit,one_b,one_i,one_s, *];done)))
   | (go_at_call 217;refine (comp_any (convA d) _).mono ?_;rintro e w4 ⟨rfl,hb4⟩;have:=is_call hb4 (show (rowD _ (w.heap.size+1)).isSome=true by first |assumption |(simp [rowD_alloc,objRow_dcs,objRow_lit,rowD_drew,n2,n3,m2,m3];done) |(simp [rowD_drew,rowD_alloc,n2,n3,m2,m3,objRow_dcs,objRow_lit,rowD_putc,rowD_other,putD_size,okC_dcs,okC_lit,one_b,one_i,one_s, *];done))))
 go_split_ands
 go_wp2
 exact bodyPost_ret (res_rowD Tryz.results232 _ _ (w.heap.size+1) _ rfl (rowD_put _ _ _ (by assumption) rfl)) rfl ⟨rfl,by assumption⟩
def addF (x:Bool) (d:Ds):Ds:=if x then compF d else zeroD
theorem add_any (x:Bool) (d:Ds) (w:World):Calls Tryz.prog 229 #[.bool x,DV d] w fun en w'=>en = .returned (.tuple #[DV (addF x d),.bool x])∧Below w.heap.size w w':=by
 cases x
 ·go_enter Tryz.func229,Tryz.ntmps229
  go_wp2
  exact bodyPost_ret (res2_rowD Tryz.results229 _ _ (w.heap.size+1) _ rfl (by simp [rowD_alloc,objRow_lit];rfl)) rfl ⟨rfl,two_bels _ _ _⟩
 ·go_enter Tryz.func229,Tryz.ntmps229
  go_wp2_with (go_at_call 217;refine (comp_any d _).mono ?_;rintro e w3 ⟨rfl,hb3⟩;have:=is_call hb3 (show (rowD _ (w.heap.size+1)).isSome=true by first |assumption |(simp [rowD_alloc,objRow_dcs,objRow_lit,rowD_drew,n2,n3,m2,m3];done) |(simp [rowD_drew,rowD_alloc,n2,n3,m2,m3,objRow_dcs,objRow_lit,rowD_putc,rowD_other,putD_size,okC_dcs,okC_lit,one_b,one_i,one_s, *];done));have hbw:Below w.heap.size w w3:=bel_keep hb3 (two_bels _ _ _);clear hb3)
  exact bodyPost_ret (res2_rowD Tryz.results229 _ _ (w.heap.size+1) _ rfl (rowD_put _ _ _ (by assumption) rfl)) rfl ⟨rfl,bel_put hbw (by omega) _⟩
end Go.Proofs.YtkadkmnolkkhgaaGreatDoor.Des

/-
 Apply: what it gives.
-/
namespace Go.Proofs.YtkadkmnolkkhgaaGreatDoor.Des
open Go.RowKit Vals
attribute [local go_sem ↓] to_ldD to_stD run_eqD run_eqV0
attribute [local go_sem] n2 n3 m2 m3 rowD_drew rowD_drewN rowD_alloc rowD_putc rowD_other putD_drew putD_drewN putD_size putD_alloc setObj_cells run_ldD run_stD okC_dcs okC_lit objRow_dcs one_b one_i one_s objRow_lit dcs_0 dcs_1 dcs_2 dcs_3 dcs_4 dcs_5 dcs_6 dcs_7 dcs_8 dcs_9 dcs_10 dcs_11 dcs_12 dcs_13 dcs_14 dcs_15 dcs_16 dcs_17
attribute [local go_sem low] cell_rowD
def appF (x:Bool) (d:Ds) (h:Bool) (n:Ds):Ds × Bool:=if !rigF d || (h && !whF n) then (zeroD,false) else if !h then (addF x d,x) else if !n.c && !kxF d n then (zeroD,false) else (replF (if othF d n then convF n else n) d,true)
abbrev DB (r:Ds × Bool):Value:=.tuple #[DV r.1,.bool r.2]
set_option maxHeartbeats 8000000 in
set_option maxRecDepth 100000 in
theorem app_any (x:Bool) (d:Ds) (h:Bool) (n:Ds) (w:World):Calls Tryz.prog 189 #[.bool x,DV d,.bool h,DV n] w fun e w'=>e = .returned (DB (appF x d h n))∧Below w.heap.size w w':=by
 go_enter Tryz.func189,Tryz.ntmps189
 go_wp2_with (first |(go_at_call 79;refine (rig_any d _).mono ?_;rintro e w1 ⟨rfl,hb1⟩;have:=rowD_call hb1 (show rowD _ (w.heap.size)=some (dcs d) by first |assumption |(simp [rowD_alloc,objRow_dcs,rowD_drew,n2,n3,m2,m3];done) |(simp [rowD_drew,rowD_alloc,n2,n3,m2,m3,objRow_dcs,objRow_lit,rowD_putc,rowD_other,putD_size,okC_dcs,okC_lit,one_b,one_i,one_s, *];done));have:=rowD_call hb1 (show rowD _ (w.heap.size+1)=some (dcs n) by first |assumption |(simp [rowD_alloc,objRow_dcs,rowD_drew,n2,n3,m2,m3];done) |(simp [rowD_drew,rowD_alloc,n2,n3,m2,m3,objRow_dcs,objRow_lit,rowD_putc,rowD_other,putD_size,okC_dcs,okC_lit,one_b,one_i,one_s, *];done));have:=is_call hb1 (show (rowD _ (w.heap.size+1+1)).isSome=true by first |assumption |(simp [rowD_alloc,objRow_dcs,objRow_lit,rowD_drew,n2,n3,m2,m3];done) |(simp [rowD_drew,rowD_alloc,n2,n3,m2,m3,objRow_dcs,objRow_lit,rowD_putc,rowD_other,putD_size,okC_dcs,okC_lit,one_b,one_i,one_s, *];done));have hbw:Below w.heap.size w w1:=bel_keep hb1 (by first |assumption |exact two_bels _ _ _ |exact three_bels _ _ _ _ |exact ball _ _ |exact bel_drew (two_bels _ _ _) |exact bel_drew (three_bels _ _ _ _) |exact bel_drew (ball _ _) |exact bel_drew (by assumption) |exact bel_put (by assumption) (by omega) _);clear hb1) |(go_at_call 228;refine (wh_any n _).mono ?_;rintro e w1 ⟨rfl,hb1⟩;have:=rowD_call hb1 (show rowD _ (w.heap.size)=some (dcs d) by first |assumption |(simp [rowD_alloc,objRow_dcs,rowD_drew,n2,n3,m2,m3];done) |(simp [rowD_drew,rowD_alloc,n2,n3,m2,m3,objRow_dcs,objRow_lit,rowD_putc,rowD_other,putD_size,okC_dcs,okC_lit,one_b,one_i,one_s, *];done));have:=rowD_call hb1 (show rowD _ (w.heap.size+1)=some (dcs n) by first |assumption |(simp [rowD_alloc,objRow_dcs,rowD_drew,n2,n3,m2,m3];done) |(simp [rowD_drew,rowD_alloc,n2,n3,m2,m3,objRow_dcs,objRow_lit,rowD_putc,rowD_other,putD_size,okC_dcs,okC_lit,one_b,one_i,one_s, *];done));have:=is_call hb1 (show (rowD _ (w.heap.size+1+1)).isSome=true by first |assumption |(simp [rowD_alloc,objRow_dcs,objRow_lit,rowD_drew,n2,n3,m2,m3];done) |(simp [rowD_drew,rowD_alloc,n2,n3,m2,m3,objRow_dcs,objRow_lit,rowD_putc,rowD_other,putD_size,okC_dcs,okC_lit,one_b,one_i,one_s, *];done));have hbw:Below w.heap.size w w1:=bel_keep hb1 (by first |assumption |exact two_bels _ _ _ |exact three_bels _ _ _ _ |exact ball _ _ |exact bel_drew (two_bels _ _ _) |exact bel_drew (three_bels _ _ _ _) |exact bel_drew (ball _ _) |exact bel_drew (by assumption) |exact bel_put (by assumption) (by omega) _);clear hb1) |(go_at_call 229;refine (add_any x d _).mono ?_;rintro e w1 ⟨rfl,hb1⟩;have:=rowD_call hb1 (show rowD _ (w.heap.size)=some (dcs d) by first |assumption |(simp [rowD_alloc,objRow_dcs,rowD_drew,n2,n3,m2,m3];done) |(simp [rowD_drew,rowD_alloc,n2,n3,m2,m3,objRow_dcs,objRow_lit,rowD_putc,rowD_other,putD_size,okC_dcs,okC_lit,one_b,one_i,one_s, *];done));have:=rowD_call hb1 (show rowD _ (w.heap.size+1)=some (dcs n) by first |assumption |(simp [rowD_alloc,objRow_dcs,rowD_drew,n2,n3,m2,m3];done) |(simp [rowD_drew,rowD_alloc,n2,n3,m2,m3,objRow_dcs,objRow_lit,rowD_putc,rowD_other,putD_size,okC_dcs,okC_lit,one_b,one_i,one_s, *];done));have:=is_call hb1 (show (rowD _ (w.heap.size+1+1)).isSome=true by first |assumption |(simp [rowD_alloc,objRow_dcs,objRow_lit,rowD_drew,n2,n3,m2,m3];done) |(simp [rowD_drew,rowD_alloc,n2,n3,m2,m3,objRow_dcs,objRow_lit,rowD_putc,rowD_other,putD_size,okC_dcs,okC_lit,one_b,one_i,one_s, *];done));have hbw:Below w.heap.size w w1:=bel_keep hb1 (by first |assumption |exact two_bels _ _ _ |exact three_bels _ _ _ _ |exact ball _ _ |exact bel_drew (two_bels _ _ _) |exact bel_drew (three_bels _ _ _ _) |exact bel_drew (ball _ _) |exact bel_drew (by assumption) |exact bel_put (by assumption) (by omega) _);clear hb1) |(go_at_call 230;refine (kx_any d n _).mono ?_;rintro e w1 ⟨rfl,hb1⟩;have:=rowD_call hb1 (show rowD _ (w.heap.size)=some (dcs d) by first |assumption |(simp [rowD_alloc,objRow_dcs,rowD_drew,n2,n3,m2,m3];done) |(simp [rowD_drew,rowD_alloc,n2,n3,m2,m3,objRow_dcs,objRow_lit,rowD_putc,rowD_other,putD_size,okC_dcs,okC_lit,one_b,one_i,one_s, *];done));have:=rowD_call hb1 (show rowD _ (w.heap.size+1)=some (dcs n) by first |assumption |(simp [rowD_alloc,objRow_dcs,rowD_drew,n2,n3,m2,m3];done) |(simp [rowD_drew,rowD_alloc,n2,n3,m2,m3,objRow_dcs,objRow_lit,rowD_putc,rowD_other,putD_size,okC_dcs,okC_lit,one_b,one_i,one_s, *];done));have:=is_call hb1 (show (rowD _ (w.heap.size+1+1)).isSome=true by first |assumption |(simp [rowD_alloc,objRow_dcs,objRow_lit,rowD_drew,n2,n3,m2,m3];done) |(simp [rowD_drew,rowD_alloc,n2,n3,m2,m3,objRow_dcs,objRow_lit,rowD_putc,rowD_other,putD_size,okC_dcs,okC_lit,one_b,one_i,one_s, *];done));have hbw:Below w.heap.size w w1:=bel_keep hb1 (by first |assumption |exact two_bels _ _ _ |exact three_bels _ _ _ _ |exact ball _ _ |exact bel_drew (two_bels _ _ _) |exact bel_drew (three_bels _ _ _ _) |exact bel_drew (ball _ _) |exact bel_drew (by assumption) |exact bel_put (by assumption) (by omega) _);clear hb1) |(go_at_call 231;refine (oth_any d n _).mono ?_;rintro e w1 ⟨rfl,hb1⟩;have:=rowD_call hb1 (show rowD _ (w.heap.size)=some (dcs d) by first |assumption |(simp [rowD_alloc,objRow_dcs,rowD_drew,n2,n3,m2,m3];done) |(simp [rowD_drew,rowD_alloc,n2,n3,m2,m3,objRow_dcs,objRow_lit,rowD_putc,rowD_other,putD_size,okC_dcs,okC_lit,one_b,one_i,one_s, *];done));have:=rowD_call hb1 (show rowD _ (w.heap.size+1)=some (dcs n) by first |assumption |(simp [rowD_alloc,objRow_dcs,rowD_drew,n2,n3,m2,m3];done) |(simp [rowD_drew,rowD_alloc,n2,n3,m2,m3,objRow_dcs,objRow_lit,rowD_putc,rowD_other,putD_size,okC_dcs,okC_lit,one_b,one_i,one_s, *];done));have:=is_call hb1 (show (rowD _ (w.heap.size+1+1)).isSome=true by first |assumption |(simp [rowD_alloc,objRow_dcs,objRow_lit,rowD_drew,n2,n3,m2,m3];done) |(simp [rowD_drew,rowD_alloc,n2,n3,m2,m3,objRow_dcs,objRow_lit,rowD_putc,rowD_other,putD_size,okC_dcs,okC_lit,one_b,one_i,one_s, *];done));have hbw:Below w.heap.size w w1:=bel_keep hb1 (by first |assumption |exact two_bels _ _ _ |exact three_bels _ _ _ _ |exact ball _ _ |exact bel_drew (two_bels _ _ _) |exact bel_drew (three_bels _ _ _ _) |exact bel_drew (ball _ _) |exact bel_drew (by assumption) |exact bel_put (by assumption) (by omega) _);clear hb1) |(go_at_call 232;refine (conv_any n _).mono ?_;rintro e w1 ⟨rfl,hb1⟩;have:=rowD_call hb1 (show rowD _ (w.heap.size)=some (dcs d) by first |assumption |(simp [rowD_alloc,objRow_dcs,rowD_drew,n2,n3,m2,m3];done) |(simp [rowD_drew,rowD_alloc,n2,n3,m2,m3,objRow_dcs,objRow_lit,rowD_putc,rowD_other,putD_size,okC_dcs,okC_lit,one_b,one_i,one_s, *];done));have:=rowD_call hb1 (show rowD _ (w.heap.size+1)=some (dcs n) by first |assumption |(simp [rowD_alloc,objRow_dcs,rowD_drew,n2,n3,m2,m3];done) |(simp [rowD_drew,rowD_alloc,n2,n3,m2,m3,objRow_dcs,objRow_lit,rowD_putc,rowD_other,putD_size,okC_dcs,okC_lit,one_b,one_i,one_s, *];done));have:=is_call hb1 (show (rowD _ (w.heap.size+1+1)).isSome=true by first |assumption |(simp [rowD_alloc,objRow_dcs,objRow_lit,rowD_drew,n2,n3,m2,m3];done) |(simp [rowD_drew,rowD_alloc,n2,n3,m2,m3,objRow_dcs,objRow_lit,rowD_putc,rowD_other,putD_size,okC_dcs,okC_lit,one_b,one_i,one_s, *];done));have hbw:Below w.heap.size w w1:=bel_keep hb1 (by first |assumption |exact two_bels _ _ _ |exact three_bels _ _ _ _ |exact ball _ _ |exact bel_drew (two_bels _ _ _) |exact bel_drew (three_bels _ _ _ _) |exact bel_drew (ball _ _) |exact bel_drew (by assumption) |exact bel_put (by assumption) (by omega) _);clear hb1) |(go_at_call 124;with_reducible refine (repl_any n d _).mono ?_;rintro e w1 ⟨rfl,hb1⟩;have:=is_call hb1 (show (rowD _ (w.heap.size+1+1)).isSome=true by first |assumption |(simp [rowD_alloc,objRow_dcs,objRow_lit,rowD_drew,n2,n3,m2,m3];done) |(simp [rowD_drew,rowD_alloc,n2,n3,m2,m3,objRow_dcs,objRow_lit,rowD_putc,rowD_other,putD_size,okC_dcs,okC_lit,one_b,one_i,one_s, *];done));have hbw:Below w.heap.size w w1:=bel_keep hb1 (by first |assumption |exact bel_put (by assumption) (by omega) _);clear hb1) |(go_at_call 124;with_reducible refine (repl_any (convF n) d _).mono ?_;rintro e w1 ⟨rfl,hb1⟩;have:=is_call hb1 (show (rowD _ (w.heap.size+1+1)).isSome=true by first |assumption |(simp [rowD_alloc,objRow_dcs,objRow_lit,rowD_drew,n2,n3,m2,m3];done) |(simp [rowD_drew,rowD_alloc,n2,n3,m2,m3,objRow_dcs,objRow_lit,rowD_putc,rowD_other,putD_size,okC_dcs,okC_lit,one_b,one_i,one_s, *];done));have hbw:Below w.heap.size w w1:=bel_keep hb1 (by first |assumption |exact bel_put (by assumption) (by omega) _);clear hb1))
 all_goals
  refine bodyPost_ret (res2_rowD Tryz.results189 _ _ (w.heap.size+1+1) _ rfl (rowD_putc _ _ _ (by assumption) (by first |exact okC_dcs _ |exact okC_dcs zeroD))) rfl ⟨?_,bel_put (by first |assumption |exact bel_put (by assumption) (by omega) _) (by omega) _⟩
  first |(simp [appF, *];done) |(simp [appF, *];rfl)
end Go.Proofs.YtkadkmnolkkhgaaGreatDoor.Des

/-
 What arrays.Cut gives, as plain mathematics: the length at which it stops, what is left, and the law that a cut list is cut no more.
-/
namespace Go.Proofs.YtkadkmnolkkhgaaGreatDoor.Arrs
open Go Go.RowKit Nums Keys
def idxE (e:En):Option Int:=if e.kn=0 then idxF e.ks.data.toList else none
theorem idxE_bd {e:En} {i:Int} (h:idxE e=some i):0≤i∧i≤4294967294:=by
 unfold idxE at h
 split at h
 ·exact ⟨(idxF_some h).1,(idxF_some h).2.1⟩
 ·cases h
def stepF (t:Int) (e:En):Int:=match idxE e with |some i=>if e.d.c=true then t else if t < i+1 then i+1 else t |none=>t
def reachF (es:List En) (t:Int):Int:=es.foldl stepF t
def keepF (n:Int) (e:En):Bool:=match idxE e with |some i=>decide (i < n) |none=>true
def leftF (es:List En) (t:Int):List En:=es.filter (keepF (reachF es t))
theorem step_none {t:Int} {e:En} (h:idxE e=none):stepF t e=t:=by simp [stepF,h]
theorem step_free {t i:Int} {e:En} (h:idxE e=some i) (hc:e.d.c=true):stepF t e=t:=by simp [stepF,h,hc]
theorem step_up {t i:Int} {e:En} (h:idxE e=some i) (hc:e.d.c=false) (hl:t < i+1):stepF t e=i+1:=by simp [stepF,h,hc,hl]
theorem step_stay {t i:Int} {e:En} (h:idxE e=some i) (hc:e.d.c=false) (hl:i+1≤t):stepF t e=t:=by simp [stepF,h,hc,Int.not_lt.2 hl]
theorem keep_none {n:Int} {e:En} (h:idxE e=none):keepF n e=true:=by simp [keepF,h]
theorem keep_some {n i:Int} {e:En} (h:idxE e=some i):keepF n e=decide (i < n):=by simp [keepF,h]
theorem step_ge (t:Int) (e:En):t≤stepF t e:=by
 unfold stepF
 repeat' split
 all_goals omega
theorem step_le {t:Int} (e:En) {M:Int} (h:t≤M) (hM:4294967295≤M):stepF t e≤M:=by
 unfold stepF
 split
 ·rename_i i hi
  have:=idxE_bd hi
  repeat' split
  all_goals omega
 ·exact h
theorem reach_ge (es:List En):∀ t,t≤reachF es t:=by
 induction es with
 | nil=>intro t;exact Int.le_refl t
 | cons e r ih=>intro t;exact Int.le_trans (step_ge t e) (ih (stepF t e))
theorem reach_le (es:List En):∀ {t M:Int},t≤M→4294967295≤M→reachF es t≤M:=by
 induction es with
 | nil=>intro t M h _;exact h
 | cons e r ih=>intro t M h hM;exact ih (step_le e h hM) hM
theorem reach_take {es:List En} {j:Nat} {e:En} (h:es[j]? = some e) (t:Int):reachF (es.take (j+1)) t=stepF (reachF (es.take j) t) e:=by
 rw [List.take_add_one,h]
 simp [reachF]
theorem filter_take {es:List En} {j:Nat} {e:En} (h:es[j]? = some e) (p:En→Bool):(es.take (j+1)).filter p=(es.take j).filter p++(if p e=true then [e] else []):=by
 rw [List.take_add_one,h]
 cases hp:p e <;> simp [hp]
theorem filter_keep {es:List En} {j:Nat} {e:En} (h:es[j]? = some e) {p:En→Bool} (hp:p e=true):(es.take (j+1)).filter p=(es.take j).filter p++[e]:=by rw [filter_take h,if_pos hp]
theorem filter_drop {es:List En} {j:Nat} {e:En} (h:es[j]? = some e) {p:En→Bool} (hp:p e=false):(es.take (j+1)).filter p=(es.take j).filter p:=by rw [filter_take h,if_neg (by rw [hp];decide),List.append_nil]
theorem filter_le (p:En→Bool) (es:List En) (j:Nat):((es.take j).filter p).length≤es.length :=
 Nat.le_trans (List.length_filter_le _ _) (by rw [List.length_take];omega)
end Go.Proofs.YtkadkmnolkkhgaaGreatDoor.Arrs

/-
 arrays.reached: the length at which Cut stops.
-/
namespace Go.Proofs.YtkadkmnolkkhgaaGreatDoor.Arrs
open Go Go.RowKit Go.Maps Nums Keys
attribute [local go_sem ↓] to_ldE to_alE to_stE to_bsE
attribute [local irreducible] ecs zer
attribute [local go_sem] run_alE run_stE run_bsE ecs_0 ecs_1 ecs_10 ecs_19
def IdxIs (e:En) (n:Int) (ok:Bool):Prop:=∀ w,Lw w→Calls Tryz.prog 160 #[.agg #[.string e.ks,.int .i64 e.kn]] w fun x w'=>x = .returned (.tuple #[.int .i64 n,.bool ok])∧Below w.heap.size w w'
theorem IdxIs.at {e:En} {n:Int} {ok:Bool} (h:IdxIs e n ok) {w:World} (hL:Lw w):Calls Tryz.prog 160 #[.agg #[.string e.ks,.int .i64 e.kn]] w fun x w'=>x = .returned (.tuple #[.int .i64 n,.bool ok])∧Below w.heap.size w w':=h w hL
theorem index_en (e:En) (hk:e.ks.size≤281474976710656):IdxIs e ((idxE e).getD 0) (idxE e).isSome:=fun w hL=>by
 unfold idxE
 split
 ·rename_i h
  rw [h]
  exact index_str e.ks hk w hL
 ·rename_i h
  exact index_sym e.ks e.kn (by simpa using h) w
theorem idx_none {e:En} (hk:e.ks.size≤281474976710656) (h:idxE e=none):IdxIs e 0 false:=by have:=index_en e hk;rw [h] at this;exact this
theorem idx_some {e:En} {i:Int} (hk:e.ks.size≤281474976710656) (h:idxE e=some i):IdxIs e i true:=by have:=index_en e hk;rw [h] at this;exact this
theorem size_al {w:World} {B:Nat} (o:Obj) (h:B≤w.heap.size):B≤(w.alloc o).heap.size:=by simp;omega
theorem bel_next {B:Nat} {w w1 w2:World} {o:Obj} (h:Below B w w1) (hB:B≤w1.heap.size) (h2:Below (w1.alloc o).heap.size (w1.alloc o) w2):Below B w w2 :=
 (h.alloc hB o).trans (h2.mono (size_al o hB))
theorem new_at {w w1:World} {e:En} {t:TypeId} (hb:Below (w.alloc (.cells (ecs e) t)).heap.size (w.alloc (.cells (ecs e) t)) w1):enAt w1 ⟨w.heap.size,0,none⟩ e :=
 enAt_below (enAt_new w e t) hb (by simp)
theorem new_cell19 {w w1:World} {e:En} {t:TypeId} (hb:Below (w.alloc (.cells (ecs e) t)).heap.size (w.alloc (.cells (ecs e) t)) w1):w1.cell? ⟨w.heap.size,19,none⟩=some (.bool e.d.c):=by
 have h:=enAt_cell (o:=0) (new_at hb) 19 _ (ecs_19 e)
 simpa using h
set_option maxRecDepth 100000 in
set_option maxHeartbeats 2000000 in
theorem reached_any (ao:Option Addr) (cap:Nat) (es:List En) (w:World) (t0:Int) (hL:Lw w) (hlen:es.length≤1000000) (hc:EsAt ao es w) (hf:∀ e ∈ es,e.ks.size≤281474976710656) (h0:t0≤9223372036854775807) (h1:0≤t0) :
  Calls Tryz.prog 254 #[.slice ao es.length cap,.int .i64 t0] w fun x w'=>x = .returned (.int .i64 (reachF es t0))∧Below w.heap.size w w':=by
 have HC:=Lib.hid hc
 have HF:=Lib.hid hf
 have HL:=Lib.hid hL
 clear hc hf hL
 go_enter Tryz.func254,Tryz.ntmps254
 go_wp2
 go_loopw [1,11] (fun t i wr=>∃ j:Nat,j≤es.length∧i = .int .i64 j∧t = .int .i64 (reachF (es.take j) t0)∧Below w.heap.size w wr) (fun _ i _=>es.length - (intOf i).toNat)
 case atStart=>exact ⟨0,Nat.zero_le _,rfl,rfl,Below.refl _ _⟩
 case round =>
  obtain ⟨j,hj,rfl,rfl,hbx⟩:=hrel
  by_cases hlt:j < es.length
  ·obtain ⟨e,he⟩:∃ e,es[j]? = some e:=⟨es[j],by simp [hlt]⟩
   have hlt2:(j:Int) < es.length:=by omega
   obtain ⟨b,off,rfl,hb,hat⟩:=(HC.out.below hbx) j e he
   have l0:=run_ldE hat
   have hk:=HF.out e (List.mem_of_getElem? he)
   have hge:=reach_ge (es.take j) t0
   have hle:=reach_le (es.take j) (M:=9223372036854775807) h0 (by omega)
   obtain ⟨r,hr⟩:∃ r,reachF (es.take j) t0=r:=⟨_,rfl⟩
   have hnx:=reach_take he t0
   rw [hr] at hge hle hnx
   rw [hr]
   have HNX:=Lib.hid hnx
   have HE:=Lib.hid he
   have HB:=Lib.hid hb
   clear hr hnx he hat hb
   cases hi:idxE e with
   | none =>
    have hix:=idx_none hk hi
    have HI:=Lib.hid hi
    have HIX:=Lib.hid hix
    clear hi hix
    have L1:=HL.out.below (hbx.alloc hbx.size (.cells (ecs e) 36))
    go_wp2_with (go_at_call 160;refine (HIX.out.at L1).mono ?_;rintro x w2 ⟨rfl,hb2⟩;have hb3:=bel_next hbx hbx.size hb2;clear L1 hb2)
    go_roundw
    case rel=>exact ⟨j+1,by omega,by go_num,by rw [HNX.out,step_none HI.out],hb3⟩
    case measure=>simp [intOf];omega
   | some i =>
    have hix:=idx_some hk hi
    have hbi:=idxE_bd hi
    have HI:=Lib.hid hi
    have HIX:=Lib.hid hix
    clear hi hix
    have L1:=HL.out.below (hbx.alloc hbx.size (.cells (ecs e) 36))
    cases hc:e.d.c with
    | true =>
     go_wp2_with (go_at_call 160;refine (HIX.out.at L1).mono ?_;rintro x w2 ⟨rfl,hb2⟩;have hb3:=bel_next hbx hbx.size hb2;have c19:=new_cell19 hb2;rw [hc] at c19;clear L1 hb2)
     go_roundw
     case rel=>exact ⟨j+1,by omega,by go_num,by rw [HNX.out,step_free HI.out hc],hb3⟩
     case measure=>simp [intOf];omega
    | false =>
     by_cases hl:r < i+1
     ·go_wp2_with (go_at_call 160;refine (HIX.out.at L1).mono ?_;rintro x w2 ⟨rfl,hb2⟩;have hb3:=bel_next hbx hbx.size hb2;have c19:=new_cell19 hb2;rw [hc] at c19;clear L1 hb2)
      go_roundw
      case rel=>exact ⟨j+1,by omega,by go_num,by rw [HNX.out,step_up HI.out hc hl,Int.max_eq_right (by omega)],hb3⟩
      case measure=>simp [intOf];omega
     ·have hl2:i+1≤r:=by omega
      go_wp2_with (go_at_call 160;refine (HIX.out.at L1).mono ?_;rintro x w2 ⟨rfl,hb2⟩;have hb3:=bel_next hbx hbx.size hb2;have c19:=new_cell19 hb2;rw [hc] at c19;clear L1 hb2)
      go_roundw
      case rel=>exact ⟨j+1,by omega,by go_num,by rw [HNX.out,step_stay HI.out hc hl2,Int.max_eq_left (by omega)],hb3⟩
      case measure=>simp [intOf];omega
  ·obtain rfl:j=es.length:=by omega
   rw [List.take_length]
   clear hlt hj
   obtain ⟨r,hr⟩:∃ r,reachF es t0=r:=⟨_,rfl⟩
   rw [hr]
   go_wp2
   go_ret
   exact ⟨by rw [hr];rfl,hbx⟩
end Go.Proofs.YtkadkmnolkkhgaaGreatDoor.Arrs
