/-
 The law MopSets.
-/
import Derived.Test.YtkadkmnolkkhgaaGreatDoorMg42
import Derived.Test.YtkadkmnolkkhgaaGreatDoorMg10
set_option linter.unusedVariables false
set_option linter.unusedSimpArgs false
namespace Go.Proofs.YtkadkmnolkkhgaaGreatDoor.Mw
open Go Go.RowKit Go.Maps Go.Shelf Keys Hp Mo
open Rg
open Des (Vl Ds zeroV zeroD dcs dcs_size dcs_one accF datF rigF appF eqV whR eqD)
open Arrs (En ecs)
theorem run_bdAkv (w:World) (k:KV) (v:Vl):(Bd 52 #[(0,.agg (kcs k)),(1,.agg (vcs v))]).run Tryz.prog w = .ok (.agg (acs { zeroQ with k:=k,v:=v } nilS)) w:=run_build w _ _ _ (by kernel_rfl)
theorem run_bdWh (w:World) (v:Vl):(Bd 34 #[(0,.bool true),(3,.bool true),(4,.bool true),(5,.bool true),(6,.agg (vcs v)),(9,.bool true),(10,.bool true),(11,.bool true)]).run Tryz.prog w = .ok (.agg (dcs (wholeD v true true true))) w:=run_build w _ _ _ (by kernel_rfl)
theorem eqd_run {a b:Ds} {q:Bool} (h:eqD a b=q) (w:World):(binOp .eql 34 (.agg (dcs a)) (.agg (dcs b))).run Tryz.prog w = .ok (.bool q) w:=by
 subst h
 simp only [binOp]
 simp [Op.equal,Op.maxDepth,Des.run_eqD]
theorem eqd_same (a:Ds) (w:World):(binOp .eql 34 (.agg (dcs a)) (.agg (dcs a))).run Tryz.prog w = .ok (.bool true) w:=eqd_run (Des.eqD_iff.2 rfl) w
def StEnd (hs:Bool) (D:Ds) (was:Ds) (ob:Bool) (v:Vl) (R:Rr) (now:Ds) (ib:Bool):Prop :=
 (hs=true∧accF D=true)∨(hs=true∧accF D=false∧D.w=false∧R=ans false∧now=was∧ib=ob) ∨
 ((hs=false∨hs=true∧accF D=false∧D.w=true)∧R=ans true∧ib=true∧now=(if ob then { was with v:=v } else wholeD v true true true))
theorem st_all {ess:List (List En)} (h1:1≤ess.length) (h2:ess.length≤8) (hall:ess.all rightB=true) (k:KV) (v:Vl) (Xf:DoT→DoT) (R:Rr × Aw) (hR:doF Xf (fun _=>none) 30 9 0 { zeroQ with k:=k,v:=v,r:=objV 0 } (chA ess)=R) :
  StEnd (firstF ess k).isSome (fstD (firstF ess k)) (nowD (chA ess) 0 k) (ownF (chA ess) 0 k).isSome v R.1 (nowD R.2 0 k) (ownF R.2 0 k).isSome:=by
 have hall2:∀ es ∈ ess,rightB es=true:=fun es hm=>List.all_eq_true.1 hall es hm
 have hA:(chA ess).objs=plL ess ess.length:=rfl
 have hf:(chA ess).fuel=1000:=rfl
 have hd:(chA ess).depth=0:=rfl
 have hD:(chA ess).deep=30:=rfl
 obtain ⟨es,h0⟩:∃ es,ess[0]? = some es:=⟨ess[0],List.getElem?_eq_getElem (by omega)⟩
 have e:=pl_mset (X:=Xf) (C:=fun _=>none) (ess:=ess) h0 k v (fun e he=>ent_wh (hall2 es (List.mem_of_getElem? h0)) he) ess.length 0 30 (chA ess) hA (by omega) (by omega) (by rw [hd,hD];decide) (by omega) (by rw [hf];omega) (fun h=>by omega)
 rw [List.drop_zero] at e
 have e0:doF Xf (fun _=>none) 30 9 ((0:Nat):Int) { zeroQ with k:=k,v:=v,r:=objV 0 } (chA ess)=R:=hR
 rw [e0] at e
 have hown:ownF (chA ess) 0 k=find es k:=pl_own (A:=chA ess) (i:=0) hA h0 k
 have hnew:R.2.objs=(putF (chA ess) 0 k (newD (find es k) v)).objs→nowD R.2 0 k=(if (ownF (chA ess) 0 k).isSome then { nowD (chA ess) 0 k with v:=v } else wholeD v true true true)∧(ownF R.2 0 k).isSome=true:=fun h=>by
  have h3:=own_put (ess:=ess) hA h0 k (newD (find es k) v) h
  unfold nowD
  rw [h3,hown]
  refine ⟨?_,rfl⟩
  cases find es k <;> rfl
 unfold SetR at e
 cases ho:firstF ess k with
 | none =>
  rw [ho] at e
  obtain ⟨n1,n2⟩:=hnew e.2
  exact .inr (.inr ⟨.inl rfl,e.1,n2,n1⟩)
 | some d =>
  rw [ho] at e
  simp only at e
  cases ha:accF d with
  | true=>exact .inl ⟨rfl,ha⟩
  | false =>
   have e:=e ha
   cases hw:d.w with
   | true =>
    rw [hw,if_pos rfl] at e
    obtain ⟨n1,n2⟩:=hnew e.2
    exact .inr (.inr ⟨.inr ⟨rfl,ha,hw⟩,e.1,n2,n1⟩)
   | false =>
    rw [hw,if_neg (by simp)] at e
    refine .inr (.inl ⟨rfl,ha,hw,e.1,?_,?_⟩)
    ·unfold nowD
     rw [own_objs e.2]
    ·rw [own_objs e.2]
attribute [local go_sem ↓] ldR stR alR bxR bdR ldV stV alV bxV bdV ldA stA bxA bdA ldKy bxKy bdKy ldD stD alD bxDe bdD bxAct bdAct
attribute [local irreducible] rcs dcs ecs vcs acs kcs xcs tcs actC
attribute [local go_sem] run_bx run_alR run_stRg run_bdAk run_bdAkv run_bdAkvr run_bdAct run_bdO0 run_bdWh run_alV run_stVg run_alD run_stDg
section
set_option maxRecDepth 100000 in
set_option maxHeartbeats 4000000 in
theorem lawSets_out (ao:Option Addr) (cap:Nat) (n:Nat) (k:KV) (v:Vl) (w:World) (hLw:Nums.Lw w) (h:n < 1∨8 < n):Calls Tryz.prog 5 #[.slice ao n cap,.agg (kcs k),.agg (vcs v)] w fun e w'=>e = .returned (.bool true)∧Below w.heap.size w w':=by
 have b1:Below w.heap.size w ((w.alloc (.cells (kcs k) 32)).alloc (.cells (vcs v) 30)):=((Below.refl _ w).alloc (Nat.le_refl _) _).alloc (by simp) _
 have hal:=alive_any _ (hLw.below b1)
 have B1:=Lib.hid b1
 clear hLw b1
 by_cases h1:n < 1
 ·clear h
  have d1:decide (n < 1)=true:=by simp;omega
  have d1':decide ((n:Int) < 1)=true:=by simp;omega
  go_enter Tryz.func5,Tryz.ntmps5
  go_wp2_with (go_at_call 13;(with_reducible refine hal.mono ?_);rintro e w2 ⟨rfl,hb⟩)
  go_ret
  exact ⟨rfl,B1.out.trans (hb.mono B1.out.size)⟩
 ·have d1:decide (n < 1)=false:=by simp;omega
  have d1':decide ((n:Int) < 1)=false:=by simp;omega
  have d2:decide (8 < n)=true:=by simp;omega
  have d2':decide (8 < (n:Int))=true:=by simp;omega
  clear h h1
  go_enter Tryz.func5,Tryz.ntmps5
  go_wp2_with (go_at_call 13;(with_reducible refine hal.mono ?_);rintro e w2 ⟨rfl,hb⟩)
  go_ret
  exact ⟨rfl,B1.out.trans (hb.mono B1.out.size)⟩
end
structure StOA (wb hb:Nat) (k:KV) (D1:Ds) (b1:Bool) (w1:World) (L:Array Bool) (x13 x14 x61 x62 x63 x64 x65 x66 x67 x68 x69:Value) (W:World):Prop where
 m1:Below w1.heap.size w1 W
 h0:L.getD 0 false=true→x62=ptr wb
 h1:L.getD 1 false=true→x63=ptr wb
 h2:L.getD 2 false=true→x64 = .pointer (some ⟨wb,0,none⟩)
 h3:L.getD 3 false=true→x65=ptr hb
 h4:L.getD 4 false=true→x66 = .agg (kcs k)
 h5:L.getD 5 false=true→x67 = .tuple #[.agg (dcs D1),.bool b1]
 h6:L.getD 6 false=true→x61 = .tuple #[.agg (dcs D1),.bool b1]
 h7:L.getD 7 false=true→x68 = .agg (dcs D1)
 h8:L.getD 8 false=true→x69 = .bool b1
 h9:L.getD 9 false=true→∃ b,x13=ptr b∧w1.heap.size≤b∧∃ o,Blk W b (dcs o) 34
 h10:L.getD 10 false=true→∃ b,x13=ptr b∧w1.heap.size≤b∧Blk W b (dcs D1) 34
 h11:L.getD 11 false=true→x14 = .bool b1
structure StOB (wb hb:Nat) (k:KV) (D1:Ds) (b1:Bool) (w1:World) (L:Array Bool) (x16 x17 x76 x77 x78 x79 x80 x81 x82 x83 x84:Value) (W:World):Prop where
 m1:Below w1.heap.size w1 W
 h0:L.getD 0 false=true→x77=ptr wb
 h1:L.getD 1 false=true→x78=ptr wb
 h2:L.getD 2 false=true→x79 = .pointer (some ⟨wb,0,none⟩)
 h3:L.getD 3 false=true→x80=ptr hb
 h4:L.getD 4 false=true→x81 = .agg (kcs k)
 h5:L.getD 5 false=true→x82 = .tuple #[.agg (dcs D1),.bool b1]
 h6:L.getD 6 false=true→x76 = .tuple #[.agg (dcs D1),.bool b1]
 h7:L.getD 7 false=true→x83 = .agg (dcs D1)
 h8:L.getD 8 false=true→x84 = .bool b1
 h9:L.getD 9 false=true→∃ b,x16=ptr b∧w1.heap.size≤b∧∃ o,Blk W b (dcs o) 34
 h10:L.getD 10 false=true→∃ b,x16=ptr b∧w1.heap.size≤b∧Blk W b (dcs D1) 34
 h11:L.getD 11 false=true→x17 = .bool b1
section
set_option maxRecDepth 100000 in
set_option maxHeartbeats 8000000 in
theorem lawSets_main (ao:Option Addr) (cap:Nat) (ess:List (List En)) (k:KV) (v:Vl) (w:World) (hLw:Nums.Lw w) (h1:1≤ess.length) (h2:ess.length≤8) (hl:Lists w w.heap.size ao ess) (hf:∀ es ∈ ess,∀ e ∈ es,FitE e) (hk:k.1.size≤1048576) (hkf:Fine k) (hv:v.s.size≤1048576):Calls Tryz.prog 5 #[.slice ao ess.length cap,.agg (kcs k),.agg (vcs v)] w fun e w'=>e = .returned (.bool true)∧Below w.heap.size w w':=by
 have b1:Below w.heap.size w ((w.alloc (.cells (kcs k) 32)).alloc (.cells (vcs v) 30)):=((Below.refl _ w).alloc (Nat.le_refl _) _).alloc (by simp) _
 have x1:Blk ((w.alloc (.cells (kcs k) 32)).alloc (.cells (vcs v) 30)) w.heap.size (kcs k) 32:=(Blk.new w (kcs k) 32).old _
 have y1:Blk ((w.alloc (.cells (kcs k) 32)).alloc (.cells (vcs v) 30)) (w.heap.size+1) (vcs v) 30:=two_blk _ _ _ _ _
 have hal:=alive_any _ (hLw.below b1)
 have hmay:=fun w=>may_any { zeroQ with k:=k,v:=v } (by show k.1.size≤2000000;omega) (by show v.s.size≤2000000;omega) (Nat.zero_le _) (Nat.zero_le _) (Nat.zero_le _) (Nat.zero_le _) w
 have d1:decide ((ess.length:Int) < 1)=false:=by simp;omega
 have d1':decide (ess.length < 1)=false:=decide_eq_false (by omega)
 have d2:decide (8 < (ess.length:Int))=false:=by simp;omega
 have d2':decide (8 < ess.length)=false:=by simp;omega
 obtain ⟨Xf,hXf⟩:∃ Xf:DoT→DoT,Xf=fun D=>D:=⟨_,rfl⟩
 clear hXf
 have B1:=Lib.hid b1
 have X1:=Lib.hid x1
 have Y1:=Lib.hid y1
 have HLW:=Lib.hid hLw
 have HL:=Lib.hid hl
 have HF:=Lib.hid hf
 have H1:=Lib.hid h1
 have H2:=Lib.hid h2
 have HKF:=Lib.hid hkf
 clear b1 x1 y1 hLw hl hf h1 h2 hk hkf hv
 go_enter Tryz.func5,Tryz.ntmps5
 go_wp2_with (first
  | (go_at_call 13;(with_reducible refine hal.mono ?_);rintro e w2 ⟨rfl,hb2⟩;have x2:=X1.out.call hb2;have y2:=Y1.out.call hb2;have l2:=ldK0 x2;have m2:=run_ldVp y2;have X2:=Lib.hid x2;have Y2:=Lib.hid y2;have B2:=Lib.hid (B1.out.trans (hb2.mono B1.out.size));clear hb2 x2 y2 hal)
  | (go_at_call 18;(with_reducible refine (hmay _).mono ?_);rintro e w3 ⟨⟨B,rfl⟩,hb3⟩;have x3:=X2.out.call hb3;have y3:=Y2.out.call hb3;have l3:=ldK0 x3;have m3:=run_ldVp y3;have X3:=Lib.hid x3;have Y3:=Lib.hid y3;have B3:=Lib.hid (B2.out.trans (hb3.mono B2.out.size));clear hb3 x3 y3;refine Hid.out ?_))
 refine Lib.hid ?_
 clear hmay
 cases B
 ·go_wp2
  go_ret
  exact ⟨rfl,B3.out⟩
 have hpa:PlArg w3 ao ess rightB:=lists_arg ((HL.out.below B3.out).mono B3.out.size) (by have:=H2.out;omega) HF.out
 by_cases hall:ess.all rightB=true
 ·have hpl:=plain_yes (HLW.out.below B3.out) ao cap ess hpa H2.out hall
  obtain ⟨R,hR⟩:∃ R,doF Xf (fun _=>none) 30 9 0 { zeroQ with k:=k,v:=v,r:=objV 0 } (chA ess)=R:=⟨_,rfl⟩
  have hend:=st_all H1.out H2.out hall k v Xf R hR
  obtain ⟨D,hD⟩:∃ D,fstD (firstF ess k)=D:=⟨_,rfl⟩
  obtain ⟨hs,hh⟩:∃ b,(firstF ess k).isSome=b:=⟨_,rfl⟩
  obtain ⟨was,hwas⟩:∃ x,nowD (chA ess) 0 k=x:=⟨_,rfl⟩
  obtain ⟨ob,hob⟩:∃ x,(ownF (chA ess) 0 k).isSome=x:=⟨_,rfl⟩
  obtain ⟨now,hnow⟩:∃ x,nowD R.2 0 k=x:=⟨_,rfl⟩
  obtain ⟨ib,hib⟩:∃ x,(ownF R.2 0 k).isSome=x:=⟨_,rfl⟩
  rw [hD,hh,hwas,hob,hnow,hib] at hend
  have HR:=Lib.hid hR
  have HD:=Lib.hid hD
  have HH:=Lib.hid hh
  have HEND:=Lib.hid hend
  have HW:=Lib.hid (show nowD (chA ess) 0 k=was∧(ownF (chA ess) 0 k).isSome=ob from ⟨hwas,hob⟩)
  have HN:=Lib.hid (show nowD R.2 0 k=now∧(ownF R.2 0 k).isSome=ib from ⟨hnow,hib⟩)
  clear hpa hall hend hR hD hh hwas hob hnow hib
  go_wp2_with (first
   | (go_at_call 22;(with_reducible refine hpl.mono ?_);rintro e w4 ⟨wb,M4,rfl,h4⟩;have F4:=(Fm.start h4).new (vcs (objV 0)) 30;have l4:=ldK0 (X3.out.call F4.wis.bel);have hfi:=first_any ao cap ess k (by have:=H2.out;omega) _ ((HL.out.below (B3.out.trans (F4.wis.bel.mono B3.out.size))).mono (Nat.le_trans B3.out.size F4.wis.bel.size));rw [HD.out,HH.out] at hfi;have HF4:=Lib.hid F4;clear h4 F4 hpl)
   | (go_at_call 23;(with_reducible refine hfi.mono ?_);rintro e w5 ⟨rfl,hb5⟩;have F5:=(HF4.out.call hb5).new (dcs D) 34;have HF5:=Lib.hid F5;clear hb5 hfi F5;refine Hid.out ?_))
  refine Lib.hid ?_
  rcases HEND.out with ⟨rfl,ha⟩ |hrest
  ·have hac:=fun w=>Des.racc_any D w
   rw [ha] at hac
   have d5:=d_all HF5.out.l0.blk
   have HFI:=Lib.hid (B3.out.trans (HF5.out.wis.bel.mono B3.out.size))
   clear ha
   go_wp2_with (go_at_call 25;(with_reducible refine (hac _).mono ?_);rintro e w6 ⟨rfl,hb6⟩;have HFI:=Lib.hid (HFI.out.trans (hb6.mono HFI.out.size));clear hb6)
   go_ret
   exact ⟨rfl,HFI.out⟩
  ·have hna:hs=true→accF D=false:=by
    rcases hrest with ⟨rfl,h,-⟩ |⟨rfl |⟨rfl,h,-⟩,-⟩
    ·exact fun _=>h
    ·exact fun h=>by cases h
    ·exact fun _=>h
   have HREST:=Lib.hid hrest
   have d5:=d_all HF5.out.l0.blk
   have HNA:=Lib.hid hna
   clear hna hrest
   go_upto_region 9 with fail
   go_cut [60] from 56 to 60 (fun s wx=>s = .bool false∧Fm (chX w3 wb) 100000 M4 w4 M4 wx (chA ess) [⟨w5.heap.size,dcs D,34⟩,⟨w4.heap.size,vcs (objV 0),30⟩] [] [])
   case first =>
    cases hs
    ·go_wp2_with fail
     go_meet
     exact ⟨rfl,HF5.out⟩
    ·have hac:=fun w=>Des.racc_any D w
     rw [HNA.out rfl] at hac
     go_wp2_with (go_at_call 25;(with_reducible refine (hac _).mono ?_);rintro e w6 ⟨rfl,hb6⟩;have F6:=HF5.out.call hb6;have HF6:=Lib.hid F6;clear hb6 F6)
     go_meet
     exact ⟨rfl,HF6.out⟩
   case rest =>
   obtain ⟨rfl,F6⟩:=hcut
   have HF6:=Lib.hid F6
   clear F6 d5
   go_upto_region 11 with fail
   have hwis:=HF6.out.drew.wis
   have hkb:Blk wc.drew w.heap.size (kcs k) 32:=X3.out.call hwis.bel
   have HOWN:Hid (∀ {w':World},WIs (chX w3 wb) 100000 M4 w' (chA ess)→Calls Tryz.prog 26 #[ptr M4.hb,.int .i64 0,.agg (kcs k)] w' fun e w2=>e = .returned (.tuple #[.agg (dcs was),.bool ob])∧Below w'.heap.size w' w2):=Lib.hid fun h'=>by rw [← HW.out.1,← HW.out.2];exact wOwn h' 0 k HKF.out
   refine region_inv (by kernel_rfl) (fun L a W=>∃ x13 x14 x61 x62 x63 x64 x65 x66 x67 x68 x69:Value,a={ tmps:=#[.slice ao ess.length cap,.agg (kcs k),.agg (vcs v),undef,ptr w.heap.size,ptr (w.heap.size+1),.bool false,.bool true,ptr wb,.bool true,ptr w4.heap.size,ptr w5.heap.size,.bool hs,x13,x14,undef,undef,undef,undef,.bool true,.bool true,.bool false,.bool false,.slice ao ess.length cap,.int .i64 (ess.length:Int),.bool false,.bool false,.bool false,.slice ao ess.length cap,.int .i64 (ess.length:Int),.bool false,.bool false,.bool false,.agg (kcs k),.agg (vcs v),.agg (acs { zeroQ with k:=k,v:=v } nilS),.agg (actC { zeroQ with k:=k,v:=v }),.bool true,.bool false,.bool false,undef,.tuple #[ptr wb,.bool true],.slice ao ess.length cap,.agg #[.int .i64 1000,.int .i64 60,.int .i64 30],.tuple #[ptr wb,.bool true],ptr wb,.bool true,.bool true,.bool false,.agg (vcs (objV 0)),.tuple #[.agg (dcs D),.bool hs],.slice ao ess.length cap,.agg (kcs k),.tuple #[.agg (dcs D),.bool hs],.agg (dcs D),.bool hs,u56,u57,u58,u59,.bool false,x61,x62,x63,x64,x65,x66,x67,x68,x69,undef,undef,undef,undef,undef,undef,undef,undef,undef,undef,undef,undef,undef,undef,undef,undef,undef,undef,undef,undef,undef,undef,undef,undef,undef,undef,undef,undef,undef,undef,undef,undef,undef,undef,undef,undef,undef,undef,undef,undef,undef,undef,undef,undef,undef,undef,undef,undef,undef,undef,undef,undef,undef,undef,undef,undef,undef,undef,undef,undef],defers:=[] }∧StOA wb M4.hb k was ob wc.drew L x13 x14 x61 x62 x63 x64 x65 x66 x67 x68 x69 W) (by kernel_rfl) ?start1 ?step1 ?done1
   case start1=>exact ⟨_,_,_,_,_,_,_,_,_,_,_,rfl,⟨Below.refl _ _,fun h=>by simp [Array.getD_eq_getD_getElem?] at h,fun h=>by simp [Array.getD_eq_getD_getElem?] at h,fun h=>by simp [Array.getD_eq_getD_getElem?] at h,fun h=>by simp [Array.getD_eq_getD_getElem?] at h,fun h=>by simp [Array.getD_eq_getD_getElem?] at h,fun h=>by simp [Array.getD_eq_getD_getElem?] at h,fun h=>by simp [Array.getD_eq_getD_getElem?] at h,fun h=>by simp [Array.getD_eq_getD_getElem?] at h,fun h=>by simp [Array.getD_eq_getD_getElem?] at h,fun h=>by simp [Array.getD_eq_getD_getElem?] at h,fun h=>by simp [Array.getD_eq_getD_getElem?] at h,fun h=>by simp [Array.getD_eq_getD_getElem?] at h⟩⟩
   case step1 =>
    intro i L a W hi hdep hL hs hcl hI
    have hi2:i < 12:=by simpa using hi
    obtain ⟨x13,x14,x61,x62,x63,x64,x65,x66,x67,x68,x69,rfl,H⟩:=hI
    have ol:∀ j,i ≠ j→(L.setIfInBounds i true).getD j false=true→L.getD j false=true:=fun j hj h=>by rwa [getD_set hj] at h
    rcases (by omega:i=0∨i=1∨i=2∨i=3∨i=4∨i=5∨i=6∨i=7∨i=8∨i=9∨i=10∨i=11) with rfl |rfl |rfl |rfl |rfl |rfl |rfl |rfl |rfl |rfl |rfl |rfl
    ·clear hi hi2
     exact step_run (i:=0) (w':=W) (v:=ptr wb) rfl rfl (by simp [execOp,Act.eval,go_sem]) ⟨_,_,_,_,_,_,_,_,_,_,_,rfl,⟨(H.m1),(fun _=>rfl),(H.h1∘ol 1 nofun),(H.h2∘ol 2 nofun),(H.h3∘ol 3 nofun),(H.h4∘ol 4 nofun),(H.h5∘ol 5 nofun),(H.h6∘ol 6 nofun),(H.h7∘ol 7 nofun),(H.h8∘ol 8 nofun),(H.h9∘ol 9 nofun),(H.h10∘ol 10 nofun),(H.h11∘ol 11 nofun)⟩⟩
    ·clear hi hi2
     have e62:=H.h0 (hdep 0 (memOf (by kernel_rfl)))
     subst e62
     exact step_run (i:=1) (w':=W) (v:=ptr wb) rfl rfl (by simp [execOp,Act.eval,go_sem]) ⟨_,_,_,_,_,_,_,_,_,_,_,rfl,⟨(H.m1),(H.h0∘ol 0 nofun),(fun _=>rfl),(H.h2∘ol 2 nofun),(H.h3∘ol 3 nofun),(H.h4∘ol 4 nofun),(H.h5∘ol 5 nofun),(H.h6∘ol 6 nofun),(H.h7∘ol 7 nofun),(H.h8∘ol 8 nofun),(H.h9∘ol 9 nofun),(H.h10∘ol 10 nofun),(H.h11∘ol 11 nofun)⟩⟩
    ·clear hi hi2
     have e63:=H.h1 (hdep 1 (memOf (by kernel_rfl)))
     subst e63
     exact step_run (i:=2) (w':=W) (v:=.pointer (some ⟨wb,0,none⟩)) rfl rfl (by simp [execOp,Act.eval,go_sem]) ⟨_,_,_,_,_,_,_,_,_,_,_,rfl,⟨(H.m1),(H.h0∘ol 0 nofun),(H.h1∘ol 1 nofun),(fun _=>rfl),(H.h3∘ol 3 nofun),(H.h4∘ol 4 nofun),(H.h5∘ol 5 nofun),(H.h6∘ol 6 nofun),(H.h7∘ol 7 nofun),(H.h8∘ol 8 nofun),(H.h9∘ol 9 nofun),(H.h10∘ol 10 nofun),(H.h11∘ol 11 nofun)⟩⟩
    ·clear hi hi2
     have e64:=H.h2 (hdep 2 (memOf (by kernel_rfl)))
     subst e64
     have cq:W.cell? ⟨wb,0,none⟩=some (ptr M4.hb):=(hwis.call H.m1).wblk.cell 0
     exact step_run (i:=3) (w':=W) (v:=ptr M4.hb) rfl rfl (by simp [execOp,Act.eval,go_sem,cq]) ⟨_,_,_,_,_,_,_,_,_,_,_,rfl,⟨(H.m1),(H.h0∘ol 0 nofun),(H.h1∘ol 1 nofun),(H.h2∘ol 2 nofun),(fun _=>rfl),(H.h4∘ol 4 nofun),(H.h5∘ol 5 nofun),(H.h6∘ol 6 nofun),(H.h7∘ol 7 nofun),(H.h8∘ol 8 nofun),(H.h9∘ol 9 nofun),(H.h10∘ol 10 nofun),(H.h11∘ol 11 nofun)⟩⟩
    ·clear hi hi2
     have cq:=ldK0 (hkb.call H.m1)
     exact step_run (i:=4) (w':=W) (v:=.agg (kcs k)) rfl rfl (by simp [execOp,Act.eval,go_sem,cq]) ⟨_,_,_,_,_,_,_,_,_,_,_,rfl,⟨(H.m1),(H.h0∘ol 0 nofun),(H.h1∘ol 1 nofun),(H.h2∘ol 2 nofun),(H.h3∘ol 3 nofun),(fun _=>rfl),(H.h5∘ol 5 nofun),(H.h6∘ol 6 nofun),(H.h7∘ol 7 nofun),(H.h8∘ol 8 nofun),(H.h9∘ol 9 nofun),(H.h10∘ol 10 nofun),(H.h11∘ol 11 nofun)⟩⟩
    ·clear hi hi2
     have e65:=H.h3 (hdep 3 (memOf (by kernel_rfl)))
     have e66:=H.h4 (hdep 4 (memOf (by kernel_rfl)))
     subst e65
     subst e66
     refine step_call (i:=5) (f:=26) (args:=#[ptr M4.hb,.int .i64 0,.agg (kcs k)]) rfl rfl (by simp [execOp,Act.eval,go_sem]) (HOWN.out (hwis.call H.m1)) ?_
     rintro e W2 ⟨rfl,hb⟩
     exact ⟨_,rfl,⟨_,_,_,_,_,_,_,_,_,_,_,rfl,⟨(H.m1.trans (hb.mono H.m1.size)),(H.h0∘ol 0 nofun),(H.h1∘ol 1 nofun),(H.h2∘ol 2 nofun),(H.h3∘ol 3 nofun),(H.h4∘ol 4 nofun),(fun _=>rfl),(H.h6∘ol 6 nofun),(H.h7∘ol 7 nofun),(H.h8∘ol 8 nofun),(fun h=>let ⟨g,q1,q2,o,q3⟩:=H.h9 (ol 9 (by decide) h);⟨g,q1,q2,o,q3.call hb⟩),(fun h=>let ⟨g,q1,q2,q3⟩:=H.h10 (ol 10 (by decide) h);⟨g,q1,q2,q3.call hb⟩),(H.h11∘ol 11 nofun)⟩⟩⟩
    ·clear hi hi2
     have e67:=H.h5 (hdep 5 (memOf (by kernel_rfl)))
     subst e67
     exact step_run (i:=6) (w':=W) (v:=.tuple #[.agg (dcs was),.bool ob]) rfl rfl (by simp [execOp,Act.eval,go_sem]) ⟨_,_,_,_,_,_,_,_,_,_,_,rfl,⟨(H.m1),(H.h0∘ol 0 nofun),(H.h1∘ol 1 nofun),(H.h2∘ol 2 nofun),(H.h3∘ol 3 nofun),(H.h4∘ol 4 nofun),(H.h5∘ol 5 nofun),(fun _=>rfl),(H.h7∘ol 7 nofun),(H.h8∘ol 8 nofun),(H.h9∘ol 9 nofun),(H.h10∘ol 10 nofun),(H.h11∘ol 11 nofun)⟩⟩
    ·clear hi hi2
     have e61:=H.h6 (hdep 6 (memOf (by kernel_rfl)))
     subst e61
     exact step_run (i:=7) (w':=W) (v:=.agg (dcs was)) rfl rfl (by simp [execOp,Act.eval,go_sem]) ⟨_,_,_,_,_,_,_,_,_,_,_,rfl,⟨(H.m1),(H.h0∘ol 0 nofun),(H.h1∘ol 1 nofun),(H.h2∘ol 2 nofun),(H.h3∘ol 3 nofun),(H.h4∘ol 4 nofun),(H.h5∘ol 5 nofun),(H.h6∘ol 6 nofun),(fun _=>rfl),(H.h8∘ol 8 nofun),(H.h9∘ol 9 nofun),(H.h10∘ol 10 nofun),(H.h11∘ol 11 nofun)⟩⟩
    ·clear hi hi2
     have e61:=H.h6 (hdep 6 (memOf (by kernel_rfl)))
     subst e61
     exact step_run (i:=8) (w':=W) (v:=.bool ob) rfl rfl (by simp [execOp,Act.eval,go_sem]) ⟨_,_,_,_,_,_,_,_,_,_,_,rfl,⟨(H.m1),(H.h0∘ol 0 nofun),(H.h1∘ol 1 nofun),(H.h2∘ol 2 nofun),(H.h3∘ol 3 nofun),(H.h4∘ol 4 nofun),(H.h5∘ol 5 nofun),(H.h6∘ol 6 nofun),(H.h7∘ol 7 nofun),(fun _=>rfl),(H.h9∘ol 9 nofun),(H.h10∘ol 10 nofun),(H.h11∘ol 11 nofun)⟩⟩
    ·clear hi hi2
     have hb:Below W.heap.size W (W.alloc (.cells (dcs zeroD) 34)):=(Below.refl _ W).alloc (Nat.le_refl _) _
     exact step_run (i:=9) (w':=(W.alloc (.cells (dcs zeroD) 34))) (v:=ptr W.heap.size) rfl rfl (by simp [execOp,Act.eval,go_sem]) ⟨_,_,_,_,_,_,_,_,_,_,_,rfl,⟨(H.m1.trans (hb.mono H.m1.size)),(H.h0∘ol 0 nofun),(H.h1∘ol 1 nofun),(H.h2∘ol 2 nofun),(H.h3∘ol 3 nofun),(H.h4∘ol 4 nofun),(H.h5∘ol 5 nofun),(H.h6∘ol 6 nofun),(H.h7∘ol 7 nofun),(H.h8∘ol 8 nofun),(fun _=>⟨_,rfl,H.m1.size,_,Blk.new W _ _⟩),(fun h=>(not_yet hL (hcl 10 (by simp) (ol 10 (by decide) h) 9 (memOf (by kernel_rfl)))).elim),(H.h11∘ol 11 nofun)⟩⟩
    ·clear hi hi2
     have e68:=H.h7 (hdep 7 (memOf (by kernel_rfl)))
     have e13:=H.h9 (hdep 9 (memOf (by kernel_rfl)))
     subst e68
     obtain ⟨b,rfl,hb1,o,hb2⟩:=e13
     have sv:=res_st (d:=was) hb2
     exact step_sk (i:=10) (w':=(W.setRow b (dcs was))) rfl rfl (by simp [execOp,Act.eval,go_sem,sv]) ⟨_,_,_,_,_,_,_,_,_,_,_,rfl,⟨(below_rowW H.m1 _ hb1),(H.h0∘ol 0 nofun),(H.h1∘ol 1 nofun),(H.h2∘ol 2 nofun),(H.h3∘ol 3 nofun),(H.h4∘ol 4 nofun),(H.h5∘ol 5 nofun),(H.h6∘ol 6 nofun),(H.h7∘ol 7 nofun),(H.h8∘ol 8 nofun),(fun _=>⟨b,rfl,hb1,_,hb2.row _⟩),(fun _=>⟨b,rfl,hb1,hb2.row _⟩),(H.h11∘ol 11 nofun)⟩⟩
    ·clear hi hi2
     have e69:=H.h8 (hdep 8 (memOf (by kernel_rfl)))
     subst e69
     exact step_run (i:=11) (w':=W) (v:=.bool ob) rfl rfl (by simp [execOp,Act.eval,go_sem]) ⟨_,_,_,_,_,_,_,_,_,_,_,rfl,⟨(H.m1),(H.h0∘ol 0 nofun),(H.h1∘ol 1 nofun),(H.h2∘ol 2 nofun),(H.h3∘ol 3 nofun),(H.h4∘ol 4 nofun),(H.h5∘ol 5 nofun),(H.h6∘ol 6 nofun),(H.h7∘ol 7 nofun),(H.h8∘ol 8 nofun),(H.h9∘ol 9 nofun),(H.h10∘ol 10 nofun),(fun _=>rfl)⟩⟩
   case done1 =>
    rintro L a W hall ⟨x13,x14,x61,x62,x63,x64,x65,x66,x67,x68,x69,rfl,H⟩
    have e0:=H.h0 (hall 0 (by simp))
    have e1:=H.h1 (hall 1 (by simp))
    have e2:=H.h2 (hall 2 (by simp))
    have e3:=H.h3 (hall 3 (by simp))
    have e4:=H.h4 (hall 4 (by simp))
    have e5:=H.h5 (hall 5 (by simp))
    have e6:=H.h6 (hall 6 (by simp))
    have e7:=H.h7 (hall 7 (by simp))
    have e8:=H.h8 (hall 8 (by simp))
    have e11:=H.h11 (hall 11 (by simp))
    obtain ⟨b13,e10,hb13,B13⟩:=H.h10 (hall 10 (by simp))
    have m1:=H.m1
    clear H hall
    subst e0 e1 e2 e3 e4 e5 e6 e7 e8 e10 e11
    have F7:=HF6.out.drew.growW m1 B13 hb13
    obtain ⟨w7,hw7⟩:∃ u,u=W:=⟨_,rfl⟩
    subst hw7
    have l7:=ldK0 (X3.out.call F7.wis.bel)
    have m7:=run_ldVp (Y3.out.call F7.wis.bel)
    have o7:=run_ldVp F7.l2.blk
    have hdo:=ch_do (c:=99999) (A:=chA ess) Xf 9 { zeroQ with k:=k,v:=v,r:=objV 0 } HKF.out rfl F7.wis
    rw [HR.out] at hdo
    have HF7:=Lib.hid F7
    clear F7 m1 B13 hb13 hwis hkb HOWN HF6
    go_upto_region 13 with (go_at_call 19;(with_reducible refine hdo.mono ?_);rintro e w8 ⟨M8,kv8,rfl,hks,hM,hn⟩;have hg8:=Rr.good _ hks;have F8:=((HF7.out.post hks hM hn).new (rcs (R.1.mem kv8)) 57);have HF8:=Lib.hid F8;clear hks hM hn F8 hdo)
    have hwis:=HF8.out.drew.wis
    have hkb:Blk (w8.alloc (.cells (rcs (R.1.mem kv8)) 57)).drew w.heap.size (kcs k) 32:=X3.out.call hwis.bel
    have HOWN:Hid (∀ {w':World},WIs (chX w3 wb) (cr R.1 99999) M8 w' R.2→Calls Tryz.prog 26 #[ptr M8.hb,.int .i64 0,.agg (kcs k)] w' fun e w2=>e = .returned (.tuple #[.agg (dcs now),.bool ib])∧Below w'.heap.size w' w2):=Lib.hid fun h'=>by rw [← HN.out.1,← HN.out.2];exact wOwn h' 0 k HKF.out
    refine region_inv (by kernel_rfl) (fun L a W=>∃ x16 x17 x76 x77 x78 x79 x80 x81 x82 x83 x84:Value,a={ tmps:=#[.slice ao ess.length cap,.agg (kcs k),.agg (vcs v),undef,ptr w.heap.size,ptr (w.heap.size+1),.bool false,.bool true,ptr wb,.bool true,ptr w4.heap.size,ptr w5.heap.size,.bool hs,ptr b13,.bool ob,ptr w8.heap.size,x16,x17,undef,.bool true,.bool true,.bool false,.bool false,.slice ao ess.length cap,.int .i64 (ess.length:Int),.bool false,.bool false,.bool false,.slice ao ess.length cap,.int .i64 (ess.length:Int),.bool false,.bool false,.bool false,.agg (kcs k),.agg (vcs v),.agg (acs { zeroQ with k:=k,v:=v } nilS),.agg (actC { zeroQ with k:=k,v:=v }),.bool true,.bool false,.bool false,undef,.tuple #[ptr wb,.bool true],.slice ao ess.length cap,.agg #[.int .i64 1000,.int .i64 60,.int .i64 30],.tuple #[ptr wb,.bool true],ptr wb,.bool true,.bool true,.bool false,.agg (vcs (objV 0)),.tuple #[.agg (dcs D),.bool hs],.slice ao ess.length cap,.agg (kcs k),.tuple #[.agg (dcs D),.bool hs],.agg (dcs D),.bool hs,u56,u57,u58,u59,.bool false,.tuple #[.agg (dcs was),.bool ob],ptr wb,ptr wb,.pointer (some ⟨wb,0,none⟩),ptr M4.hb,.agg (kcs k),.tuple #[.agg (dcs was),.bool ob],.agg (dcs was),.bool ob,ptr wb,.agg (kcs k),.agg (vcs v),.agg (vcs (objV 0)),.agg (acs { zeroQ with k:=k,v:=v,r:=objV 0 } nilS),.agg (rcs (R.1.mem kv8)),x76,x77,x78,x79,x80,x81,x82,x83,x84,undef,undef,undef,undef,undef,undef,undef,undef,undef,undef,undef,undef,undef,undef,undef,undef,undef,undef,undef,undef,undef,undef,undef,undef,undef,undef,undef,undef,undef,undef,undef,undef,undef,undef,undef,undef,undef,undef,undef,undef,undef,undef,undef,undef,undef],defers:=[] }∧StOB wb M8.hb k now ib (w8.alloc (.cells (rcs (R.1.mem kv8)) 57)).drew L x16 x17 x76 x77 x78 x79 x80 x81 x82 x83 x84 W) (by kernel_rfl) ?start4 ?step4 ?done4
    case start4=>exact ⟨_,_,_,_,_,_,_,_,_,_,_,rfl,⟨Below.refl _ _,fun h=>by simp [Array.getD_eq_getD_getElem?] at h,fun h=>by simp [Array.getD_eq_getD_getElem?] at h,fun h=>by simp [Array.getD_eq_getD_getElem?] at h,fun h=>by simp [Array.getD_eq_getD_getElem?] at h,fun h=>by simp [Array.getD_eq_getD_getElem?] at h,fun h=>by simp [Array.getD_eq_getD_getElem?] at h,fun h=>by simp [Array.getD_eq_getD_getElem?] at h,fun h=>by simp [Array.getD_eq_getD_getElem?] at h,fun h=>by simp [Array.getD_eq_getD_getElem?] at h,fun h=>by simp [Array.getD_eq_getD_getElem?] at h,fun h=>by simp [Array.getD_eq_getD_getElem?] at h,fun h=>by simp [Array.getD_eq_getD_getElem?] at h⟩⟩
    case step4 =>
     intro i L a W hi hdep hL hs hcl hI
     have hi2:i < 12:=by simpa using hi
     obtain ⟨x16,x17,x76,x77,x78,x79,x80,x81,x82,x83,x84,rfl,H⟩:=hI
     have ol:∀ j,i ≠ j→(L.setIfInBounds i true).getD j false=true→L.getD j false=true:=fun j hj h=>by rwa [getD_set hj] at h
     rcases (by omega:i=0∨i=1∨i=2∨i=3∨i=4∨i=5∨i=6∨i=7∨i=8∨i=9∨i=10∨i=11) with rfl |rfl |rfl |rfl |rfl |rfl |rfl |rfl |rfl |rfl |rfl |rfl
     ·clear hi hi2
      exact step_run (i:=0) (w':=W) (v:=ptr wb) rfl rfl (by simp [execOp,Act.eval,go_sem]) ⟨_,_,_,_,_,_,_,_,_,_,_,rfl,⟨(H.m1),(fun _=>rfl),(H.h1∘ol 1 nofun),(H.h2∘ol 2 nofun),(H.h3∘ol 3 nofun),(H.h4∘ol 4 nofun),(H.h5∘ol 5 nofun),(H.h6∘ol 6 nofun),(H.h7∘ol 7 nofun),(H.h8∘ol 8 nofun),(H.h9∘ol 9 nofun),(H.h10∘ol 10 nofun),(H.h11∘ol 11 nofun)⟩⟩
     ·clear hi hi2
      have e77:=H.h0 (hdep 0 (memOf (by kernel_rfl)))
      subst e77
      exact step_run (i:=1) (w':=W) (v:=ptr wb) rfl rfl (by simp [execOp,Act.eval,go_sem]) ⟨_,_,_,_,_,_,_,_,_,_,_,rfl,⟨(H.m1),(H.h0∘ol 0 nofun),(fun _=>rfl),(H.h2∘ol 2 nofun),(H.h3∘ol 3 nofun),(H.h4∘ol 4 nofun),(H.h5∘ol 5 nofun),(H.h6∘ol 6 nofun),(H.h7∘ol 7 nofun),(H.h8∘ol 8 nofun),(H.h9∘ol 9 nofun),(H.h10∘ol 10 nofun),(H.h11∘ol 11 nofun)⟩⟩
     ·clear hi hi2
      have e78:=H.h1 (hdep 1 (memOf (by kernel_rfl)))
      subst e78
      exact step_run (i:=2) (w':=W) (v:=.pointer (some ⟨wb,0,none⟩)) rfl rfl (by simp [execOp,Act.eval,go_sem]) ⟨_,_,_,_,_,_,_,_,_,_,_,rfl,⟨(H.m1),(H.h0∘ol 0 nofun),(H.h1∘ol 1 nofun),(fun _=>rfl),(H.h3∘ol 3 nofun),(H.h4∘ol 4 nofun),(H.h5∘ol 5 nofun),(H.h6∘ol 6 nofun),(H.h7∘ol 7 nofun),(H.h8∘ol 8 nofun),(H.h9∘ol 9 nofun),(H.h10∘ol 10 nofun),(H.h11∘ol 11 nofun)⟩⟩
     ·clear hi hi2
      have e79:=H.h2 (hdep 2 (memOf (by kernel_rfl)))
      subst e79
      have cq:W.cell? ⟨wb,0,none⟩=some (ptr M8.hb):=(hwis.call H.m1).wblk.cell 0
      exact step_run (i:=3) (w':=W) (v:=ptr M8.hb) rfl rfl (by simp [execOp,Act.eval,go_sem,cq]) ⟨_,_,_,_,_,_,_,_,_,_,_,rfl,⟨(H.m1),(H.h0∘ol 0 nofun),(H.h1∘ol 1 nofun),(H.h2∘ol 2 nofun),(fun _=>rfl),(H.h4∘ol 4 nofun),(H.h5∘ol 5 nofun),(H.h6∘ol 6 nofun),(H.h7∘ol 7 nofun),(H.h8∘ol 8 nofun),(H.h9∘ol 9 nofun),(H.h10∘ol 10 nofun),(H.h11∘ol 11 nofun)⟩⟩
     ·clear hi hi2
      have cq:=ldK0 (hkb.call H.m1)
      exact step_run (i:=4) (w':=W) (v:=.agg (kcs k)) rfl rfl (by simp [execOp,Act.eval,go_sem,cq]) ⟨_,_,_,_,_,_,_,_,_,_,_,rfl,⟨(H.m1),(H.h0∘ol 0 nofun),(H.h1∘ol 1 nofun),(H.h2∘ol 2 nofun),(H.h3∘ol 3 nofun),(fun _=>rfl),(H.h5∘ol 5 nofun),(H.h6∘ol 6 nofun),(H.h7∘ol 7 nofun),(H.h8∘ol 8 nofun),(H.h9∘ol 9 nofun),(H.h10∘ol 10 nofun),(H.h11∘ol 11 nofun)⟩⟩
     ·clear hi hi2
      have e80:=H.h3 (hdep 3 (memOf (by kernel_rfl)))
      have e81:=H.h4 (hdep 4 (memOf (by kernel_rfl)))
      subst e80
      subst e81
      refine step_call (i:=5) (f:=26) (args:=#[ptr M8.hb,.int .i64 0,.agg (kcs k)]) rfl rfl (by simp [execOp,Act.eval,go_sem]) (HOWN.out (hwis.call H.m1)) ?_
      rintro e W2 ⟨rfl,hb⟩
      exact ⟨_,rfl,⟨_,_,_,_,_,_,_,_,_,_,_,rfl,⟨(H.m1.trans (hb.mono H.m1.size)),(H.h0∘ol 0 nofun),(H.h1∘ol 1 nofun),(H.h2∘ol 2 nofun),(H.h3∘ol 3 nofun),(H.h4∘ol 4 nofun),(fun _=>rfl),(H.h6∘ol 6 nofun),(H.h7∘ol 7 nofun),(H.h8∘ol 8 nofun),(fun h=>let ⟨g,q1,q2,o,q3⟩:=H.h9 (ol 9 (by decide) h);⟨g,q1,q2,o,q3.call hb⟩),(fun h=>let ⟨g,q1,q2,q3⟩:=H.h10 (ol 10 (by decide) h);⟨g,q1,q2,q3.call hb⟩),(H.h11∘ol 11 nofun)⟩⟩⟩
     ·clear hi hi2
      have e82:=H.h5 (hdep 5 (memOf (by kernel_rfl)))
      subst e82
      exact step_run (i:=6) (w':=W) (v:=.tuple #[.agg (dcs now),.bool ib]) rfl rfl (by simp [execOp,Act.eval,go_sem]) ⟨_,_,_,_,_,_,_,_,_,_,_,rfl,⟨(H.m1),(H.h0∘ol 0 nofun),(H.h1∘ol 1 nofun),(H.h2∘ol 2 nofun),(H.h3∘ol 3 nofun),(H.h4∘ol 4 nofun),(H.h5∘ol 5 nofun),(fun _=>rfl),(H.h7∘ol 7 nofun),(H.h8∘ol 8 nofun),(H.h9∘ol 9 nofun),(H.h10∘ol 10 nofun),(H.h11∘ol 11 nofun)⟩⟩
     ·clear hi hi2
      have e76:=H.h6 (hdep 6 (memOf (by kernel_rfl)))
      subst e76
      exact step_run (i:=7) (w':=W) (v:=.agg (dcs now)) rfl rfl (by simp [execOp,Act.eval,go_sem]) ⟨_,_,_,_,_,_,_,_,_,_,_,rfl,⟨(H.m1),(H.h0∘ol 0 nofun),(H.h1∘ol 1 nofun),(H.h2∘ol 2 nofun),(H.h3∘ol 3 nofun),(H.h4∘ol 4 nofun),(H.h5∘ol 5 nofun),(H.h6∘ol 6 nofun),(fun _=>rfl),(H.h8∘ol 8 nofun),(H.h9∘ol 9 nofun),(H.h10∘ol 10 nofun),(H.h11∘ol 11 nofun)⟩⟩
     ·clear hi hi2
      have e76:=H.h6 (hdep 6 (memOf (by kernel_rfl)))
      subst e76
      exact step_run (i:=8) (w':=W) (v:=.bool ib) rfl rfl (by simp [execOp,Act.eval,go_sem]) ⟨_,_,_,_,_,_,_,_,_,_,_,rfl,⟨(H.m1),(H.h0∘ol 0 nofun),(H.h1∘ol 1 nofun),(H.h2∘ol 2 nofun),(H.h3∘ol 3 nofun),(H.h4∘ol 4 nofun),(H.h5∘ol 5 nofun),(H.h6∘ol 6 nofun),(H.h7∘ol 7 nofun),(fun _=>rfl),(H.h9∘ol 9 nofun),(H.h10∘ol 10 nofun),(H.h11∘ol 11 nofun)⟩⟩
     ·clear hi hi2
      have hb:Below W.heap.size W (W.alloc (.cells (dcs zeroD) 34)):=(Below.refl _ W).alloc (Nat.le_refl _) _
      exact step_run (i:=9) (w':=(W.alloc (.cells (dcs zeroD) 34))) (v:=ptr W.heap.size) rfl rfl (by simp [execOp,Act.eval,go_sem]) ⟨_,_,_,_,_,_,_,_,_,_,_,rfl,⟨(H.m1.trans (hb.mono H.m1.size)),(H.h0∘ol 0 nofun),(H.h1∘ol 1 nofun),(H.h2∘ol 2 nofun),(H.h3∘ol 3 nofun),(H.h4∘ol 4 nofun),(H.h5∘ol 5 nofun),(H.h6∘ol 6 nofun),(H.h7∘ol 7 nofun),(H.h8∘ol 8 nofun),(fun _=>⟨_,rfl,H.m1.size,_,Blk.new W _ _⟩),(fun h=>(not_yet hL (hcl 10 (by simp) (ol 10 (by decide) h) 9 (memOf (by kernel_rfl)))).elim),(H.h11∘ol 11 nofun)⟩⟩
     ·clear hi hi2
      have e83:=H.h7 (hdep 7 (memOf (by kernel_rfl)))
      have e16:=H.h9 (hdep 9 (memOf (by kernel_rfl)))
      subst e83
      obtain ⟨b,rfl,hb1,o,hb2⟩:=e16
      have sv:=res_st (d:=now) hb2
      exact step_sk (i:=10) (w':=(W.setRow b (dcs now))) rfl rfl (by simp [execOp,Act.eval,go_sem,sv]) ⟨_,_,_,_,_,_,_,_,_,_,_,rfl,⟨(below_rowW H.m1 _ hb1),(H.h0∘ol 0 nofun),(H.h1∘ol 1 nofun),(H.h2∘ol 2 nofun),(H.h3∘ol 3 nofun),(H.h4∘ol 4 nofun),(H.h5∘ol 5 nofun),(H.h6∘ol 6 nofun),(H.h7∘ol 7 nofun),(H.h8∘ol 8 nofun),(fun _=>⟨b,rfl,hb1,_,hb2.row _⟩),(fun _=>⟨b,rfl,hb1,hb2.row _⟩),(H.h11∘ol 11 nofun)⟩⟩
     ·clear hi hi2
      have e84:=H.h8 (hdep 8 (memOf (by kernel_rfl)))
      subst e84
      exact step_run (i:=11) (w':=W) (v:=.bool ib) rfl rfl (by simp [execOp,Act.eval,go_sem]) ⟨_,_,_,_,_,_,_,_,_,_,_,rfl,⟨(H.m1),(H.h0∘ol 0 nofun),(H.h1∘ol 1 nofun),(H.h2∘ol 2 nofun),(H.h3∘ol 3 nofun),(H.h4∘ol 4 nofun),(H.h5∘ol 5 nofun),(H.h6∘ol 6 nofun),(H.h7∘ol 7 nofun),(H.h8∘ol 8 nofun),(H.h9∘ol 9 nofun),(H.h10∘ol 10 nofun),(fun _=>rfl)⟩⟩
    case done4 =>
     rintro L a W hall ⟨x16,x17,x76,x77,x78,x79,x80,x81,x82,x83,x84,rfl,H⟩
     have e0:=H.h0 (hall 0 (by simp))
     have e1:=H.h1 (hall 1 (by simp))
     have e2:=H.h2 (hall 2 (by simp))
     have e3:=H.h3 (hall 3 (by simp))
     have e4:=H.h4 (hall 4 (by simp))
     have e5:=H.h5 (hall 5 (by simp))
     have e6:=H.h6 (hall 6 (by simp))
     have e7:=H.h7 (hall 7 (by simp))
     have e8:=H.h8 (hall 8 (by simp))
     have e11:=H.h11 (hall 11 (by simp))
     obtain ⟨b16,e10,hb16,B16⟩:=H.h10 (hall 10 (by simp))
     have m1:=H.m1
     clear H hall
     subst e0 e1 e2 e3 e4 e5 e6 e7 e8 e10 e11
     have F9:=HF8.out.drew.growW m1 B16 hb16
     obtain ⟨w9,hw9⟩:∃ u,u=W:=⟨_,rfl⟩
     subst hw9
     have f9:=rm_f F9.l1.blk
     have k9:=rm_ok F9.l1.blk
     have d16:=d_all F9.l0.blk
     have d13:=d_all F9.l2.blk
     have dw:=d_w F9.l3.blk
     have HF9:=Lib.hid F9
     have HFI:=Lib.hid (B3.out.trans (F9.wis.bel.mono B3.out.size))
     clear F9 m1 B16 hb16 hwis hkb HOWN
     rcases HREST.out with ⟨rfl,-,hdw,hr,hn1,hn2⟩ |⟨hs2,hr,hn1,hn2⟩
     ·have HRI:=Lib.hid hr
      clear hr
      rw [HRI.out] at f9 k9
      rw [hdw] at dw
      subst hn1 hn2
      have eqd:=eqd_same now
      have f9:w9.cell? ⟨w8.heap.size,0,none⟩=some (.int .i64 0):=f9
      have k9:w9.cell? ⟨w8.heap.size,4,none⟩=some (.bool false):=k9
      clear hdw
      go_wp2
      go_ret
      exact ⟨rfl,HFI.out⟩
     rcases hs2 with rfl |⟨rfl,-,hdw⟩
     ·have HRI:=Lib.hid hr
      clear hr
      rw [HRI.out] at f9 k9
      have f9:w9.cell? ⟨w8.heap.size,0,none⟩=some (.int .i64 0):=f9
      have k9:w9.cell? ⟨w8.heap.size,4,none⟩=some (.bool true):=k9
      subst hn1
      have m9:=run_ldVp (Y3.out.call HF9.out.wis.bel)
      have G0:=HF9.out.new (dcs (wholeD v true true true)) 34
      have fa:=rm_f G0.l2.blk
      have ka:=rm_ok G0.l2.blk
      rw [HRI.out] at fa ka
      have fa:(w9.alloc (.cells (dcs (wholeD v true true true)) 34)).cell? ⟨w8.heap.size,0,none⟩=some (.int .i64 0):=fa
      have ka:(w9.alloc (.cells (dcs (wholeD v true true true)) 34)).cell? ⟨w8.heap.size,4,none⟩=some (.bool true):=ka
      cases ob
      ·simp only [Bool.false_eq_true,if_false] at hn2
       subst hn2
       have e18:=d_all G0.l0.blk
       have e16:=d_all G0.l1.blk
       have eqd:=eqd_same (wholeD v true true true)
       have HFI:=Lib.hid (B3.out.trans (G0.wis.bel.mono B3.out.size))
       clear G0
       go_wp2
       go_ret
       exact ⟨rfl,HFI.out⟩
      ·simp only [if_true] at hn2
       have e13:=d_all G0.l3.blk
       have sA:=res_st (d:=was) G0.l0.blk
       have G1:=G0.put (l:=[]) (dcs was) (show 34 ≠ 32 by decide)
       have mB:=run_ldVp (Y3.out.call G1.wis.bel)
       have sB:=run_stDval G1.l0.blk v
       have G2:=G1.put (l:=[]) (dcs { was with v:=v }) (show 34 ≠ 32 by decide)
       have e18:=d_all G2.l0.blk
       have e16:=d_all G2.l1.blk
       rw [hn2] at e16
       have fb:=rm_f G2.l2.blk
       have kb:=rm_ok G2.l2.blk
       rw [HRI.out] at fb kb
       have eqd:=eqd_same { was with v:=v }
       have HFI:=Lib.hid (B3.out.trans (G2.wis.bel.mono B3.out.size))
       clear G0 G1 G2 hn2
       go_wp2
       go_ret
       exact ⟨rfl,HFI.out⟩
     ·have HRI:=Lib.hid hr
      clear hr
      rw [HRI.out] at f9 k9
      rw [hdw] at dw
      have f9:w9.cell? ⟨w8.heap.size,0,none⟩=some (.int .i64 0):=f9
      have k9:w9.cell? ⟨w8.heap.size,4,none⟩=some (.bool true):=k9
      subst hn1
      have m9:=run_ldVp (Y3.out.call HF9.out.wis.bel)
      have G0:=HF9.out.new (dcs (wholeD v true true true)) 34
      have fa:=rm_f G0.l2.blk
      have ka:=rm_ok G0.l2.blk
      rw [HRI.out] at fa ka
      have fa:(w9.alloc (.cells (dcs (wholeD v true true true)) 34)).cell? ⟨w8.heap.size,0,none⟩=some (.int .i64 0):=fa
      have ka:(w9.alloc (.cells (dcs (wholeD v true true true)) 34)).cell? ⟨w8.heap.size,4,none⟩=some (.bool true):=ka
      cases ob
      ·simp only [Bool.false_eq_true,if_false] at hn2
       subst hn2
       have e18:=d_all G0.l0.blk
       have e16:=d_all G0.l1.blk
       have eqd:=eqd_same (wholeD v true true true)
       have HFI:=Lib.hid (B3.out.trans (G0.wis.bel.mono B3.out.size))
       clear hdw G0
       go_wp2
       go_ret
       exact ⟨rfl,HFI.out⟩
      ·simp only [if_true] at hn2
       have e13:=d_all G0.l3.blk
       have sA:=res_st (d:=was) G0.l0.blk
       have G1:=G0.put (l:=[]) (dcs was) (show 34 ≠ 32 by decide)
       have mB:=run_ldVp (Y3.out.call G1.wis.bel)
       have sB:=run_stDval G1.l0.blk v
       have G2:=G1.put (l:=[]) (dcs { was with v:=v }) (show 34 ≠ 32 by decide)
       have e18:=d_all G2.l0.blk
       have e16:=d_all G2.l1.blk
       rw [hn2] at e16
       have fb:=rm_f G2.l2.blk
       have kb:=rm_ok G2.l2.blk
       rw [HRI.out] at fb kb
       have eqd:=eqd_same { was with v:=v }
       have HFI:=Lib.hid (B3.out.trans (G2.wis.bel.mono B3.out.size))
       clear hdw G0 G1 G2 hn2
       go_wp2
       go_ret
       exact ⟨rfl,HFI.out⟩
 ·have hpl:=plain_no (HLW.out.below B3.out) ao cap ess hpa H2.out hall
  clear hpa hall
  go_wp2_with (go_at_call 22;(with_reducible refine hpl.mono ?_);rintro e w4 ⟨rfl,hb4⟩;have B4:=Lib.hid (B3.out.trans (hb4.mono B3.out.size));clear hb4 hpl)
  go_ret
  exact ⟨rfl,B4.out⟩
theorem lawSets_walk (ao:Option Addr) (cap:Nat) (ess:List (List En)) (k:KV) (v:Vl) (w:World) (hLw:Nums.Lw w) (hl:Lists w w.heap.size ao ess∧∀ es ∈ ess,∀ e ∈ es,FitE e) (hk:k.1.size≤1048576) (hb:I64 k.2) (hv:v.s.size≤1048576):Calls Tryz.prog 5 #[.slice ao ess.length cap,.agg (kcs k),.agg (vcs v)] w fun e w'=>e = .returned (.bool true)∧Below w.heap.size w w':=by
 by_cases h:ess.length < 1∨8 < ess.length
 ·exact lawSets_out ao cap ess.length k v w hLw h
 ·exact lawSets_main ao cap ess k v w hLw (by omega) (by omega) hl.1 hl.2 hk ⟨by omega,hb.1,hb.2⟩ hv
end
end Go.Proofs.YtkadkmnolkkhgaaGreatDoor.Mw
