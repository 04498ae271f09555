/-
 defineElement.
-/
import Derived.Test.YtkadkmnolkkhgaaGreatDoorMb24
import Derived.Test.YtkadkmnolkkhgaaGreatDoorMb26
import Derived.Test.YtkadkmnolkkhgaaGreatDoorMb21
import Derived.Test.YtkadkmnolkkhgaaGreatDoorMb17
import Derived.Test.YtkadkmnolkkhgaaGreatDoorMb10
import Derived.Deep.DeepCutAuto
set_option linter.unusedVariables false
set_option linter.unusedSimpArgs false
namespace Go.Proofs.YtkadkmnolkkhgaaGreatDoor.Mw
open Go Go.RowKit Go.Maps Go.Shelf Keys Hp Mo
open Des (Vl Ds zeroV zeroD dcs dcs_size dcs_one accF rigF appF eqV)
open Arrs (En ecs)
open Rg
attribute [local go_sem ↓] ldR stR alR bxR bdR ldV stV alV bxV bdV ldA stA bxA bdA ldKy bxKy bdKy ldD stD alD bxDe
attribute [local irreducible] rcs dcs ecs vcs acs kcs xcs tcs
attribute [local go_sem] run_bx run_alR run_stRg run_bdA0 run_bdAk run_bdAkr run_bdAkvr run_bdAr run_bdAkd run_bdRz run_bdRd run_bdRk run_bdRf run_bdRo run_bdRs run_bdRt' run_bdKs run_alD run_stDg
section
variable {X:Cx} {c:Nat} {M M' M'':Wm} {w w' w'':World} {A A' A'':Aw} {ls:List Lc} {kl:List (Value × List KV)} {ro:List Lc} {D:DoT}
structure ElP (X:Cx) (c1:Nat) (M:Wm) (xb:Nat) (o:Int) (d:Ds) (A6:Aw) (w1:World) (L:Array Bool) (x41 x42 x43 x44 x45 x46 x47 x48 x49 x50:Value) (W:World):Prop where
 m1:L.getD 9 false=false→Below w1.heap.size w1 W
 m2:L.getD 9 false=true→∃ M6,WIs X c1 M6 W A6∧Nx (M.bl X.wb) w1 (M6.bl X.wb) W
 h0:L.getD 0 false=true→x41=ptr X.wb
 h1:L.getD 1 false=true→x42=ptr M.hb
 h2:L.getD 2 false=true→x43=ptr xb
 h3:L.getD 3 false=true→x44=ptr xb
 h4:L.getD 4 false=true→x45 = .pointer (some ⟨xb,0,none⟩)
 h5:L.getD 5 false=true→x46 = .pointer (some ⟨xb,0,none⟩)
 h6:L.getD 6 false=true→x47 = .int .i64 o
 h7:L.getD 7 false=true→x48 = .agg (kcs lenK)
 h8:L.getD 8 false=true→x49 = .agg (dcs d)
 h9:L.getD 9 false=true→∃ v,x50=v
set_option maxRecDepth 100000 in
set_option maxHeartbeats 4000000 in
theorem defEl_in (h:WIs X (c+3) M w A) (o:Int) {t:Th} {T:TypeId} {xb:Nat} (hx:Blk w xb (xcs o t) T) (hxo:xb ∉ M.bl X.wb) (q:Aq) (ql:Value) (hk:Fine q.k) (i:Int) (hi:0≤i∧i≤4294967295) (len:Ds) (hlt:i < len.v.n) :
  Calls Tryz.prog 161 #[ptr X.wb,ptr xb,.agg (acs q ql),.int .i64 i,.agg (dcs len)] w (Post X c M w (applyF o t q A)):=by
 obtain ⟨w1,hw1⟩:∃ w1,((w.alloc (.cells (acs q ql) 52)).alloc (.cells (dcs len) 34)).alloc (.cells (rcs zeroR) 57)=w1:=⟨_,rfl⟩
 have F0:Fm X (c+3) M w M w1 A [⟨w.heap.size+2,rcs zeroR,57⟩,⟨w.heap.size+1,dcs len,34⟩,⟨w.heap.size,acs q ql,52⟩] [] [⟨xb,xcs o t,T⟩]:=by
  rw [← hw1];exact ((((Fm.start h).with hx hxo).new _ _).newg _ _ _ (by simp)).newg _ _ _ (by simp)
 have dv:=d_vn F0.l1.blk
 have dl:decide (i < len.v.n)=true:=by simpa using hlt
 have FD:=(F0.less (c':=c+2) (by omega)).drew
 have la:=run_ldAq FD.l2.blk
 have ha:=apply_any FD.wis o FD.r0 FD.r0o q ql hk
 have HFD:=Lib.hid FD
 clear FD F0 h hx hxo hk
 go_enter Tryz.func161,Tryz.ntmps161
 go_upto_region 2 with fail
 go_region_with (first |(go_at_call 163;(with_reducible refine (self_any xb _).mono ?_);rintro e w9 ⟨rfl,rfl⟩) |(go_at_call 162;(with_reducible refine ha.mono ?_);rintro e w3 ⟨M3,kv3,rfl,hks,hM,hn⟩;have hg3:=Rr.good _ hks;have F3:=HFD.out.next (k2:=[(kv3,(applyF o t q A).1.ks)]) hM hn (fun k hk=>by rw [List.mem_singleton.1 hk];exact hks);have s3:=run_stRp F3.l0.blk hg3;have HF3:=Lib.hid F3;clear hks hM hn F3))
 all_goals
  have F4:=HF3.out.put (l:=[]) (rcs ((applyF o t q A).1.mem kv3)) (show 57 ≠ 32 by decide)
  go_wp2
  refine bodyPost_ret (res_R rfl _ _ (w.heap.size+2) _ rfl F4.l0.blk) rfl ?_
  exact F4.fin F4.k0
set_option maxRecDepth 100000 in
set_option maxHeartbeats 4000000 in
theorem defEl_fixed (h:WIs X (c+3) M w A) (o:Int) {t:Th} {T:TypeId} {xb:Nat} (hx:Blk w xb (xcs o t) T) (hxo:xb ∉ M.bl X.wb) (q:Aq) (ql:Value) (hk:Fine q.k) (i:Int) (hi:0≤i∧i≤4294967295) (len:Ds) (hlt:¬ i < len.v.n) (hw:len.w=false) :
  Calls Tryz.prog 161 #[ptr X.wb,ptr xb,.agg (acs q ql),.int .i64 i,.agg (dcs len)] w (Post X c M w (ans false,A)):=by
 obtain ⟨w1,hw1⟩:∃ w1,((w.alloc (.cells (acs q ql) 52)).alloc (.cells (dcs len) 34)).alloc (.cells (rcs zeroR) 57)=w1:=⟨_,rfl⟩
 have F0:Fm X (c+3) M w M w1 A [⟨w.heap.size+2,rcs zeroR,57⟩,⟨w.heap.size+1,dcs len,34⟩,⟨w.heap.size,acs q ql,52⟩] [] [⟨xb,xcs o t,T⟩]:=by
  rw [← hw1];exact ((((Fm.start h).with hx hxo).new _ _).newg _ _ _ (by simp)).newg _ _ _ (by simp)
 have dv:=d_vn F0.l1.blk
 have dw:=d_w F0.l1.blk
 rw [hw] at dw
 have dl:decide (i < len.v.n)=false:=by simpa using hlt
 have HLT:=Lib.hid hlt
 have HF0:=Lib.hid F0
 clear F0 h hx hxo hk hlt
 go_enter Tryz.func161,Tryz.ntmps161
 go_wp2_with (go_at_call 168;(with_reducible refine (answer_any false _).mono ?_);rintro e w2 ⟨rfl,hb⟩;have F2:=HF0.out.call hb;have s2:=run_stRp F2.l0.blk (r:=(ans false).mem nilS) ⟨_,_,_,rfl⟩;have HF2:=Lib.hid F2;clear hb F2)
 have F4:=HF2.out.put (l:=[]) (rcs ((ans false).mem nilS)) (show 57 ≠ 32 by decide)
 refine bodyPost_ret (res_R rfl _ _ (w.heap.size+2) _ rfl F4.l0.blk) rfl ?_
 exact (F4.less (c':=c+1) (by omega)).fin1 rfl
set_option maxRecDepth 100000 in
set_option maxHeartbeats 4000000 in
theorem defEl_new (h:WIs X (c+3) M w A) (o:Int) {t:Th} {T:TypeId} {xb:Nat} (hx:Blk w xb (xcs o t) T) (hxo:xb ∉ M.bl X.wb) (q:Aq) (ql:Value) (hk:Fine q.k) (i:Int) (hi:0≤i∧i≤4294967295) (len:Ds) (hlt:¬ i < len.v.n) (hw:len.w=true) (R1:Rr) (R2:Aw) (hR:applyF o t q A=(R1,R2)) (hab:abr R1=false) (hks0:R1.ks=[]) :
  Calls Tryz.prog 161 #[ptr X.wb,ptr xb,.agg (acs q ql),.int .i64 i,.agg (dcs len)] w (Post X c M w (R1,if R1.ok then putF R2 o lenK { len with v:=numV (i+1) } else R2)):=by
 obtain ⟨w1,hw1⟩:∃ w1,((w.alloc (.cells (acs q ql) 52)).alloc (.cells (dcs len) 34)).alloc (.cells (rcs zeroR) 57)=w1:=⟨_,rfl⟩
 have F0:Fm X (c+3) M w M w1 A [⟨w.heap.size+2,rcs zeroR,57⟩,⟨w.heap.size+1,dcs len,34⟩,⟨w.heap.size,acs q ql,52⟩] [] [⟨xb,xcs o t,T⟩]:=by
  rw [← hw1];exact ((((Fm.start h).with hx hxo).new _ _).newg _ _ _ (by simp)).newg _ _ _ (by simp)
 have dv:=d_vn F0.l1.blk
 have dw:=d_w F0.l1.blk
 rw [hw] at dw
 have dl:decide (i < len.v.n)=false:=by simpa using hlt
 have HLT:=Lib.hid hlt
 have FB:=F0.drew
 have FA:=(F0.new (rcs zeroR) 57).drew
 have laA:=run_ldAq FA.l3.blk
 have laB:=run_ldAq FB.l2.blk
 have hA:=apply_any (c:=c+1) FA.wis o FA.r0 FA.r0o q ql hk
 have hB:=apply_any (c:=c+1) FB.wis o FB.r0 FB.r0o q ql hk
 rw [hR] at hA hB
 have FA:=Lib.hid FA
 have FB:=Lib.hid FB
 have HAB:=Lib.hid hab
 have hcr:cr R1 (c+1)=c+2:=by unfold cr;rw [hab];rfl
 have hcr0:cr R1 c=c+1:=by unfold cr;rw [hab];rfl
 have HCR:=Lib.hid hcr
 have HCR0:=Lib.hid hcr0
 have hw64:wrap64 (i+1)=i+1:=by unfold wrap64;omega
 obtain ⟨RR,hRR⟩:∃ RR,RR=(R1,if R1.ok=true then putF R2 o lenK { len with v:=numV (i+1) } else R2):=⟨_,rfl⟩
 rw [← hRR]
 have HRR:=Lib.hid hRR
 have HW:=Lib.hid hw
 clear hw
 have HLK:=Lib.hid (show Fine lenK from ⟨by decide,by decide,by decide⟩)
 clear F0 h hx hxo hk hlt hR hab hRR hcr hcr0
 go_enter Tryz.func161,Tryz.ntmps161
 go_upto_region 5 with fail
 go_cut [11] from 28 to 34 (fun s wx=>OwnAt X (c+1) M w (R1,R2) [⟨w.heap.size+2,rcs zeroR,57⟩,⟨w.heap.size+1,dcs len,34⟩,⟨w.heap.size,acs q ql,52⟩] [⟨xb,xcs o t,T⟩] s wx)
 case first =>
  go_region_with (first |(go_at_call 163;(with_reducible refine (self_any xb _).mono ?_);rintro e w9 ⟨rfl,rfl⟩) |(go_at_call 162;(with_reducible refine hA.mono ?_);rintro e w3 ⟨M2,kv2,rfl,hks,hM,hn⟩;have hg2:=Rr.good _ hks;have F2:=FA.out.next (k2:=[(kv2,R1.ks)]) hM hn (fun k hk=>by rw [List.mem_singleton.1 hk];exact hks);have s2:=run_stRp F2.l0.blk hg2;have HQ:=Lib.hid (show OwnAt X (c+1) M w (R1,R2) [⟨w.heap.size+2,rcs zeroR,57⟩,⟨w.heap.size+1,dcs len,34⟩,⟨w.heap.size,acs q ql,52⟩] [⟨xb,xcs o t,T⟩] (ptr w1.heap.size) _ from ⟨M2,_,kv2,rfl,F2.put (l:=[]) (rcs (R1.mem kv2)) (show 57 ≠ 32 by decide),hg2⟩);clear hks hM hn F2) |(go_at_call 162;(with_reducible refine hB.mono ?_);rintro e w3 ⟨M2,kv2,rfl,hks,hM,hn⟩;have hg2:=Rr.good _ hks;have HQ:=Lib.hid (show OwnAt X (c+1) M w (R1,R2) [⟨w.heap.size+2,rcs zeroR,57⟩,⟨w.heap.size+1,dcs len,34⟩,⟨w.heap.size,acs q ql,52⟩] [⟨xb,xcs o t,T⟩] (ptr w3.heap.size) _ from ⟨M2,_,kv2,rfl,(FB.out.next (k2:=[(kv2,R1.ks)]) hM hn (fun k hk=>by rw [List.mem_singleton.1 hk];exact hks)).new (rcs (R1.mem kv2)) 57,hg2⟩);clear hks hM hn))
  all_goals (go_wp2_with fail;go_meet;exact HQ.out)
 case rest =>
 obtain ⟨M2,N,kv2,rfl,F3,hg2⟩:=hcut
 simp only at F3
 rw [HCR.out] at F3
 have HG2:=Lib.hid hg2
 have ro:=rm_ok F3.l0.blk
 have HF3:=Lib.hid F3
 clear F3 hg2 hA hB laA laB FA FB
 cases hok:R1.ok
 ·have KEY:=Lib.hid (show RR=(R1,R2) by rw [HRR.out,hok];rfl)
  rw [hok] at ro
  have lr:=run_ldRp HF3.out.l0.blk
  have s3:=run_stRp HF3.out.l1.blk HG2.out
  clear hok
  go_wp2
  have F4:=HF3.out.put (l:=[⟨N,rcs (R1.mem kv2),57⟩]) (rcs (R1.mem kv2)) (show 57 ≠ 32 by decide)
  refine bodyPost_ret (res_R rfl _ _ (w.heap.size+2) _ rfl F4.l1.blk) rfl ?_
  rw [KEY.out]
  exact (F4.less (c':=cr R1 c) (by rw [HCR0.out];omega)).fin (R:=(R1,R2)) F4.k0
 ·have KEY:=Lib.hid (show RR=(R1,putF R2 o lenK { len with v:=numV (i+1) }) by rw [HRR.out,hok];rfl)
  rw [hok] at ro
  clear hok
  go_upto_region 7 with fail
  go_cut [] from 12 to 40 (fun wx=>Fm X (c+2) M w M2 wx R2 (⟨N,rcs (R1.mem kv2),57⟩ :: [⟨w.heap.size+2,rcs zeroR,57⟩,⟨w.heap.size+1,dcs { len with v:=numV (i+1) },34⟩,⟨w.heap.size,acs q ql,52⟩]) [(kv2,R1.ks)] [⟨xb,xcs o t,T⟩])
  case first =>
   go_wp2_with (go_at_call 191;(with_reducible refine (num_any (i+1) _).mono ?_);rintro e w4 ⟨rfl,hb⟩;have F4:=HF3.out.call hb;have s4:=run_stDval F4.l2.blk (numV (i+1));have HQ:=Lib.hid (F4.put (l:=[⟨N,rcs (R1.mem kv2),57⟩,⟨w.heap.size+2,rcs zeroR,57⟩]) (dcs { len with v:=numV (i+1) }) (show 34 ≠ 32 by decide));have HF4:=Lib.hid F4;clear hb F4)
   go_meet
   exact HQ.out
  case rest =>
  have FQ:=hcut.drew
  have HFQ:=Lib.hid FQ
  have HPUT:Hid (∀ {w':World},WIs X (c+2) M2 w' R2→Calls Tryz.prog 36 #[ptr M2.hb,.int .i64 o,.agg (kcs lenK),.agg (dcs { len with v:=numV (i+1) })] w' (LeftB X (c+1) M2 w' (putF R2 o lenK { len with v:=numV (i+1) }))):=Lib.hid fun h'=>wPut h' o lenK HLK.out _
  clear hcut FQ HF3
  go_upto_region 8 with fail
  go_cut [] from 41 to 50 (fun wx=>∃ M6,Fm X (c+1) M w M6 wx (putF R2 o lenK { len with v:=numV (i+1) }) (⟨N,rcs (R1.mem kv2),57⟩ :: [⟨w.heap.size+2,rcs zeroR,57⟩,⟨w.heap.size+1,dcs { len with v:=numV (i+1) },34⟩,⟨w.heap.size,acs q ql,52⟩]) [(kv2,R1.ks)] [⟨xb,xcs o t,T⟩])
  case first =>
   have hwis:=HFQ.out.wis
   have hxb:=HFQ.out.r0
   have hdl:=HFQ.out.l2.blk
   refine region_inv (by kernel_rfl) (fun L a W=>∃ x41 x42 x43 x44 x45 x46 x47 x48 x49 x50:Value,a={ tmps:=#[ptr X.wb,ptr xb,.agg (acs q ql),.int .i64 i,.agg (dcs len),undef,undef,ptr w.heap.size,undef,ptr (w.heap.size+1),ptr (w.heap.size+1+1),ptr N,u12,u13,u14,u15,u16,u17,u18,u19,u20,u21,u22,u23,u24,u25,u26,u27,u28,u29,u30,u31,u32,u33,u34,u35,u36,u37,u38,u39,u40,x41,x42,x43,x44,x45,x46,x47,x48,x49,x50,undef],defers:=[] }∧ElP X (c+1) M2 xb o { len with v:=numV (i+1) } (putF R2 o lenK { len with v:=numV (i+1) }) wc.drew L x41 x42 x43 x44 x45 x46 x47 x48 x49 x50 W) (by kernel_rfl) ?start ?step ?done
   case start=>exact ⟨_,_,_,_,_,_,_,_,_,_,rfl,⟨fun _=>Below.refl _ _,fun h=>by simp [Array.getD_eq_getD_getElem?] at h,fun h=>by simp [Array.getD_eq_getD_getElem?] at h,fun h=>by simp [Array.getD_eq_getD_getElem?] at h,fun h=>by simp [Array.getD_eq_getD_getElem?] at h,fun h=>by simp [Array.getD_eq_getD_getElem?] at h,fun h=>by simp [Array.getD_eq_getD_getElem?] at h,fun h=>by simp [Array.getD_eq_getD_getElem?] at h,fun h=>by simp [Array.getD_eq_getD_getElem?] at h,fun h=>by simp [Array.getD_eq_getD_getElem?] at h,fun h=>by simp [Array.getD_eq_getD_getElem?] at h,fun h=>by simp [Array.getD_eq_getD_getElem?] at h⟩⟩
   case step =>
    intro i L a W hi hdep hL hs hcl hI
    have hi2:i < 10:=by simpa using hi
    obtain ⟨x41,x42,x43,x44,x45,x46,x47,x48,x49,x50,rfl,H⟩:=hI
    have ol:∀ j,i ≠ j→(L.setIfInBounds i true).getD j false=true→L.getD j false=true:=fun j hj h=>by rwa [getD_set hj] at h
    rcases (by omega:i=0∨i=1∨i=2∨i=3∨i=4∨i=5∨i=6∨i=7∨i=8∨i=9) with rfl |rfl |rfl |rfl |rfl |rfl |rfl |rfl |rfl |rfl
    ·clear hi hi2
     have ol7:(L.setIfInBounds 0 true).getD 9 false=false→L.getD 9 false=false:=fun h=>by rwa [getD_set (by decide)] at h
     have on7:(L.setIfInBounds 0 true).getD 9 false=true→L.getD 9 false=true:=fun h=>by rwa [getD_set (by decide)] at h
     exact step_run (i:=0) (w':=W) (v:=ptr X.wb) rfl rfl (by simp [execOp,Act.eval,go_sem]) ⟨_,_,_,_,_,_,_,_,_,_,rfl,⟨(fun h=>H.m1 (ol7 h)),(fun h=>H.m2 (on7 h)),(fun _=>rfl),(H.h1∘ol 1 nofun),(H.h2∘ol 2 nofun),(H.h3∘ol 3 nofun),(H.h4∘ol 4 nofun),(H.h5∘ol 5 nofun),(H.h6∘ol 6 nofun),(H.h7∘ol 7 nofun),(H.h8∘ol 8 nofun),(H.h9∘ol 9 nofun)⟩⟩
    ·clear hi hi2
     have e41:=H.h0 (hdep 0 (memOf (by kernel_rfl)))
     subst e41
     have hP:L.getD 9 false=false:=by
      cases hh:L.getD 9 false
      ·rfl
      ·exact (not_yet hL (hcl 9 (by simp) hh 1 (memOf (by kernel_rfl)))).elim
     have hB:=H.m1 hP
     have ol7:(L.setIfInBounds 1 true).getD 9 false=false→L.getD 9 false=false:=fun h=>by rwa [getD_set (by decide)] at h
     have on7:(L.setIfInBounds 1 true).getD 9 false=true→L.getD 9 false=true:=fun h=>by rwa [getD_set (by decide)] at h
     refine step_call (i:=1) (f:=100) (args:=#[ptr X.wb]) rfl rfl (by simp [execOp,Act.eval,go_sem]) (stW (hwis.call hB)) ?_
     rintro e W2 ⟨rfl,hq⟩
     subst hq
     exact ⟨_,rfl,⟨_,_,_,_,_,_,_,_,_,_,rfl,⟨(fun h=>H.m1 (ol7 h)),(fun h=>H.m2 (on7 h)),(H.h0∘ol 0 nofun),(fun _=>rfl),(H.h2∘ol 2 nofun),(H.h3∘ol 3 nofun),(H.h4∘ol 4 nofun),(H.h5∘ol 5 nofun),(H.h6∘ol 6 nofun),(H.h7∘ol 7 nofun),(H.h8∘ol 8 nofun),(H.h9∘ol 9 nofun)⟩⟩⟩
    ·clear hi hi2
     have ol7:(L.setIfInBounds 2 true).getD 9 false=false→L.getD 9 false=false:=fun h=>by rwa [getD_set (by decide)] at h
     have on7:(L.setIfInBounds 2 true).getD 9 false=true→L.getD 9 false=true:=fun h=>by rwa [getD_set (by decide)] at h
     exact step_run (i:=2) (w':=W) (v:=ptr xb) rfl rfl (by simp [execOp,Act.eval,go_sem]) ⟨_,_,_,_,_,_,_,_,_,_,rfl,⟨(fun h=>H.m1 (ol7 h)),(fun h=>H.m2 (on7 h)),(H.h0∘ol 0 nofun),(H.h1∘ol 1 nofun),(fun _=>rfl),(H.h3∘ol 3 nofun),(H.h4∘ol 4 nofun),(H.h5∘ol 5 nofun),(H.h6∘ol 6 nofun),(H.h7∘ol 7 nofun),(H.h8∘ol 8 nofun),(H.h9∘ol 9 nofun)⟩⟩
    ·clear hi hi2
     have e43:=H.h2 (hdep 2 (memOf (by kernel_rfl)))
     subst e43
     have ol7:(L.setIfInBounds 3 true).getD 9 false=false→L.getD 9 false=false:=fun h=>by rwa [getD_set (by decide)] at h
     have on7:(L.setIfInBounds 3 true).getD 9 false=true→L.getD 9 false=true:=fun h=>by rwa [getD_set (by decide)] at h
     exact step_run (i:=3) (w':=W) (v:=ptr xb) rfl rfl (by simp [execOp,Act.eval,go_sem]) ⟨_,_,_,_,_,_,_,_,_,_,rfl,⟨(fun h=>H.m1 (ol7 h)),(fun h=>H.m2 (on7 h)),(H.h0∘ol 0 nofun),(H.h1∘ol 1 nofun),(H.h2∘ol 2 nofun),(fun _=>rfl),(H.h4∘ol 4 nofun),(H.h5∘ol 5 nofun),(H.h6∘ol 6 nofun),(H.h7∘ol 7 nofun),(H.h8∘ol 8 nofun),(H.h9∘ol 9 nofun)⟩⟩
    ·clear hi hi2
     have e44:=H.h3 (hdep 3 (memOf (by kernel_rfl)))
     subst e44
     have ol7:(L.setIfInBounds 4 true).getD 9 false=false→L.getD 9 false=false:=fun h=>by rwa [getD_set (by decide)] at h
     have on7:(L.setIfInBounds 4 true).getD 9 false=true→L.getD 9 false=true:=fun h=>by rwa [getD_set (by decide)] at h
     exact step_run (i:=4) (w':=W) (v:=.pointer (some ⟨xb,0,none⟩)) rfl rfl (by simp [execOp,Act.eval,go_sem]) ⟨_,_,_,_,_,_,_,_,_,_,rfl,⟨(fun h=>H.m1 (ol7 h)),(fun h=>H.m2 (on7 h)),(H.h0∘ol 0 nofun),(H.h1∘ol 1 nofun),(H.h2∘ol 2 nofun),(H.h3∘ol 3 nofun),(fun _=>rfl),(H.h5∘ol 5 nofun),(H.h6∘ol 6 nofun),(H.h7∘ol 7 nofun),(H.h8∘ol 8 nofun),(H.h9∘ol 9 nofun)⟩⟩
    ·clear hi hi2
     have e45:=H.h4 (hdep 4 (memOf (by kernel_rfl)))
     subst e45
     have ol7:(L.setIfInBounds 5 true).getD 9 false=false→L.getD 9 false=false:=fun h=>by rwa [getD_set (by decide)] at h
     have on7:(L.setIfInBounds 5 true).getD 9 false=true→L.getD 9 false=true:=fun h=>by rwa [getD_set (by decide)] at h
     exact step_run (i:=5) (w':=W) (v:=.pointer (some ⟨xb,0,none⟩)) rfl rfl (by simp [execOp,Act.eval,go_sem]) ⟨_,_,_,_,_,_,_,_,_,_,rfl,⟨(fun h=>H.m1 (ol7 h)),(fun h=>H.m2 (on7 h)),(H.h0∘ol 0 nofun),(H.h1∘ol 1 nofun),(H.h2∘ol 2 nofun),(H.h3∘ol 3 nofun),(H.h4∘ol 4 nofun),(fun _=>rfl),(H.h6∘ol 6 nofun),(H.h7∘ol 7 nofun),(H.h8∘ol 8 nofun),(H.h9∘ol 9 nofun)⟩⟩
    ·clear hi hi2
     have e46:=H.h5 (hdep 5 (memOf (by kernel_rfl)))
     subst e46
     have hP:L.getD 9 false=false:=by
      cases hh:L.getD 9 false
      ·rfl
      ·exact (not_yet hL (hcl 9 (by simp) hh 6 (memOf (by kernel_rfl)))).elim
     have hB:=H.m1 hP
     have cq:=x_num (hxb.call hB)
     have ol7:(L.setIfInBounds 6 true).getD 9 false=false→L.getD 9 false=false:=fun h=>by rwa [getD_set (by decide)] at h
     have on7:(L.setIfInBounds 6 true).getD 9 false=true→L.getD 9 false=true:=fun h=>by rwa [getD_set (by decide)] at h
     exact step_run (i:=6) (w':=W) (v:=.int .i64 o) rfl rfl (by simp [execOp,Act.eval,go_sem,cq]) ⟨_,_,_,_,_,_,_,_,_,_,rfl,⟨(fun h=>H.m1 (ol7 h)),(fun h=>H.m2 (on7 h)),(H.h0∘ol 0 nofun),(H.h1∘ol 1 nofun),(H.h2∘ol 2 nofun),(H.h3∘ol 3 nofun),(H.h4∘ol 4 nofun),(H.h5∘ol 5 nofun),(fun _=>rfl),(H.h7∘ol 7 nofun),(H.h8∘ol 8 nofun),(H.h9∘ol 9 nofun)⟩⟩
    ·clear hi hi2
     have hP:L.getD 9 false=false:=by
      cases hh:L.getD 9 false
      ·rfl
      ·exact (not_yet hL (hcl 9 (by simp) hh 7 (memOf (by kernel_rfl)))).elim
     have hB:=H.m1 hP
     have ol7:(L.setIfInBounds 7 true).getD 9 false=false→L.getD 9 false=false:=fun h=>by rwa [getD_set (by decide)] at h
     have on7:(L.setIfInBounds 7 true).getD 9 false=true→L.getD 9 false=true:=fun h=>by rwa [getD_set (by decide)] at h
     refine step_call (i:=7) (f:=158) (args:=#[]) rfl rfl (by simp [execOp,Act.eval,go_sem]) (lenK_any W) ?_
     rintro e W2 ⟨rfl,hb⟩
     exact ⟨_,rfl,⟨_,_,_,_,_,_,_,_,_,_,rfl,⟨(fun h=>(H.m1 (ol7 h)).trans (hb.mono (H.m1 (ol7 h)).size)),(fun h=>let ⟨M6,q1,q2⟩:=H.m2 (on7 h);⟨M6,q1.call hb,q2.call hb⟩),(H.h0∘ol 0 nofun),(H.h1∘ol 1 nofun),(H.h2∘ol 2 nofun),(H.h3∘ol 3 nofun),(H.h4∘ol 4 nofun),(H.h5∘ol 5 nofun),(H.h6∘ol 6 nofun),(fun _=>rfl),(H.h8∘ol 8 nofun),(H.h9∘ol 9 nofun)⟩⟩⟩
    ·clear hi hi2
     have hP:L.getD 9 false=false:=by
      cases hh:L.getD 9 false
      ·rfl
      ·exact (not_yet hL (hcl 9 (by simp) hh 8 (memOf (by kernel_rfl)))).elim
     have hB:=H.m1 hP
     have cq:=d_all (hdl.call hB)
     have ol7:(L.setIfInBounds 8 true).getD 9 false=false→L.getD 9 false=false:=fun h=>by rwa [getD_set (by decide)] at h
     have on7:(L.setIfInBounds 8 true).getD 9 false=true→L.getD 9 false=true:=fun h=>by rwa [getD_set (by decide)] at h
     exact step_run (i:=8) (w':=W) (v:=.agg (dcs { len with v:=numV (i+1) })) rfl rfl (by simp [execOp,Act.eval,go_sem,cq]) ⟨_,_,_,_,_,_,_,_,_,_,rfl,⟨(fun h=>H.m1 (ol7 h)),(fun h=>H.m2 (on7 h)),(H.h0∘ol 0 nofun),(H.h1∘ol 1 nofun),(H.h2∘ol 2 nofun),(H.h3∘ol 3 nofun),(H.h4∘ol 4 nofun),(H.h5∘ol 5 nofun),(H.h6∘ol 6 nofun),(H.h7∘ol 7 nofun),(fun _=>rfl),(H.h9∘ol 9 nofun)⟩⟩
    ·clear hi hi2
     have e42:=H.h1 (hdep 1 (memOf (by kernel_rfl)))
     have e47:=H.h6 (hdep 6 (memOf (by kernel_rfl)))
     have e48:=H.h7 (hdep 7 (memOf (by kernel_rfl)))
     have e49:=H.h8 (hdep 8 (memOf (by kernel_rfl)))
     subst e42 e47 e48 e49
     have hP:=getD_no hL
     have hB:=H.m1 hP
     refine step_call (i:=9) (f:=36) (args:=#[ptr M2.hb,.int .i64 o,.agg (kcs lenK),.agg (dcs { len with v:=numV (i+1) })]) rfl rfl (by simp [execOp,Act.eval,go_sem]) (HPUT.out (hwis.call hB)) ?_
     rintro e W2 ⟨⟨bb,rfl⟩,M6,hM6,h6,n6⟩
     exact ⟨_,rfl,⟨_,_,_,_,_,_,_,_,_,_,rfl,⟨(fun h=>by rw [getD_same (by rw [hs];simp)] at h;cases h),(fun _=>⟨M6,h6,Nx.from hB n6⟩),(H.h0∘ol 0 nofun),(H.h1∘ol 1 nofun),(H.h2∘ol 2 nofun),(H.h3∘ol 3 nofun),(H.h4∘ol 4 nofun),(H.h5∘ol 5 nofun),(H.h6∘ol 6 nofun),(H.h7∘ol 7 nofun),(H.h8∘ol 8 nofun),(fun _=>⟨_,rfl⟩)⟩⟩⟩
   case done =>
    rintro L a W hall ⟨x41,x42,x43,x44,x45,x46,x47,x48,x49,x50,rfl,H⟩
    obtain ⟨M6,h6,n6⟩:=H.m2 (hall 9 (by simp))
    have HQ:=Lib.hid (HFQ.out.leftW ⟨h6,n6⟩)
    clear H hwis hxb hdl h6 n6 hall
    go_wp2_with fail
    go_meet
    exact ⟨_,HQ.out⟩
  case rest =>
  obtain ⟨M6,F6⟩:=hcut
  have lr6:=run_ldRp F6.l0.blk
  have s6:=run_stRp F6.l1.blk HG2.out
  have F7:=F6.put (l:=[⟨N,rcs (R1.mem kv2),57⟩]) (rcs (R1.mem kv2)) (show 57 ≠ 32 by decide)
  have HF7:=Lib.hid F7
  clear F6 F7 HFQ
  go_wp2
  refine bodyPost_ret (res_R rfl _ _ (w.heap.size+2) _ rfl HF7.out.l1.blk) rfl ?_
  rw [KEY.out]
  have F8:=HF7.out
  rw [← HCR0.out] at F8
  exact F8.fin (R:=(R1,putF R2 o lenK { len with v:=numV (i+1) })) F8.k0
theorem defEl_any (h:WIs X (c+3) M w A) (o:Int) {t:Th} {T:TypeId} {xb:Nat} (hx:Blk w xb (xcs o t) T) (hxo:xb ∉ M.bl X.wb) (q:Aq) (ql:Value) (hk:Fine q.k) (i:Int) (hi:0≤i∧i≤4294967295) (len:Ds) :
  Calls Tryz.prog 161 #[ptr X.wb,ptr xb,.agg (acs q ql),.int .i64 i,.agg (dcs len)] w (Post X c M w (defElF o t q i len A)):=by
 unfold defElF
 by_cases hlt:i < len.v.n
 ·rw [if_pos hlt];exact defEl_in h o hx hxo q ql hk i hi len hlt
 ·rw [if_neg hlt]
  by_cases hw:len.w=true
  ·rw [if_neg (by rw [hw];decide)]
   obtain ⟨R,hR⟩:∃ R,applyF o t q A=R:=⟨_,rfl⟩
   obtain ⟨R1,R2⟩:=R
   rw [hR]
   have e:R1=ans (appF t.ext q.d (ownF A o q.k).isSome (nowD A o q.k)).2:=by rw [← show (applyF o t q A).1=R1 by rw [hR]];rfl
   exact defEl_new h o hx hxo q ql hk i hi len hlt hw R1 R2 hR (by rw [e];rfl) (by rw [e];rfl)
  ·have hw':len.w=false:=by simpa using hw
   rw [if_pos (by rw [hw'];rfl)]
   exact defEl_fixed h o hx hxo q ql hk i hi len hlt hw'
end
end Go.Proofs.YtkadkmnolkkhgaaGreatDoor.Mw
