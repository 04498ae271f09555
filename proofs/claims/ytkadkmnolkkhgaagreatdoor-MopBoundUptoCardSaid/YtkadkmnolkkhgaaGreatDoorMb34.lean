/-
 Texts of this seat in build order: MwSet, MwRem, MwOrA, MwOrB, MwOrC.
-/
import Derived.Test.YtkadkmnolkkhgaaGreatDoorMb25
import Derived.Test.YtkadkmnolkkhgaaGreatDoorMb33
import Derived.Deep.DeepCutAuto
import Derived.Test.YtkadkmnolkkhgaaGreatDoorMb21
import Derived.Test.YtkadkmnolkkhgaaGreatDoorMb32
import Derived.Test.YtkadkmnolkkhgaaGreatDoorMb10
/-
 set.
-/
set_option linter.unusedVariables false
set_option linter.unusedSimpArgs false
namespace Go.Proofs.YtkadkmnolkkhgaaGreatDoor.Mw
open Go Go.RowKit Go.Maps Go.Shelf Keys Hp Mo
open Des (Vl Ds zeroV zeroD dcs dcs_size dcs_one accF rigF appF eqV)
open Arrs (En ecs)
attribute [local go_sem ↓] ldR stR alR bxR bdR ldV stV alV bxV bdV ldA stA bxA bdA ldKy bxKy bdKy ldD stD alD bxDe
attribute [local irreducible] rcs dcs ecs vcs acs kcs xcs tcs
attribute [local go_sem] run_bx run_alR run_stRg run_bdA0 run_bdAk run_bdAkr run_bdAkvr run_bdAr run_bdAkd run_bdRz run_bdRd run_bdRk run_bdRf run_bdRo run_bdRs run_bdRt' run_bdKs run_alD run_stDg run_bdV0
section
variable {X:Cx} {c:Nat} {M M' M'':Wm} {w w' w'':World} {A A' A'':Aw} {ls:List Lc} {kl:List (Value × List KV)} {ro:List Lc} {D:DoT}
theorem inher_no {m o:Int} {q:Aq} (h:(inherF D m o q A).1.2=false):(inherF D m o q A).1.1=zeroRr:=by
 unfold inherF at h ⊢
 split at h
 rename_i r A' hd
 cases hr:abr r
 ·simp only [hr,Bool.false_eq_true,if_false] at h ⊢
  by_cases hk:r.v.k=6
  ·simp only [hk,if_true] at h
   cases h
  ·simp only [hk,if_false]
 ·simp only [hr,if_true] at h
  cases h
theorem Fm.drop0 {x:Lc} {l:List Lc} (F:Fm X c M w M' w' A' (x :: l) kl ro):Fm X c M w M' w' A' l kl ro:=⟨F.wis,F.nx,fun y hy=>F.lo y (List.mem_cons_of_mem _ hy),F.ks,F.h0,F.rd,by have:=F.nd;rw [List.map_cons,List.nodup_cons] at this;exact this.2⟩
def SetAt (X:Cx) (c:Nat) (M:Wm) (w:World) (RR:Rr × Aw) (D:DoT) (q:Aq) (ls ro:List Lc) (wx:World) (n8:Nat):Prop:=∃ M6 dd A6 N kl cs,Fm X (c+1) M w M6 wx A6 (⟨n8,dcs dd,34⟩ :: ⟨N,cs,57⟩ :: ls) kl ro∧Hid (RR=setTail D dd q A6)
set_option maxRecDepth 100000 in
set_option maxHeartbeats 4000000 in
theorem set_any (HD:DoIs X D) (h:WIs X (c+1) M w A) (o:Int) {t:Th} {T:TypeId} {xb:Nat} (hx:Blk w xb (xcs o t) T) (hxo:xb ∉ M.bl X.wb) (q:Aq) (ql:Value) (hk:Fine q.k) :
  Calls Tryz.prog 173 #[ptr X.wb,ptr xb,.agg (acs q ql)] w (Post X c M w (setF D o q A)):=by
 obtain ⟨w1,hw1⟩:∃ w1,(w.alloc (.cells (acs q ql) 52)).alloc (.cells (rcs zeroR) 57)=w1:=⟨_,rfl⟩
 have F0:Fm X (c+1) M w M w1 A [⟨w.heap.size+1,rcs zeroR,57⟩,⟨w.heap.size,acs q ql,52⟩] [] [⟨xb,xcs o t,T⟩]:=by
  rw [← hw1];exact (((Fm.start h).with hx hxo).new _ _).newg _ _ _ (by simp)
 have FB:=F0.drew
 have FA:=(F0.new (rcs zeroR) 57).drew
 have xnA:=x_num FA.r0
 have xnB:=x_num FB.r0
 have lkA:=ask_k FA.l2.blk
 have lkB:=ask_k FB.l1.blk
 have hdA:=HD _ _ _ _ 5 o { zeroQ with k:=q.k } nilS FA.wis hk (VsOut.nil _ _) (by simp [zeroQ])
 have hdB:=HD _ _ _ _ 5 o { zeroQ with k:=q.k } nilS FB.wis hk (VsOut.nil _ _) (by simp [zeroQ])
 unfold setF
 obtain ⟨R,hR⟩:∃ R,D 5 o { zeroQ with k:=q.k } A=R:=⟨_,rfl⟩
 rw [hR] at hdA hdB ⊢
 have FA:=Lib.hid FA
 have FB:=Lib.hid FB
 have HDD:=Lib.hid (show DoIs X D from HD)
 have HKK:=Lib.hid hk
 clear F0 h hx hxo HD hk hR
 obtain ⟨R1,R2⟩:=R
 simp only at hdA hdB xnA xnB lkA lkB ⊢
 obtain ⟨RR,hRR⟩:∃ RR,RR=(if abr R1=true then (R1,R2) else if R1.has=true then setTail D R1.d q R2 else match inherF D 9 o { zeroQ with k:=q.k,v:=q.v,r:=q.r } R2 with |((r,ok),A)=>if ok=true then (r,A) else setTail D (wholeD zeroV true true true) q A):=⟨_,rfl⟩
 rw [← hRR]
 have HRR:=Lib.hid hRR
 clear hRR
 go_enter Tryz.func173,Tryz.ntmps173
 go_upto_region 1 with fail
 go_cut [7] from 8 to 64 (fun s wx=>OwnAt X c M w (R1,R2) [⟨w.heap.size+1,rcs zeroR,57⟩,⟨w.heap.size,acs q ql,52⟩] [⟨xb,xcs o t,T⟩] s wx)
 case first =>
  go_region_with (first |(go_at_call 19;refine hdA.mono ?_;rintro e w2 ⟨M2,kv2,rfl,hks,hM,hn⟩;have hg2:=Rr.good _ hks;have F2:=FA.out.post hks hM hn;have s2:=run_stRp F2.l0.blk hg2;have HQ:=Lib.hid (show OwnAt X c M w (R1,R2) [⟨w.heap.size+1,rcs zeroR,57⟩,⟨w.heap.size,acs q ql,52⟩] [⟨xb,xcs o t,T⟩] (ptr w1.heap.size) _ from ⟨M2,_,kv2,rfl,F2.put (l:=[]) (rcs (R1.mem kv2)) (show 57 ≠ 32 by decide),hg2⟩);clear hks hM hn F2) |(go_at_call 19;refine hdB.mono ?_;rintro e w2 ⟨M2,kv2,rfl,hks,hM,hn⟩;have hg2:=Rr.good _ hks;have HQ:=Lib.hid (show OwnAt X c M w (R1,R2) [⟨w.heap.size+1,rcs zeroR,57⟩,⟨w.heap.size,acs q ql,52⟩] [⟨xb,xcs o t,T⟩] (ptr w2.heap.size) _ from ⟨M2,_,kv2,rfl,(FB.out.post hks hM hn).new (rcs (R1.mem kv2)) _,hg2⟩);clear hks hM hn))
  all_goals (go_wp2_with fail;go_meet;exact HQ.out)
 case rest =>
 obtain ⟨M2,N,kv2,rfl,F3,hg2⟩:=hcut
 have HG2:=Lib.hid hg2
 have lr:=run_ldRp F3.l0.blk
 have HF3:=Lib.hid F3
 clear F3 hg2 hdA hdB xnA xnB lkA lkB FA FB
 cases hab:abr R1
 ·have HAB:=Lib.hid hab
  clear hab
  have hda:∀ w:World,Calls Tryz.prog 72 #[.agg (vcs zeroV),.bool true,.bool true,.bool true] w fun e w'=>e = .returned (.agg (dcs (wholeD zeroV true true true)))∧Below w.heap.size w w':=fun w=>data_anyv zeroV true true true w
  obtain ⟨wd,hwd⟩:∃ wd,wd=wholeD zeroV true true true:=⟨_,rfl⟩
  rw [← hwd] at hda
  rw [← hwd] at HRR
  have HDA:=Lib.hid hda
  clear hda hwd
  obtain ⟨hB,hhb⟩:∃ b,R1.has=b:=⟨_,rfl⟩
  have HHB:=Lib.hid hhb
  clear hhb
  go_upto_if 27 with (go_at_call 52;(with_reducible refine (abr_at HAB.out kv2 _).mono ?_);rintro e w4 ⟨rfl,hb⟩;have F4:=(HF3.out.ok HAB.out).call hb;have ld4:=rm_d F4.l0.blk;have F5:=F4.new (dcs R1.d) 34;have ho:=(rm_has F5.l1.blk).trans (congrArg (fun b=>some (Value.bool b)) HHB.out);have HF5:=Lib.hid F5;clear F5;have HF4:=Lib.hid F4;clear hb F4)
  go_cut [] from 9 to 64 (fun wx=>SetAt X c M w RR D q [⟨w.heap.size+1,rcs zeroR,57⟩,⟨w.heap.size,acs q ql,52⟩] [⟨xb,xcs o t,T⟩] wx w4.heap.size)
  case first =>
   cases hB
   ·have HH:=HHB
    have HZ:=Lib.hid (fun h=>inher_no (D:=D) (A:=R2) (m:=9) (o:=o) (q:={ zeroQ with k:=q.k,v:=q.v,r:=q.r }) h)
    have ak:=ask_k HF5.out.l3.blk
    have av:=ask_v HF5.out.l3.blk
    have ar:=ask_r HF5.out.l3.blk
    have hi:=inher_any HDD.out HF5.out.wis 9 o HF5.out.r0 HF5.out.r0o { zeroQ with k:=q.k,v:=q.v,r:=q.r } nilS HKK.out (VsOut.nil _ _) (by simp [zeroQ])
    obtain ⟨I,hI⟩:∃ I,(inherF D 9 o { zeroQ with k:=q.k,v:=q.v,r:=q.r } R2)=I:=⟨_,rfl⟩
    rw [hI] at HRR HZ hi
    clear hI
    obtain ⟨⟨I1,Ib⟩,I2⟩:=I
    have HR3:Hid (RR=if Ib=true then (I1,I2) else setTail D wd q I2):=Lib.hid (by rw [HRR.out,HAB.out,HH.out];rfl)
    clear HRR
    cases Ib
    ·have hz:I1=zeroRr:=HZ.out rfl
     subst hz
     go_wp2_with (first |(go_at_call 200;(with_reducible refine hi.mono ?_);rintro e w6 ⟨M6,kv6,rfl,hks,hM,hn⟩;have hg6:=Rr.good _ hks;have F6:=(HF5.out.postB hks hM hn).new (rcs (zeroRr.mem kv6)) 57;have HF6:=Lib.hid F6;clear hks hM hn F6) |(go_at_call 72;(with_reducible refine (HDA.out _).mono ?_);rintro e w7 ⟨rfl,hb⟩;have F7:=HF6.out.call hb;have s7:=run_stDp (r:=wd) F7.l1.blk;have HQ:=Lib.hid (show SetAt X c M w RR D q [⟨w.heap.size+1,rcs zeroR,57⟩,⟨w.heap.size,acs q ql,52⟩] [⟨xb,xcs o t,T⟩] _ w4.heap.size from ⟨M6,wd,I2,N,_,_,(F7.put (l:=[⟨w6.heap.size,rcs (zeroRr.mem kv6),57⟩]) (dcs wd) (show 34 ≠ 32 by decide)).drop0,HR3⟩);clear hb F7))
     go_meet
     exact HQ.out
    ·go_wp2_with (go_at_call 200;(with_reducible refine hi.mono ?_);rintro e w6 ⟨M6,kv6,rfl,hks,hM,hn⟩;have hg6:=Rr.good _ hks;have F6:=(HF5.out.postB hks hM hn).new (rcs (I1.mem kv6)) 57;have lr6:=run_ldRp F6.l0.blk;have s6:=run_stRp F6.l3.blk hg6;have HF6:=Lib.hid F6;clear hks hM hn F6)
     have F7:=HF6.out.put (l:=[⟨w6.heap.size,rcs (I1.mem kv6),57⟩,⟨w4.heap.size,dcs R1.d,34⟩,⟨N,rcs (R1.mem kv2),57⟩]) (rcs (I1.mem kv6)) (show 57 ≠ 32 by decide)
     refine bodyPost_ret (res_R rfl _ _ (w.heap.size+1) _ rfl F7.l3.blk) rfl ?_
     have key:RR=(I1,I2):=HR3.out
     rw [key]
     exact F7.fin F7.k0
   ·have HH:=HHB
    have HR3:Hid (RR=setTail D R1.d q R2):=Lib.hid (by rw [HRR.out,HAB.out,HH.out];rfl)
    have HQ:=Lib.hid (show SetAt X c M w RR D q [⟨w.heap.size+1,rcs zeroR,57⟩,⟨w.heap.size,acs q ql,52⟩] [⟨xb,xcs o t,T⟩] _ w4.heap.size from ⟨M2,R1.d,R2,N,_,_,HF5.out,HR3⟩)
    clear HRR
    go_wp2
    go_meet
    exact HQ.out
  case rest =>
  clear HF5 HF3 HRR
  obtain ⟨M6,dd,A6,N9,kl,cs9,F6,HR4⟩:=hcut
  have ld:=d_all F6.l0.blk
  have HF6:=Lib.hid F6
  clear F6
  unfold setTail at HR4
  cases ha:accF dd
  ·have HA:=Lib.hid ha
   clear ha
   cases hw:dd.w
   ·have HW:=Lib.hid hw
    clear hw
    go_wp2_with (first |(go_at_call 121;(with_reducible refine (acc_at HA.out _).mono ?_);rintro e w10 ⟨rfl,hb⟩;have F10:=HF6.out.call hb;have dw:=(d_w F10.l0.blk).trans (congrArg (fun b=>some (Value.bool b)) HW.out);have HF10:=Lib.hid F10;clear hb F10) |(go_at_call 168;(with_reducible refine (answer_any false _).mono ?_);rintro e w11 ⟨rfl,hb⟩;have F11:=HF10.out.call hb;have s11:=run_stRp F11.l2.blk (r:=(ans false).mem nilS) ⟨_,_,_,rfl⟩;have HF11:=Lib.hid F11;clear hb F11))
    have F12:=HF11.out.put (l:=[⟨w4.heap.size,dcs dd,34⟩,⟨N9,cs9,57⟩]) (rcs ((ans false).mem nilS)) (show 57 ≠ 32 by decide)
    refine bodyPost_ret (res_R rfl _ _ (w.heap.size+1) _ rfl F12.l2.blk) rfl ?_
    have key:RR=(ans false,A6):=by rw [HR4.out,HA.out,HW.out];rfl
    rw [key]
    exact F12.fin1 rfl
   ·have HW:=Lib.hid hw
    clear hw
    by_cases hrk:q.r.k=6
    ·have hne:(q.r.k != 6)=false:=by simp [hrk]
     have HE:=Lib.hid hrk
     clear hrk
     go_wp2_with (first |(go_at_call 121;(with_reducible refine (acc_at HA.out _).mono ?_);rintro e w10 ⟨rfl,hb⟩;have F10:=HF6.out.call hb;have dw:=(d_w F10.l0.blk).trans (congrArg (fun b=>some (Value.bool b)) HW.out);have rk:=ask_rk F10.l3.blk;have la:=run_ldAq F10.l3.blk;have hp:=place_any HDD.out F10.wis q ql HKK.out;have HF10:=Lib.hid F10;clear hb F10) |(go_at_call 203;(with_reducible refine hp.mono ?_);rintro e w11 ⟨M11,kv11,rfl,hks,hM,hn⟩;have hg11:=Rr.good _ hks;have SZ11:=Lib.hid hn.size;have F11:=HF10.out.post hks hM hn;have s11:=run_stRp F11.l2.blk hg11;have HF11:=Lib.hid F11;clear hks hM hn F11))
     have F12:=HF11.out.put (l:=[⟨w4.heap.size,dcs dd,34⟩,⟨N9,cs9,57⟩]) (rcs ((placeF D q A6).1.mem kv11)) (show 57 ≠ 32 by decide)
     refine bodyPost_ret (res_R rfl _ _ (w.heap.size+1) _ rfl F12.l2.blk) rfl ?_
     have key:RR=placeF D q A6:=by rw [HR4.out,HA.out,HW.out];simp [hne]
     rw [key]
     exact F12.fin F12.k0
    ·have hne:(q.r.k != 6)=true:=by simp [hrk]
     have HE:=Lib.hid hrk
     clear hrk
     go_wp2_with (first |(go_at_call 121;(with_reducible refine (acc_at HA.out _).mono ?_);rintro e w10 ⟨rfl,hb⟩;have F10:=HF6.out.call hb;have dw:=(d_w F10.l0.blk).trans (congrArg (fun b=>some (Value.bool b)) HW.out);have rk:=ask_rk F10.l3.blk;have HF10:=Lib.hid F10;clear hb F10) |(go_at_call 168;(with_reducible refine (answer_any false _).mono ?_);rintro e w11 ⟨rfl,hb⟩;have F11:=HF10.out.call hb;have s11:=run_stRp F11.l2.blk (r:=(ans false).mem nilS) ⟨_,_,_,rfl⟩;have HF11:=Lib.hid F11;clear hb F11))
     have F12:=HF11.out.put (l:=[⟨w4.heap.size,dcs dd,34⟩,⟨N9,cs9,57⟩]) (rcs ((ans false).mem nilS)) (show 57 ≠ 32 by decide)
     refine bodyPost_ret (res_R rfl _ _ (w.heap.size+1) _ rfl F12.l2.blk) rfl ?_
     have key:RR=(ans false,A6):=by rw [HR4.out,HA.out,HW.out];simp [hne]
     rw [key]
     exact F12.fin1 rfl
  ·have HA:=Lib.hid ha
   clear ha
   go_wp2_with (first |(go_at_call 121;(with_reducible refine (acc_at HA.out _).mono ?_);rintro e w10 ⟨rfl,hb⟩;have F10:=HF6.out.call hb;have ld:=d_all F10.l0.blk;have la:=run_ldAq F10.l3.blk;have hp:=write_any HDD.out F10.wis dd q ql;have HF10:=Lib.hid F10;clear hb F10) |(go_at_call 202;(with_reducible refine hp.mono ?_);rintro e w11 ⟨M11,kv11,rfl,hks,hM,hn⟩;have hg11:=Rr.good _ hks;have SZ11:=Lib.hid hn.size;have F11:=HF10.out.post hks hM hn;have s11:=run_stRp F11.l2.blk hg11;have HF11:=Lib.hid F11;clear hks hM hn F11))
   have F12:=HF11.out.put (l:=[⟨w4.heap.size,dcs dd,34⟩,⟨N9,cs9,57⟩]) (rcs ((writeF D dd q A6).1.mem kv11)) (show 57 ≠ 32 by decide)
   refine bodyPost_ret (res_R rfl _ _ (w.heap.size+1) _ rfl F12.l2.blk) rfl ?_
   have key:RR=writeF D dd q A6:=by rw [HR4.out,HA.out];rfl
   rw [key]
   exact F12.fin F12.k0
 ·have HAB:=Lib.hid hab
  clear hab
  go_wp2_with (go_at_call 52;(with_reducible refine (abr_at HAB.out kv2 _).mono ?_);rintro e w4 ⟨rfl,hb⟩;have F4:=HF3.out.call hb;have lr:=run_ldRp F4.l0.blk;have s4:=run_stRp F4.l1.blk HG2.out;have HF4:=Lib.hid F4;clear hb F4)
  have F7:=HF4.out.put (l:=[⟨N,rcs (R1.mem kv2),57⟩]) (rcs (R1.mem kv2)) (show 57 ≠ 32 by decide)
  refine bodyPost_ret (res_R rfl _ _ (w.heap.size+1) _ rfl F7.l1.blk) rfl ?_
  have key:RR=(R1,R2):=by rw [HRR.out,HAB.out];rfl
  rw [key]
  exact F7.fin F7.k0
end
end Go.Proofs.YtkadkmnolkkhgaaGreatDoor.Mw

/-
 remove.
-/
namespace Go.Proofs.YtkadkmnolkkhgaaGreatDoor.Mw
open Go Go.RowKit Go.Maps Go.Shelf Keys Hp Mo
open Des (Vl Ds zeroV zeroD dcs dcs_size dcs_one accF rigF appF eqV)
open Arrs (En ecs)
attribute [local go_sem ↓] ldR stR alR bxR bdR ldV stV alV bxV bdV ldA stA bxA bdA ldKy bxKy bdKy ldD stD alD
attribute [local irreducible] rcs dcs ecs vcs acs kcs xcs tcs
attribute [local go_sem] run_bx run_alR run_stRg run_bdA0 run_bdAk run_bdAkr run_bdAkvr run_bdAr run_bdAkd run_bdRz run_bdRd run_bdRk run_bdRf run_bdRo run_bdRs run_bdRt' run_bdKs run_alD run_stDg
section
variable {X:Cx} {c:Nat} {M M' M'':Wm} {w w' w'':World} {A A' A'':Aw} {ls:List Lc} {kl:List (Value × List KV)} {ro:List Lc} {D:DoT}
theorem store_any' (h:WIs X c M w A):Calls Tryz.prog 100 #[ptr X.wb] w fun e w'=>e = .returned (ptr M.hb)∧w'=w:=store_world X.wb M.hb X.cl A.fuel A.deep A.depth A.deepest M.ls w h.wblk
set_option maxRecDepth 100000 in
set_option maxHeartbeats 4000000 in
theorem remove_any (HD:DoIs X D) (h:WIs X (c+1) M w A) (o:Int) {t:Th} {T:TypeId} {xb:Nat} (hx:Blk w xb (xcs o t) T) (hxo:xb ∉ M.bl X.wb) (q:Aq) (ql:Value) (hk:Fine q.k) :
  Calls Tryz.prog 174 #[ptr X.wb,ptr xb,.agg (acs q ql)] w (Post X c M w (removeF D o q A)):=by
 obtain ⟨w1,hw1⟩:∃ w1,(w.alloc (.cells (acs q ql) 52)).alloc (.cells (rcs zeroR) 57)=w1:=⟨_,rfl⟩
 have F0:Fm X (c+1) M w M w1 A [⟨w.heap.size+1,rcs zeroR,57⟩,⟨w.heap.size,acs q ql,52⟩] [] [⟨xb,xcs o t,T⟩]:=by
  rw [← hw1];exact (((Fm.start h).with hx hxo).new _ _).newg _ _ _ (by simp)
 have FB:=F0.drew
 have FA:=(F0.new (rcs zeroR) 57).drew
 have xnA:=x_num FA.r0
 have xnB:=x_num FB.r0
 have lkA:=ask_k FA.l2.blk
 have lkB:=ask_k FB.l1.blk
 have hdA:=HD _ _ _ _ 5 o { zeroQ with k:=q.k } nilS FA.wis hk (VsOut.nil _ _) (by simp [zeroQ])
 have hdB:=HD _ _ _ _ 5 o { zeroQ with k:=q.k } nilS FB.wis hk (VsOut.nil _ _) (by simp [zeroQ])
 unfold removeF
 obtain ⟨R,hR⟩:∃ R,D 5 o { zeroQ with k:=q.k } A=R:=⟨_,rfl⟩
 rw [hR] at hdA hdB ⊢
 have FA:=Lib.hid FA
 have FB:=Lib.hid FB
 have HDD:=Lib.hid (show DoIs X D from HD)
 have HKK:=Lib.hid hk
 clear F0 h hx hxo HD hk hR
 obtain ⟨R1,R2⟩:=R
 simp only at hdA hdB xnA xnB lkA lkB ⊢
 obtain ⟨RR,hRR⟩:∃ RR,RR=(if abr R1=true then (R1,R2) else if (R1.has && !R1.d.c)=true then (ans false,R2) else (ans true,dropF R2 o q.k)):=⟨_,rfl⟩
 rw [← hRR]
 have HRR:=Lib.hid hRR
 clear hRR
 go_enter Tryz.func174,Tryz.ntmps174
 go_upto_region 1 with fail
 go_cut [7] from 8 to 39 (fun s wx=>OwnAt X c M w (R1,R2) [⟨w.heap.size+1,rcs zeroR,57⟩,⟨w.heap.size,acs q ql,52⟩] [⟨xb,xcs o t,T⟩] s wx)
 case first =>
  go_region_with (first |(go_at_call 19;refine hdA.mono ?_;rintro e w2 ⟨M2,kv2,rfl,hks,hM,hn⟩;have hg2:=Rr.good _ hks;have F2:=FA.out.post hks hM hn;have s2:=run_stRp F2.l0.blk hg2;have HQ:=Lib.hid (show OwnAt X c M w (R1,R2) [⟨w.heap.size+1,rcs zeroR,57⟩,⟨w.heap.size,acs q ql,52⟩] [⟨xb,xcs o t,T⟩] (ptr w1.heap.size) _ from ⟨M2,_,kv2,rfl,F2.put (l:=[]) (rcs (R1.mem kv2)) (show 57 ≠ 32 by decide),hg2⟩);clear hks hM hn F2) |(go_at_call 19;refine hdB.mono ?_;rintro e w2 ⟨M2,kv2,rfl,hks,hM,hn⟩;have hg2:=Rr.good _ hks;have HQ:=Lib.hid (show OwnAt X c M w (R1,R2) [⟨w.heap.size+1,rcs zeroR,57⟩,⟨w.heap.size,acs q ql,52⟩] [⟨xb,xcs o t,T⟩] (ptr w2.heap.size) _ from ⟨M2,_,kv2,rfl,(FB.out.post hks hM hn).new (rcs (R1.mem kv2)) _,hg2⟩);clear hks hM hn))
  all_goals (go_wp2_with fail;go_meet;exact HQ.out)
 case rest =>
 obtain ⟨M2,N,kv2,rfl,F3,hg2⟩:=hcut
 have HG2:=Lib.hid hg2
 have lr:=run_ldRp F3.l0.blk
 have HF3:=Lib.hid F3
 clear F3 hg2 hdA hdB xnA xnB lkA lkB FA FB
 cases hab:abr R1
 ·have HAB:=Lib.hid hab
  clear hab
  cases hg:(R1.has && !R1.d.c)
  ·have HG:=Lib.hid hg
   have hq:R1.has=false∨R1.has=true∧R1.d.c=true:=by
    cases h1:R1.has <;> cases h2:R1.d.c <;> simp [h1,h2] at hg ⊢
   clear hg
   rcases hq with hh |⟨hh,hcc⟩
   ·have HH:=Lib.hid hh
    clear hh
    go_upto_region 6 with (go_at_call 52;(with_reducible refine (abr_at HAB.out kv2 _).mono ?_);rintro e w4 ⟨rfl,hb⟩;have F4:=(HF3.out.ok HAB.out).call hb;have ho:=(rm_has F4.l0.blk).trans (congrArg (fun b=>some (Value.bool b)) HH.out);have FD:=F4.drew;have xn:=x_num FD.r0;have lk:=ask_k FD.l2.blk;have hst:=store_any' FD.wis;have hdr:=wDrop FD.wis o q.k HKK.out;have HFD:=Lib.hid FD;clear FD;have HF4:=Lib.hid F4;clear hb F4)
    go_cut [] from 28 to 39 (fun wx=>∃ M6,Fm X (c+1) M w M6 wx (dropF R2 o q.k) [⟨N,rcs (R1.mem kv2),57⟩,⟨w.heap.size+1,rcs zeroR,57⟩,⟨w.heap.size,acs q ql,52⟩] [(kv2,R1.ks)] [⟨xb,xcs o t,T⟩])
    case first =>
     go_region_with (first |(go_at_call 100;(with_reducible (with_reducible refine hst.mono ?_));rintro e w3 ⟨rfl,rfl⟩) |(go_at_call 204;(with_reducible refine hdr.mono ?_);rintro e w6 ⟨⟨b6,rfl⟩,M6,hM6,h6,n6⟩;have HF6:=Lib.hid (HFD.out.next (k2:=[]) h6 n6 (fun k hk=>by cases hk));clear h6 n6 hM6))
     all_goals (go_wp2_with fail;go_meet;exact ⟨_,HF6.out⟩)
    case rest =>
    obtain ⟨M6,F6⟩:=hcut
    have HF6:=Lib.hid F6
    clear F6
    go_wp2_with (go_at_call 168;(with_reducible refine (answer_any true _).mono ?_);rintro e w7 ⟨rfl,hb⟩;have F7:=HF6.out.call hb;have s7:=run_stRp F7.l1.blk (r:=(ans true).mem nilS) ⟨_,_,_,rfl⟩;have HF7:=Lib.hid F7;clear hb F7)
    have F8:=HF7.out.put (l:=[⟨N,rcs (R1.mem kv2),57⟩]) (rcs ((ans true).mem nilS)) (show 57 ≠ 32 by decide)
    refine bodyPost_ret (res_R rfl _ _ (w.heap.size+1) _ rfl F8.l1.blk) rfl ?_
    have key:RR=(ans true,dropF R2 o q.k):=by rw [HRR.out,HAB.out,HG.out];rfl
    rw [key]
    exact F8.fin1 rfl
   ·have HH:=Lib.hid hh
    have HC:=Lib.hid hcc
    clear hh hcc
    go_upto_region 6 with (go_at_call 52;(with_reducible refine (abr_at HAB.out kv2 _).mono ?_);rintro e w4 ⟨rfl,hb⟩;have F4:=(HF3.out.ok HAB.out).call hb;have ho:=(rm_has F4.l0.blk).trans (congrArg (fun b=>some (Value.bool b)) HH.out);have dc:=(rm_dc F4.l0.blk).trans (congrArg (fun b=>some (Value.bool b)) HC.out);have FD:=F4.drew;have xn:=x_num FD.r0;have lk:=ask_k FD.l2.blk;have hst:=store_any' FD.wis;have hdr:=wDrop FD.wis o q.k HKK.out;have HFD:=Lib.hid FD;clear FD;have HF4:=Lib.hid F4;clear hb F4)
    go_cut [] from 28 to 39 (fun wx=>∃ M6,Fm X (c+1) M w M6 wx (dropF R2 o q.k) [⟨N,rcs (R1.mem kv2),57⟩,⟨w.heap.size+1,rcs zeroR,57⟩,⟨w.heap.size,acs q ql,52⟩] [(kv2,R1.ks)] [⟨xb,xcs o t,T⟩])
    case first =>
     go_region_with (first |(go_at_call 100;(with_reducible (with_reducible refine hst.mono ?_));rintro e w3 ⟨rfl,rfl⟩) |(go_at_call 204;(with_reducible refine hdr.mono ?_);rintro e w6 ⟨⟨b6,rfl⟩,M6,hM6,h6,n6⟩;have HF6:=Lib.hid (HFD.out.next (k2:=[]) h6 n6 (fun k hk=>by cases hk));clear h6 n6 hM6))
     all_goals (go_wp2_with fail;go_meet;exact ⟨_,HF6.out⟩)
    case rest =>
    obtain ⟨M6,F6⟩:=hcut
    have HF6:=Lib.hid F6
    clear F6
    go_wp2_with (go_at_call 168;(with_reducible refine (answer_any true _).mono ?_);rintro e w7 ⟨rfl,hb⟩;have F7:=HF6.out.call hb;have s7:=run_stRp F7.l1.blk (r:=(ans true).mem nilS) ⟨_,_,_,rfl⟩;have HF7:=Lib.hid F7;clear hb F7)
    have F8:=HF7.out.put (l:=[⟨N,rcs (R1.mem kv2),57⟩]) (rcs ((ans true).mem nilS)) (show 57 ≠ 32 by decide)
    refine bodyPost_ret (res_R rfl _ _ (w.heap.size+1) _ rfl F8.l1.blk) rfl ?_
    have key:RR=(ans true,dropF R2 o q.k):=by rw [HRR.out,HAB.out,HG.out];rfl
    rw [key]
    exact F8.fin1 rfl
  ·have HG:=Lib.hid hg
   have hh:R1.has=true∧R1.d.c=false:=by
    cases h1:R1.has <;> cases h2:R1.d.c <;> simp [h1,h2] at hg ⊢
   obtain ⟨hh,hcc⟩:=hh
   have HH:=Lib.hid hh
   have HC:=Lib.hid hcc
   clear hg hh hcc
   go_wp2_with (first |(go_at_call 52;(with_reducible refine (abr_at HAB.out kv2 _).mono ?_);rintro e w4 ⟨rfl,hb⟩;have F4:=(HF3.out.ok HAB.out).call hb;have ho:=(rm_has F4.l0.blk).trans (congrArg (fun b=>some (Value.bool b)) HH.out);have dc:=(rm_dc F4.l0.blk).trans (congrArg (fun b=>some (Value.bool b)) HC.out);have HF4:=Lib.hid F4;clear hb F4) |(go_at_call 168;(with_reducible refine (answer_any false _).mono ?_);rintro e w5 ⟨rfl,hb⟩;have F5:=HF4.out.call hb;have s5:=run_stRp F5.l1.blk (r:=(ans false).mem nilS) ⟨_,_,_,rfl⟩;have HF5:=Lib.hid F5;clear hb F5))
   have F7:=HF5.out.put (l:=[⟨N,rcs (R1.mem kv2),57⟩]) (rcs ((ans false).mem nilS)) (show 57 ≠ 32 by decide)
   refine bodyPost_ret (res_R rfl _ _ (w.heap.size+1) _ rfl F7.l1.blk) rfl ?_
   have key:RR=(ans false,R2):=by rw [HRR.out,HAB.out,HG.out];rfl
   rw [key]
   exact F7.fin1 rfl
 ·have HAB:=Lib.hid hab
  clear hab
  go_wp2_with (go_at_call 52;(with_reducible refine (abr_at HAB.out kv2 _).mono ?_);rintro e w4 ⟨rfl,hb⟩;have F4:=HF3.out.call hb;have lr:=run_ldRp F4.l0.blk;have s4:=run_stRp F4.l1.blk HG2.out;have HF4:=Lib.hid F4;clear hb F4)
  have F7:=HF4.out.put (l:=[⟨N,rcs (R1.mem kv2),57⟩]) (rcs (R1.mem kv2)) (show 57 ≠ 32 by decide)
  refine bodyPost_ret (res_R rfl _ _ (w.heap.size+1) _ rfl F7.l1.blk) rfl ?_
  have key:RR=(R1,R2):=by rw [HRR.out,HAB.out];rfl
  rw [key]
  exact F7.fin F7.k0
end
end Go.Proofs.YtkadkmnolkkhgaaGreatDoor.Mw

/-
 ordinarily: a prototype; is it extensible.
-/
namespace Go.Proofs.YtkadkmnolkkhgaaGreatDoor.Mw
open Go Go.RowKit Go.Maps Go.Shelf Keys Hp Mo
open Des (Vl Ds zeroV zeroD dcs dcs_size dcs_one accF rigF appF eqV)
open Arrs (En ecs)
open Rg
attribute [local go_sem ↓] ldR stR alR bxR bdR ldV stV alV bxV bdV ldA stA bxA bdA ldKy bxKy bdKy ldD stD alD bxDe
attribute [local irreducible] rcs dcs ecs vcs acs kcs xcs tcs
attribute [local go_sem] run_bx run_alR run_stRg run_bdA0 run_bdAk run_bdAkr run_bdAkvr run_bdAr run_bdAkd run_bdRz run_bdRd run_bdRk run_bdRf run_bdRo run_bdRs run_bdRt' run_bdKs run_alD run_stDg
section
variable {X:Cx} {c:Nat} {M M' M'':Wm} {w w' w'':World} {A A' A'':Aw} {ls:List Lc} {kl:List (Value × List KV)} {ro:List Lc} {D:DoT}
set_option maxRecDepth 100000 in
set_option maxHeartbeats 4000000 in
theorem ordi_proto (h:WIs X (c+2) M w A) (o:Int) {t:Th} {T:TypeId} {xb:Nat} (hx:Blk w xb (xcs o t) T) (hxo:xb ∉ M.bl X.wb) {x:Ob} (hat:at? A o=some x) (q:Aq) (ql:Value) (hk:Fine q.k) (m:Int) (hm:m=1) :
  Calls Tryz.prog 139 #[ptr X.wb,.int .i64 m,ptr xb,.agg (acs q ql)] w (Post X c M w (done t.proto,A)):=by
 obtain ⟨w1,hw1⟩:∃ w1,(w.alloc (.cells (acs q ql) 52)).alloc (.cells (rcs zeroR) 57)=w1:=⟨_,rfl⟩
 have F0:Fm X (c+2) M w M w1 A [⟨w.heap.size+1,rcs zeroR,57⟩,⟨w.heap.size,acs q ql,52⟩] [] [⟨xb,xcs o t,T⟩]:=by
  rw [← hw1];exact (((Fm.start h).with hx hxo).new _ _).newg _ _ _ (by simp)
 have d1:(m == 1)=true:=by simp [hm]
 have lx:=x_proto F0.r0
 have s1:=run_stRp F0.l0.blk (r:=(done t.proto).mem nilS) ⟨_,_,_,rfl⟩
 have F4:=F0.put (l:=[]) (rcs ((done t.proto).mem nilS)) (show 57 ≠ 32 by decide)
 have HF4:=Lib.hid F4
 clear F4 F0 h hx hxo hm
 go_enter Tryz.func139,Tryz.ntmps139
 go_wp2
 refine bodyPost_ret (res_R rfl _ _ (w.heap.size+1) _ rfl HF4.out.l0.blk) rfl ?_
 exact (HF4.out.less (c':=c+1) (by omega)).fin1 rfl
set_option maxRecDepth 100000 in
set_option maxHeartbeats 4000000 in
theorem ordi_ext (h:WIs X (c+2) M w A) (o:Int) {t:Th} {T:TypeId} {xb:Nat} (hx:Blk w xb (xcs o t) T) (hxo:xb ∉ M.bl X.wb) {x:Ob} (hat:at? A o=some x) (q:Aq) (ql:Value) (hk:Fine q.k) (m:Int) (hm:m=3) :
  Calls Tryz.prog 139 #[ptr X.wb,.int .i64 m,ptr xb,.agg (acs q ql)] w (Post X c M w (ans t.ext,A)):=by
 obtain ⟨w1,hw1⟩:∃ w1,(w.alloc (.cells (acs q ql) 52)).alloc (.cells (rcs zeroR) 57)=w1:=⟨_,rfl⟩
 have F0:Fm X (c+2) M w M w1 A [⟨w.heap.size+1,rcs zeroR,57⟩,⟨w.heap.size,acs q ql,52⟩] [] [⟨xb,xcs o t,T⟩]:=by
  rw [← hw1];exact (((Fm.start h).with hx hxo).new _ _).newg _ _ _ (by simp)
 have d1:(m == 1)=false:=by simp [hm]
 have d2:(m == 2)=false:=by simp [hm]
 have d3:(m == 3)=true:=by simp [hm]
 have lx:=x_ext F0.r0
 have HF0:=Lib.hid F0
 clear F0 h hx hxo hm
 go_enter Tryz.func139,Tryz.ntmps139
 go_wp2_with (go_at_call 168;(with_reducible refine (answer_any t.ext _).mono ?_);rintro e w2 ⟨rfl,hb⟩;have F2:=HF0.out.call hb;have s2:=run_stRp F2.l0.blk (r:=(ans t.ext).mem nilS) ⟨_,_,_,rfl⟩;have HF2:=Lib.hid F2;clear hb F2)
 have F4:=HF2.out.put (l:=[]) (rcs ((ans t.ext).mem nilS)) (show 57 ≠ 32 by decide)
 refine bodyPost_ret (res_R rfl _ _ (w.heap.size+1) _ rfl F4.l0.blk) rfl ?_
 exact (F4.less (c':=c+1) (by omega)).fin1 rfl
end
end Go.Proofs.YtkadkmnolkkhgaaGreatDoor.Mw

/-
 ordinarily: setProto, prevent, define.
-/
namespace Go.Proofs.YtkadkmnolkkhgaaGreatDoor.Mw
open Go Go.RowKit Go.Maps Go.Shelf Keys Hp Mo
open Des (Vl Ds zeroV zeroD dcs dcs_size dcs_one accF rigF appF eqV)
open Arrs (En ecs)
open Rg
attribute [local go_sem ↓] ldR stR alR bxR bdR ldV stV alV bxV bdV ldA stA bxA bdA ldKy bxKy bdKy ldD stD alD bxDe
attribute [local irreducible] rcs dcs ecs vcs acs kcs xcs tcs
attribute [local go_sem] run_bx run_alR run_stRg run_bdA0 run_bdAk run_bdAkr run_bdAkvr run_bdAr run_bdAkd run_bdRz run_bdRd run_bdRk run_bdRf run_bdRo run_bdRs run_bdRt' run_bdKs run_alD run_stDg
section
variable {X:Cx} {c:Nat} {M M' M'':Wm} {w w' w'':World} {A A' A'':Aw} {ls:List Lc} {kl:List (Value × List KV)} {ro:List Lc} {D:DoT}
set_option maxRecDepth 100000 in
set_option maxHeartbeats 4000000 in
theorem ordi_setProto (h:WIs X (c+2) M w A) (o:Int) {t:Th} {T:TypeId} {xb:Nat} (hx:Blk w xb (xcs o t) T) (hxo:xb ∉ M.bl X.wb) {x:Ob} (hat:at? A o=some x) (q:Aq) (ql:Value) (hk:Fine q.k) (m:Int) (hm:m=2) :
  Calls Tryz.prog 139 #[ptr X.wb,.int .i64 m,ptr xb,.agg (acs q ql)] w (Post X c M w (setProtoF o t q.v A)):=by
 obtain ⟨w1,hw1⟩:∃ w1,(w.alloc (.cells (acs q ql) 52)).alloc (.cells (rcs zeroR) 57)=w1:=⟨_,rfl⟩
 have F0:Fm X (c+2) M w M w1 A [⟨w.heap.size+1,rcs zeroR,57⟩,⟨w.heap.size,acs q ql,52⟩] [] [⟨xb,xcs o t,T⟩]:=by
  rw [← hw1];exact (((Fm.start h).with hx hxo).new _ _).newg _ _ _ (by simp)
 have d1:(m == 1)=false:=by simp [hm]
 have d2:(m == 2)=true:=by simp [hm]
 have F1:=F0.less (c':=c+1) (by omega)
 have av:=ask_v F1.l1.blk
 have hcall:=setProto_any F1.wis o F1.r0 F1.r0o hat q.v
 have HF:=Lib.hid F1
 clear F1
 clear F0 h hx hxo hm
 go_enter Tryz.func139,Tryz.ntmps139
 go_wp2_with (go_at_call 167;(with_reducible refine hcall.mono ?_);rintro e w3 ⟨M3,kv3,rfl,hks,hM,hn⟩;have hg3:=Rr.good _ hks;have F3:=HF.out.next (k2:=[(kv3,(setProtoF o t q.v A).1.ks)]) hM hn (fun k hk=>by rw [List.mem_singleton.1 hk];exact hks);have s3:=run_stRp F3.l0.blk hg3;have HF3:=Lib.hid F3;clear hks hM hn F3)
 have F4:=HF3.out.put (l:=[]) (rcs ((setProtoF o t q.v A).1.mem kv3)) (show 57 ≠ 32 by decide)
 refine bodyPost_ret (res_R rfl _ _ (w.heap.size+1) _ rfl F4.l0.blk) rfl ?_
 exact F4.fin F4.k0
set_option maxRecDepth 100000 in
set_option maxHeartbeats 4000000 in
theorem ordi_prevent (h:WIs X (c+2) M w A) (o:Int) {t:Th} {T:TypeId} {xb:Nat} (hx:Blk w xb (xcs o t) T) (hxo:xb ∉ M.bl X.wb) {x:Ob} (hat:at? A o=some x) (q:Aq) (ql:Value) (hk:Fine q.k) (m:Int) (hm:m=4) :
  Calls Tryz.prog 139 #[ptr X.wb,.int .i64 m,ptr xb,.agg (acs q ql)] w (Post X c M w (preventF o t A)):=by
 obtain ⟨w1,hw1⟩:∃ w1,(w.alloc (.cells (acs q ql) 52)).alloc (.cells (rcs zeroR) 57)=w1:=⟨_,rfl⟩
 have F0:Fm X (c+2) M w M w1 A [⟨w.heap.size+1,rcs zeroR,57⟩,⟨w.heap.size,acs q ql,52⟩] [] [⟨xb,xcs o t,T⟩]:=by
  rw [← hw1];exact (((Fm.start h).with hx hxo).new _ _).newg _ _ _ (by simp)
 have d1:(m == 1)=false:=by simp [hm]
 have d2:(m == 2)=false:=by simp [hm]
 have d3:(m == 3)=false:=by simp [hm]
 have d4:(m == 4)=true:=by simp [hm]
 have F1:=F0.less (c':=c+1) (by omega)
 have hcall:=prevent_any F1.wis o F1.r0 F1.r0o hat
 have HF:=Lib.hid F1
 clear F1
 clear F0 h hx hxo hm
 go_enter Tryz.func139,Tryz.ntmps139
 go_wp2_with (go_at_call 169;(with_reducible refine hcall.mono ?_);rintro e w3 ⟨M3,kv3,rfl,hks,hM,hn⟩;have hg3:=Rr.good _ hks;have F3:=HF.out.next (k2:=[(kv3,(preventF o t A).1.ks)]) hM hn (fun k hk=>by rw [List.mem_singleton.1 hk];exact hks);have s3:=run_stRp F3.l0.blk hg3;have HF3:=Lib.hid F3;clear hks hM hn F3)
 have F4:=HF3.out.put (l:=[]) (rcs ((preventF o t A).1.mem kv3)) (show 57 ≠ 32 by decide)
 refine bodyPost_ret (res_R rfl _ _ (w.heap.size+1) _ rfl F4.l0.blk) rfl ?_
 exact F4.fin F4.k0
set_option maxRecDepth 100000 in
set_option maxHeartbeats 4000000 in
theorem ordi_define (h:WIs X (c+2) M w A) (o:Int) {t:Th} {T:TypeId} {xb:Nat} (hx:Blk w xb (xcs o t) T) (hxo:xb ∉ M.bl X.wb) {x:Ob} (hat:at? A o=some x) (q:Aq) (ql:Value) (hk:Fine q.k) (m:Int) (hm:m=6) :
  Calls Tryz.prog 139 #[ptr X.wb,.int .i64 m,ptr xb,.agg (acs q ql)] w (Post X c M w (defineF o t q A)):=by
 obtain ⟨w1,hw1⟩:∃ w1,(w.alloc (.cells (acs q ql) 52)).alloc (.cells (rcs zeroR) 57)=w1:=⟨_,rfl⟩
 have F0:Fm X (c+2) M w M w1 A [⟨w.heap.size+1,rcs zeroR,57⟩,⟨w.heap.size,acs q ql,52⟩] [] [⟨xb,xcs o t,T⟩]:=by
  rw [← hw1];exact (((Fm.start h).with hx hxo).new _ _).newg _ _ _ (by simp)
 have d1:(m == 1)=false:=by simp [hm]
 have d2:(m == 2)=false:=by simp [hm]
 have d3:(m == 3)=false:=by simp [hm]
 have d4:(m == 4)=false:=by simp [hm]
 have d5:(m == 5)=false:=by simp [hm]
 have d6:(m == 6)=true:=by simp [hm]
 have la:=run_ldAq F0.l1.blk
 have hcall:=define_any F0.wis o F0.r0 F0.r0o q ql hk
 have HF:=Lib.hid F0
 clear F0 h hx hxo hm
 go_enter Tryz.func139,Tryz.ntmps139
 go_wp2_with (go_at_call 170;(with_reducible refine hcall.mono ?_);rintro e w3 ⟨M3,kv3,rfl,hks,hM,hn⟩;have hg3:=Rr.good _ hks;have F3:=HF.out.next (k2:=[(kv3,(defineF o t q A).1.ks)]) hM hn (fun k hk=>by rw [List.mem_singleton.1 hk];exact hks);have s3:=run_stRp F3.l0.blk hg3;have HF3:=Lib.hid F3;clear hks hM hn F3)
 have F4:=HF3.out.put (l:=[]) (rcs ((defineF o t q A).1.mem kv3)) (show 57 ≠ 32 by decide)
 refine bodyPost_ret (res_R rfl _ _ (w.heap.size+1) _ rfl F4.l0.blk) rfl ?_
 exact F4.fin F4.k0
end
end Go.Proofs.YtkadkmnolkkhgaaGreatDoor.Mw

/-
 ordinarily: has, get, set, remove.
-/
namespace Go.Proofs.YtkadkmnolkkhgaaGreatDoor.Mw
open Go Go.RowKit Go.Maps Go.Shelf Keys Hp Mo
open Des (Vl Ds zeroV zeroD dcs dcs_size dcs_one accF rigF appF eqV)
open Arrs (En ecs)
open Rg
attribute [local go_sem ↓] ldR stR alR bxR bdR ldV stV alV bxV bdV ldA stA bxA bdA ldKy bxKy bdKy ldD stD alD bxDe
attribute [local irreducible] rcs dcs ecs vcs acs kcs xcs tcs
attribute [local go_sem] run_bx run_alR run_stRg run_bdA0 run_bdAk run_bdAkr run_bdAkvr run_bdAr run_bdAkd run_bdRz run_bdRd run_bdRk run_bdRf run_bdRo run_bdRs run_bdRt' run_bdKs run_alD run_stDg
section
variable {X:Cx} {c:Nat} {M M' M'':Wm} {w w' w'':World} {A A' A'':Aw} {ls:List Lc} {kl:List (Value × List KV)} {ro:List Lc} {D:DoT}
set_option maxRecDepth 100000 in
set_option maxHeartbeats 4000000 in
theorem ordi_has (HD:DoIs X D) (h:WIs X (c+2) M w A) (o:Int) {t:Th} {T:TypeId} {xb:Nat} (hx:Blk w xb (xcs o t) T) (hxo:xb ∉ M.bl X.wb) {x:Ob} (hat:at? A o=some x) (q:Aq) (ql:Value) (hk:Fine q.k) (m:Int) (hm:m=7) :
  Calls Tryz.prog 139 #[ptr X.wb,.int .i64 m,ptr xb,.agg (acs q ql)] w (Post X c M w (hasF D o q A)):=by
 obtain ⟨w1,hw1⟩:∃ w1,(w.alloc (.cells (acs q ql) 52)).alloc (.cells (rcs zeroR) 57)=w1:=⟨_,rfl⟩
 have F0:Fm X (c+2) M w M w1 A [⟨w.heap.size+1,rcs zeroR,57⟩,⟨w.heap.size,acs q ql,52⟩] [] [⟨xb,xcs o t,T⟩]:=by
  rw [← hw1];exact (((Fm.start h).with hx hxo).new _ _).newg _ _ _ (by simp)
 have d1:(m == 1)=false:=by simp [hm]
 have d2:(m == 2)=false:=by simp [hm]
 have d3:(m == 3)=false:=by simp [hm]
 have d4:(m == 4)=false:=by simp [hm]
 have d5:(m == 5)=false:=by simp [hm]
 have d6:(m == 6)=false:=by simp [hm]
 have d7:(m == 7)=true:=by simp [hm]
 have F1:=F0.less (c':=c+1) (by omega)
 have la:=run_ldAq F1.l1.blk
 have hcall:=has_any HD F1.wis o F1.r0 F1.r0o q ql hk
 have HF:=Lib.hid F1
 clear F1
 clear F0 h hx hxo hm HD
 go_enter Tryz.func139,Tryz.ntmps139
 go_wp2_with (go_at_call 171;(with_reducible refine hcall.mono ?_);rintro e w3 ⟨M3,kv3,rfl,hks,hM,hn⟩;have hg3:=Rr.good _ hks;have F3:=HF.out.next (k2:=[(kv3,(hasF D o q A).1.ks)]) hM hn (fun k hk=>by rw [List.mem_singleton.1 hk];exact hks);have s3:=run_stRp F3.l0.blk hg3;have HF3:=Lib.hid F3;clear hks hM hn F3)
 have F4:=HF3.out.put (l:=[]) (rcs ((hasF D o q A).1.mem kv3)) (show 57 ≠ 32 by decide)
 refine bodyPost_ret (res_R rfl _ _ (w.heap.size+1) _ rfl F4.l0.blk) rfl ?_
 exact F4.fin F4.k0
set_option maxRecDepth 100000 in
set_option maxHeartbeats 4000000 in
theorem ordi_get (HD:DoIs X D) (h:WIs X (c+2) M w A) (o:Int) {t:Th} {T:TypeId} {xb:Nat} (hx:Blk w xb (xcs o t) T) (hxo:xb ∉ M.bl X.wb) {x:Ob} (hat:at? A o=some x) (q:Aq) (ql:Value) (hk:Fine q.k) (m:Int) (hm:m=8) :
  Calls Tryz.prog 139 #[ptr X.wb,.int .i64 m,ptr xb,.agg (acs q ql)] w (Post X c M w (getF D o q A)):=by
 obtain ⟨w1,hw1⟩:∃ w1,(w.alloc (.cells (acs q ql) 52)).alloc (.cells (rcs zeroR) 57)=w1:=⟨_,rfl⟩
 have F0:Fm X (c+2) M w M w1 A [⟨w.heap.size+1,rcs zeroR,57⟩,⟨w.heap.size,acs q ql,52⟩] [] [⟨xb,xcs o t,T⟩]:=by
  rw [← hw1];exact (((Fm.start h).with hx hxo).new _ _).newg _ _ _ (by simp)
 have d1:(m == 1)=false:=by simp [hm]
 have d2:(m == 2)=false:=by simp [hm]
 have d3:(m == 3)=false:=by simp [hm]
 have d4:(m == 4)=false:=by simp [hm]
 have d5:(m == 5)=false:=by simp [hm]
 have d6:(m == 6)=false:=by simp [hm]
 have d7:(m == 7)=false:=by simp [hm]
 have d8:(m == 8)=true:=by simp [hm]
 have F1:=F0.less (c':=c+1) (by omega)
 have la:=run_ldAq F1.l1.blk
 have hcall:=get_any HD F1.wis o F1.r0 F1.r0o q ql hk
 have HF:=Lib.hid F1
 clear F1
 clear F0 h hx hxo hm HD
 go_enter Tryz.func139,Tryz.ntmps139
 go_wp2_with (go_at_call 172;(with_reducible refine hcall.mono ?_);rintro e w3 ⟨M3,kv3,rfl,hks,hM,hn⟩;have hg3:=Rr.good _ hks;have F3:=HF.out.next (k2:=[(kv3,(getF D o q A).1.ks)]) hM hn (fun k hk=>by rw [List.mem_singleton.1 hk];exact hks);have s3:=run_stRp F3.l0.blk hg3;have HF3:=Lib.hid F3;clear hks hM hn F3)
 have F4:=HF3.out.put (l:=[]) (rcs ((getF D o q A).1.mem kv3)) (show 57 ≠ 32 by decide)
 refine bodyPost_ret (res_R rfl _ _ (w.heap.size+1) _ rfl F4.l0.blk) rfl ?_
 exact F4.fin F4.k0
set_option maxRecDepth 100000 in
set_option maxHeartbeats 4000000 in
theorem ordi_set (HD:DoIs X D) (h:WIs X (c+2) M w A) (o:Int) {t:Th} {T:TypeId} {xb:Nat} (hx:Blk w xb (xcs o t) T) (hxo:xb ∉ M.bl X.wb) {x:Ob} (hat:at? A o=some x) (q:Aq) (ql:Value) (hk:Fine q.k) (m:Int) (hm:m=9) :
  Calls Tryz.prog 139 #[ptr X.wb,.int .i64 m,ptr xb,.agg (acs q ql)] w (Post X c M w (setF D o q A)):=by
 obtain ⟨w1,hw1⟩:∃ w1,(w.alloc (.cells (acs q ql) 52)).alloc (.cells (rcs zeroR) 57)=w1:=⟨_,rfl⟩
 have F0:Fm X (c+2) M w M w1 A [⟨w.heap.size+1,rcs zeroR,57⟩,⟨w.heap.size,acs q ql,52⟩] [] [⟨xb,xcs o t,T⟩]:=by
  rw [← hw1];exact (((Fm.start h).with hx hxo).new _ _).newg _ _ _ (by simp)
 have d1:(m == 1)=false:=by simp [hm]
 have d2:(m == 2)=false:=by simp [hm]
 have d3:(m == 3)=false:=by simp [hm]
 have d4:(m == 4)=false:=by simp [hm]
 have d5:(m == 5)=false:=by simp [hm]
 have d6:(m == 6)=false:=by simp [hm]
 have d7:(m == 7)=false:=by simp [hm]
 have d8:(m == 8)=false:=by simp [hm]
 have d9:(m == 9)=true:=by simp [hm]
 have F1:=F0.less (c':=c+1) (by omega)
 have la:=run_ldAq F1.l1.blk
 have hcall:=set_any HD F1.wis o F1.r0 F1.r0o q ql hk
 have HF:=Lib.hid F1
 clear F1
 clear F0 h hx hxo hm HD
 go_enter Tryz.func139,Tryz.ntmps139
 go_wp2_with (go_at_call 173;(with_reducible refine hcall.mono ?_);rintro e w3 ⟨M3,kv3,rfl,hks,hM,hn⟩;have hg3:=Rr.good _ hks;have F3:=HF.out.next (k2:=[(kv3,(setF D o q A).1.ks)]) hM hn (fun k hk=>by rw [List.mem_singleton.1 hk];exact hks);have s3:=run_stRp F3.l0.blk hg3;have HF3:=Lib.hid F3;clear hks hM hn F3)
 have F4:=HF3.out.put (l:=[]) (rcs ((setF D o q A).1.mem kv3)) (show 57 ≠ 32 by decide)
 refine bodyPost_ret (res_R rfl _ _ (w.heap.size+1) _ rfl F4.l0.blk) rfl ?_
 exact F4.fin F4.k0
set_option maxRecDepth 100000 in
set_option maxHeartbeats 4000000 in
theorem ordi_remove (HD:DoIs X D) (h:WIs X (c+2) M w A) (o:Int) {t:Th} {T:TypeId} {xb:Nat} (hx:Blk w xb (xcs o t) T) (hxo:xb ∉ M.bl X.wb) {x:Ob} (hat:at? A o=some x) (q:Aq) (ql:Value) (hk:Fine q.k) (m:Int) (hm:m=10) :
  Calls Tryz.prog 139 #[ptr X.wb,.int .i64 m,ptr xb,.agg (acs q ql)] w (Post X c M w (removeF D o q A)):=by
 obtain ⟨w1,hw1⟩:∃ w1,(w.alloc (.cells (acs q ql) 52)).alloc (.cells (rcs zeroR) 57)=w1:=⟨_,rfl⟩
 have F0:Fm X (c+2) M w M w1 A [⟨w.heap.size+1,rcs zeroR,57⟩,⟨w.heap.size,acs q ql,52⟩] [] [⟨xb,xcs o t,T⟩]:=by
  rw [← hw1];exact (((Fm.start h).with hx hxo).new _ _).newg _ _ _ (by simp)
 have d1:(m == 1)=false:=by simp [hm]
 have d2:(m == 2)=false:=by simp [hm]
 have d3:(m == 3)=false:=by simp [hm]
 have d4:(m == 4)=false:=by simp [hm]
 have d5:(m == 5)=false:=by simp [hm]
 have d6:(m == 6)=false:=by simp [hm]
 have d7:(m == 7)=false:=by simp [hm]
 have d8:(m == 8)=false:=by simp [hm]
 have d9:(m == 9)=false:=by simp [hm]
 have d10:(m == 10)=true:=by simp [hm]
 have F1:=F0.less (c':=c+1) (by omega)
 have la:=run_ldAq F1.l1.blk
 have hcall:=remove_any HD F1.wis o F1.r0 F1.r0o q ql hk
 have HF:=Lib.hid F1
 clear F1
 clear F0 h hx hxo hm HD
 go_enter Tryz.func139,Tryz.ntmps139
 go_wp2_with (go_at_call 174;(with_reducible refine hcall.mono ?_);rintro e w3 ⟨M3,kv3,rfl,hks,hM,hn⟩;have hg3:=Rr.good _ hks;have F3:=HF.out.next (k2:=[(kv3,(removeF D o q A).1.ks)]) hM hn (fun k hk=>by rw [List.mem_singleton.1 hk];exact hks);have s3:=run_stRp F3.l0.blk hg3;have HF3:=Lib.hid F3;clear hks hM hn F3)
 have F4:=HF3.out.put (l:=[]) (rcs ((removeF D o q A).1.mem kv3)) (show 57 ≠ 32 by decide)
 refine bodyPost_ret (res_R rfl _ _ (w.heap.size+1) _ rfl F4.l0.blk) rfl ?_
 exact F4.fin F4.k0
end
end Go.Proofs.YtkadkmnolkkhgaaGreatDoor.Mw
