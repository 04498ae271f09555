/-
 place.
-/
import Derived.Test.YtkadkmnolkkhgaaGreatDoorMb21
set_option linter.unusedVariables false
set_option linter.unusedSimpArgs false
namespace Go.Proofs.YtkadkmnolkkhgaaGreatDoor.Mw
open Go Go.RowKit Go.Maps Go.Shelf Keys Hp Mo
open Des (Vl Ds zeroV zeroD dcs dcs_size dcs_one accF rigF appF eqV)
open Arrs (En ecs)
attribute [local go_sem ↓] ldR stR alR bxR bdR ldV stV alV bxV bdV ldA stA bxA bdA ldKy bxKy bdKy ldD stD alD bxDe bsV bdD
attribute [local irreducible] rcs dcs ecs vcs acs kcs xcs tcs
attribute [local go_sem] run_bx run_alR run_stRg run_bdA0 run_bdAk run_bdAkr run_bdAkvr run_bdAr run_bdAkd run_bdRz run_bdRd run_bdRk run_bdRf run_bdRo run_bdRs run_bdRt' run_bdKs run_alD run_stDg
section
variable {X:Cx} {c:Nat} {M M' M'':Wm} {w w' w'':World} {A A' A'':Aw} {ls:List Lc} {kl:List (Value × List KV)} {ro:List Lc} {D:DoT}
set_option maxRecDepth 100000 in
set_option maxHeartbeats 4000000 in
theorem place_any (HD:DoIs X D) (h:WIs X (c+1) M w A) (q:Aq) (ql:Value) (hk:Fine q.k) :
  Calls Tryz.prog 203 #[ptr X.wb,.agg (acs q ql)] w (Post X c M w (placeF D q A)):=by
 obtain ⟨w1,hw1⟩:∃ w1,(w.alloc (.cells (acs q ql) 52)).alloc (.cells (rcs zeroR) 57)=w1:=⟨_,rfl⟩
 have F0:Fm X (c+1) M w M w1 A [⟨w.heap.size+1,rcs zeroR,57⟩,⟨w.heap.size,acs q ql,52⟩] [] []:=by
  rw [← hw1];exact ((Fm.start h).new _ _).newg _ _ _ (by simp)
 have ar:=ask_r F0.l1.blk
 have ak:=ask_k F0.l1.blk
 have hd:=ask_any HD F0.wis 5 q.r { zeroQ with k:=q.k } nilS hk (VsOut.nil _ _) (by simp [zeroQ])
 unfold placeF
 have hda:∀ w:World,Calls Tryz.prog 72 #[.agg (vcs q.v),.bool true,.bool true,.bool true] w fun e w'=>e = .returned (.agg (dcs (wholeD q.v true true true)))∧Below w.heap.size w w':=fun w=>data_anyv q.v true true true w
 have hbz:∀ w:World,(Bd 34 #[(0,.bool true),(6,.agg (vcs q.v))]).run Tryz.prog w = .ok (.agg (dcs { zeroD with hv:=true,v:=q.v })) w:=fun w=>run_bdDv w q.v
 obtain ⟨wd,hwd⟩:∃ wd,wd=wholeD q.v true true true:=⟨_,rfl⟩
 obtain ⟨zd,hzd⟩:∃ zd:Ds,zd={ zeroD with hv:=true,v:=q.v }:=⟨_,rfl⟩
 rw [← hwd] at hda
 rw [← hzd] at hbz
 have HDA:=Lib.hid hda
 clear hda
 simp only [← hwd,← hzd]
 clear hwd hzd
 obtain ⟨R,hR⟩:∃ R,askF D 5 q.r { zeroQ with k:=q.k } A=R:=⟨_,rfl⟩
 rw [hR] at hd ⊢
 obtain ⟨R1,R2⟩:=R
 simp only at hd ⊢
 obtain ⟨RR,hRR⟩:∃ RR,RR=(if abr R1=true then (R1,R2) else if (R1.has && (accF R1.d || !R1.d.w))=true then (ans false,R2) else askF D 6 q.r { zeroQ with k:=q.k,d:=if R1.has=true then zd else wd } R2):=⟨_,rfl⟩
 rw [← hRR]
 have HRR:=Lib.hid hRR
 have HF0:=Lib.hid F0
 have HDD:=Lib.hid (show DoIs X D from HD)
 have HKK:=Lib.hid hk
 clear F0 h HD hk hR hRR
 go_enter Tryz.func203,Tryz.ntmps203
 cases hab:abr R1
 ·have HAB:=Lib.hid hab
  clear hab
  cases hh:R1.has
  ·have HH:=Lib.hid hh
   clear hh
   go_wp2_with (first |(go_at_call 118;(with_reducible refine hd.mono ?_);rintro e w2 ⟨M2,kv2,rfl,hks,hM,hn⟩;have hg2:=Rr.good _ hks;have SZ2:=Lib.hid hn.size;have F2:=(HF0.out.post hks hM hn).new (rcs (R1.mem kv2)) 57;have lr:=run_ldRp F2.l0.blk;have HF2:=Lib.hid F2;clear hks hM hn F2) |(go_at_call 52;(with_reducible refine (abr_at HAB.out kv2 _).mono ?_);rintro e w4 ⟨rfl,hb⟩;have F4:=(HF2.out.ok HAB.out).call hb;have av:=ask_v F4.l2.blk;have HF4:=Lib.hid F4;clear hb F4) |(go_at_call 72;(with_reducible refine (HDA.out _).mono ?_);rintro e w5 ⟨rfl,hb⟩;have F6:=(HF4.out.call hb).new (dcs wd) 34;have ho:=(rm_has F6.l1.blk).trans (congrArg (fun b=>some (Value.bool b)) HH.out);have ld6:=d_all F6.l0.blk;have ar6:=ask_r F6.l3.blk;have ak6:=ask_k F6.l3.blk;have hd2:=ask_any HDD.out F6.wis 6 q.r { zeroQ with k:=q.k,d:=wd } nilS HKK.out (VsOut.nil _ _) (by simp [zeroQ]);have HF6:=Lib.hid F6;clear hb F6) |(go_at_call 118;(with_reducible refine hd2.mono ?_);rintro e w7 ⟨M7,kv7,rfl,hks,hM,hn⟩;have hg7:=Rr.good _ hks;have SZ7:=Lib.hid hn.size;have F7:=HF6.out.post hks hM hn;have s7:=run_stRp F7.l2.blk hg7;have HF7:=Lib.hid F7;clear hks hM hn F7))
   have F8:=HF7.out.put (l:=[⟨w5.heap.size,dcs wd,34⟩,⟨w2.heap.size,rcs (R1.mem kv2),57⟩]) (rcs ((askF D 6 q.r { zeroQ with k:=q.k,d:=wd } R2).1.mem kv7)) (show 57 ≠ 32 by decide)
   refine bodyPost_ret (res_R rfl _ _ (w.heap.size+1) _ rfl F8.l2.blk) rfl ?_
   have key:RR=askF D 6 q.r { zeroQ with k:=q.k,d:=wd } R2:=by rw [HRR.out,HAB.out,HH.out];rfl
   rw [key]
   exact F8.fin F8.k0
  ·have HH:=Lib.hid hh
   clear hh
   cases ha:accF R1.d
   ·have HA:=Lib.hid ha
    clear ha
    cases hwr:R1.d.w
    ·have HW:=Lib.hid hwr
     clear hwr
     go_wp2_with (first |(go_at_call 118;(with_reducible refine hd.mono ?_);rintro e w2 ⟨M2,kv2,rfl,hks,hM,hn⟩;have hg2:=Rr.good _ hks;have SZ2:=Lib.hid hn.size;have F2:=(HF0.out.post hks hM hn).new (rcs (R1.mem kv2)) 57;have lr:=run_ldRp F2.l0.blk;have HF2:=Lib.hid F2;clear hks hM hn F2) |(go_at_call 52;(with_reducible refine (abr_at HAB.out kv2 _).mono ?_);rintro e w4 ⟨rfl,hb⟩;have F4:=(HF2.out.ok HAB.out).call hb;have av:=ask_v F4.l2.blk;have HF4:=Lib.hid F4;clear hb F4) |(go_at_call 72;(with_reducible refine (HDA.out _).mono ?_);rintro e w5 ⟨rfl,hb⟩;have F6:=(HF4.out.call hb).new (dcs wd) 34;have ho:=(rm_has F6.l1.blk).trans (congrArg (fun b=>some (Value.bool b)) HH.out);have ld6:=rm_d F6.l1.blk;have HF6:=Lib.hid F6;clear hb F6) |(go_at_call 121;(with_reducible refine (acc_at HA.out _).mono ?_);rintro e w7 ⟨rfl,hb⟩;have F7:=HF6.out.call hb;have dw:=(rm_dw F7.l1.blk).trans (congrArg (fun b=>some (Value.bool b)) HW.out);have HF7:=Lib.hid F7;clear hb F7) |(go_at_call 168;(with_reducible refine (answer_any false _).mono ?_);rintro e w8 ⟨rfl,hb⟩;have F8:=HF7.out.call hb;have s8:=run_stRp F8.l2.blk (r:=(ans false).mem nilS) ⟨_,_,_,rfl⟩;have HF8:=Lib.hid F8;clear hb F8))
     have F9:=HF8.out.put (l:=[⟨w5.heap.size,dcs wd,34⟩,⟨w2.heap.size,rcs (R1.mem kv2),57⟩]) (rcs ((ans false).mem nilS)) (show 57 ≠ 32 by decide)
     refine bodyPost_ret (res_R rfl _ _ (w.heap.size+1) _ rfl F9.l2.blk) rfl ?_
     have key:RR=(ans false,R2):=by rw [HRR.out,HAB.out,HH.out,HA.out,HW.out];rfl
     rw [key]
     exact F9.fin1 rfl
    ·have HW:=Lib.hid hwr
     clear hwr
     go_wp2_with (first |(go_at_call 118;(with_reducible refine hd.mono ?_);rintro e w2 ⟨M2,kv2,rfl,hks,hM,hn⟩;have hg2:=Rr.good _ hks;have SZ2:=Lib.hid hn.size;have F2:=(HF0.out.post hks hM hn).new (rcs (R1.mem kv2)) 57;have lr:=run_ldRp F2.l0.blk;have HF2:=Lib.hid F2;clear hks hM hn F2) |(go_at_call 52;(with_reducible refine (abr_at HAB.out kv2 _).mono ?_);rintro e w4 ⟨rfl,hb⟩;have F4:=(HF2.out.ok HAB.out).call hb;have av:=ask_v F4.l2.blk;have HF4:=Lib.hid F4;clear hb F4) |(go_at_call 72;(with_reducible refine (HDA.out _).mono ?_);rintro e w5 ⟨rfl,hb⟩;have F6:=(HF4.out.call hb).new (dcs wd) 34;have ho:=(rm_has F6.l1.blk).trans (congrArg (fun b=>some (Value.bool b)) HH.out);have ld6:=rm_d F6.l1.blk;have HF6:=Lib.hid F6;clear hb F6) |(go_at_call 121;(with_reducible refine (acc_at HA.out _).mono ?_);rintro e w7 ⟨rfl,hb⟩;have F7:=HF6.out.call hb;have dw:=(rm_dw F7.l1.blk).trans (congrArg (fun b=>some (Value.bool b)) HW.out);have av7:=ask_v F7.l3.blk;have s7:=run_stDp (r:=zd) F7.l0.blk;have F8:=F7.put (l:=[]) (dcs zd) (show 34 ≠ 32 by decide);have ar8:=ask_r F8.l3.blk;have ak8:=ask_k F8.l3.blk;have ld8:=d_all F8.l0.blk;have hd2:=ask_any HDD.out F8.wis 6 q.r { zeroQ with k:=q.k,d:=zd } nilS HKK.out (VsOut.nil _ _) (by simp [zeroQ]);have HF8:=Lib.hid F8;clear F8;have HF7:=Lib.hid F7;clear hb F7) |(go_at_call 118;(with_reducible refine hd2.mono ?_);rintro e w9 ⟨M9,kv9,rfl,hks,hM,hn⟩;have hg9:=Rr.good _ hks;have SZ9:=Lib.hid hn.size;have F9:=HF8.out.post hks hM hn;have s9:=run_stRp F9.l2.blk hg9;have HF9:=Lib.hid F9;clear hks hM hn F9))
     have F10:=HF9.out.put (l:=[⟨w5.heap.size,dcs zd,34⟩,⟨w2.heap.size,rcs (R1.mem kv2),57⟩]) (rcs ((askF D 6 q.r { zeroQ with k:=q.k,d:=zd } R2).1.mem kv9)) (show 57 ≠ 32 by decide)
     refine bodyPost_ret (res_R rfl _ _ (w.heap.size+1) _ rfl F10.l2.blk) rfl ?_
     have key:RR=askF D 6 q.r { zeroQ with k:=q.k,d:=zd } R2:=by rw [HRR.out,HAB.out,HH.out,HA.out,HW.out];rfl
     rw [key]
     exact F10.fin F10.k0
   ·have HA:=Lib.hid ha
    clear ha
    go_wp2_with (first |(go_at_call 118;(with_reducible refine hd.mono ?_);rintro e w2 ⟨M2,kv2,rfl,hks,hM,hn⟩;have hg2:=Rr.good _ hks;have SZ2:=Lib.hid hn.size;have F2:=(HF0.out.post hks hM hn).new (rcs (R1.mem kv2)) 57;have lr:=run_ldRp F2.l0.blk;have HF2:=Lib.hid F2;clear hks hM hn F2) |(go_at_call 52;(with_reducible refine (abr_at HAB.out kv2 _).mono ?_);rintro e w4 ⟨rfl,hb⟩;have F4:=(HF2.out.ok HAB.out).call hb;have av:=ask_v F4.l2.blk;have HF4:=Lib.hid F4;clear hb F4) |(go_at_call 72;(with_reducible refine (HDA.out _).mono ?_);rintro e w5 ⟨rfl,hb⟩;have F6:=(HF4.out.call hb).new (dcs wd) 34;have ho:=(rm_has F6.l1.blk).trans (congrArg (fun b=>some (Value.bool b)) HH.out);have ld6:=rm_d F6.l1.blk;have HF6:=Lib.hid F6;clear hb F6) |(go_at_call 121;(with_reducible refine (acc_at HA.out _).mono ?_);rintro e w7 ⟨rfl,hb⟩;have F7:=HF6.out.call hb;have HF7:=Lib.hid F7;clear hb F7) |(go_at_call 168;(with_reducible refine (answer_any false _).mono ?_);rintro e w8 ⟨rfl,hb⟩;have F8:=HF7.out.call hb;have s8:=run_stRp F8.l2.blk (r:=(ans false).mem nilS) ⟨_,_,_,rfl⟩;have HF8:=Lib.hid F8;clear hb F8))
    have F9:=HF8.out.put (l:=[⟨w5.heap.size,dcs wd,34⟩,⟨w2.heap.size,rcs (R1.mem kv2),57⟩]) (rcs ((ans false).mem nilS)) (show 57 ≠ 32 by decide)
    refine bodyPost_ret (res_R rfl _ _ (w.heap.size+1) _ rfl F9.l2.blk) rfl ?_
    have key:RR=(ans false,R2):=by rw [HRR.out,HAB.out,HH.out,HA.out];rfl
    rw [key]
    exact F9.fin1 rfl
 ·have HAB:=Lib.hid hab
  clear hab
  go_wp2_with (first |(go_at_call 118;(with_reducible refine hd.mono ?_);rintro e w2 ⟨M2,kv2,rfl,hks,hM,hn⟩;have hg2:=Rr.good _ hks;have SZ2:=Lib.hid hn.size;have F2:=(HF0.out.post hks hM hn).new (rcs (R1.mem kv2)) 57;have lr:=run_ldRp F2.l0.blk;have HF2:=Lib.hid F2;clear hks hM hn F2) |(go_at_call 52;(with_reducible refine (abr_at HAB.out kv2 _).mono ?_);rintro e w4 ⟨rfl,hb⟩;have F4:=HF2.out.call hb;have lr:=run_ldRp F4.l0.blk;have s4:=run_stRp F4.l1.blk hg2;have HF4:=Lib.hid F4;clear hb F4))
  have F7:=HF4.out.put (l:=[⟨w2.heap.size,rcs (R1.mem kv2),57⟩]) (rcs (R1.mem kv2)) (show 57 ≠ 32 by decide)
  refine bodyPost_ret (res_R rfl _ _ (w.heap.size+1) _ rfl F7.l1.blk) rfl ?_
  have key:RR=(R1,R2):=by rw [HRR.out,HAB.out];rfl
  rw [key]
  exact F7.fin F7.k0
end
end Go.Proofs.YtkadkmnolkkhgaaGreatDoor.Mw
