/-
 Texts of this seat in build order: MwHas, MwRead, MwBs.
-/
import Derived.Test.YtkadkmnolkkhgaaGreatDoorMb20
import Derived.Deep.DeepCutAuto
import Derived.Test.YtkadkmnolkkhgaaGreatDoorMb05
/-
 has.
-/
set_option linter.unusedVariables false
set_option linter.unusedSimpArgs false
namespace Go.Proofs.YtkadkmnolkkhgaaGreatDoor.Mw
open Go Go.RowKit Go.Maps Go.Shelf Keys Hp Mo
open Des (Vl Ds zeroV zeroD dcs dcs_size dcs_one accF rigF appF eqV)
open Arrs (En ecs)
attribute [local go_sem ↓] ldR stR alR bxR bdR ldV stV alV bxV bdV ldA stA bxA bdA ldKy bxKy bdKy 
attribute [local irreducible] rcs dcs ecs vcs acs kcs xcs tcs
attribute [local go_sem] run_bx run_alR run_stRg run_bdA0 run_bdAk run_bdAkr run_bdAkvr run_bdAr run_bdArl run_bdAkd run_bdRz run_bdRd run_bdRk run_bdRf run_bdRo run_bdRs run_bdRt' run_bdKs 
section
variable {X:Cx} {c:Nat} {M M' M'':Wm} {w w' w'':World} {A A' A'':Aw} {ls:List Lc} {kl:List (Value × List KV)} {ro:List Lc} {D:DoT}
theorem Fm.postB (F:Fm X (c+1) M w M' w' A' ls kl ro) {R:(Rr × Bool) × Aw} {kv:Value} (hks:KsOut (M''.bl X.wb) w'' kv R.1.1.ks) (hM:WIs X (cr R.1.1 c) M'' w'' R.2) (hn:Nx (M'.bl X.wb) w' (M''.bl X.wb) w''):Fm X (cr R.1.1 c) M w M'' w'' R.2 ls ((kv,R.1.1.ks) :: kl) ro :=
 F.next (k2:=[(kv,R.1.1.ks)]) hM hn fun k hk=>by rw [List.mem_singleton.1 hk];exact hks
def OwnAt (X:Cx) (c:Nat) (M:Wm) (w:World) (R:Rr × Aw) (ls:List Lc) (ro:List Lc) (s:Value) (wx:World):Prop:=∃ M2 N kv,s=ptr N∧Fm X (cr R.1 c) M w M2 wx R.2 (⟨N,rcs (R.1.mem kv),57⟩ :: ls) [(kv,R.1.ks)] ro∧(R.1.mem kv).good
set_option maxRecDepth 100000 in
set_option maxHeartbeats 4000000 in
theorem has_any (HD:DoIs X D) (h:WIs X (c+1) M w A) (o:Int) {t:Th} {T:TypeId} {xb:Nat} (hx:Blk w xb (xcs o t) T) (hxo:xb ∉ M.bl X.wb) (q:Aq) (ql:Value) (hk:Fine q.k) :
  Calls Tryz.prog 171 #[ptr X.wb,ptr xb,.agg (acs q ql)] w (Post X c M w (hasF D o q A)):=by
 obtain ⟨w1,hw1⟩:∃ w1,(w.alloc (.cells (acs q ql) 52)).alloc (.cells (rcs zeroR) 57)=w1:=⟨_,rfl⟩
 have F0:Fm X (c+1) M w M w1 A [⟨w.heap.size+1,rcs zeroR,57⟩,⟨w.heap.size,acs q ql,52⟩] [] [⟨xb,xcs o t,T⟩]:=by
  rw [← hw1];exact (((Fm.start h).with hx hxo).new _ _).newg _ _ _ (by simp)
 have FB:=F0.drew
 have FA:=(F0.new (rcs zeroR) 57).drew
 have xnA:=x_num FA.r0
 have xnB:=x_num FB.r0
 have lkA:=ask_k FA.l2.blk
 have lkB:=ask_k FB.l1.blk
 have hdA:=HD _ _ _ _ 5 o { zeroQ with k:=q.k } nilS FA.wis hk (VsOut.nil _ _) (by simp [zeroQ])
 have hdB:=HD _ _ _ _ 5 o { zeroQ with k:=q.k } nilS FB.wis hk (VsOut.nil _ _) (by simp [zeroQ])
 unfold hasF
 obtain ⟨R,hR⟩:∃ R,D 5 o { zeroQ with k:=q.k } A=R:=⟨_,rfl⟩
 rw [hR] at hdA hdB ⊢
 have FA:=Lib.hid FA
 have FB:=Lib.hid FB
 have HDD:=Lib.hid (show DoIs X D from HD)
 have HKK:=Lib.hid hk
 clear F0 h hx hxo HD hk hR
 obtain ⟨R1,R2⟩:=R
 simp only at hdA hdB xnA xnB lkA lkB ⊢
 obtain ⟨RR,hRR⟩:∃ RR,RR=(if abr R1=true then (R1,R2) else if R1.has=true then (ans true,R2) else match inherF D 7 o { zeroQ with k:=q.k } R2 with |((r,_),A)=>(r,A)):=⟨_,rfl⟩
 rw [← hRR]
 have HRR:=Lib.hid hRR
 clear hRR
 go_enter Tryz.func171,Tryz.ntmps171
 go_upto_region 1 with fail
 go_cut [7] from 8 to 35 (fun s wx=>OwnAt X c M w (R1,R2) [⟨w.heap.size+1,rcs zeroR,57⟩,⟨w.heap.size,acs q ql,52⟩] [⟨xb,xcs o t,T⟩] s wx)
 case first =>
  go_region_with (first |(go_at_call 19;refine hdA.mono ?_;rintro e w2 ⟨M2,kv2,rfl,hks,hM,hn⟩;have hg2:=Rr.good _ hks;have F2:=FA.out.post hks hM hn;have s2:=run_stRp F2.l0.blk hg2;have HQ:=Lib.hid (show OwnAt X c M w (R1,R2) [⟨w.heap.size+1,rcs zeroR,57⟩,⟨w.heap.size,acs q ql,52⟩] [⟨xb,xcs o t,T⟩] (ptr w1.heap.size) _ from ⟨M2,_,kv2,rfl,F2.put (l:=[]) (rcs (R1.mem kv2)) (show 57 ≠ 32 by decide),hg2⟩);clear hks hM hn F2) |(go_at_call 19;refine hdB.mono ?_;rintro e w2 ⟨M2,kv2,rfl,hks,hM,hn⟩;have hg2:=Rr.good _ hks;have HQ:=Lib.hid (show OwnAt X c M w (R1,R2) [⟨w.heap.size+1,rcs zeroR,57⟩,⟨w.heap.size,acs q ql,52⟩] [⟨xb,xcs o t,T⟩] (ptr w2.heap.size) _ from ⟨M2,_,kv2,rfl,(FB.out.post hks hM hn).new (rcs (R1.mem kv2)) _,hg2⟩);clear hks hM hn))
  all_goals (go_wp2_with fail;go_meet;exact HQ.out)
 case rest =>
 obtain ⟨M2,N,kv2,rfl,F3,hg2⟩:=hcut
 have HG2:=Lib.hid hg2
 have lr:=run_ldRp F3.l0.blk
 have HF3:=Lib.hid F3
 clear F3 hg2 hdA hdB xnA xnB lkA lkB FA FB
 cases hab:abr R1
 ·have HAB:=Lib.hid hab
  clear hab
  cases hh:R1.has
  ·have HH:=Lib.hid hh
   go_wp2_with (first |(go_at_call 52;refine (abr_at HAB.out kv2 _).mono ?_;rintro e w4 ⟨rfl,hb⟩;have F4:=(HF3.out.ok HAB.out).call hb;have ho:=(rm_has F4.l0.blk).trans (congrArg (fun b=>some (Value.bool b)) HH.out);have lk:=ask_k F4.l2.blk;have hi:=inher_any HDD.out F4.wis 7 o F4.r0 F4.r0o { zeroQ with k:=q.k } nilS HKK.out (VsOut.nil _ _) (by simp [zeroQ]);have HF4:=Lib.hid F4;clear hb F4) |(go_at_call 200;refine hi.mono ?_;rintro e w5 ⟨M5,kv5,rfl,hks,hM,hn⟩;have hg5:=Rr.good _ hks;have F5:=(HF4.out.postB hks hM hn).new (rcs ((inherF D 7 o { zeroQ with k:=q.k } R2).1.1.mem kv5)) 57;have lr5:=run_ldRp F5.l0.blk;have s5:=run_stRp F5.l2.blk hg5;have HF5:=Lib.hid F5;clear hks hM hn F5))
   have F7:=HF5.out.put (l:=[⟨w5.heap.size,rcs ((inherF D 7 o { zeroQ with k:=q.k } R2).1.1.mem kv5),57⟩,⟨N,rcs (R1.mem kv2),57⟩]) (rcs ((inherF D 7 o { zeroQ with k:=q.k } R2).1.1.mem kv5)) (show 57 ≠ 32 by decide)
   refine bodyPost_ret (res_R rfl _ _ (w.heap.size+1) _ rfl F7.l2.blk) rfl ?_
   have key:RR=((inherF D 7 o { zeroQ with k:=q.k } R2).1.1,(inherF D 7 o { zeroQ with k:=q.k } R2).2):=by rw [HRR.out,HAB.out,HH.out];rfl
   rw [key]
   exact F7.fin F7.k0
  ·have HH:=Lib.hid hh
   go_wp2_with (first |(go_at_call 52;refine (abr_at HAB.out kv2 _).mono ?_;rintro e w4 ⟨rfl,hb⟩;have F4:=(HF3.out.ok HAB.out).call hb;have ho:=(rm_has F4.l0.blk).trans (congrArg (fun b=>some (Value.bool b)) HH.out);have HF4:=Lib.hid F4;clear hb F4) |(go_at_call 168;refine (answer_any true _).mono ?_;rintro e w5 ⟨rfl,hb⟩;have F5:=HF4.out.call hb;have s5:=run_stRp F5.l1.blk (r:=(ans true).mem nilS) ⟨_,_,_,rfl⟩;have HF5:=Lib.hid F5;clear hb F5))
   have F7:=HF5.out.put (l:=[⟨N,rcs (R1.mem kv2),57⟩]) (rcs ((ans true).mem nilS)) (show 57 ≠ 32 by decide)
   refine bodyPost_ret (res_R rfl _ _ (w.heap.size+1) _ rfl F7.l1.blk) rfl ?_
   have key:RR=(ans true,R2):=by rw [HRR.out,HAB.out,HH.out];rfl
   rw [key]
   exact F7.fin1 rfl
 ·have HAB:=Lib.hid hab
  clear hab
  go_wp2_with (go_at_call 52;refine (abr_at HAB.out kv2 _).mono ?_;rintro e w4 ⟨rfl,hb⟩;have F4:=HF3.out.call hb;have lr:=run_ldRp F4.l0.blk;have s4:=run_stRp F4.l1.blk HG2.out;have HF4:=Lib.hid F4;clear hb F4)
  have F7:=HF4.out.put (l:=[⟨N,rcs (R1.mem kv2),57⟩]) (rcs (R1.mem kv2)) (show 57 ≠ 32 by decide)
  refine bodyPost_ret (res_R rfl _ _ (w.heap.size+1) _ rfl F7.l1.blk) rfl ?_
  have key:RR=(R1,R2):=by rw [HRR.out,HAB.out];rfl
  rw [key]
  exact F7.fin F7.k0
end
end Go.Proofs.YtkadkmnolkkhgaaGreatDoor.Mw

/-
 read.
-/
namespace Go.Proofs.YtkadkmnolkkhgaaGreatDoor.Mw
open Go Go.RowKit Go.Maps Go.Shelf Keys Hp Mo
open Des (Vl Ds zeroV zeroD dcs dcs_size dcs_one accF rigF appF eqV)
open Arrs (En ecs)
attribute [local go_sem ↓] ldR stR alR bxR bdR ldV stV alV bxV bdV ldA stA bxA bdA ldKy bxKy bdKy ldD stD alD
attribute [local irreducible] rcs dcs ecs vcs acs kcs xcs tcs
attribute [local go_sem] run_bx run_alR run_stRg run_bdA0 run_bdAk run_bdAkr run_bdAkvr run_bdAr run_bdArl run_bdAkd run_bdRz run_bdRd run_bdRk run_bdRf run_bdRo run_bdRs run_bdRt' run_bdKs run_alD run_stDg
section
variable {X:Cx} {c:Nat} {M M' M'':Wm} {w w' w'':World} {A A' A'':Aw} {ls:List Lc} {kl:List (Value × List KV)} {ro:List Lc} {D:DoT}
theorem bxDe (v:Value):Instr.box 34 v=Bx 34 v:=(rfl)
theorem acc_at {d:Ds} {b:Bool} (hb:accF d=b) (w:World):Calls Tryz.prog 121 #[.agg (dcs d)] w fun e w'=>e = .returned (.bool b)∧Below w.heap.size w w':=hb ▸ Des.acc_any d w
attribute [local go_sem ↓] bxDe
set_option maxRecDepth 100000 in
set_option maxHeartbeats 4000000 in
theorem read_any (HD:DoIs X D) (h:WIs X (c+1) M w A) (d:Ds) (v:Vl) :
  Calls Tryz.prog 201 #[ptr X.wb,.agg (dcs d),.agg (vcs v)] w (Post X c M w (readF D d v A)):=by
 obtain ⟨w1,hw1⟩:∃ w1,((w.alloc (.cells (dcs d) 34)).alloc (.cells (vcs v) 30)).alloc (.cells (rcs zeroR) 57)=w1:=⟨_,rfl⟩
 have F0:Fm X (c+1) M w M w1 A [⟨w.heap.size+1+1,rcs zeroR,57⟩,⟨w.heap.size+1,vcs v,30⟩,⟨w.heap.size,dcs d,34⟩] [] []:=by
  rw [← hw1];exact (((Fm.start h).new _ _).newg _ _ _ (by simp)).newg _ _ _ (by simp)
 have ld:=d_all F0.l2.blk
 have HF0:=Lib.hid F0
 have HDD:=Lib.hid (show DoIs X D from HD)
 clear F0 h HD
 unfold readF
 cases ha:accF d
 ·have HA:=Lib.hid ha
  simp only [Bool.not_false,if_true]
  go_enter Tryz.func201,Tryz.ntmps201
  go_wp2_with (go_at_call 121;refine (acc_at HA.out _).mono ?_;rintro e w2 ⟨rfl,hb⟩;have F2:=HF0.out.call hb;have dv:=d_v F2.l2.blk;have s2:=run_stRp F2.l0.blk (r:=(done d.v).mem nilS) ⟨_,_,_,rfl⟩;have HF2:=Lib.hid F2;clear hb F2)
  have F3:=HF2.out.put (l:=[]) (rcs ((done d.v).mem nilS)) (show 57 ≠ 32 by decide)
  refine bodyPost_ret (res_R rfl _ _ (w.heap.size+1+1) _ rfl F3.l0.blk) rfl ?_
  exact F3.fin1 (R:=(done d.v,A)) rfl
 ·have HA:=Lib.hid ha
  simp only [Bool.not_true,Bool.false_eq_true,if_false]
  by_cases hg:d.g.k=0
  ·rw [if_pos hg]
   have hq:(d.g.k == 0)=true:=by simp [hg]
   have HG:=Lib.hid hg
   clear hg
   go_enter Tryz.func201,Tryz.ntmps201
   go_wp2_with (go_at_call 121;refine (acc_at HA.out _).mono ?_;rintro e w2 ⟨rfl,hb⟩;have F2:=HF0.out.call hb;have gk:=d_gk F2.l2.blk;have s2:=run_stRp F2.l0.blk (r:=zeroRr.mem nilS) ⟨_,_,_,rfl⟩;have HF2:=Lib.hid F2;clear hb F2)
   have F3:=HF2.out.put (l:=[]) (rcs (zeroRr.mem nilS)) (show 57 ≠ 32 by decide)
   refine bodyPost_ret (res_R rfl _ _ (w.heap.size+1+1) _ rfl F3.l0.blk) rfl ?_
   exact F3.fin1 (R:=(zeroRr,A)) rfl
  ·rw [if_neg hg]
   have hq:(d.g.k == 0)=false:=by simp [hg]
   have HG:=Lib.hid hg
   clear hg
   go_enter Tryz.func201,Tryz.ntmps201
   go_wp2_with (first |(go_at_call 121;refine (acc_at HA.out _).mono ?_;rintro e w2 ⟨rfl,hb⟩;have F2:=HF0.out.call hb;have gk:=d_gk F2.l2.blk;have gv:=d_g F2.l2.blk;have lv:=run_ldVp F2.l1.blk;have hd:=ask_any HDD.out F2.wis 12 d.g { zeroQ with r:=v } nilS fine_zero (VsOut.nil _ _) (by simp [zeroQ]);have HF2:=Lib.hid F2;clear hb F2) |(go_at_call 118;refine hd.mono ?_;rintro e w3 ⟨M3,kv3,rfl,hks,hM,hn⟩;have hg3:=Rr.good _ hks;have SZ3:=Lib.hid hn.size;have F3:=HF2.out.post hks hM hn;have s3:=run_stRp F3.l0.blk hg3;have HF3:=Lib.hid F3;clear hks hM hn F3))
   have F4:=HF3.out.put (l:=[]) (rcs ((askF D 12 d.g { zeroQ with r:=v } A).1.mem kv3)) (show 57 ≠ 32 by decide)
   refine bodyPost_ret (res_R rfl _ _ (w.heap.size+1+1) _ rfl F4.l0.blk) rfl ?_
   exact F4.fin F4.k0
end
end Go.Proofs.YtkadkmnolkkhgaaGreatDoor.Mw

/-
 A slice of one value.
-/
namespace Go.Proofs.YtkadkmnolkkhgaaGreatDoor.Mw
open Go Go.RowKit Go.Maps Go.Shelf Keys Hp Mo
open Des (Vl Ds zeroV zeroD dcs dcs_size dcs_one accF rigF appF eqV)
open Arrs (En ecs)
attribute [local go_sem ↓] ldR stR alR bxR bdR ldV stV alV bxV bdV ldA stA bxA bdA ldKy bxKy bdKy 
attribute [local go_sem] run_bx run_alR run_stRg run_bdA0 run_bdAk run_bdAkr run_bdAkvr run_bdAr run_bdAkd run_bdRz run_bdRd run_bdRk run_bdRf run_bdRo run_bdRs run_bdRt' run_bdKs 
def BsV (ps:Array (Nat × Value)):Sem Value:=Instr.buildSlice 22 1 ps
theorem bsV (ps:Array (Nat × Value)):Instr.buildSlice 22 1 ps=BsV ps:=(rfl)
theorem infoV3:(Tryz.prog.info? 30).map (fun i=>(i.zero,i.size,i.bytes))=some (some (.agg #[.int .i64 0,.int .i64 0,.string ⟨#[]⟩]),3,32):=by kernel_rfl
theorem run_bsV (w:World) (v:Vl):(BsV #[(0,.agg (vcs v))]).run Tryz.prog w = .ok (.slice (some ⟨w.heap.size,0,none⟩) 1 1) (w.alloc (.cells (vcs v) 30)):=by
 obtain ⟨i,hi,hz,hs,hb⟩:=info_parts infoV3
 exact run_buildSlice w 22 30 1 _ (vcs v) i (.agg #[.int .i64 0,.int .i64 0,.string ⟨#[]⟩]) Tryz.underlying22 hi hz (by rw [hs];decide) (by rw [hs];decide) (by rw [hs];have h:=Go.Great.fill_whole (s:=3) (by decide) [.agg (vcs v)] ((Array.range (1*3)).map ((Value.agg #[.int .i64 0,.int .i64 0,.string ⟨#[]⟩]).cells[· % (Value.agg #[.int .i64 0,.int .i64 0,.string ⟨#[]⟩]).cells.size]!)) (fun v hv=>by rw [List.mem_singleton.1 hv];rfl) (by simp);simpa [Value.cells] using h)
theorem run_bdDv (w:World) (v:Vl):(Bd 34 #[(0,.bool true),(6,.agg (vcs v))]).run Tryz.prog w = .ok (.agg (dcs { zeroD with hv:=true,v:=v })) w:=run_build w _ _ _ (by kernel_rfl)
theorem run_stDp {w:World} {b:Nat} {o r:Ds} (h:Blk w b (dcs o) 34):(St 34 (.pointer (some ⟨b,0,none⟩)) (.agg (dcs r))).run Tryz.prog w = .ok () (w.setRow b (dcs r)):=run_st_row h (by rw [dcs_size];exact sizeD) (by rw [dcs_size,dcs_size]) (dcs_one _)
theorem run_bdArl2 (w:World) (r:Vl) (vs:List Vl) (a:Option Addr) (n c:Nat):(Bd 52 #[(2,.agg (vcs r)),(4,.slice a n c)]).run Tryz.prog w = .ok (.agg (acs { zeroQ with r:=r,l:=vs } (.slice a n c))) w:=run_build w _ _ _ (by kernel_rfl)
theorem VsOut.one {B:List Nat} {w0 w:World} {b:Nat} {v:Vl} {t:TypeId} (h:Lo B w0 w b (vcs v) t):VsOut B w (.slice (some ⟨b,0,none⟩) 1 1) [v]:=⟨_,_,rfl,.inr ⟨b,0,rfl,h.blk.lt,h.out,h.blk.range (r:=[]) (by simp [cellsV,vcs])⟩⟩
end Go.Proofs.YtkadkmnolkkhgaaGreatDoor.Mw
