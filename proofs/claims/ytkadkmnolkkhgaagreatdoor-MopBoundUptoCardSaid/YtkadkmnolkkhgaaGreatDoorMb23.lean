/-
 Texts of this seat in build order: MwHand, MwCons0, MwCons.
-/
import Derived.Test.YtkadkmnolkkhgaaGreatDoorMb16
import Derived.Test.YtkadkmnolkkhgaaGreatDoorMb17
import Derived.Test.YtkadkmnolkkhgaaGreatDoorMb20
import Derived.Test.YtkadkmnolkkhgaaGreatDoorMb15
/-
 hand, where nobody performs functions.
-/
set_option linter.unusedVariables false
set_option linter.unusedSimpArgs false
namespace Go.Proofs.YtkadkmnolkkhgaaGreatDoor.Mw
open Go Go.RowKit Go.Maps Go.Shelf Keys Hp Mo
open Des (Vl Ds zeroV zeroD dcs dcs_size dcs_one accF rigF appF eqV)
open Arrs (En ecs)
attribute [local go_sem ↓] ldR stR alR bxR bdR ldV stV alV bxV bdV ldA stA bxA bdA ldKy bxKy bdKy 
attribute [local irreducible] rcs dcs ecs vcs acs kcs xcs tcs
attribute [local go_sem] run_bx run_alR run_stRg run_bdA0 run_bdAk run_bdAkr run_bdAkvr run_bdAr run_bdAkd run_bdRz run_bdRd run_bdRk run_bdRf run_bdRo run_bdRs run_bdRt' run_bdKs 
section
variable {X:Cx} {c:Nat} {M M' M'':Wm} {w w' w'':World} {A A' A'':Aw} {ls:List Lc} {kl:List (Value × List KV)} {ro:List Lc} {D:DoT}
def HandIs (X:Cx) (C:HandT):Prop:=∀ (c:Nat) (M:Wm) (w:World) (A:Aw) (o:Int) (t:Th) (this:Vl) (l:List Vl) (aa:Option Addr) (ac:Nat) (xb:Nat) (T:TypeId),WIs X (c+1) M w A→Blk w xb (xcs o t) T→xb ∉ M.bl X.wb→VsOut (M.bl X.wb) w (.slice aa l.length ac) l→l.length+100000≤lim X →
 Calls Tryz.prog 194 #[ptr X.wb,ptr xb,.agg (vcs this),.slice aa l.length ac] w (Post X c M w (handF C o this l A))
theorem nil_nilE (d:Nat) (w:World):(Op.equalIn (d+1) 45 .nilIface .nilIface).run Tryz.prog w = .ok true w:=by
 simp [Op.equalIn,run_underlying Tryz.underlying45]
theorem nil_nilI (w:World):(binOp .eql 45 .nilIface .nilIface).run Tryz.prog w = .ok (.bool true) w:=by
 simp only [binOp]
 simp [Op.equal,Op.maxDepth,nil_nilE 9999]
set_option maxRecDepth 100000 in
set_option maxHeartbeats 4000000 in
theorem hand_nil (hcl:X.cl = .nilIface):HandIs X none:=fun c M w A o t this l aa ac xb T h hB ho hl hlen=>by
 obtain ⟨w1,hw1⟩:∃ w1,(w.alloc (.cells (vcs this) 30)).alloc (.cells (rcs zeroR) 57)=w1:=⟨_,rfl⟩
 have F0:Fm X (c+1) M w M w1 A [⟨w.heap.size+1,rcs zeroR,57⟩,⟨w.heap.size,vcs this,30⟩] [] []:=by
  rw [← hw1];exact ((Fm.start h).new _ _).newg _ _ _ (by simp)
 have c1:w1.cell? ⟨X.wb,1,none⟩=some .nilIface:=by rw [← hcl];exact F0.wis.wblk.cell 1
 have hf:=fail_any F0.wis typeErr
 have he:=nil_nilI
 have HF2:=Lib.hid F0
 show Calls _ _ _ _ (Post X c M w (failF typeErr A))
 clear F0 h hB ho hl hlen hcl
 go_enter Tryz.func194,Tryz.ntmps194
 go_wp2_with (go_at_call 50;refine hf.mono ?_;intro e w3 hp;obtain ⟨M3,kv3,rfl,hks,hM,hn⟩:=FailP.post hp;have hg3:=Rr.good _ hks;have F3:=HF2.out.post hks hM hn;have s3:=run_stRp F3.l0.blk hg3;have HF3:=Lib.hid F3;clear hks hM hn hp F3)
 have F4:=HF3.out.put (l:=[]) (rcs ((failF typeErr A).1.mem kv3)) (show 57 ≠ 32 by decide)
 refine bodyPost_ret (res_R rfl _ _ (w.heap.size+1) _ rfl F4.l0.blk) rfl ?_
 exact F4.fin F4.k0
end
end Go.Proofs.YtkadkmnolkkhgaaGreatDoor.Mw

/-
 construct: a constructor of proxies.
-/
namespace Go.Proofs.YtkadkmnolkkhgaaGreatDoor.Mw
open Go Go.RowKit Go.Maps Go.Shelf Keys Hp Mo
open Des (Vl Ds zeroV zeroD dcs dcs_size dcs_one accF rigF appF eqV)
open Arrs (En ecs)
attribute [local go_sem ↓] ldR stR alR bxR bdR ldV stV alV bxV bdV ldA stA bxA bdA ldKy bxKy bdKy 
attribute [local irreducible] rcs dcs ecs vcs acs kcs xcs tcs
attribute [local go_sem] run_bx run_alR run_stRg run_bdA0 run_bdAk run_bdAkr run_bdAkvr run_bdAr run_bdAkd run_bdRz run_bdRd run_bdRk run_bdRf run_bdRo run_bdRs run_bdRt' run_bdKs 
section
variable {X:Cx} {c:Nat} {M M' M'':Wm} {w w' w'':World} {A A' A'':Aw} {ls:List Lc} {kl:List (Value × List KV)} {ro:List Lc} {D:DoT} {C:HandT}
set_option maxRecDepth 100000 in
set_option maxHeartbeats 4000000 in
theorem cons_made (HH:HandIs X C) (HD:DoIs X D) (h:WIs X (c+2) M w A) (o:Int) {x:Ob} (hat:at? A o=some x) {T:TypeId} {xb:Nat} (hx:Blk w xb (xcs o x.th) T) (hxo:xb ∉ M.bl X.wb) (q:Aq) (ql:Value) (hl:VsOut (M.bl X.wb) w ql q.l) (hlen:q.l.length+100000≤lim X) (hc:x.th.code=30) :
  Calls Tryz.prog 165 #[ptr X.wb,ptr xb,.agg (acs q ql)] w (Post X c M w (handF C o q.r q.l A)):=by
 obtain ⟨ala,alc,rfl,-⟩:=id hl
 obtain ⟨w1,hw1⟩:∃ w1,(w.alloc (.cells (acs q (.slice ala q.l.length alc)) 52)).alloc (.cells (rcs zeroR) 57)=w1:=⟨_,rfl⟩
 have F0:Fm X (c+2) M w M w1 A [⟨w.heap.size+1,rcs zeroR,57⟩,⟨w.heap.size,acs q (.slice ala q.l.length alc),52⟩] [] [⟨xb,xcs o x.th,T⟩]:=by
  rw [← hw1];exact (((Fm.start h).with hx hxo).new _ _).newg _ _ _ (by simp)
 have xc:=x_code F0.r0
 have d30:(x.th.code == 30)=true:=by simp [hc]
 have F1:=F0.less (c':=c+1) (by omega)
 have lc:=ask_l F1.l1.blk
 have lr:=ask_r F1.l1.blk
 have hh:=HH c M w1 A o x.th q.r q.l ala alc xb T F1.wis F1.r0 F1.r0o (hl.nx F1.nx) hlen
 have HF2:=Lib.hid F1
 have HC:=Lib.hid hc
 clear F1 F0 h hat hx hxo hl hlen hc HH HD
 go_enter Tryz.func165,Tryz.ntmps165
 go_wp2_with (go_at_call 194;(with_reducible refine hh.mono ?_);rintro e w3 ⟨M3,kv3,rfl,hks,hM,hn⟩;have hg3:=Rr.good _ hks;have SZ3:=Lib.hid hn.size;have F3:=HF2.out.post hks hM hn;have s3:=run_stRp F3.l0.blk hg3;have HF3:=Lib.hid F3;clear hks hM hn F3)
 have F4:=HF3.out.put (l:=[]) (rcs ((handF C o q.r q.l A).1.mem kv3)) (show 57 ≠ 32 by decide)
 refine bodyPost_ret (res_R rfl _ _ (w.heap.size+1) _ rfl F4.l0.blk) rfl ?_
 exact F4.fin F4.k0
theorem null_v (w:World):Calls Tryz.prog 75 #[] w fun e w'=>e = .returned (.agg (vcs nullV))∧Below w.heap.size w w':=null_any w
end
end Go.Proofs.YtkadkmnolkkhgaaGreatDoor.Mw

/-
 construct.
-/
namespace Go.Proofs.YtkadkmnolkkhgaaGreatDoor.Mw
open Go Go.RowKit Go.Maps Go.Shelf Keys Hp Mo
open Des (Vl Ds zeroV zeroD dcs dcs_size dcs_one accF rigF appF eqV)
open Arrs (En ecs)
attribute [local go_sem ↓] ldR stR alR bxR bdR ldV stV alV bxV bdV ldA stA bxA bdA ldKy bxKy bdKy 
attribute [local irreducible] rcs dcs ecs vcs acs kcs xcs tcs
attribute [local go_sem] run_bx run_alR run_stRg run_bdA0 run_bdAk run_bdAkr run_bdAkvr run_bdAr run_bdAkd run_bdRz run_bdRd run_bdRk run_bdRf run_bdRo run_bdRs run_bdRt' run_bdKs run_alV
section
variable {X:Cx} {c:Nat} {M M' M'':Wm} {w w' w'':World} {A A' A'':Aw} {ls:List Lc} {kl:List (Value × List KV)} {ro:List Lc} {D:DoT} {C:HandT}
set_option maxRecDepth 100000 in
set_option maxHeartbeats 4000000 in
theorem cons_long (HH:HandIs X C) (HD:DoIs X D) (h:WIs X (c+2) M w A) (o:Int) {x:Ob} (hat:at? A o=some x) {T:TypeId} {xb:Nat} (hx:Blk w xb (xcs o x.th) T) (hxo:xb ∉ M.bl X.wb) (q:Aq) (ql:Value) (hl:VsOut (M.bl X.wb) w ql q.l) (hlen:q.l.length+100000≤lim X) (hc:x.th.code ≠ 30) :
  Calls Tryz.prog 165 #[ptr X.wb,ptr xb,.agg (acs q ql)] w (Post X c M w (match getOfF D q.r protoK A with
  | (p,A)=>if abr p then (p,A) else match createF 0 (if p.v.k=6 then p.v else nullV) [] A with
   | ((made,r),A)=>if abr r then (r,A) else match handF C o made q.l A with
    | (r,A)=>(if abr r || r.v.k == 6 then r else done made,A))):=by
 obtain ⟨ala,alc,rfl,-⟩:=id hl
 obtain ⟨w1,hw1⟩:∃ w1,(w.alloc (.cells (acs q (.slice ala q.l.length alc)) 52)).alloc (.cells (rcs zeroR) 57)=w1:=⟨_,rfl⟩
 have F0:Fm X (c+2) M w M w1 A [⟨w.heap.size+1,rcs zeroR,57⟩,⟨w.heap.size,acs q (.slice ala q.l.length alc),52⟩] [] [⟨xb,xcs o x.th,T⟩]:=by
  rw [← hw1];exact (((Fm.start h).with hx hxo).new _ _).newg _ _ _ (by simp)
 have xc:=x_code F0.r0
 have d30:(x.th.code == 30)=false:=by simp [hc]
 have F1:=F0
 have lr:=ask_r F1.l1.blk
 have hg:=getOf_any HD F1.wis q.r ⟨#[112,114,111,116,111,116,121,112,101]⟩ ⟨by decide,by decide,by decide⟩
 obtain ⟨P,hP⟩:∃ P,getOfF D q.r (⟨#[112,114,111,116,111,116,121,112,101]⟩,0) A=P:=⟨_,rfl⟩
 rw [hP] at hg
 rw [show protoK=(⟨#[112,114,111,116,111,116,121,112,101]⟩,0) from rfl,hP]
 obtain ⟨P1,P2⟩:=P
 simp only
 obtain ⟨RR,hRR⟩:∃ RR,RR=(if abr P1 then (P1,P2) else match createF 0 (if P1.v.k=6 then P1.v else nullV) [] P2 with
   | ((made,r),A)=>if abr r then (r,A) else match handF C o made q.l A with
    | (r,A)=>(if abr r || r.v.k == 6 then r else done made,A)):=⟨_,rfl⟩
 rw [← hRR]
 have HRR:=Lib.hid hRR
 have HF1:=Lib.hid F1
 have HC:=Lib.hid hc
 have HL:=Lib.hid hl
 have HLEN:=Lib.hid hlen
 have HH0:=Lib.hid HH
 clear F1 F0 h hat hx hxo hl hlen hc HH HD hRR hP
 cases hab:abr P1
 ·have HAB:=Lib.hid hab
  have hcr0:cr P1 (c+1)=c+2:=by unfold cr;rw [hab];rfl
  have HCR0:=Lib.hid hcr0
  obtain ⟨pv,hpv⟩:∃ pv,(if P1.v.k=6 then P1.v else nullV)=pv:=⟨_,rfl⟩
  obtain ⟨K,hK⟩:∃ K,createF 0 pv [] P2=K:=⟨_,rfl⟩
  obtain ⟨⟨mv,mr⟩,mA⟩:=K
  have HMK:=Lib.hid (show mr.ks=[] by
   have:=congrArg (fun r=>r.1.2.ks) hK
   simp only at this
   rw [← this]
   unfold createF
   split <;> rfl)
  have HKEY:Hid (RR=if abr mr then (mr,mA) else match handF C o mv q.l mA with
    | (r,A)=>(if abr r || r.v.k == 6 then r else done mv,A)):=Lib.hid (by rw [HRR.out,hab];simp only [Bool.false_eq_true,if_false];rw [hpv,hK])
  have HCREATE:Hid (∀ {M':Wm} {w':World},WIs X (c+2) M' w' P2→Calls Tryz.prog 74 #[ptr X.wb,.int .i64 0,.agg (vcs pv),.slice none 0 0] w' (CreP X (c+1) M' w' ((mv,mr),mA))):=Lib.hid fun h'=>by
   have hf:=h'.few
   have:=create_any (c:=c+1) h' 0 pv none 0 [] (fun j e he=>by simp at he) (fun e he=>by cases he) (by simp) (by simp;omega) (fun _=>by decide)
   rw [hK] at this
   exact this
  clear hab hcr0 hK HRR
  go_enter Tryz.func165,Tryz.ntmps165
  by_cases h6:P1.v.k=6
  ·have d6:(P1.v.k != 6)=false:=by simp [h6]
   rw [if_pos h6] at hpv
   have H6:=Lib.hid h6
   have HPV:=Lib.hid hpv
   clear h6 hpv
   go_upto_region 8 with (first |(go_at_call 82;(with_reducible refine hg.mono ?_);rintro e w3 ⟨M3,kv3,rfl,hks,hM,hn⟩;have hg3:=Rr.good _ hks;have F3:=(HF1.out.next (k2:=[(kv3,P1.ks)]) hM hn (fun k hk=>by rw [List.mem_singleton.1 hk];exact hks)).new (rcs (P1.mem kv3)) 57;have lr3:=run_ldRp F3.l0.blk;have HF3:=Lib.hid F3;clear hks hM hn F3) |(go_at_call 52;(with_reducible refine (abr_at HAB.out kv3 _).mono ?_);rintro e w4 ⟨rfl,hb⟩;have F4:=HF3.out.call hb;have hk4:=rm_vk F4.l0.blk;have lv4:=rm_v F4.l0.blk;rw [HPV.out] at lv4;have HF4:=Lib.hid F4;clear hb F4))
   have F5:=HF4.out
   rw [HCR0.out] at F5
   have hcr:=HCREATE.out F5.wis
   have HF5:=Lib.hid F5
   clear F5 HF4 HF3 HF1
   cases hmr:abr mr
   ·have HMR:=Lib.hid hmr
    obtain ⟨H,hH⟩:∃ H,handF C o mv q.l mA=H:=⟨_,rfl⟩
    obtain ⟨H1,H2⟩:=H
    have hkey:RR=(if (abr H1 || H1.v.k == 6)=true then H1 else done mv,H2):=by rw [HKEY.out,hmr];simp only [Bool.false_eq_true,if_false];rw [hH]
    cases hhb:abr H1
    ·have HHB:=Lib.hid hhb
     by_cases h6:H1.v.k=6
     ·have d6:(H1.v.k == 6)=true:=by simp [h6]
      rw [hhb,d6] at hkey
      have KEY:=Lib.hid (show RR=(H1,H2) from hkey)
      have H6:=Lib.hid h6
      clear hmr hhb hkey h6
      go_wp2_with (first |(go_at_call 74;(with_reducible refine hcr.mono ?_);rintro e w6 ⟨M6,rfl,hM,hn⟩;have F6:=HF5.out.next (k2:=[]) hM hn (fun k hk=>by cases hk);have F7:=(F6.new (vcs zeroV) 30).newg (rcs zeroR) 57 (w6.heap.size+1) (by simp);have s7:=run_stVp (v:=mv) F7.l1.blk;have F8:=F7.put (l:=[⟨w6.heap.size+1,rcs zeroR,57⟩]) (vcs mv) (show 30 ≠ 32 by decide);have s8:=run_stRp F8.l0.blk (r:=mr.mem nilS) ⟨_,_,_,rfl⟩;have F9:=F8.put (l:=[]) (rcs (mr.mem nilS)) (show 57 ≠ 32 by decide);have lr9:=run_ldRp F9.l0.blk;have HF9:=Lib.hid F9;clear hM hn F6 F7 F8 F9) |(go_at_call 52;(with_reducible refine (abr_at HMR.out nilS _).mono ?_);rintro e w10 ⟨rfl,hb⟩;have F10:=HF9.out.call hb;have lv10:=run_ldVp F10.l1.blk;have lc10:=ask_l F10.l4.blk;have hh:=HH0.out c M6 w10 mA o x.th mv q.l ala alc xb T F10.wis F10.r0 F10.r0o (HL.out.nx F10.nx) HLEN.out;rw [hH] at hh;have HF10:=Lib.hid F10;clear hb F10) |(go_at_call 194;(with_reducible refine hh.mono ?_);rintro e w11 ⟨M11,kv11,rfl,hks,hM,hn⟩;have hg11:=Rr.good _ hks;have F11:=HF10.out.next (k2:=[(kv11,H1.ks)]) hM hn (fun k hk=>by rw [List.mem_singleton.1 hk];exact hks);have s11:=run_stRp F11.l0.blk hg11;have F12:=F11.put (l:=[]) (rcs (H1.mem kv11)) (show 57 ≠ 32 by decide);have lr12:=run_ldRp F12.l0.blk;have HF12:=Lib.hid F12;clear hks hM hn F11 F12) |(go_at_call 52;(with_reducible refine (abr_at HHB.out kv11 _).mono ?_);rintro e w13 ⟨rfl,hb⟩;have F13:=HF12.out.call hb;have hk13:=rm_vk F13.l0.blk;have lr13:=run_ldRp F13.l0.blk;have s13:=run_stRp F13.l3.blk hg11;have HF13:=Lib.hid F13;clear hb F13))
      have F14:=HF13.out.put (l:=[⟨w6.heap.size+1,rcs (H1.mem kv11),57⟩,⟨w6.heap.size,vcs mv,30⟩,⟨w3.heap.size,rcs (P1.mem kv3),57⟩]) (rcs (H1.mem kv11)) (show 57 ≠ 32 by decide)
      refine bodyPost_ret (res_R rfl _ _ (w.heap.size+1) _ rfl F14.l3.blk) rfl ?_
      rw [KEY.out]
      exact F14.fin (R:=(H1,H2)) F14.k0
     ·have d6:(H1.v.k == 6)=false:=by simp [h6]
      rw [hhb,d6] at hkey
      have KEY:=Lib.hid (show RR=(done mv,H2) from hkey)
      have H6:=Lib.hid h6
      have hcr1:cr H1 c=c+1:=by unfold cr;rw [hhb];rfl
      clear hmr hhb hkey h6
      go_wp2_with (first |(go_at_call 74;(with_reducible refine hcr.mono ?_);rintro e w6 ⟨M6,rfl,hM,hn⟩;have F6:=HF5.out.next (k2:=[]) hM hn (fun k hk=>by cases hk);have F7:=(F6.new (vcs zeroV) 30).newg (rcs zeroR) 57 (w6.heap.size+1) (by simp);have s7:=run_stVp (v:=mv) F7.l1.blk;have F8:=F7.put (l:=[⟨w6.heap.size+1,rcs zeroR,57⟩]) (vcs mv) (show 30 ≠ 32 by decide);have s8:=run_stRp F8.l0.blk (r:=mr.mem nilS) ⟨_,_,_,rfl⟩;have F9:=F8.put (l:=[]) (rcs (mr.mem nilS)) (show 57 ≠ 32 by decide);have lr9:=run_ldRp F9.l0.blk;have HF9:=Lib.hid F9;clear hM hn F6 F7 F8 F9) |(go_at_call 52;(with_reducible refine (abr_at HMR.out nilS _).mono ?_);rintro e w10 ⟨rfl,hb⟩;have F10:=HF9.out.call hb;have lv10:=run_ldVp F10.l1.blk;have lc10:=ask_l F10.l4.blk;have hh:=HH0.out c M6 w10 mA o x.th mv q.l ala alc xb T F10.wis F10.r0 F10.r0o (HL.out.nx F10.nx) HLEN.out;rw [hH] at hh;have HF10:=Lib.hid F10;clear hb F10) |(go_at_call 194;(with_reducible refine hh.mono ?_);rintro e w11 ⟨M11,kv11,rfl,hks,hM,hn⟩;have hg11:=Rr.good _ hks;have F11:=HF10.out.next (k2:=[(kv11,H1.ks)]) hM hn (fun k hk=>by rw [List.mem_singleton.1 hk];exact hks);have s11:=run_stRp F11.l0.blk hg11;have F12:=F11.put (l:=[]) (rcs (H1.mem kv11)) (show 57 ≠ 32 by decide);have lr12:=run_ldRp F12.l0.blk;have HF12:=Lib.hid F12;clear hks hM hn F11 F12) |(go_at_call 52;(with_reducible refine (abr_at HHB.out kv11 _).mono ?_);rintro e w13 ⟨rfl,hb⟩;have F13:=HF12.out.call hb;have hk13:=rm_vk F13.l0.blk;have lv13:=run_ldVp F13.l1.blk;have s13:=run_stRp F13.l3.blk (r:=(done mv).mem nilS) ⟨_,_,_,rfl⟩;have HF13:=Lib.hid F13;clear hb F13))
      have F14:=HF13.out.put (l:=[⟨w6.heap.size+1,rcs (H1.mem kv11),57⟩,⟨w6.heap.size,vcs mv,30⟩,⟨w3.heap.size,rcs (P1.mem kv3),57⟩]) (rcs ((done mv).mem nilS)) (show 57 ≠ 32 by decide)
      refine bodyPost_ret (res_R rfl _ _ (w.heap.size+1) _ rfl F14.l3.blk) rfl ?_
      rw [KEY.out]
      rw [hcr1] at F14
      exact F14.fin1 (R:=(done mv,H2)) rfl
    ·have HHB:=Lib.hid hhb
     rw [hhb] at hkey
     have KEY:=Lib.hid (show RR=(H1,H2) from hkey)
     clear hmr hhb hkey
     go_wp2_with (first |(go_at_call 74;(with_reducible refine hcr.mono ?_);rintro e w6 ⟨M6,rfl,hM,hn⟩;have F6:=HF5.out.next (k2:=[]) hM hn (fun k hk=>by cases hk);have F7:=(F6.new (vcs zeroV) 30).newg (rcs zeroR) 57 (w6.heap.size+1) (by simp);have s7:=run_stVp (v:=mv) F7.l1.blk;have F8:=F7.put (l:=[⟨w6.heap.size+1,rcs zeroR,57⟩]) (vcs mv) (show 30 ≠ 32 by decide);have s8:=run_stRp F8.l0.blk (r:=mr.mem nilS) ⟨_,_,_,rfl⟩;have F9:=F8.put (l:=[]) (rcs (mr.mem nilS)) (show 57 ≠ 32 by decide);have lr9:=run_ldRp F9.l0.blk;have HF9:=Lib.hid F9;clear hM hn F6 F7 F8 F9) |(go_at_call 52;(with_reducible refine (abr_at HMR.out nilS _).mono ?_);rintro e w10 ⟨rfl,hb⟩;have F10:=HF9.out.call hb;have lv10:=run_ldVp F10.l1.blk;have lc10:=ask_l F10.l4.blk;have hh:=HH0.out c M6 w10 mA o x.th mv q.l ala alc xb T F10.wis F10.r0 F10.r0o (HL.out.nx F10.nx) HLEN.out;rw [hH] at hh;have HF10:=Lib.hid F10;clear hb F10) |(go_at_call 194;(with_reducible refine hh.mono ?_);rintro e w11 ⟨M11,kv11,rfl,hks,hM,hn⟩;have hg11:=Rr.good _ hks;have F11:=HF10.out.next (k2:=[(kv11,H1.ks)]) hM hn (fun k hk=>by rw [List.mem_singleton.1 hk];exact hks);have s11:=run_stRp F11.l0.blk hg11;have F12:=F11.put (l:=[]) (rcs (H1.mem kv11)) (show 57 ≠ 32 by decide);have lr12:=run_ldRp F12.l0.blk;have HF12:=Lib.hid F12;clear hks hM hn F11 F12) |(go_at_call 52;(with_reducible refine (abr_at HHB.out kv11 _).mono ?_);rintro e w13 ⟨rfl,hb⟩;have F13:=HF12.out.call hb;have lr13:=run_ldRp F13.l0.blk;have s13:=run_stRp F13.l3.blk hg11;have HF13:=Lib.hid F13;clear hb F13))
     have F14:=HF13.out.put (l:=[⟨w6.heap.size+1,rcs (H1.mem kv11),57⟩,⟨w6.heap.size,vcs mv,30⟩,⟨w3.heap.size,rcs (P1.mem kv3),57⟩]) (rcs (H1.mem kv11)) (show 57 ≠ 32 by decide)
     refine bodyPost_ret (res_R rfl _ _ (w.heap.size+1) _ rfl F14.l3.blk) rfl ?_
     rw [KEY.out]
     exact F14.fin (R:=(H1,H2)) F14.k0
   ·have HMR:=Lib.hid hmr
    have KEY:=Lib.hid (show RR=(mr,mA) by rw [HKEY.out,hmr];rfl)
    clear hmr
    go_wp2_with (first |(go_at_call 74;(with_reducible refine hcr.mono ?_);rintro e w6 ⟨M6,rfl,hM,hn⟩;have F6:=HF5.out.next (k2:=[]) hM hn (fun k hk=>by cases hk);have F7:=(F6.new (vcs zeroV) 30).newg (rcs zeroR) 57 (w6.heap.size+1) (by simp);have s7:=run_stVp (v:=mv) F7.l1.blk;have F8:=F7.put (l:=[⟨w6.heap.size+1,rcs zeroR,57⟩]) (vcs mv) (show 30 ≠ 32 by decide);have s8:=run_stRp F8.l0.blk (r:=mr.mem nilS) ⟨_,_,_,rfl⟩;have F9:=F8.put (l:=[]) (rcs (mr.mem nilS)) (show 57 ≠ 32 by decide);have lr9:=run_ldRp F9.l0.blk;have HF9:=Lib.hid F9;clear hM hn F6 F7 F8 F9) |(go_at_call 52;(with_reducible refine (abr_at HMR.out nilS _).mono ?_);rintro e w10 ⟨rfl,hb⟩;have F10:=HF9.out.call hb;have lr10:=run_ldRp F10.l0.blk;have s10:=run_stRp F10.l3.blk (r:=mr.mem nilS) ⟨_,_,_,rfl⟩;have HF10:=Lib.hid F10;clear hb F10))
    have F14:=HF10.out.put (l:=[⟨w6.heap.size+1,rcs (mr.mem nilS),57⟩,⟨w6.heap.size,vcs mv,30⟩,⟨w3.heap.size,rcs (P1.mem kv3),57⟩]) (rcs (mr.mem nilS)) (show 57 ≠ 32 by decide)
    refine bodyPost_ret (res_R rfl _ _ (w.heap.size+1) _ rfl F14.l3.blk) rfl ?_
    rw [KEY.out]
    exact F14.fin1 (R:=(mr,mA)) HMK.out
  ·have d6:(P1.v.k != 6)=true:=by simp [h6]
   rw [if_neg h6] at hpv
   have H6:=Lib.hid h6
   subst hpv
   clear h6
   go_upto_region 8 with (first |(go_at_call 82;(with_reducible refine hg.mono ?_);rintro e w3 ⟨M3,kv3,rfl,hks,hM,hn⟩;have hg3:=Rr.good _ hks;have F3:=(HF1.out.next (k2:=[(kv3,P1.ks)]) hM hn (fun k hk=>by rw [List.mem_singleton.1 hk];exact hks)).new (rcs (P1.mem kv3)) 57;have lr3:=run_ldRp F3.l0.blk;have HF3:=Lib.hid F3;clear hks hM hn F3) |(go_at_call 52;(with_reducible refine (abr_at HAB.out kv3 _).mono ?_);rintro e w4 ⟨rfl,hb⟩;have F4:=HF3.out.call hb;have hk4:=rm_vk F4.l0.blk;have HF4:=Lib.hid F4;clear hb F4) |(go_at_call 75;(with_reducible refine (null_v _).mono ?_);rintro e w5 ⟨rfl,hb⟩;have F5:=HF4.out.call hb;have s5:=run_stRval F5.l0.blk nullV;have F5b:=F5.put (l:=[]) (rcs (({ P1 with v:=nullV }:Rr).mem kv3)) (show 57 ≠ 32 by decide);have lv5:(Ld 30 (.pointer (some ⟨w3.heap.size,1,none⟩))).run Tryz.prog _=_:=rm_v F5b.l0.blk;have HF5b:=Lib.hid F5b;clear hb F5 F5b))
   have F5:=HF5b.out
   rw [HCR0.out] at F5
   have hcr:=HCREATE.out F5.wis
   have HF5:=Lib.hid F5
   clear F5 HF5b HF4 HF3 HF1
   cases hmr:abr mr
   ·have HMR:=Lib.hid hmr
    obtain ⟨H,hH⟩:∃ H,handF C o mv q.l mA=H:=⟨_,rfl⟩
    obtain ⟨H1,H2⟩:=H
    have hkey:RR=(if (abr H1 || H1.v.k == 6)=true then H1 else done mv,H2):=by rw [HKEY.out,hmr];simp only [Bool.false_eq_true,if_false];rw [hH]
    cases hhb:abr H1
    ·have HHB:=Lib.hid hhb
     by_cases h6:H1.v.k=6
     ·have d6:(H1.v.k == 6)=true:=by simp [h6]
      rw [hhb,d6] at hkey
      have KEY:=Lib.hid (show RR=(H1,H2) from hkey)
      have H6:=Lib.hid h6
      clear hmr hhb hkey h6
      go_wp2_with (first |(go_at_call 74;(with_reducible refine hcr.mono ?_);rintro e w6 ⟨M6,rfl,hM,hn⟩;have F6:=HF5.out.next (k2:=[]) hM hn (fun k hk=>by cases hk);have F7:=(F6.new (vcs zeroV) 30).newg (rcs zeroR) 57 (w6.heap.size+1) (by simp);have s7:=run_stVp (v:=mv) F7.l1.blk;have F8:=F7.put (l:=[⟨w6.heap.size+1,rcs zeroR,57⟩]) (vcs mv) (show 30 ≠ 32 by decide);have s8:=run_stRp F8.l0.blk (r:=mr.mem nilS) ⟨_,_,_,rfl⟩;have F9:=F8.put (l:=[]) (rcs (mr.mem nilS)) (show 57 ≠ 32 by decide);have lr9:=run_ldRp F9.l0.blk;have HF9:=Lib.hid F9;clear hM hn F6 F7 F8 F9) |(go_at_call 52;(with_reducible refine (abr_at HMR.out nilS _).mono ?_);rintro e w10 ⟨rfl,hb⟩;have F10:=HF9.out.call hb;have lv10:=run_ldVp F10.l1.blk;have lc10:=ask_l F10.l4.blk;have hh:=HH0.out c M6 w10 mA o x.th mv q.l ala alc xb T F10.wis F10.r0 F10.r0o (HL.out.nx F10.nx) HLEN.out;rw [hH] at hh;have HF10:=Lib.hid F10;clear hb F10) |(go_at_call 194;(with_reducible refine hh.mono ?_);rintro e w11 ⟨M11,kv11,rfl,hks,hM,hn⟩;have hg11:=Rr.good _ hks;have F11:=HF10.out.next (k2:=[(kv11,H1.ks)]) hM hn (fun k hk=>by rw [List.mem_singleton.1 hk];exact hks);have s11:=run_stRp F11.l0.blk hg11;have F12:=F11.put (l:=[]) (rcs (H1.mem kv11)) (show 57 ≠ 32 by decide);have lr12:=run_ldRp F12.l0.blk;have HF12:=Lib.hid F12;clear hks hM hn F11 F12) |(go_at_call 52;(with_reducible refine (abr_at HHB.out kv11 _).mono ?_);rintro e w13 ⟨rfl,hb⟩;have F13:=HF12.out.call hb;have hk13:=rm_vk F13.l0.blk;have lr13:=run_ldRp F13.l0.blk;have s13:=run_stRp F13.l3.blk hg11;have HF13:=Lib.hid F13;clear hb F13))
      have F14:=HF13.out.put (l:=[⟨w6.heap.size+1,rcs (H1.mem kv11),57⟩,⟨w6.heap.size,vcs mv,30⟩,⟨w3.heap.size,rcs (({ P1 with v:=nullV }:Rr).mem kv3),57⟩]) (rcs (H1.mem kv11)) (show 57 ≠ 32 by decide)
      refine bodyPost_ret (res_R rfl _ _ (w.heap.size+1) _ rfl F14.l3.blk) rfl ?_
      rw [KEY.out]
      exact F14.fin (R:=(H1,H2)) F14.k0
     ·have d6:(H1.v.k == 6)=false:=by simp [h6]
      rw [hhb,d6] at hkey
      have KEY:=Lib.hid (show RR=(done mv,H2) from hkey)
      have H6:=Lib.hid h6
      have hcr1:cr H1 c=c+1:=by unfold cr;rw [hhb];rfl
      clear hmr hhb hkey h6
      go_wp2_with (first |(go_at_call 74;(with_reducible refine hcr.mono ?_);rintro e w6 ⟨M6,rfl,hM,hn⟩;have F6:=HF5.out.next (k2:=[]) hM hn (fun k hk=>by cases hk);have F7:=(F6.new (vcs zeroV) 30).newg (rcs zeroR) 57 (w6.heap.size+1) (by simp);have s7:=run_stVp (v:=mv) F7.l1.blk;have F8:=F7.put (l:=[⟨w6.heap.size+1,rcs zeroR,57⟩]) (vcs mv) (show 30 ≠ 32 by decide);have s8:=run_stRp F8.l0.blk (r:=mr.mem nilS) ⟨_,_,_,rfl⟩;have F9:=F8.put (l:=[]) (rcs (mr.mem nilS)) (show 57 ≠ 32 by decide);have lr9:=run_ldRp F9.l0.blk;have HF9:=Lib.hid F9;clear hM hn F6 F7 F8 F9) |(go_at_call 52;(with_reducible refine (abr_at HMR.out nilS _).mono ?_);rintro e w10 ⟨rfl,hb⟩;have F10:=HF9.out.call hb;have lv10:=run_ldVp F10.l1.blk;have lc10:=ask_l F10.l4.blk;have hh:=HH0.out c M6 w10 mA o x.th mv q.l ala alc xb T F10.wis F10.r0 F10.r0o (HL.out.nx F10.nx) HLEN.out;rw [hH] at hh;have HF10:=Lib.hid F10;clear hb F10) |(go_at_call 194;(with_reducible refine hh.mono ?_);rintro e w11 ⟨M11,kv11,rfl,hks,hM,hn⟩;have hg11:=Rr.good _ hks;have F11:=HF10.out.next (k2:=[(kv11,H1.ks)]) hM hn (fun k hk=>by rw [List.mem_singleton.1 hk];exact hks);have s11:=run_stRp F11.l0.blk hg11;have F12:=F11.put (l:=[]) (rcs (H1.mem kv11)) (show 57 ≠ 32 by decide);have lr12:=run_ldRp F12.l0.blk;have HF12:=Lib.hid F12;clear hks hM hn F11 F12) |(go_at_call 52;(with_reducible refine (abr_at HHB.out kv11 _).mono ?_);rintro e w13 ⟨rfl,hb⟩;have F13:=HF12.out.call hb;have hk13:=rm_vk F13.l0.blk;have lv13:=run_ldVp F13.l1.blk;have s13:=run_stRp F13.l3.blk (r:=(done mv).mem nilS) ⟨_,_,_,rfl⟩;have HF13:=Lib.hid F13;clear hb F13))
      have F14:=HF13.out.put (l:=[⟨w6.heap.size+1,rcs (H1.mem kv11),57⟩,⟨w6.heap.size,vcs mv,30⟩,⟨w3.heap.size,rcs (({ P1 with v:=nullV }:Rr).mem kv3),57⟩]) (rcs ((done mv).mem nilS)) (show 57 ≠ 32 by decide)
      refine bodyPost_ret (res_R rfl _ _ (w.heap.size+1) _ rfl F14.l3.blk) rfl ?_
      rw [KEY.out]
      rw [hcr1] at F14
      exact F14.fin1 (R:=(done mv,H2)) rfl
    ·have HHB:=Lib.hid hhb
     rw [hhb] at hkey
     have KEY:=Lib.hid (show RR=(H1,H2) from hkey)
     clear hmr hhb hkey
     go_wp2_with (first |(go_at_call 74;(with_reducible refine hcr.mono ?_);rintro e w6 ⟨M6,rfl,hM,hn⟩;have F6:=HF5.out.next (k2:=[]) hM hn (fun k hk=>by cases hk);have F7:=(F6.new (vcs zeroV) 30).newg (rcs zeroR) 57 (w6.heap.size+1) (by simp);have s7:=run_stVp (v:=mv) F7.l1.blk;have F8:=F7.put (l:=[⟨w6.heap.size+1,rcs zeroR,57⟩]) (vcs mv) (show 30 ≠ 32 by decide);have s8:=run_stRp F8.l0.blk (r:=mr.mem nilS) ⟨_,_,_,rfl⟩;have F9:=F8.put (l:=[]) (rcs (mr.mem nilS)) (show 57 ≠ 32 by decide);have lr9:=run_ldRp F9.l0.blk;have HF9:=Lib.hid F9;clear hM hn F6 F7 F8 F9) |(go_at_call 52;(with_reducible refine (abr_at HMR.out nilS _).mono ?_);rintro e w10 ⟨rfl,hb⟩;have F10:=HF9.out.call hb;have lv10:=run_ldVp F10.l1.blk;have lc10:=ask_l F10.l4.blk;have hh:=HH0.out c M6 w10 mA o x.th mv q.l ala alc xb T F10.wis F10.r0 F10.r0o (HL.out.nx F10.nx) HLEN.out;rw [hH] at hh;have HF10:=Lib.hid F10;clear hb F10) |(go_at_call 194;(with_reducible refine hh.mono ?_);rintro e w11 ⟨M11,kv11,rfl,hks,hM,hn⟩;have hg11:=Rr.good _ hks;have F11:=HF10.out.next (k2:=[(kv11,H1.ks)]) hM hn (fun k hk=>by rw [List.mem_singleton.1 hk];exact hks);have s11:=run_stRp F11.l0.blk hg11;have F12:=F11.put (l:=[]) (rcs (H1.mem kv11)) (show 57 ≠ 32 by decide);have lr12:=run_ldRp F12.l0.blk;have HF12:=Lib.hid F12;clear hks hM hn F11 F12) |(go_at_call 52;(with_reducible refine (abr_at HHB.out kv11 _).mono ?_);rintro e w13 ⟨rfl,hb⟩;have F13:=HF12.out.call hb;have lr13:=run_ldRp F13.l0.blk;have s13:=run_stRp F13.l3.blk hg11;have HF13:=Lib.hid F13;clear hb F13))
     have F14:=HF13.out.put (l:=[⟨w6.heap.size+1,rcs (H1.mem kv11),57⟩,⟨w6.heap.size,vcs mv,30⟩,⟨w3.heap.size,rcs (({ P1 with v:=nullV }:Rr).mem kv3),57⟩]) (rcs (H1.mem kv11)) (show 57 ≠ 32 by decide)
     refine bodyPost_ret (res_R rfl _ _ (w.heap.size+1) _ rfl F14.l3.blk) rfl ?_
     rw [KEY.out]
     exact F14.fin (R:=(H1,H2)) F14.k0
   ·have HMR:=Lib.hid hmr
    have KEY:=Lib.hid (show RR=(mr,mA) by rw [HKEY.out,hmr];rfl)
    clear hmr
    go_wp2_with (first |(go_at_call 74;(with_reducible refine hcr.mono ?_);rintro e w6 ⟨M6,rfl,hM,hn⟩;have F6:=HF5.out.next (k2:=[]) hM hn (fun k hk=>by cases hk);have F7:=(F6.new (vcs zeroV) 30).newg (rcs zeroR) 57 (w6.heap.size+1) (by simp);have s7:=run_stVp (v:=mv) F7.l1.blk;have F8:=F7.put (l:=[⟨w6.heap.size+1,rcs zeroR,57⟩]) (vcs mv) (show 30 ≠ 32 by decide);have s8:=run_stRp F8.l0.blk (r:=mr.mem nilS) ⟨_,_,_,rfl⟩;have F9:=F8.put (l:=[]) (rcs (mr.mem nilS)) (show 57 ≠ 32 by decide);have lr9:=run_ldRp F9.l0.blk;have HF9:=Lib.hid F9;clear hM hn F6 F7 F8 F9) |(go_at_call 52;(with_reducible refine (abr_at HMR.out nilS _).mono ?_);rintro e w10 ⟨rfl,hb⟩;have F10:=HF9.out.call hb;have lr10:=run_ldRp F10.l0.blk;have s10:=run_stRp F10.l3.blk (r:=mr.mem nilS) ⟨_,_,_,rfl⟩;have HF10:=Lib.hid F10;clear hb F10))
    have F14:=HF10.out.put (l:=[⟨w6.heap.size+1,rcs (mr.mem nilS),57⟩,⟨w6.heap.size,vcs mv,30⟩,⟨w3.heap.size,rcs (({ P1 with v:=nullV }:Rr).mem kv3),57⟩]) (rcs (mr.mem nilS)) (show 57 ≠ 32 by decide)
    refine bodyPost_ret (res_R rfl _ _ (w.heap.size+1) _ rfl F14.l3.blk) rfl ?_
    rw [KEY.out]
    exact F14.fin1 (R:=(mr,mA)) HMK.out
 ·have HAB:=Lib.hid hab
  have KEY:=Lib.hid (show RR=(P1,P2) by rw [HRR.out,hab];rfl)
  clear hab HRR
  go_enter Tryz.func165,Tryz.ntmps165
  go_wp2_with (first |(go_at_call 82;(with_reducible refine hg.mono ?_);rintro e w3 ⟨M3,kv3,rfl,hks,hM,hn⟩;have hg3:=Rr.good _ hks;have F3:=(HF1.out.next (k2:=[(kv3,P1.ks)]) hM hn (fun k hk=>by rw [List.mem_singleton.1 hk];exact hks)).new (rcs (P1.mem kv3)) 57;have lr3:=run_ldRp F3.l0.blk;have HF3:=Lib.hid F3;clear hks hM hn F3) |(go_at_call 52;(with_reducible refine (abr_at HAB.out kv3 _).mono ?_);rintro e w4 ⟨rfl,hb⟩;have F4:=HF3.out.call hb;have lr4:=run_ldRp F4.l0.blk;have s4:=run_stRp F4.l1.blk hg3;have HF4:=Lib.hid F4;clear hb F4))
  have F5:=HF4.out.put (l:=[⟨w3.heap.size,rcs (P1.mem kv3),57⟩]) (rcs (P1.mem kv3)) (show 57 ≠ 32 by decide)
  refine bodyPost_ret (res_R rfl _ _ (w.heap.size+1) _ rfl F5.l1.blk) rfl ?_
  rw [KEY.out]
  exact (F5.less (c':=cr P1 c) (by unfold cr;split <;> omega)).fin (R:=(P1,P2)) F5.k0
end
end Go.Proofs.YtkadkmnolkkhgaaGreatDoor.Mw
