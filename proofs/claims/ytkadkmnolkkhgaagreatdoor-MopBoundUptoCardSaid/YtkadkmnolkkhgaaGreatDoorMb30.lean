/-
 defineInArray.
-/
import Derived.Test.YtkadkmnolkkhgaaGreatDoorMb28
import Derived.Test.YtkadkmnolkkhgaaGreatDoorMb29
import Derived.Test.YtkadkmnolkkhgaaGreatDoorMb06
import Derived.Test.YtkadkmnolkkhgaaGreatDoorMb05
import Derived.Test.YtkadkmnolkkhgaaGreatDoorMb10
import Derived.Deep.DeepCutAuto
import Derived.BigQuiet
set_option linter.unusedVariables false
set_option linter.unusedSimpArgs false
namespace Go.Proofs.YtkadkmnolkkhgaaGreatDoor.Mw
open Go Go.RowKit Go.Maps Go.Shelf Keys Hp Mo
open Des (Vl Ds zeroV zeroD dcs dcs_size dcs_one accF rigF appF eqV)
open Arrs (En ecs)
open Rg
theorem key_run (a b:KV) (w:World):(binOp .eql 32 (.agg (kcs a)) (.agg (kcs b))).run Tryz.prog w = .ok (.bool (a.1.toList == b.1.toList && a.2 == b.2)) w:=by
 have h:(Op.equalIn 10000 32 (.agg #[.string a.1,.int .i64 a.2]) (.agg #[.string b.1,.int .i64 b.2])).run Tryz.prog w = .ok (a.1.toList == b.1.toList && a.2 == b.2) w:=by
  by_cases h1:a.1.toList=b.1.toList
  ·by_cases h2:a.2=b.2
   ·simp [go_sem,h1,h2]
   ·simp [go_sem,h1,h2]
  ·simp [go_sem,h1]
 simp only [binOp]
 simp [Op.equal,Op.maxDepth,kcs,h]
theorem key_ne {a b:KV} (h:a ≠ b) (w:World):(binOp .eql 32 (.agg (kcs a)) (.agg (kcs b))).run Tryz.prog w = .ok (.bool false) w:=by
 rw [key_run]
 congr 2
 cases hb:(a.1.toList == b.1.toList && a.2 == b.2)
 ·rfl
 ·exfalso
  simp only [Bool.and_eq_true,beq_iff_eq] at hb
  refine h (Prod.ext ?_ hb.2)
  have h1:=hb.1
  rw [ByteArray.toList_eq,ByteArray.toList_eq] at h1
  exact ByteArray.ext (Array.toList_inj.1 h1)
theorem key_eq (a:KV) (w:World):(binOp .eql 32 (.agg (kcs a)) (.agg (kcs a))).run Tryz.prog w = .ok (.bool true) w:=by
 rw [key_run]
 simp
theorem region_inS {P:Program} {id:Nat} {Q:Exit→Act→World→Prop} {a:Act} {w:World} {l:List Oper} {S:World→Prop} (hm:P.follows .mixedOrders=true) (hB:Region.lexB .any l.toArray=true) (h0:S w.drew)
  (h:Nonempty (Des.Wd S)→wpQuiet P l.toArray (fun w'=>∃ p:Des.Wd S,w'=p.w) (fun a'=>∀ w',(∃ p:Des.Wd S,w'=p.w)→Q .normal a' w') l a):(Code.region id l.toArray true).wp P Q a w :=
 wp_region_quiet (C:=fun w'=>∃ p:Des.Wd S,w'=p.w) hm hB ⟨⟨_,h0⟩,rfl⟩ (by simpa using h ⟨⟨_,h0⟩⟩)
theorem in_callS {P:Program} {S:World→Prop} {f:FuncId} {args:Array Value} {v:Value} {p:Des.Wd S} (hS:∀ w w',S w→Below w.heap.size w w'→S w') (h:Calls P f args p.w fun e w'=>e = .returned v∧Below p.w.heap.size p.w w') :
  Calls P f args p.w fun e w''=>e = .returned v∧∃ q:Des.Wd S,w''=q.w:=h.mono fun _ _ ⟨he,hb⟩=>⟨he,⟨⟨_,hS _ _ p.ok hb⟩,rfl⟩⟩
theorem kidx_range {k:KV} {i:Int} (h:kidx k=some i):0≤i∧i≤4294967295:=by
 obtain ⟨h1,h2⟩:=kidx_some h
 obtain ⟨h3,h4,-⟩:=idxF_some h2
 omega
attribute [local go_sem ↓] ldR stR alR bxR bdR ldV stV alV bxV bdV ldA stA bxA bdA ldKy bxKy bdKy ldD stD alD bxDe
attribute [local irreducible] rcs dcs ecs vcs acs kcs xcs tcs
attribute [local go_sem] run_bx run_alR run_stRg run_bdA0 run_bdAk run_bdAkr run_bdAkvr run_bdAr run_bdAkd run_bdRz run_bdRd run_bdRk run_bdRf run_bdRo run_bdRs run_bdRt' run_bdKs run_alD run_stDg
section
variable {X:Cx} {c:Nat} {M M' M'':Wm} {w w' w'':World} {A A' A'':Aw} {ls:List Lc} {kl:List (Value × List KV)} {ro:List Lc} {D:DoT}
set_option maxRecDepth 100000 in
set_option maxHeartbeats 4000000 in
theorem defArr_bad (h:WIs X (c+4) M w A) (o:Int) {T:TypeId} {xb:Nat} {x:Ob} (hx:Blk w xb (xcs o x.th) T) (hxo:xb ∉ M.bl X.wb) (hat:at? A o=some x) (q:Aq) (ql:Value) (hk:Fine q.k) (hg:rigF q.d=false) :
  Calls Tryz.prog 136 #[ptr X.wb,ptr xb,.agg (acs q ql)] w (Post X c M w (failF typeErr A)):=by
 obtain ⟨w1,hw1⟩:∃ w1,(w.alloc (.cells (acs q ql) 52)).alloc (.cells (rcs zeroR) 57)=w1:=⟨_,rfl⟩
 have F0:Fm X (c+4) M w M w1 A [⟨w.heap.size+1,rcs zeroR,57⟩,⟨w.heap.size,acs q ql,52⟩] [] [⟨xb,xcs o x.th,T⟩]:=by
  rw [← hw1];exact (((Fm.start h).with hx hxo).new _ _).newg _ _ _ (by simp)
 have ad:=ask_d F0.l1.blk
 have hr:∀ b,rigF q.d=b→Calls Tryz.prog 79 #[.agg (dcs q.d)] w1 fun e w'=>e = .returned (.bool b)∧Below w1.heap.size w1 w':=fun b hb=>hb ▸ Des.rig_any q.d w1
 have hrr:=hr false hg
 have F0:=F0.less (c':=c+1) (by omega)
 have HF0:=Lib.hid F0
 clear F0 h hx hxo hr hg hk hat
 go_enter Tryz.func136,Tryz.ntmps136
 go_wp2_with (first |(go_at_call 79;(with_reducible refine hrr.mono ?_);rintro e w2 ⟨rfl,hb⟩;have F2:=HF0.out.call hb;have hf:=fail_any F2.wis typeErr;have HF2:=Lib.hid F2;clear hb F2) |(go_at_call 50;refine hf.mono ?_;intro e w3 hp;obtain ⟨M3,kv3,rfl,hks,hM,hn⟩:=FailP.post hp;have hg3:=Rr.good _ hks;have F3:=HF2.out.post hks hM hn;have s3:=run_stRp F3.l0.blk hg3;have HF3:=Lib.hid F3;clear hks hM hn hp F3))
 have F4:=HF3.out.put (l:=[]) (rcs ((failF typeErr A).1.mem kv3)) (show 57 ≠ 32 by decide)
 refine bodyPost_ret (res_R rfl _ _ (w.heap.size+1) _ rfl F4.l0.blk) rfl ?_
 exact F4.fin F4.k0
structure DaI (X:Cx) (M:Wm) (xb:Nat) (o:Int) (nd:Ds) (nb:Bool) (w1:World) (L:Array Bool) (x7 x8 x17 x18 x19 x20 x21 x22 x23 x24 x25 x26 x27 x28:Value) (W:World):Prop where
 m1:Below w1.heap.size w1 W
 h0:L.getD 0 false=true→x18=ptr X.wb
 h1:L.getD 1 false=true→x19=ptr M.hb
 h2:L.getD 2 false=true→x20=ptr xb
 h3:L.getD 3 false=true→x21=ptr xb
 h4:L.getD 4 false=true→x22 = .pointer (some ⟨xb,0,none⟩)
 h5:L.getD 5 false=true→x23 = .pointer (some ⟨xb,0,none⟩)
 h6:L.getD 6 false=true→x24 = .int .i64 o
 h7:L.getD 7 false=true→x25 = .agg (kcs lenK)
 h8:L.getD 8 false=true→x26 = .tuple #[.agg (dcs nd),.bool nb]
 h9:L.getD 9 false=true→x17 = .tuple #[.agg (dcs nd),.bool nb]
 h10:L.getD 10 false=true→x27 = .agg (dcs nd)
 h11:L.getD 11 false=true→x28 = .bool nb
 h12:L.getD 12 false=true→∃ b,x7=ptr b∧w1.heap.size≤b∧∃ o,Blk W b (dcs o) 34
 h13:L.getD 13 false=true→∃ b,x7=ptr b∧w1.heap.size≤b∧Blk W b (dcs nd) 34
 h14:L.getD 14 false=true→x8 = .bool nb
set_option maxRecDepth 100000 in
set_option maxHeartbeats 4000000 in
theorem defArr_len (h:WIs X (c+4) M w A) (o:Int) {T:TypeId} {xb:Nat} {x:Ob} (hx:Blk w xb (xcs o x.th) T) (hxo:xb ∉ M.bl X.wb) (hat:at? A o=some x) (q:Aq) (ql:Value) (hk:Fine q.k) (hg:rigF q.d=true) (hke:q.k=lenK) (hv:q.d.hv=true) :
  Calls Tryz.prog 136 #[ptr X.wb,ptr xb,.agg (acs q ql)] w (Post X c M w (defLenF o x.th q (nowD A o lenK) A)):=by
 obtain ⟨w1,hw1⟩:∃ w1,(w.alloc (.cells (acs q ql) 52)).alloc (.cells (rcs zeroR) 57)=w1:=⟨_,rfl⟩
 have F0:Fm X (c+4) M w M w1 A [⟨w.heap.size+1,rcs zeroR,57⟩,⟨w.heap.size,acs q ql,52⟩] [] [⟨xb,xcs o x.th,T⟩]:=by
  rw [← hw1];exact (((Fm.start h).with hx hxo).new _ _).newg _ _ _ (by simp)
 have ad:=ask_d F0.l1.blk
 have hr:∀ b,rigF q.d=b→Calls Tryz.prog 79 #[.agg (dcs q.d)] w1 fun e w'=>e = .returned (.bool b)∧Below w1.heap.size w1 w':=fun b hb=>hb ▸ Des.rig_any q.d w1
 have HV:=Lib.hid hv
 have HEQ:=Lib.hid (fun w=>hke ▸ key_eq q.k w:∀ w,(binOp .eql 32 (.agg (kcs q.k)) (.agg (kcs lenK))).run Tryz.prog w = .ok (.bool true) w)
 clear hke hv
 have hrr:=hr true hg
 obtain ⟨nd,hnd⟩:∃ nd,nowD A o lenK=nd:=⟨_,rfl⟩
 obtain ⟨nb,hnb⟩:∃ nb,(ownF A o lenK).isSome=nb:=⟨_,rfl⟩
 have HLK:=Lib.hid (show Fine lenK from ⟨by decide,by decide,by decide⟩)
 have HOWN:Hid (∀ {w':World},WIs X (c+4) M w' A→Calls Tryz.prog 26 #[ptr M.hb,.int .i64 o,.agg (kcs lenK)] w' fun e w2=>e = .returned (.tuple #[.agg (dcs nd),.bool nb])∧Below w'.heap.size w' w2):=Lib.hid fun h'=>by rw [← hnd,← hnb];exact wOwn h' o lenK HLK.out
 rw [hnd]
 have HF0:=Lib.hid F0
 have HK:=Lib.hid hk
 have HAT:=Lib.hid hat
 clear F0 h hx hxo hr hg hk hat hnd hnb
 go_enter Tryz.func136,Tryz.ntmps136
 go_upto_region 3 with (go_at_call 79;(with_reducible refine hrr.mono ?_);rintro e w2 ⟨rfl,hb⟩;have F2:=HF0.out.call hb;have HF2:=Lib.hid F2;clear hb F2)
 go_cut [7,8] from 17 to 28 (fun s1 s2 wx=>DsAtL X (c+4) M w M A nd nb [⟨w.heap.size+1,rcs zeroR,57⟩,⟨w.heap.size,acs q ql,52⟩] [] [⟨xb,xcs o x.th,T⟩] s1 s2 wx)
 case first =>
  have hwis:=HF2.out.drew.wis
  have hxb:=HF2.out.drew.r0
  refine region_inv (by kernel_rfl) (fun L a W=>∃ x7 x8 x17 x18 x19 x20 x21 x22 x23 x24 x25 x26 x27 x28:Value,a={ tmps:=#[ptr X.wb,ptr xb,.agg (acs q ql),undef,undef,ptr w.heap.size,ptr (w.heap.size+1),x7,x8,undef,undef,.pointer (some ⟨w.heap.size,8,none⟩),.agg (dcs q.d),.bool true,.bool false,undef,undef,x17,x18,x19,x20,x21,x22,x23,x24,x25,x26,x27,x28,undef,undef,undef,undef,undef,undef,undef,undef,undef,undef,undef,undef,undef,undef,undef,undef,undef,undef,undef,undef,undef,undef,undef,undef,undef,undef,undef,undef,undef,undef,undef,undef,undef,undef],defers:=[] }∧DaI X M xb o nd nb w2.drew L x7 x8 x17 x18 x19 x20 x21 x22 x23 x24 x25 x26 x27 x28 W) (by kernel_rfl) ?start ?step ?done
  case start=>exact ⟨_,_,_,_,_,_,_,_,_,_,_,_,_,_,rfl,⟨Below.refl _ _,fun h=>by simp [Array.getD_eq_getD_getElem?] at h,fun h=>by simp [Array.getD_eq_getD_getElem?] at h,fun h=>by simp [Array.getD_eq_getD_getElem?] at h,fun h=>by simp [Array.getD_eq_getD_getElem?] at h,fun h=>by simp [Array.getD_eq_getD_getElem?] at h,fun h=>by simp [Array.getD_eq_getD_getElem?] at h,fun h=>by simp [Array.getD_eq_getD_getElem?] at h,fun h=>by simp [Array.getD_eq_getD_getElem?] at h,fun h=>by simp [Array.getD_eq_getD_getElem?] at h,fun h=>by simp [Array.getD_eq_getD_getElem?] at h,fun h=>by simp [Array.getD_eq_getD_getElem?] at h,fun h=>by simp [Array.getD_eq_getD_getElem?] at h,fun h=>by simp [Array.getD_eq_getD_getElem?] at h,fun h=>by simp [Array.getD_eq_getD_getElem?] at h,fun h=>by simp [Array.getD_eq_getD_getElem?] at h⟩⟩
  case step =>
   intro i L a W hi hdep hL hs hcl hI
   have hi2:i < 15:=by simpa using hi
   obtain ⟨x7,x8,x17,x18,x19,x20,x21,x22,x23,x24,x25,x26,x27,x28,rfl,H⟩:=hI
   have ol:∀ j,i ≠ j→(L.setIfInBounds i true).getD j false=true→L.getD j false=true:=fun j hj h=>by rwa [getD_set hj] at h
   rcases (by omega:i=0∨i=1∨i=2∨i=3∨i=4∨i=5∨i=6∨i=7∨i=8∨i=9∨i=10∨i=11∨i=12∨i=13∨i=14) with rfl |rfl |rfl |rfl |rfl |rfl |rfl |rfl |rfl |rfl |rfl |rfl |rfl |rfl |rfl
   ·clear hi hi2
    exact step_run (i:=0) (w':=W) (v:=ptr X.wb) rfl rfl (by simp [execOp,Act.eval,go_sem]) ⟨_,_,_,_,_,_,_,_,_,_,_,_,_,_,rfl,⟨(H.m1),(fun _=>rfl),(H.h1∘ol 1 nofun),(H.h2∘ol 2 nofun),(H.h3∘ol 3 nofun),(H.h4∘ol 4 nofun),(H.h5∘ol 5 nofun),(H.h6∘ol 6 nofun),(H.h7∘ol 7 nofun),(H.h8∘ol 8 nofun),(H.h9∘ol 9 nofun),(H.h10∘ol 10 nofun),(H.h11∘ol 11 nofun),(H.h12∘ol 12 nofun),(H.h13∘ol 13 nofun),(H.h14∘ol 14 nofun)⟩⟩
   ·clear hi hi2
    have e18:=H.h0 (hdep 0 (memOf (by kernel_rfl)))
    subst e18
    refine step_call (i:=1) (f:=100) (args:=#[ptr X.wb]) rfl rfl (by simp [execOp,Act.eval,go_sem]) (stW (hwis.call H.m1)) ?_
    rintro e W2 ⟨rfl,hq⟩
    subst hq
    exact ⟨_,rfl,⟨_,_,_,_,_,_,_,_,_,_,_,_,_,_,rfl,⟨(H.m1),(H.h0∘ol 0 nofun),(fun _=>rfl),(H.h2∘ol 2 nofun),(H.h3∘ol 3 nofun),(H.h4∘ol 4 nofun),(H.h5∘ol 5 nofun),(H.h6∘ol 6 nofun),(H.h7∘ol 7 nofun),(H.h8∘ol 8 nofun),(H.h9∘ol 9 nofun),(H.h10∘ol 10 nofun),(H.h11∘ol 11 nofun),(H.h12∘ol 12 nofun),(H.h13∘ol 13 nofun),(H.h14∘ol 14 nofun)⟩⟩⟩
   ·clear hi hi2
    exact step_run (i:=2) (w':=W) (v:=ptr xb) rfl rfl (by simp [execOp,Act.eval,go_sem]) ⟨_,_,_,_,_,_,_,_,_,_,_,_,_,_,rfl,⟨(H.m1),(H.h0∘ol 0 nofun),(H.h1∘ol 1 nofun),(fun _=>rfl),(H.h3∘ol 3 nofun),(H.h4∘ol 4 nofun),(H.h5∘ol 5 nofun),(H.h6∘ol 6 nofun),(H.h7∘ol 7 nofun),(H.h8∘ol 8 nofun),(H.h9∘ol 9 nofun),(H.h10∘ol 10 nofun),(H.h11∘ol 11 nofun),(H.h12∘ol 12 nofun),(H.h13∘ol 13 nofun),(H.h14∘ol 14 nofun)⟩⟩
   ·clear hi hi2
    have e20:=H.h2 (hdep 2 (memOf (by kernel_rfl)))
    subst e20
    exact step_run (i:=3) (w':=W) (v:=ptr xb) rfl rfl (by simp [execOp,Act.eval,go_sem]) ⟨_,_,_,_,_,_,_,_,_,_,_,_,_,_,rfl,⟨(H.m1),(H.h0∘ol 0 nofun),(H.h1∘ol 1 nofun),(H.h2∘ol 2 nofun),(fun _=>rfl),(H.h4∘ol 4 nofun),(H.h5∘ol 5 nofun),(H.h6∘ol 6 nofun),(H.h7∘ol 7 nofun),(H.h8∘ol 8 nofun),(H.h9∘ol 9 nofun),(H.h10∘ol 10 nofun),(H.h11∘ol 11 nofun),(H.h12∘ol 12 nofun),(H.h13∘ol 13 nofun),(H.h14∘ol 14 nofun)⟩⟩
   ·clear hi hi2
    have e21:=H.h3 (hdep 3 (memOf (by kernel_rfl)))
    subst e21
    exact step_run (i:=4) (w':=W) (v:=.pointer (some ⟨xb,0,none⟩)) rfl rfl (by simp [execOp,Act.eval,go_sem]) ⟨_,_,_,_,_,_,_,_,_,_,_,_,_,_,rfl,⟨(H.m1),(H.h0∘ol 0 nofun),(H.h1∘ol 1 nofun),(H.h2∘ol 2 nofun),(H.h3∘ol 3 nofun),(fun _=>rfl),(H.h5∘ol 5 nofun),(H.h6∘ol 6 nofun),(H.h7∘ol 7 nofun),(H.h8∘ol 8 nofun),(H.h9∘ol 9 nofun),(H.h10∘ol 10 nofun),(H.h11∘ol 11 nofun),(H.h12∘ol 12 nofun),(H.h13∘ol 13 nofun),(H.h14∘ol 14 nofun)⟩⟩
   ·clear hi hi2
    have e22:=H.h4 (hdep 4 (memOf (by kernel_rfl)))
    subst e22
    exact step_run (i:=5) (w':=W) (v:=.pointer (some ⟨xb,0,none⟩)) rfl rfl (by simp [execOp,Act.eval,go_sem]) ⟨_,_,_,_,_,_,_,_,_,_,_,_,_,_,rfl,⟨(H.m1),(H.h0∘ol 0 nofun),(H.h1∘ol 1 nofun),(H.h2∘ol 2 nofun),(H.h3∘ol 3 nofun),(H.h4∘ol 4 nofun),(fun _=>rfl),(H.h6∘ol 6 nofun),(H.h7∘ol 7 nofun),(H.h8∘ol 8 nofun),(H.h9∘ol 9 nofun),(H.h10∘ol 10 nofun),(H.h11∘ol 11 nofun),(H.h12∘ol 12 nofun),(H.h13∘ol 13 nofun),(H.h14∘ol 14 nofun)⟩⟩
   ·clear hi hi2
    have e23:=H.h5 (hdep 5 (memOf (by kernel_rfl)))
    subst e23
    have cq:=x_num (hxb.call H.m1)
    exact step_run (i:=6) (w':=W) (v:=.int .i64 o) rfl rfl (by simp [execOp,Act.eval,go_sem,cq]) ⟨_,_,_,_,_,_,_,_,_,_,_,_,_,_,rfl,⟨(H.m1),(H.h0∘ol 0 nofun),(H.h1∘ol 1 nofun),(H.h2∘ol 2 nofun),(H.h3∘ol 3 nofun),(H.h4∘ol 4 nofun),(H.h5∘ol 5 nofun),(fun _=>rfl),(H.h7∘ol 7 nofun),(H.h8∘ol 8 nofun),(H.h9∘ol 9 nofun),(H.h10∘ol 10 nofun),(H.h11∘ol 11 nofun),(H.h12∘ol 12 nofun),(H.h13∘ol 13 nofun),(H.h14∘ol 14 nofun)⟩⟩
   ·clear hi hi2
    refine step_call (i:=7) (f:=158) (args:=#[]) rfl rfl (by simp [execOp,Act.eval,go_sem]) (lenK_any W) ?_
    rintro e W2 ⟨rfl,hb⟩
    exact ⟨_,rfl,⟨_,_,_,_,_,_,_,_,_,_,_,_,_,_,rfl,⟨(H.m1.trans (hb.mono H.m1.size)),(H.h0∘ol 0 nofun),(H.h1∘ol 1 nofun),(H.h2∘ol 2 nofun),(H.h3∘ol 3 nofun),(H.h4∘ol 4 nofun),(H.h5∘ol 5 nofun),(H.h6∘ol 6 nofun),(fun _=>rfl),(H.h8∘ol 8 nofun),(H.h9∘ol 9 nofun),(H.h10∘ol 10 nofun),(H.h11∘ol 11 nofun),(fun h=>let ⟨g,q1,q2,o,q3⟩:=H.h12 (ol 12 (by decide) h);⟨g,q1,q2,o,q3.call hb⟩),(fun h=>let ⟨g,q1,q2,q3⟩:=H.h13 (ol 13 (by decide) h);⟨g,q1,q2,q3.call hb⟩),(H.h14∘ol 14 nofun)⟩⟩⟩
   ·clear hi hi2
    have e19:=H.h1 (hdep 1 (memOf (by kernel_rfl)))
    have e24:=H.h6 (hdep 6 (memOf (by kernel_rfl)))
    have e25:=H.h7 (hdep 7 (memOf (by kernel_rfl)))
    subst e19
    subst e24
    subst e25
    refine step_call (i:=8) (f:=26) (args:=#[ptr M.hb,.int .i64 o,.agg (kcs lenK)]) rfl rfl (by simp [execOp,Act.eval,go_sem]) (HOWN.out (hwis.call H.m1)) ?_
    rintro e W2 ⟨rfl,hb⟩
    exact ⟨_,rfl,⟨_,_,_,_,_,_,_,_,_,_,_,_,_,_,rfl,⟨(H.m1.trans (hb.mono H.m1.size)),(H.h0∘ol 0 nofun),(H.h1∘ol 1 nofun),(H.h2∘ol 2 nofun),(H.h3∘ol 3 nofun),(H.h4∘ol 4 nofun),(H.h5∘ol 5 nofun),(H.h6∘ol 6 nofun),(H.h7∘ol 7 nofun),(fun _=>rfl),(H.h9∘ol 9 nofun),(H.h10∘ol 10 nofun),(H.h11∘ol 11 nofun),(fun h=>let ⟨g,q1,q2,o,q3⟩:=H.h12 (ol 12 (by decide) h);⟨g,q1,q2,o,q3.call hb⟩),(fun h=>let ⟨g,q1,q2,q3⟩:=H.h13 (ol 13 (by decide) h);⟨g,q1,q2,q3.call hb⟩),(H.h14∘ol 14 nofun)⟩⟩⟩
   ·clear hi hi2
    have e26:=H.h8 (hdep 8 (memOf (by kernel_rfl)))
    subst e26
    exact step_run (i:=9) (w':=W) (v:=.tuple #[.agg (dcs nd),.bool nb]) rfl rfl (by simp [execOp,Act.eval,go_sem]) ⟨_,_,_,_,_,_,_,_,_,_,_,_,_,_,rfl,⟨(H.m1),(H.h0∘ol 0 nofun),(H.h1∘ol 1 nofun),(H.h2∘ol 2 nofun),(H.h3∘ol 3 nofun),(H.h4∘ol 4 nofun),(H.h5∘ol 5 nofun),(H.h6∘ol 6 nofun),(H.h7∘ol 7 nofun),(H.h8∘ol 8 nofun),(fun _=>rfl),(H.h10∘ol 10 nofun),(H.h11∘ol 11 nofun),(H.h12∘ol 12 nofun),(H.h13∘ol 13 nofun),(H.h14∘ol 14 nofun)⟩⟩
   ·clear hi hi2
    have e17:=H.h9 (hdep 9 (memOf (by kernel_rfl)))
    subst e17
    exact step_run (i:=10) (w':=W) (v:=.agg (dcs nd)) rfl rfl (by simp [execOp,Act.eval,go_sem]) ⟨_,_,_,_,_,_,_,_,_,_,_,_,_,_,rfl,⟨(H.m1),(H.h0∘ol 0 nofun),(H.h1∘ol 1 nofun),(H.h2∘ol 2 nofun),(H.h3∘ol 3 nofun),(H.h4∘ol 4 nofun),(H.h5∘ol 5 nofun),(H.h6∘ol 6 nofun),(H.h7∘ol 7 nofun),(H.h8∘ol 8 nofun),(H.h9∘ol 9 nofun),(fun _=>rfl),(H.h11∘ol 11 nofun),(H.h12∘ol 12 nofun),(H.h13∘ol 13 nofun),(H.h14∘ol 14 nofun)⟩⟩
   ·clear hi hi2
    have e17:=H.h9 (hdep 9 (memOf (by kernel_rfl)))
    subst e17
    exact step_run (i:=11) (w':=W) (v:=.bool nb) rfl rfl (by simp [execOp,Act.eval,go_sem]) ⟨_,_,_,_,_,_,_,_,_,_,_,_,_,_,rfl,⟨(H.m1),(H.h0∘ol 0 nofun),(H.h1∘ol 1 nofun),(H.h2∘ol 2 nofun),(H.h3∘ol 3 nofun),(H.h4∘ol 4 nofun),(H.h5∘ol 5 nofun),(H.h6∘ol 6 nofun),(H.h7∘ol 7 nofun),(H.h8∘ol 8 nofun),(H.h9∘ol 9 nofun),(H.h10∘ol 10 nofun),(fun _=>rfl),(H.h12∘ol 12 nofun),(H.h13∘ol 13 nofun),(H.h14∘ol 14 nofun)⟩⟩
   ·clear hi hi2
    have hb:Below W.heap.size W (W.alloc (.cells (dcs zeroD) 34)):=(Below.refl _ W).alloc (Nat.le_refl _) _
    exact step_run (i:=12) (w':=(W.alloc (.cells (dcs zeroD) 34))) (v:=ptr W.heap.size) rfl rfl (by simp [execOp,Act.eval,go_sem]) ⟨_,_,_,_,_,_,_,_,_,_,_,_,_,_,rfl,⟨(H.m1.trans (hb.mono H.m1.size)),(H.h0∘ol 0 nofun),(H.h1∘ol 1 nofun),(H.h2∘ol 2 nofun),(H.h3∘ol 3 nofun),(H.h4∘ol 4 nofun),(H.h5∘ol 5 nofun),(H.h6∘ol 6 nofun),(H.h7∘ol 7 nofun),(H.h8∘ol 8 nofun),(H.h9∘ol 9 nofun),(H.h10∘ol 10 nofun),(H.h11∘ol 11 nofun),(fun _=>⟨_,rfl,H.m1.size,_,Blk.new W _ _⟩),(fun h=>(not_yet hL (hcl 13 (by simp) (ol 13 (by decide) h) 12 (memOf (by kernel_rfl)))).elim),(H.h14∘ol 14 nofun)⟩⟩
   ·clear hi hi2
    have e27:=H.h10 (hdep 10 (memOf (by kernel_rfl)))
    have e7:=H.h12 (hdep 12 (memOf (by kernel_rfl)))
    subst e27
    obtain ⟨b,rfl,hb1,o,hb2⟩:=e7
    have sv:=run_stDp (r:=nd) hb2
    exact step_sk (i:=13) (w':=(W.setRow b (dcs nd))) rfl rfl (by simp [execOp,Act.eval,go_sem,sv]) ⟨_,_,_,_,_,_,_,_,_,_,_,_,_,_,rfl,⟨(below_rowW H.m1 _ hb1),(H.h0∘ol 0 nofun),(H.h1∘ol 1 nofun),(H.h2∘ol 2 nofun),(H.h3∘ol 3 nofun),(H.h4∘ol 4 nofun),(H.h5∘ol 5 nofun),(H.h6∘ol 6 nofun),(H.h7∘ol 7 nofun),(H.h8∘ol 8 nofun),(H.h9∘ol 9 nofun),(H.h10∘ol 10 nofun),(H.h11∘ol 11 nofun),(fun _=>⟨b,rfl,hb1,_,hb2.row _⟩),(fun _=>⟨b,rfl,hb1,hb2.row _⟩),(H.h14∘ol 14 nofun)⟩⟩
   ·clear hi hi2
    have e28:=H.h11 (hdep 11 (memOf (by kernel_rfl)))
    subst e28
    exact step_run (i:=14) (w':=W) (v:=.bool nb) rfl rfl (by simp [execOp,Act.eval,go_sem]) ⟨_,_,_,_,_,_,_,_,_,_,_,_,_,_,rfl,⟨(H.m1),(H.h0∘ol 0 nofun),(H.h1∘ol 1 nofun),(H.h2∘ol 2 nofun),(H.h3∘ol 3 nofun),(H.h4∘ol 4 nofun),(H.h5∘ol 5 nofun),(H.h6∘ol 6 nofun),(H.h7∘ol 7 nofun),(H.h8∘ol 8 nofun),(H.h9∘ol 9 nofun),(H.h10∘ol 10 nofun),(H.h11∘ol 11 nofun),(H.h12∘ol 12 nofun),(H.h13∘ol 13 nofun),(fun _=>rfl)⟩⟩
  case done =>
   rintro L a W hall ⟨x7,x8,x17,x18,x19,x20,x21,x22,x23,x24,x25,x26,x27,x28,rfl,H⟩
   obtain ⟨b7,e7,hb7,B7⟩:=H.h13 (hall 13 (by simp))
   have e8:=H.h14 (hall 14 (by simp))
   subst e7 e8
   have HQ:=Lib.hid (show DsAtL X (c+4) M w M A nd nb [⟨w.heap.size+1,rcs zeroR,57⟩,⟨w.heap.size,acs q ql,52⟩] [] [⟨xb,xcs o x.th,T⟩] (ptr b7) (.bool nb) W from ⟨_,rfl,rfl,HF2.out.drew.growW H.m1 B7 hb7⟩)
   clear H hwis hxb B7 hb7 hall
   go_wp2_with fail
   go_meet
   exact HQ.out
 case rest =>
 obtain ⟨N7,rfl,rfl,F3⟩:=hcut
 have HF3:=Lib.hid F3
 clear F3 HF2 HF0
 have FD:=HF3.out.drew
 have lk4:=ask_k FD.l2.blk
 have HFD:=Lib.hid FD
 clear FD
 have eqk:=HEQ.out
 go_upto_region 4 with fail
 go_cut [37] from 29 to 37 (fun s wx=>s = .bool true∧Fm X (c+4) M w M wx A (⟨N7,dcs nd,34⟩ :: [⟨w.heap.size+1,rcs zeroR,57⟩,⟨w.heap.size,acs q ql,52⟩]) [] [⟨xb,xcs o x.th,T⟩])
 case first =>
  go_region_with (go_at_call 158;(with_reducible refine (lenK_any _).mono ?_);rintro e w5 ⟨rfl,hb⟩;have F5:=HFD.out.call hb;have qh5:=q_hv F5.l2.blk;have lk5:=ask_k F5.l2.blk;rw [HV.out] at qh5;have HF5:=Lib.hid F5;clear hb F5)
  all_goals (go_wp2_with fail;go_meet;exact ⟨rfl,HF5.out⟩)
 case rest =>
 obtain ⟨rfl,F5⟩:=hcut
 have F5:=F5.less (c':=c+3) (by omega)
 have la5:=run_ldAq F5.l2.blk
 have ld5:=d_all F5.l0.blk
 have hd:=defLen_any F5.wis o F5.r0 F5.r0o HAT.out q ql HK.out nd
 have HFE:=Lib.hid F5
 clear F5 HFD HF3
 go_wp2_with (go_at_call 159;(with_reducible refine hd.mono ?_);rintro e w7 ⟨M7,kv7,rfl,hks,hM,hn⟩;have hg7:=Rr.good _ hks;have F7:=HFE.out.next (k2:=[(kv7,(defLenF o x.th q nd A).1.ks)]) hM hn (fun k hk=>by rw [List.mem_singleton.1 hk];exact hks);have s7:=run_stRp F7.l1.blk hg7;have HF7:=Lib.hid F7;clear hks hM hn F7)
 have F8:=HF7.out.put (l:=[⟨N7,dcs nd,34⟩]) (rcs ((defLenF o x.th q nd A).1.mem kv7)) (show 57 ≠ 32 by decide)
 refine bodyPost_ret (res_R rfl _ _ (w.heap.size+1) _ rfl F8.l1.blk) rfl ?_
 exact F8.fin F8.k0
set_option maxRecDepth 100000 in
set_option maxHeartbeats 4000000 in
theorem defArr_el (h:WIs X (c+4) M w A) (o:Int) {T:TypeId} {xb:Nat} {x:Ob} (hx:Blk w xb (xcs o x.th) T) (hxo:xb ∉ M.bl X.wb) (hat:at? A o=some x) (q:Aq) (ql:Value) (hk:Fine q.k) (hg:rigF q.d=true) (hno:(decide (q.k=lenK) && q.d.hv)=false) (i:Int) (hi:kidx q.k=some i) :
  Calls Tryz.prog 136 #[ptr X.wb,ptr xb,.agg (acs q ql)] w (Post X c M w (defElF o x.th q i (nowD A o lenK) A)):=by
 obtain ⟨w1,hw1⟩:∃ w1,(w.alloc (.cells (acs q ql) 52)).alloc (.cells (rcs zeroR) 57)=w1:=⟨_,rfl⟩
 have F0:Fm X (c+4) M w M w1 A [⟨w.heap.size+1,rcs zeroR,57⟩,⟨w.heap.size,acs q ql,52⟩] [] [⟨xb,xcs o x.th,T⟩]:=by
  rw [← hw1];exact (((Fm.start h).with hx hxo).new _ _).newg _ _ _ (by simp)
 have ad:=ask_d F0.l1.blk
 have hr:∀ b,rigF q.d=b→Calls Tryz.prog 79 #[.agg (dcs q.d)] w1 fun e w'=>e = .returned (.bool b)∧Below w1.heap.size w1 w':=fun b hb=>hb ▸ Des.rig_any q.d w1
 have hix:∀ w,Nums.Lw w→Calls Tryz.prog 160 #[.agg (kcs q.k)] w fun e w'=>e = .returned (.tuple #[.int .i64 i,.bool true])∧Below w.heap.size w w':=fun w hL=>by
  have:=idx_any q.k hk w hL
  rw [hi] at this
  exact this
 have HIX:=Lib.hid hix
 have HI:=Lib.hid hi
 have HIR:=Lib.hid (show 0≤i∧i≤4294967295 from kidx_range hi)
 have hq:q.k ≠ lenK∨q.k=lenK∧q.d.hv=false:=by
  by_cases h1:q.k=lenK
  ·right;refine ⟨h1,?_⟩;rw [h1] at hno;simpa using hno
  ·exact .inl h1
 clear hno hix hi
 have hrr:=hr true hg
 obtain ⟨nd,hnd⟩:∃ nd,nowD A o lenK=nd:=⟨_,rfl⟩
 obtain ⟨nb,hnb⟩:∃ nb,(ownF A o lenK).isSome=nb:=⟨_,rfl⟩
 have HLK:=Lib.hid (show Fine lenK from ⟨by decide,by decide,by decide⟩)
 have HOWN:Hid (∀ {w':World},WIs X (c+4) M w' A→Calls Tryz.prog 26 #[ptr M.hb,.int .i64 o,.agg (kcs lenK)] w' fun e w2=>e = .returned (.tuple #[.agg (dcs nd),.bool nb])∧Below w'.heap.size w' w2):=Lib.hid fun h'=>by rw [← hnd,← hnb];exact wOwn h' o lenK HLK.out
 rw [hnd]
 have HF0:=Lib.hid F0
 have HQ0:=Lib.hid hq
 have HK:=Lib.hid hk
 have HAT:=Lib.hid hat
 clear F0 h hx hxo hr hg hk hat hnd hnb hq
 go_enter Tryz.func136,Tryz.ntmps136
 go_upto_region 3 with (go_at_call 79;(with_reducible refine hrr.mono ?_);rintro e w2 ⟨rfl,hb⟩;have F2:=HF0.out.call hb;have HF2:=Lib.hid F2;clear hb F2)
 go_cut [7,8] from 17 to 28 (fun s1 s2 wx=>DsAtL X (c+4) M w M A nd nb [⟨w.heap.size+1,rcs zeroR,57⟩,⟨w.heap.size,acs q ql,52⟩] [] [⟨xb,xcs o x.th,T⟩] s1 s2 wx)
 case first =>
  have hwis:=HF2.out.drew.wis
  have hxb:=HF2.out.drew.r0
  refine region_inv (by kernel_rfl) (fun L a W=>∃ x7 x8 x17 x18 x19 x20 x21 x22 x23 x24 x25 x26 x27 x28:Value,a={ tmps:=#[ptr X.wb,ptr xb,.agg (acs q ql),undef,undef,ptr w.heap.size,ptr (w.heap.size+1),x7,x8,undef,undef,.pointer (some ⟨w.heap.size,8,none⟩),.agg (dcs q.d),.bool true,.bool false,undef,undef,x17,x18,x19,x20,x21,x22,x23,x24,x25,x26,x27,x28,undef,undef,undef,undef,undef,undef,undef,undef,undef,undef,undef,undef,undef,undef,undef,undef,undef,undef,undef,undef,undef,undef,undef,undef,undef,undef,undef,undef,undef,undef,undef,undef,undef,undef],defers:=[] }∧DaI X M xb o nd nb w2.drew L x7 x8 x17 x18 x19 x20 x21 x22 x23 x24 x25 x26 x27 x28 W) (by kernel_rfl) ?start ?step ?done
  case start=>exact ⟨_,_,_,_,_,_,_,_,_,_,_,_,_,_,rfl,⟨Below.refl _ _,fun h=>by simp [Array.getD_eq_getD_getElem?] at h,fun h=>by simp [Array.getD_eq_getD_getElem?] at h,fun h=>by simp [Array.getD_eq_getD_getElem?] at h,fun h=>by simp [Array.getD_eq_getD_getElem?] at h,fun h=>by simp [Array.getD_eq_getD_getElem?] at h,fun h=>by simp [Array.getD_eq_getD_getElem?] at h,fun h=>by simp [Array.getD_eq_getD_getElem?] at h,fun h=>by simp [Array.getD_eq_getD_getElem?] at h,fun h=>by simp [Array.getD_eq_getD_getElem?] at h,fun h=>by simp [Array.getD_eq_getD_getElem?] at h,fun h=>by simp [Array.getD_eq_getD_getElem?] at h,fun h=>by simp [Array.getD_eq_getD_getElem?] at h,fun h=>by simp [Array.getD_eq_getD_getElem?] at h,fun h=>by simp [Array.getD_eq_getD_getElem?] at h,fun h=>by simp [Array.getD_eq_getD_getElem?] at h⟩⟩
  case step =>
   intro i L a W hi hdep hL hs hcl hI
   have hi2:i < 15:=by simpa using hi
   obtain ⟨x7,x8,x17,x18,x19,x20,x21,x22,x23,x24,x25,x26,x27,x28,rfl,H⟩:=hI
   have ol:∀ j,i ≠ j→(L.setIfInBounds i true).getD j false=true→L.getD j false=true:=fun j hj h=>by rwa [getD_set hj] at h
   rcases (by omega:i=0∨i=1∨i=2∨i=3∨i=4∨i=5∨i=6∨i=7∨i=8∨i=9∨i=10∨i=11∨i=12∨i=13∨i=14) with rfl |rfl |rfl |rfl |rfl |rfl |rfl |rfl |rfl |rfl |rfl |rfl |rfl |rfl |rfl
   ·clear hi hi2
    exact step_run (i:=0) (w':=W) (v:=ptr X.wb) rfl rfl (by simp [execOp,Act.eval,go_sem]) ⟨_,_,_,_,_,_,_,_,_,_,_,_,_,_,rfl,⟨(H.m1),(fun _=>rfl),(H.h1∘ol 1 nofun),(H.h2∘ol 2 nofun),(H.h3∘ol 3 nofun),(H.h4∘ol 4 nofun),(H.h5∘ol 5 nofun),(H.h6∘ol 6 nofun),(H.h7∘ol 7 nofun),(H.h8∘ol 8 nofun),(H.h9∘ol 9 nofun),(H.h10∘ol 10 nofun),(H.h11∘ol 11 nofun),(H.h12∘ol 12 nofun),(H.h13∘ol 13 nofun),(H.h14∘ol 14 nofun)⟩⟩
   ·clear hi hi2
    have e18:=H.h0 (hdep 0 (memOf (by kernel_rfl)))
    subst e18
    refine step_call (i:=1) (f:=100) (args:=#[ptr X.wb]) rfl rfl (by simp [execOp,Act.eval,go_sem]) (stW (hwis.call H.m1)) ?_
    rintro e W2 ⟨rfl,hq⟩
    subst hq
    exact ⟨_,rfl,⟨_,_,_,_,_,_,_,_,_,_,_,_,_,_,rfl,⟨(H.m1),(H.h0∘ol 0 nofun),(fun _=>rfl),(H.h2∘ol 2 nofun),(H.h3∘ol 3 nofun),(H.h4∘ol 4 nofun),(H.h5∘ol 5 nofun),(H.h6∘ol 6 nofun),(H.h7∘ol 7 nofun),(H.h8∘ol 8 nofun),(H.h9∘ol 9 nofun),(H.h10∘ol 10 nofun),(H.h11∘ol 11 nofun),(H.h12∘ol 12 nofun),(H.h13∘ol 13 nofun),(H.h14∘ol 14 nofun)⟩⟩⟩
   ·clear hi hi2
    exact step_run (i:=2) (w':=W) (v:=ptr xb) rfl rfl (by simp [execOp,Act.eval,go_sem]) ⟨_,_,_,_,_,_,_,_,_,_,_,_,_,_,rfl,⟨(H.m1),(H.h0∘ol 0 nofun),(H.h1∘ol 1 nofun),(fun _=>rfl),(H.h3∘ol 3 nofun),(H.h4∘ol 4 nofun),(H.h5∘ol 5 nofun),(H.h6∘ol 6 nofun),(H.h7∘ol 7 nofun),(H.h8∘ol 8 nofun),(H.h9∘ol 9 nofun),(H.h10∘ol 10 nofun),(H.h11∘ol 11 nofun),(H.h12∘ol 12 nofun),(H.h13∘ol 13 nofun),(H.h14∘ol 14 nofun)⟩⟩
   ·clear hi hi2
    have e20:=H.h2 (hdep 2 (memOf (by kernel_rfl)))
    subst e20
    exact step_run (i:=3) (w':=W) (v:=ptr xb) rfl rfl (by simp [execOp,Act.eval,go_sem]) ⟨_,_,_,_,_,_,_,_,_,_,_,_,_,_,rfl,⟨(H.m1),(H.h0∘ol 0 nofun),(H.h1∘ol 1 nofun),(H.h2∘ol 2 nofun),(fun _=>rfl),(H.h4∘ol 4 nofun),(H.h5∘ol 5 nofun),(H.h6∘ol 6 nofun),(H.h7∘ol 7 nofun),(H.h8∘ol 8 nofun),(H.h9∘ol 9 nofun),(H.h10∘ol 10 nofun),(H.h11∘ol 11 nofun),(H.h12∘ol 12 nofun),(H.h13∘ol 13 nofun),(H.h14∘ol 14 nofun)⟩⟩
   ·clear hi hi2
    have e21:=H.h3 (hdep 3 (memOf (by kernel_rfl)))
    subst e21
    exact step_run (i:=4) (w':=W) (v:=.pointer (some ⟨xb,0,none⟩)) rfl rfl (by simp [execOp,Act.eval,go_sem]) ⟨_,_,_,_,_,_,_,_,_,_,_,_,_,_,rfl,⟨(H.m1),(H.h0∘ol 0 nofun),(H.h1∘ol 1 nofun),(H.h2∘ol 2 nofun),(H.h3∘ol 3 nofun),(fun _=>rfl),(H.h5∘ol 5 nofun),(H.h6∘ol 6 nofun),(H.h7∘ol 7 nofun),(H.h8∘ol 8 nofun),(H.h9∘ol 9 nofun),(H.h10∘ol 10 nofun),(H.h11∘ol 11 nofun),(H.h12∘ol 12 nofun),(H.h13∘ol 13 nofun),(H.h14∘ol 14 nofun)⟩⟩
   ·clear hi hi2
    have e22:=H.h4 (hdep 4 (memOf (by kernel_rfl)))
    subst e22
    exact step_run (i:=5) (w':=W) (v:=.pointer (some ⟨xb,0,none⟩)) rfl rfl (by simp [execOp,Act.eval,go_sem]) ⟨_,_,_,_,_,_,_,_,_,_,_,_,_,_,rfl,⟨(H.m1),(H.h0∘ol 0 nofun),(H.h1∘ol 1 nofun),(H.h2∘ol 2 nofun),(H.h3∘ol 3 nofun),(H.h4∘ol 4 nofun),(fun _=>rfl),(H.h6∘ol 6 nofun),(H.h7∘ol 7 nofun),(H.h8∘ol 8 nofun),(H.h9∘ol 9 nofun),(H.h10∘ol 10 nofun),(H.h11∘ol 11 nofun),(H.h12∘ol 12 nofun),(H.h13∘ol 13 nofun),(H.h14∘ol 14 nofun)⟩⟩
   ·clear hi hi2
    have e23:=H.h5 (hdep 5 (memOf (by kernel_rfl)))
    subst e23
    have cq:=x_num (hxb.call H.m1)
    exact step_run (i:=6) (w':=W) (v:=.int .i64 o) rfl rfl (by simp [execOp,Act.eval,go_sem,cq]) ⟨_,_,_,_,_,_,_,_,_,_,_,_,_,_,rfl,⟨(H.m1),(H.h0∘ol 0 nofun),(H.h1∘ol 1 nofun),(H.h2∘ol 2 nofun),(H.h3∘ol 3 nofun),(H.h4∘ol 4 nofun),(H.h5∘ol 5 nofun),(fun _=>rfl),(H.h7∘ol 7 nofun),(H.h8∘ol 8 nofun),(H.h9∘ol 9 nofun),(H.h10∘ol 10 nofun),(H.h11∘ol 11 nofun),(H.h12∘ol 12 nofun),(H.h13∘ol 13 nofun),(H.h14∘ol 14 nofun)⟩⟩
   ·clear hi hi2
    refine step_call (i:=7) (f:=158) (args:=#[]) rfl rfl (by simp [execOp,Act.eval,go_sem]) (lenK_any W) ?_
    rintro e W2 ⟨rfl,hb⟩
    exact ⟨_,rfl,⟨_,_,_,_,_,_,_,_,_,_,_,_,_,_,rfl,⟨(H.m1.trans (hb.mono H.m1.size)),(H.h0∘ol 0 nofun),(H.h1∘ol 1 nofun),(H.h2∘ol 2 nofun),(H.h3∘ol 3 nofun),(H.h4∘ol 4 nofun),(H.h5∘ol 5 nofun),(H.h6∘ol 6 nofun),(fun _=>rfl),(H.h8∘ol 8 nofun),(H.h9∘ol 9 nofun),(H.h10∘ol 10 nofun),(H.h11∘ol 11 nofun),(fun h=>let ⟨g,q1,q2,o,q3⟩:=H.h12 (ol 12 (by decide) h);⟨g,q1,q2,o,q3.call hb⟩),(fun h=>let ⟨g,q1,q2,q3⟩:=H.h13 (ol 13 (by decide) h);⟨g,q1,q2,q3.call hb⟩),(H.h14∘ol 14 nofun)⟩⟩⟩
   ·clear hi hi2
    have e19:=H.h1 (hdep 1 (memOf (by kernel_rfl)))
    have e24:=H.h6 (hdep 6 (memOf (by kernel_rfl)))
    have e25:=H.h7 (hdep 7 (memOf (by kernel_rfl)))
    subst e19
    subst e24
    subst e25
    refine step_call (i:=8) (f:=26) (args:=#[ptr M.hb,.int .i64 o,.agg (kcs lenK)]) rfl rfl (by simp [execOp,Act.eval,go_sem]) (HOWN.out (hwis.call H.m1)) ?_
    rintro e W2 ⟨rfl,hb⟩
    exact ⟨_,rfl,⟨_,_,_,_,_,_,_,_,_,_,_,_,_,_,rfl,⟨(H.m1.trans (hb.mono H.m1.size)),(H.h0∘ol 0 nofun),(H.h1∘ol 1 nofun),(H.h2∘ol 2 nofun),(H.h3∘ol 3 nofun),(H.h4∘ol 4 nofun),(H.h5∘ol 5 nofun),(H.h6∘ol 6 nofun),(H.h7∘ol 7 nofun),(fun _=>rfl),(H.h9∘ol 9 nofun),(H.h10∘ol 10 nofun),(H.h11∘ol 11 nofun),(fun h=>let ⟨g,q1,q2,o,q3⟩:=H.h12 (ol 12 (by decide) h);⟨g,q1,q2,o,q3.call hb⟩),(fun h=>let ⟨g,q1,q2,q3⟩:=H.h13 (ol 13 (by decide) h);⟨g,q1,q2,q3.call hb⟩),(H.h14∘ol 14 nofun)⟩⟩⟩
   ·clear hi hi2
    have e26:=H.h8 (hdep 8 (memOf (by kernel_rfl)))
    subst e26
    exact step_run (i:=9) (w':=W) (v:=.tuple #[.agg (dcs nd),.bool nb]) rfl rfl (by simp [execOp,Act.eval,go_sem]) ⟨_,_,_,_,_,_,_,_,_,_,_,_,_,_,rfl,⟨(H.m1),(H.h0∘ol 0 nofun),(H.h1∘ol 1 nofun),(H.h2∘ol 2 nofun),(H.h3∘ol 3 nofun),(H.h4∘ol 4 nofun),(H.h5∘ol 5 nofun),(H.h6∘ol 6 nofun),(H.h7∘ol 7 nofun),(H.h8∘ol 8 nofun),(fun _=>rfl),(H.h10∘ol 10 nofun),(H.h11∘ol 11 nofun),(H.h12∘ol 12 nofun),(H.h13∘ol 13 nofun),(H.h14∘ol 14 nofun)⟩⟩
   ·clear hi hi2
    have e17:=H.h9 (hdep 9 (memOf (by kernel_rfl)))
    subst e17
    exact step_run (i:=10) (w':=W) (v:=.agg (dcs nd)) rfl rfl (by simp [execOp,Act.eval,go_sem]) ⟨_,_,_,_,_,_,_,_,_,_,_,_,_,_,rfl,⟨(H.m1),(H.h0∘ol 0 nofun),(H.h1∘ol 1 nofun),(H.h2∘ol 2 nofun),(H.h3∘ol 3 nofun),(H.h4∘ol 4 nofun),(H.h5∘ol 5 nofun),(H.h6∘ol 6 nofun),(H.h7∘ol 7 nofun),(H.h8∘ol 8 nofun),(H.h9∘ol 9 nofun),(fun _=>rfl),(H.h11∘ol 11 nofun),(H.h12∘ol 12 nofun),(H.h13∘ol 13 nofun),(H.h14∘ol 14 nofun)⟩⟩
   ·clear hi hi2
    have e17:=H.h9 (hdep 9 (memOf (by kernel_rfl)))
    subst e17
    exact step_run (i:=11) (w':=W) (v:=.bool nb) rfl rfl (by simp [execOp,Act.eval,go_sem]) ⟨_,_,_,_,_,_,_,_,_,_,_,_,_,_,rfl,⟨(H.m1),(H.h0∘ol 0 nofun),(H.h1∘ol 1 nofun),(H.h2∘ol 2 nofun),(H.h3∘ol 3 nofun),(H.h4∘ol 4 nofun),(H.h5∘ol 5 nofun),(H.h6∘ol 6 nofun),(H.h7∘ol 7 nofun),(H.h8∘ol 8 nofun),(H.h9∘ol 9 nofun),(H.h10∘ol 10 nofun),(fun _=>rfl),(H.h12∘ol 12 nofun),(H.h13∘ol 13 nofun),(H.h14∘ol 14 nofun)⟩⟩
   ·clear hi hi2
    have hb:Below W.heap.size W (W.alloc (.cells (dcs zeroD) 34)):=(Below.refl _ W).alloc (Nat.le_refl _) _
    exact step_run (i:=12) (w':=(W.alloc (.cells (dcs zeroD) 34))) (v:=ptr W.heap.size) rfl rfl (by simp [execOp,Act.eval,go_sem]) ⟨_,_,_,_,_,_,_,_,_,_,_,_,_,_,rfl,⟨(H.m1.trans (hb.mono H.m1.size)),(H.h0∘ol 0 nofun),(H.h1∘ol 1 nofun),(H.h2∘ol 2 nofun),(H.h3∘ol 3 nofun),(H.h4∘ol 4 nofun),(H.h5∘ol 5 nofun),(H.h6∘ol 6 nofun),(H.h7∘ol 7 nofun),(H.h8∘ol 8 nofun),(H.h9∘ol 9 nofun),(H.h10∘ol 10 nofun),(H.h11∘ol 11 nofun),(fun _=>⟨_,rfl,H.m1.size,_,Blk.new W _ _⟩),(fun h=>(not_yet hL (hcl 13 (by simp) (ol 13 (by decide) h) 12 (memOf (by kernel_rfl)))).elim),(H.h14∘ol 14 nofun)⟩⟩
   ·clear hi hi2
    have e27:=H.h10 (hdep 10 (memOf (by kernel_rfl)))
    have e7:=H.h12 (hdep 12 (memOf (by kernel_rfl)))
    subst e27
    obtain ⟨b,rfl,hb1,o,hb2⟩:=e7
    have sv:=run_stDp (r:=nd) hb2
    exact step_sk (i:=13) (w':=(W.setRow b (dcs nd))) rfl rfl (by simp [execOp,Act.eval,go_sem,sv]) ⟨_,_,_,_,_,_,_,_,_,_,_,_,_,_,rfl,⟨(below_rowW H.m1 _ hb1),(H.h0∘ol 0 nofun),(H.h1∘ol 1 nofun),(H.h2∘ol 2 nofun),(H.h3∘ol 3 nofun),(H.h4∘ol 4 nofun),(H.h5∘ol 5 nofun),(H.h6∘ol 6 nofun),(H.h7∘ol 7 nofun),(H.h8∘ol 8 nofun),(H.h9∘ol 9 nofun),(H.h10∘ol 10 nofun),(H.h11∘ol 11 nofun),(fun _=>⟨b,rfl,hb1,_,hb2.row _⟩),(fun _=>⟨b,rfl,hb1,hb2.row _⟩),(H.h14∘ol 14 nofun)⟩⟩
   ·clear hi hi2
    have e28:=H.h11 (hdep 11 (memOf (by kernel_rfl)))
    subst e28
    exact step_run (i:=14) (w':=W) (v:=.bool nb) rfl rfl (by simp [execOp,Act.eval,go_sem]) ⟨_,_,_,_,_,_,_,_,_,_,_,_,_,_,rfl,⟨(H.m1),(H.h0∘ol 0 nofun),(H.h1∘ol 1 nofun),(H.h2∘ol 2 nofun),(H.h3∘ol 3 nofun),(H.h4∘ol 4 nofun),(H.h5∘ol 5 nofun),(H.h6∘ol 6 nofun),(H.h7∘ol 7 nofun),(H.h8∘ol 8 nofun),(H.h9∘ol 9 nofun),(H.h10∘ol 10 nofun),(H.h11∘ol 11 nofun),(H.h12∘ol 12 nofun),(H.h13∘ol 13 nofun),(fun _=>rfl)⟩⟩
  case done =>
   rintro L a W hall ⟨x7,x8,x17,x18,x19,x20,x21,x22,x23,x24,x25,x26,x27,x28,rfl,H⟩
   obtain ⟨b7,e7,hb7,B7⟩:=H.h13 (hall 13 (by simp))
   have e8:=H.h14 (hall 14 (by simp))
   subst e7 e8
   have HQ:=Lib.hid (show DsAtL X (c+4) M w M A nd nb [⟨w.heap.size+1,rcs zeroR,57⟩,⟨w.heap.size,acs q ql,52⟩] [] [⟨xb,xcs o x.th,T⟩] (ptr b7) (.bool nb) W from ⟨_,rfl,rfl,HF2.out.drew.growW H.m1 B7 hb7⟩)
   clear H hwis hxb B7 hb7 hall
   go_wp2_with fail
   go_meet
   exact HQ.out
 case rest =>
 obtain ⟨N7,rfl,rfl,F3⟩:=hcut
 have HF3:=Lib.hid F3
 clear F3 HF2 HF0
 have FD:=HF3.out.drew
 have lk4:=ask_k FD.l2.blk
 have HFD:=Lib.hid FD
 clear FD
 go_upto_region 4 with fail
 go_cut [37] from 29 to 37 (fun s wx=>s = .bool false∧Fm X (c+4) M w M wx A (⟨N7,dcs nd,34⟩ :: [⟨w.heap.size+1,rcs zeroR,57⟩,⟨w.heap.size,acs q ql,52⟩]) [] [⟨xb,xcs o x.th,T⟩])
 case first =>
  rcases HQ0.out with hq |⟨hq,hv⟩
  ·have eqk:=key_ne hq
   clear hq
   have hS:∀ W W',Fm X (c+4) M w M W A (⟨N7,dcs nd,34⟩ :: [⟨w.heap.size+1,rcs zeroR,57⟩,⟨w.heap.size,acs q ql,52⟩]) [] [⟨xb,xcs o x.th,T⟩]→Below W.heap.size W W'→Fm X (c+4) M w M W' A (⟨N7,dcs nd,34⟩ :: [⟨w.heap.size+1,rcs zeroR,57⟩,⟨w.heap.size,acs q ql,52⟩]) [] [⟨xb,xcs o x.th,T⟩]:=fun W W' F hb=>F.call hb
   have lkp:∀ p:Des.Wd (fun W=>Fm X (c+4) M w M W A (⟨N7,dcs nd,34⟩ :: [⟨w.heap.size+1,rcs zeroR,57⟩,⟨w.heap.size,acs q ql,52⟩]) [] [⟨xb,xcs o x.th,T⟩]),(Ld 32 (.pointer (some ⟨w.heap.size,0,none⟩))).run Tryz.prog p.w = .ok (.agg (kcs q.k)) p.w:=fun p=>ask_k p.ok.l2.blk
   refine region_inS (S:=fun W=>Fm X (c+4) M w M W A (⟨N7,dcs nd,34⟩ :: [⟨w.heap.size+1,rcs zeroR,57⟩,⟨w.heap.size,acs q ql,52⟩]) [] [⟨xb,xcs o x.th,T⟩]) (by kernel_rfl) (by kernel_rfl) HFD.out (fun hne=>?_)
   repeat (go_big_quiet_step (exact in_callS hS (lenK_any _)))
   refine wpQuiet_nil ?_
   intro w5 hw5
   have F5:=Des.in_out hw5
   have HF5:=Lib.hid F5
   clear F5 hw5 hS lkp
   go_wp2_with fail
   go_meet
   exact ⟨rfl,HF5.out⟩
  ·have eqk:∀ w,(binOp .eql 32 (.agg (kcs q.k)) (.agg (kcs lenK))).run Tryz.prog w = .ok (.bool true) w:=fun w=>hq ▸ key_eq q.k w
   have HV:=Lib.hid hv
   clear hq hv
   go_region_with (go_at_call 158;(with_reducible refine (lenK_any _).mono ?_);rintro e w5 ⟨rfl,hb⟩;have F5:=HFD.out.call hb;have qh5:=q_hv F5.l2.blk;have lk5:=ask_k F5.l2.blk;rw [HV.out] at qh5;have HF5:=Lib.hid F5;clear hb F5)
   all_goals (go_wp2_with fail;go_meet;exact ⟨rfl,HF5.out⟩)
 case rest =>
 obtain ⟨rfl,F5⟩:=hcut
 have lk6:=ask_k F5.l2.blk
 have hix:=HIX.out _ F5.wis.lwAt
 have HF5:=Lib.hid F5
 clear F5 HFD HF3
 go_wp2_with (first |(go_at_call 160;(with_reducible refine hix.mono ?_);rintro e w6 ⟨rfl,hb⟩;have F6:=(HF5.out.less (c':=c+3) (by omega)).call hb;have la6:=run_ldAq F6.l2.blk;have ld6:=d_all F6.l0.blk;have hd:=defEl_any F6.wis o F6.r0 F6.r0o q ql HK.out i HIR.out nd;have HFE:=Lib.hid F6;have HF6:=Lib.hid F6;clear hb F6) |(go_at_call 161;(with_reducible refine hd.mono ?_);rintro e w7 ⟨M7,kv7,rfl,hks,hM,hn⟩;have hg7:=Rr.good _ hks;have F7:=HFE.out.next (k2:=[(kv7,(defElF o x.th q i nd A).1.ks)]) hM hn (fun k hk=>by rw [List.mem_singleton.1 hk];exact hks);have s7:=run_stRp F7.l1.blk hg7;have HF7:=Lib.hid F7;clear hks hM hn F7))
 have F8:=HF7.out.put (l:=[⟨N7,dcs nd,34⟩]) (rcs ((defElF o x.th q i nd A).1.mem kv7)) (show 57 ≠ 32 by decide)
 refine bodyPost_ret (res_R rfl _ _ (w.heap.size+1) _ rfl F8.l1.blk) rfl ?_
 exact F8.fin F8.k0
set_option maxRecDepth 100000 in
set_option maxHeartbeats 4000000 in
theorem defArr_rest (h:WIs X (c+4) M w A) (o:Int) {T:TypeId} {xb:Nat} {x:Ob} (hx:Blk w xb (xcs o x.th) T) (hxo:xb ∉ M.bl X.wb) (hat:at? A o=some x) (q:Aq) (ql:Value) (hk:Fine q.k) (hg:rigF q.d=true) (hno:(decide (q.k=lenK) && q.d.hv)=false) (hi:kidx q.k=none) :
  Calls Tryz.prog 136 #[ptr X.wb,ptr xb,.agg (acs q ql)] w (Post X c M w (applyF o x.th q A)):=by
 obtain ⟨w1,hw1⟩:∃ w1,(w.alloc (.cells (acs q ql) 52)).alloc (.cells (rcs zeroR) 57)=w1:=⟨_,rfl⟩
 have F0:Fm X (c+4) M w M w1 A [⟨w.heap.size+1,rcs zeroR,57⟩,⟨w.heap.size,acs q ql,52⟩] [] [⟨xb,xcs o x.th,T⟩]:=by
  rw [← hw1];exact (((Fm.start h).with hx hxo).new _ _).newg _ _ _ (by simp)
 have ad:=ask_d F0.l1.blk
 have hr:∀ b,rigF q.d=b→Calls Tryz.prog 79 #[.agg (dcs q.d)] w1 fun e w'=>e = .returned (.bool b)∧Below w1.heap.size w1 w':=fun b hb=>hb ▸ Des.rig_any q.d w1
 have hix:∀ w,Nums.Lw w→Calls Tryz.prog 160 #[.agg (kcs q.k)] w fun e w'=>e = .returned (.tuple #[.int .i64 0,.bool false])∧Below w.heap.size w w':=fun w hL=>by
  have:=idx_any q.k hk w hL
  rw [hi] at this
  exact this
 have HIX:=Lib.hid hix
 have HI:=Lib.hid hi
 have hq:q.k ≠ lenK∨q.k=lenK∧q.d.hv=false:=by
  by_cases h1:q.k=lenK
  ·right;refine ⟨h1,?_⟩;rw [h1] at hno;simpa using hno
  ·exact .inl h1
 clear hno hix hi
 have hrr:=hr true hg
 obtain ⟨nd,hnd⟩:∃ nd,nowD A o lenK=nd:=⟨_,rfl⟩
 obtain ⟨nb,hnb⟩:∃ nb,(ownF A o lenK).isSome=nb:=⟨_,rfl⟩
 have HLK:=Lib.hid (show Fine lenK from ⟨by decide,by decide,by decide⟩)
 have HOWN:Hid (∀ {w':World},WIs X (c+4) M w' A→Calls Tryz.prog 26 #[ptr M.hb,.int .i64 o,.agg (kcs lenK)] w' fun e w2=>e = .returned (.tuple #[.agg (dcs nd),.bool nb])∧Below w'.heap.size w' w2):=Lib.hid fun h'=>by rw [← hnd,← hnb];exact wOwn h' o lenK HLK.out
 skip
 have HF0:=Lib.hid F0
 have HQ0:=Lib.hid hq
 have HK:=Lib.hid hk
 have HAT:=Lib.hid hat
 clear F0 h hx hxo hr hg hk hat hnd hnb hq
 go_enter Tryz.func136,Tryz.ntmps136
 go_upto_region 3 with (go_at_call 79;(with_reducible refine hrr.mono ?_);rintro e w2 ⟨rfl,hb⟩;have F2:=HF0.out.call hb;have HF2:=Lib.hid F2;clear hb F2)
 go_cut [7,8] from 17 to 28 (fun s1 s2 wx=>DsAtL X (c+4) M w M A nd nb [⟨w.heap.size+1,rcs zeroR,57⟩,⟨w.heap.size,acs q ql,52⟩] [] [⟨xb,xcs o x.th,T⟩] s1 s2 wx)
 case first =>
  have hwis:=HF2.out.drew.wis
  have hxb:=HF2.out.drew.r0
  refine region_inv (by kernel_rfl) (fun L a W=>∃ x7 x8 x17 x18 x19 x20 x21 x22 x23 x24 x25 x26 x27 x28:Value,a={ tmps:=#[ptr X.wb,ptr xb,.agg (acs q ql),undef,undef,ptr w.heap.size,ptr (w.heap.size+1),x7,x8,undef,undef,.pointer (some ⟨w.heap.size,8,none⟩),.agg (dcs q.d),.bool true,.bool false,undef,undef,x17,x18,x19,x20,x21,x22,x23,x24,x25,x26,x27,x28,undef,undef,undef,undef,undef,undef,undef,undef,undef,undef,undef,undef,undef,undef,undef,undef,undef,undef,undef,undef,undef,undef,undef,undef,undef,undef,undef,undef,undef,undef,undef,undef,undef,undef],defers:=[] }∧DaI X M xb o nd nb w2.drew L x7 x8 x17 x18 x19 x20 x21 x22 x23 x24 x25 x26 x27 x28 W) (by kernel_rfl) ?start ?step ?done
  case start=>exact ⟨_,_,_,_,_,_,_,_,_,_,_,_,_,_,rfl,⟨Below.refl _ _,fun h=>by simp [Array.getD_eq_getD_getElem?] at h,fun h=>by simp [Array.getD_eq_getD_getElem?] at h,fun h=>by simp [Array.getD_eq_getD_getElem?] at h,fun h=>by simp [Array.getD_eq_getD_getElem?] at h,fun h=>by simp [Array.getD_eq_getD_getElem?] at h,fun h=>by simp [Array.getD_eq_getD_getElem?] at h,fun h=>by simp [Array.getD_eq_getD_getElem?] at h,fun h=>by simp [Array.getD_eq_getD_getElem?] at h,fun h=>by simp [Array.getD_eq_getD_getElem?] at h,fun h=>by simp [Array.getD_eq_getD_getElem?] at h,fun h=>by simp [Array.getD_eq_getD_getElem?] at h,fun h=>by simp [Array.getD_eq_getD_getElem?] at h,fun h=>by simp [Array.getD_eq_getD_getElem?] at h,fun h=>by simp [Array.getD_eq_getD_getElem?] at h,fun h=>by simp [Array.getD_eq_getD_getElem?] at h⟩⟩
  case step =>
   intro i L a W hi hdep hL hs hcl hI
   have hi2:i < 15:=by simpa using hi
   obtain ⟨x7,x8,x17,x18,x19,x20,x21,x22,x23,x24,x25,x26,x27,x28,rfl,H⟩:=hI
   have ol:∀ j,i ≠ j→(L.setIfInBounds i true).getD j false=true→L.getD j false=true:=fun j hj h=>by rwa [getD_set hj] at h
   rcases (by omega:i=0∨i=1∨i=2∨i=3∨i=4∨i=5∨i=6∨i=7∨i=8∨i=9∨i=10∨i=11∨i=12∨i=13∨i=14) with rfl |rfl |rfl |rfl |rfl |rfl |rfl |rfl |rfl |rfl |rfl |rfl |rfl |rfl |rfl
   ·clear hi hi2
    exact step_run (i:=0) (w':=W) (v:=ptr X.wb) rfl rfl (by simp [execOp,Act.eval,go_sem]) ⟨_,_,_,_,_,_,_,_,_,_,_,_,_,_,rfl,⟨(H.m1),(fun _=>rfl),(H.h1∘ol 1 nofun),(H.h2∘ol 2 nofun),(H.h3∘ol 3 nofun),(H.h4∘ol 4 nofun),(H.h5∘ol 5 nofun),(H.h6∘ol 6 nofun),(H.h7∘ol 7 nofun),(H.h8∘ol 8 nofun),(H.h9∘ol 9 nofun),(H.h10∘ol 10 nofun),(H.h11∘ol 11 nofun),(H.h12∘ol 12 nofun),(H.h13∘ol 13 nofun),(H.h14∘ol 14 nofun)⟩⟩
   ·clear hi hi2
    have e18:=H.h0 (hdep 0 (memOf (by kernel_rfl)))
    subst e18
    refine step_call (i:=1) (f:=100) (args:=#[ptr X.wb]) rfl rfl (by simp [execOp,Act.eval,go_sem]) (stW (hwis.call H.m1)) ?_
    rintro e W2 ⟨rfl,hq⟩
    subst hq
    exact ⟨_,rfl,⟨_,_,_,_,_,_,_,_,_,_,_,_,_,_,rfl,⟨(H.m1),(H.h0∘ol 0 nofun),(fun _=>rfl),(H.h2∘ol 2 nofun),(H.h3∘ol 3 nofun),(H.h4∘ol 4 nofun),(H.h5∘ol 5 nofun),(H.h6∘ol 6 nofun),(H.h7∘ol 7 nofun),(H.h8∘ol 8 nofun),(H.h9∘ol 9 nofun),(H.h10∘ol 10 nofun),(H.h11∘ol 11 nofun),(H.h12∘ol 12 nofun),(H.h13∘ol 13 nofun),(H.h14∘ol 14 nofun)⟩⟩⟩
   ·clear hi hi2
    exact step_run (i:=2) (w':=W) (v:=ptr xb) rfl rfl (by simp [execOp,Act.eval,go_sem]) ⟨_,_,_,_,_,_,_,_,_,_,_,_,_,_,rfl,⟨(H.m1),(H.h0∘ol 0 nofun),(H.h1∘ol 1 nofun),(fun _=>rfl),(H.h3∘ol 3 nofun),(H.h4∘ol 4 nofun),(H.h5∘ol 5 nofun),(H.h6∘ol 6 nofun),(H.h7∘ol 7 nofun),(H.h8∘ol 8 nofun),(H.h9∘ol 9 nofun),(H.h10∘ol 10 nofun),(H.h11∘ol 11 nofun),(H.h12∘ol 12 nofun),(H.h13∘ol 13 nofun),(H.h14∘ol 14 nofun)⟩⟩
   ·clear hi hi2
    have e20:=H.h2 (hdep 2 (memOf (by kernel_rfl)))
    subst e20
    exact step_run (i:=3) (w':=W) (v:=ptr xb) rfl rfl (by simp [execOp,Act.eval,go_sem]) ⟨_,_,_,_,_,_,_,_,_,_,_,_,_,_,rfl,⟨(H.m1),(H.h0∘ol 0 nofun),(H.h1∘ol 1 nofun),(H.h2∘ol 2 nofun),(fun _=>rfl),(H.h4∘ol 4 nofun),(H.h5∘ol 5 nofun),(H.h6∘ol 6 nofun),(H.h7∘ol 7 nofun),(H.h8∘ol 8 nofun),(H.h9∘ol 9 nofun),(H.h10∘ol 10 nofun),(H.h11∘ol 11 nofun),(H.h12∘ol 12 nofun),(H.h13∘ol 13 nofun),(H.h14∘ol 14 nofun)⟩⟩
   ·clear hi hi2
    have e21:=H.h3 (hdep 3 (memOf (by kernel_rfl)))
    subst e21
    exact step_run (i:=4) (w':=W) (v:=.pointer (some ⟨xb,0,none⟩)) rfl rfl (by simp [execOp,Act.eval,go_sem]) ⟨_,_,_,_,_,_,_,_,_,_,_,_,_,_,rfl,⟨(H.m1),(H.h0∘ol 0 nofun),(H.h1∘ol 1 nofun),(H.h2∘ol 2 nofun),(H.h3∘ol 3 nofun),(fun _=>rfl),(H.h5∘ol 5 nofun),(H.h6∘ol 6 nofun),(H.h7∘ol 7 nofun),(H.h8∘ol 8 nofun),(H.h9∘ol 9 nofun),(H.h10∘ol 10 nofun),(H.h11∘ol 11 nofun),(H.h12∘ol 12 nofun),(H.h13∘ol 13 nofun),(H.h14∘ol 14 nofun)⟩⟩
   ·clear hi hi2
    have e22:=H.h4 (hdep 4 (memOf (by kernel_rfl)))
    subst e22
    exact step_run (i:=5) (w':=W) (v:=.pointer (some ⟨xb,0,none⟩)) rfl rfl (by simp [execOp,Act.eval,go_sem]) ⟨_,_,_,_,_,_,_,_,_,_,_,_,_,_,rfl,⟨(H.m1),(H.h0∘ol 0 nofun),(H.h1∘ol 1 nofun),(H.h2∘ol 2 nofun),(H.h3∘ol 3 nofun),(H.h4∘ol 4 nofun),(fun _=>rfl),(H.h6∘ol 6 nofun),(H.h7∘ol 7 nofun),(H.h8∘ol 8 nofun),(H.h9∘ol 9 nofun),(H.h10∘ol 10 nofun),(H.h11∘ol 11 nofun),(H.h12∘ol 12 nofun),(H.h13∘ol 13 nofun),(H.h14∘ol 14 nofun)⟩⟩
   ·clear hi hi2
    have e23:=H.h5 (hdep 5 (memOf (by kernel_rfl)))
    subst e23
    have cq:=x_num (hxb.call H.m1)
    exact step_run (i:=6) (w':=W) (v:=.int .i64 o) rfl rfl (by simp [execOp,Act.eval,go_sem,cq]) ⟨_,_,_,_,_,_,_,_,_,_,_,_,_,_,rfl,⟨(H.m1),(H.h0∘ol 0 nofun),(H.h1∘ol 1 nofun),(H.h2∘ol 2 nofun),(H.h3∘ol 3 nofun),(H.h4∘ol 4 nofun),(H.h5∘ol 5 nofun),(fun _=>rfl),(H.h7∘ol 7 nofun),(H.h8∘ol 8 nofun),(H.h9∘ol 9 nofun),(H.h10∘ol 10 nofun),(H.h11∘ol 11 nofun),(H.h12∘ol 12 nofun),(H.h13∘ol 13 nofun),(H.h14∘ol 14 nofun)⟩⟩
   ·clear hi hi2
    refine step_call (i:=7) (f:=158) (args:=#[]) rfl rfl (by simp [execOp,Act.eval,go_sem]) (lenK_any W) ?_
    rintro e W2 ⟨rfl,hb⟩
    exact ⟨_,rfl,⟨_,_,_,_,_,_,_,_,_,_,_,_,_,_,rfl,⟨(H.m1.trans (hb.mono H.m1.size)),(H.h0∘ol 0 nofun),(H.h1∘ol 1 nofun),(H.h2∘ol 2 nofun),(H.h3∘ol 3 nofun),(H.h4∘ol 4 nofun),(H.h5∘ol 5 nofun),(H.h6∘ol 6 nofun),(fun _=>rfl),(H.h8∘ol 8 nofun),(H.h9∘ol 9 nofun),(H.h10∘ol 10 nofun),(H.h11∘ol 11 nofun),(fun h=>let ⟨g,q1,q2,o,q3⟩:=H.h12 (ol 12 (by decide) h);⟨g,q1,q2,o,q3.call hb⟩),(fun h=>let ⟨g,q1,q2,q3⟩:=H.h13 (ol 13 (by decide) h);⟨g,q1,q2,q3.call hb⟩),(H.h14∘ol 14 nofun)⟩⟩⟩
   ·clear hi hi2
    have e19:=H.h1 (hdep 1 (memOf (by kernel_rfl)))
    have e24:=H.h6 (hdep 6 (memOf (by kernel_rfl)))
    have e25:=H.h7 (hdep 7 (memOf (by kernel_rfl)))
    subst e19
    subst e24
    subst e25
    refine step_call (i:=8) (f:=26) (args:=#[ptr M.hb,.int .i64 o,.agg (kcs lenK)]) rfl rfl (by simp [execOp,Act.eval,go_sem]) (HOWN.out (hwis.call H.m1)) ?_
    rintro e W2 ⟨rfl,hb⟩
    exact ⟨_,rfl,⟨_,_,_,_,_,_,_,_,_,_,_,_,_,_,rfl,⟨(H.m1.trans (hb.mono H.m1.size)),(H.h0∘ol 0 nofun),(H.h1∘ol 1 nofun),(H.h2∘ol 2 nofun),(H.h3∘ol 3 nofun),(H.h4∘ol 4 nofun),(H.h5∘ol 5 nofun),(H.h6∘ol 6 nofun),(H.h7∘ol 7 nofun),(fun _=>rfl),(H.h9∘ol 9 nofun),(H.h10∘ol 10 nofun),(H.h11∘ol 11 nofun),(fun h=>let ⟨g,q1,q2,o,q3⟩:=H.h12 (ol 12 (by decide) h);⟨g,q1,q2,o,q3.call hb⟩),(fun h=>let ⟨g,q1,q2,q3⟩:=H.h13 (ol 13 (by decide) h);⟨g,q1,q2,q3.call hb⟩),(H.h14∘ol 14 nofun)⟩⟩⟩
   ·clear hi hi2
    have e26:=H.h8 (hdep 8 (memOf (by kernel_rfl)))
    subst e26
    exact step_run (i:=9) (w':=W) (v:=.tuple #[.agg (dcs nd),.bool nb]) rfl rfl (by simp [execOp,Act.eval,go_sem]) ⟨_,_,_,_,_,_,_,_,_,_,_,_,_,_,rfl,⟨(H.m1),(H.h0∘ol 0 nofun),(H.h1∘ol 1 nofun),(H.h2∘ol 2 nofun),(H.h3∘ol 3 nofun),(H.h4∘ol 4 nofun),(H.h5∘ol 5 nofun),(H.h6∘ol 6 nofun),(H.h7∘ol 7 nofun),(H.h8∘ol 8 nofun),(fun _=>rfl),(H.h10∘ol 10 nofun),(H.h11∘ol 11 nofun),(H.h12∘ol 12 nofun),(H.h13∘ol 13 nofun),(H.h14∘ol 14 nofun)⟩⟩
   ·clear hi hi2
    have e17:=H.h9 (hdep 9 (memOf (by kernel_rfl)))
    subst e17
    exact step_run (i:=10) (w':=W) (v:=.agg (dcs nd)) rfl rfl (by simp [execOp,Act.eval,go_sem]) ⟨_,_,_,_,_,_,_,_,_,_,_,_,_,_,rfl,⟨(H.m1),(H.h0∘ol 0 nofun),(H.h1∘ol 1 nofun),(H.h2∘ol 2 nofun),(H.h3∘ol 3 nofun),(H.h4∘ol 4 nofun),(H.h5∘ol 5 nofun),(H.h6∘ol 6 nofun),(H.h7∘ol 7 nofun),(H.h8∘ol 8 nofun),(H.h9∘ol 9 nofun),(fun _=>rfl),(H.h11∘ol 11 nofun),(H.h12∘ol 12 nofun),(H.h13∘ol 13 nofun),(H.h14∘ol 14 nofun)⟩⟩
   ·clear hi hi2
    have e17:=H.h9 (hdep 9 (memOf (by kernel_rfl)))
    subst e17
    exact step_run (i:=11) (w':=W) (v:=.bool nb) rfl rfl (by simp [execOp,Act.eval,go_sem]) ⟨_,_,_,_,_,_,_,_,_,_,_,_,_,_,rfl,⟨(H.m1),(H.h0∘ol 0 nofun),(H.h1∘ol 1 nofun),(H.h2∘ol 2 nofun),(H.h3∘ol 3 nofun),(H.h4∘ol 4 nofun),(H.h5∘ol 5 nofun),(H.h6∘ol 6 nofun),(H.h7∘ol 7 nofun),(H.h8∘ol 8 nofun),(H.h9∘ol 9 nofun),(H.h10∘ol 10 nofun),(fun _=>rfl),(H.h12∘ol 12 nofun),(H.h13∘ol 13 nofun),(H.h14∘ol 14 nofun)⟩⟩
   ·clear hi hi2
    have hb:Below W.heap.size W (W.alloc (.cells (dcs zeroD) 34)):=(Below.refl _ W).alloc (Nat.le_refl _) _
    exact step_run (i:=12) (w':=(W.alloc (.cells (dcs zeroD) 34))) (v:=ptr W.heap.size) rfl rfl (by simp [execOp,Act.eval,go_sem]) ⟨_,_,_,_,_,_,_,_,_,_,_,_,_,_,rfl,⟨(H.m1.trans (hb.mono H.m1.size)),(H.h0∘ol 0 nofun),(H.h1∘ol 1 nofun),(H.h2∘ol 2 nofun),(H.h3∘ol 3 nofun),(H.h4∘ol 4 nofun),(H.h5∘ol 5 nofun),(H.h6∘ol 6 nofun),(H.h7∘ol 7 nofun),(H.h8∘ol 8 nofun),(H.h9∘ol 9 nofun),(H.h10∘ol 10 nofun),(H.h11∘ol 11 nofun),(fun _=>⟨_,rfl,H.m1.size,_,Blk.new W _ _⟩),(fun h=>(not_yet hL (hcl 13 (by simp) (ol 13 (by decide) h) 12 (memOf (by kernel_rfl)))).elim),(H.h14∘ol 14 nofun)⟩⟩
   ·clear hi hi2
    have e27:=H.h10 (hdep 10 (memOf (by kernel_rfl)))
    have e7:=H.h12 (hdep 12 (memOf (by kernel_rfl)))
    subst e27
    obtain ⟨b,rfl,hb1,o,hb2⟩:=e7
    have sv:=run_stDp (r:=nd) hb2
    exact step_sk (i:=13) (w':=(W.setRow b (dcs nd))) rfl rfl (by simp [execOp,Act.eval,go_sem,sv]) ⟨_,_,_,_,_,_,_,_,_,_,_,_,_,_,rfl,⟨(below_rowW H.m1 _ hb1),(H.h0∘ol 0 nofun),(H.h1∘ol 1 nofun),(H.h2∘ol 2 nofun),(H.h3∘ol 3 nofun),(H.h4∘ol 4 nofun),(H.h5∘ol 5 nofun),(H.h6∘ol 6 nofun),(H.h7∘ol 7 nofun),(H.h8∘ol 8 nofun),(H.h9∘ol 9 nofun),(H.h10∘ol 10 nofun),(H.h11∘ol 11 nofun),(fun _=>⟨b,rfl,hb1,_,hb2.row _⟩),(fun _=>⟨b,rfl,hb1,hb2.row _⟩),(H.h14∘ol 14 nofun)⟩⟩
   ·clear hi hi2
    have e28:=H.h11 (hdep 11 (memOf (by kernel_rfl)))
    subst e28
    exact step_run (i:=14) (w':=W) (v:=.bool nb) rfl rfl (by simp [execOp,Act.eval,go_sem]) ⟨_,_,_,_,_,_,_,_,_,_,_,_,_,_,rfl,⟨(H.m1),(H.h0∘ol 0 nofun),(H.h1∘ol 1 nofun),(H.h2∘ol 2 nofun),(H.h3∘ol 3 nofun),(H.h4∘ol 4 nofun),(H.h5∘ol 5 nofun),(H.h6∘ol 6 nofun),(H.h7∘ol 7 nofun),(H.h8∘ol 8 nofun),(H.h9∘ol 9 nofun),(H.h10∘ol 10 nofun),(H.h11∘ol 11 nofun),(H.h12∘ol 12 nofun),(H.h13∘ol 13 nofun),(fun _=>rfl)⟩⟩
  case done =>
   rintro L a W hall ⟨x7,x8,x17,x18,x19,x20,x21,x22,x23,x24,x25,x26,x27,x28,rfl,H⟩
   obtain ⟨b7,e7,hb7,B7⟩:=H.h13 (hall 13 (by simp))
   have e8:=H.h14 (hall 14 (by simp))
   subst e7 e8
   have HQ:=Lib.hid (show DsAtL X (c+4) M w M A nd nb [⟨w.heap.size+1,rcs zeroR,57⟩,⟨w.heap.size,acs q ql,52⟩] [] [⟨xb,xcs o x.th,T⟩] (ptr b7) (.bool nb) W from ⟨_,rfl,rfl,HF2.out.drew.growW H.m1 B7 hb7⟩)
   clear H hwis hxb B7 hb7 hall
   go_wp2_with fail
   go_meet
   exact HQ.out
 case rest =>
 obtain ⟨N7,rfl,rfl,F3⟩:=hcut
 have HF3:=Lib.hid F3
 clear F3 HF2 HF0
 have FD:=HF3.out.drew
 have lk4:=ask_k FD.l2.blk
 have HFD:=Lib.hid FD
 clear FD
 go_upto_region 4 with fail
 go_cut [37] from 29 to 37 (fun s wx=>s = .bool false∧Fm X (c+4) M w M wx A (⟨N7,dcs nd,34⟩ :: [⟨w.heap.size+1,rcs zeroR,57⟩,⟨w.heap.size,acs q ql,52⟩]) [] [⟨xb,xcs o x.th,T⟩])
 case first =>
  rcases HQ0.out with hq |⟨hq,hv⟩
  ·have eqk:=key_ne hq
   clear hq
   have hS:∀ W W',Fm X (c+4) M w M W A (⟨N7,dcs nd,34⟩ :: [⟨w.heap.size+1,rcs zeroR,57⟩,⟨w.heap.size,acs q ql,52⟩]) [] [⟨xb,xcs o x.th,T⟩]→Below W.heap.size W W'→Fm X (c+4) M w M W' A (⟨N7,dcs nd,34⟩ :: [⟨w.heap.size+1,rcs zeroR,57⟩,⟨w.heap.size,acs q ql,52⟩]) [] [⟨xb,xcs o x.th,T⟩]:=fun W W' F hb=>F.call hb
   have lkp:∀ p:Des.Wd (fun W=>Fm X (c+4) M w M W A (⟨N7,dcs nd,34⟩ :: [⟨w.heap.size+1,rcs zeroR,57⟩,⟨w.heap.size,acs q ql,52⟩]) [] [⟨xb,xcs o x.th,T⟩]),(Ld 32 (.pointer (some ⟨w.heap.size,0,none⟩))).run Tryz.prog p.w = .ok (.agg (kcs q.k)) p.w:=fun p=>ask_k p.ok.l2.blk
   refine region_inS (S:=fun W=>Fm X (c+4) M w M W A (⟨N7,dcs nd,34⟩ :: [⟨w.heap.size+1,rcs zeroR,57⟩,⟨w.heap.size,acs q ql,52⟩]) [] [⟨xb,xcs o x.th,T⟩]) (by kernel_rfl) (by kernel_rfl) HFD.out (fun hne=>?_)
   repeat (go_big_quiet_step (exact in_callS hS (lenK_any _)))
   refine wpQuiet_nil ?_
   intro w5 hw5
   have F5:=Des.in_out hw5
   have HF5:=Lib.hid F5
   clear F5 hw5 hS lkp
   go_wp2_with fail
   go_meet
   exact ⟨rfl,HF5.out⟩
  ·have eqk:∀ w,(binOp .eql 32 (.agg (kcs q.k)) (.agg (kcs lenK))).run Tryz.prog w = .ok (.bool true) w:=fun w=>hq ▸ key_eq q.k w
   have HV:=Lib.hid hv
   clear hq hv
   go_region_with (go_at_call 158;(with_reducible refine (lenK_any _).mono ?_);rintro e w5 ⟨rfl,hb⟩;have F5:=HFD.out.call hb;have qh5:=q_hv F5.l2.blk;have lk5:=ask_k F5.l2.blk;rw [HV.out] at qh5;have HF5:=Lib.hid F5;clear hb F5)
   all_goals (go_wp2_with fail;go_meet;exact ⟨rfl,HF5.out⟩)
 case rest =>
 obtain ⟨rfl,F5⟩:=hcut
 have lk6:=ask_k F5.l2.blk
 have hix:=HIX.out _ F5.wis.lwAt
 have HF5:=Lib.hid F5
 clear F5 HFD HF3
 go_upto_region 9 with (go_at_call 160;(with_reducible refine hix.mono ?_);rintro e w6 ⟨rfl,hb⟩;have F6:=(HF5.out.less (c':=c+2) (by omega)).call hb;have FG:=F6.drew;have la6:=run_ldAq FG.l2.blk;have ha:=apply_any FG.wis o FG.r0 FG.r0o q ql HK.out;have HFE:=Lib.hid FG;clear FG;have HF6:=Lib.hid F6;clear hb F6)
 go_region_with (first |(go_at_call 163;(with_reducible refine (self_any xb _).mono ?_);rintro e w9 ⟨rfl,rfl⟩) |(go_at_call 162;(with_reducible refine ha.mono ?_);rintro e w7 ⟨M7,kv7,rfl,hks,hM,hn⟩;have hg7:=Rr.good _ hks;have F7:=HFE.out.next (k2:=[(kv7,(applyF o x.th q A).1.ks)]) hM hn (fun k hk=>by rw [List.mem_singleton.1 hk];exact hks);have s7:=run_stRp F7.l1.blk hg7;have HF7:=Lib.hid F7;clear hks hM hn F7))
 all_goals
  have F8:=HF7.out.put (l:=[⟨N7,dcs nd,34⟩]) (rcs ((applyF o x.th q A).1.mem kv7)) (show 57 ≠ 32 by decide)
  go_wp2
  refine bodyPost_ret (res_R rfl _ _ (w.heap.size+1) _ rfl F8.l1.blk) rfl ?_
  exact F8.fin F8.k0
theorem defArr_any (h:WIs X (c+4) M w A) (o:Int) {T:TypeId} {xb:Nat} {x:Ob} (hx:Blk w xb (xcs o x.th) T) (hxo:xb ∉ M.bl X.wb) (hat:at? A o=some x) (q:Aq) (ql:Value) (hk:Fine q.k) :
  Calls Tryz.prog 136 #[ptr X.wb,ptr xb,.agg (acs q ql)] w (Post X c M w (defArrF o x.th q A)):=by
 unfold defArrF
 by_cases hg:rigF q.d=true
 ·rw [if_neg (by rw [hg];decide)]
  by_cases hno:(decide (q.k=lenK) && q.d.hv)=true
  ·rw [if_pos hno]
   have h1:q.k=lenK∧q.d.hv=true:=by simpa using hno
   exact defArr_len h o hx hxo hat q ql hk hg h1.1 h1.2
  ·have hno':(decide (q.k=lenK) && q.d.hv)=false:=by simpa only [Bool.not_eq_true] using hno
   rw [if_neg hno]
   cases hi:kidx q.k with
   | some i=>exact defArr_el h o hx hxo hat q ql hk hg hno' i hi
   | none=>exact defArr_rest h o hx hxo hat q ql hk hg hno' hi
 ·have hg':rigF q.d=false:=by simpa using hg
  rw [if_pos (by rw [hg'];rfl)]
  exact defArr_bad h o hx hxo hat q ql hk hg'
end
end Go.Proofs.YtkadkmnolkkhgaaGreatDoor.Mw
