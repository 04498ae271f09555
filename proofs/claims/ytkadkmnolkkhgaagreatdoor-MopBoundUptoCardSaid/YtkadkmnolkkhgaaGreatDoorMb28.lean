/-
 defineLength.
-/
import Derived.Test.YtkadkmnolkkhgaaGreatDoorMb26
import Derived.Test.YtkadkmnolkkhgaaGreatDoorMb27
import Derived.Test.YtkadkmnolkkhgaaGreatDoorMb06
import Derived.Test.YtkadkmnolkkhgaaGreatDoorMb10
set_option linter.unusedVariables false
set_option linter.unusedSimpArgs false
namespace Go.Proofs.YtkadkmnolkkhgaaGreatDoor.Mw
open Go Go.RowKit Go.Maps Go.Shelf Keys Hp Mo
open Des (Vl Ds zeroV zeroD dcs dcs_size dcs_one accF rigF appF eqV)
open Arrs (En ecs)
open Rg
attribute [local go_sem ↓] ldR stR alR bxR bdR ldV stV alV bxV bdV ldA stA bxA bdA ldKy bxKy bdKy ldD stD alD bxDe
attribute [local irreducible] rcs dcs ecs vcs acs kcs xcs tcs
attribute [local go_sem] run_bx run_alR run_stRg run_bdA0 run_bdAk run_bdAkr run_bdAkvr run_bdAr run_bdAkd run_bdRz run_bdRd run_bdRk run_bdRf run_bdRo run_bdRs run_bdRt' run_bdKs run_alD run_stDg
section
variable {X:Cx} {c:Nat} {M M' M'':Wm} {w w' w'':World} {A A' A'':Aw} {ls:List Lc} {kl:List (Value × List KV)} {ro:List Lc} {D:DoT}
def DsAtL (X:Cx) (c:Nat) (M:Wm) (w:World) (M':Wm) (A':Aw) (d:Ds) (b:Bool) (ls:List Lc) (kl:List (Value × List KV)) (ro:List Lc) (s1 s2:Value) (wx:World):Prop:=∃ N,s1=ptr N∧s2 = .bool b∧Fm X c M w M' wx A' (⟨N,dcs d,34⟩ :: ls) kl ro
structure LaI (xb N0:Nat) (xe:Bool) (q:Aq) (len rd:Ds) (rb:Bool) (w1:World) (L:Array Bool) (x11 x12 x37 x38 x39 x40 x41 x42 x43 x44 x45 x46 x47 x48 x49:Value) (W:World):Prop where
 m1:Below w1.heap.size w1 W
 h0:L.getD 0 false=true→x38=ptr xb
 h1:L.getD 1 false=true→x39=ptr xb
 h2:L.getD 2 false=true→x40 = .pointer (some ⟨xb,0,none⟩)
 h3:L.getD 3 false=true→x41 = .pointer (some ⟨xb,1,none⟩)
 h4:L.getD 4 false=true→x42 = .pointer (some ⟨xb,5,none⟩)
 h5:L.getD 5 false=true→x43 = .bool xe
 h6:L.getD 6 false=true→x44 = .pointer (some ⟨N0,8,none⟩)
 h7:L.getD 7 false=true→x45 = .agg (dcs q.d)
 h8:L.getD 8 false=true→x46 = .agg (dcs len)
 h9:L.getD 9 false=true→x47 = .tuple #[.agg (dcs rd),.bool rb]
 h10:L.getD 10 false=true→x37 = .tuple #[.agg (dcs rd),.bool rb]
 h11:L.getD 11 false=true→x48 = .agg (dcs rd)
 h12:L.getD 12 false=true→x49 = .bool rb
 h13:L.getD 13 false=true→∃ b,x11=ptr b∧w1.heap.size≤b∧∃ o,Blk W b (dcs o) 34
 h14:L.getD 14 false=true→∃ b,x11=ptr b∧w1.heap.size≤b∧Blk W b (dcs rd) 34
 h15:L.getD 15 false=true→x12 = .bool rb
set_option maxRecDepth 100000 in
set_option maxHeartbeats 4000000 in
theorem defLen_no (h:WIs X (c+3) M w A) (o:Int) {t:Th} {T:TypeId} {xb:Nat} (hx:Blk w xb (xcs o t) T) (hxo:xb ∉ M.bl X.wb) {x:Ob} (hat:at? A o=some x) (q:Aq) (ql:Value) (hk:Fine q.k) (len:Ds) (hb:(Arrs.lenF q.d.v.k q.d.v.n).2=true) (hlt:¬ (Arrs.lenF q.d.v.k q.d.v.n).1 ≥ len.v.n) (hrb:(appF t.ext q.d true len).2=false) :
  Calls Tryz.prog 159 #[ptr X.wb,ptr xb,.agg (acs q ql),.agg (dcs len)] w (Post X c M w (ans false,A)):=by
 obtain ⟨w1,hw1⟩:∃ w1,((w.alloc (.cells (acs q ql) 52)).alloc (.cells (dcs len) 34)).alloc (.cells (rcs zeroR) 57)=w1:=⟨_,rfl⟩
 have F0:Fm X (c+3) M w M w1 A [⟨w.heap.size+2,rcs zeroR,57⟩,⟨w.heap.size+1,dcs len,34⟩,⟨w.heap.size,acs q ql,52⟩] [] [⟨xb,xcs o t,T⟩]:=by
  rw [← hw1];exact ((((Fm.start h).with hx hxo).newg _ _ _ rfl).newg _ _ _ (by simp)).newg _ _ _ (by simp)
 have qv:=q_dv F0.l2.blk
 obtain ⟨tn,htn⟩:∃ n,(Arrs.lenF q.d.v.k q.d.v.n).1=n:=⟨_,rfl⟩
 obtain ⟨tb,htb⟩:∃ b,(Arrs.lenF q.d.v.k q.d.v.n).2=b:=⟨_,rfl⟩
 have hlv:=len_val q.d.v w1
 rw [htn,htb] at hlv
 rw [hb] at htb
 rw [htn] at hlt
 subst htb
 have dl:decide (len.v.n≤tn)=false:=by simp;omega
 obtain ⟨rd,hrd⟩:∃ rd,(appF t.ext q.d true len).1=rd:=⟨_,rfl⟩
 have HAPP:Hid (∀ w':World,Calls Tryz.prog 189 #[.bool t.ext,.agg (dcs q.d),.bool true,.agg (dcs len)] w' fun e w2=>e = .returned (.tuple #[.agg (dcs rd),.bool false])∧Below w'.heap.size w' w2):=Lib.hid fun w'=>by
  have:=Des.app_any t.ext q.d true len w'
  rw [show appF t.ext q.d true len=(rd,false) from Prod.ext hrd hrb] at this
  exact this
 have HF0:=Lib.hid F0
 have HK:=Lib.hid hk
 have HAT:=Lib.hid hat
 have HTN:=Lib.hid htn
 have HTR:=Lib.hid (show 0≤tn∧tn≤4294967295 by rw [← htn];unfold Arrs.lenF;split <;> simp <;> omega)
 clear F0 h hx hxo hk hat hb htn hlt hrd hrb
 go_enter Tryz.func159,Tryz.ntmps159
 go_upto_region 4 with (go_at_call 188;(with_reducible refine hlv.mono ?_);rintro e w2 ⟨rfl,hb⟩;have F2:=HF0.out.call hb;have dv:=d_vn F2.l1.blk;have HF2:=Lib.hid F2;clear hb F2)
 go_cut [29] from 14 to 28 (fun s wx=>s = .bool false∧Fm X (c+3) M w M wx A [⟨w.heap.size+2,rcs zeroR,57⟩,⟨w.heap.size+1,dcs len,34⟩,⟨w.heap.size,acs q ql,52⟩] [] [⟨xb,xcs o t,T⟩])
 case first =>
  go_wp2_with fail
  go_meet
  exact ⟨rfl,HF2.out⟩
 case rest =>
 obtain ⟨rfl,F4⟩:=hcut
 have HF4:=Lib.hid F4
 clear F4 hlv
 go_upto_region 6 with fail
 go_cut [11,12] from 37 to 49 (fun s1 s2 wx=>DsAtL X (c+3) M w M A rd false [⟨w.heap.size+2,rcs zeroR,57⟩,⟨w.heap.size+1,dcs len,34⟩,⟨w.heap.size,acs q ql,52⟩] [] [⟨xb,xcs o t,T⟩] s1 s2 wx)
 case first =>
  have hxb:=HF4.out.drew.r0
  have hask:=HF4.out.drew.l2.blk
  have hlen:=HF4.out.drew.l1.blk
  refine region_inv (by kernel_rfl) (fun L a W=>∃ x11 x12 x37 x38 x39 x40 x41 x42 x43 x44 x45 x46 x47 x48 x49:Value,a={ tmps:=#[ptr X.wb,ptr xb,.agg (acs q ql),.agg (dcs len),undef,undef,ptr w.heap.size,ptr (w.heap.size+1),ptr (w.heap.size+1+1),.int .i64 tn,.bool true,x11,x12,undef,u14,u15,u16,u17,u18,u19,u20,u21,u22,u23,u24,u25,u26,u27,u28,.bool false,undef,undef,undef,undef,undef,undef,undef,x37,x38,x39,x40,x41,x42,x43,x44,x45,x46,x47,x48,x49,undef,undef,undef,undef,undef,undef,undef,undef,undef,undef,undef,undef,undef,undef,undef,undef,undef,undef,undef,undef,undef,undef,undef,undef,undef,undef,undef,undef,undef,undef,undef,undef,undef,undef,undef,undef,undef,undef,undef],defers:=[] }∧LaI xb w.heap.size t.ext q len rd false wc.drew L x11 x12 x37 x38 x39 x40 x41 x42 x43 x44 x45 x46 x47 x48 x49 W) (by kernel_rfl) ?start ?step ?done
  case start=>exact ⟨_,_,_,_,_,_,_,_,_,_,_,_,_,_,_,rfl,⟨Below.refl _ _,fun h=>by simp [Array.getD_eq_getD_getElem?] at h,fun h=>by simp [Array.getD_eq_getD_getElem?] at h,fun h=>by simp [Array.getD_eq_getD_getElem?] at h,fun h=>by simp [Array.getD_eq_getD_getElem?] at h,fun h=>by simp [Array.getD_eq_getD_getElem?] at h,fun h=>by simp [Array.getD_eq_getD_getElem?] at h,fun h=>by simp [Array.getD_eq_getD_getElem?] at h,fun h=>by simp [Array.getD_eq_getD_getElem?] at h,fun h=>by simp [Array.getD_eq_getD_getElem?] at h,fun h=>by simp [Array.getD_eq_getD_getElem?] at h,fun h=>by simp [Array.getD_eq_getD_getElem?] at h,fun h=>by simp [Array.getD_eq_getD_getElem?] at h,fun h=>by simp [Array.getD_eq_getD_getElem?] at h,fun h=>by simp [Array.getD_eq_getD_getElem?] at h,fun h=>by simp [Array.getD_eq_getD_getElem?] at h,fun h=>by simp [Array.getD_eq_getD_getElem?] at h⟩⟩
  case step =>
   intro i L a W hi hdep hL hs hcl hI
   have hi2:i < 16:=by simpa using hi
   obtain ⟨x11,x12,x37,x38,x39,x40,x41,x42,x43,x44,x45,x46,x47,x48,x49,rfl,H⟩:=hI
   have ol:∀ j,i ≠ j→(L.setIfInBounds i true).getD j false=true→L.getD j false=true:=fun j hj h=>by rwa [getD_set hj] at h
   rcases (by omega:i=0∨i=1∨i=2∨i=3∨i=4∨i=5∨i=6∨i=7∨i=8∨i=9∨i=10∨i=11∨i=12∨i=13∨i=14∨i=15) with rfl |rfl |rfl |rfl |rfl |rfl |rfl |rfl |rfl |rfl |rfl |rfl |rfl |rfl |rfl |rfl
   ·clear hi hi2
    exact step_run (i:=0) (w':=W) (v:=ptr xb) rfl rfl (by simp [execOp,Act.eval,go_sem]) ⟨_,_,_,_,_,_,_,_,_,_,_,_,_,_,_,rfl,⟨(H.m1),(fun _=>rfl),(H.h1∘ol 1 nofun),(H.h2∘ol 2 nofun),(H.h3∘ol 3 nofun),(H.h4∘ol 4 nofun),(H.h5∘ol 5 nofun),(H.h6∘ol 6 nofun),(H.h7∘ol 7 nofun),(H.h8∘ol 8 nofun),(H.h9∘ol 9 nofun),(H.h10∘ol 10 nofun),(H.h11∘ol 11 nofun),(H.h12∘ol 12 nofun),(H.h13∘ol 13 nofun),(H.h14∘ol 14 nofun),(H.h15∘ol 15 nofun)⟩⟩
   ·clear hi hi2
    have e38:=H.h0 (hdep 0 (memOf (by kernel_rfl)))
    subst e38
    exact step_run (i:=1) (w':=W) (v:=ptr xb) rfl rfl (by simp [execOp,Act.eval,go_sem]) ⟨_,_,_,_,_,_,_,_,_,_,_,_,_,_,_,rfl,⟨(H.m1),(H.h0∘ol 0 nofun),(fun _=>rfl),(H.h2∘ol 2 nofun),(H.h3∘ol 3 nofun),(H.h4∘ol 4 nofun),(H.h5∘ol 5 nofun),(H.h6∘ol 6 nofun),(H.h7∘ol 7 nofun),(H.h8∘ol 8 nofun),(H.h9∘ol 9 nofun),(H.h10∘ol 10 nofun),(H.h11∘ol 11 nofun),(H.h12∘ol 12 nofun),(H.h13∘ol 13 nofun),(H.h14∘ol 14 nofun),(H.h15∘ol 15 nofun)⟩⟩
   ·clear hi hi2
    have e39:=H.h1 (hdep 1 (memOf (by kernel_rfl)))
    subst e39
    exact step_run (i:=2) (w':=W) (v:=.pointer (some ⟨xb,0,none⟩)) rfl rfl (by simp [execOp,Act.eval,go_sem]) ⟨_,_,_,_,_,_,_,_,_,_,_,_,_,_,_,rfl,⟨(H.m1),(H.h0∘ol 0 nofun),(H.h1∘ol 1 nofun),(fun _=>rfl),(H.h3∘ol 3 nofun),(H.h4∘ol 4 nofun),(H.h5∘ol 5 nofun),(H.h6∘ol 6 nofun),(H.h7∘ol 7 nofun),(H.h8∘ol 8 nofun),(H.h9∘ol 9 nofun),(H.h10∘ol 10 nofun),(H.h11∘ol 11 nofun),(H.h12∘ol 12 nofun),(H.h13∘ol 13 nofun),(H.h14∘ol 14 nofun),(H.h15∘ol 15 nofun)⟩⟩
   ·clear hi hi2
    have e40:=H.h2 (hdep 2 (memOf (by kernel_rfl)))
    subst e40
    exact step_run (i:=3) (w':=W) (v:=.pointer (some ⟨xb,1,none⟩)) rfl rfl (by simp [execOp,Act.eval,go_sem]) ⟨_,_,_,_,_,_,_,_,_,_,_,_,_,_,_,rfl,⟨(H.m1),(H.h0∘ol 0 nofun),(H.h1∘ol 1 nofun),(H.h2∘ol 2 nofun),(fun _=>rfl),(H.h4∘ol 4 nofun),(H.h5∘ol 5 nofun),(H.h6∘ol 6 nofun),(H.h7∘ol 7 nofun),(H.h8∘ol 8 nofun),(H.h9∘ol 9 nofun),(H.h10∘ol 10 nofun),(H.h11∘ol 11 nofun),(H.h12∘ol 12 nofun),(H.h13∘ol 13 nofun),(H.h14∘ol 14 nofun),(H.h15∘ol 15 nofun)⟩⟩
   ·clear hi hi2
    have e41:=H.h3 (hdep 3 (memOf (by kernel_rfl)))
    subst e41
    exact step_run (i:=4) (w':=W) (v:=.pointer (some ⟨xb,5,none⟩)) rfl rfl (by simp [execOp,Act.eval,go_sem]) ⟨_,_,_,_,_,_,_,_,_,_,_,_,_,_,_,rfl,⟨(H.m1),(H.h0∘ol 0 nofun),(H.h1∘ol 1 nofun),(H.h2∘ol 2 nofun),(H.h3∘ol 3 nofun),(fun _=>rfl),(H.h5∘ol 5 nofun),(H.h6∘ol 6 nofun),(H.h7∘ol 7 nofun),(H.h8∘ol 8 nofun),(H.h9∘ol 9 nofun),(H.h10∘ol 10 nofun),(H.h11∘ol 11 nofun),(H.h12∘ol 12 nofun),(H.h13∘ol 13 nofun),(H.h14∘ol 14 nofun),(H.h15∘ol 15 nofun)⟩⟩
   ·clear hi hi2
    have e42:=H.h4 (hdep 4 (memOf (by kernel_rfl)))
    subst e42
    have cq:=x_ext (hxb.call H.m1)
    exact step_run (i:=5) (w':=W) (v:=.bool t.ext) rfl rfl (by simp [execOp,Act.eval,go_sem,cq]) ⟨_,_,_,_,_,_,_,_,_,_,_,_,_,_,_,rfl,⟨(H.m1),(H.h0∘ol 0 nofun),(H.h1∘ol 1 nofun),(H.h2∘ol 2 nofun),(H.h3∘ol 3 nofun),(H.h4∘ol 4 nofun),(fun _=>rfl),(H.h6∘ol 6 nofun),(H.h7∘ol 7 nofun),(H.h8∘ol 8 nofun),(H.h9∘ol 9 nofun),(H.h10∘ol 10 nofun),(H.h11∘ol 11 nofun),(H.h12∘ol 12 nofun),(H.h13∘ol 13 nofun),(H.h14∘ol 14 nofun),(H.h15∘ol 15 nofun)⟩⟩
   ·clear hi hi2
    exact step_run (i:=6) (w':=W) (v:=.pointer (some ⟨w.heap.size,8,none⟩)) rfl rfl (by simp [execOp,Act.eval,go_sem]) ⟨_,_,_,_,_,_,_,_,_,_,_,_,_,_,_,rfl,⟨(H.m1),(H.h0∘ol 0 nofun),(H.h1∘ol 1 nofun),(H.h2∘ol 2 nofun),(H.h3∘ol 3 nofun),(H.h4∘ol 4 nofun),(H.h5∘ol 5 nofun),(fun _=>rfl),(H.h7∘ol 7 nofun),(H.h8∘ol 8 nofun),(H.h9∘ol 9 nofun),(H.h10∘ol 10 nofun),(H.h11∘ol 11 nofun),(H.h12∘ol 12 nofun),(H.h13∘ol 13 nofun),(H.h14∘ol 14 nofun),(H.h15∘ol 15 nofun)⟩⟩
   ·clear hi hi2
    have e44:=H.h6 (hdep 6 (memOf (by kernel_rfl)))
    subst e44
    have cq:=ask_d (hask.call H.m1)
    exact step_run (i:=7) (w':=W) (v:=.agg (dcs q.d)) rfl rfl (by simp [execOp,Act.eval,go_sem,cq]) ⟨_,_,_,_,_,_,_,_,_,_,_,_,_,_,_,rfl,⟨(H.m1),(H.h0∘ol 0 nofun),(H.h1∘ol 1 nofun),(H.h2∘ol 2 nofun),(H.h3∘ol 3 nofun),(H.h4∘ol 4 nofun),(H.h5∘ol 5 nofun),(H.h6∘ol 6 nofun),(fun _=>rfl),(H.h8∘ol 8 nofun),(H.h9∘ol 9 nofun),(H.h10∘ol 10 nofun),(H.h11∘ol 11 nofun),(H.h12∘ol 12 nofun),(H.h13∘ol 13 nofun),(H.h14∘ol 14 nofun),(H.h15∘ol 15 nofun)⟩⟩
   ·clear hi hi2
    have cq:=d_all (hlen.call H.m1)
    exact step_run (i:=8) (w':=W) (v:=.agg (dcs len)) rfl rfl (by simp [execOp,Act.eval,go_sem,cq]) ⟨_,_,_,_,_,_,_,_,_,_,_,_,_,_,_,rfl,⟨(H.m1),(H.h0∘ol 0 nofun),(H.h1∘ol 1 nofun),(H.h2∘ol 2 nofun),(H.h3∘ol 3 nofun),(H.h4∘ol 4 nofun),(H.h5∘ol 5 nofun),(H.h6∘ol 6 nofun),(H.h7∘ol 7 nofun),(fun _=>rfl),(H.h9∘ol 9 nofun),(H.h10∘ol 10 nofun),(H.h11∘ol 11 nofun),(H.h12∘ol 12 nofun),(H.h13∘ol 13 nofun),(H.h14∘ol 14 nofun),(H.h15∘ol 15 nofun)⟩⟩
   ·clear hi hi2
    have e43:=H.h5 (hdep 5 (memOf (by kernel_rfl)))
    have e45:=H.h7 (hdep 7 (memOf (by kernel_rfl)))
    have e46:=H.h8 (hdep 8 (memOf (by kernel_rfl)))
    subst e43
    subst e45
    subst e46
    refine step_call (i:=9) (f:=189) (args:=#[.bool t.ext,.agg (dcs q.d),.bool true,.agg (dcs len)]) rfl rfl (by simp [execOp,Act.eval,go_sem]) (HAPP.out W) ?_
    rintro e W2 ⟨rfl,hb⟩
    exact ⟨_,rfl,⟨_,_,_,_,_,_,_,_,_,_,_,_,_,_,_,rfl,⟨(H.m1.trans (hb.mono H.m1.size)),(H.h0∘ol 0 nofun),(H.h1∘ol 1 nofun),(H.h2∘ol 2 nofun),(H.h3∘ol 3 nofun),(H.h4∘ol 4 nofun),(H.h5∘ol 5 nofun),(H.h6∘ol 6 nofun),(H.h7∘ol 7 nofun),(H.h8∘ol 8 nofun),(fun _=>rfl),(H.h10∘ol 10 nofun),(H.h11∘ol 11 nofun),(H.h12∘ol 12 nofun),(fun h=>let ⟨g,q1,q2,o,q3⟩:=H.h13 (ol 13 (by decide) h);⟨g,q1,q2,o,q3.call hb⟩),(fun h=>let ⟨g,q1,q2,q3⟩:=H.h14 (ol 14 (by decide) h);⟨g,q1,q2,q3.call hb⟩),(H.h15∘ol 15 nofun)⟩⟩⟩
   ·clear hi hi2
    have e47:=H.h9 (hdep 9 (memOf (by kernel_rfl)))
    subst e47
    exact step_run (i:=10) (w':=W) (v:=.tuple #[.agg (dcs rd),.bool false]) rfl rfl (by simp [execOp,Act.eval,go_sem]) ⟨_,_,_,_,_,_,_,_,_,_,_,_,_,_,_,rfl,⟨(H.m1),(H.h0∘ol 0 nofun),(H.h1∘ol 1 nofun),(H.h2∘ol 2 nofun),(H.h3∘ol 3 nofun),(H.h4∘ol 4 nofun),(H.h5∘ol 5 nofun),(H.h6∘ol 6 nofun),(H.h7∘ol 7 nofun),(H.h8∘ol 8 nofun),(H.h9∘ol 9 nofun),(fun _=>rfl),(H.h11∘ol 11 nofun),(H.h12∘ol 12 nofun),(H.h13∘ol 13 nofun),(H.h14∘ol 14 nofun),(H.h15∘ol 15 nofun)⟩⟩
   ·clear hi hi2
    have e37:=H.h10 (hdep 10 (memOf (by kernel_rfl)))
    subst e37
    exact step_run (i:=11) (w':=W) (v:=.agg (dcs rd)) rfl rfl (by simp [execOp,Act.eval,go_sem]) ⟨_,_,_,_,_,_,_,_,_,_,_,_,_,_,_,rfl,⟨(H.m1),(H.h0∘ol 0 nofun),(H.h1∘ol 1 nofun),(H.h2∘ol 2 nofun),(H.h3∘ol 3 nofun),(H.h4∘ol 4 nofun),(H.h5∘ol 5 nofun),(H.h6∘ol 6 nofun),(H.h7∘ol 7 nofun),(H.h8∘ol 8 nofun),(H.h9∘ol 9 nofun),(H.h10∘ol 10 nofun),(fun _=>rfl),(H.h12∘ol 12 nofun),(H.h13∘ol 13 nofun),(H.h14∘ol 14 nofun),(H.h15∘ol 15 nofun)⟩⟩
   ·clear hi hi2
    have e37:=H.h10 (hdep 10 (memOf (by kernel_rfl)))
    subst e37
    exact step_run (i:=12) (w':=W) (v:=.bool false) rfl rfl (by simp [execOp,Act.eval,go_sem]) ⟨_,_,_,_,_,_,_,_,_,_,_,_,_,_,_,rfl,⟨(H.m1),(H.h0∘ol 0 nofun),(H.h1∘ol 1 nofun),(H.h2∘ol 2 nofun),(H.h3∘ol 3 nofun),(H.h4∘ol 4 nofun),(H.h5∘ol 5 nofun),(H.h6∘ol 6 nofun),(H.h7∘ol 7 nofun),(H.h8∘ol 8 nofun),(H.h9∘ol 9 nofun),(H.h10∘ol 10 nofun),(H.h11∘ol 11 nofun),(fun _=>rfl),(H.h13∘ol 13 nofun),(H.h14∘ol 14 nofun),(H.h15∘ol 15 nofun)⟩⟩
   ·clear hi hi2
    have hb:Below W.heap.size W (W.alloc (.cells (dcs zeroD) 34)):=(Below.refl _ W).alloc (Nat.le_refl _) _
    exact step_run (i:=13) (w':=(W.alloc (.cells (dcs zeroD) 34))) (v:=ptr W.heap.size) rfl rfl (by simp [execOp,Act.eval,go_sem]) ⟨_,_,_,_,_,_,_,_,_,_,_,_,_,_,_,rfl,⟨(H.m1.trans (hb.mono H.m1.size)),(H.h0∘ol 0 nofun),(H.h1∘ol 1 nofun),(H.h2∘ol 2 nofun),(H.h3∘ol 3 nofun),(H.h4∘ol 4 nofun),(H.h5∘ol 5 nofun),(H.h6∘ol 6 nofun),(H.h7∘ol 7 nofun),(H.h8∘ol 8 nofun),(H.h9∘ol 9 nofun),(H.h10∘ol 10 nofun),(H.h11∘ol 11 nofun),(H.h12∘ol 12 nofun),(fun _=>⟨_,rfl,H.m1.size,_,Blk.new W _ _⟩),(fun h=>(not_yet hL (hcl 14 (by simp) (ol 14 (by decide) h) 13 (memOf (by kernel_rfl)))).elim),(H.h15∘ol 15 nofun)⟩⟩
   ·clear hi hi2
    have e48:=H.h11 (hdep 11 (memOf (by kernel_rfl)))
    have e11:=H.h13 (hdep 13 (memOf (by kernel_rfl)))
    subst e48
    obtain ⟨b,rfl,hb1,o,hb2⟩:=e11
    have sv:=run_stDp (r:=rd) hb2
    exact step_sk (i:=14) (w':=(W.setRow b (dcs rd))) rfl rfl (by simp [execOp,Act.eval,go_sem,sv]) ⟨_,_,_,_,_,_,_,_,_,_,_,_,_,_,_,rfl,⟨(below_rowW H.m1 _ hb1),(H.h0∘ol 0 nofun),(H.h1∘ol 1 nofun),(H.h2∘ol 2 nofun),(H.h3∘ol 3 nofun),(H.h4∘ol 4 nofun),(H.h5∘ol 5 nofun),(H.h6∘ol 6 nofun),(H.h7∘ol 7 nofun),(H.h8∘ol 8 nofun),(H.h9∘ol 9 nofun),(H.h10∘ol 10 nofun),(H.h11∘ol 11 nofun),(H.h12∘ol 12 nofun),(fun _=>⟨b,rfl,hb1,_,hb2.row _⟩),(fun _=>⟨b,rfl,hb1,hb2.row _⟩),(H.h15∘ol 15 nofun)⟩⟩
   ·clear hi hi2
    have e49:=H.h12 (hdep 12 (memOf (by kernel_rfl)))
    subst e49
    exact step_run (i:=15) (w':=W) (v:=.bool false) rfl rfl (by simp [execOp,Act.eval,go_sem]) ⟨_,_,_,_,_,_,_,_,_,_,_,_,_,_,_,rfl,⟨(H.m1),(H.h0∘ol 0 nofun),(H.h1∘ol 1 nofun),(H.h2∘ol 2 nofun),(H.h3∘ol 3 nofun),(H.h4∘ol 4 nofun),(H.h5∘ol 5 nofun),(H.h6∘ol 6 nofun),(H.h7∘ol 7 nofun),(H.h8∘ol 8 nofun),(H.h9∘ol 9 nofun),(H.h10∘ol 10 nofun),(H.h11∘ol 11 nofun),(H.h12∘ol 12 nofun),(H.h13∘ol 13 nofun),(H.h14∘ol 14 nofun),(fun _=>rfl)⟩⟩
  case done =>
   rintro L a W hall ⟨x11,x12,x37,x38,x39,x40,x41,x42,x43,x44,x45,x46,x47,x48,x49,rfl,H⟩
   obtain ⟨b9,e9,hb9,B9⟩:=H.h14 (hall 14 (by simp))
   have e10:=H.h15 (hall 15 (by simp))
   subst e9 e10
   have HQ:=Lib.hid (show DsAtL X (c+3) M w M A rd false [⟨w.heap.size+2,rcs zeroR,57⟩,⟨w.heap.size+1,dcs len,34⟩,⟨w.heap.size,acs q ql,52⟩] [] [⟨xb,xcs o t,T⟩] (ptr b9) (.bool false) W from ⟨_,rfl,rfl,HF4.out.drew.growW H.m1 B9 hb9⟩)
   clear H hxb hask hlen B9 hb9 hall
   go_wp2_with fail
   go_meet
   exact HQ.out
 case rest =>
 obtain ⟨N11,rfl,rfl,F6⟩:=hcut
 have HF6:=Lib.hid F6
 clear F6 HF4
 go_wp2_with (go_at_call 168;(with_reducible refine (answer_any false _).mono ?_);rintro e w7 ⟨rfl,hb⟩;have F7:=HF6.out.call hb;have s7:=run_stRp F7.l1.blk (r:=(ans false).mem nilS) ⟨_,_,_,rfl⟩;have HF7:=Lib.hid F7;clear hb F7)
 have F8:=HF7.out.put (l:=[⟨N11,dcs rd,34⟩]) (rcs ((ans false).mem nilS)) (show 57 ≠ 32 by decide)
 refine bodyPost_ret (res_R rfl _ _ (w.heap.size+2) _ rfl F8.l1.blk) rfl ?_
 exact (F8.less (c':=c+1) (by omega)).fin1 rfl
set_option maxRecDepth 100000 in
set_option maxHeartbeats 4000000 in
theorem defLen_fix (h:WIs X (c+3) M w A) (o:Int) {t:Th} {T:TypeId} {xb:Nat} (hx:Blk w xb (xcs o t) T) (hxo:xb ∉ M.bl X.wb) {x:Ob} (hat:at? A o=some x) (q:Aq) (ql:Value) (hk:Fine q.k) (len:Ds) (hb:(Arrs.lenF q.d.v.k q.d.v.n).2=true) (hlt:¬ (Arrs.lenF q.d.v.k q.d.v.n).1 ≥ len.v.n) (hrb:(appF t.ext q.d true len).2=true) (hw:len.w=false) :
  Calls Tryz.prog 159 #[ptr X.wb,ptr xb,.agg (acs q ql),.agg (dcs len)] w (Post X c M w (ans false,A)):=by
 have HW:=Lib.hid hw
 clear hw
 obtain ⟨w1,hw1⟩:∃ w1,((w.alloc (.cells (acs q ql) 52)).alloc (.cells (dcs len) 34)).alloc (.cells (rcs zeroR) 57)=w1:=⟨_,rfl⟩
 have F0:Fm X (c+3) M w M w1 A [⟨w.heap.size+2,rcs zeroR,57⟩,⟨w.heap.size+1,dcs len,34⟩,⟨w.heap.size,acs q ql,52⟩] [] [⟨xb,xcs o t,T⟩]:=by
  rw [← hw1];exact ((((Fm.start h).with hx hxo).newg _ _ _ rfl).newg _ _ _ (by simp)).newg _ _ _ (by simp)
 have qv:=q_dv F0.l2.blk
 obtain ⟨tn,htn⟩:∃ n,(Arrs.lenF q.d.v.k q.d.v.n).1=n:=⟨_,rfl⟩
 obtain ⟨tb,htb⟩:∃ b,(Arrs.lenF q.d.v.k q.d.v.n).2=b:=⟨_,rfl⟩
 have hlv:=len_val q.d.v w1
 rw [htn,htb] at hlv
 rw [hb] at htb
 rw [htn] at hlt
 subst htb
 have dl:decide (len.v.n≤tn)=false:=by simp;omega
 obtain ⟨rd,hrd⟩:∃ rd,(appF t.ext q.d true len).1=rd:=⟨_,rfl⟩
 have HAPP:Hid (∀ w':World,Calls Tryz.prog 189 #[.bool t.ext,.agg (dcs q.d),.bool true,.agg (dcs len)] w' fun e w2=>e = .returned (.tuple #[.agg (dcs rd),.bool true])∧Below w'.heap.size w' w2):=Lib.hid fun w'=>by
  have:=Des.app_any t.ext q.d true len w'
  rw [show appF t.ext q.d true len=(rd,true) from Prod.ext hrd hrb] at this
  exact this
 have HF0:=Lib.hid F0
 have HK:=Lib.hid hk
 have HAT:=Lib.hid hat
 have HTN:=Lib.hid htn
 have HTR:=Lib.hid (show 0≤tn∧tn≤4294967295 by rw [← htn];unfold Arrs.lenF;split <;> simp <;> omega)
 clear F0 h hx hxo hk hat hb htn hlt hrd hrb
 go_enter Tryz.func159,Tryz.ntmps159
 go_upto_region 4 with (go_at_call 188;(with_reducible refine hlv.mono ?_);rintro e w2 ⟨rfl,hb⟩;have F2:=HF0.out.call hb;have dv:=d_vn F2.l1.blk;have HF2:=Lib.hid F2;clear hb F2)
 go_cut [29] from 14 to 28 (fun s wx=>s = .bool false∧Fm X (c+3) M w M wx A [⟨w.heap.size+2,rcs zeroR,57⟩,⟨w.heap.size+1,dcs len,34⟩,⟨w.heap.size,acs q ql,52⟩] [] [⟨xb,xcs o t,T⟩])
 case first =>
  go_wp2_with fail
  go_meet
  exact ⟨rfl,HF2.out⟩
 case rest =>
 obtain ⟨rfl,F4⟩:=hcut
 have HF4:=Lib.hid F4
 clear F4 hlv
 go_upto_region 6 with fail
 go_cut [11,12] from 37 to 49 (fun s1 s2 wx=>DsAtL X (c+3) M w M A rd true [⟨w.heap.size+2,rcs zeroR,57⟩,⟨w.heap.size+1,dcs len,34⟩,⟨w.heap.size,acs q ql,52⟩] [] [⟨xb,xcs o t,T⟩] s1 s2 wx)
 case first =>
  have hxb:=HF4.out.drew.r0
  have hask:=HF4.out.drew.l2.blk
  have hlen:=HF4.out.drew.l1.blk
  refine region_inv (by kernel_rfl) (fun L a W=>∃ x11 x12 x37 x38 x39 x40 x41 x42 x43 x44 x45 x46 x47 x48 x49:Value,a={ tmps:=#[ptr X.wb,ptr xb,.agg (acs q ql),.agg (dcs len),undef,undef,ptr w.heap.size,ptr (w.heap.size+1),ptr (w.heap.size+1+1),.int .i64 tn,.bool true,x11,x12,undef,u14,u15,u16,u17,u18,u19,u20,u21,u22,u23,u24,u25,u26,u27,u28,.bool false,undef,undef,undef,undef,undef,undef,undef,x37,x38,x39,x40,x41,x42,x43,x44,x45,x46,x47,x48,x49,undef,undef,undef,undef,undef,undef,undef,undef,undef,undef,undef,undef,undef,undef,undef,undef,undef,undef,undef,undef,undef,undef,undef,undef,undef,undef,undef,undef,undef,undef,undef,undef,undef,undef,undef,undef,undef,undef,undef],defers:=[] }∧LaI xb w.heap.size t.ext q len rd true wc.drew L x11 x12 x37 x38 x39 x40 x41 x42 x43 x44 x45 x46 x47 x48 x49 W) (by kernel_rfl) ?start ?step ?done
  case start=>exact ⟨_,_,_,_,_,_,_,_,_,_,_,_,_,_,_,rfl,⟨Below.refl _ _,fun h=>by simp [Array.getD_eq_getD_getElem?] at h,fun h=>by simp [Array.getD_eq_getD_getElem?] at h,fun h=>by simp [Array.getD_eq_getD_getElem?] at h,fun h=>by simp [Array.getD_eq_getD_getElem?] at h,fun h=>by simp [Array.getD_eq_getD_getElem?] at h,fun h=>by simp [Array.getD_eq_getD_getElem?] at h,fun h=>by simp [Array.getD_eq_getD_getElem?] at h,fun h=>by simp [Array.getD_eq_getD_getElem?] at h,fun h=>by simp [Array.getD_eq_getD_getElem?] at h,fun h=>by simp [Array.getD_eq_getD_getElem?] at h,fun h=>by simp [Array.getD_eq_getD_getElem?] at h,fun h=>by simp [Array.getD_eq_getD_getElem?] at h,fun h=>by simp [Array.getD_eq_getD_getElem?] at h,fun h=>by simp [Array.getD_eq_getD_getElem?] at h,fun h=>by simp [Array.getD_eq_getD_getElem?] at h,fun h=>by simp [Array.getD_eq_getD_getElem?] at h⟩⟩
  case step =>
   intro i L a W hi hdep hL hs hcl hI
   have hi2:i < 16:=by simpa using hi
   obtain ⟨x11,x12,x37,x38,x39,x40,x41,x42,x43,x44,x45,x46,x47,x48,x49,rfl,H⟩:=hI
   have ol:∀ j,i ≠ j→(L.setIfInBounds i true).getD j false=true→L.getD j false=true:=fun j hj h=>by rwa [getD_set hj] at h
   rcases (by omega:i=0∨i=1∨i=2∨i=3∨i=4∨i=5∨i=6∨i=7∨i=8∨i=9∨i=10∨i=11∨i=12∨i=13∨i=14∨i=15) with rfl |rfl |rfl |rfl |rfl |rfl |rfl |rfl |rfl |rfl |rfl |rfl |rfl |rfl |rfl |rfl
   ·clear hi hi2
    exact step_run (i:=0) (w':=W) (v:=ptr xb) rfl rfl (by simp [execOp,Act.eval,go_sem]) ⟨_,_,_,_,_,_,_,_,_,_,_,_,_,_,_,rfl,⟨(H.m1),(fun _=>rfl),(H.h1∘ol 1 nofun),(H.h2∘ol 2 nofun),(H.h3∘ol 3 nofun),(H.h4∘ol 4 nofun),(H.h5∘ol 5 nofun),(H.h6∘ol 6 nofun),(H.h7∘ol 7 nofun),(H.h8∘ol 8 nofun),(H.h9∘ol 9 nofun),(H.h10∘ol 10 nofun),(H.h11∘ol 11 nofun),(H.h12∘ol 12 nofun),(H.h13∘ol 13 nofun),(H.h14∘ol 14 nofun),(H.h15∘ol 15 nofun)⟩⟩
   ·clear hi hi2
    have e38:=H.h0 (hdep 0 (memOf (by kernel_rfl)))
    subst e38
    exact step_run (i:=1) (w':=W) (v:=ptr xb) rfl rfl (by simp [execOp,Act.eval,go_sem]) ⟨_,_,_,_,_,_,_,_,_,_,_,_,_,_,_,rfl,⟨(H.m1),(H.h0∘ol 0 nofun),(fun _=>rfl),(H.h2∘ol 2 nofun),(H.h3∘ol 3 nofun),(H.h4∘ol 4 nofun),(H.h5∘ol 5 nofun),(H.h6∘ol 6 nofun),(H.h7∘ol 7 nofun),(H.h8∘ol 8 nofun),(H.h9∘ol 9 nofun),(H.h10∘ol 10 nofun),(H.h11∘ol 11 nofun),(H.h12∘ol 12 nofun),(H.h13∘ol 13 nofun),(H.h14∘ol 14 nofun),(H.h15∘ol 15 nofun)⟩⟩
   ·clear hi hi2
    have e39:=H.h1 (hdep 1 (memOf (by kernel_rfl)))
    subst e39
    exact step_run (i:=2) (w':=W) (v:=.pointer (some ⟨xb,0,none⟩)) rfl rfl (by simp [execOp,Act.eval,go_sem]) ⟨_,_,_,_,_,_,_,_,_,_,_,_,_,_,_,rfl,⟨(H.m1),(H.h0∘ol 0 nofun),(H.h1∘ol 1 nofun),(fun _=>rfl),(H.h3∘ol 3 nofun),(H.h4∘ol 4 nofun),(H.h5∘ol 5 nofun),(H.h6∘ol 6 nofun),(H.h7∘ol 7 nofun),(H.h8∘ol 8 nofun),(H.h9∘ol 9 nofun),(H.h10∘ol 10 nofun),(H.h11∘ol 11 nofun),(H.h12∘ol 12 nofun),(H.h13∘ol 13 nofun),(H.h14∘ol 14 nofun),(H.h15∘ol 15 nofun)⟩⟩
   ·clear hi hi2
    have e40:=H.h2 (hdep 2 (memOf (by kernel_rfl)))
    subst e40
    exact step_run (i:=3) (w':=W) (v:=.pointer (some ⟨xb,1,none⟩)) rfl rfl (by simp [execOp,Act.eval,go_sem]) ⟨_,_,_,_,_,_,_,_,_,_,_,_,_,_,_,rfl,⟨(H.m1),(H.h0∘ol 0 nofun),(H.h1∘ol 1 nofun),(H.h2∘ol 2 nofun),(fun _=>rfl),(H.h4∘ol 4 nofun),(H.h5∘ol 5 nofun),(H.h6∘ol 6 nofun),(H.h7∘ol 7 nofun),(H.h8∘ol 8 nofun),(H.h9∘ol 9 nofun),(H.h10∘ol 10 nofun),(H.h11∘ol 11 nofun),(H.h12∘ol 12 nofun),(H.h13∘ol 13 nofun),(H.h14∘ol 14 nofun),(H.h15∘ol 15 nofun)⟩⟩
   ·clear hi hi2
    have e41:=H.h3 (hdep 3 (memOf (by kernel_rfl)))
    subst e41
    exact step_run (i:=4) (w':=W) (v:=.pointer (some ⟨xb,5,none⟩)) rfl rfl (by simp [execOp,Act.eval,go_sem]) ⟨_,_,_,_,_,_,_,_,_,_,_,_,_,_,_,rfl,⟨(H.m1),(H.h0∘ol 0 nofun),(H.h1∘ol 1 nofun),(H.h2∘ol 2 nofun),(H.h3∘ol 3 nofun),(fun _=>rfl),(H.h5∘ol 5 nofun),(H.h6∘ol 6 nofun),(H.h7∘ol 7 nofun),(H.h8∘ol 8 nofun),(H.h9∘ol 9 nofun),(H.h10∘ol 10 nofun),(H.h11∘ol 11 nofun),(H.h12∘ol 12 nofun),(H.h13∘ol 13 nofun),(H.h14∘ol 14 nofun),(H.h15∘ol 15 nofun)⟩⟩
   ·clear hi hi2
    have e42:=H.h4 (hdep 4 (memOf (by kernel_rfl)))
    subst e42
    have cq:=x_ext (hxb.call H.m1)
    exact step_run (i:=5) (w':=W) (v:=.bool t.ext) rfl rfl (by simp [execOp,Act.eval,go_sem,cq]) ⟨_,_,_,_,_,_,_,_,_,_,_,_,_,_,_,rfl,⟨(H.m1),(H.h0∘ol 0 nofun),(H.h1∘ol 1 nofun),(H.h2∘ol 2 nofun),(H.h3∘ol 3 nofun),(H.h4∘ol 4 nofun),(fun _=>rfl),(H.h6∘ol 6 nofun),(H.h7∘ol 7 nofun),(H.h8∘ol 8 nofun),(H.h9∘ol 9 nofun),(H.h10∘ol 10 nofun),(H.h11∘ol 11 nofun),(H.h12∘ol 12 nofun),(H.h13∘ol 13 nofun),(H.h14∘ol 14 nofun),(H.h15∘ol 15 nofun)⟩⟩
   ·clear hi hi2
    exact step_run (i:=6) (w':=W) (v:=.pointer (some ⟨w.heap.size,8,none⟩)) rfl rfl (by simp [execOp,Act.eval,go_sem]) ⟨_,_,_,_,_,_,_,_,_,_,_,_,_,_,_,rfl,⟨(H.m1),(H.h0∘ol 0 nofun),(H.h1∘ol 1 nofun),(H.h2∘ol 2 nofun),(H.h3∘ol 3 nofun),(H.h4∘ol 4 nofun),(H.h5∘ol 5 nofun),(fun _=>rfl),(H.h7∘ol 7 nofun),(H.h8∘ol 8 nofun),(H.h9∘ol 9 nofun),(H.h10∘ol 10 nofun),(H.h11∘ol 11 nofun),(H.h12∘ol 12 nofun),(H.h13∘ol 13 nofun),(H.h14∘ol 14 nofun),(H.h15∘ol 15 nofun)⟩⟩
   ·clear hi hi2
    have e44:=H.h6 (hdep 6 (memOf (by kernel_rfl)))
    subst e44
    have cq:=ask_d (hask.call H.m1)
    exact step_run (i:=7) (w':=W) (v:=.agg (dcs q.d)) rfl rfl (by simp [execOp,Act.eval,go_sem,cq]) ⟨_,_,_,_,_,_,_,_,_,_,_,_,_,_,_,rfl,⟨(H.m1),(H.h0∘ol 0 nofun),(H.h1∘ol 1 nofun),(H.h2∘ol 2 nofun),(H.h3∘ol 3 nofun),(H.h4∘ol 4 nofun),(H.h5∘ol 5 nofun),(H.h6∘ol 6 nofun),(fun _=>rfl),(H.h8∘ol 8 nofun),(H.h9∘ol 9 nofun),(H.h10∘ol 10 nofun),(H.h11∘ol 11 nofun),(H.h12∘ol 12 nofun),(H.h13∘ol 13 nofun),(H.h14∘ol 14 nofun),(H.h15∘ol 15 nofun)⟩⟩
   ·clear hi hi2
    have cq:=d_all (hlen.call H.m1)
    exact step_run (i:=8) (w':=W) (v:=.agg (dcs len)) rfl rfl (by simp [execOp,Act.eval,go_sem,cq]) ⟨_,_,_,_,_,_,_,_,_,_,_,_,_,_,_,rfl,⟨(H.m1),(H.h0∘ol 0 nofun),(H.h1∘ol 1 nofun),(H.h2∘ol 2 nofun),(H.h3∘ol 3 nofun),(H.h4∘ol 4 nofun),(H.h5∘ol 5 nofun),(H.h6∘ol 6 nofun),(H.h7∘ol 7 nofun),(fun _=>rfl),(H.h9∘ol 9 nofun),(H.h10∘ol 10 nofun),(H.h11∘ol 11 nofun),(H.h12∘ol 12 nofun),(H.h13∘ol 13 nofun),(H.h14∘ol 14 nofun),(H.h15∘ol 15 nofun)⟩⟩
   ·clear hi hi2
    have e43:=H.h5 (hdep 5 (memOf (by kernel_rfl)))
    have e45:=H.h7 (hdep 7 (memOf (by kernel_rfl)))
    have e46:=H.h8 (hdep 8 (memOf (by kernel_rfl)))
    subst e43
    subst e45
    subst e46
    refine step_call (i:=9) (f:=189) (args:=#[.bool t.ext,.agg (dcs q.d),.bool true,.agg (dcs len)]) rfl rfl (by simp [execOp,Act.eval,go_sem]) (HAPP.out W) ?_
    rintro e W2 ⟨rfl,hb⟩
    exact ⟨_,rfl,⟨_,_,_,_,_,_,_,_,_,_,_,_,_,_,_,rfl,⟨(H.m1.trans (hb.mono H.m1.size)),(H.h0∘ol 0 nofun),(H.h1∘ol 1 nofun),(H.h2∘ol 2 nofun),(H.h3∘ol 3 nofun),(H.h4∘ol 4 nofun),(H.h5∘ol 5 nofun),(H.h6∘ol 6 nofun),(H.h7∘ol 7 nofun),(H.h8∘ol 8 nofun),(fun _=>rfl),(H.h10∘ol 10 nofun),(H.h11∘ol 11 nofun),(H.h12∘ol 12 nofun),(fun h=>let ⟨g,q1,q2,o,q3⟩:=H.h13 (ol 13 (by decide) h);⟨g,q1,q2,o,q3.call hb⟩),(fun h=>let ⟨g,q1,q2,q3⟩:=H.h14 (ol 14 (by decide) h);⟨g,q1,q2,q3.call hb⟩),(H.h15∘ol 15 nofun)⟩⟩⟩
   ·clear hi hi2
    have e47:=H.h9 (hdep 9 (memOf (by kernel_rfl)))
    subst e47
    exact step_run (i:=10) (w':=W) (v:=.tuple #[.agg (dcs rd),.bool true]) rfl rfl (by simp [execOp,Act.eval,go_sem]) ⟨_,_,_,_,_,_,_,_,_,_,_,_,_,_,_,rfl,⟨(H.m1),(H.h0∘ol 0 nofun),(H.h1∘ol 1 nofun),(H.h2∘ol 2 nofun),(H.h3∘ol 3 nofun),(H.h4∘ol 4 nofun),(H.h5∘ol 5 nofun),(H.h6∘ol 6 nofun),(H.h7∘ol 7 nofun),(H.h8∘ol 8 nofun),(H.h9∘ol 9 nofun),(fun _=>rfl),(H.h11∘ol 11 nofun),(H.h12∘ol 12 nofun),(H.h13∘ol 13 nofun),(H.h14∘ol 14 nofun),(H.h15∘ol 15 nofun)⟩⟩
   ·clear hi hi2
    have e37:=H.h10 (hdep 10 (memOf (by kernel_rfl)))
    subst e37
    exact step_run (i:=11) (w':=W) (v:=.agg (dcs rd)) rfl rfl (by simp [execOp,Act.eval,go_sem]) ⟨_,_,_,_,_,_,_,_,_,_,_,_,_,_,_,rfl,⟨(H.m1),(H.h0∘ol 0 nofun),(H.h1∘ol 1 nofun),(H.h2∘ol 2 nofun),(H.h3∘ol 3 nofun),(H.h4∘ol 4 nofun),(H.h5∘ol 5 nofun),(H.h6∘ol 6 nofun),(H.h7∘ol 7 nofun),(H.h8∘ol 8 nofun),(H.h9∘ol 9 nofun),(H.h10∘ol 10 nofun),(fun _=>rfl),(H.h12∘ol 12 nofun),(H.h13∘ol 13 nofun),(H.h14∘ol 14 nofun),(H.h15∘ol 15 nofun)⟩⟩
   ·clear hi hi2
    have e37:=H.h10 (hdep 10 (memOf (by kernel_rfl)))
    subst e37
    exact step_run (i:=12) (w':=W) (v:=.bool true) rfl rfl (by simp [execOp,Act.eval,go_sem]) ⟨_,_,_,_,_,_,_,_,_,_,_,_,_,_,_,rfl,⟨(H.m1),(H.h0∘ol 0 nofun),(H.h1∘ol 1 nofun),(H.h2∘ol 2 nofun),(H.h3∘ol 3 nofun),(H.h4∘ol 4 nofun),(H.h5∘ol 5 nofun),(H.h6∘ol 6 nofun),(H.h7∘ol 7 nofun),(H.h8∘ol 8 nofun),(H.h9∘ol 9 nofun),(H.h10∘ol 10 nofun),(H.h11∘ol 11 nofun),(fun _=>rfl),(H.h13∘ol 13 nofun),(H.h14∘ol 14 nofun),(H.h15∘ol 15 nofun)⟩⟩
   ·clear hi hi2
    have hb:Below W.heap.size W (W.alloc (.cells (dcs zeroD) 34)):=(Below.refl _ W).alloc (Nat.le_refl _) _
    exact step_run (i:=13) (w':=(W.alloc (.cells (dcs zeroD) 34))) (v:=ptr W.heap.size) rfl rfl (by simp [execOp,Act.eval,go_sem]) ⟨_,_,_,_,_,_,_,_,_,_,_,_,_,_,_,rfl,⟨(H.m1.trans (hb.mono H.m1.size)),(H.h0∘ol 0 nofun),(H.h1∘ol 1 nofun),(H.h2∘ol 2 nofun),(H.h3∘ol 3 nofun),(H.h4∘ol 4 nofun),(H.h5∘ol 5 nofun),(H.h6∘ol 6 nofun),(H.h7∘ol 7 nofun),(H.h8∘ol 8 nofun),(H.h9∘ol 9 nofun),(H.h10∘ol 10 nofun),(H.h11∘ol 11 nofun),(H.h12∘ol 12 nofun),(fun _=>⟨_,rfl,H.m1.size,_,Blk.new W _ _⟩),(fun h=>(not_yet hL (hcl 14 (by simp) (ol 14 (by decide) h) 13 (memOf (by kernel_rfl)))).elim),(H.h15∘ol 15 nofun)⟩⟩
   ·clear hi hi2
    have e48:=H.h11 (hdep 11 (memOf (by kernel_rfl)))
    have e11:=H.h13 (hdep 13 (memOf (by kernel_rfl)))
    subst e48
    obtain ⟨b,rfl,hb1,o,hb2⟩:=e11
    have sv:=run_stDp (r:=rd) hb2
    exact step_sk (i:=14) (w':=(W.setRow b (dcs rd))) rfl rfl (by simp [execOp,Act.eval,go_sem,sv]) ⟨_,_,_,_,_,_,_,_,_,_,_,_,_,_,_,rfl,⟨(below_rowW H.m1 _ hb1),(H.h0∘ol 0 nofun),(H.h1∘ol 1 nofun),(H.h2∘ol 2 nofun),(H.h3∘ol 3 nofun),(H.h4∘ol 4 nofun),(H.h5∘ol 5 nofun),(H.h6∘ol 6 nofun),(H.h7∘ol 7 nofun),(H.h8∘ol 8 nofun),(H.h9∘ol 9 nofun),(H.h10∘ol 10 nofun),(H.h11∘ol 11 nofun),(H.h12∘ol 12 nofun),(fun _=>⟨b,rfl,hb1,_,hb2.row _⟩),(fun _=>⟨b,rfl,hb1,hb2.row _⟩),(H.h15∘ol 15 nofun)⟩⟩
   ·clear hi hi2
    have e49:=H.h12 (hdep 12 (memOf (by kernel_rfl)))
    subst e49
    exact step_run (i:=15) (w':=W) (v:=.bool true) rfl rfl (by simp [execOp,Act.eval,go_sem]) ⟨_,_,_,_,_,_,_,_,_,_,_,_,_,_,_,rfl,⟨(H.m1),(H.h0∘ol 0 nofun),(H.h1∘ol 1 nofun),(H.h2∘ol 2 nofun),(H.h3∘ol 3 nofun),(H.h4∘ol 4 nofun),(H.h5∘ol 5 nofun),(H.h6∘ol 6 nofun),(H.h7∘ol 7 nofun),(H.h8∘ol 8 nofun),(H.h9∘ol 9 nofun),(H.h10∘ol 10 nofun),(H.h11∘ol 11 nofun),(H.h12∘ol 12 nofun),(H.h13∘ol 13 nofun),(H.h14∘ol 14 nofun),(fun _=>rfl)⟩⟩
  case done =>
   rintro L a W hall ⟨x11,x12,x37,x38,x39,x40,x41,x42,x43,x44,x45,x46,x47,x48,x49,rfl,H⟩
   obtain ⟨b9,e9,hb9,B9⟩:=H.h14 (hall 14 (by simp))
   have e10:=H.h15 (hall 15 (by simp))
   subst e9 e10
   have HQ:=Lib.hid (show DsAtL X (c+3) M w M A rd true [⟨w.heap.size+2,rcs zeroR,57⟩,⟨w.heap.size+1,dcs len,34⟩,⟨w.heap.size,acs q ql,52⟩] [] [⟨xb,xcs o t,T⟩] (ptr b9) (.bool true) W from ⟨_,rfl,rfl,HF4.out.drew.growW H.m1 B9 hb9⟩)
   clear H hxb hask hlen B9 hb9 hall
   go_wp2_with fail
   go_meet
   exact HQ.out
 case rest =>
 obtain ⟨N11,rfl,rfl,F6⟩:=hcut
 have HF6:=Lib.hid F6
 clear F6 HF4
 have dw:=d_w HF6.out.l2.blk
 rw [HW.out] at dw
 go_wp2_with (go_at_call 168;(with_reducible refine (answer_any false _).mono ?_);rintro e w7 ⟨rfl,hb⟩;have F7:=HF6.out.call hb;have s7:=run_stRp F7.l1.blk (r:=(ans false).mem nilS) ⟨_,_,_,rfl⟩;have HF7:=Lib.hid F7;clear hb F7)
 have F8:=HF7.out.put (l:=[⟨N11,dcs rd,34⟩]) (rcs ((ans false).mem nilS)) (show 57 ≠ 32 by decide)
 refine bodyPost_ret (res_R rfl _ _ (w.heap.size+2) _ rfl F8.l1.blk) rfl ?_
 exact (F8.less (c':=c+1) (by omega)).fin1 rfl
structure LeP (X:Cx) (c1:Nat) (M:Wm) (xb:Nat) (o:Int) (d:Ds) (A6:Aw) (w1:World) (L:Array Bool) (x75 x76 x77 x78 x79 x80 x81 x82 x83 x84:Value) (W:World):Prop where
 m1:L.getD 9 false=false→Below w1.heap.size w1 W
 m2:L.getD 9 false=true→∃ M6,WIs X c1 M6 W A6∧Nx (M.bl X.wb) w1 (M6.bl X.wb) W
 h0:L.getD 0 false=true→x75=ptr X.wb
 h1:L.getD 1 false=true→x76=ptr M.hb
 h2:L.getD 2 false=true→x77=ptr xb
 h3:L.getD 3 false=true→x78=ptr xb
 h4:L.getD 4 false=true→x79 = .pointer (some ⟨xb,0,none⟩)
 h5:L.getD 5 false=true→x80 = .pointer (some ⟨xb,0,none⟩)
 h6:L.getD 6 false=true→x81 = .int .i64 o
 h7:L.getD 7 false=true→x82 = .agg (kcs lenK)
 h8:L.getD 8 false=true→x83 = .agg (dcs d)
 h9:L.getD 9 false=true→∃ v,x84=v
set_option maxRecDepth 100000 in
set_option maxHeartbeats 4000000 in
theorem defLen_cut (h:WIs X (c+3) M w A) (o:Int) {t:Th} {T:TypeId} {xb:Nat} (hx:Blk w xb (xcs o t) T) (hxo:xb ∉ M.bl X.wb) {x:Ob} (hat:at? A o=some x) (q:Aq) (ql:Value) (hk:Fine q.k) (len:Ds) (hb:(Arrs.lenF q.d.v.k q.d.v.n).2=true) (hlt:¬ (Arrs.lenF q.d.v.k q.d.v.n).1 ≥ len.v.n) (hrb:(appF t.ext q.d true len).2=true) (hw:len.w=true) (rn:Int) (A3:Aw) (hT:truncF o (Arrs.lenF q.d.v.k q.d.v.n).1 A=(rn,A3)) :
  Calls Tryz.prog 159 #[ptr X.wb,ptr xb,.agg (acs q ql),.agg (dcs len)] w (Post X c M w (ans (rn == (Arrs.lenF q.d.v.k q.d.v.n).1),putF A3 o lenK { len with v:=numV rn,w:=!q.d.hw || q.d.w })):=by
 have HW:=Lib.hid hw
 clear hw
 obtain ⟨nl,hnl⟩:∃ nl,nl={ len with v:=numV rn,w:=!q.d.hw || q.d.w }:=⟨_,rfl⟩
 rw [← hnl]
 have HNL:=Lib.hid hnl
 have HT:=Lib.hid hT
 clear hnl hT
 obtain ⟨w1,hw1⟩:∃ w1,((w.alloc (.cells (acs q ql) 52)).alloc (.cells (dcs len) 34)).alloc (.cells (rcs zeroR) 57)=w1:=⟨_,rfl⟩
 have F0:Fm X (c+3) M w M w1 A [⟨w.heap.size+2,rcs zeroR,57⟩,⟨w.heap.size+1,dcs len,34⟩,⟨w.heap.size,acs q ql,52⟩] [] [⟨xb,xcs o t,T⟩]:=by
  rw [← hw1];exact ((((Fm.start h).with hx hxo).newg _ _ _ rfl).newg _ _ _ (by simp)).newg _ _ _ (by simp)
 have qv:=q_dv F0.l2.blk
 obtain ⟨tn,htn⟩:∃ n,(Arrs.lenF q.d.v.k q.d.v.n).1=n:=⟨_,rfl⟩
 obtain ⟨tb,htb⟩:∃ b,(Arrs.lenF q.d.v.k q.d.v.n).2=b:=⟨_,rfl⟩
 have hlv:=len_val q.d.v w1
 rw [htn,htb] at hlv
 rw [hb] at htb
 rw [htn] at hlt ⊢
 subst htb
 have dl:decide (len.v.n≤tn)=false:=by simp;omega
 obtain ⟨rd,hrd⟩:∃ rd,(appF t.ext q.d true len).1=rd:=⟨_,rfl⟩
 have HAPP:Hid (∀ w':World,Calls Tryz.prog 189 #[.bool t.ext,.agg (dcs q.d),.bool true,.agg (dcs len)] w' fun e w2=>e = .returned (.tuple #[.agg (dcs rd),.bool true])∧Below w'.heap.size w' w2):=Lib.hid fun w'=>by
  have:=Des.app_any t.ext q.d true len w'
  rw [show appF t.ext q.d true len=(rd,true) from Prod.ext hrd hrb] at this
  exact this
 have HF0:=Lib.hid F0
 have HK:=Lib.hid hk
 have HAT:=Lib.hid hat
 have HTN:=Lib.hid htn
 have HTR:=Lib.hid (show 0≤tn∧tn≤4294967295 by rw [← htn];unfold Arrs.lenF;split <;> simp <;> omega)
 clear F0 h hx hxo hk hat hb htn hlt hrd hrb
 go_enter Tryz.func159,Tryz.ntmps159
 go_upto_region 4 with (go_at_call 188;(with_reducible refine hlv.mono ?_);rintro e w2 ⟨rfl,hb⟩;have F2:=HF0.out.call hb;have dv:=d_vn F2.l1.blk;have HF2:=Lib.hid F2;clear hb F2)
 go_cut [29] from 14 to 28 (fun s wx=>s = .bool false∧Fm X (c+3) M w M wx A [⟨w.heap.size+2,rcs zeroR,57⟩,⟨w.heap.size+1,dcs len,34⟩,⟨w.heap.size,acs q ql,52⟩] [] [⟨xb,xcs o t,T⟩])
 case first =>
  go_wp2_with fail
  go_meet
  exact ⟨rfl,HF2.out⟩
 case rest =>
 obtain ⟨rfl,F4⟩:=hcut
 have HF4:=Lib.hid F4
 clear F4 hlv
 go_upto_region 6 with fail
 go_cut [11,12] from 37 to 49 (fun s1 s2 wx=>DsAtL X (c+3) M w M A rd true [⟨w.heap.size+2,rcs zeroR,57⟩,⟨w.heap.size+1,dcs len,34⟩,⟨w.heap.size,acs q ql,52⟩] [] [⟨xb,xcs o t,T⟩] s1 s2 wx)
 case first =>
  have hxb:=HF4.out.drew.r0
  have hask:=HF4.out.drew.l2.blk
  have hlen:=HF4.out.drew.l1.blk
  refine region_inv (by kernel_rfl) (fun L a W=>∃ x11 x12 x37 x38 x39 x40 x41 x42 x43 x44 x45 x46 x47 x48 x49:Value,a={ tmps:=#[ptr X.wb,ptr xb,.agg (acs q ql),.agg (dcs len),undef,undef,ptr w.heap.size,ptr (w.heap.size+1),ptr (w.heap.size+1+1),.int .i64 tn,.bool true,x11,x12,undef,u14,u15,u16,u17,u18,u19,u20,u21,u22,u23,u24,u25,u26,u27,u28,.bool false,undef,undef,undef,undef,undef,undef,undef,x37,x38,x39,x40,x41,x42,x43,x44,x45,x46,x47,x48,x49,undef,undef,undef,undef,undef,undef,undef,undef,undef,undef,undef,undef,undef,undef,undef,undef,undef,undef,undef,undef,undef,undef,undef,undef,undef,undef,undef,undef,undef,undef,undef,undef,undef,undef,undef,undef,undef,undef,undef],defers:=[] }∧LaI xb w.heap.size t.ext q len rd true wc.drew L x11 x12 x37 x38 x39 x40 x41 x42 x43 x44 x45 x46 x47 x48 x49 W) (by kernel_rfl) ?start ?step ?done
  case start=>exact ⟨_,_,_,_,_,_,_,_,_,_,_,_,_,_,_,rfl,⟨Below.refl _ _,fun h=>by simp [Array.getD_eq_getD_getElem?] at h,fun h=>by simp [Array.getD_eq_getD_getElem?] at h,fun h=>by simp [Array.getD_eq_getD_getElem?] at h,fun h=>by simp [Array.getD_eq_getD_getElem?] at h,fun h=>by simp [Array.getD_eq_getD_getElem?] at h,fun h=>by simp [Array.getD_eq_getD_getElem?] at h,fun h=>by simp [Array.getD_eq_getD_getElem?] at h,fun h=>by simp [Array.getD_eq_getD_getElem?] at h,fun h=>by simp [Array.getD_eq_getD_getElem?] at h,fun h=>by simp [Array.getD_eq_getD_getElem?] at h,fun h=>by simp [Array.getD_eq_getD_getElem?] at h,fun h=>by simp [Array.getD_eq_getD_getElem?] at h,fun h=>by simp [Array.getD_eq_getD_getElem?] at h,fun h=>by simp [Array.getD_eq_getD_getElem?] at h,fun h=>by simp [Array.getD_eq_getD_getElem?] at h,fun h=>by simp [Array.getD_eq_getD_getElem?] at h⟩⟩
  case step =>
   intro i L a W hi hdep hL hs hcl hI
   have hi2:i < 16:=by simpa using hi
   obtain ⟨x11,x12,x37,x38,x39,x40,x41,x42,x43,x44,x45,x46,x47,x48,x49,rfl,H⟩:=hI
   have ol:∀ j,i ≠ j→(L.setIfInBounds i true).getD j false=true→L.getD j false=true:=fun j hj h=>by rwa [getD_set hj] at h
   rcases (by omega:i=0∨i=1∨i=2∨i=3∨i=4∨i=5∨i=6∨i=7∨i=8∨i=9∨i=10∨i=11∨i=12∨i=13∨i=14∨i=15) with rfl |rfl |rfl |rfl |rfl |rfl |rfl |rfl |rfl |rfl |rfl |rfl |rfl |rfl |rfl |rfl
   ·clear hi hi2
    exact step_run (i:=0) (w':=W) (v:=ptr xb) rfl rfl (by simp [execOp,Act.eval,go_sem]) ⟨_,_,_,_,_,_,_,_,_,_,_,_,_,_,_,rfl,⟨(H.m1),(fun _=>rfl),(H.h1∘ol 1 nofun),(H.h2∘ol 2 nofun),(H.h3∘ol 3 nofun),(H.h4∘ol 4 nofun),(H.h5∘ol 5 nofun),(H.h6∘ol 6 nofun),(H.h7∘ol 7 nofun),(H.h8∘ol 8 nofun),(H.h9∘ol 9 nofun),(H.h10∘ol 10 nofun),(H.h11∘ol 11 nofun),(H.h12∘ol 12 nofun),(H.h13∘ol 13 nofun),(H.h14∘ol 14 nofun),(H.h15∘ol 15 nofun)⟩⟩
   ·clear hi hi2
    have e38:=H.h0 (hdep 0 (memOf (by kernel_rfl)))
    subst e38
    exact step_run (i:=1) (w':=W) (v:=ptr xb) rfl rfl (by simp [execOp,Act.eval,go_sem]) ⟨_,_,_,_,_,_,_,_,_,_,_,_,_,_,_,rfl,⟨(H.m1),(H.h0∘ol 0 nofun),(fun _=>rfl),(H.h2∘ol 2 nofun),(H.h3∘ol 3 nofun),(H.h4∘ol 4 nofun),(H.h5∘ol 5 nofun),(H.h6∘ol 6 nofun),(H.h7∘ol 7 nofun),(H.h8∘ol 8 nofun),(H.h9∘ol 9 nofun),(H.h10∘ol 10 nofun),(H.h11∘ol 11 nofun),(H.h12∘ol 12 nofun),(H.h13∘ol 13 nofun),(H.h14∘ol 14 nofun),(H.h15∘ol 15 nofun)⟩⟩
   ·clear hi hi2
    have e39:=H.h1 (hdep 1 (memOf (by kernel_rfl)))
    subst e39
    exact step_run (i:=2) (w':=W) (v:=.pointer (some ⟨xb,0,none⟩)) rfl rfl (by simp [execOp,Act.eval,go_sem]) ⟨_,_,_,_,_,_,_,_,_,_,_,_,_,_,_,rfl,⟨(H.m1),(H.h0∘ol 0 nofun),(H.h1∘ol 1 nofun),(fun _=>rfl),(H.h3∘ol 3 nofun),(H.h4∘ol 4 nofun),(H.h5∘ol 5 nofun),(H.h6∘ol 6 nofun),(H.h7∘ol 7 nofun),(H.h8∘ol 8 nofun),(H.h9∘ol 9 nofun),(H.h10∘ol 10 nofun),(H.h11∘ol 11 nofun),(H.h12∘ol 12 nofun),(H.h13∘ol 13 nofun),(H.h14∘ol 14 nofun),(H.h15∘ol 15 nofun)⟩⟩
   ·clear hi hi2
    have e40:=H.h2 (hdep 2 (memOf (by kernel_rfl)))
    subst e40
    exact step_run (i:=3) (w':=W) (v:=.pointer (some ⟨xb,1,none⟩)) rfl rfl (by simp [execOp,Act.eval,go_sem]) ⟨_,_,_,_,_,_,_,_,_,_,_,_,_,_,_,rfl,⟨(H.m1),(H.h0∘ol 0 nofun),(H.h1∘ol 1 nofun),(H.h2∘ol 2 nofun),(fun _=>rfl),(H.h4∘ol 4 nofun),(H.h5∘ol 5 nofun),(H.h6∘ol 6 nofun),(H.h7∘ol 7 nofun),(H.h8∘ol 8 nofun),(H.h9∘ol 9 nofun),(H.h10∘ol 10 nofun),(H.h11∘ol 11 nofun),(H.h12∘ol 12 nofun),(H.h13∘ol 13 nofun),(H.h14∘ol 14 nofun),(H.h15∘ol 15 nofun)⟩⟩
   ·clear hi hi2
    have e41:=H.h3 (hdep 3 (memOf (by kernel_rfl)))
    subst e41
    exact step_run (i:=4) (w':=W) (v:=.pointer (some ⟨xb,5,none⟩)) rfl rfl (by simp [execOp,Act.eval,go_sem]) ⟨_,_,_,_,_,_,_,_,_,_,_,_,_,_,_,rfl,⟨(H.m1),(H.h0∘ol 0 nofun),(H.h1∘ol 1 nofun),(H.h2∘ol 2 nofun),(H.h3∘ol 3 nofun),(fun _=>rfl),(H.h5∘ol 5 nofun),(H.h6∘ol 6 nofun),(H.h7∘ol 7 nofun),(H.h8∘ol 8 nofun),(H.h9∘ol 9 nofun),(H.h10∘ol 10 nofun),(H.h11∘ol 11 nofun),(H.h12∘ol 12 nofun),(H.h13∘ol 13 nofun),(H.h14∘ol 14 nofun),(H.h15∘ol 15 nofun)⟩⟩
   ·clear hi hi2
    have e42:=H.h4 (hdep 4 (memOf (by kernel_rfl)))
    subst e42
    have cq:=x_ext (hxb.call H.m1)
    exact step_run (i:=5) (w':=W) (v:=.bool t.ext) rfl rfl (by simp [execOp,Act.eval,go_sem,cq]) ⟨_,_,_,_,_,_,_,_,_,_,_,_,_,_,_,rfl,⟨(H.m1),(H.h0∘ol 0 nofun),(H.h1∘ol 1 nofun),(H.h2∘ol 2 nofun),(H.h3∘ol 3 nofun),(H.h4∘ol 4 nofun),(fun _=>rfl),(H.h6∘ol 6 nofun),(H.h7∘ol 7 nofun),(H.h8∘ol 8 nofun),(H.h9∘ol 9 nofun),(H.h10∘ol 10 nofun),(H.h11∘ol 11 nofun),(H.h12∘ol 12 nofun),(H.h13∘ol 13 nofun),(H.h14∘ol 14 nofun),(H.h15∘ol 15 nofun)⟩⟩
   ·clear hi hi2
    exact step_run (i:=6) (w':=W) (v:=.pointer (some ⟨w.heap.size,8,none⟩)) rfl rfl (by simp [execOp,Act.eval,go_sem]) ⟨_,_,_,_,_,_,_,_,_,_,_,_,_,_,_,rfl,⟨(H.m1),(H.h0∘ol 0 nofun),(H.h1∘ol 1 nofun),(H.h2∘ol 2 nofun),(H.h3∘ol 3 nofun),(H.h4∘ol 4 nofun),(H.h5∘ol 5 nofun),(fun _=>rfl),(H.h7∘ol 7 nofun),(H.h8∘ol 8 nofun),(H.h9∘ol 9 nofun),(H.h10∘ol 10 nofun),(H.h11∘ol 11 nofun),(H.h12∘ol 12 nofun),(H.h13∘ol 13 nofun),(H.h14∘ol 14 nofun),(H.h15∘ol 15 nofun)⟩⟩
   ·clear hi hi2
    have e44:=H.h6 (hdep 6 (memOf (by kernel_rfl)))
    subst e44
    have cq:=ask_d (hask.call H.m1)
    exact step_run (i:=7) (w':=W) (v:=.agg (dcs q.d)) rfl rfl (by simp [execOp,Act.eval,go_sem,cq]) ⟨_,_,_,_,_,_,_,_,_,_,_,_,_,_,_,rfl,⟨(H.m1),(H.h0∘ol 0 nofun),(H.h1∘ol 1 nofun),(H.h2∘ol 2 nofun),(H.h3∘ol 3 nofun),(H.h4∘ol 4 nofun),(H.h5∘ol 5 nofun),(H.h6∘ol 6 nofun),(fun _=>rfl),(H.h8∘ol 8 nofun),(H.h9∘ol 9 nofun),(H.h10∘ol 10 nofun),(H.h11∘ol 11 nofun),(H.h12∘ol 12 nofun),(H.h13∘ol 13 nofun),(H.h14∘ol 14 nofun),(H.h15∘ol 15 nofun)⟩⟩
   ·clear hi hi2
    have cq:=d_all (hlen.call H.m1)
    exact step_run (i:=8) (w':=W) (v:=.agg (dcs len)) rfl rfl (by simp [execOp,Act.eval,go_sem,cq]) ⟨_,_,_,_,_,_,_,_,_,_,_,_,_,_,_,rfl,⟨(H.m1),(H.h0∘ol 0 nofun),(H.h1∘ol 1 nofun),(H.h2∘ol 2 nofun),(H.h3∘ol 3 nofun),(H.h4∘ol 4 nofun),(H.h5∘ol 5 nofun),(H.h6∘ol 6 nofun),(H.h7∘ol 7 nofun),(fun _=>rfl),(H.h9∘ol 9 nofun),(H.h10∘ol 10 nofun),(H.h11∘ol 11 nofun),(H.h12∘ol 12 nofun),(H.h13∘ol 13 nofun),(H.h14∘ol 14 nofun),(H.h15∘ol 15 nofun)⟩⟩
   ·clear hi hi2
    have e43:=H.h5 (hdep 5 (memOf (by kernel_rfl)))
    have e45:=H.h7 (hdep 7 (memOf (by kernel_rfl)))
    have e46:=H.h8 (hdep 8 (memOf (by kernel_rfl)))
    subst e43
    subst e45
    subst e46
    refine step_call (i:=9) (f:=189) (args:=#[.bool t.ext,.agg (dcs q.d),.bool true,.agg (dcs len)]) rfl rfl (by simp [execOp,Act.eval,go_sem]) (HAPP.out W) ?_
    rintro e W2 ⟨rfl,hb⟩
    exact ⟨_,rfl,⟨_,_,_,_,_,_,_,_,_,_,_,_,_,_,_,rfl,⟨(H.m1.trans (hb.mono H.m1.size)),(H.h0∘ol 0 nofun),(H.h1∘ol 1 nofun),(H.h2∘ol 2 nofun),(H.h3∘ol 3 nofun),(H.h4∘ol 4 nofun),(H.h5∘ol 5 nofun),(H.h6∘ol 6 nofun),(H.h7∘ol 7 nofun),(H.h8∘ol 8 nofun),(fun _=>rfl),(H.h10∘ol 10 nofun),(H.h11∘ol 11 nofun),(H.h12∘ol 12 nofun),(fun h=>let ⟨g,q1,q2,o,q3⟩:=H.h13 (ol 13 (by decide) h);⟨g,q1,q2,o,q3.call hb⟩),(fun h=>let ⟨g,q1,q2,q3⟩:=H.h14 (ol 14 (by decide) h);⟨g,q1,q2,q3.call hb⟩),(H.h15∘ol 15 nofun)⟩⟩⟩
   ·clear hi hi2
    have e47:=H.h9 (hdep 9 (memOf (by kernel_rfl)))
    subst e47
    exact step_run (i:=10) (w':=W) (v:=.tuple #[.agg (dcs rd),.bool true]) rfl rfl (by simp [execOp,Act.eval,go_sem]) ⟨_,_,_,_,_,_,_,_,_,_,_,_,_,_,_,rfl,⟨(H.m1),(H.h0∘ol 0 nofun),(H.h1∘ol 1 nofun),(H.h2∘ol 2 nofun),(H.h3∘ol 3 nofun),(H.h4∘ol 4 nofun),(H.h5∘ol 5 nofun),(H.h6∘ol 6 nofun),(H.h7∘ol 7 nofun),(H.h8∘ol 8 nofun),(H.h9∘ol 9 nofun),(fun _=>rfl),(H.h11∘ol 11 nofun),(H.h12∘ol 12 nofun),(H.h13∘ol 13 nofun),(H.h14∘ol 14 nofun),(H.h15∘ol 15 nofun)⟩⟩
   ·clear hi hi2
    have e37:=H.h10 (hdep 10 (memOf (by kernel_rfl)))
    subst e37
    exact step_run (i:=11) (w':=W) (v:=.agg (dcs rd)) rfl rfl (by simp [execOp,Act.eval,go_sem]) ⟨_,_,_,_,_,_,_,_,_,_,_,_,_,_,_,rfl,⟨(H.m1),(H.h0∘ol 0 nofun),(H.h1∘ol 1 nofun),(H.h2∘ol 2 nofun),(H.h3∘ol 3 nofun),(H.h4∘ol 4 nofun),(H.h5∘ol 5 nofun),(H.h6∘ol 6 nofun),(H.h7∘ol 7 nofun),(H.h8∘ol 8 nofun),(H.h9∘ol 9 nofun),(H.h10∘ol 10 nofun),(fun _=>rfl),(H.h12∘ol 12 nofun),(H.h13∘ol 13 nofun),(H.h14∘ol 14 nofun),(H.h15∘ol 15 nofun)⟩⟩
   ·clear hi hi2
    have e37:=H.h10 (hdep 10 (memOf (by kernel_rfl)))
    subst e37
    exact step_run (i:=12) (w':=W) (v:=.bool true) rfl rfl (by simp [execOp,Act.eval,go_sem]) ⟨_,_,_,_,_,_,_,_,_,_,_,_,_,_,_,rfl,⟨(H.m1),(H.h0∘ol 0 nofun),(H.h1∘ol 1 nofun),(H.h2∘ol 2 nofun),(H.h3∘ol 3 nofun),(H.h4∘ol 4 nofun),(H.h5∘ol 5 nofun),(H.h6∘ol 6 nofun),(H.h7∘ol 7 nofun),(H.h8∘ol 8 nofun),(H.h9∘ol 9 nofun),(H.h10∘ol 10 nofun),(H.h11∘ol 11 nofun),(fun _=>rfl),(H.h13∘ol 13 nofun),(H.h14∘ol 14 nofun),(H.h15∘ol 15 nofun)⟩⟩
   ·clear hi hi2
    have hb:Below W.heap.size W (W.alloc (.cells (dcs zeroD) 34)):=(Below.refl _ W).alloc (Nat.le_refl _) _
    exact step_run (i:=13) (w':=(W.alloc (.cells (dcs zeroD) 34))) (v:=ptr W.heap.size) rfl rfl (by simp [execOp,Act.eval,go_sem]) ⟨_,_,_,_,_,_,_,_,_,_,_,_,_,_,_,rfl,⟨(H.m1.trans (hb.mono H.m1.size)),(H.h0∘ol 0 nofun),(H.h1∘ol 1 nofun),(H.h2∘ol 2 nofun),(H.h3∘ol 3 nofun),(H.h4∘ol 4 nofun),(H.h5∘ol 5 nofun),(H.h6∘ol 6 nofun),(H.h7∘ol 7 nofun),(H.h8∘ol 8 nofun),(H.h9∘ol 9 nofun),(H.h10∘ol 10 nofun),(H.h11∘ol 11 nofun),(H.h12∘ol 12 nofun),(fun _=>⟨_,rfl,H.m1.size,_,Blk.new W _ _⟩),(fun h=>(not_yet hL (hcl 14 (by simp) (ol 14 (by decide) h) 13 (memOf (by kernel_rfl)))).elim),(H.h15∘ol 15 nofun)⟩⟩
   ·clear hi hi2
    have e48:=H.h11 (hdep 11 (memOf (by kernel_rfl)))
    have e11:=H.h13 (hdep 13 (memOf (by kernel_rfl)))
    subst e48
    obtain ⟨b,rfl,hb1,o,hb2⟩:=e11
    have sv:=run_stDp (r:=rd) hb2
    exact step_sk (i:=14) (w':=(W.setRow b (dcs rd))) rfl rfl (by simp [execOp,Act.eval,go_sem,sv]) ⟨_,_,_,_,_,_,_,_,_,_,_,_,_,_,_,rfl,⟨(below_rowW H.m1 _ hb1),(H.h0∘ol 0 nofun),(H.h1∘ol 1 nofun),(H.h2∘ol 2 nofun),(H.h3∘ol 3 nofun),(H.h4∘ol 4 nofun),(H.h5∘ol 5 nofun),(H.h6∘ol 6 nofun),(H.h7∘ol 7 nofun),(H.h8∘ol 8 nofun),(H.h9∘ol 9 nofun),(H.h10∘ol 10 nofun),(H.h11∘ol 11 nofun),(H.h12∘ol 12 nofun),(fun _=>⟨b,rfl,hb1,_,hb2.row _⟩),(fun _=>⟨b,rfl,hb1,hb2.row _⟩),(H.h15∘ol 15 nofun)⟩⟩
   ·clear hi hi2
    have e49:=H.h12 (hdep 12 (memOf (by kernel_rfl)))
    subst e49
    exact step_run (i:=15) (w':=W) (v:=.bool true) rfl rfl (by simp [execOp,Act.eval,go_sem]) ⟨_,_,_,_,_,_,_,_,_,_,_,_,_,_,_,rfl,⟨(H.m1),(H.h0∘ol 0 nofun),(H.h1∘ol 1 nofun),(H.h2∘ol 2 nofun),(H.h3∘ol 3 nofun),(H.h4∘ol 4 nofun),(H.h5∘ol 5 nofun),(H.h6∘ol 6 nofun),(H.h7∘ol 7 nofun),(H.h8∘ol 8 nofun),(H.h9∘ol 9 nofun),(H.h10∘ol 10 nofun),(H.h11∘ol 11 nofun),(H.h12∘ol 12 nofun),(H.h13∘ol 13 nofun),(H.h14∘ol 14 nofun),(fun _=>rfl)⟩⟩
  case done =>
   rintro L a W hall ⟨x11,x12,x37,x38,x39,x40,x41,x42,x43,x44,x45,x46,x47,x48,x49,rfl,H⟩
   obtain ⟨b9,e9,hb9,B9⟩:=H.h14 (hall 14 (by simp))
   have e10:=H.h15 (hall 15 (by simp))
   subst e9 e10
   have HQ:=Lib.hid (show DsAtL X (c+3) M w M A rd true [⟨w.heap.size+2,rcs zeroR,57⟩,⟨w.heap.size+1,dcs len,34⟩,⟨w.heap.size,acs q ql,52⟩] [] [⟨xb,xcs o t,T⟩] (ptr b9) (.bool true) W from ⟨_,rfl,rfl,HF4.out.drew.growW H.m1 B9 hb9⟩)
   clear H hxb hask hlen B9 hb9 hall
   go_wp2_with fail
   go_meet
   exact HQ.out
 case rest =>
 obtain ⟨N11,rfl,rfl,F6⟩:=hcut
 have HF6:=Lib.hid F6
 clear F6 HF4
 have dw:=d_w HF6.out.l2.blk
 rw [HW.out] at dw
 have htr:=trunc_any HF6.out.wis o HF6.out.r0 HF6.out.r0o HAT.out tn HTR.out.1 HTR.out.2
 have hT:=HT.out
 rw [HTN.out] at hT
 rw [hT] at htr
 clear hT
 have HLK:=Lib.hid (show Fine lenK from ⟨by decide,by decide,by decide⟩)
 go_upto_region 11 with (first |(go_at_call 190;(with_reducible refine htr.mono ?_);rintro e w7 ⟨rfl,M3,hL⟩;have F7:=HF6.out.leftW hL;have HF7:=Lib.hid F7;clear hL F7) |(go_at_call 191;(with_reducible refine (num_any rn _).mono ?_);rintro e w8 ⟨rfl,hb⟩;have F8:=HF7.out.call hb;have s8:=run_stDval F8.l2.blk (numV rn);have F9:=F8.put (l:=[⟨N11,dcs rd,34⟩,⟨w.heap.size+2,rcs zeroR,57⟩]) (dcs { len with v:=numV rn }) (show 34 ≠ 32 by decide);have hB9:=F9.l2.blk;have c9:=d_w hB9;have f9:=hB9.frozen 15;have e9:=fun b:Bool=>row_cell hB9 (.bool b) (dcs_set15 _ b);have qhw:=q_hw F9.l3.blk;have qw:=q_w F9.l3.blk;have HE9:=Lib.hid e9;have HF9:=Lib.hid F9;clear hB9 e9 F9;have HF8:=Lib.hid F8;clear hb F8))
 go_cut [] from 50 to 74 (fun wx=>Fm X (c+3) M w M3 wx A3 (⟨N11,dcs rd,34⟩ :: [⟨w.heap.size+2,rcs zeroR,57⟩,⟨w.heap.size+1,dcs nl,34⟩,⟨w.heap.size,acs q ql,52⟩]) [] [⟨xb,xcs o t,T⟩])
 case first =>
  have HQ:Hid (∀ b,(!q.d.hw || q.d.w)=b→∃ w10,(w8.setRow (w.heap.size+1) (dcs { len with v:=numV rn })).setCell ⟨w.heap.size+1,15,none⟩ (.bool b)=w10∧Fm X (c+3) M w M3 w10 A3 (⟨N11,dcs rd,34⟩ :: [⟨w.heap.size+2,rcs zeroR,57⟩,⟨w.heap.size+1,dcs nl,34⟩,⟨w.heap.size,acs q ql,52⟩]) [] [⟨xb,xcs o t,T⟩]):=Lib.hid fun b hb=>by
   have F10:=HF9.out.put (l:=[⟨N11,dcs rd,34⟩,⟨w.heap.size+2,rcs zeroR,57⟩]) (dcs { len with v:=numV rn,w:=b }) (show 34 ≠ 32 by decide)
   have e9:=HE9.out b
   rw [← e9] at F10
   rw [HNL.out,hb]
   exact ⟨_,rfl,F10⟩
  cases hhw:q.d.hw
  ·obtain ⟨w10,q1,q2⟩:=HQ.out true (by rw [hhw];rfl)
   rw [hhw] at qhw
   have HQ2:=Lib.hid q2
   clear q2 hhw HQ
   go_wp2_with fail
   go_meet
   exact HQ2.out
  ·obtain ⟨w10,q1,q2⟩:=HQ.out q.d.w (by rw [hhw];rfl)
   rw [hhw] at qhw
   have HQ2:=Lib.hid q2
   clear q2 hhw HQ
   go_wp2_with fail
   go_meet
   exact HQ2.out
 case rest =>
 have FQ:=hcut.drew
 have HFQ:=Lib.hid FQ
 have HPUT:Hid (∀ {w':World},WIs X (c+3) M3 w' A3→Calls Tryz.prog 36 #[ptr M3.hb,.int .i64 o,.agg (kcs lenK),.agg (dcs nl)] w' (LeftB X (c+2) M3 w' (putF A3 o lenK nl))):=Lib.hid fun h'=>wPut h' o lenK HLK.out _
 clear hcut FQ HF9
 go_upto_region 12 with fail
 go_cut [] from 75 to 84 (fun wx=>∃ M6,Fm X (c+2) M w M6 wx (putF A3 o lenK nl) (⟨N11,dcs rd,34⟩ :: [⟨w.heap.size+2,rcs zeroR,57⟩,⟨w.heap.size+1,dcs nl,34⟩,⟨w.heap.size,acs q ql,52⟩]) [] [⟨xb,xcs o t,T⟩])
 case first =>
  have hwis:=HFQ.out.wis
  have hxb:=HFQ.out.r0
  have hdl:=HFQ.out.l2.blk
  refine region_inv (by kernel_rfl) (fun L a W=>∃ x75 x76 x77 x78 x79 x80 x81 x82 x83 x84:Value,a={ tmps:=#[ptr X.wb,ptr xb,.agg (acs q ql),.agg (dcs len),undef,undef,ptr w.heap.size,ptr (w.heap.size+1),ptr (w.heap.size+1+1),.int .i64 tn,.bool true,ptr N11,.bool true,.int .i64 rn,u14,u15,u16,u17,u18,u19,u20,u21,u22,u23,u24,u25,u26,u27,u28,.bool false,undef,undef,undef,undef,undef,undef,undef,u37,u38,u39,u40,u41,u42,u43,u44,u45,u46,u47,u48,u49,u50,u51,u52,u53,u54,u55,u56,u57,u58,u59,u60,u61,u62,u63,u64,u65,u66,u67,u68,u69,u70,u71,u72,u73,u74,x75,x76,x77,x78,x79,x80,x81,x82,x83,x84,undef,undef,undef,undef],defers:=[] }∧LeP X (c+2) M3 xb o nl (putF A3 o lenK nl) wc.drew L x75 x76 x77 x78 x79 x80 x81 x82 x83 x84 W) (by kernel_rfl) ?start ?step ?done
  case start=>exact ⟨_,_,_,_,_,_,_,_,_,_,rfl,⟨fun _=>Below.refl _ _,fun h=>by simp [Array.getD_eq_getD_getElem?] at h,fun h=>by simp [Array.getD_eq_getD_getElem?] at h,fun h=>by simp [Array.getD_eq_getD_getElem?] at h,fun h=>by simp [Array.getD_eq_getD_getElem?] at h,fun h=>by simp [Array.getD_eq_getD_getElem?] at h,fun h=>by simp [Array.getD_eq_getD_getElem?] at h,fun h=>by simp [Array.getD_eq_getD_getElem?] at h,fun h=>by simp [Array.getD_eq_getD_getElem?] at h,fun h=>by simp [Array.getD_eq_getD_getElem?] at h,fun h=>by simp [Array.getD_eq_getD_getElem?] at h,fun h=>by simp [Array.getD_eq_getD_getElem?] at h⟩⟩
  case step =>
   intro i L a W hi hdep hL hs hcl hI
   have hi2:i < 10:=by simpa using hi
   obtain ⟨x75,x76,x77,x78,x79,x80,x81,x82,x83,x84,rfl,H⟩:=hI
   have ol:∀ j,i ≠ j→(L.setIfInBounds i true).getD j false=true→L.getD j false=true:=fun j hj h=>by rwa [getD_set hj] at h
   rcases (by omega:i=0∨i=1∨i=2∨i=3∨i=4∨i=5∨i=6∨i=7∨i=8∨i=9) with rfl |rfl |rfl |rfl |rfl |rfl |rfl |rfl |rfl |rfl
   ·clear hi hi2
    have ol7:(L.setIfInBounds 0 true).getD 9 false=false→L.getD 9 false=false:=fun h=>by rwa [getD_set (by decide)] at h
    have on7:(L.setIfInBounds 0 true).getD 9 false=true→L.getD 9 false=true:=fun h=>by rwa [getD_set (by decide)] at h
    exact step_run (i:=0) (w':=W) (v:=ptr X.wb) rfl rfl (by simp [execOp,Act.eval,go_sem]) ⟨_,_,_,_,_,_,_,_,_,_,rfl,⟨(fun h=>H.m1 (ol7 h)),(fun h=>H.m2 (on7 h)),(fun _=>rfl),(H.h1∘ol 1 nofun),(H.h2∘ol 2 nofun),(H.h3∘ol 3 nofun),(H.h4∘ol 4 nofun),(H.h5∘ol 5 nofun),(H.h6∘ol 6 nofun),(H.h7∘ol 7 nofun),(H.h8∘ol 8 nofun),(H.h9∘ol 9 nofun)⟩⟩
   ·clear hi hi2
    have e75:=H.h0 (hdep 0 (memOf (by kernel_rfl)))
    subst e75
    have hP:L.getD 9 false=false:=by
     cases hh:L.getD 9 false
     ·rfl
     ·exact (not_yet hL (hcl 9 (by simp) hh 1 (memOf (by kernel_rfl)))).elim
    have hB:=H.m1 hP
    have ol7:(L.setIfInBounds 1 true).getD 9 false=false→L.getD 9 false=false:=fun h=>by rwa [getD_set (by decide)] at h
    have on7:(L.setIfInBounds 1 true).getD 9 false=true→L.getD 9 false=true:=fun h=>by rwa [getD_set (by decide)] at h
    refine step_call (i:=1) (f:=100) (args:=#[ptr X.wb]) rfl rfl (by simp [execOp,Act.eval,go_sem]) (stW (hwis.call hB)) ?_
    rintro e W2 ⟨rfl,hq⟩
    subst hq
    exact ⟨_,rfl,⟨_,_,_,_,_,_,_,_,_,_,rfl,⟨(fun h=>H.m1 (ol7 h)),(fun h=>H.m2 (on7 h)),(H.h0∘ol 0 nofun),(fun _=>rfl),(H.h2∘ol 2 nofun),(H.h3∘ol 3 nofun),(H.h4∘ol 4 nofun),(H.h5∘ol 5 nofun),(H.h6∘ol 6 nofun),(H.h7∘ol 7 nofun),(H.h8∘ol 8 nofun),(H.h9∘ol 9 nofun)⟩⟩⟩
   ·clear hi hi2
    have ol7:(L.setIfInBounds 2 true).getD 9 false=false→L.getD 9 false=false:=fun h=>by rwa [getD_set (by decide)] at h
    have on7:(L.setIfInBounds 2 true).getD 9 false=true→L.getD 9 false=true:=fun h=>by rwa [getD_set (by decide)] at h
    exact step_run (i:=2) (w':=W) (v:=ptr xb) rfl rfl (by simp [execOp,Act.eval,go_sem]) ⟨_,_,_,_,_,_,_,_,_,_,rfl,⟨(fun h=>H.m1 (ol7 h)),(fun h=>H.m2 (on7 h)),(H.h0∘ol 0 nofun),(H.h1∘ol 1 nofun),(fun _=>rfl),(H.h3∘ol 3 nofun),(H.h4∘ol 4 nofun),(H.h5∘ol 5 nofun),(H.h6∘ol 6 nofun),(H.h7∘ol 7 nofun),(H.h8∘ol 8 nofun),(H.h9∘ol 9 nofun)⟩⟩
   ·clear hi hi2
    have e77:=H.h2 (hdep 2 (memOf (by kernel_rfl)))
    subst e77
    have ol7:(L.setIfInBounds 3 true).getD 9 false=false→L.getD 9 false=false:=fun h=>by rwa [getD_set (by decide)] at h
    have on7:(L.setIfInBounds 3 true).getD 9 false=true→L.getD 9 false=true:=fun h=>by rwa [getD_set (by decide)] at h
    exact step_run (i:=3) (w':=W) (v:=ptr xb) rfl rfl (by simp [execOp,Act.eval,go_sem]) ⟨_,_,_,_,_,_,_,_,_,_,rfl,⟨(fun h=>H.m1 (ol7 h)),(fun h=>H.m2 (on7 h)),(H.h0∘ol 0 nofun),(H.h1∘ol 1 nofun),(H.h2∘ol 2 nofun),(fun _=>rfl),(H.h4∘ol 4 nofun),(H.h5∘ol 5 nofun),(H.h6∘ol 6 nofun),(H.h7∘ol 7 nofun),(H.h8∘ol 8 nofun),(H.h9∘ol 9 nofun)⟩⟩
   ·clear hi hi2
    have e78:=H.h3 (hdep 3 (memOf (by kernel_rfl)))
    subst e78
    have ol7:(L.setIfInBounds 4 true).getD 9 false=false→L.getD 9 false=false:=fun h=>by rwa [getD_set (by decide)] at h
    have on7:(L.setIfInBounds 4 true).getD 9 false=true→L.getD 9 false=true:=fun h=>by rwa [getD_set (by decide)] at h
    exact step_run (i:=4) (w':=W) (v:=.pointer (some ⟨xb,0,none⟩)) rfl rfl (by simp [execOp,Act.eval,go_sem]) ⟨_,_,_,_,_,_,_,_,_,_,rfl,⟨(fun h=>H.m1 (ol7 h)),(fun h=>H.m2 (on7 h)),(H.h0∘ol 0 nofun),(H.h1∘ol 1 nofun),(H.h2∘ol 2 nofun),(H.h3∘ol 3 nofun),(fun _=>rfl),(H.h5∘ol 5 nofun),(H.h6∘ol 6 nofun),(H.h7∘ol 7 nofun),(H.h8∘ol 8 nofun),(H.h9∘ol 9 nofun)⟩⟩
   ·clear hi hi2
    have e79:=H.h4 (hdep 4 (memOf (by kernel_rfl)))
    subst e79
    have ol7:(L.setIfInBounds 5 true).getD 9 false=false→L.getD 9 false=false:=fun h=>by rwa [getD_set (by decide)] at h
    have on7:(L.setIfInBounds 5 true).getD 9 false=true→L.getD 9 false=true:=fun h=>by rwa [getD_set (by decide)] at h
    exact step_run (i:=5) (w':=W) (v:=.pointer (some ⟨xb,0,none⟩)) rfl rfl (by simp [execOp,Act.eval,go_sem]) ⟨_,_,_,_,_,_,_,_,_,_,rfl,⟨(fun h=>H.m1 (ol7 h)),(fun h=>H.m2 (on7 h)),(H.h0∘ol 0 nofun),(H.h1∘ol 1 nofun),(H.h2∘ol 2 nofun),(H.h3∘ol 3 nofun),(H.h4∘ol 4 nofun),(fun _=>rfl),(H.h6∘ol 6 nofun),(H.h7∘ol 7 nofun),(H.h8∘ol 8 nofun),(H.h9∘ol 9 nofun)⟩⟩
   ·clear hi hi2
    have e80:=H.h5 (hdep 5 (memOf (by kernel_rfl)))
    subst e80
    have hP:L.getD 9 false=false:=by
     cases hh:L.getD 9 false
     ·rfl
     ·exact (not_yet hL (hcl 9 (by simp) hh 6 (memOf (by kernel_rfl)))).elim
    have hB:=H.m1 hP
    have cq:=x_num (hxb.call hB)
    have ol7:(L.setIfInBounds 6 true).getD 9 false=false→L.getD 9 false=false:=fun h=>by rwa [getD_set (by decide)] at h
    have on7:(L.setIfInBounds 6 true).getD 9 false=true→L.getD 9 false=true:=fun h=>by rwa [getD_set (by decide)] at h
    exact step_run (i:=6) (w':=W) (v:=.int .i64 o) rfl rfl (by simp [execOp,Act.eval,go_sem,cq]) ⟨_,_,_,_,_,_,_,_,_,_,rfl,⟨(fun h=>H.m1 (ol7 h)),(fun h=>H.m2 (on7 h)),(H.h0∘ol 0 nofun),(H.h1∘ol 1 nofun),(H.h2∘ol 2 nofun),(H.h3∘ol 3 nofun),(H.h4∘ol 4 nofun),(H.h5∘ol 5 nofun),(fun _=>rfl),(H.h7∘ol 7 nofun),(H.h8∘ol 8 nofun),(H.h9∘ol 9 nofun)⟩⟩
   ·clear hi hi2
    have hP:L.getD 9 false=false:=by
     cases hh:L.getD 9 false
     ·rfl
     ·exact (not_yet hL (hcl 9 (by simp) hh 7 (memOf (by kernel_rfl)))).elim
    have hB:=H.m1 hP
    have ol7:(L.setIfInBounds 7 true).getD 9 false=false→L.getD 9 false=false:=fun h=>by rwa [getD_set (by decide)] at h
    have on7:(L.setIfInBounds 7 true).getD 9 false=true→L.getD 9 false=true:=fun h=>by rwa [getD_set (by decide)] at h
    refine step_call (i:=7) (f:=158) (args:=#[]) rfl rfl (by simp [execOp,Act.eval,go_sem]) (lenK_any W) ?_
    rintro e W2 ⟨rfl,hb⟩
    exact ⟨_,rfl,⟨_,_,_,_,_,_,_,_,_,_,rfl,⟨(fun h=>(H.m1 (ol7 h)).trans (hb.mono (H.m1 (ol7 h)).size)),(fun h=>let ⟨M6,q1,q2⟩:=H.m2 (on7 h);⟨M6,q1.call hb,q2.call hb⟩),(H.h0∘ol 0 nofun),(H.h1∘ol 1 nofun),(H.h2∘ol 2 nofun),(H.h3∘ol 3 nofun),(H.h4∘ol 4 nofun),(H.h5∘ol 5 nofun),(H.h6∘ol 6 nofun),(fun _=>rfl),(H.h8∘ol 8 nofun),(H.h9∘ol 9 nofun)⟩⟩⟩
   ·clear hi hi2
    have hP:L.getD 9 false=false:=by
     cases hh:L.getD 9 false
     ·rfl
     ·exact (not_yet hL (hcl 9 (by simp) hh 8 (memOf (by kernel_rfl)))).elim
    have hB:=H.m1 hP
    have cq:=d_all (hdl.call hB)
    have ol7:(L.setIfInBounds 8 true).getD 9 false=false→L.getD 9 false=false:=fun h=>by rwa [getD_set (by decide)] at h
    have on7:(L.setIfInBounds 8 true).getD 9 false=true→L.getD 9 false=true:=fun h=>by rwa [getD_set (by decide)] at h
    exact step_run (i:=8) (w':=W) (v:=.agg (dcs nl)) rfl rfl (by simp [execOp,Act.eval,go_sem,cq]) ⟨_,_,_,_,_,_,_,_,_,_,rfl,⟨(fun h=>H.m1 (ol7 h)),(fun h=>H.m2 (on7 h)),(H.h0∘ol 0 nofun),(H.h1∘ol 1 nofun),(H.h2∘ol 2 nofun),(H.h3∘ol 3 nofun),(H.h4∘ol 4 nofun),(H.h5∘ol 5 nofun),(H.h6∘ol 6 nofun),(H.h7∘ol 7 nofun),(fun _=>rfl),(H.h9∘ol 9 nofun)⟩⟩
   ·clear hi hi2
    have e76:=H.h1 (hdep 1 (memOf (by kernel_rfl)))
    have e81:=H.h6 (hdep 6 (memOf (by kernel_rfl)))
    have e82:=H.h7 (hdep 7 (memOf (by kernel_rfl)))
    have e83:=H.h8 (hdep 8 (memOf (by kernel_rfl)))
    subst e76 e81 e82 e83
    have hP:=getD_no hL
    have hB:=H.m1 hP
    refine step_call (i:=9) (f:=36) (args:=#[ptr M3.hb,.int .i64 o,.agg (kcs lenK),.agg (dcs nl)]) rfl rfl (by simp [execOp,Act.eval,go_sem]) (HPUT.out (hwis.call hB)) ?_
    rintro e W2 ⟨⟨bb,rfl⟩,M6,hM6,h6,n6⟩
    exact ⟨_,rfl,⟨_,_,_,_,_,_,_,_,_,_,rfl,⟨(fun h=>by rw [getD_same (by rw [hs];simp)] at h;cases h),(fun _=>⟨M6,h6,Nx.from hB n6⟩),(H.h0∘ol 0 nofun),(H.h1∘ol 1 nofun),(H.h2∘ol 2 nofun),(H.h3∘ol 3 nofun),(H.h4∘ol 4 nofun),(H.h5∘ol 5 nofun),(H.h6∘ol 6 nofun),(H.h7∘ol 7 nofun),(H.h8∘ol 8 nofun),(fun _=>⟨_,rfl⟩)⟩⟩⟩
  case done =>
   rintro L a W hall ⟨x75,x76,x77,x78,x79,x80,x81,x82,x83,x84,rfl,H⟩
   obtain ⟨M6,h6,n6⟩:=H.m2 (hall 9 (by simp))
   have HQ:=Lib.hid (HFQ.out.leftW ⟨h6,n6⟩)
   clear H hwis hxb hdl h6 n6 hall
   go_wp2_with fail
   go_meet
   exact ⟨_,HQ.out⟩
 case rest =>
 obtain ⟨M6,F6⟩:=hcut
 have HF10:=Lib.hid F6
 clear F6 HFQ
 go_wp2_with (go_at_call 168;(with_reducible refine (answer_any (rn == tn) _).mono ?_);rintro e w11 ⟨rfl,hb⟩;have F11:=HF10.out.call hb;have s11:=run_stRp F11.l1.blk (r:=(ans (rn == tn)).mem nilS) ⟨_,_,_,rfl⟩;have HF11:=Lib.hid F11;clear hb F11)
 have F12:=HF11.out.put (l:=[⟨N11,dcs rd,34⟩]) (rcs ((ans (rn == tn)).mem nilS)) (show 57 ≠ 32 by decide)
 refine bodyPost_ret (res_R rfl _ _ (w.heap.size+2) _ rfl F12.l1.blk) rfl ?_
 exact (F12.less (c':=c+1) (by omega)).fin1 rfl
theorem defLen_any (h:WIs X (c+3) M w A) (o:Int) {t:Th} {T:TypeId} {xb:Nat} (hx:Blk w xb (xcs o t) T) (hxo:xb ∉ M.bl X.wb) {x:Ob} (hat:at? A o=some x) (q:Aq) (ql:Value) (hk:Fine q.k) (len:Ds) :
  Calls Tryz.prog 159 #[ptr X.wb,ptr xb,.agg (acs q ql),.agg (dcs len)] w (Post X c M w (defLenF o t q len A)):=by
 unfold defLenF
 by_cases hb:(Arrs.lenF q.d.v.k q.d.v.n).2=false
 ·rw [if_pos hb];exact defLen_bad h o hx hxo hat q ql hk len hb
 have hb':(Arrs.lenF q.d.v.k q.d.v.n).2=true:=by simpa using hb
 rw [if_neg hb]
 by_cases hge:(Arrs.lenF q.d.v.k q.d.v.n).1 ≥ len.v.n
 ·rw [if_pos hge];exact defLen_more h o hx hxo hat q ql hk len hb' hge
 rw [if_neg hge]
 by_cases hrb:(appF t.ext q.d true len).2=true
 ·by_cases hw:len.w=true
  ·rw [if_neg (by rw [hrb,hw];decide)]
   obtain ⟨R,hR⟩:∃ R,truncF o (Arrs.lenF q.d.v.k q.d.v.n).1 A=R:=⟨_,rfl⟩
   obtain ⟨rn,A3⟩:=R
   rw [hR]
   exact defLen_cut h o hx hxo hat q ql hk len hb' hge hrb hw rn A3 hR
  ·have hw':len.w=false:=by simpa using hw
   rw [if_pos (by rw [hrb,hw'];decide)]
   exact defLen_fix h o hx hxo hat q ql hk len hb' hge hrb hw'
 ·have hrb':(appF t.ext q.d true len).2=false:=by simpa using hrb
  rw [if_pos (by rw [hrb'];simp)]
  exact defLen_no h o hx hxo hat q ql hk len hb' hge hrb'
end
end Go.Proofs.YtkadkmnolkkhgaaGreatDoor.Mw
