/-
 Texts of this seat in build order: MwOrD, MwOrE, MwOrdi.
-/
import Derived.Test.YtkadkmnolkkhgaaGreatDoorMb32
import Derived.Test.YtkadkmnolkkhgaaGreatDoorMb33
import Derived.Test.YtkadkmnolkkhgaaGreatDoorMb34
import Derived.Test.YtkadkmnolkkhgaaGreatDoorMb10
import Derived.Deep.DeepCutAuto
/-
 ordinarily: an own property.
-/
set_option linter.unusedVariables false
set_option linter.unusedSimpArgs false
namespace Go.Proofs.YtkadkmnolkkhgaaGreatDoor.Mw
open Go Go.RowKit Go.Maps Go.Shelf Keys Hp Mo
open Des (Vl Ds zeroV zeroD dcs dcs_size dcs_one accF rigF appF eqV)
open Arrs (En ecs)
open Rg
attribute [local go_sem ↓] ldR stR alR bxR bdR ldV stV alV bxV bdV ldA stA bxA bdA ldKy bxKy bdKy ldD stD alD bxDe
attribute [local irreducible] rcs dcs ecs vcs acs kcs xcs tcs
attribute [local go_sem] run_bx run_alR run_stRg run_bdA0 run_bdAk run_bdAkr run_bdAkvr run_bdAr run_bdAkd run_bdRz run_bdRd run_bdRk run_bdRf run_bdRo run_bdRs run_bdRt' run_bdKs run_alD run_stDg
section
variable {X:Cx} {c:Nat} {M M' M'':Wm} {w w' w'':World} {A A' A'':Aw} {ls:List Lc} {kl:List (Value × List KV)} {ro:List Lc} {D:DoT}
theorem getOwn_eq (o:Int) (k:KV) (A:Aw):getOwnF o k A={ zeroRr with has:=(ownF A o k).isSome,d:=nowD A o k }:=by
 unfold getOwnF nowD
 cases ownF A o k <;> rfl
structure OgI (X:Cx) (M:Wm) (xb N0:Nat) (o:Int) (q:Aq) (nd:Ds) (nb:Bool) (w1:World) (L:Array Bool) (x9 x10 x42 x43 x44 x45 x46 x47 x48 x49 x50 x51 x52 x53:Value) (W:World):Prop where
 m1:Below w1.heap.size w1 W
 h0:L.getD 0 false=true→x43=ptr X.wb
 h1:L.getD 1 false=true→x44=ptr M.hb
 h2:L.getD 2 false=true→x45=ptr xb
 h3:L.getD 3 false=true→x46=ptr xb
 h4:L.getD 4 false=true→x47 = .pointer (some ⟨xb,0,none⟩)
 h5:L.getD 5 false=true→x48 = .int .i64 o
 h6:L.getD 6 false=true→x49 = .pointer (some ⟨N0,0,none⟩)
 h7:L.getD 7 false=true→x50 = .agg (kcs q.k)
 h8:L.getD 8 false=true→x51 = .tuple #[.agg (dcs nd),.bool nb]
 h9:L.getD 9 false=true→x42 = .tuple #[.agg (dcs nd),.bool nb]
 h10:L.getD 10 false=true→x52 = .agg (dcs nd)
 h11:L.getD 11 false=true→x53 = .bool nb
 h12:L.getD 12 false=true→∃ b,x9=ptr b∧w1.heap.size≤b∧∃ o,Blk W b (dcs o) 34
 h13:L.getD 13 false=true→∃ b,x9=ptr b∧w1.heap.size≤b∧Blk W b (dcs nd) 34
 h14:L.getD 14 false=true→x10 = .bool nb
def DsAt (X:Cx) (c:Nat) (M:Wm) (w:World) (M':Wm) (A':Aw) (d:Ds) (b:Bool) (ls:List Lc) (kl:List (Value × List KV)) (ro:List Lc) (s1 s2:Value) (wx:World):Prop:=∃ N,s1=ptr N∧s2 = .bool b∧Fm X c M w M' wx A' (⟨N,dcs d,34⟩ :: ls) kl ro
set_option maxRecDepth 100000 in
set_option maxHeartbeats 4000000 in
theorem ordi_getOwn (h:WIs X (c+2) M w A) (o:Int) {t:Th} {T:TypeId} {xb:Nat} (hx:Blk w xb (xcs o t) T) (hxo:xb ∉ M.bl X.wb) {x:Ob} (hat:at? A o=some x) (q:Aq) (ql:Value) (hk:Fine q.k) (m:Int) (hm:m=5) :
  Calls Tryz.prog 139 #[ptr X.wb,.int .i64 m,ptr xb,.agg (acs q ql)] w (Post X c M w (getOwnF o q.k A,A)):=by
 obtain ⟨w1,hw1⟩:∃ w1,(w.alloc (.cells (acs q ql) 52)).alloc (.cells (rcs zeroR) 57)=w1:=⟨_,rfl⟩
 have F0:Fm X (c+2) M w M w1 A [⟨w.heap.size+1,rcs zeroR,57⟩,⟨w.heap.size,acs q ql,52⟩] [] [⟨xb,xcs o t,T⟩]:=by
  rw [← hw1];exact (((Fm.start h).with hx hxo).new _ _).newg _ _ _ (by simp)
 have d1:(m == 1)=false:=by simp [hm]
 have d2:(m == 2)=false:=by simp [hm]
 have d3:(m == 3)=false:=by simp [hm]
 have d4:(m == 4)=false:=by simp [hm]
 have d5:(m == 5)=true:=by simp [hm]
 rw [getOwn_eq]
 obtain ⟨nd,hnd⟩:∃ nd,nowD A o q.k=nd:=⟨_,rfl⟩
 obtain ⟨nb,hnb⟩:∃ nb,(ownF A o q.k).isSome=nb:=⟨_,rfl⟩
 have HOWN:Hid (∀ {w':World},WIs X (c+2) M w' A→Calls Tryz.prog 26 #[ptr M.hb,.int .i64 o,.agg (kcs q.k)] w' fun e w2=>e = .returned (.tuple #[.agg (dcs nd),.bool nb])∧Below w'.heap.size w' w2):=Lib.hid fun h'=>by rw [← hnd,← hnb];exact wOwn h' o q.k hk
 rw [hnd,hnb]
 have HF0:=Lib.hid F0
 clear F0 h hx hxo hm hnd hnb hk
 go_enter Tryz.func139,Tryz.ntmps139
 go_upto_region 11 with fail
 go_cut [9,10] from 42 to 53 (fun s1 s2 wx=>DsAt X (c+2) M w M A nd nb [⟨w.heap.size+1,rcs zeroR,57⟩,⟨w.heap.size,acs q ql,52⟩] [] [⟨xb,xcs o t,T⟩] s1 s2 wx)
 case first =>
  have hwis:=HF0.out.drew.wis
  have hxb:=HF0.out.drew.r0
  have hask:=HF0.out.drew.l1.blk
  refine region_inv (by kernel_rfl) (fun L a W=>∃ x9 x10 x42 x43 x44 x45 x46 x47 x48 x49 x50 x51 x52 x53:Value,a={ tmps:=#[ptr X.wb,.int .i64 m,ptr xb,.agg (acs q ql),undef,undef,undef,ptr w.heap.size,ptr (w.heap.size+1),x9,x10,.int .i64 m,.bool false,.bool false,undef,undef,undef,undef,undef,undef,.bool false,.bool false,undef,undef,undef,undef,undef,.bool false,.bool false,undef,undef,undef,undef,undef,undef,.bool false,.bool false,undef,undef,undef,.bool true,.bool true,x42,x43,x44,x45,x46,x47,x48,x49,x50,x51,x52,x53,undef,undef,undef,undef,undef,undef,undef,undef,undef,undef,undef,undef,undef,undef,undef,undef,undef,undef,undef,undef,undef,undef,undef,undef,undef,undef,undef,undef,undef,undef,undef,undef,undef,undef,undef,undef,undef,undef,undef,undef,undef],defers:=[] }∧OgI X M xb w.heap.size o q nd nb w1.drew L x9 x10 x42 x43 x44 x45 x46 x47 x48 x49 x50 x51 x52 x53 W) (by kernel_rfl) ?start ?step ?done
  case start=>exact ⟨_,_,_,_,_,_,_,_,_,_,_,_,_,_,rfl,⟨Below.refl _ _,fun h=>by simp [Array.getD_eq_getD_getElem?] at h,fun h=>by simp [Array.getD_eq_getD_getElem?] at h,fun h=>by simp [Array.getD_eq_getD_getElem?] at h,fun h=>by simp [Array.getD_eq_getD_getElem?] at h,fun h=>by simp [Array.getD_eq_getD_getElem?] at h,fun h=>by simp [Array.getD_eq_getD_getElem?] at h,fun h=>by simp [Array.getD_eq_getD_getElem?] at h,fun h=>by simp [Array.getD_eq_getD_getElem?] at h,fun h=>by simp [Array.getD_eq_getD_getElem?] at h,fun h=>by simp [Array.getD_eq_getD_getElem?] at h,fun h=>by simp [Array.getD_eq_getD_getElem?] at h,fun h=>by simp [Array.getD_eq_getD_getElem?] at h,fun h=>by simp [Array.getD_eq_getD_getElem?] at h,fun h=>by simp [Array.getD_eq_getD_getElem?] at h,fun h=>by simp [Array.getD_eq_getD_getElem?] at h⟩⟩
  case step =>
   intro i L a W hi hdep hL hs hcl hI
   have hi2:i < 15:=by simpa using hi
   obtain ⟨x9,x10,x42,x43,x44,x45,x46,x47,x48,x49,x50,x51,x52,x53,rfl,H⟩:=hI
   have ol:∀ j,i ≠ j→(L.setIfInBounds i true).getD j false=true→L.getD j false=true:=fun j hj h=>by rwa [getD_set hj] at h
   rcases (by omega:i=0∨i=1∨i=2∨i=3∨i=4∨i=5∨i=6∨i=7∨i=8∨i=9∨i=10∨i=11∨i=12∨i=13∨i=14) with rfl |rfl |rfl |rfl |rfl |rfl |rfl |rfl |rfl |rfl |rfl |rfl |rfl |rfl |rfl
   ·clear hi hi2
    exact step_run (i:=0) (w':=W) (v:=ptr X.wb) rfl rfl (by simp [execOp,Act.eval,go_sem]) ⟨_,_,_,_,_,_,_,_,_,_,_,_,_,_,rfl,⟨(H.m1),(fun _=>rfl),(H.h1∘ol 1 nofun),(H.h2∘ol 2 nofun),(H.h3∘ol 3 nofun),(H.h4∘ol 4 nofun),(H.h5∘ol 5 nofun),(H.h6∘ol 6 nofun),(H.h7∘ol 7 nofun),(H.h8∘ol 8 nofun),(H.h9∘ol 9 nofun),(H.h10∘ol 10 nofun),(H.h11∘ol 11 nofun),(H.h12∘ol 12 nofun),(H.h13∘ol 13 nofun),(H.h14∘ol 14 nofun)⟩⟩
   ·clear hi hi2
    have e43:=H.h0 (hdep 0 (memOf (by kernel_rfl)))
    subst e43
    refine step_call (i:=1) (f:=100) (args:=#[ptr X.wb]) rfl rfl (by simp [execOp,Act.eval,go_sem]) (stW (hwis.call H.m1)) ?_
    rintro e W2 ⟨rfl,hq⟩
    subst hq
    exact ⟨_,rfl,⟨_,_,_,_,_,_,_,_,_,_,_,_,_,_,rfl,⟨(H.m1),(H.h0∘ol 0 nofun),(fun _=>rfl),(H.h2∘ol 2 nofun),(H.h3∘ol 3 nofun),(H.h4∘ol 4 nofun),(H.h5∘ol 5 nofun),(H.h6∘ol 6 nofun),(H.h7∘ol 7 nofun),(H.h8∘ol 8 nofun),(H.h9∘ol 9 nofun),(H.h10∘ol 10 nofun),(H.h11∘ol 11 nofun),(H.h12∘ol 12 nofun),(H.h13∘ol 13 nofun),(H.h14∘ol 14 nofun)⟩⟩⟩
   ·clear hi hi2
    exact step_run (i:=2) (w':=W) (v:=ptr xb) rfl rfl (by simp [execOp,Act.eval,go_sem]) ⟨_,_,_,_,_,_,_,_,_,_,_,_,_,_,rfl,⟨(H.m1),(H.h0∘ol 0 nofun),(H.h1∘ol 1 nofun),(fun _=>rfl),(H.h3∘ol 3 nofun),(H.h4∘ol 4 nofun),(H.h5∘ol 5 nofun),(H.h6∘ol 6 nofun),(H.h7∘ol 7 nofun),(H.h8∘ol 8 nofun),(H.h9∘ol 9 nofun),(H.h10∘ol 10 nofun),(H.h11∘ol 11 nofun),(H.h12∘ol 12 nofun),(H.h13∘ol 13 nofun),(H.h14∘ol 14 nofun)⟩⟩
   ·clear hi hi2
    have e45:=H.h2 (hdep 2 (memOf (by kernel_rfl)))
    subst e45
    exact step_run (i:=3) (w':=W) (v:=ptr xb) rfl rfl (by simp [execOp,Act.eval,go_sem]) ⟨_,_,_,_,_,_,_,_,_,_,_,_,_,_,rfl,⟨(H.m1),(H.h0∘ol 0 nofun),(H.h1∘ol 1 nofun),(H.h2∘ol 2 nofun),(fun _=>rfl),(H.h4∘ol 4 nofun),(H.h5∘ol 5 nofun),(H.h6∘ol 6 nofun),(H.h7∘ol 7 nofun),(H.h8∘ol 8 nofun),(H.h9∘ol 9 nofun),(H.h10∘ol 10 nofun),(H.h11∘ol 11 nofun),(H.h12∘ol 12 nofun),(H.h13∘ol 13 nofun),(H.h14∘ol 14 nofun)⟩⟩
   ·clear hi hi2
    have e46:=H.h3 (hdep 3 (memOf (by kernel_rfl)))
    subst e46
    exact step_run (i:=4) (w':=W) (v:=.pointer (some ⟨xb,0,none⟩)) rfl rfl (by simp [execOp,Act.eval,go_sem]) ⟨_,_,_,_,_,_,_,_,_,_,_,_,_,_,rfl,⟨(H.m1),(H.h0∘ol 0 nofun),(H.h1∘ol 1 nofun),(H.h2∘ol 2 nofun),(H.h3∘ol 3 nofun),(fun _=>rfl),(H.h5∘ol 5 nofun),(H.h6∘ol 6 nofun),(H.h7∘ol 7 nofun),(H.h8∘ol 8 nofun),(H.h9∘ol 9 nofun),(H.h10∘ol 10 nofun),(H.h11∘ol 11 nofun),(H.h12∘ol 12 nofun),(H.h13∘ol 13 nofun),(H.h14∘ol 14 nofun)⟩⟩
   ·clear hi hi2
    have e47:=H.h4 (hdep 4 (memOf (by kernel_rfl)))
    subst e47
    have cq:=x_num (hxb.call H.m1)
    exact step_run (i:=5) (w':=W) (v:=.int .i64 o) rfl rfl (by simp [execOp,Act.eval,go_sem,cq]) ⟨_,_,_,_,_,_,_,_,_,_,_,_,_,_,rfl,⟨(H.m1),(H.h0∘ol 0 nofun),(H.h1∘ol 1 nofun),(H.h2∘ol 2 nofun),(H.h3∘ol 3 nofun),(H.h4∘ol 4 nofun),(fun _=>rfl),(H.h6∘ol 6 nofun),(H.h7∘ol 7 nofun),(H.h8∘ol 8 nofun),(H.h9∘ol 9 nofun),(H.h10∘ol 10 nofun),(H.h11∘ol 11 nofun),(H.h12∘ol 12 nofun),(H.h13∘ol 13 nofun),(H.h14∘ol 14 nofun)⟩⟩
   ·clear hi hi2
    exact step_run (i:=6) (w':=W) (v:=.pointer (some ⟨w.heap.size,0,none⟩)) rfl rfl (by simp [execOp,Act.eval,go_sem]) ⟨_,_,_,_,_,_,_,_,_,_,_,_,_,_,rfl,⟨(H.m1),(H.h0∘ol 0 nofun),(H.h1∘ol 1 nofun),(H.h2∘ol 2 nofun),(H.h3∘ol 3 nofun),(H.h4∘ol 4 nofun),(H.h5∘ol 5 nofun),(fun _=>rfl),(H.h7∘ol 7 nofun),(H.h8∘ol 8 nofun),(H.h9∘ol 9 nofun),(H.h10∘ol 10 nofun),(H.h11∘ol 11 nofun),(H.h12∘ol 12 nofun),(H.h13∘ol 13 nofun),(H.h14∘ol 14 nofun)⟩⟩
   ·clear hi hi2
    have e49:=H.h6 (hdep 6 (memOf (by kernel_rfl)))
    subst e49
    have cq:=ask_k (hask.call H.m1)
    exact step_run (i:=7) (w':=W) (v:=.agg (kcs q.k)) rfl rfl (by simp [execOp,Act.eval,go_sem,cq]) ⟨_,_,_,_,_,_,_,_,_,_,_,_,_,_,rfl,⟨(H.m1),(H.h0∘ol 0 nofun),(H.h1∘ol 1 nofun),(H.h2∘ol 2 nofun),(H.h3∘ol 3 nofun),(H.h4∘ol 4 nofun),(H.h5∘ol 5 nofun),(H.h6∘ol 6 nofun),(fun _=>rfl),(H.h8∘ol 8 nofun),(H.h9∘ol 9 nofun),(H.h10∘ol 10 nofun),(H.h11∘ol 11 nofun),(H.h12∘ol 12 nofun),(H.h13∘ol 13 nofun),(H.h14∘ol 14 nofun)⟩⟩
   ·clear hi hi2
    have e44:=H.h1 (hdep 1 (memOf (by kernel_rfl)))
    have e48:=H.h5 (hdep 5 (memOf (by kernel_rfl)))
    have e50:=H.h7 (hdep 7 (memOf (by kernel_rfl)))
    subst e44
    subst e48
    subst e50
    refine step_call (i:=8) (f:=26) (args:=#[ptr M.hb,.int .i64 o,.agg (kcs q.k)]) rfl rfl (by simp [execOp,Act.eval,go_sem]) (HOWN.out (hwis.call H.m1)) ?_
    rintro e W2 ⟨rfl,hb⟩
    exact ⟨_,rfl,⟨_,_,_,_,_,_,_,_,_,_,_,_,_,_,rfl,⟨(H.m1.trans (hb.mono H.m1.size)),(H.h0∘ol 0 nofun),(H.h1∘ol 1 nofun),(H.h2∘ol 2 nofun),(H.h3∘ol 3 nofun),(H.h4∘ol 4 nofun),(H.h5∘ol 5 nofun),(H.h6∘ol 6 nofun),(H.h7∘ol 7 nofun),(fun _=>rfl),(H.h9∘ol 9 nofun),(H.h10∘ol 10 nofun),(H.h11∘ol 11 nofun),(fun h=>let ⟨g,q1,q2,o,q3⟩:=H.h12 (ol 12 (by decide) h);⟨g,q1,q2,o,q3.call hb⟩),(fun h=>let ⟨g,q1,q2,q3⟩:=H.h13 (ol 13 (by decide) h);⟨g,q1,q2,q3.call hb⟩),(H.h14∘ol 14 nofun)⟩⟩⟩
   ·clear hi hi2
    have e51:=H.h8 (hdep 8 (memOf (by kernel_rfl)))
    subst e51
    exact step_run (i:=9) (w':=W) (v:=.tuple #[.agg (dcs nd),.bool nb]) rfl rfl (by simp [execOp,Act.eval,go_sem]) ⟨_,_,_,_,_,_,_,_,_,_,_,_,_,_,rfl,⟨(H.m1),(H.h0∘ol 0 nofun),(H.h1∘ol 1 nofun),(H.h2∘ol 2 nofun),(H.h3∘ol 3 nofun),(H.h4∘ol 4 nofun),(H.h5∘ol 5 nofun),(H.h6∘ol 6 nofun),(H.h7∘ol 7 nofun),(H.h8∘ol 8 nofun),(fun _=>rfl),(H.h10∘ol 10 nofun),(H.h11∘ol 11 nofun),(H.h12∘ol 12 nofun),(H.h13∘ol 13 nofun),(H.h14∘ol 14 nofun)⟩⟩
   ·clear hi hi2
    have e42:=H.h9 (hdep 9 (memOf (by kernel_rfl)))
    subst e42
    exact step_run (i:=10) (w':=W) (v:=.agg (dcs nd)) rfl rfl (by simp [execOp,Act.eval,go_sem]) ⟨_,_,_,_,_,_,_,_,_,_,_,_,_,_,rfl,⟨(H.m1),(H.h0∘ol 0 nofun),(H.h1∘ol 1 nofun),(H.h2∘ol 2 nofun),(H.h3∘ol 3 nofun),(H.h4∘ol 4 nofun),(H.h5∘ol 5 nofun),(H.h6∘ol 6 nofun),(H.h7∘ol 7 nofun),(H.h8∘ol 8 nofun),(H.h9∘ol 9 nofun),(fun _=>rfl),(H.h11∘ol 11 nofun),(H.h12∘ol 12 nofun),(H.h13∘ol 13 nofun),(H.h14∘ol 14 nofun)⟩⟩
   ·clear hi hi2
    have e42:=H.h9 (hdep 9 (memOf (by kernel_rfl)))
    subst e42
    exact step_run (i:=11) (w':=W) (v:=.bool nb) rfl rfl (by simp [execOp,Act.eval,go_sem]) ⟨_,_,_,_,_,_,_,_,_,_,_,_,_,_,rfl,⟨(H.m1),(H.h0∘ol 0 nofun),(H.h1∘ol 1 nofun),(H.h2∘ol 2 nofun),(H.h3∘ol 3 nofun),(H.h4∘ol 4 nofun),(H.h5∘ol 5 nofun),(H.h6∘ol 6 nofun),(H.h7∘ol 7 nofun),(H.h8∘ol 8 nofun),(H.h9∘ol 9 nofun),(H.h10∘ol 10 nofun),(fun _=>rfl),(H.h12∘ol 12 nofun),(H.h13∘ol 13 nofun),(H.h14∘ol 14 nofun)⟩⟩
   ·clear hi hi2
    have hb:Below W.heap.size W (W.alloc (.cells (dcs zeroD) 34)):=(Below.refl _ W).alloc (Nat.le_refl _) _
    exact step_run (i:=12) (w':=(W.alloc (.cells (dcs zeroD) 34))) (v:=ptr W.heap.size) rfl rfl (by simp [execOp,Act.eval,go_sem]) ⟨_,_,_,_,_,_,_,_,_,_,_,_,_,_,rfl,⟨(H.m1.trans (hb.mono H.m1.size)),(H.h0∘ol 0 nofun),(H.h1∘ol 1 nofun),(H.h2∘ol 2 nofun),(H.h3∘ol 3 nofun),(H.h4∘ol 4 nofun),(H.h5∘ol 5 nofun),(H.h6∘ol 6 nofun),(H.h7∘ol 7 nofun),(H.h8∘ol 8 nofun),(H.h9∘ol 9 nofun),(H.h10∘ol 10 nofun),(H.h11∘ol 11 nofun),(fun _=>⟨_,rfl,H.m1.size,_,Blk.new W _ _⟩),(fun h=>(not_yet hL (hcl 13 (by simp) (ol 13 (by decide) h) 12 (memOf (by kernel_rfl)))).elim),(H.h14∘ol 14 nofun)⟩⟩
   ·clear hi hi2
    have e52:=H.h10 (hdep 10 (memOf (by kernel_rfl)))
    have e9:=H.h12 (hdep 12 (memOf (by kernel_rfl)))
    subst e52
    obtain ⟨b,rfl,hb1,o,hb2⟩:=e9
    have sv:=run_stDp (r:=nd) hb2
    exact step_sk (i:=13) (w':=(W.setRow b (dcs nd))) rfl rfl (by simp [execOp,Act.eval,go_sem,sv]) ⟨_,_,_,_,_,_,_,_,_,_,_,_,_,_,rfl,⟨(below_rowW H.m1 _ hb1),(H.h0∘ol 0 nofun),(H.h1∘ol 1 nofun),(H.h2∘ol 2 nofun),(H.h3∘ol 3 nofun),(H.h4∘ol 4 nofun),(H.h5∘ol 5 nofun),(H.h6∘ol 6 nofun),(H.h7∘ol 7 nofun),(H.h8∘ol 8 nofun),(H.h9∘ol 9 nofun),(H.h10∘ol 10 nofun),(H.h11∘ol 11 nofun),(fun _=>⟨b,rfl,hb1,_,hb2.row _⟩),(fun _=>⟨b,rfl,hb1,hb2.row _⟩),(H.h14∘ol 14 nofun)⟩⟩
   ·clear hi hi2
    have e53:=H.h11 (hdep 11 (memOf (by kernel_rfl)))
    subst e53
    exact step_run (i:=14) (w':=W) (v:=.bool nb) rfl rfl (by simp [execOp,Act.eval,go_sem]) ⟨_,_,_,_,_,_,_,_,_,_,_,_,_,_,rfl,⟨(H.m1),(H.h0∘ol 0 nofun),(H.h1∘ol 1 nofun),(H.h2∘ol 2 nofun),(H.h3∘ol 3 nofun),(H.h4∘ol 4 nofun),(H.h5∘ol 5 nofun),(H.h6∘ol 6 nofun),(H.h7∘ol 7 nofun),(H.h8∘ol 8 nofun),(H.h9∘ol 9 nofun),(H.h10∘ol 10 nofun),(H.h11∘ol 11 nofun),(H.h12∘ol 12 nofun),(H.h13∘ol 13 nofun),(fun _=>rfl)⟩⟩
  case done =>
   rintro L a W hall ⟨x9,x10,x42,x43,x44,x45,x46,x47,x48,x49,x50,x51,x52,x53,rfl,H⟩
   obtain ⟨b7,e7,hb7,B7⟩:=H.h13 (hall 13 (by simp))
   have e8:=H.h14 (hall 14 (by simp))
   subst e7 e8
   have HQ:=Lib.hid (show DsAt X (c+2) M w M A nd nb [⟨w.heap.size+1,rcs zeroR,57⟩,⟨w.heap.size,acs q ql,52⟩] [] [⟨xb,xcs o t,T⟩] (ptr b7) (.bool nb) W from ⟨_,rfl,rfl,HF0.out.drew.growW H.m1 B7 hb7⟩)
   clear H hwis hxb hask B7 hb7 hall
   go_wp2_with fail
   go_meet
   exact HQ.out
 case rest =>
 obtain ⟨N7,rfl,rfl,F3⟩:=hcut
 have ld:=d_all F3.l0.blk
 have s3:=run_stRp F3.l1.blk (r:=({ zeroRr with has:=nb,d:=nd }:Rr).mem nilS) ⟨_,_,_,rfl⟩
 have F4:=F3.put (l:=[⟨N7,dcs nd,34⟩]) (rcs (({ zeroRr with has:=nb,d:=nd }:Rr).mem nilS)) (show 57 ≠ 32 by decide)
 have HF4:=Lib.hid F4
 clear F3 F4 HF0
 go_wp2
 refine bodyPost_ret (res_R rfl _ _ (w.heap.size+1) _ rfl HF4.out.l1.blk) rfl ?_
 exact (HF4.out.less (c':=c+1) (by omega)).fin1 rfl
end
end Go.Proofs.YtkadkmnolkkhgaaGreatDoor.Mw

/-
 ordinarily: keys.
-/
namespace Go.Proofs.YtkadkmnolkkhgaaGreatDoor.Mw
open Go Go.RowKit Go.Maps Go.Shelf Keys Hp Mo
open Des (Vl Ds zeroV zeroD dcs dcs_size dcs_one accF rigF appF eqV)
open Arrs (En ecs)
open Rg
attribute [local go_sem ↓] ldR stR alR bxR bdR ldV stV alV bxV bdV ldA stA bxA bdA ldKy bxKy bdKy ldD stD alD bxDe
attribute [local irreducible] rcs dcs ecs vcs acs kcs xcs tcs
attribute [local go_sem] run_bx run_alR run_stRg run_bdA0 run_bdAk run_bdAkr run_bdAkvr run_bdAr run_bdAkd run_bdRz run_bdRd run_bdRk run_bdRf run_bdRo run_bdRs run_bdRt' run_bdKs run_alD run_stDg
section
variable {X:Cx} {c:Nat} {M M' M'':Wm} {w w' w'':World} {A A' A'':Aw} {ls:List Lc} {kl:List (Value × List KV)} {ro:List Lc} {D:DoT}
set_option maxRecDepth 100000 in
set_option maxHeartbeats 4000000 in
theorem ordi_keys (h:WIs X (c+2) M w A) (o:Int) {t:Th} {T:TypeId} {xb:Nat} (hx:Blk w xb (xcs o t) T) (hxo:xb ∉ M.bl X.wb) {x:Ob} (hat:at? A o=some x) (q:Aq) (ql:Value) (hk:Fine q.k) (m:Int) (hm:m ≠ 1∧m ≠ 2∧m ≠ 3∧m ≠ 4∧m ≠ 5∧m ≠ 6∧m ≠ 7∧m ≠ 8∧m ≠ 9∧m ≠ 10) :
  Calls Tryz.prog 139 #[ptr X.wb,.int .i64 m,ptr xb,.agg (acs q ql)] w (Post X c M w ({ zeroRr with ks:=keysF A o },A)):=by
 obtain ⟨w1,hw1⟩:∃ w1,(w.alloc (.cells (acs q ql) 52)).alloc (.cells (rcs zeroR) 57)=w1:=⟨_,rfl⟩
 have F0:Fm X (c+2) M w M w1 A [⟨w.heap.size+1,rcs zeroR,57⟩,⟨w.heap.size,acs q ql,52⟩] [] [⟨xb,xcs o t,T⟩]:=by
  rw [← hw1];exact (((Fm.start h).with hx hxo).new _ _).newg _ _ _ (by simp)
 have d1:(m == 1)=false:=by simp;omega
 have d2:(m == 2)=false:=by simp;omega
 have d3:(m == 3)=false:=by simp;omega
 have d4:(m == 4)=false:=by simp;omega
 have d5:(m == 5)=false:=by simp;omega
 have d6:(m == 6)=false:=by simp;omega
 have d7:(m == 7)=false:=by simp;omega
 have d8:(m == 8)=false:=by simp;omega
 have d9:(m == 9)=false:=by simp;omega
 have d10:(m == 10)=false:=by simp;omega
 have FD:=F0.drew
 have hst:=stW FD.wis
 have hks:=wKeys FD.wis o
 have xn:=x_num FD.r0
 have HFD:=Lib.hid FD
 have HW0:=Lib.hid (show w.heap.size+1 < w1.heap.size by rw [← hw1];simp)
 clear F0 FD h hx hxo hm
 go_enter Tryz.func139,Tryz.ntmps139
 go_upto_region 23 with fail
 go_region_with (first |(go_at_call 100;(with_reducible refine hst.mono ?_);rintro e w5 ⟨rfl,rfl⟩) |(go_at_call 175;(with_reducible refine hks.mono ?_);rintro e w6 ⟨kv,rfl,hk2,hb⟩;obtain ⟨ka,kc,rfl,-,hk3⟩:=id hk2;have F6:=HFD.out.call hb;have s6:=run_stRp F6.l0.blk (r:=({ zeroRr with ks:=keysF A o }:Rr).mem (.slice ka (keysF A o).length kc)) ⟨_,_,_,rfl⟩;have bd6:∀ w,(Bd 57 #[(5,.slice ka (keysF A o).length kc)]).run Tryz.prog w = .ok (.agg (rcs (({ zeroRr with ks:=keysF A o }:Rr).mem (.slice ka (keysF A o).length kc)))) w:=fun w=>run_bdRs w ka _ kc;have HK2:=Lib.hid hk2;have HF6:=Lib.hid F6;clear hb F6 hk2 hk3))
 all_goals
  have F7:=HF6.out.next (k2:=[(.slice ka (keysF A o).length kc,keysF A o)]) HF6.out.wis (Nx.refl _ _) (fun k hk=>by rw [List.mem_singleton.1 hk];exact HK2.out)
  have F8:=F7.put (l:=[]) (rcs (({ zeroRr with ks:=keysF A o }:Rr).mem (.slice ka (keysF A o).length kc))) (show 57 ≠ 32 by decide)
  go_wp2
  refine bodyPost_ret (res_R rfl _ _ (w.heap.size+1) _ rfl F8.l0.blk) rfl ?_
  exact (F8.less (c':=c+1) (by omega)).fin (R:=({ zeroRr with ks:=keysF A o },A)) F8.k0
end
end Go.Proofs.YtkadkmnolkkhgaaGreatDoor.Mw

/-
 ordinarily.
-/
namespace Go.Proofs.YtkadkmnolkkhgaaGreatDoor.Mw
open Go Go.RowKit Go.Maps Go.Shelf Keys Hp Mo
open Des (Vl Ds zeroV zeroD dcs dcs_size dcs_one accF rigF appF eqV)
open Arrs (En ecs)
attribute [local go_sem ↓] ldR stR alR bxR bdR ldV stV alV bxV bdV ldA stA bxA bdA ldKy bxKy bdKy ldD stD alD bxDe
attribute [local irreducible] rcs dcs ecs vcs acs kcs xcs tcs
attribute [local go_sem] run_bx run_alR run_stRg run_bdA0 run_bdAk run_bdAkr run_bdAkvr run_bdAr run_bdAkd run_bdRz run_bdRd run_bdRk run_bdRf run_bdRo run_bdRs run_bdRt' run_bdKs run_alD run_stDg
section
variable {X:Cx} {c:Nat} {M M' M'':Wm} {w w' w'':World} {A A' A'':Aw} {ls:List Lc} {kl:List (Value × List KV)} {ro:List Lc} {D:DoT}
theorem ordi_any (HD:DoIs X D) (h:WIs X (c+2) M w A) (o:Int) {t:Th} {T:TypeId} {xb:Nat} (hx:Blk w xb (xcs o t) T) (hxo:xb ∉ M.bl X.wb) {x:Ob} (hat:at? A o=some x) (q:Aq) (ql:Value) (hk:Fine q.k) (m:Int) :
  Calls Tryz.prog 139 #[ptr X.wb,.int .i64 m,ptr xb,.agg (acs q ql)] w (Post X c M w (ordiF D m o t q A)):=by
 unfold ordiF
 by_cases h1:m=1
 ·rw [if_pos h1];exact ordi_proto h o hx hxo hat q ql hk m h1
 rw [if_neg h1]
 by_cases h2:m=2
 ·rw [if_pos h2];exact ordi_setProto h o hx hxo hat q ql hk m h2
 rw [if_neg h2]
 by_cases h3:m=3
 ·rw [if_pos h3];exact ordi_ext h o hx hxo hat q ql hk m h3
 rw [if_neg h3]
 by_cases h4:m=4
 ·rw [if_pos h4];exact ordi_prevent h o hx hxo hat q ql hk m h4
 rw [if_neg h4]
 by_cases h5:m=5
 ·rw [if_pos h5];exact ordi_getOwn h o hx hxo hat q ql hk m h5
 rw [if_neg h5]
 by_cases h6:m=6
 ·rw [if_pos h6];exact ordi_define h o hx hxo hat q ql hk m h6
 rw [if_neg h6]
 by_cases h7:m=7
 ·rw [if_pos h7];exact ordi_has HD h o hx hxo hat q ql hk m h7
 rw [if_neg h7]
 by_cases h8:m=8
 ·rw [if_pos h8];exact ordi_get HD h o hx hxo hat q ql hk m h8
 rw [if_neg h8]
 by_cases h9:m=9
 ·rw [if_pos h9];exact ordi_set HD h o hx hxo hat q ql hk m h9
 rw [if_neg h9]
 by_cases h10:m=10
 ·rw [if_pos h10];exact ordi_remove HD h o hx hxo hat q ql hk m h10
 rw [if_neg h10]
 exact ordi_keys h o hx hxo hat q ql hk m ⟨h1,h2,h3,h4,h5,h6,h7,h8,h9,h10⟩
end
end Go.Proofs.YtkadkmnolkkhgaaGreatDoor.Mw
