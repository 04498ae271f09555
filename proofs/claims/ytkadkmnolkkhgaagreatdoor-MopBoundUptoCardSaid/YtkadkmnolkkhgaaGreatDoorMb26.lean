/-
 Texts of this seat in build order: MwApp, MwLenA.
-/
import Derived.Test.YtkadkmnolkkhgaaGreatDoorMb25
import Derived.Test.YtkadkmnolkkhgaaGreatDoorMb17
import Derived.Test.YtkadkmnolkkhgaaGreatDoorMb06
import Derived.Test.YtkadkmnolkkhgaaGreatDoorMb10
import Derived.Deep.DeepCutAuto
import Derived.Test.YtkadkmnolkkhgaaGreatDoorMb24
import Derived.Test.YtkadkmnolkkhgaaGreatDoorMb21
/-
 apply.
-/
set_option linter.unusedVariables false
set_option linter.unusedSimpArgs false
namespace Go.Proofs.YtkadkmnolkkhgaaGreatDoor.Mw
open Go Go.RowKit Go.Maps Go.Shelf Keys Hp Mo
open Des (Vl Ds zeroV zeroD dcs dcs_size dcs_one accF rigF appF eqV)
open Arrs (En ecs)
open Rg
attribute [local go_sem ↓] ldR stR alR bxR bdR ldV stV alV bxV bdV ldA stA bxA bdA ldKy bxKy bdKy ldD stD alD bxDe
attribute [local irreducible] rcs dcs ecs vcs acs kcs xcs tcs
attribute [local go_sem] run_bx run_alR run_stRg run_bdA0 run_bdAk run_bdAkr run_bdAkvr run_bdAr run_bdAkd run_bdRz run_bdRd run_bdRk run_bdRf run_bdRo run_bdRs run_bdRt' run_bdKs run_alD run_stDg
section
variable {X:Cx} {c:Nat} {M M' M'':Wm} {w w' w'':World} {A A' A'':Aw} {ls:List Lc} {kl:List (Value × List KV)} {ro:List Lc} {D:DoT}
theorem store_at (h:WIs X c M w A):Calls Tryz.prog 100 #[ptr X.wb] w fun e w'=>e = .returned (ptr M.hb)∧w'=w:=store_world X.wb M.hb X.cl A.fuel A.deep A.depth A.deepest M.ls w h.wblk
theorem Fm.leftB (F:Fm X c M w M' w' A' ls kl ro) {c2:Nat} {A2:Aw} (h:Left X c2 M' w' A2 w'' M''):Fm X c2 M w M'' w'' A2 ls kl ro:=F.next (k2:=[]) h.1 h.2 (fun k hk=>by cases hk)
theorem Fm.grow (F:Fm X c M w M' w' A' ls kl ro) (hb:Below w'.heap.size w' w'') {b:Nat} {cs:Array Value} {t:TypeId} (B:Blk w'' b cs t) (hlt:w'.heap.size≤b):Fm X c M w M' w'' A' (⟨b,cs,t⟩ :: ls) kl ro:=by
 have F':=F.call hb
 refine ⟨F'.wis,F'.nx,fun x hx=>?_,F'.ks,F.h0,F'.rd,?_⟩
 ·rcases List.mem_cons.1 hx with rfl |hx
  ·exact ⟨B,F.wis.new hlt,Nat.le_trans F.nx.size hlt⟩
  ·exact F'.lo x hx
 ·rw [List.map_cons,List.nodup_cons]
  refine ⟨fun hm=>?_,F.nd⟩
  obtain ⟨y,hy,e⟩:=List.mem_map.1 hm
  have:=(F.lo y hy).blk.lt
  simp only at e
  omega
def DesAt (X:Cx) (c:Nat) (M:Wm) (w:World) (M':Wm) (A':Aw) (d:Ds) (b:Bool) (ls:List Lc) (kl:List (Value × List KV)) (ro:List Lc) (s1 s2:Value) (wx:World):Prop:=∃ N,s1=ptr N∧s2 = .bool b∧Fm X c M w M' wx A' (⟨N,dcs d,34⟩ :: ls) kl ro
structure OwnI (X:Cx) (M:Wm) (xb N0:Nat) (o:Int) (q:Aq) (nd:Ds) (nb:Bool) (w1:World) (L:Array Bool) (x7 x8 x11 x12 x13 x14 x15 x16 x17 x18 x19 x20 x21 x22:Value) (W:World):Prop where
 m1:Below w1.heap.size w1 W
 h0:L.getD 0 false=true→x12=ptr X.wb
 h1:L.getD 1 false=true→x13=ptr M.hb
 h2:L.getD 2 false=true→x14=ptr xb
 h3:L.getD 3 false=true→x15=ptr xb
 h4:L.getD 4 false=true→x16 = .pointer (some ⟨xb,0,none⟩)
 h5:L.getD 5 false=true→x17 = .int .i64 o
 h6:L.getD 6 false=true→x18 = .pointer (some ⟨N0,0,none⟩)
 h7:L.getD 7 false=true→x19 = .agg (kcs q.k)
 h8:L.getD 8 false=true→x20 = .tuple #[.agg (dcs nd),.bool nb]
 h9:L.getD 9 false=true→x11 = .tuple #[.agg (dcs nd),.bool nb]
 h10:L.getD 10 false=true→x21 = .agg (dcs nd)
 h11:L.getD 11 false=true→x22 = .bool nb
 h12:L.getD 12 false=true→∃ b,x7=ptr b∧w1.heap.size≤b∧∃ o,Blk W b (dcs o) 34
 h13:L.getD 13 false=true→∃ b,x7=ptr b∧w1.heap.size≤b∧Blk W b (dcs nd) 34
 h14:L.getD 14 false=true→x8 = .bool nb
structure AppI (X:Cx) (xb N0 N7:Nat) (xe:Bool) (q:Aq) (nd rd:Ds) (nb rb:Bool) (w1:World) (L:Array Bool) (x9 x10 x23 x24 x25 x26 x27 x28 x29 x30 x31 x32 x33 x34 x35:Value) (W:World):Prop where
 m1:Below w1.heap.size w1 W
 h0:L.getD 0 false=true→x24=ptr xb
 h1:L.getD 1 false=true→x25=ptr xb
 h2:L.getD 2 false=true→x26 = .pointer (some ⟨xb,1,none⟩)
 h3:L.getD 3 false=true→x27 = .pointer (some ⟨xb,5,none⟩)
 h4:L.getD 4 false=true→x28 = .bool xe
 h5:L.getD 5 false=true→x29 = .pointer (some ⟨N0,8,none⟩)
 h6:L.getD 6 false=true→x30 = .agg (dcs q.d)
 h7:L.getD 7 false=true→x31 = .bool nb
 h8:L.getD 8 false=true→x32 = .agg (dcs nd)
 h9:L.getD 9 false=true→x33 = .tuple #[.agg (dcs rd),.bool rb]
 h10:L.getD 10 false=true→x23 = .tuple #[.agg (dcs rd),.bool rb]
 h11:L.getD 11 false=true→x34 = .agg (dcs rd)
 h12:L.getD 12 false=true→x35 = .bool rb
 h13:L.getD 13 false=true→∃ b,x9=ptr b∧w1.heap.size≤b∧∃ o,Blk W b (dcs o) 34
 h14:L.getD 14 false=true→∃ b,x9=ptr b∧w1.heap.size≤b∧Blk W b (dcs rd) 34
 h15:L.getD 15 false=true→x10 = .bool rb
set_option maxRecDepth 100000 in
set_option maxHeartbeats 4000000 in
theorem apply_any (h:WIs X (c+2) M w A) (o:Int) {t:Th} {T:TypeId} {xb:Nat} (hx:Blk w xb (xcs o t) T) (hxo:xb ∉ M.bl X.wb) (q:Aq) (ql:Value) (hk:Fine q.k) :
  Calls Tryz.prog 162 #[ptr X.wb,ptr xb,.agg (acs q ql)] w (Post X c M w (applyF o t q A)):=by
 obtain ⟨w1,hw1⟩:∃ w1,(w.alloc (.cells (acs q ql) 52)).alloc (.cells (rcs zeroR) 57)=w1:=⟨_,rfl⟩
 have F0:Fm X (c+2) M w M w1 A [⟨w.heap.size+1,rcs zeroR,57⟩,⟨w.heap.size,acs q ql,52⟩] [] [⟨xb,xcs o t,T⟩]:=by
  rw [← hw1];exact (((Fm.start h).with hx hxo).new _ _).newg _ _ _ (by simp)
 unfold applyF
 obtain ⟨nd,hnd⟩:∃ nd,nowD A o q.k=nd:=⟨_,rfl⟩
 obtain ⟨nb,hnb⟩:∃ nb,(ownF A o q.k).isSome=nb:=⟨_,rfl⟩
 have HOWN:Hid (∀ {w':World},WIs X (c+2) M w' A→Calls Tryz.prog 26 #[ptr M.hb,.int .i64 o,.agg (kcs q.k)] w' fun e w2=>e = .returned (.tuple #[.agg (dcs nd),.bool nb])∧Below w'.heap.size w' w2):=Lib.hid fun h'=>by rw [← hnd,← hnb];exact wOwn h' o q.k hk
 rw [hnd,hnb]
 obtain ⟨R,hR⟩:∃ R,appF t.ext q.d nb nd=R:=⟨_,rfl⟩
 obtain ⟨rd,rb⟩:=R
 have HAPP:Hid (∀ w':World,Calls Tryz.prog 189 #[.bool t.ext,.agg (dcs q.d),.bool nb,.agg (dcs nd)] w' fun e w2=>e = .returned (.tuple #[.agg (dcs rd),.bool rb])∧Below w'.heap.size w' w2):=Lib.hid fun w'=>by
  have:=Des.app_any t.ext q.d nb nd w'
  rw [hR] at this
  exact this
 rw [hR]
 simp only
 have HKK:=Lib.hid hk
 have HF0:=Lib.hid F0
 clear F0 h hx hxo hnd hnb hR hk
 obtain ⟨RR,hRR⟩:∃ RR,RR=(ans rb,if rb=true then putF A o q.k rd else A):=⟨_,rfl⟩
 rw [← hRR]
 have HRR:=Lib.hid hRR
 clear hRR
 go_enter Tryz.func162,Tryz.ntmps162
 go_upto_region 1 with fail
 go_cut [7,8] from 11 to 22 (fun s1 s2 wx=>DesAt X (c+2) M w M A nd nb [⟨w.heap.size+1,rcs zeroR,57⟩,⟨w.heap.size,acs q ql,52⟩] [] [⟨xb,xcs o t,T⟩] s1 s2 wx)
 case first =>
   have hwis:=HF0.out.drew.wis
   have hxb:=HF0.out.drew.r0
   have hask:=HF0.out.drew.l1.blk
   refine region_inv (by kernel_rfl) (fun L a W=>∃ x7 x8 x11 x12 x13 x14 x15 x16 x17 x18 x19 x20 x21 x22:Value,a={ tmps:=#[ptr X.wb,ptr xb,.agg (acs q ql),undef,undef,ptr w.heap.size,ptr (w.heap.size+1),x7,x8,undef,undef,x11,x12,x13,x14,x15,x16,x17,x18,x19,x20,x21,x22,undef,undef,undef,undef,undef,undef,undef,undef,undef,undef,undef,undef,undef,undef,undef,undef,undef,undef,undef,undef,undef,undef,undef,undef,undef,undef],defers:=[] }∧OwnI X M xb w.heap.size o q nd nb w1.drew L x7 x8 x11 x12 x13 x14 x15 x16 x17 x18 x19 x20 x21 x22 W) (by kernel_rfl) ?start ?step ?done
   case start=>exact ⟨_,_,_,_,_,_,_,_,_,_,_,_,_,_,rfl,⟨Below.refl _ _,fun h=>by simp [Array.getD_eq_getD_getElem?] at h,fun h=>by simp [Array.getD_eq_getD_getElem?] at h,fun h=>by simp [Array.getD_eq_getD_getElem?] at h,fun h=>by simp [Array.getD_eq_getD_getElem?] at h,fun h=>by simp [Array.getD_eq_getD_getElem?] at h,fun h=>by simp [Array.getD_eq_getD_getElem?] at h,fun h=>by simp [Array.getD_eq_getD_getElem?] at h,fun h=>by simp [Array.getD_eq_getD_getElem?] at h,fun h=>by simp [Array.getD_eq_getD_getElem?] at h,fun h=>by simp [Array.getD_eq_getD_getElem?] at h,fun h=>by simp [Array.getD_eq_getD_getElem?] at h,fun h=>by simp [Array.getD_eq_getD_getElem?] at h,fun h=>by simp [Array.getD_eq_getD_getElem?] at h,fun h=>by simp [Array.getD_eq_getD_getElem?] at h,fun h=>by simp [Array.getD_eq_getD_getElem?] at h⟩⟩
   case step =>
    intro i L a W hi hdep hL hs hcl hI
    have hi2:i < 15:=by simpa using hi
    obtain ⟨x7,x8,x11,x12,x13,x14,x15,x16,x17,x18,x19,x20,x21,x22,rfl,H⟩:=hI
    have ol:∀ j,i ≠ j→(L.setIfInBounds i true).getD j false=true→L.getD j false=true:=fun j hj h=>by rwa [getD_set hj] at h
    rcases (by omega:i=0∨i=1∨i=2∨i=3∨i=4∨i=5∨i=6∨i=7∨i=8∨i=9∨i=10∨i=11∨i=12∨i=13∨i=14) with rfl |rfl |rfl |rfl |rfl |rfl |rfl |rfl |rfl |rfl |rfl |rfl |rfl |rfl |rfl
    ·clear hi hi2
     exact step_run (i:=0) (w':=W) (v:=ptr X.wb) rfl rfl (by simp [execOp,Act.eval,go_sem]) ⟨_,_,_,_,_,_,_,_,_,_,_,_,_,_,rfl,⟨(H.m1),(fun _=>rfl),(H.h1∘ol 1 nofun),(H.h2∘ol 2 nofun),(H.h3∘ol 3 nofun),(H.h4∘ol 4 nofun),(H.h5∘ol 5 nofun),(H.h6∘ol 6 nofun),(H.h7∘ol 7 nofun),(H.h8∘ol 8 nofun),(H.h9∘ol 9 nofun),(H.h10∘ol 10 nofun),(H.h11∘ol 11 nofun),(H.h12∘ol 12 nofun),(H.h13∘ol 13 nofun),(H.h14∘ol 14 nofun)⟩⟩
    ·clear hi hi2
     have e12:=H.h0 (hdep 0 (memOf (by kernel_rfl)))
     subst e12
     refine step_call (i:=1) (f:=100) (args:=#[ptr X.wb]) rfl rfl (by simp [execOp,Act.eval,go_sem]) (store_at (hwis.call H.m1)) ?_
     rintro e W2 ⟨rfl,hq⟩
     subst hq
     exact ⟨_,rfl,⟨_,_,_,_,_,_,_,_,_,_,_,_,_,_,rfl,⟨(H.m1),(H.h0∘ol 0 nofun),(fun _=>rfl),(H.h2∘ol 2 nofun),(H.h3∘ol 3 nofun),(H.h4∘ol 4 nofun),(H.h5∘ol 5 nofun),(H.h6∘ol 6 nofun),(H.h7∘ol 7 nofun),(H.h8∘ol 8 nofun),(H.h9∘ol 9 nofun),(H.h10∘ol 10 nofun),(H.h11∘ol 11 nofun),(H.h12∘ol 12 nofun),(H.h13∘ol 13 nofun),(H.h14∘ol 14 nofun)⟩⟩⟩
    ·clear hi hi2
     exact step_run (i:=2) (w':=W) (v:=ptr xb) rfl rfl (by simp [execOp,Act.eval,go_sem]) ⟨_,_,_,_,_,_,_,_,_,_,_,_,_,_,rfl,⟨(H.m1),(H.h0∘ol 0 nofun),(H.h1∘ol 1 nofun),(fun _=>rfl),(H.h3∘ol 3 nofun),(H.h4∘ol 4 nofun),(H.h5∘ol 5 nofun),(H.h6∘ol 6 nofun),(H.h7∘ol 7 nofun),(H.h8∘ol 8 nofun),(H.h9∘ol 9 nofun),(H.h10∘ol 10 nofun),(H.h11∘ol 11 nofun),(H.h12∘ol 12 nofun),(H.h13∘ol 13 nofun),(H.h14∘ol 14 nofun)⟩⟩
    ·clear hi hi2
     have e14:=H.h2 (hdep 2 (memOf (by kernel_rfl)))
     subst e14
     exact step_run (i:=3) (w':=W) (v:=ptr xb) rfl rfl (by simp [execOp,Act.eval,go_sem]) ⟨_,_,_,_,_,_,_,_,_,_,_,_,_,_,rfl,⟨(H.m1),(H.h0∘ol 0 nofun),(H.h1∘ol 1 nofun),(H.h2∘ol 2 nofun),(fun _=>rfl),(H.h4∘ol 4 nofun),(H.h5∘ol 5 nofun),(H.h6∘ol 6 nofun),(H.h7∘ol 7 nofun),(H.h8∘ol 8 nofun),(H.h9∘ol 9 nofun),(H.h10∘ol 10 nofun),(H.h11∘ol 11 nofun),(H.h12∘ol 12 nofun),(H.h13∘ol 13 nofun),(H.h14∘ol 14 nofun)⟩⟩
    ·clear hi hi2
     have e15:=H.h3 (hdep 3 (memOf (by kernel_rfl)))
     subst e15
     exact step_run (i:=4) (w':=W) (v:=.pointer (some ⟨xb,0,none⟩)) rfl rfl (by simp [execOp,Act.eval,go_sem]) ⟨_,_,_,_,_,_,_,_,_,_,_,_,_,_,rfl,⟨(H.m1),(H.h0∘ol 0 nofun),(H.h1∘ol 1 nofun),(H.h2∘ol 2 nofun),(H.h3∘ol 3 nofun),(fun _=>rfl),(H.h5∘ol 5 nofun),(H.h6∘ol 6 nofun),(H.h7∘ol 7 nofun),(H.h8∘ol 8 nofun),(H.h9∘ol 9 nofun),(H.h10∘ol 10 nofun),(H.h11∘ol 11 nofun),(H.h12∘ol 12 nofun),(H.h13∘ol 13 nofun),(H.h14∘ol 14 nofun)⟩⟩
    ·clear hi hi2
     have e16:=H.h4 (hdep 4 (memOf (by kernel_rfl)))
     subst e16
     have cq:=x_num (hxb.call H.m1)
     exact step_run (i:=5) (w':=W) (v:=.int .i64 o) rfl rfl (by simp [execOp,Act.eval,go_sem,cq]) ⟨_,_,_,_,_,_,_,_,_,_,_,_,_,_,rfl,⟨(H.m1),(H.h0∘ol 0 nofun),(H.h1∘ol 1 nofun),(H.h2∘ol 2 nofun),(H.h3∘ol 3 nofun),(H.h4∘ol 4 nofun),(fun _=>rfl),(H.h6∘ol 6 nofun),(H.h7∘ol 7 nofun),(H.h8∘ol 8 nofun),(H.h9∘ol 9 nofun),(H.h10∘ol 10 nofun),(H.h11∘ol 11 nofun),(H.h12∘ol 12 nofun),(H.h13∘ol 13 nofun),(H.h14∘ol 14 nofun)⟩⟩
    ·clear hi hi2
     exact step_run (i:=6) (w':=W) (v:=.pointer (some ⟨w.heap.size,0,none⟩)) rfl rfl (by simp [execOp,Act.eval,go_sem]) ⟨_,_,_,_,_,_,_,_,_,_,_,_,_,_,rfl,⟨(H.m1),(H.h0∘ol 0 nofun),(H.h1∘ol 1 nofun),(H.h2∘ol 2 nofun),(H.h3∘ol 3 nofun),(H.h4∘ol 4 nofun),(H.h5∘ol 5 nofun),(fun _=>rfl),(H.h7∘ol 7 nofun),(H.h8∘ol 8 nofun),(H.h9∘ol 9 nofun),(H.h10∘ol 10 nofun),(H.h11∘ol 11 nofun),(H.h12∘ol 12 nofun),(H.h13∘ol 13 nofun),(H.h14∘ol 14 nofun)⟩⟩
    ·clear hi hi2
     have e18:=H.h6 (hdep 6 (memOf (by kernel_rfl)))
     subst e18
     have cq:=ask_k (hask.call H.m1)
     exact step_run (i:=7) (w':=W) (v:=.agg (kcs q.k)) rfl rfl (by simp [execOp,Act.eval,go_sem,cq]) ⟨_,_,_,_,_,_,_,_,_,_,_,_,_,_,rfl,⟨(H.m1),(H.h0∘ol 0 nofun),(H.h1∘ol 1 nofun),(H.h2∘ol 2 nofun),(H.h3∘ol 3 nofun),(H.h4∘ol 4 nofun),(H.h5∘ol 5 nofun),(H.h6∘ol 6 nofun),(fun _=>rfl),(H.h8∘ol 8 nofun),(H.h9∘ol 9 nofun),(H.h10∘ol 10 nofun),(H.h11∘ol 11 nofun),(H.h12∘ol 12 nofun),(H.h13∘ol 13 nofun),(H.h14∘ol 14 nofun)⟩⟩
    ·clear hi hi2
     have e13:=H.h1 (hdep 1 (memOf (by kernel_rfl)))
     have e17:=H.h5 (hdep 5 (memOf (by kernel_rfl)))
     have e19:=H.h7 (hdep 7 (memOf (by kernel_rfl)))
     subst e13
     subst e17
     subst e19
     refine step_call (i:=8) (f:=26) (args:=#[ptr M.hb,.int .i64 o,.agg (kcs q.k)]) rfl rfl (by simp [execOp,Act.eval,go_sem]) (HOWN.out (hwis.call H.m1)) ?_
     rintro e W2 ⟨rfl,hb⟩
     exact ⟨_,rfl,⟨_,_,_,_,_,_,_,_,_,_,_,_,_,_,rfl,⟨(H.m1.trans (hb.mono H.m1.size)),(H.h0∘ol 0 nofun),(H.h1∘ol 1 nofun),(H.h2∘ol 2 nofun),(H.h3∘ol 3 nofun),(H.h4∘ol 4 nofun),(H.h5∘ol 5 nofun),(H.h6∘ol 6 nofun),(H.h7∘ol 7 nofun),(fun _=>rfl),(H.h9∘ol 9 nofun),(H.h10∘ol 10 nofun),(H.h11∘ol 11 nofun),(fun h=>let ⟨g,q1,q2,o,q3⟩:=H.h12 (ol 12 (by decide) h);⟨g,q1,q2,o,q3.call hb⟩),(fun h=>let ⟨g,q1,q2,q3⟩:=H.h13 (ol 13 (by decide) h);⟨g,q1,q2,q3.call hb⟩),(H.h14∘ol 14 nofun)⟩⟩⟩
    ·clear hi hi2
     have e20:=H.h8 (hdep 8 (memOf (by kernel_rfl)))
     subst e20
     exact step_run (i:=9) (w':=W) (v:=.tuple #[.agg (dcs nd),.bool nb]) rfl rfl (by simp [execOp,Act.eval,go_sem]) ⟨_,_,_,_,_,_,_,_,_,_,_,_,_,_,rfl,⟨(H.m1),(H.h0∘ol 0 nofun),(H.h1∘ol 1 nofun),(H.h2∘ol 2 nofun),(H.h3∘ol 3 nofun),(H.h4∘ol 4 nofun),(H.h5∘ol 5 nofun),(H.h6∘ol 6 nofun),(H.h7∘ol 7 nofun),(H.h8∘ol 8 nofun),(fun _=>rfl),(H.h10∘ol 10 nofun),(H.h11∘ol 11 nofun),(H.h12∘ol 12 nofun),(H.h13∘ol 13 nofun),(H.h14∘ol 14 nofun)⟩⟩
    ·clear hi hi2
     have e11:=H.h9 (hdep 9 (memOf (by kernel_rfl)))
     subst e11
     exact step_run (i:=10) (w':=W) (v:=.agg (dcs nd)) rfl rfl (by simp [execOp,Act.eval,go_sem]) ⟨_,_,_,_,_,_,_,_,_,_,_,_,_,_,rfl,⟨(H.m1),(H.h0∘ol 0 nofun),(H.h1∘ol 1 nofun),(H.h2∘ol 2 nofun),(H.h3∘ol 3 nofun),(H.h4∘ol 4 nofun),(H.h5∘ol 5 nofun),(H.h6∘ol 6 nofun),(H.h7∘ol 7 nofun),(H.h8∘ol 8 nofun),(H.h9∘ol 9 nofun),(fun _=>rfl),(H.h11∘ol 11 nofun),(H.h12∘ol 12 nofun),(H.h13∘ol 13 nofun),(H.h14∘ol 14 nofun)⟩⟩
    ·clear hi hi2
     have e11:=H.h9 (hdep 9 (memOf (by kernel_rfl)))
     subst e11
     exact step_run (i:=11) (w':=W) (v:=.bool nb) rfl rfl (by simp [execOp,Act.eval,go_sem]) ⟨_,_,_,_,_,_,_,_,_,_,_,_,_,_,rfl,⟨(H.m1),(H.h0∘ol 0 nofun),(H.h1∘ol 1 nofun),(H.h2∘ol 2 nofun),(H.h3∘ol 3 nofun),(H.h4∘ol 4 nofun),(H.h5∘ol 5 nofun),(H.h6∘ol 6 nofun),(H.h7∘ol 7 nofun),(H.h8∘ol 8 nofun),(H.h9∘ol 9 nofun),(H.h10∘ol 10 nofun),(fun _=>rfl),(H.h12∘ol 12 nofun),(H.h13∘ol 13 nofun),(H.h14∘ol 14 nofun)⟩⟩
    ·clear hi hi2
     have hb:Below W.heap.size W (W.alloc (.cells (dcs zeroD) 34)):=(Below.refl _ W).alloc (Nat.le_refl _) _
     exact step_run (i:=12) (w':=(W.alloc (.cells (dcs zeroD) 34))) (v:=ptr W.heap.size) rfl rfl (by simp [execOp,Act.eval,go_sem]) ⟨_,_,_,_,_,_,_,_,_,_,_,_,_,_,rfl,⟨(H.m1.trans (hb.mono H.m1.size)),(H.h0∘ol 0 nofun),(H.h1∘ol 1 nofun),(H.h2∘ol 2 nofun),(H.h3∘ol 3 nofun),(H.h4∘ol 4 nofun),(H.h5∘ol 5 nofun),(H.h6∘ol 6 nofun),(H.h7∘ol 7 nofun),(H.h8∘ol 8 nofun),(H.h9∘ol 9 nofun),(H.h10∘ol 10 nofun),(H.h11∘ol 11 nofun),(fun _=>⟨_,rfl,H.m1.size,_,Blk.new W _ _⟩),(fun h=>(not_yet hL (hcl 13 (by simp) (ol 13 (by decide) h) 12 (memOf (by kernel_rfl)))).elim),(H.h14∘ol 14 nofun)⟩⟩
    ·clear hi hi2
     have e21:=H.h10 (hdep 10 (memOf (by kernel_rfl)))
     have e7:=H.h12 (hdep 12 (memOf (by kernel_rfl)))
     subst e21
     obtain ⟨b,rfl,hb1,o,hb2⟩:=e7
     have sv:=run_stDp (r:=nd) hb2
     exact step_sk (i:=13) (w':=(W.setRow b (dcs nd))) rfl rfl (by simp [execOp,Act.eval,go_sem,sv]) ⟨_,_,_,_,_,_,_,_,_,_,_,_,_,_,rfl,⟨(below_rowW H.m1 _ hb1),(H.h0∘ol 0 nofun),(H.h1∘ol 1 nofun),(H.h2∘ol 2 nofun),(H.h3∘ol 3 nofun),(H.h4∘ol 4 nofun),(H.h5∘ol 5 nofun),(H.h6∘ol 6 nofun),(H.h7∘ol 7 nofun),(H.h8∘ol 8 nofun),(H.h9∘ol 9 nofun),(H.h10∘ol 10 nofun),(H.h11∘ol 11 nofun),(fun _=>⟨b,rfl,hb1,_,hb2.row _⟩),(fun _=>⟨b,rfl,hb1,hb2.row _⟩),(H.h14∘ol 14 nofun)⟩⟩
    ·clear hi hi2
     have e22:=H.h11 (hdep 11 (memOf (by kernel_rfl)))
     subst e22
     exact step_run (i:=14) (w':=W) (v:=.bool nb) rfl rfl (by simp [execOp,Act.eval,go_sem]) ⟨_,_,_,_,_,_,_,_,_,_,_,_,_,_,rfl,⟨(H.m1),(H.h0∘ol 0 nofun),(H.h1∘ol 1 nofun),(H.h2∘ol 2 nofun),(H.h3∘ol 3 nofun),(H.h4∘ol 4 nofun),(H.h5∘ol 5 nofun),(H.h6∘ol 6 nofun),(H.h7∘ol 7 nofun),(H.h8∘ol 8 nofun),(H.h9∘ol 9 nofun),(H.h10∘ol 10 nofun),(H.h11∘ol 11 nofun),(H.h12∘ol 12 nofun),(H.h13∘ol 13 nofun),(fun _=>rfl)⟩⟩
   case done =>
    rintro L a W hall ⟨x7,x8,x11,x12,x13,x14,x15,x16,x17,x18,x19,x20,x21,x22,rfl,H⟩
    obtain ⟨b7,e7,hb7,B7⟩:=H.h13 (hall 13 (by simp))
    have e8:=H.h14 (hall 14 (by simp))
    subst e7 e8
    have HQ:=Lib.hid (show DesAt X (c+2) M w M A nd nb [⟨w.heap.size+1,rcs zeroR,57⟩,⟨w.heap.size,acs q ql,52⟩] [] [⟨xb,xcs o t,T⟩] (ptr b7) (.bool nb) W from ⟨_,rfl,rfl,HF0.out.drew.grow H.m1 B7 hb7⟩)
    clear H hwis hxb hask B7 hb7 hall
    go_wp2_with fail
    go_meet
    exact HQ.out
 case rest =>
 obtain ⟨N7,rfl,rfl,F3⟩:=hcut
 have HF3:=Lib.hid F3
 clear F3 HF0
 go_upto_region 2 with fail
 go_cut [9,10] from 23 to 35 (fun s1 s2 wx=>DesAt X (c+2) M w M A rd rb (⟨N7,dcs nd,34⟩ :: [⟨w.heap.size+1,rcs zeroR,57⟩,⟨w.heap.size,acs q ql,52⟩]) [] [⟨xb,xcs o t,T⟩] s1 s2 wx)
 case first =>
   have hxb:=HF3.out.drew.r0
   have hask:=HF3.out.drew.l2.blk
   have hnow:=HF3.out.drew.l0.blk
   refine region_inv (by kernel_rfl) (fun L a W=>∃ x9 x10 x23 x24 x25 x26 x27 x28 x29 x30 x31 x32 x33 x34 x35:Value,a={ tmps:=#[ptr X.wb,ptr xb,.agg (acs q ql),undef,undef,ptr w.heap.size,ptr (w.heap.size+1),ptr N7,.bool nb,x9,x10,u11,u12,u13,u14,u15,u16,u17,u18,u19,u20,u21,u22,x23,x24,x25,x26,x27,x28,x29,x30,x31,x32,x33,x34,x35,undef,undef,undef,undef,undef,undef,undef,undef,undef,undef,undef,undef,undef],defers:=[] }∧AppI X xb w.heap.size N7 t.ext q nd rd nb rb wc.drew L x9 x10 x23 x24 x25 x26 x27 x28 x29 x30 x31 x32 x33 x34 x35 W) (by kernel_rfl) ?start ?step ?done
   case start=>exact ⟨_,_,_,_,_,_,_,_,_,_,_,_,_,_,_,rfl,⟨Below.refl _ _,fun h=>by simp [Array.getD_eq_getD_getElem?] at h,fun h=>by simp [Array.getD_eq_getD_getElem?] at h,fun h=>by simp [Array.getD_eq_getD_getElem?] at h,fun h=>by simp [Array.getD_eq_getD_getElem?] at h,fun h=>by simp [Array.getD_eq_getD_getElem?] at h,fun h=>by simp [Array.getD_eq_getD_getElem?] at h,fun h=>by simp [Array.getD_eq_getD_getElem?] at h,fun h=>by simp [Array.getD_eq_getD_getElem?] at h,fun h=>by simp [Array.getD_eq_getD_getElem?] at h,fun h=>by simp [Array.getD_eq_getD_getElem?] at h,fun h=>by simp [Array.getD_eq_getD_getElem?] at h,fun h=>by simp [Array.getD_eq_getD_getElem?] at h,fun h=>by simp [Array.getD_eq_getD_getElem?] at h,fun h=>by simp [Array.getD_eq_getD_getElem?] at h,fun h=>by simp [Array.getD_eq_getD_getElem?] at h,fun h=>by simp [Array.getD_eq_getD_getElem?] at h⟩⟩
   case step =>
    intro i L a W hi hdep hL hs hcl hI
    have hi2:i < 16:=by simpa using hi
    obtain ⟨x9,x10,x23,x24,x25,x26,x27,x28,x29,x30,x31,x32,x33,x34,x35,rfl,H⟩:=hI
    have ol:∀ j,i ≠ j→(L.setIfInBounds i true).getD j false=true→L.getD j false=true:=fun j hj h=>by rwa [getD_set hj] at h
    rcases (by omega:i=0∨i=1∨i=2∨i=3∨i=4∨i=5∨i=6∨i=7∨i=8∨i=9∨i=10∨i=11∨i=12∨i=13∨i=14∨i=15) with rfl |rfl |rfl |rfl |rfl |rfl |rfl |rfl |rfl |rfl |rfl |rfl |rfl |rfl |rfl |rfl
    ·clear hi hi2
     exact step_run (i:=0) (w':=W) (v:=ptr xb) rfl rfl (by simp [execOp,Act.eval,go_sem]) ⟨_,_,_,_,_,_,_,_,_,_,_,_,_,_,_,rfl,⟨(H.m1),(fun _=>rfl),(H.h1∘ol 1 nofun),(H.h2∘ol 2 nofun),(H.h3∘ol 3 nofun),(H.h4∘ol 4 nofun),(H.h5∘ol 5 nofun),(H.h6∘ol 6 nofun),(H.h7∘ol 7 nofun),(H.h8∘ol 8 nofun),(H.h9∘ol 9 nofun),(H.h10∘ol 10 nofun),(H.h11∘ol 11 nofun),(H.h12∘ol 12 nofun),(H.h13∘ol 13 nofun),(H.h14∘ol 14 nofun),(H.h15∘ol 15 nofun)⟩⟩
    ·clear hi hi2
     have e24:=H.h0 (hdep 0 (memOf (by kernel_rfl)))
     subst e24
     exact step_run (i:=1) (w':=W) (v:=ptr xb) rfl rfl (by simp [execOp,Act.eval,go_sem]) ⟨_,_,_,_,_,_,_,_,_,_,_,_,_,_,_,rfl,⟨(H.m1),(H.h0∘ol 0 nofun),(fun _=>rfl),(H.h2∘ol 2 nofun),(H.h3∘ol 3 nofun),(H.h4∘ol 4 nofun),(H.h5∘ol 5 nofun),(H.h6∘ol 6 nofun),(H.h7∘ol 7 nofun),(H.h8∘ol 8 nofun),(H.h9∘ol 9 nofun),(H.h10∘ol 10 nofun),(H.h11∘ol 11 nofun),(H.h12∘ol 12 nofun),(H.h13∘ol 13 nofun),(H.h14∘ol 14 nofun),(H.h15∘ol 15 nofun)⟩⟩
    ·clear hi hi2
     have e25:=H.h1 (hdep 1 (memOf (by kernel_rfl)))
     subst e25
     exact step_run (i:=2) (w':=W) (v:=.pointer (some ⟨xb,1,none⟩)) rfl rfl (by simp [execOp,Act.eval,go_sem]) ⟨_,_,_,_,_,_,_,_,_,_,_,_,_,_,_,rfl,⟨(H.m1),(H.h0∘ol 0 nofun),(H.h1∘ol 1 nofun),(fun _=>rfl),(H.h3∘ol 3 nofun),(H.h4∘ol 4 nofun),(H.h5∘ol 5 nofun),(H.h6∘ol 6 nofun),(H.h7∘ol 7 nofun),(H.h8∘ol 8 nofun),(H.h9∘ol 9 nofun),(H.h10∘ol 10 nofun),(H.h11∘ol 11 nofun),(H.h12∘ol 12 nofun),(H.h13∘ol 13 nofun),(H.h14∘ol 14 nofun),(H.h15∘ol 15 nofun)⟩⟩
    ·clear hi hi2
     have e26:=H.h2 (hdep 2 (memOf (by kernel_rfl)))
     subst e26
     exact step_run (i:=3) (w':=W) (v:=.pointer (some ⟨xb,5,none⟩)) rfl rfl (by simp [execOp,Act.eval,go_sem]) ⟨_,_,_,_,_,_,_,_,_,_,_,_,_,_,_,rfl,⟨(H.m1),(H.h0∘ol 0 nofun),(H.h1∘ol 1 nofun),(H.h2∘ol 2 nofun),(fun _=>rfl),(H.h4∘ol 4 nofun),(H.h5∘ol 5 nofun),(H.h6∘ol 6 nofun),(H.h7∘ol 7 nofun),(H.h8∘ol 8 nofun),(H.h9∘ol 9 nofun),(H.h10∘ol 10 nofun),(H.h11∘ol 11 nofun),(H.h12∘ol 12 nofun),(H.h13∘ol 13 nofun),(H.h14∘ol 14 nofun),(H.h15∘ol 15 nofun)⟩⟩
    ·clear hi hi2
     have e27:=H.h3 (hdep 3 (memOf (by kernel_rfl)))
     subst e27
     have cq:=x_ext (hxb.call H.m1)
     exact step_run (i:=4) (w':=W) (v:=.bool t.ext) rfl rfl (by simp [execOp,Act.eval,go_sem,cq]) ⟨_,_,_,_,_,_,_,_,_,_,_,_,_,_,_,rfl,⟨(H.m1),(H.h0∘ol 0 nofun),(H.h1∘ol 1 nofun),(H.h2∘ol 2 nofun),(H.h3∘ol 3 nofun),(fun _=>rfl),(H.h5∘ol 5 nofun),(H.h6∘ol 6 nofun),(H.h7∘ol 7 nofun),(H.h8∘ol 8 nofun),(H.h9∘ol 9 nofun),(H.h10∘ol 10 nofun),(H.h11∘ol 11 nofun),(H.h12∘ol 12 nofun),(H.h13∘ol 13 nofun),(H.h14∘ol 14 nofun),(H.h15∘ol 15 nofun)⟩⟩
    ·clear hi hi2
     exact step_run (i:=5) (w':=W) (v:=.pointer (some ⟨w.heap.size,8,none⟩)) rfl rfl (by simp [execOp,Act.eval,go_sem]) ⟨_,_,_,_,_,_,_,_,_,_,_,_,_,_,_,rfl,⟨(H.m1),(H.h0∘ol 0 nofun),(H.h1∘ol 1 nofun),(H.h2∘ol 2 nofun),(H.h3∘ol 3 nofun),(H.h4∘ol 4 nofun),(fun _=>rfl),(H.h6∘ol 6 nofun),(H.h7∘ol 7 nofun),(H.h8∘ol 8 nofun),(H.h9∘ol 9 nofun),(H.h10∘ol 10 nofun),(H.h11∘ol 11 nofun),(H.h12∘ol 12 nofun),(H.h13∘ol 13 nofun),(H.h14∘ol 14 nofun),(H.h15∘ol 15 nofun)⟩⟩
    ·clear hi hi2
     have e29:=H.h5 (hdep 5 (memOf (by kernel_rfl)))
     subst e29
     have cq:=ask_d (hask.call H.m1)
     exact step_run (i:=6) (w':=W) (v:=.agg (dcs q.d)) rfl rfl (by simp [execOp,Act.eval,go_sem,cq]) ⟨_,_,_,_,_,_,_,_,_,_,_,_,_,_,_,rfl,⟨(H.m1),(H.h0∘ol 0 nofun),(H.h1∘ol 1 nofun),(H.h2∘ol 2 nofun),(H.h3∘ol 3 nofun),(H.h4∘ol 4 nofun),(H.h5∘ol 5 nofun),(fun _=>rfl),(H.h7∘ol 7 nofun),(H.h8∘ol 8 nofun),(H.h9∘ol 9 nofun),(H.h10∘ol 10 nofun),(H.h11∘ol 11 nofun),(H.h12∘ol 12 nofun),(H.h13∘ol 13 nofun),(H.h14∘ol 14 nofun),(H.h15∘ol 15 nofun)⟩⟩
    ·clear hi hi2
     exact step_run (i:=7) (w':=W) (v:=.bool nb) rfl rfl (by simp [execOp,Act.eval,go_sem]) ⟨_,_,_,_,_,_,_,_,_,_,_,_,_,_,_,rfl,⟨(H.m1),(H.h0∘ol 0 nofun),(H.h1∘ol 1 nofun),(H.h2∘ol 2 nofun),(H.h3∘ol 3 nofun),(H.h4∘ol 4 nofun),(H.h5∘ol 5 nofun),(H.h6∘ol 6 nofun),(fun _=>rfl),(H.h8∘ol 8 nofun),(H.h9∘ol 9 nofun),(H.h10∘ol 10 nofun),(H.h11∘ol 11 nofun),(H.h12∘ol 12 nofun),(H.h13∘ol 13 nofun),(H.h14∘ol 14 nofun),(H.h15∘ol 15 nofun)⟩⟩
    ·clear hi hi2
     have cq:=d_all (hnow.call H.m1)
     exact step_run (i:=8) (w':=W) (v:=.agg (dcs nd)) rfl rfl (by simp [execOp,Act.eval,go_sem,cq]) ⟨_,_,_,_,_,_,_,_,_,_,_,_,_,_,_,rfl,⟨(H.m1),(H.h0∘ol 0 nofun),(H.h1∘ol 1 nofun),(H.h2∘ol 2 nofun),(H.h3∘ol 3 nofun),(H.h4∘ol 4 nofun),(H.h5∘ol 5 nofun),(H.h6∘ol 6 nofun),(H.h7∘ol 7 nofun),(fun _=>rfl),(H.h9∘ol 9 nofun),(H.h10∘ol 10 nofun),(H.h11∘ol 11 nofun),(H.h12∘ol 12 nofun),(H.h13∘ol 13 nofun),(H.h14∘ol 14 nofun),(H.h15∘ol 15 nofun)⟩⟩
    ·clear hi hi2
     have e28:=H.h4 (hdep 4 (memOf (by kernel_rfl)))
     have e30:=H.h6 (hdep 6 (memOf (by kernel_rfl)))
     have e31:=H.h7 (hdep 7 (memOf (by kernel_rfl)))
     have e32:=H.h8 (hdep 8 (memOf (by kernel_rfl)))
     subst e28
     subst e30
     subst e31
     subst e32
     refine step_call (i:=9) (f:=189) (args:=#[.bool t.ext,.agg (dcs q.d),.bool nb,.agg (dcs nd)]) rfl rfl (by simp [execOp,Act.eval,go_sem]) (HAPP.out W) ?_
     rintro e W2 ⟨rfl,hb⟩
     exact ⟨_,rfl,⟨_,_,_,_,_,_,_,_,_,_,_,_,_,_,_,rfl,⟨(H.m1.trans (hb.mono H.m1.size)),(H.h0∘ol 0 nofun),(H.h1∘ol 1 nofun),(H.h2∘ol 2 nofun),(H.h3∘ol 3 nofun),(H.h4∘ol 4 nofun),(H.h5∘ol 5 nofun),(H.h6∘ol 6 nofun),(H.h7∘ol 7 nofun),(H.h8∘ol 8 nofun),(fun _=>rfl),(H.h10∘ol 10 nofun),(H.h11∘ol 11 nofun),(H.h12∘ol 12 nofun),(fun h=>let ⟨g,q1,q2,o,q3⟩:=H.h13 (ol 13 (by decide) h);⟨g,q1,q2,o,q3.call hb⟩),(fun h=>let ⟨g,q1,q2,q3⟩:=H.h14 (ol 14 (by decide) h);⟨g,q1,q2,q3.call hb⟩),(H.h15∘ol 15 nofun)⟩⟩⟩
    ·clear hi hi2
     have e33:=H.h9 (hdep 9 (memOf (by kernel_rfl)))
     subst e33
     exact step_run (i:=10) (w':=W) (v:=.tuple #[.agg (dcs rd),.bool rb]) rfl rfl (by simp [execOp,Act.eval,go_sem]) ⟨_,_,_,_,_,_,_,_,_,_,_,_,_,_,_,rfl,⟨(H.m1),(H.h0∘ol 0 nofun),(H.h1∘ol 1 nofun),(H.h2∘ol 2 nofun),(H.h3∘ol 3 nofun),(H.h4∘ol 4 nofun),(H.h5∘ol 5 nofun),(H.h6∘ol 6 nofun),(H.h7∘ol 7 nofun),(H.h8∘ol 8 nofun),(H.h9∘ol 9 nofun),(fun _=>rfl),(H.h11∘ol 11 nofun),(H.h12∘ol 12 nofun),(H.h13∘ol 13 nofun),(H.h14∘ol 14 nofun),(H.h15∘ol 15 nofun)⟩⟩
    ·clear hi hi2
     have e23:=H.h10 (hdep 10 (memOf (by kernel_rfl)))
     subst e23
     exact step_run (i:=11) (w':=W) (v:=.agg (dcs rd)) rfl rfl (by simp [execOp,Act.eval,go_sem]) ⟨_,_,_,_,_,_,_,_,_,_,_,_,_,_,_,rfl,⟨(H.m1),(H.h0∘ol 0 nofun),(H.h1∘ol 1 nofun),(H.h2∘ol 2 nofun),(H.h3∘ol 3 nofun),(H.h4∘ol 4 nofun),(H.h5∘ol 5 nofun),(H.h6∘ol 6 nofun),(H.h7∘ol 7 nofun),(H.h8∘ol 8 nofun),(H.h9∘ol 9 nofun),(H.h10∘ol 10 nofun),(fun _=>rfl),(H.h12∘ol 12 nofun),(H.h13∘ol 13 nofun),(H.h14∘ol 14 nofun),(H.h15∘ol 15 nofun)⟩⟩
    ·clear hi hi2
     have e23:=H.h10 (hdep 10 (memOf (by kernel_rfl)))
     subst e23
     exact step_run (i:=12) (w':=W) (v:=.bool rb) rfl rfl (by simp [execOp,Act.eval,go_sem]) ⟨_,_,_,_,_,_,_,_,_,_,_,_,_,_,_,rfl,⟨(H.m1),(H.h0∘ol 0 nofun),(H.h1∘ol 1 nofun),(H.h2∘ol 2 nofun),(H.h3∘ol 3 nofun),(H.h4∘ol 4 nofun),(H.h5∘ol 5 nofun),(H.h6∘ol 6 nofun),(H.h7∘ol 7 nofun),(H.h8∘ol 8 nofun),(H.h9∘ol 9 nofun),(H.h10∘ol 10 nofun),(H.h11∘ol 11 nofun),(fun _=>rfl),(H.h13∘ol 13 nofun),(H.h14∘ol 14 nofun),(H.h15∘ol 15 nofun)⟩⟩
    ·clear hi hi2
     have hb:Below W.heap.size W (W.alloc (.cells (dcs zeroD) 34)):=(Below.refl _ W).alloc (Nat.le_refl _) _
     exact step_run (i:=13) (w':=(W.alloc (.cells (dcs zeroD) 34))) (v:=ptr W.heap.size) rfl rfl (by simp [execOp,Act.eval,go_sem]) ⟨_,_,_,_,_,_,_,_,_,_,_,_,_,_,_,rfl,⟨(H.m1.trans (hb.mono H.m1.size)),(H.h0∘ol 0 nofun),(H.h1∘ol 1 nofun),(H.h2∘ol 2 nofun),(H.h3∘ol 3 nofun),(H.h4∘ol 4 nofun),(H.h5∘ol 5 nofun),(H.h6∘ol 6 nofun),(H.h7∘ol 7 nofun),(H.h8∘ol 8 nofun),(H.h9∘ol 9 nofun),(H.h10∘ol 10 nofun),(H.h11∘ol 11 nofun),(H.h12∘ol 12 nofun),(fun _=>⟨_,rfl,H.m1.size,_,Blk.new W _ _⟩),(fun h=>(not_yet hL (hcl 14 (by simp) (ol 14 (by decide) h) 13 (memOf (by kernel_rfl)))).elim),(H.h15∘ol 15 nofun)⟩⟩
    ·clear hi hi2
     have e34:=H.h11 (hdep 11 (memOf (by kernel_rfl)))
     have e9:=H.h13 (hdep 13 (memOf (by kernel_rfl)))
     subst e34
     obtain ⟨b,rfl,hb1,o,hb2⟩:=e9
     have sv:=run_stDp (r:=rd) hb2
     exact step_sk (i:=14) (w':=(W.setRow b (dcs rd))) rfl rfl (by simp [execOp,Act.eval,go_sem,sv]) ⟨_,_,_,_,_,_,_,_,_,_,_,_,_,_,_,rfl,⟨(below_rowW H.m1 _ hb1),(H.h0∘ol 0 nofun),(H.h1∘ol 1 nofun),(H.h2∘ol 2 nofun),(H.h3∘ol 3 nofun),(H.h4∘ol 4 nofun),(H.h5∘ol 5 nofun),(H.h6∘ol 6 nofun),(H.h7∘ol 7 nofun),(H.h8∘ol 8 nofun),(H.h9∘ol 9 nofun),(H.h10∘ol 10 nofun),(H.h11∘ol 11 nofun),(H.h12∘ol 12 nofun),(fun _=>⟨b,rfl,hb1,_,hb2.row _⟩),(fun _=>⟨b,rfl,hb1,hb2.row _⟩),(H.h15∘ol 15 nofun)⟩⟩
    ·clear hi hi2
     have e35:=H.h12 (hdep 12 (memOf (by kernel_rfl)))
     subst e35
     exact step_run (i:=15) (w':=W) (v:=.bool rb) rfl rfl (by simp [execOp,Act.eval,go_sem]) ⟨_,_,_,_,_,_,_,_,_,_,_,_,_,_,_,rfl,⟨(H.m1),(H.h0∘ol 0 nofun),(H.h1∘ol 1 nofun),(H.h2∘ol 2 nofun),(H.h3∘ol 3 nofun),(H.h4∘ol 4 nofun),(H.h5∘ol 5 nofun),(H.h6∘ol 6 nofun),(H.h7∘ol 7 nofun),(H.h8∘ol 8 nofun),(H.h9∘ol 9 nofun),(H.h10∘ol 10 nofun),(H.h11∘ol 11 nofun),(H.h12∘ol 12 nofun),(H.h13∘ol 13 nofun),(H.h14∘ol 14 nofun),(fun _=>rfl)⟩⟩
   case done =>
    rintro L a W hall ⟨x9,x10,x23,x24,x25,x26,x27,x28,x29,x30,x31,x32,x33,x34,x35,rfl,H⟩
    obtain ⟨b9,e9,hb9,B9⟩:=H.h14 (hall 14 (by simp))
    have e10:=H.h15 (hall 15 (by simp))
    subst e9 e10
    have HQ:=Lib.hid (show DesAt X (c+2) M w M A rd rb (⟨N7,dcs nd,34⟩ :: [⟨w.heap.size+1,rcs zeroR,57⟩,⟨w.heap.size,acs q ql,52⟩]) [] [⟨xb,xcs o t,T⟩] (ptr b9) (.bool rb) W from ⟨_,rfl,rfl,HF3.out.drew.grow H.m1 B9 hb9⟩)
    clear H hxb hask hnow B9 hb9 hall
    go_wp2_with fail
    go_meet
    exact HQ.out
 case rest =>
 obtain ⟨N9,rfl,rfl,F4⟩:=hcut
 have HF4:=Lib.hid F4
 clear F4 HF3
 cases rb
 ·have HR:RR=(ans false,A):=HRR.out
  have HRH:=Lib.hid HR
  clear HR
  go_wp2_with (go_at_call 168;(with_reducible refine (answer_any false _).mono ?_);rintro e w5 ⟨rfl,hb⟩;have F5:=HF4.out.call hb;have s5:=run_stRp F5.l2.blk (r:=(ans false).mem nilS) ⟨_,_,_,rfl⟩;have HF5:=Lib.hid F5;clear hb F5)
  have F6:=HF5.out.put (l:=[⟨N9,dcs rd,34⟩,⟨N7,dcs nd,34⟩]) (rcs ((ans false).mem nilS)) (show 57 ≠ 32 by decide)
  refine bodyPost_ret (res_R rfl _ _ (w.heap.size+1) _ rfl F6.l2.blk) rfl ?_
  rw [HRH.out]
  exact (F6.less (by omega:c+1≤c+2)).fin1 (R:=(ans false,A)) rfl
 ·have HR:RR=(ans true,putF A o q.k rd):=HRR.out
  have HRH:=Lib.hid HR
  clear HR
  have FD:=HF4.out.drew
  have xn:=x_num FD.r0
  have lk:=ask_k FD.l3.blk
  have ld:=d_all FD.l0.blk
  have hst:=store_at FD.wis
  have hp:=wPut FD.wis o q.k HKK.out rd
  have HFD:=Lib.hid FD
  clear FD
  go_upto_region 4 with fail
  go_cut [] from 11 to 49 (fun wx=>∃ M6,Fm X (c+1) M w M6 wx (putF A o q.k rd) (⟨N9,dcs rd,34⟩ :: ⟨N7,dcs nd,34⟩ :: [⟨w.heap.size+1,rcs zeroR,57⟩,⟨w.heap.size,acs q ql,52⟩]) [] [⟨xb,xcs o t,T⟩])
  case first =>
   go_region_with (first |(go_at_call 100;(with_reducible refine hst.mono ?_);rintro e w3 ⟨rfl,rfl⟩) |(go_at_call 36;(with_reducible refine hp.mono ?_);rintro e w6 ⟨⟨b6,rfl⟩,M6,hM6,h6⟩;have HF6:=Lib.hid (HFD.out.leftB h6);clear h6 hM6))
   all_goals (go_wp2_with fail;go_meet;exact ⟨_,HF6.out⟩)
  case rest =>
  obtain ⟨M6,F6⟩:=hcut
  have HF6:=Lib.hid F6
  clear F6 xn lk ld hst hp
  go_wp2_with (go_at_call 168;(with_reducible refine (answer_any true _).mono ?_);rintro e w7 ⟨rfl,hb⟩;have F7:=HF6.out.call hb;have s7:=run_stRp F7.l2.blk (r:=(ans true).mem nilS) ⟨_,_,_,rfl⟩;have HF7:=Lib.hid F7;clear hb F7)
  have F8:=HF7.out.put (l:=[⟨N9,dcs rd,34⟩,⟨N7,dcs nd,34⟩]) (rcs ((ans true).mem nilS)) (show 57 ≠ 32 by decide)
  refine bodyPost_ret (res_R rfl _ _ (w.heap.size+1) _ rfl F8.l2.blk) rfl ?_
  rw [HRH.out]
  exact F8.fin1 (R:=(ans true,putF A o q.k rd)) rfl
end
end Go.Proofs.YtkadkmnolkkhgaaGreatDoor.Mw

/-
 defineLength: no length; no less.
-/
namespace Go.Proofs.YtkadkmnolkkhgaaGreatDoor.Mw
open Go Go.RowKit Go.Maps Go.Shelf Keys Hp Mo
open Des (Vl Ds zeroV zeroD dcs dcs_size dcs_one accF rigF appF eqV)
open Arrs (En ecs)
open Rg
attribute [local go_sem ↓] ldR stR alR bxR bdR ldV stV alV bxV bdV ldA stA bxA bdA ldKy bxKy bdKy ldD stD alD bxDe
attribute [local irreducible] rcs dcs ecs vcs acs kcs xcs tcs
attribute [local go_sem] run_bx run_alR run_stRg run_bdA0 run_bdAk run_bdAkr run_bdAkvr run_bdAr run_bdAkd run_bdRz run_bdRd run_bdRk run_bdRf run_bdRo run_bdRs run_bdRt' run_bdKs run_alD run_stDg
section
variable {X:Cx} {c:Nat} {M M' M'':Wm} {w w' w'':World} {A A' A'':Aw} {ls:List Lc} {kl:List (Value × List KV)} {ro:List Lc} {D:DoT}
set_option maxRecDepth 100000 in
set_option maxHeartbeats 4000000 in
theorem defLen_bad (h:WIs X (c+3) M w A) (o:Int) {t:Th} {T:TypeId} {xb:Nat} (hx:Blk w xb (xcs o t) T) (hxo:xb ∉ M.bl X.wb) {x:Ob} (hat:at? A o=some x) (q:Aq) (ql:Value) (hk:Fine q.k) (len:Ds) (hb:(Arrs.lenF q.d.v.k q.d.v.n).2=false) :
  Calls Tryz.prog 159 #[ptr X.wb,ptr xb,.agg (acs q ql),.agg (dcs len)] w (Post X c M w (failF rangeErr A)):=by
 obtain ⟨w1,hw1⟩:∃ w1,((w.alloc (.cells (acs q ql) 52)).alloc (.cells (dcs len) 34)).alloc (.cells (rcs zeroR) 57)=w1:=⟨_,rfl⟩
 have F0:Fm X (c+3) M w M w1 A [⟨w.heap.size+2,rcs zeroR,57⟩,⟨w.heap.size+1,dcs len,34⟩,⟨w.heap.size,acs q ql,52⟩] [] [⟨xb,xcs o t,T⟩]:=by
  rw [← hw1];exact ((((Fm.start h).with hx hxo).newg _ _ _ rfl).newg _ _ _ (by simp)).newg _ _ _ (by simp)
 have qv:=q_dv F0.l2.blk
 obtain ⟨tn,htn⟩:∃ n,(Arrs.lenF q.d.v.k q.d.v.n).1=n:=⟨_,rfl⟩
 obtain ⟨tb,htb⟩:∃ b,(Arrs.lenF q.d.v.k q.d.v.n).2=b:=⟨_,rfl⟩
 have hlv:=len_val q.d.v w1
 rw [htn,htb] at hlv
 rw [hb] at htb
 subst htb
 have F0:=F0.less (c':=c+1) (by omega)
 have HF0:=Lib.hid F0
 clear F0 h hx hxo hk hat hb htn
 go_enter Tryz.func159,Tryz.ntmps159
 go_wp2_with (first |(go_at_call 188;(with_reducible refine hlv.mono ?_);rintro e w2 ⟨rfl,hb⟩;have F2:=HF0.out.call hb;have hf:=fail_any F2.wis rangeErr;have HF2:=Lib.hid F2;clear hb F2) |(go_at_call 50;refine hf.mono ?_;intro e w3 hp;obtain ⟨M3,kv3,rfl,hks,hM,hn⟩:=FailP.post hp;have hg3:=Rr.good _ hks;have F3:=HF2.out.post hks hM hn;have s3:=run_stRp F3.l0.blk hg3;have HF3:=Lib.hid F3;clear hks hM hn hp F3))
 have F4:=HF3.out.put (l:=[]) (rcs ((failF rangeErr A).1.mem kv3)) (show 57 ≠ 32 by decide)
 refine bodyPost_ret (res_R rfl _ _ (w.heap.size+2) _ rfl F4.l0.blk) rfl ?_
 exact F4.fin F4.k0
set_option maxRecDepth 100000 in
set_option maxHeartbeats 4000000 in
theorem defLen_more (h:WIs X (c+3) M w A) (o:Int) {t:Th} {T:TypeId} {xb:Nat} (hx:Blk w xb (xcs o t) T) (hxo:xb ∉ M.bl X.wb) {x:Ob} (hat:at? A o=some x) (q:Aq) (ql:Value) (hk:Fine q.k) (len:Ds) (hb:(Arrs.lenF q.d.v.k q.d.v.n).2=true) (hge:(Arrs.lenF q.d.v.k q.d.v.n).1 ≥ len.v.n) :
  Calls Tryz.prog 159 #[ptr X.wb,ptr xb,.agg (acs q ql),.agg (dcs len)] w (Post X c M w (applyF o t q A)):=by
 obtain ⟨w1,hw1⟩:∃ w1,((w.alloc (.cells (acs q ql) 52)).alloc (.cells (dcs len) 34)).alloc (.cells (rcs zeroR) 57)=w1:=⟨_,rfl⟩
 have F0:Fm X (c+3) M w M w1 A [⟨w.heap.size+2,rcs zeroR,57⟩,⟨w.heap.size+1,dcs len,34⟩,⟨w.heap.size,acs q ql,52⟩] [] [⟨xb,xcs o t,T⟩]:=by
  rw [← hw1];exact ((((Fm.start h).with hx hxo).newg _ _ _ rfl).newg _ _ _ (by simp)).newg _ _ _ (by simp)
 have qv:=q_dv F0.l2.blk
 obtain ⟨tn,htn⟩:∃ n,(Arrs.lenF q.d.v.k q.d.v.n).1=n:=⟨_,rfl⟩
 obtain ⟨tb,htb⟩:∃ b,(Arrs.lenF q.d.v.k q.d.v.n).2=b:=⟨_,rfl⟩
 have hlv:=len_val q.d.v w1
 rw [htn,htb] at hlv
 rw [hb] at htb
 rw [htn] at hge
 subst htb
 have dl:decide (len.v.n≤tn)=true:=by simpa using hge
 have F0:=F0.less (c':=c+2) (by omega)
 have HF0:=Lib.hid F0
 have HK:=Lib.hid hk
 clear F0 h hx hxo hk hat hb htn hge
 go_enter Tryz.func159,Tryz.ntmps159
 go_upto_region 5 with (go_at_call 188;(with_reducible refine hlv.mono ?_);rintro e w2 ⟨rfl,hb⟩;have F2:=HF0.out.call hb;have dv:=d_vn F2.l1.blk;have FD:=F2.drew;have la:=run_ldAq FD.l2.blk;have ha:=apply_any FD.wis o FD.r0 FD.r0o q ql HK.out;have HFD:=Lib.hid FD;clear FD;have HF2:=Lib.hid F2;clear hb F2)
 go_region_with (first |(go_at_call 163;(with_reducible refine (self_any xb _).mono ?_);rintro e w9 ⟨rfl,rfl⟩) |(go_at_call 162;(with_reducible refine ha.mono ?_);rintro e w3 ⟨M3,kv3,rfl,hks,hM,hn⟩;have hg3:=Rr.good _ hks;have F3:=HFD.out.next (k2:=[(kv3,(applyF o t q A).1.ks)]) hM hn (fun k hk=>by rw [List.mem_singleton.1 hk];exact hks);have s3:=run_stRp F3.l0.blk hg3;have HF3:=Lib.hid F3;clear hks hM hn F3))
 all_goals
  have F4:=HF3.out.put (l:=[]) (rcs ((applyF o t q A).1.mem kv3)) (show 57 ≠ 32 by decide)
  go_wp2
  refine bodyPost_ret (res_R rfl _ _ (w.heap.size+2) _ rfl F4.l0.blk) rfl ?_
  exact F4.fin F4.k0
end
end Go.Proofs.YtkadkmnolkkhgaaGreatDoor.Mw
