/-
 Texts of this seat in build order: MwPrev, MwDef, MwGet, MwWrite.
-/
import Derived.Test.YtkadkmnolkkhgaaGreatDoorMb17
import Derived.Test.YtkadkmnolkkhgaaGreatDoorMb10
import Derived.Deep.DeepCutAuto
import Derived.Test.YtkadkmnolkkhgaaGreatDoorMb26
import Derived.Test.YtkadkmnolkkhgaaGreatDoorMb06
import Derived.Test.YtkadkmnolkkhgaaGreatDoorMb21
/-
 prevent.
-/
set_option linter.unusedVariables false
set_option linter.unusedSimpArgs false
namespace Go.Proofs.YtkadkmnolkkhgaaGreatDoor.Mw
open Go Go.RowKit Go.Maps Go.Shelf Keys Hp Mo
open Des (Vl Ds zeroV zeroD dcs dcs_size dcs_one accF rigF appF eqV)
open Arrs (En ecs)
open Rg
attribute [local go_sem ↓] ldR stR alR bxR bdR ldV stV alV bxV bdV ldA stA bxA bdA ldKy bxKy bdKy ldT stT alT
attribute [local irreducible] rcs dcs ecs vcs acs kcs xcs tcs
attribute [local go_sem] run_bx run_alR run_stRg run_bdA0 run_bdAk run_bdAkr run_bdAkvr run_bdAr run_bdAkd run_bdRz run_bdRd run_bdRk run_bdRf run_bdRo run_bdRs run_bdRt' run_bdKs run_alT
section
variable {X:Cx} {c:Nat} {M M' M'':Wm} {w w' w'':World} {A A' A'':Aw} {ls:List Lc} {kl:List (Value × List KV)} {ro:List Lc} {D:DoT}
structure PreI (X:Cx) (M:Wm) (xb N0:Nat) (o:Int) (x:Ob) (w1:World) (L:Array Bool) (x0 x1 x2 x3 x4 x5 x6 x7 x8 x9 x10 x11 x12 x13 x14 x15 x16 x17 x18 x19 x20 x21 x22 x23 x24 x25 x26 x27 x28 x29 x30 x31:Value) (W:World):Prop where
 k0:x0=ptr X.wb
 k1:x1=ptr xb
 k2:x2=undef
 k3:x3=undef
 k4:x4=ptr N0
 m1:Below w1.heap.size w1 W
 h0:L.getD 0 false=true→x13=ptr X.wb
 h1:L.getD 1 false=true→x14=ptr M.hb
 h2:L.getD 2 false=true→x15=ptr xb
 h3:L.getD 3 false=true→x16=ptr xb
 h4:L.getD 4 false=true→x17 = .pointer (some ⟨xb,0,none⟩)
 h5:L.getD 5 false=true→x18 = .int .i64 o
 h6:L.getD 6 false=true→∃ G,x19 = .tuple #[.agg (tcs G),.bool true]∧GetOk w1.heap.size W x G
 h7:L.getD 7 false=true→∃ G,x12 = .tuple #[.agg (tcs G),.bool true]∧GetOk w1.heap.size W x G
 h8:L.getD 8 false=true→∃ G,x20 = .agg (tcs G)∧GetOk w1.heap.size W x G
 h9:L.getD 9 false=true→x21 = .bool true
 h10:L.getD 10 false=true→∃ b,x5=ptr b∧w1.heap.size≤b∧∃ o,Blk W b (tcs o) 39
 h11:L.getD 11 false=true→∃ b G,x5=ptr b∧w1.heap.size≤b∧Blk W b (tcs G) 39∧GetOk w1.heap.size W x G
 h12:L.getD 12 false=true→x6 = .bool true
set_option maxRecDepth 100000 in
set_option maxHeartbeats 4000000 in
theorem prevent_any (h:WIs X (c+1) M w A) (o:Int) {t:Th} {T:TypeId} {xb:Nat} (hx:Blk w xb (xcs o t) T) (hxo:xb ∉ M.bl X.wb) {x:Ob} (hat:at? A o=some x) :
  Calls Tryz.prog 169 #[ptr X.wb,ptr xb] w (Post X c M w (preventF o t A)):=by
 obtain ⟨w1,hw1⟩:∃ w1,w.alloc (.cells (rcs zeroR) 57)=w1:=⟨_,rfl⟩
 have F0:Fm X (c+1) M w M w1 A [⟨w.heap.size,rcs zeroR,57⟩] [] [⟨xb,xcs o t,T⟩]:=by
  rw [← hw1];exact ((Fm.start h).with hx hxo).new _ _
 have hfit:=h.fit hat
 have HAT:=Lib.hid hat
 have HFIT:=Lib.hid hfit
 have HGET:Hid (∀ {w':World},WIs X (c+1) M w' A→Calls Tryz.prog 20 #[ptr M.hb,.int .i64 o] w' fun e w2=>∃ G,e = .returned (.tuple #[.agg (tcs G),.bool true])∧GetOk w'.heap.size w2 x G∧Below w'.heap.size w' w2):=Lib.hid fun h'=>wGetR h' hat
 have xe:=x_ext F0.r0
 have HF0:=Lib.hid F0
 unfold preventF
 rw [hat]
 clear F0 h hx hxo hat hfit
 cases he:t.ext
 ·rw [he] at xe
  simp only [Bool.false_eq_true,if_false]
  have ha:=answer_any true w1
  go_enter Tryz.func169,Tryz.ntmps169
  go_wp2_with (go_at_call 168;(with_reducible refine ha.mono ?_);rintro e w2 ⟨rfl,hb⟩;have F2:=HF0.out.call hb;have s2:=run_stRp F2.l0.blk (r:=(ans true).mem nilS) ⟨_,_,_,rfl⟩;have HF2:=Lib.hid F2;clear hb F2)
  have F4:=HF2.out.put (l:=[]) (rcs ((ans true).mem nilS)) (show 57 ≠ 32 by decide)
  refine bodyPost_ret (res_R rfl _ _ w.heap.size _ rfl F4.l0.blk) rfl ?_
  exact F4.fin1 rfl
 ·rw [he] at xe
  simp only [if_true]
  go_enter Tryz.func169,Tryz.ntmps169
  go_upto_region 2 with fail
  go_cut [5,6] from 7 to 31 (fun s1 s2 wx=>ThAt X (c+1) M w M A x w1.drew.heap.size [⟨w.heap.size,rcs zeroR,57⟩] [] [⟨xb,xcs o t,T⟩] s1 s2 wx)
  case first =>
   have hwis:=HF0.out.drew.wis
   have hxb:=HF0.out.drew.r0
   refine region_inv (by kernel_rfl) (fun L a W=>∃ x0 x1 x2 x3 x4 x5 x6 x7 x8 x9 x10 x11 x12 x13 x14 x15 x16 x17 x18 x19 x20 x21 x22 x23 x24 x25 x26 x27 x28 x29 x30 x31:Value,a={ tmps:=#[x0,x1,x2,x3,x4,x5,x6,x7,x8,x9,x10,x11,x12,x13,x14,x15,x16,x17,x18,x19,x20,x21,x22,x23,x24,x25,x26,x27,x28,x29,x30,x31],defers:=[] }∧PreI X M xb w.heap.size o x w1.drew L x0 x1 x2 x3 x4 x5 x6 x7 x8 x9 x10 x11 x12 x13 x14 x15 x16 x17 x18 x19 x20 x21 x22 x23 x24 x25 x26 x27 x28 x29 x30 x31 W) (by kernel_rfl) ?start ?step ?done
   case start=>exact ⟨_,_,_,_,_,_,_,_,_,_,_,_,_,_,_,_,_,_,_,_,_,_,_,_,_,_,_,_,_,_,_,_,rfl,⟨rfl,rfl,rfl,rfl,rfl,Below.refl _ _,fun h=>by simp [Array.getD_eq_getD_getElem?] at h,fun h=>by simp [Array.getD_eq_getD_getElem?] at h,fun h=>by simp [Array.getD_eq_getD_getElem?] at h,fun h=>by simp [Array.getD_eq_getD_getElem?] at h,fun h=>by simp [Array.getD_eq_getD_getElem?] at h,fun h=>by simp [Array.getD_eq_getD_getElem?] at h,fun h=>by simp [Array.getD_eq_getD_getElem?] at h,fun h=>by simp [Array.getD_eq_getD_getElem?] at h,fun h=>by simp [Array.getD_eq_getD_getElem?] at h,fun h=>by simp [Array.getD_eq_getD_getElem?] at h,fun h=>by simp [Array.getD_eq_getD_getElem?] at h,fun h=>by simp [Array.getD_eq_getD_getElem?] at h,fun h=>by simp [Array.getD_eq_getD_getElem?] at h⟩⟩
   case step =>
    intro i L a W hi hdep hL hs hcl hI
    have hi2:i < 13:=by simpa using hi
    obtain ⟨x0,x1,x2,x3,x4,x5,x6,x7,x8,x9,x10,x11,x12,x13,x14,x15,x16,x17,x18,x19,x20,x21,x22,x23,x24,x25,x26,x27,x28,x29,x30,x31,rfl,H⟩:=hI
    have ol:∀ j,i ≠ j→(L.setIfInBounds i true).getD j false=true→L.getD j false=true:=fun j hj h=>by rwa [getD_set hj] at h
    rcases (by omega:i=0∨i=1∨i=2∨i=3∨i=4∨i=5∨i=6∨i=7∨i=8∨i=9∨i=10∨i=11∨i=12) with rfl |rfl |rfl |rfl |rfl |rfl |rfl |rfl |rfl |rfl |rfl |rfl |rfl
    ·clear hi hi2
     have k0:=H.k0
     subst k0
     exact step_run (i:=0) (w':=W) (v:=ptr X.wb) rfl rfl (by simp [execOp,Act.eval,go_sem]) ⟨_,_,_,_,_,_,_,_,_,_,_,_,_,_,_,_,_,_,_,_,_,_,_,_,_,_,_,_,_,_,_,_,rfl,⟨(H.k0),(H.k1),(H.k2),(H.k3),(H.k4),(H.m1),(fun _=>rfl),(H.h1∘ol 1 nofun),(H.h2∘ol 2 nofun),(H.h3∘ol 3 nofun),(H.h4∘ol 4 nofun),(H.h5∘ol 5 nofun),(H.h6∘ol 6 nofun),(H.h7∘ol 7 nofun),(H.h8∘ol 8 nofun),(H.h9∘ol 9 nofun),(H.h10∘ol 10 nofun),(H.h11∘ol 11 nofun),(H.h12∘ol 12 nofun)⟩⟩
    ·clear hi hi2
     have e13:=H.h0 (hdep 0 (memOf (by kernel_rfl)))
     subst e13
     refine step_call (i:=1) (f:=100) (args:=#[ptr X.wb]) rfl rfl (by simp [execOp,Act.eval,go_sem]) (stW (hwis.call H.m1)) ?_
     rintro e W2 ⟨rfl,hq⟩
     subst hq
     exact ⟨_,rfl,⟨_,_,_,_,_,_,_,_,_,_,_,_,_,_,_,_,_,_,_,_,_,_,_,_,_,_,_,_,_,_,_,_,rfl,⟨(H.k0),(H.k1),(H.k2),(H.k3),(H.k4),(H.m1),(H.h0∘ol 0 nofun),(fun _=>rfl),(H.h2∘ol 2 nofun),(H.h3∘ol 3 nofun),(H.h4∘ol 4 nofun),(H.h5∘ol 5 nofun),(H.h6∘ol 6 nofun),(H.h7∘ol 7 nofun),(H.h8∘ol 8 nofun),(H.h9∘ol 9 nofun),(H.h10∘ol 10 nofun),(H.h11∘ol 11 nofun),(H.h12∘ol 12 nofun)⟩⟩⟩
    ·clear hi hi2
     have k1:=H.k1
     subst k1
     exact step_run (i:=2) (w':=W) (v:=ptr xb) rfl rfl (by simp [execOp,Act.eval,go_sem]) ⟨_,_,_,_,_,_,_,_,_,_,_,_,_,_,_,_,_,_,_,_,_,_,_,_,_,_,_,_,_,_,_,_,rfl,⟨(H.k0),(H.k1),(H.k2),(H.k3),(H.k4),(H.m1),(H.h0∘ol 0 nofun),(H.h1∘ol 1 nofun),(fun _=>rfl),(H.h3∘ol 3 nofun),(H.h4∘ol 4 nofun),(H.h5∘ol 5 nofun),(H.h6∘ol 6 nofun),(H.h7∘ol 7 nofun),(H.h8∘ol 8 nofun),(H.h9∘ol 9 nofun),(H.h10∘ol 10 nofun),(H.h11∘ol 11 nofun),(H.h12∘ol 12 nofun)⟩⟩
    ·clear hi hi2
     have e15:=H.h2 (hdep 2 (memOf (by kernel_rfl)))
     subst e15
     exact step_run (i:=3) (w':=W) (v:=ptr xb) rfl rfl (by simp [execOp,Act.eval,go_sem]) ⟨_,_,_,_,_,_,_,_,_,_,_,_,_,_,_,_,_,_,_,_,_,_,_,_,_,_,_,_,_,_,_,_,rfl,⟨(H.k0),(H.k1),(H.k2),(H.k3),(H.k4),(H.m1),(H.h0∘ol 0 nofun),(H.h1∘ol 1 nofun),(H.h2∘ol 2 nofun),(fun _=>rfl),(H.h4∘ol 4 nofun),(H.h5∘ol 5 nofun),(H.h6∘ol 6 nofun),(H.h7∘ol 7 nofun),(H.h8∘ol 8 nofun),(H.h9∘ol 9 nofun),(H.h10∘ol 10 nofun),(H.h11∘ol 11 nofun),(H.h12∘ol 12 nofun)⟩⟩
    ·clear hi hi2
     have e16:=H.h3 (hdep 3 (memOf (by kernel_rfl)))
     subst e16
     exact step_run (i:=4) (w':=W) (v:=.pointer (some ⟨xb,0,none⟩)) rfl rfl (by simp [execOp,Act.eval,go_sem]) ⟨_,_,_,_,_,_,_,_,_,_,_,_,_,_,_,_,_,_,_,_,_,_,_,_,_,_,_,_,_,_,_,_,rfl,⟨(H.k0),(H.k1),(H.k2),(H.k3),(H.k4),(H.m1),(H.h0∘ol 0 nofun),(H.h1∘ol 1 nofun),(H.h2∘ol 2 nofun),(H.h3∘ol 3 nofun),(fun _=>rfl),(H.h5∘ol 5 nofun),(H.h6∘ol 6 nofun),(H.h7∘ol 7 nofun),(H.h8∘ol 8 nofun),(H.h9∘ol 9 nofun),(H.h10∘ol 10 nofun),(H.h11∘ol 11 nofun),(H.h12∘ol 12 nofun)⟩⟩
    ·clear hi hi2
     have e17:=H.h4 (hdep 4 (memOf (by kernel_rfl)))
     subst e17
     have cq:=x_num (hxb.call H.m1)
     exact step_run (i:=5) (w':=W) (v:=.int .i64 o) rfl rfl (by simp [execOp,Act.eval,go_sem,cq]) ⟨_,_,_,_,_,_,_,_,_,_,_,_,_,_,_,_,_,_,_,_,_,_,_,_,_,_,_,_,_,_,_,_,rfl,⟨(H.k0),(H.k1),(H.k2),(H.k3),(H.k4),(H.m1),(H.h0∘ol 0 nofun),(H.h1∘ol 1 nofun),(H.h2∘ol 2 nofun),(H.h3∘ol 3 nofun),(H.h4∘ol 4 nofun),(fun _=>rfl),(H.h6∘ol 6 nofun),(H.h7∘ol 7 nofun),(H.h8∘ol 8 nofun),(H.h9∘ol 9 nofun),(H.h10∘ol 10 nofun),(H.h11∘ol 11 nofun),(H.h12∘ol 12 nofun)⟩⟩
    ·clear hi hi2
     have e14:=H.h1 (hdep 1 (memOf (by kernel_rfl)))
     have e18:=H.h5 (hdep 5 (memOf (by kernel_rfl)))
     subst e14
     subst e18
     refine step_call (i:=6) (f:=20) (args:=#[ptr M.hb,.int .i64 o]) rfl rfl (by simp [execOp,Act.eval,go_sem]) (HGET.out (hwis.call H.m1)) ?_
     rintro e W2 ⟨G,rfl,hG,hb⟩
     exact ⟨_,rfl,⟨_,_,_,_,_,_,_,_,_,_,_,_,_,_,_,_,_,_,_,_,_,_,_,_,_,_,_,_,_,_,_,_,rfl,⟨(H.k0),(H.k1),(H.k2),(H.k3),(H.k4),(H.m1.trans (hb.mono H.m1.size)),(H.h0∘ol 0 nofun),(H.h1∘ol 1 nofun),(H.h2∘ol 2 nofun),(H.h3∘ol 3 nofun),(H.h4∘ol 4 nofun),(H.h5∘ol 5 nofun),(fun _=>⟨G,rfl,hG.mono H.m1.size⟩),(fun h=>let ⟨G,q1,q2⟩:=H.h7 (ol 7 (by decide) h);⟨G,q1,q2.call hb⟩),(fun h=>let ⟨G,q1,q2⟩:=H.h8 (ol 8 (by decide) h);⟨G,q1,q2.call hb⟩),(H.h9∘ol 9 nofun),(fun h=>let ⟨g,q1,q2,o,q3⟩:=H.h10 (ol 10 (by decide) h);⟨g,q1,q2,o,q3.call hb⟩),(fun h=>let ⟨g,G,q1,q2,q3,q4⟩:=H.h11 (ol 11 (by decide) h);⟨g,G,q1,q2,q3.call hb,q4.call hb⟩),(H.h12∘ol 12 nofun)⟩⟩⟩
    ·clear hi hi2
     have e19:=H.h6 (hdep 6 (memOf (by kernel_rfl)))
     obtain ⟨G,rfl,hG⟩:=e19
     exact step_run (i:=7) (w':=W) (v:=.tuple #[.agg (tcs G),.bool true]) rfl rfl (by simp [execOp,Act.eval,go_sem]) ⟨_,_,_,_,_,_,_,_,_,_,_,_,_,_,_,_,_,_,_,_,_,_,_,_,_,_,_,_,_,_,_,_,rfl,⟨(H.k0),(H.k1),(H.k2),(H.k3),(H.k4),(H.m1),(H.h0∘ol 0 nofun),(H.h1∘ol 1 nofun),(H.h2∘ol 2 nofun),(H.h3∘ol 3 nofun),(H.h4∘ol 4 nofun),(H.h5∘ol 5 nofun),(H.h6∘ol 6 nofun),(fun _=>⟨G,rfl,hG⟩),(H.h8∘ol 8 nofun),(H.h9∘ol 9 nofun),(H.h10∘ol 10 nofun),(H.h11∘ol 11 nofun),(H.h12∘ol 12 nofun)⟩⟩
    ·clear hi hi2
     have e12:=H.h7 (hdep 7 (memOf (by kernel_rfl)))
     obtain ⟨G,rfl,hG⟩:=e12
     exact step_run (i:=8) (w':=W) (v:=.agg (tcs G)) rfl rfl (by simp [execOp,Act.eval,go_sem]) ⟨_,_,_,_,_,_,_,_,_,_,_,_,_,_,_,_,_,_,_,_,_,_,_,_,_,_,_,_,_,_,_,_,rfl,⟨(H.k0),(H.k1),(H.k2),(H.k3),(H.k4),(H.m1),(H.h0∘ol 0 nofun),(H.h1∘ol 1 nofun),(H.h2∘ol 2 nofun),(H.h3∘ol 3 nofun),(H.h4∘ol 4 nofun),(H.h5∘ol 5 nofun),(H.h6∘ol 6 nofun),(H.h7∘ol 7 nofun),(fun _=>⟨G,rfl,hG⟩),(H.h9∘ol 9 nofun),(H.h10∘ol 10 nofun),(H.h11∘ol 11 nofun),(H.h12∘ol 12 nofun)⟩⟩
    ·clear hi hi2
     have e12:=H.h7 (hdep 7 (memOf (by kernel_rfl)))
     obtain ⟨G,rfl,hG⟩:=e12
     exact step_run (i:=9) (w':=W) (v:=.bool true) rfl rfl (by simp [execOp,Act.eval,go_sem]) ⟨_,_,_,_,_,_,_,_,_,_,_,_,_,_,_,_,_,_,_,_,_,_,_,_,_,_,_,_,_,_,_,_,rfl,⟨(H.k0),(H.k1),(H.k2),(H.k3),(H.k4),(H.m1),(H.h0∘ol 0 nofun),(H.h1∘ol 1 nofun),(H.h2∘ol 2 nofun),(H.h3∘ol 3 nofun),(H.h4∘ol 4 nofun),(H.h5∘ol 5 nofun),(H.h6∘ol 6 nofun),(H.h7∘ol 7 nofun),(H.h8∘ol 8 nofun),(fun _=>rfl),(H.h10∘ol 10 nofun),(H.h11∘ol 11 nofun),(H.h12∘ol 12 nofun)⟩⟩
    ·clear hi hi2
     have hb:Below W.heap.size W (W.alloc (.cells (tcs zeroT) 39)):=(Below.refl _ W).alloc (Nat.le_refl _) _
     exact step_run (i:=10) (w':=(W.alloc (.cells (tcs zeroT) 39))) (v:=ptr W.heap.size) rfl rfl (by simp [execOp,Act.eval,go_sem]) ⟨_,_,_,_,_,_,_,_,_,_,_,_,_,_,_,_,_,_,_,_,_,_,_,_,_,_,_,_,_,_,_,_,rfl,⟨(H.k0),(H.k1),(H.k2),(H.k3),(H.k4),(H.m1.trans (hb.mono H.m1.size)),(H.h0∘ol 0 nofun),(H.h1∘ol 1 nofun),(H.h2∘ol 2 nofun),(H.h3∘ol 3 nofun),(H.h4∘ol 4 nofun),(H.h5∘ol 5 nofun),(fun h=>let ⟨G,q1,q2⟩:=H.h6 (ol 6 (by decide) h);⟨G,q1,q2.call hb⟩),(fun h=>let ⟨G,q1,q2⟩:=H.h7 (ol 7 (by decide) h);⟨G,q1,q2.call hb⟩),(fun h=>let ⟨G,q1,q2⟩:=H.h8 (ol 8 (by decide) h);⟨G,q1,q2.call hb⟩),(H.h9∘ol 9 nofun),(fun _=>⟨_,rfl,H.m1.size,_,Blk.new W _ _⟩),(fun h=>(not_yet hL (hcl 11 (by simp) (ol 11 (by decide) h) 10 (memOf (by kernel_rfl)))).elim),(H.h12∘ol 12 nofun)⟩⟩
    ·clear hi hi2
     have e20:=H.h8 (hdep 8 (memOf (by kernel_rfl)))
     have e5:=H.h10 (hdep 10 (memOf (by kernel_rfl)))
     obtain ⟨G,rfl,hG⟩:=e20
     obtain ⟨b,rfl,hb1,o2,hb2⟩:=e5
     have sv:=run_stTk hb2 hG.ok
     exact step_sk (i:=11) (w':=(W.setRow b (tcs G))) rfl rfl (by simp [execOp,Act.eval,go_sem,sv]) ⟨_,_,_,_,_,_,_,_,_,_,_,_,_,_,_,_,_,_,_,_,_,_,_,_,_,_,_,_,_,_,_,_,rfl,⟨(H.k0),(H.k1),(H.k2),(H.k3),(H.k4),(below_rowW H.m1 _ hb1),(H.h0∘ol 0 nofun),(H.h1∘ol 1 nofun),(H.h2∘ol 2 nofun),(H.h3∘ol 3 nofun),(H.h4∘ol 4 nofun),(H.h5∘ol 5 nofun),(fun h=>let ⟨G,q1,q2⟩:=H.h6 (ol 6 (by decide) h);⟨G,q1,q2.row hb2 (by decide) (by decide) _⟩),(fun h=>let ⟨G,q1,q2⟩:=H.h7 (ol 7 (by decide) h);⟨G,q1,q2.row hb2 (by decide) (by decide) _⟩),(fun h=>let ⟨G,q1,q2⟩:=H.h8 (ol 8 (by decide) h);⟨G,q1,q2.row hb2 (by decide) (by decide) _⟩),(H.h9∘ol 9 nofun),(fun _=>⟨b,rfl,hb1,_,hb2.row _⟩),(fun _=>⟨b,G,rfl,hb1,hb2.row _,hG.row hb2 (by decide) (by decide) _⟩),(H.h12∘ol 12 nofun)⟩⟩
    ·clear hi hi2
     have e21:=H.h9 (hdep 9 (memOf (by kernel_rfl)))
     subst e21
     exact step_run (i:=12) (w':=W) (v:=.bool true) rfl rfl (by simp [execOp,Act.eval,go_sem]) ⟨_,_,_,_,_,_,_,_,_,_,_,_,_,_,_,_,_,_,_,_,_,_,_,_,_,_,_,_,_,_,_,_,rfl,⟨(H.k0),(H.k1),(H.k2),(H.k3),(H.k4),(H.m1),(H.h0∘ol 0 nofun),(H.h1∘ol 1 nofun),(H.h2∘ol 2 nofun),(H.h3∘ol 3 nofun),(H.h4∘ol 4 nofun),(H.h5∘ol 5 nofun),(H.h6∘ol 6 nofun),(H.h7∘ol 7 nofun),(H.h8∘ol 8 nofun),(H.h9∘ol 9 nofun),(H.h10∘ol 10 nofun),(H.h11∘ol 11 nofun),(fun _=>rfl)⟩⟩
   case done =>
    rintro L a W hall ⟨x0,x1,x2,x3,x4,x5,x6,x7,x8,x9,x10,x11,x12,x13,x14,x15,x16,x17,x18,x19,x20,x21,x22,x23,x24,x25,x26,x27,x28,x29,x30,x31,rfl,H⟩
    obtain ⟨bL,G,eL,hbL,BL,hG⟩:=H.h11 (hall 11 (by simp))
    have eM:=H.h12 (hall 12 (by simp))
    have k0:=H.k0
    have k1:=H.k1
    have k2:=H.k2
    have k3:=H.k3
    have k4:=H.k4
    subst eL eM k0 k1 k2 k3 k4
    have HQ:=Lib.hid (show ThAt X (c+1) M w M A x w1.drew.heap.size [⟨w.heap.size,rcs zeroR,57⟩] [] [⟨xb,xcs o t,T⟩] (ptr bL) (.bool true) W from ⟨bL,G,rfl,rfl,hG,HF0.out.drew.growW H.m1 BL hbL⟩)
    clear H hwis hxb BL hbL hall hG
    go_wp2_with fail
    go_meet
    exact HQ.out
  case rest =>
  obtain ⟨N,G,rfl,rfl,hG,F3⟩:=hcut
  have hB3:Blk wc N (tcs G) 39:=F3.l0.blk
  have e4:wc.setCell ⟨N,4,none⟩ (.bool false)=wc.setRow N (tcs { G with ext:=false }):=row_cell hB3 _ (tcs_set4 _ _)
  have c4:wc.cell? ⟨N,4,none⟩=some (.bool G.ext):=t_ext hB3
  have f4:=hB3.frozen 4
  obtain ⟨w4,hw4⟩:∃ w4,wc.setCell ⟨N,4,none⟩ (.bool false)=w4:=⟨_,rfl⟩
  have F4:=F3.put (l:=[]) (tcs { G with ext:=false }) (show 39 ≠ 32 by decide)
  have hG4:=hG.row hB3 (by decide) (by decide) (tcs { G with ext:=false })
  have heq:bare { G with ext:=false }={ x.th with ext:=false }:=by rw [← hG.eq];rfl
  rw [← e4,hw4] at F4 hG4
  have FD:=F4.drew
  obtain ⟨f1,f2,f3,f5,f6,f7,f8⟩:=HFIT.out
  have hset:=wSet FD.wis HAT.out ((hG4.call (Below.refl _ _).drew).give (G':={ G with ext:=false }) rfl rfl f5 (by omega) f7) f3 f6 (fun hp=>by rw [← hG.eq] at f8;exact f8 hp)
  rw [heq] at hset
  have xn:=x_num FD.r0
  have lt:=run_ldT FD.l0.blk
  have hst:=stW FD.wis
  have HFD:=Lib.hid FD
  have HR:Hid (Fm X (c+1) M w M wc A (⟨N,tcs G,39⟩ :: [⟨w.heap.size,rcs zeroR,57⟩]) [] [⟨xb,xcs o t,T⟩]):=Lib.hid F3
  clear hB3 F3 F4 hG hG4 e4 FD f1 f2 f3 f5 f6 f7 f8 heq
  go_upto_region 4 with fail
  go_cut [] from 7 to 31 (fun wx=>∃ M6,Fm X (c+1) M w M6 wx (setOb A o { x with th:={ x.th with ext:=false } }) [⟨N,tcs { G with ext:=false },39⟩,⟨w.heap.size,rcs zeroR,57⟩] [] [⟨xb,xcs o t,T⟩])
  case first =>
   go_region_with (first |(go_at_call 100;(with_reducible refine hst.mono ?_);rintro e w5 ⟨rfl,rfl⟩) |(go_at_call 199;(with_reducible refine hset.mono ?_);rintro e w6 ⟨⟨b6,rfl⟩,M6,hM6,h6,n6⟩;have HF6:=Lib.hid (HFD.out.leftW ⟨h6,n6⟩);clear h6 n6 hM6))
   all_goals (go_wp2_with fail;go_meet;exact ⟨_,HF6.out⟩)
  case rest =>
  obtain ⟨M6,F6⟩:=hcut
  have HF6:=Lib.hid F6
  clear F6
  go_wp2_with (go_at_call 168;(with_reducible refine (answer_any true _).mono ?_);rintro e w7 ⟨rfl,hb⟩;have F7:=HF6.out.call hb;have s7:=run_stRp F7.l1.blk (r:=(ans true).mem nilS) ⟨_,_,_,rfl⟩;have HF7:=Lib.hid F7;clear hb F7)
  have F8:=HF7.out.put (l:=[⟨N,tcs { G with ext:=false },39⟩]) (rcs ((ans true).mem nilS)) (show 57 ≠ 32 by decide)
  refine bodyPost_ret (res_R rfl _ _ w.heap.size _ rfl F8.l1.blk) rfl ?_
  exact F8.fin1 rfl
end
end Go.Proofs.YtkadkmnolkkhgaaGreatDoor.Mw

/-
 define.
-/
namespace Go.Proofs.YtkadkmnolkkhgaaGreatDoor.Mw
open Go Go.RowKit Go.Maps Go.Shelf Keys Hp Mo
open Des (Vl Ds zeroV zeroD dcs dcs_size dcs_one accF rigF appF eqV)
open Arrs (En ecs)
attribute [local go_sem ↓] ldR stR alR bxR bdR ldV stV alV bxV bdV ldA stA bxA bdA ldKy bxKy bdKy ldD stD alD bxDe
attribute [local irreducible] rcs dcs ecs vcs acs kcs xcs tcs
attribute [local go_sem] run_bx run_alR run_stRg run_bdA0 run_bdAk run_bdAkr run_bdAkvr run_bdAr run_bdAkd run_bdRz run_bdRd run_bdRk run_bdRf run_bdRo run_bdRs run_bdRt' run_bdKs run_alD run_stDg
section
variable {X:Cx} {c:Nat} {M M' M'':Wm} {w w' w'':World} {A A' A'':Aw} {ls:List Lc} {kl:List (Value × List KV)} {ro:List Lc} {D:DoT}
set_option maxRecDepth 100000 in
set_option maxHeartbeats 4000000 in
theorem define_any (h:WIs X (c+2) M w A) (o:Int) {t:Th} {T:TypeId} {xb:Nat} (hx:Blk w xb (xcs o t) T) (hxo:xb ∉ M.bl X.wb) (q:Aq) (ql:Value) (hk:Fine q.k) :
  Calls Tryz.prog 170 #[ptr X.wb,ptr xb,.agg (acs q ql)] w (Post X c M w (defineF o t q A)):=by
 obtain ⟨w1,hw1⟩:∃ w1,(w.alloc (.cells (acs q ql) 52)).alloc (.cells (rcs zeroR) 57)=w1:=⟨_,rfl⟩
 have F0:Fm X (c+2) M w M w1 A [⟨w.heap.size+1,rcs zeroR,57⟩,⟨w.heap.size,acs q ql,52⟩] [] [⟨xb,xcs o t,T⟩]:=by
  rw [← hw1];exact (((Fm.start h).with hx hxo).new _ _).newg _ _ _ (by simp)
 have ad:=ask_d F0.l1.blk
 have hr:∀ b,rigF q.d=b→Calls Tryz.prog 79 #[.agg (dcs q.d)] w1 fun e w'=>e = .returned (.bool b)∧Below w1.heap.size w1 w':=fun b hb=>hb ▸ Des.rig_any q.d w1
 have HF0:=Lib.hid F0
 have HKK:=Lib.hid hk
 unfold defineF
 cases hg:rigF q.d
 ·have hrr:=hr false hg
  simp only [Bool.false_eq_true,if_false]
  clear F0 h hx hxo hr hg hk
  go_enter Tryz.func170,Tryz.ntmps170
  go_wp2_with (first |(go_at_call 79;(with_reducible refine hrr.mono ?_);rintro e w2 ⟨rfl,hb⟩;have F2:=HF0.out.call hb;have hf:=fail_any F2.wis typeErr;have HF2:=Lib.hid F2;clear hb F2) |(go_at_call 50;refine hf.mono ?_;intro e w3 hp;obtain ⟨M3,kv3,rfl,hks,hM,hn⟩:=FailP.post hp;have hg3:=Rr.good _ hks;have F3:=HF2.out.post hks hM hn;have s3:=run_stRp F3.l0.blk hg3;have HF3:=Lib.hid F3;clear hks hM hn hp F3))
  have F4:=HF3.out.put (l:=[]) (rcs ((failF typeErr A).1.mem kv3)) (show 57 ≠ 32 by decide)
  refine bodyPost_ret (res_R rfl _ _ (w.heap.size+1) _ rfl F4.l0.blk) rfl ?_
  exact (F4.less (by unfold cr;split <;> omega)).fin F4.k0
 ·have hrr:=hr true hg
  simp only [if_true]
  clear F0 h hx hxo hr hg hk
  go_enter Tryz.func170,Tryz.ntmps170
  go_wp2_with (first |(go_at_call 79;(with_reducible refine hrr.mono ?_);rintro e w2 ⟨rfl,hb⟩;have F2:=HF0.out.call hb;have la:=run_ldAq F2.l1.blk;have ha:=apply_any F2.wis o F2.r0 F2.r0o q ql HKK.out;have HF2:=Lib.hid F2;clear hb F2) |(go_at_call 162;(with_reducible refine ha.mono ?_);rintro e w3 ⟨M3,kv3,rfl,hks,hM,hn⟩;have hg3:=Rr.good _ hks;have F3:=HF2.out.next (k2:=[(kv3,(applyF o t q A).1.ks)]) hM hn (fun k hk=>by rw [List.mem_singleton.1 hk];exact hks);have s3:=run_stRp F3.l0.blk hg3;have HF3:=Lib.hid F3;clear hks hM hn F3))
  have F4:=HF3.out.put (l:=[]) (rcs ((applyF o t q A).1.mem kv3)) (show 57 ≠ 32 by decide)
  refine bodyPost_ret (res_R rfl _ _ (w.heap.size+1) _ rfl F4.l0.blk) rfl ?_
  exact F4.fin F4.k0
end
end Go.Proofs.YtkadkmnolkkhgaaGreatDoor.Mw

/-
 get.
-/
namespace Go.Proofs.YtkadkmnolkkhgaaGreatDoor.Mw
open Go Go.RowKit Go.Maps Go.Shelf Keys Hp Mo
open Des (Vl Ds zeroV zeroD dcs dcs_size dcs_one accF rigF appF eqV)
open Arrs (En ecs)
attribute [local go_sem ↓] ldR stR alR bxR bdR ldV stV alV bxV bdV ldA stA bxA bdA ldKy bxKy bdKy ldD stD alD bxDe
attribute [local irreducible] rcs dcs ecs vcs acs kcs xcs tcs
attribute [local go_sem] run_bx run_alR run_stRg run_bdA0 run_bdAk run_bdAkr run_bdAkvr run_bdAr run_bdArl run_bdAkd run_bdRz run_bdRd run_bdRk run_bdRf run_bdRo run_bdRs run_bdRt' run_bdKs run_alD run_stDg
section
variable {X:Cx} {c:Nat} {M M' M'':Wm} {w w' w'':World} {A A' A'':Aw} {ls:List Lc} {kl:List (Value × List KV)} {ro:List Lc} {D:DoT}
set_option maxRecDepth 100000 in
set_option maxHeartbeats 4000000 in
theorem get_any (HD:DoIs X D) (h:WIs X (c+1) M w A) (o:Int) {t:Th} {T:TypeId} {xb:Nat} (hx:Blk w xb (xcs o t) T) (hxo:xb ∉ M.bl X.wb) (q:Aq) (ql:Value) (hk:Fine q.k) :
  Calls Tryz.prog 172 #[ptr X.wb,ptr xb,.agg (acs q ql)] w (Post X c M w (getF D o q A)):=by
 obtain ⟨w1,hw1⟩:∃ w1,(w.alloc (.cells (acs q ql) 52)).alloc (.cells (rcs zeroR) 57)=w1:=⟨_,rfl⟩
 have F0:Fm X (c+1) M w M w1 A [⟨w.heap.size+1,rcs zeroR,57⟩,⟨w.heap.size,acs q ql,52⟩] [] [⟨xb,xcs o t,T⟩]:=by
  rw [← hw1];exact (((Fm.start h).with hx hxo).new _ _).newg _ _ _ (by simp)
 have FB:=F0.drew
 have FA:=(F0.new (rcs zeroR) 57).drew
 have xnA:=x_num FA.r0
 have xnB:=x_num FB.r0
 have lkA:=ask_k FA.l2.blk
 have lkB:=ask_k FB.l1.blk
 have hdA:=HD _ _ _ _ 5 o { zeroQ with k:=q.k } nilS FA.wis hk (VsOut.nil _ _) (by simp [zeroQ])
 have hdB:=HD _ _ _ _ 5 o { zeroQ with k:=q.k } nilS FB.wis hk (VsOut.nil _ _) (by simp [zeroQ])
 unfold getF
 obtain ⟨R,hR⟩:∃ R,D 5 o { zeroQ with k:=q.k } A=R:=⟨_,rfl⟩
 rw [hR] at hdA hdB ⊢
 have FA:=Lib.hid FA
 have FB:=Lib.hid FB
 have HDD:=Lib.hid (show DoIs X D from HD)
 have HKK:=Lib.hid hk
 clear F0 h hx hxo HD hk hR
 obtain ⟨R1,R2⟩:=R
 simp only at hdA hdB xnA xnB lkA lkB ⊢
 obtain ⟨RR,hRR⟩:∃ RR,RR=(if abr R1=true then (R1,R2) else if R1.has=true then readF D R1.d q.r R2 else match inherF D 8 o { zeroQ with k:=q.k,r:=q.r } R2 with |((r,_),A)=>(r,A)):=⟨_,rfl⟩
 rw [← hRR]
 have HRR:=Lib.hid hRR
 clear hRR
 go_enter Tryz.func172,Tryz.ntmps172
 go_upto_region 1 with fail
 go_cut [7] from 8 to 42 (fun s wx=>OwnAt X c M w (R1,R2) [⟨w.heap.size+1,rcs zeroR,57⟩,⟨w.heap.size,acs q ql,52⟩] [⟨xb,xcs o t,T⟩] s wx)
 case first =>
  go_region_with (first |(go_at_call 19;refine hdA.mono ?_;rintro e w2 ⟨M2,kv2,rfl,hks,hM,hn⟩;have hg2:=Rr.good _ hks;have F2:=FA.out.post hks hM hn;have s2:=run_stRp F2.l0.blk hg2;have HQ:=Lib.hid (show OwnAt X c M w (R1,R2) [⟨w.heap.size+1,rcs zeroR,57⟩,⟨w.heap.size,acs q ql,52⟩] [⟨xb,xcs o t,T⟩] (ptr w1.heap.size) _ from ⟨M2,_,kv2,rfl,F2.put (l:=[]) (rcs (R1.mem kv2)) (show 57 ≠ 32 by decide),hg2⟩);clear hks hM hn F2) |(go_at_call 19;refine hdB.mono ?_;rintro e w2 ⟨M2,kv2,rfl,hks,hM,hn⟩;have hg2:=Rr.good _ hks;have HQ:=Lib.hid (show OwnAt X c M w (R1,R2) [⟨w.heap.size+1,rcs zeroR,57⟩,⟨w.heap.size,acs q ql,52⟩] [⟨xb,xcs o t,T⟩] (ptr w2.heap.size) _ from ⟨M2,_,kv2,rfl,(FB.out.post hks hM hn).new (rcs (R1.mem kv2)) _,hg2⟩);clear hks hM hn))
  all_goals (go_wp2_with fail;go_meet;exact HQ.out)
 case rest =>
 obtain ⟨M2,N,kv2,rfl,F3,hg2⟩:=hcut
 have HG2:=Lib.hid hg2
 have lr:=run_ldRp F3.l0.blk
 have HF3:=Lib.hid F3
 clear F3 hg2 hdA hdB xnA xnB lkA lkB FA FB
 cases hab:abr R1
 ·have HAB:=Lib.hid hab
  clear hab
  cases hh:R1.has
  ·have HH:=Lib.hid hh
   go_wp2_with (first |(go_at_call 52;refine (abr_at HAB.out kv2 _).mono ?_;rintro e w4 ⟨rfl,hb⟩;have F4:=(HF3.out.ok HAB.out).call hb;have ho:=(rm_has F4.l0.blk).trans (congrArg (fun b=>some (Value.bool b)) HH.out);have lk:=ask_k F4.l2.blk;have lr2:=ask_r F4.l2.blk;have hi:=inher_any HDD.out F4.wis 8 o F4.r0 F4.r0o { zeroQ with k:=q.k,r:=q.r } nilS HKK.out (VsOut.nil _ _) (by simp [zeroQ]);have HF4:=Lib.hid F4;clear hb F4) |(go_at_call 200;refine hi.mono ?_;rintro e w5 ⟨M5,kv5,rfl,hks,hM,hn⟩;have hg5:=Rr.good _ hks;have F5:=(HF4.out.postB hks hM hn).new (rcs ((inherF D 8 o { zeroQ with k:=q.k,r:=q.r } R2).1.1.mem kv5)) 57;have lr5:=run_ldRp F5.l0.blk;have s5:=run_stRp F5.l2.blk hg5;have HF5:=Lib.hid F5;clear hks hM hn F5))
   have F7:=HF5.out.put (l:=[⟨w5.heap.size,rcs ((inherF D 8 o { zeroQ with k:=q.k,r:=q.r } R2).1.1.mem kv5),57⟩,⟨N,rcs (R1.mem kv2),57⟩]) (rcs ((inherF D 8 o { zeroQ with k:=q.k,r:=q.r } R2).1.1.mem kv5)) (show 57 ≠ 32 by decide)
   refine bodyPost_ret (res_R rfl _ _ (w.heap.size+1) _ rfl F7.l2.blk) rfl ?_
   have key:RR=((inherF D 8 o { zeroQ with k:=q.k,r:=q.r } R2).1.1,(inherF D 8 o { zeroQ with k:=q.k,r:=q.r } R2).2):=by rw [HRR.out,HAB.out,HH.out];rfl
   rw [key]
   exact F7.fin F7.k0
  ·have HH:=Lib.hid hh
   go_wp2_with (first |(go_at_call 52;refine (abr_at HAB.out kv2 _).mono ?_;rintro e w4 ⟨rfl,hb⟩;have F4:=(HF3.out.ok HAB.out).call hb;have ho:=(rm_has F4.l0.blk).trans (congrArg (fun b=>some (Value.bool b)) HH.out);have ld4:=rm_d F4.l0.blk;have lr4:=ask_r F4.l2.blk;have hd:=read_any HDD.out F4.wis R1.d q.r;have HF4:=Lib.hid F4;clear hb F4) |(go_at_call 201;refine hd.mono ?_;rintro e w5 ⟨M5,kv5,rfl,hks,hM,hn⟩;have hg5:=Rr.good _ hks;have SZ5:=Lib.hid hn.size;have F5:=HF4.out.post hks hM hn;have s5:=run_stRp F5.l1.blk hg5;have HF5:=Lib.hid F5;clear hks hM hn F5))
   have F7:=HF5.out.put (l:=[⟨N,rcs (R1.mem kv2),57⟩]) (rcs ((readF D R1.d q.r R2).1.mem kv5)) (show 57 ≠ 32 by decide)
   refine bodyPost_ret (res_R rfl _ _ (w.heap.size+1) _ rfl F7.l1.blk) rfl ?_
   have key:RR=(readF D R1.d q.r R2):=by rw [HRR.out,HAB.out,HH.out];rfl
   rw [key]
   exact F7.fin F7.k0
 ·have HAB:=Lib.hid hab
  clear hab
  go_wp2_with (go_at_call 52;refine (abr_at HAB.out kv2 _).mono ?_;rintro e w4 ⟨rfl,hb⟩;have F4:=HF3.out.call hb;have lr:=run_ldRp F4.l0.blk;have s4:=run_stRp F4.l1.blk HG2.out;have HF4:=Lib.hid F4;clear hb F4)
  have F7:=HF4.out.put (l:=[⟨N,rcs (R1.mem kv2),57⟩]) (rcs (R1.mem kv2)) (show 57 ≠ 32 by decide)
  refine bodyPost_ret (res_R rfl _ _ (w.heap.size+1) _ rfl F7.l1.blk) rfl ?_
  have key:RR=(R1,R2):=by rw [HRR.out,HAB.out];rfl
  rw [key]
  exact F7.fin F7.k0
end
end Go.Proofs.YtkadkmnolkkhgaaGreatDoor.Mw

/-
 write.
-/
namespace Go.Proofs.YtkadkmnolkkhgaaGreatDoor.Mw
open Go Go.RowKit Go.Maps Go.Shelf Keys Hp Mo
open Des (Vl Ds zeroV zeroD dcs dcs_size dcs_one accF rigF appF eqV)
open Arrs (En ecs)
attribute [local go_sem ↓] ldR stR alR bxR bdR ldV stV alV bxV bdV ldA stA bxA bdA ldKy bxKy bdKy ldD stD alD bxDe bsV
attribute [local irreducible] rcs dcs ecs vcs acs kcs xcs tcs
attribute [local go_sem] run_bx run_alR run_stRg run_bdA0 run_bdAk run_bdAkr run_bdAkvr run_bdAr run_bdAkd run_bdRz run_bdRd run_bdRk run_bdRf run_bdRo run_bdRs run_bdRt' run_bdKs run_alD run_stDg
section
variable {X:Cx} {c:Nat} {M M' M'':Wm} {w w' w'':World} {A A' A'':Aw} {ls:List Lc} {kl:List (Value × List KV)} {ro:List Lc} {D:DoT}
set_option maxRecDepth 100000 in
set_option maxHeartbeats 4000000 in
theorem write_any (HD:DoIs X D) (h:WIs X (c+1) M w A) (d:Ds) (q:Aq) (ql:Value) :
  Calls Tryz.prog 202 #[ptr X.wb,.agg (dcs d),.agg (acs q ql)] w (Post X c M w (writeF D d q A)):=by
 obtain ⟨w1,hw1⟩:∃ w1,((w.alloc (.cells (dcs d) 34)).alloc (.cells (acs q ql) 52)).alloc (.cells (rcs zeroR) 57)=w1:=⟨_,rfl⟩
 have F0:Fm X (c+1) M w M w1 A [⟨w.heap.size+1+1,rcs zeroR,57⟩,⟨w.heap.size+1,acs q ql,52⟩,⟨w.heap.size,dcs d,34⟩] [] []:=by
  rw [← hw1];exact (((Fm.start h).new _ _).newg _ _ _ (by simp)).newg _ _ _ (by simp)
 have sk:=d_sk F0.l2.blk
 unfold writeF
 by_cases hg:d.s.k=0
 ·rw [if_pos hg]
  have hq:(d.s.k == 0)=true:=by simp [hg]
  have HF0:=Lib.hid F0
  have HG:=Lib.hid hg
  clear F0 h HD hg
  go_enter Tryz.func202,Tryz.ntmps202
  go_wp2_with (go_at_call 168;refine (answer_any false _).mono ?_;rintro e w2 ⟨rfl,hb⟩;have F2:=HF0.out.call hb;have s2:=run_stRp F2.l0.blk (r:=(ans false).mem nilS) ⟨_,_,_,rfl⟩;have HF2:=Lib.hid F2;clear hb F2)
  have F3:=HF2.out.put (l:=[]) (rcs ((ans false).mem nilS)) (show 57 ≠ 32 by decide)
  refine bodyPost_ret (res_R rfl _ _ (w.heap.size+1+1) _ rfl F3.l0.blk) rfl ?_
  exact F3.fin1 (R:=(ans false,A)) rfl
 ·rw [if_neg hg]
  have hq:(d.s.k == 0)=false:=by simp [hg]
  have sv:=d_s F0.l2.blk
  have ar:=ask_r F0.l1.blk
  have av:=ask_v F0.l1.blk
  have FV:=F0.new (vcs q.v) 30
  have hvs:VsOut (M.bl X.wb) (w1.alloc (.cells (vcs q.v) 30)) (.slice (some ⟨w1.heap.size,0,none⟩) 1 1) [q.v]:=VsOut.one FV.l0
  have hd:=ask_any HD FV.wis 12 d.s { zeroQ with r:=q.r,l:=[q.v] } _ fine_zero hvs (by simp [lim];omega)
  have hbs:=run_bsV w1 q.v
  have hbd:∀ w':World,(Bd 52 #[(2,.agg (vcs q.r)),(4,.slice (some ⟨w1.heap.size,0,none⟩) 1 1)]).run Tryz.prog w' = .ok (.agg (acs { zeroQ with r:=q.r,l:=[q.v] } (.slice (some ⟨w1.heap.size,0,none⟩) 1 1))) w':=fun w'=>run_bdArl2 w' q.r [q.v] _ 1 1
  obtain ⟨R,hR⟩:∃ R,askF D 12 d.s { zeroQ with r:=q.r,l:=[q.v] } A=R:=⟨_,rfl⟩
  rw [hR] at hd ⊢
  obtain ⟨R1,R2⟩:=R
  simp only at hd ⊢
  obtain ⟨RR,hRR⟩:∃ RR,RR=((if abr R1=true then R1 else ans true),R2):=⟨_,rfl⟩
  rw [← hRR]
  have HRR:=Lib.hid hRR
  have HFV:=Lib.hid FV
  have HG:=Lib.hid hg
  clear F0 FV h HD hg hvs hR hRR
  go_enter Tryz.func202,Tryz.ntmps202
  cases hab:abr R1
  ·have HAB:=Lib.hid hab
   clear hab
   go_wp2_with (first |(go_at_call 118;refine hd.mono ?_;rintro e w2 ⟨M2,kv2,rfl,hks,hM,hn⟩;have hg2:=Rr.good _ hks;have SZ2:=Lib.hid hn.size;have F2:=(HFV.out.post hks hM hn).new (rcs (R1.mem kv2)) 57;have lr:=run_ldRp F2.l0.blk;have HF2:=Lib.hid F2;clear hks hM hn F2) |(go_at_call 52;refine (abr_at HAB.out kv2 _).mono ?_;rintro e w4 ⟨rfl,hb⟩;have F4:=(HF2.out.ok HAB.out).call hb;have HF4:=Lib.hid F4;clear hb F4) |(go_at_call 168;refine (answer_any true _).mono ?_;rintro e w5 ⟨rfl,hb⟩;have F5:=HF4.out.call hb;have s5:=run_stRp F5.l2.blk (r:=(ans true).mem nilS) ⟨_,_,_,rfl⟩;have HF5:=Lib.hid F5;clear hb F5))
   have F7:=HF5.out.put (l:=[⟨w2.heap.size,rcs (R1.mem kv2),57⟩,⟨w1.heap.size,vcs q.v,30⟩]) (rcs ((ans true).mem nilS)) (show 57 ≠ 32 by decide)
   refine bodyPost_ret (res_R rfl _ _ (w.heap.size+1+1) _ rfl F7.l2.blk) rfl ?_
   have key:RR=(ans true,R2):=by rw [HRR.out,HAB.out];rfl
   rw [key]
   exact F7.fin1 rfl
  ·have HAB:=Lib.hid hab
   clear hab
   go_wp2_with (first |(go_at_call 118;refine hd.mono ?_;rintro e w2 ⟨M2,kv2,rfl,hks,hM,hn⟩;have hg2:=Rr.good _ hks;have SZ2:=Lib.hid hn.size;have F2:=(HFV.out.post hks hM hn).new (rcs (R1.mem kv2)) 57;have lr:=run_ldRp F2.l0.blk;have HF2:=Lib.hid F2;clear hks hM hn F2) |(go_at_call 52;refine (abr_at HAB.out kv2 _).mono ?_;rintro e w4 ⟨rfl,hb⟩;have F4:=HF2.out.call hb;have lr:=run_ldRp F4.l0.blk;have s4:=run_stRp F4.l2.blk hg2;have HF4:=Lib.hid F4;clear hb F4))
   have F7:=HF4.out.put (l:=[⟨w2.heap.size,rcs (R1.mem kv2),57⟩,⟨w1.heap.size,vcs q.v,30⟩]) (rcs (R1.mem kv2)) (show 57 ≠ 32 by decide)
   refine bodyPost_ret (res_R rfl _ _ (w.heap.size+1+1) _ rfl F7.l2.blk) rfl ?_
   have key:RR=(R1,R2):=by rw [HRR.out,HAB.out];rfl
   rw [key]
   exact F7.fin F7.k0
end
end Go.Proofs.YtkadkmnolkkhgaaGreatDoor.Mw
