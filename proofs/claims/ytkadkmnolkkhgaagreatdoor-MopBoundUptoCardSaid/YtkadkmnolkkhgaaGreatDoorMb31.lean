/-
 reaches.
-/
import Derived.Test.YtkadkmnolkkhgaaGreatDoorMb17
import Derived.Test.YtkadkmnolkkhgaaGreatDoorMb10
import Derived.Deep.DeepCutAuto
import Derived.Deep.LoopGhost
set_option linter.unusedVariables false
set_option linter.unusedSimpArgs false
namespace Go.Proofs.YtkadkmnolkkhgaaGreatDoor.Mw
open Go Go.RowKit Go.Maps Go.Shelf Keys Hp Mo
open Des (Vl Ds zeroV zeroD dcs dcs_size dcs_one accF rigF appF eqV)
open Arrs (En ecs)
open Rg
attribute [local go_sem ↓] ldR stR alR bxR bdR ldV stV alV bxV bdV ldA stA bxA bdA ldKy bxKy bdKy ldT stT alT
attribute [local irreducible] rcs dcs ecs vcs acs kcs xcs tcs
attribute [local go_sem] run_bx run_alR run_stRg run_bdA0 run_bdAk run_bdAkr run_bdAkvr run_bdAr run_bdAkd run_bdRz run_bdRd run_bdRk run_bdRf run_bdRo run_bdRs run_bdRt' run_bdKs run_alT
section
variable {X:Cx} {c:Nat} {M M' M'':Wm} {w w' w'':World} {A A' A'':Aw} {ls:List Lc} {kl:List (Value × List KV)} {ro:List Lc} {D:DoT}
def headT (A:Aw) (n:Int):Th:=match at? A n with |some x=>x.th |none=>zeroT
theorem reach_succ (A:Aw) (o:Int) (n:Nat) (v:Vl):reachF A o (n+1) v=if v.k=6 then if v.n=o then true else if (headT A v.n).kind=4 then false else reachF A o n (headT A v.n).proto else false:=by
 unfold headT
 rw [reachF]
 cases at? A v.n <;> simp [zeroT]
theorem wHeadT (h:WIs X c M w A) (o:Int):Calls Tryz.prog 101 #[ptr M.hb,.int .i64 o] w fun e w'=>e = .returned (.tuple #[.agg (tcs (headT A o)),.bool (at? A o).isSome])∧Below w.heap.size w w':=by
 unfold headT
 cases hx:at? A o with
 | none=>exact wHead_none h hx
 | some x=>exact wHead_some h hx
theorem headT_ok (h:WIs X c M w A) (o:Int):(headT A o).ok:=by
 unfold headT
 cases hx:at? A o with
 | none=>exact zeroT_ok
 | some x =>
  obtain ⟨f1,f2,-⟩:=h.fit hx
  exact ⟨⟨_,_,_,f1⟩,⟨_,_,_,f2⟩⟩
theorem isObjNull_any (v:Vl) (w:World):Calls Tryz.prog 196 #[.agg (vcs v)] w fun e w'=>e = .returned (.bool (isObjNull v))∧Below w.heap.size w w':=by
 have x0:=Blk.new w (vcs v) 30
 have c0:(w.alloc (.cells (vcs v) 30)).cell? ⟨w.heap.size,0,none⟩=some (.int .i64 v.k):=(x0.cell 0).trans (vcs_0 v)
 have hb:Below w.heap.size w (w.alloc (.cells (vcs v) 30)):=(Below.refl _ w).alloc (Nat.le_refl _) _
 have HB:=Lib.hid hb
 unfold isObjNull
 clear x0 hb
 by_cases h6:v.k=6
 ·have d6:(v.k == 6)=true:=by simp [h6]
  rw [d6]
  have H6:=Lib.hid h6
  clear h6
  go_enter Tryz.func196,Tryz.ntmps196
  go_wp2
  go_ret
  exact ⟨rfl,HB.out⟩
 ·have d6:(v.k == 6)=false:=by simp [h6]
  rw [d6]
  have H6:=Lib.hid h6
  clear h6
  go_enter Tryz.func196,Tryz.ntmps196
  go_wp2
  go_ret
  exact ⟨by simp,HB.out⟩
structure HeaI (X:Cx) (M:Wm) (nb:Nat) (v u:Vl) (o n j:Int) (th:Th) (u6:Value) (hz:Bool) (w1:World) (L:Array Bool) (x0 x1 x2 x3 x4 x5 x6 x7 x8 x9 x10 x11 x12 x13 x14 x15 x16 x17 x18 x19 x20 x21 x22 x23 x24 x25 x26 x27 x28 x29 x30 x31 x32 x33 x34:Value) (W:World):Prop where
 k0:x0=ptr X.wb
 k1:x1 = .agg (vcs v)
 k2:x2 = .int .i64 o
 k3:x3=undef
 k4:x4=ptr nb
 k5:x5=undef
 k6:x6=u6
 k9:x9=ptr X.wb
 k10:x10=ptr M.hb
 k11:x11 = .int .i64 n
 k12:x12 = .int .i64 j
 m1:Below w1.heap.size w1 W
 h0:L.getD 0 false=true→x22=ptr X.wb
 h1:L.getD 1 false=true→x23=ptr M.hb
 h2:L.getD 2 false=true→x24 = .pointer (some ⟨nb,1,none⟩)
 h3:L.getD 3 false=true→x25 = .int .i64 u.n
 h4:L.getD 4 false=true→x26 = .tuple #[.agg (tcs th),.bool hz]
 h5:L.getD 5 false=true→x21 = .tuple #[.agg (tcs th),.bool hz]
 h6:L.getD 6 false=true→x27 = .agg (tcs th)
 h7:L.getD 7 false=true→x28 = .bool hz
 h8:L.getD 8 false=true→∃ b,x7=ptr b∧w1.heap.size≤b∧∃ o,Blk W b (tcs o) 39
 h9:L.getD 9 false=true→∃ b,x7=ptr b∧w1.heap.size≤b∧Blk W b (tcs th) 39
 h10:L.getD 10 false=true→x8 = .bool hz
set_option maxRecDepth 100000 in
set_option maxHeartbeats 4000000 in
theorem reaches_any (h:WIs X c M w A) (v:Vl) (o:Int):Calls Tryz.prog 198 #[ptr X.wb,.agg (vcs v),.int .i64 o] w fun e w'=>e = .returned (.bool (reachF A o A.objs.length v))∧Below w.heap.size w w':=by
 obtain ⟨w1,hw1⟩:∃ w1,w.alloc (.cells (vcs v) 30)=w1:=⟨_,rfl⟩
 have b1:Below w.heap.size w w1:=by rw [← hw1];exact (Below.refl _ w).alloc (Nat.le_refl _) _
 have x1:Blk w1 w.heap.size (vcs v) 30:=by rw [← hw1];exact Blk.new w _ _
 have h1:=h.call b1
 have hlen:=wLen h1
 have hst:=stW h1
 have hfew:=h.few
 obtain ⟨nN,hn⟩:∃ n,A.objs.length=n:=⟨_,rfl⟩
 rw [hn] at hlen hfew ⊢
 have hnb:(nN:Int)≤900000:=by omega
 obtain ⟨R,hR⟩:∃ R,reachF A o nN v=R:=⟨_,rfl⟩
 rw [hR]
 have hwi:∀ w',Below w.heap.size w w'→WIs X c M w' A:=fun w' hb=>h.call hb
 have HWI:=Lib.hid hwi
 have HS0:Hid (∃ (j:Nat) (u:Vl),j≤nN∧nN=nN - j∧Value.int .i64 0 = .int .i64 j∧Below w.heap.size w w1∧Blk w1 w.heap.size (vcs u) 30∧reachF A o (nN - j) u=R):=Lib.hid ⟨0,v,Nat.zero_le _,rfl,rfl,b1,x1,hR⟩
 clear h hR hfew h1 x1 b1 hn hwi
 go_enter Tryz.func198,Tryz.ntmps198
 go_wp2_with (first |(go_at_call 100;(with_reducible refine hst.mono ?_);rintro e w5 ⟨rfl,rfl⟩) |(go_at_call 237;(with_reducible refine hlen.mono ?_);rintro e w5 ⟨rfl,rfl⟩))
 go_loopg [7,8,12] nN (fun g a b i wr=>∃ (j:Nat) (u:Vl),j≤nN∧g=nN - j∧i = .int .i64 j∧Below w.heap.size w wr∧Blk wr w.heap.size (vcs u) 30∧reachF A o (nN - j) u=R)
 case atStart=>exact HS0.out
 case round =>
  obtain ⟨j,u,hj,rfl,rfl,hb,hvb,hR⟩:=hrel
  clear HS0 hst hlen
  by_cases hjn:j < nN
  ·have d1:(j:Int) < nN:=by omega
   obtain ⟨k,hk⟩:∃ k,nN - j=k+1:=⟨nN - j - 1,by omega⟩
   rw [hk,reach_succ] at hR
   have c0:wr.cell? ⟨w.heap.size,0,none⟩=some (.int .i64 u.k):=(hvb.cell 0).trans (vcs_0 u)
   have c1:wr.cell? ⟨w.heap.size,1,none⟩=some (.int .i64 u.n):=(hvb.cell 1).trans (vcs_1 u)
   by_cases hk6:u.k=6
   ·have d6:(u.k != 6)=false:=by simp [hk6]
    rw [if_pos hk6] at hR
    have H6:=Lib.hid hk6
    clear hk6
    by_cases ho:u.n=o
    ·rw [if_pos ho] at hR
     have do_:(u.n == o)=true:=by simp [ho]
     have HO:=Lib.hid ho
     subst hR
     clear ho hk hj
     go_wp2
     go_ret
     exact ⟨rfl,hb⟩
    ·rw [if_neg ho] at hR
     have do_:(u.n == o)=false:=by simp [ho]
     have HO:=Lib.hid ho
     obtain ⟨th,hth⟩:∃ th,headT A u.n=th:=⟨_,rfl⟩
     obtain ⟨hz,hhs⟩:∃ hz,(at? A u.n).isSome=hz:=⟨_,rfl⟩
     have hwis:=HWI.out _ hb
     have HTOK:=Lib.hid (headT_ok hwis u.n)
     have HHEAD:Hid (∀ {w':World},WIs X c M w' A→Calls Tryz.prog 101 #[ptr M.hb,.int .i64 u.n] w' fun e w2=>e = .returned (.tuple #[.agg (tcs th),.bool hz])∧Below w'.heap.size w' w2):=Lib.hid fun h'=>by rw [← hth,← hhs];exact wHeadT h' u.n
     rw [hth] at hR HTOK
     have HR:=Lib.hid hR
     have HK:=Lib.hid hk
     have HB:=Lib.hid hb
     clear ho hth hhs hR hk
     go_upto_region 7 with fail
     go_cut [7,8,12] from 13 to 34 (fun a b i wx=>i = .int .i64 j∧∃ N,a=ptr N∧w.heap.size < N∧Below w.heap.size w wx∧Blk wx w.heap.size (vcs u) 30∧Blk wx N (tcs th) 39)
     case first =>
      have hwis:=hwis.drew
      have hvb:=Blk.call (w':=wr.drew) hvb (Below.refl _ _).drew
      refine region_inv (by kernel_rfl) (fun L a W=>∃ x0 x1 x2 x3 x4 x5 x6 x7 x8 x9 x10 x11 x12 x13 x14 x15 x16 x17 x18 x19 x20 x21 x22 x23 x24 x25 x26 x27 x28 x29 x30 x31 x32 x33 x34:Value,a={ tmps:=#[x0,x1,x2,x3,x4,x5,x6,x7,x8,x9,x10,x11,x12,x13,x14,x15,x16,x17,x18,x19,x20,x21,x22,x23,x24,x25,x26,x27,x28,x29,x30,x31,x32,x33,x34],defers:=[] }∧HeaI X M w.heap.size v u o nN j th u6 hz wr.drew L x0 x1 x2 x3 x4 x5 x6 x7 x8 x9 x10 x11 x12 x13 x14 x15 x16 x17 x18 x19 x20 x21 x22 x23 x24 x25 x26 x27 x28 x29 x30 x31 x32 x33 x34 W) (by kernel_rfl) ?start ?step ?done
      case start=>exact ⟨_,_,_,_,_,_,_,_,_,_,_,_,_,_,_,_,_,_,_,_,_,_,_,_,_,_,_,_,_,_,_,_,_,_,_,rfl,⟨rfl,rfl,rfl,rfl,rfl,rfl,rfl,rfl,rfl,rfl,rfl,Below.refl _ _,fun h=>by simp [Array.getD_eq_getD_getElem?] at h,fun h=>by simp [Array.getD_eq_getD_getElem?] at h,fun h=>by simp [Array.getD_eq_getD_getElem?] at h,fun h=>by simp [Array.getD_eq_getD_getElem?] at h,fun h=>by simp [Array.getD_eq_getD_getElem?] at h,fun h=>by simp [Array.getD_eq_getD_getElem?] at h,fun h=>by simp [Array.getD_eq_getD_getElem?] at h,fun h=>by simp [Array.getD_eq_getD_getElem?] at h,fun h=>by simp [Array.getD_eq_getD_getElem?] at h,fun h=>by simp [Array.getD_eq_getD_getElem?] at h,fun h=>by simp [Array.getD_eq_getD_getElem?] at h⟩⟩
      case step =>
       intro i L a W hi hdep hL hs hcl hI
       have hi2:i < 11:=by simpa using hi
       obtain ⟨x0,x1,x2,x3,x4,x5,x6,x7,x8,x9,x10,x11,x12,x13,x14,x15,x16,x17,x18,x19,x20,x21,x22,x23,x24,x25,x26,x27,x28,x29,x30,x31,x32,x33,x34,rfl,H⟩:=hI
       have ol:∀ j,i ≠ j→(L.setIfInBounds i true).getD j false=true→L.getD j false=true:=fun j hj h=>by rwa [getD_set hj] at h
       rcases (by omega:i=0∨i=1∨i=2∨i=3∨i=4∨i=5∨i=6∨i=7∨i=8∨i=9∨i=10) with rfl |rfl |rfl |rfl |rfl |rfl |rfl |rfl |rfl |rfl |rfl
       ·clear hi hi2
        have k0:=H.k0
        subst k0
        exact step_run (i:=0) (w':=W) (v:=ptr X.wb) rfl rfl (by simp [execOp,Act.eval,go_sem]) ⟨_,_,_,_,_,_,_,_,_,_,_,_,_,_,_,_,_,_,_,_,_,_,_,_,_,_,_,_,_,_,_,_,_,_,_,rfl,⟨(H.k0),(H.k1),(H.k2),(H.k3),(H.k4),(H.k5),(H.k6),(H.k9),(H.k10),(H.k11),(H.k12),(H.m1),(fun _=>rfl),(H.h1∘ol 1 nofun),(H.h2∘ol 2 nofun),(H.h3∘ol 3 nofun),(H.h4∘ol 4 nofun),(H.h5∘ol 5 nofun),(H.h6∘ol 6 nofun),(H.h7∘ol 7 nofun),(H.h8∘ol 8 nofun),(H.h9∘ol 9 nofun),(H.h10∘ol 10 nofun)⟩⟩
       ·clear hi hi2
        have e22:=H.h0 (hdep 0 (memOf (by kernel_rfl)))
        subst e22
        refine step_call (i:=1) (f:=100) (args:=#[ptr X.wb]) rfl rfl (by simp [execOp,Act.eval,go_sem]) (stW (hwis.call H.m1)) ?_
        rintro e W2 ⟨rfl,hq⟩
        subst hq
        exact ⟨_,rfl,⟨_,_,_,_,_,_,_,_,_,_,_,_,_,_,_,_,_,_,_,_,_,_,_,_,_,_,_,_,_,_,_,_,_,_,_,rfl,⟨(H.k0),(H.k1),(H.k2),(H.k3),(H.k4),(H.k5),(H.k6),(H.k9),(H.k10),(H.k11),(H.k12),(H.m1),(H.h0∘ol 0 nofun),(fun _=>rfl),(H.h2∘ol 2 nofun),(H.h3∘ol 3 nofun),(H.h4∘ol 4 nofun),(H.h5∘ol 5 nofun),(H.h6∘ol 6 nofun),(H.h7∘ol 7 nofun),(H.h8∘ol 8 nofun),(H.h9∘ol 9 nofun),(H.h10∘ol 10 nofun)⟩⟩⟩
       ·clear hi hi2
        have k4:=H.k4
        subst k4
        exact step_run (i:=2) (w':=W) (v:=.pointer (some ⟨w.heap.size,1,none⟩)) rfl rfl (by simp [execOp,Act.eval,go_sem]) ⟨_,_,_,_,_,_,_,_,_,_,_,_,_,_,_,_,_,_,_,_,_,_,_,_,_,_,_,_,_,_,_,_,_,_,_,rfl,⟨(H.k0),(H.k1),(H.k2),(H.k3),(H.k4),(H.k5),(H.k6),(H.k9),(H.k10),(H.k11),(H.k12),(H.m1),(H.h0∘ol 0 nofun),(H.h1∘ol 1 nofun),(fun _=>rfl),(H.h3∘ol 3 nofun),(H.h4∘ol 4 nofun),(H.h5∘ol 5 nofun),(H.h6∘ol 6 nofun),(H.h7∘ol 7 nofun),(H.h8∘ol 8 nofun),(H.h9∘ol 9 nofun),(H.h10∘ol 10 nofun)⟩⟩
       ·clear hi hi2
        have e24:=H.h2 (hdep 2 (memOf (by kernel_rfl)))
        subst e24
        have cq:=((hvb.call H.m1).cell 1).trans (vcs_1 u)
        exact step_run (i:=3) (w':=W) (v:=.int .i64 u.n) rfl rfl (by simp [execOp,Act.eval,go_sem,cq]) ⟨_,_,_,_,_,_,_,_,_,_,_,_,_,_,_,_,_,_,_,_,_,_,_,_,_,_,_,_,_,_,_,_,_,_,_,rfl,⟨(H.k0),(H.k1),(H.k2),(H.k3),(H.k4),(H.k5),(H.k6),(H.k9),(H.k10),(H.k11),(H.k12),(H.m1),(H.h0∘ol 0 nofun),(H.h1∘ol 1 nofun),(H.h2∘ol 2 nofun),(fun _=>rfl),(H.h4∘ol 4 nofun),(H.h5∘ol 5 nofun),(H.h6∘ol 6 nofun),(H.h7∘ol 7 nofun),(H.h8∘ol 8 nofun),(H.h9∘ol 9 nofun),(H.h10∘ol 10 nofun)⟩⟩
       ·clear hi hi2
        have e23:=H.h1 (hdep 1 (memOf (by kernel_rfl)))
        have e25:=H.h3 (hdep 3 (memOf (by kernel_rfl)))
        subst e23
        subst e25
        refine step_call (i:=4) (f:=101) (args:=#[ptr M.hb,.int .i64 u.n]) rfl rfl (by simp [execOp,Act.eval,go_sem]) (HHEAD.out (hwis.call H.m1)) ?_
        rintro e W2 ⟨rfl,hb⟩
        exact ⟨_,rfl,⟨_,_,_,_,_,_,_,_,_,_,_,_,_,_,_,_,_,_,_,_,_,_,_,_,_,_,_,_,_,_,_,_,_,_,_,rfl,⟨(H.k0),(H.k1),(H.k2),(H.k3),(H.k4),(H.k5),(H.k6),(H.k9),(H.k10),(H.k11),(H.k12),(H.m1.trans (hb.mono H.m1.size)),(H.h0∘ol 0 nofun),(H.h1∘ol 1 nofun),(H.h2∘ol 2 nofun),(H.h3∘ol 3 nofun),(fun _=>rfl),(H.h5∘ol 5 nofun),(H.h6∘ol 6 nofun),(H.h7∘ol 7 nofun),(fun h=>let ⟨g,q1,q2,o,q3⟩:=H.h8 (ol 8 (by decide) h);⟨g,q1,q2,o,q3.call hb⟩),(fun h=>let ⟨g,q1,q2,q3⟩:=H.h9 (ol 9 (by decide) h);⟨g,q1,q2,q3.call hb⟩),(H.h10∘ol 10 nofun)⟩⟩⟩
       ·clear hi hi2
        have e26:=H.h4 (hdep 4 (memOf (by kernel_rfl)))
        subst e26
        exact step_run (i:=5) (w':=W) (v:=.tuple #[.agg (tcs th),.bool hz]) rfl rfl (by simp [execOp,Act.eval,go_sem]) ⟨_,_,_,_,_,_,_,_,_,_,_,_,_,_,_,_,_,_,_,_,_,_,_,_,_,_,_,_,_,_,_,_,_,_,_,rfl,⟨(H.k0),(H.k1),(H.k2),(H.k3),(H.k4),(H.k5),(H.k6),(H.k9),(H.k10),(H.k11),(H.k12),(H.m1),(H.h0∘ol 0 nofun),(H.h1∘ol 1 nofun),(H.h2∘ol 2 nofun),(H.h3∘ol 3 nofun),(H.h4∘ol 4 nofun),(fun _=>rfl),(H.h6∘ol 6 nofun),(H.h7∘ol 7 nofun),(H.h8∘ol 8 nofun),(H.h9∘ol 9 nofun),(H.h10∘ol 10 nofun)⟩⟩
       ·clear hi hi2
        have e21:=H.h5 (hdep 5 (memOf (by kernel_rfl)))
        subst e21
        exact step_run (i:=6) (w':=W) (v:=.agg (tcs th)) rfl rfl (by simp [execOp,Act.eval,go_sem]) ⟨_,_,_,_,_,_,_,_,_,_,_,_,_,_,_,_,_,_,_,_,_,_,_,_,_,_,_,_,_,_,_,_,_,_,_,rfl,⟨(H.k0),(H.k1),(H.k2),(H.k3),(H.k4),(H.k5),(H.k6),(H.k9),(H.k10),(H.k11),(H.k12),(H.m1),(H.h0∘ol 0 nofun),(H.h1∘ol 1 nofun),(H.h2∘ol 2 nofun),(H.h3∘ol 3 nofun),(H.h4∘ol 4 nofun),(H.h5∘ol 5 nofun),(fun _=>rfl),(H.h7∘ol 7 nofun),(H.h8∘ol 8 nofun),(H.h9∘ol 9 nofun),(H.h10∘ol 10 nofun)⟩⟩
       ·clear hi hi2
        have e21:=H.h5 (hdep 5 (memOf (by kernel_rfl)))
        subst e21
        exact step_run (i:=7) (w':=W) (v:=.bool hz) rfl rfl (by simp [execOp,Act.eval,go_sem]) ⟨_,_,_,_,_,_,_,_,_,_,_,_,_,_,_,_,_,_,_,_,_,_,_,_,_,_,_,_,_,_,_,_,_,_,_,rfl,⟨(H.k0),(H.k1),(H.k2),(H.k3),(H.k4),(H.k5),(H.k6),(H.k9),(H.k10),(H.k11),(H.k12),(H.m1),(H.h0∘ol 0 nofun),(H.h1∘ol 1 nofun),(H.h2∘ol 2 nofun),(H.h3∘ol 3 nofun),(H.h4∘ol 4 nofun),(H.h5∘ol 5 nofun),(H.h6∘ol 6 nofun),(fun _=>rfl),(H.h8∘ol 8 nofun),(H.h9∘ol 9 nofun),(H.h10∘ol 10 nofun)⟩⟩
       ·clear hi hi2
        have hb:Below W.heap.size W (W.alloc (.cells (tcs zeroT) 39)):=(Below.refl _ W).alloc (Nat.le_refl _) _
        exact step_run (i:=8) (w':=(W.alloc (.cells (tcs zeroT) 39))) (v:=ptr W.heap.size) rfl rfl (by simp [execOp,Act.eval,go_sem]) ⟨_,_,_,_,_,_,_,_,_,_,_,_,_,_,_,_,_,_,_,_,_,_,_,_,_,_,_,_,_,_,_,_,_,_,_,rfl,⟨(H.k0),(H.k1),(H.k2),(H.k3),(H.k4),(H.k5),(H.k6),(H.k9),(H.k10),(H.k11),(H.k12),(H.m1.trans (hb.mono H.m1.size)),(H.h0∘ol 0 nofun),(H.h1∘ol 1 nofun),(H.h2∘ol 2 nofun),(H.h3∘ol 3 nofun),(H.h4∘ol 4 nofun),(H.h5∘ol 5 nofun),(H.h6∘ol 6 nofun),(H.h7∘ol 7 nofun),(fun _=>⟨_,rfl,H.m1.size,_,Blk.new W _ _⟩),(fun h=>(not_yet hL (hcl 9 (by simp) (ol 9 (by decide) h) 8 (memOf (by kernel_rfl)))).elim),(H.h10∘ol 10 nofun)⟩⟩
       ·clear hi hi2
        have e27:=H.h6 (hdep 6 (memOf (by kernel_rfl)))
        have e7:=H.h8 (hdep 8 (memOf (by kernel_rfl)))
        subst e27
        obtain ⟨b,rfl,hb1,o,hb2⟩:=e7
        have sv:=run_stTk hb2 HTOK.out
        exact step_sk (i:=9) (w':=(W.setRow b (tcs th))) rfl rfl (by simp [execOp,Act.eval,go_sem,sv]) ⟨_,_,_,_,_,_,_,_,_,_,_,_,_,_,_,_,_,_,_,_,_,_,_,_,_,_,_,_,_,_,_,_,_,_,_,rfl,⟨(H.k0),(H.k1),(H.k2),(H.k3),(H.k4),(H.k5),(H.k6),(H.k9),(H.k10),(H.k11),(H.k12),(below_rowW H.m1 _ hb1),(H.h0∘ol 0 nofun),(H.h1∘ol 1 nofun),(H.h2∘ol 2 nofun),(H.h3∘ol 3 nofun),(H.h4∘ol 4 nofun),(H.h5∘ol 5 nofun),(H.h6∘ol 6 nofun),(H.h7∘ol 7 nofun),(fun _=>⟨b,rfl,hb1,_,hb2.row _⟩),(fun _=>⟨b,rfl,hb1,hb2.row _⟩),(H.h10∘ol 10 nofun)⟩⟩
       ·clear hi hi2
        have e28:=H.h7 (hdep 7 (memOf (by kernel_rfl)))
        subst e28
        exact step_run (i:=10) (w':=W) (v:=.bool hz) rfl rfl (by simp [execOp,Act.eval,go_sem]) ⟨_,_,_,_,_,_,_,_,_,_,_,_,_,_,_,_,_,_,_,_,_,_,_,_,_,_,_,_,_,_,_,_,_,_,_,rfl,⟨(H.k0),(H.k1),(H.k2),(H.k3),(H.k4),(H.k5),(H.k6),(H.k9),(H.k10),(H.k11),(H.k12),(H.m1),(H.h0∘ol 0 nofun),(H.h1∘ol 1 nofun),(H.h2∘ol 2 nofun),(H.h3∘ol 3 nofun),(H.h4∘ol 4 nofun),(H.h5∘ol 5 nofun),(H.h6∘ol 6 nofun),(H.h7∘ol 7 nofun),(H.h8∘ol 8 nofun),(H.h9∘ol 9 nofun),(fun _=>rfl)⟩⟩
      case done =>
       rintro L a W hall ⟨x0,x1,x2,x3,x4,x5,x6,x7,x8,x9,x10,x11,x12,x13,x14,x15,x16,x17,x18,x19,x20,x21,x22,x23,x24,x25,x26,x27,x28,x29,x30,x31,x32,x33,x34,rfl,H⟩
       obtain ⟨b7,e7,hb7,B7⟩:=H.h9 (hall 9 (by simp))
       have k0:=H.k0
       have k1:=H.k1
       have k2:=H.k2
       have k3:=H.k3
       have k4:=H.k4
       have k5:=H.k5
       have k6:=H.k6
       have k9:=H.k9
       have k10:=H.k10
       have k11:=H.k11
       have k12:=H.k12
       subst e7 k0 k1 k2 k3 k4 k5 k6 k9 k10 k11 k12
       have HQ:=Lib.hid (show Value.int .i64 j = .int .i64 j∧∃ N,ptr b7=ptr N∧w.heap.size < N∧Below w.heap.size w W∧Blk W w.heap.size (vcs u) 30∧Blk W N (tcs th) 39 from ⟨rfl,b7,rfl,Nat.lt_of_lt_of_le hvb.lt hb7,HB.out.drew.trans (H.m1.mono HB.out.size),hvb.call H.m1,B7⟩)
       clear H hwis hvb hb7 B7 hall
       go_wp2_with fail
       go_meet
       exact ⟨rfl,HQ.out.2⟩
     case rest =>
     obtain ⟨rfl,N,rfl,hN,hb2,hvb2,hB⟩:=hcut
     have k0:wc.cell? ⟨N,0,none⟩=some (.int .i64 th.kind):=(hB.cell 0).trans (tcs_0 th)
     have lp:(Ld 30 (.pointer (some ⟨N,1,none⟩))).run Tryz.prog wc = .ok (.agg (vcs th.proto)) wc:=t_proto hB
     have sp:=run_stVp (v:=th.proto) hvb2
     have HB2:=Lib.hid (show Below w.heap.size w (wc.setRow w.heap.size (vcs th.proto)) from below_rowW hb2 _ (Nat.le_refl _))
     have HV2:=Lib.hid (hvb2.row (vcs th.proto))
     have HB3:=Lib.hid hb2
     clear hvb c0 c1 hb hwis hb2 hvb2 hB hN
     by_cases h4:th.kind=4
     ·have d4:(th.kind == 4)=true:=by simp [h4]
      have hR:=HR.out
      rw [if_pos h4] at hR
      subst hR
      have H4:=Lib.hid h4
      clear h4 HR
      go_wp2
      go_ret
      exact ⟨rfl,HB3.out⟩
     ·have d4:(th.kind == 4)=false:=by simp [h4]
      have hR:=HR.out
      rw [if_neg h4] at hR
      have HR2:=Lib.hid hR
      have H4:=Lib.hid h4
      clear h4 HR hR
      go_wp2
      go_roundg (nN - (j+1))
      case measure=>omega
      case rel=>exact ⟨j+1,th.proto,by omega,rfl,by go_num,HB2.out,HV2.out,by rw [show nN - (j+1)=k by have:=HK.out;omega];exact HR2.out⟩
   ·have d6:(u.k != 6)=true:=by simp [hk6]
    rw [if_neg hk6] at hR
    have H6:=Lib.hid hk6
    subst hR
    clear hk6 hk hj
    go_wp2
    go_ret
    exact ⟨rfl,hb⟩
  ·obtain rfl:j=nN:=by omega
   have d1:¬ ((j:Int) < j):=by omega
   rw [Nat.sub_self] at hR
   have hR2:false=R:=hR
   subst hR2
   clear hR
   go_wp2
   go_ret
   exact ⟨rfl,hb⟩
end
end Go.Proofs.YtkadkmnolkkhgaaGreatDoor.Mw
