/-
 Texts of this seat in build order: MoNew, MwConc, MwArg, MwInh.
-/
import Derived.Test.YtkadkmnolkkhgaaGreatDoorMb15
import Derived.Test.YtkadkmnolkkhgaaGreatDoorMb10
import Derived.Test.YtkadkmnolkkhgaaGreatDoorMb12
import Derived.Test.YtkadkmnolkkhgaaGreatDoorMb18
import Derived.Test.YtkadkmnolkkhgaaGreatDoorMb17
import Derived.Lib.AppendZeros
import Derived.Deep.LoopGhost
import Derived.Deep.DeepCutAuto
/-
 New: a world without objects.
-/
set_option linter.unusedVariables false
set_option linter.unusedSimpArgs false
namespace Go.Proofs.YtkadkmnolkkhgaaGreatDoor.Mo
open Go Go.RowKit Go.Maps Go.Shelf Keys Hp Rg
open Des (Vl Ds zeroV zeroD dcs dcs_size dcs_one)
open Arrs (En ecs ecs_0 ecs_1 ecs_10 ecs_size ecs_list ecs_one ecs_one')
theorem bdW (ps:Array (Nat × Value)):Instr.build 48 ps=Bd 48 ps:=(rfl)
theorem bxW (v:Value):Instr.box 48 v=Bx 48 v:=(rfl)
theorem run_bdW (w:World) (hb:Nat) (f d:Int):(Bd 48 #[(0,.pointer (some ⟨hb,0,none⟩)),(2,.int .i64 f),(3,.int .i64 d)]).run Tryz.prog w = .ok (.agg (wcs hb .nilIface f d 0 0 nilS)) w:=run_build w _ _ _ (by kernel_rfl)
theorem maxz (x:Int):(if x < 0 then 0 else x)=max x 0:=by omega
theorem minz (x:Int):(if 1000 < x then 1000 else x)=min x 1000:=by omega
attribute [local go_sem ↓] bdW bxW
attribute [local irreducible] wcs
attribute [local go_sem] run_bx run_bdW
structure NewI (F R D:Int) (N:Nat) (w1:World) (L:Array Bool) (x0 x1 x2 x3 x4 x5 x6 x7 x8 x9 x10 x11 x12 x13 x14:Value) (W:World):Prop where
 k1:x1=ptr N
 m1:Below w1.heap.size w1 W
 h0:L.getD 0 false=true→x3 = .pointer (some ⟨N,1,none⟩)
 h1:L.getD 1 false=true→x4 = .int .i64 R
 h2:L.getD 2 false=true→∃ g,x5=ptr g∧w1.heap.size≤g∧Blk W g (hp R nilS 0) 105
 h3:L.getD 3 false=true→x6 = .pointer (some ⟨N,0,none⟩)
 h4:L.getD 4 false=true→x7 = .int .i64 F
 h5:L.getD 5 false=true→x8 = .int .i64 (max F 0)
 h6:L.getD 6 false=true→x9 = .pointer (some ⟨N,2,none⟩)
 h7:L.getD 7 false=true→x10 = .int .i64 D
 h8:L.getD 8 false=true→x11 = .int .i64 (max D 0)
 h9:L.getD 9 false=true→x12 = .int .i64 (min (max D 0) 1000)
 h10:L.getD 10 false=true→∃ g,x5=ptr g∧x13 = .agg (wcs g .nilIface (max F 0) (min (max D 0) 1000) 0 0 nilS)
 h11:L.getD 11 false=true→∃ b g,x14=ptr b∧x5=ptr g∧w1.heap.size≤b∧Blk W b (wcs g .nilIface (max F 0) (min (max D 0) 1000) 0 0 nilS) 48
 h12:L.getD 12 false=true→x2=x14
def NewPost (w:World) (F R D:Int) (e:Ending) (w':World):Prop:=∃ wb hb,e = .returned (ptr wb)∧Blk w' wb (wcs hb .nilIface (max F 0) (min (max D 0) 1000) 0 0 nilS) 48∧Blk w' hb (hp R nilS 0) 105∧w.heap.size≤wb∧w.heap.size≤hb∧Below w.heap.size w w'
set_option maxRecDepth 100000 in
set_option maxHeartbeats 4000000 in
theorem newW_any (F R D:Int) (w:World):Calls Tryz.prog 14 #[.agg #[.int .i64 F,.int .i64 R,.int .i64 D]] w (NewPost w F R D):=by
 obtain ⟨w1,hw1⟩:∃ w1,w.alloc (.cells #[.int .i64 F,.int .i64 R,.int .i64 D] 28)=w1:=⟨_,rfl⟩
 have k1:w1.heap.size=w.heap.size+1:=by rw [← hw1];simp
 have b1:Below w.heap.size w w1:=by rw [← hw1];exact (Below.refl _ w).alloc (Nat.le_refl _) _
 have hbl:Blk w1.drew w.heap.size #[.int .i64 F,.int .i64 R,.int .i64 D] 28:=by rw [← hw1];exact Blk.new w _ _
 have hlt:w.heap.size < w1.drew.heap.size:=by show w.heap.size < w1.heap.size;omega
 go_enter Tryz.func14,Tryz.ntmps14
 go_wp2
 refine region_inv (by kernel_rfl) (fun L a W=>∃ x0 x1 x2 x3 x4 x5 x6 x7 x8 x9 x10 x11 x12 x13 x14:Value,a={ tmps:=#[x0,x1,x2,x3,x4,x5,x6,x7,x8,x9,x10,x11,x12,x13,x14],defers:=[] }∧NewI F R D w.heap.size w1.drew L x0 x1 x2 x3 x4 x5 x6 x7 x8 x9 x10 x11 x12 x13 x14 W) (by kernel_rfl) ?start ?step ?done
 case start=>exact ⟨_,_,_,_,_,_,_,_,_,_,_,_,_,_,_,rfl,⟨rfl,Below.refl _ _,fun h=>by simp [Array.getD_eq_getD_getElem?] at h,fun h=>by simp [Array.getD_eq_getD_getElem?] at h,fun h=>by simp [Array.getD_eq_getD_getElem?] at h,fun h=>by simp [Array.getD_eq_getD_getElem?] at h,fun h=>by simp [Array.getD_eq_getD_getElem?] at h,fun h=>by simp [Array.getD_eq_getD_getElem?] at h,fun h=>by simp [Array.getD_eq_getD_getElem?] at h,fun h=>by simp [Array.getD_eq_getD_getElem?] at h,fun h=>by simp [Array.getD_eq_getD_getElem?] at h,fun h=>by simp [Array.getD_eq_getD_getElem?] at h,fun h=>by simp [Array.getD_eq_getD_getElem?] at h,fun h=>by simp [Array.getD_eq_getD_getElem?] at h,fun h=>by simp [Array.getD_eq_getD_getElem?] at h⟩⟩
 case step =>
  intro i L a W hi hdep hL hs hcl hI
  have hi2:i < 13:=by simpa using hi
  obtain ⟨x0,x1,x2,x3,x4,x5,x6,x7,x8,x9,x10,x11,x12,x13,x14,rfl,H⟩:=hI
  have ol:∀ j,i ≠ j→(L.setIfInBounds i true).getD j false=true→L.getD j false=true:=fun j hj h=>by rwa [getD_set hj] at h
  rcases (by omega:i=0∨i=1∨i=2∨i=3∨i=4∨i=5∨i=6∨i=7∨i=8∨i=9∨i=10∨i=11∨i=12) with rfl |rfl |rfl |rfl |rfl |rfl |rfl |rfl |rfl |rfl |rfl |rfl |rfl
  ·clear hi hi2
   have e:=H.k1
   subst e
   exact step_run (i:=0) (w':=W) (v:=.pointer (some ⟨w.heap.size,1,none⟩)) rfl rfl (by simp [execOp,Act.eval,go_sem]) ⟨_,_,_,_,_,_,_,_,_,_,_,_,_,_,_,rfl,⟨(H.k1),(H.m1),(fun _=>rfl),(H.h1∘ol 1 nofun),(H.h2∘ol 2 nofun),(H.h3∘ol 3 nofun),(H.h4∘ol 4 nofun),(H.h5∘ol 5 nofun),(H.h6∘ol 6 nofun),(H.h7∘ol 7 nofun),(H.h8∘ol 8 nofun),(H.h9∘ol 9 nofun),(H.h10∘ol 10 nofun),(H.h11∘ol 11 nofun),(H.h12∘ol 12 nofun)⟩⟩
  ·clear hi hi2
   have e:=H.h0 (hdep 0 (memOf (by kernel_rfl)))
   subst e
   have c:=((hbl.below H.m1 hlt).cell 1).trans (show _=some (.int .i64 R) from rfl)
   exact step_run (i:=1) (w':=W) (v:=.int .i64 R) rfl rfl (by simp [execOp,Act.eval,go_sem,c]) ⟨_,_,_,_,_,_,_,_,_,_,_,_,_,_,_,rfl,⟨(H.k1),(H.m1),(H.h0∘ol 0 nofun),(fun _=>rfl),(H.h2∘ol 2 nofun),(H.h3∘ol 3 nofun),(H.h4∘ol 4 nofun),(H.h5∘ol 5 nofun),(H.h6∘ol 6 nofun),(H.h7∘ol 7 nofun),(H.h8∘ol 8 nofun),(H.h9∘ol 9 nofun),(H.h10∘ol 10 nofun),(H.h11∘ol 11 nofun),(H.h12∘ol 12 nofun)⟩⟩
  ·clear hi hi2
   have e:=H.h1 (hdep 1 (memOf (by kernel_rfl)))
   subst e
   refine step_call (i:=2) (f:=45) (args:=#[.int .i64 R]) rfl rfl (by simp [execOp,Act.eval,go_sem]) (new_any R W) ?_
   rintro e W2 ⟨rfl,rfl⟩
   have hb:Below W.heap.size W (W.alloc (.cells (hp R nilS 0) 105)):=(Below.refl _ W).alloc (Nat.le_refl _) _
   exact ⟨_,rfl,⟨_,_,_,_,_,_,_,_,_,_,_,_,_,_,_,rfl,⟨(H.k1),(H.m1.trans (hb.mono H.m1.size)),(H.h0∘ol 0 nofun),(H.h1∘ol 1 nofun),(fun _=>⟨_,rfl,H.m1.size,Blk.new W _ _⟩),(H.h3∘ol 3 nofun),(H.h4∘ol 4 nofun),(H.h5∘ol 5 nofun),(H.h6∘ol 6 nofun),(H.h7∘ol 7 nofun),(H.h8∘ol 8 nofun),(H.h9∘ol 9 nofun),(fun h=>(not_yet hL (hcl 10 (by simp) (ol 10 (by decide) h) 2 (memOf (by kernel_rfl)))).elim),(fun h=>(not_yet hL (hcl 10 (by simp) (hcl 11 (by simp) (ol 11 (by decide) h) 10 (memOf (by kernel_rfl))) 2 (memOf (by kernel_rfl)))).elim),(H.h12∘ol 12 nofun)⟩⟩⟩
  ·clear hi hi2
   have e:=H.k1
   subst e
   exact step_run (i:=3) (w':=W) (v:=.pointer (some ⟨w.heap.size,0,none⟩)) rfl rfl (by simp [execOp,Act.eval,go_sem]) ⟨_,_,_,_,_,_,_,_,_,_,_,_,_,_,_,rfl,⟨(H.k1),(H.m1),(H.h0∘ol 0 nofun),(H.h1∘ol 1 nofun),(H.h2∘ol 2 nofun),(fun _=>rfl),(H.h4∘ol 4 nofun),(H.h5∘ol 5 nofun),(H.h6∘ol 6 nofun),(H.h7∘ol 7 nofun),(H.h8∘ol 8 nofun),(H.h9∘ol 9 nofun),(H.h10∘ol 10 nofun),(H.h11∘ol 11 nofun),(H.h12∘ol 12 nofun)⟩⟩
  ·clear hi hi2
   have e:=H.h3 (hdep 3 (memOf (by kernel_rfl)))
   subst e
   have c:=((hbl.below H.m1 hlt).cell 0).trans (show _=some (.int .i64 F) from rfl)
   exact step_run (i:=4) (w':=W) (v:=.int .i64 F) rfl rfl (by simp [execOp,Act.eval,go_sem,c]) ⟨_,_,_,_,_,_,_,_,_,_,_,_,_,_,_,rfl,⟨(H.k1),(H.m1),(H.h0∘ol 0 nofun),(H.h1∘ol 1 nofun),(H.h2∘ol 2 nofun),(H.h3∘ol 3 nofun),(fun _=>rfl),(H.h5∘ol 5 nofun),(H.h6∘ol 6 nofun),(H.h7∘ol 7 nofun),(H.h8∘ol 8 nofun),(H.h9∘ol 9 nofun),(H.h10∘ol 10 nofun),(H.h11∘ol 11 nofun),(H.h12∘ol 12 nofun)⟩⟩
  ·clear hi hi2
   have e:=H.h4 (hdep 4 (memOf (by kernel_rfl)))
   subst e
   exact step_run (i:=5) (w':=W) (v:=.int .i64 (max F 0)) rfl rfl (by simp [execOp,Act.eval,go_sem,maxz]) ⟨_,_,_,_,_,_,_,_,_,_,_,_,_,_,_,rfl,⟨(H.k1),(H.m1),(H.h0∘ol 0 nofun),(H.h1∘ol 1 nofun),(H.h2∘ol 2 nofun),(H.h3∘ol 3 nofun),(H.h4∘ol 4 nofun),(fun _=>rfl),(H.h6∘ol 6 nofun),(H.h7∘ol 7 nofun),(H.h8∘ol 8 nofun),(H.h9∘ol 9 nofun),(H.h10∘ol 10 nofun),(H.h11∘ol 11 nofun),(H.h12∘ol 12 nofun)⟩⟩
  ·clear hi hi2
   have e:=H.k1
   subst e
   exact step_run (i:=6) (w':=W) (v:=.pointer (some ⟨w.heap.size,2,none⟩)) rfl rfl (by simp [execOp,Act.eval,go_sem]) ⟨_,_,_,_,_,_,_,_,_,_,_,_,_,_,_,rfl,⟨(H.k1),(H.m1),(H.h0∘ol 0 nofun),(H.h1∘ol 1 nofun),(H.h2∘ol 2 nofun),(H.h3∘ol 3 nofun),(H.h4∘ol 4 nofun),(H.h5∘ol 5 nofun),(fun _=>rfl),(H.h7∘ol 7 nofun),(H.h8∘ol 8 nofun),(H.h9∘ol 9 nofun),(H.h10∘ol 10 nofun),(H.h11∘ol 11 nofun),(H.h12∘ol 12 nofun)⟩⟩
  ·clear hi hi2
   have e:=H.h6 (hdep 6 (memOf (by kernel_rfl)))
   subst e
   have c:=((hbl.below H.m1 hlt).cell 2).trans (show _=some (.int .i64 D) from rfl)
   exact step_run (i:=7) (w':=W) (v:=.int .i64 D) rfl rfl (by simp [execOp,Act.eval,go_sem,c]) ⟨_,_,_,_,_,_,_,_,_,_,_,_,_,_,_,rfl,⟨(H.k1),(H.m1),(H.h0∘ol 0 nofun),(H.h1∘ol 1 nofun),(H.h2∘ol 2 nofun),(H.h3∘ol 3 nofun),(H.h4∘ol 4 nofun),(H.h5∘ol 5 nofun),(H.h6∘ol 6 nofun),(fun _=>rfl),(H.h8∘ol 8 nofun),(H.h9∘ol 9 nofun),(H.h10∘ol 10 nofun),(H.h11∘ol 11 nofun),(H.h12∘ol 12 nofun)⟩⟩
  ·clear hi hi2
   have e:=H.h7 (hdep 7 (memOf (by kernel_rfl)))
   subst e
   exact step_run (i:=8) (w':=W) (v:=.int .i64 (max D 0)) rfl rfl (by simp [execOp,Act.eval,go_sem,maxz]) ⟨_,_,_,_,_,_,_,_,_,_,_,_,_,_,_,rfl,⟨(H.k1),(H.m1),(H.h0∘ol 0 nofun),(H.h1∘ol 1 nofun),(H.h2∘ol 2 nofun),(H.h3∘ol 3 nofun),(H.h4∘ol 4 nofun),(H.h5∘ol 5 nofun),(H.h6∘ol 6 nofun),(H.h7∘ol 7 nofun),(fun _=>rfl),(H.h9∘ol 9 nofun),(H.h10∘ol 10 nofun),(H.h11∘ol 11 nofun),(H.h12∘ol 12 nofun)⟩⟩
  ·clear hi hi2
   have e:=H.h8 (hdep 8 (memOf (by kernel_rfl)))
   subst e
   exact step_run (i:=9) (w':=W) (v:=.int .i64 (min (max D 0) 1000)) rfl rfl (by simp [execOp,Act.eval,go_sem,minz]) ⟨_,_,_,_,_,_,_,_,_,_,_,_,_,_,_,rfl,⟨(H.k1),(H.m1),(H.h0∘ol 0 nofun),(H.h1∘ol 1 nofun),(H.h2∘ol 2 nofun),(H.h3∘ol 3 nofun),(H.h4∘ol 4 nofun),(H.h5∘ol 5 nofun),(H.h6∘ol 6 nofun),(H.h7∘ol 7 nofun),(H.h8∘ol 8 nofun),(fun _=>rfl),(H.h10∘ol 10 nofun),(H.h11∘ol 11 nofun),(H.h12∘ol 12 nofun)⟩⟩
  ·clear hi hi2
   have e5:=H.h2 (hdep 2 (memOf (by kernel_rfl)))
   have e8:=H.h5 (hdep 5 (memOf (by kernel_rfl)))
   have e12:=H.h9 (hdep 9 (memOf (by kernel_rfl)))
   obtain ⟨g,e5,hg1,hg2⟩:=e5
   subst e5 e8 e12
   have hbd:=run_bdW W g (max F 0) (min (max D 0) 1000)
   exact step_run (i:=10) (w':=W) (v:=.agg (wcs g .nilIface (max F 0) (min (max D 0) 1000) 0 0 nilS)) rfl rfl (by simp [execOp,Act.eval,go_sem,hbd]) ⟨_,_,_,_,_,_,_,_,_,_,_,_,_,_,_,rfl,⟨(H.k1),(H.m1),(H.h0∘ol 0 nofun),(H.h1∘ol 1 nofun),(H.h2∘ol 2 nofun),(H.h3∘ol 3 nofun),(H.h4∘ol 4 nofun),(H.h5∘ol 5 nofun),(H.h6∘ol 6 nofun),(H.h7∘ol 7 nofun),(H.h8∘ol 8 nofun),(H.h9∘ol 9 nofun),(fun _=>⟨g,rfl,rfl⟩),(H.h11∘ol 11 nofun),(H.h12∘ol 12 nofun)⟩⟩
  ·clear hi hi2
   have e13:=H.h10 (hdep 10 (memOf (by kernel_rfl)))
   obtain ⟨g,e5,e13⟩:=e13
   subst e5 e13
   have hb:Below W.heap.size W (W.alloc (.cells (wcs g .nilIface (max F 0) (min (max D 0) 1000) 0 0 nilS) 48)):=(Below.refl _ W).alloc (Nat.le_refl _) _
   exact step_run (i:=11) (w':=(W.alloc (.cells (wcs g .nilIface (max F 0) (min (max D 0) 1000) 0 0 nilS) 48))) (v:=ptr W.heap.size) rfl rfl (by simp [execOp,Act.eval,go_sem]) ⟨_,_,_,_,_,_,_,_,_,_,_,_,_,_,_,rfl,⟨(H.k1),(H.m1.trans (hb.mono H.m1.size)),(H.h0∘ol 0 nofun),(H.h1∘ol 1 nofun),(fun h=>let ⟨g,q1,q2,q3⟩:=H.h2 (ol 2 (by decide) h);⟨g,q1,q2,q3.call hb⟩),(H.h3∘ol 3 nofun),(H.h4∘ol 4 nofun),(H.h5∘ol 5 nofun),(H.h6∘ol 6 nofun),(H.h7∘ol 7 nofun),(H.h8∘ol 8 nofun),(H.h9∘ol 9 nofun),(H.h10∘ol 10 nofun),(fun _=>⟨_,g,rfl,rfl,H.m1.size,Blk.new W _ _⟩),(fun h=>(not_yet hL (hcl 12 (by simp) (ol 12 (by decide) h) 11 (memOf (by kernel_rfl)))).elim)⟩⟩
  ·clear hi hi2
   have e14:=H.h11 (hdep 11 (memOf (by kernel_rfl)))
   exact step_run (i:=12) (w':=W) (v:=x14) rfl rfl (by simp [execOp,Act.eval,go_sem]) ⟨_,_,_,_,_,_,_,_,_,_,_,_,_,_,_,rfl,⟨(H.k1),(H.m1),(H.h0∘ol 0 nofun),(H.h1∘ol 1 nofun),(H.h2∘ol 2 nofun),(H.h3∘ol 3 nofun),(H.h4∘ol 4 nofun),(H.h5∘ol 5 nofun),(H.h6∘ol 6 nofun),(H.h7∘ol 7 nofun),(H.h8∘ol 8 nofun),(H.h9∘ol 9 nofun),(H.h10∘ol 10 nofun),(H.h11∘ol 11 nofun),(fun _=>rfl)⟩⟩
 case done =>
  rintro L a W hall ⟨x0,x1,x2,x3,x4,x5,x6,x7,x8,x9,x10,x11,x12,x13,x14,rfl,H⟩
  obtain ⟨b,g,e14,e5,hb1,hb2⟩:=H.h11 (hall 11 (by simp))
  obtain ⟨g2,e52,hg1,hg2⟩:=H.h2 (hall 2 (by simp))
  have e2:=H.h12 (hall 12 (by simp))
  rw [e5] at e52
  obtain rfl:g=g2:=by injection e52 with e;injection e with e;injection e
  subst e5 e2 e14
  have HM:=Lib.hid H.m1
  have HB1:=Lib.hid b1
  have HX:=Lib.hid (show NewPost w F R D (.returned (ptr b)) W from ⟨b,g,rfl,hb2,hg2,by have:w1.heap.size≤b:=hb1;omega,by have:w1.heap.size≤g:=hg1;omega,b1.drew.trans (H.m1.mono (by show w.heap.size≤w1.heap.size;omega))⟩)
  clear H hb1 hb2 hg1 hg2 hall hbl b1 hw1
  go_wp2
  go_ret
  exact HX.out
end Go.Proofs.YtkadkmnolkkhgaaGreatDoor.Mo

/-
 slices.Concat of two lists of values.
-/
namespace Go.Proofs.YtkadkmnolkkhgaaGreatDoor.Mw
open Go Go.RowKit Go.Maps Go.Shelf Keys Hp Mo
open Des (Vl Ds zeroV zeroD dcs dcs_size dcs_one accF rigF appF eqV)
open Arrs (En ecs)
theorem infoV5:(Tryz.prog.info? 30).map (fun i=>(i.zero,i.size,i.bytes))=some (some (.agg #[.int .i64 0,.int .i64 0,.string ⟨#[]⟩]),3,32):=by kernel_rfl
theorem cellsV_app (a b:List Vl):cellsV (a++b)=cellsV a++cellsV b:=by simp [cellsV]
theorem grow_run (w:World) (n:Nat) (h0:0 < n) (hn:n≤1000000000):∃ cp w',(Builtin.append_ #[22,3] 22 #[.slice none 0 0,.int .i64 n]).run Tryz.prog w = .ok (.slice (some ⟨w.heap.size,0,none⟩) n cp) w'∧w'.ownsRow w.heap.size 30 3 (.slice (some ⟨w.heap.size,0,none⟩) 0 cp) 0 []∧Below w.heap.size w w'∧n≤cp:=by
 obtain ⟨i,hi,hz,hs,hb⟩:=info_parts infoV5
 have hr:=Lib.run_append_nil_zeros (P:=Tryz.prog) w 22 3 22 30 i (.agg #[.int .i64 0,.int .i64 0,.string ⟨#[]⟩]) .i64 .i64 Tryz.underlying22 Tryz.underlying3 hi hz n h0 (by rw [hs];decide) (by omega) (by rw [hb];omega)
 refine ⟨_,_,hr,?_,((Below.refl _ w).drew).alloc (Nat.le_refl _) _,?_⟩
 ·refine World.ownsRow_made (base:=w.heap.size) w.drew _ _ (Nat.le_refl _) (grownCap_le_maxLen w n 0 30 (by unfold maxLen;omega)) ?_
  have:=grownCap_ge w n 0 30
  simp only [Array.size_append,size_zeroCells]
  show n*3+(grownCap w n 0 30 - n)*3=grownCap w n 0 30*3
  omega
 ·exact grownCap_ge w n 0 30
set_option maxRecDepth 100000 in
set_option maxHeartbeats 4000000 in
theorem grow_any (n:Nat) (hn:n≤1000000000) (w:World):Calls Tryz.prog 236 #[.slice none 0 0,.int .i64 n] w fun e w'=>∃ a cp,e = .returned (.slice a 0 cp)∧w'.ownsRow w.heap.size 30 3 (.slice a 0 cp) 0 []∧Below w.heap.size w w':=by
 by_cases h0:n=0
 ·subst h0
  go_enter Tryz.func236,Tryz.ntmps236
  go_wp2
  go_ret
  exact ⟨none,0,rfl,World.ownsRow_nil _ _ _ _,Below.refl _ _⟩
 ·obtain ⟨cp,w2,hr,hown,hb,hcp⟩:=grow_run w n (by omega) hn
  have h1:¬ ((n:Int) < 0):=by omega
  have h2:(0:Int) < n:=by omega
  have hw64:wrap64 (n:Int)=n:=by unfold wrap64;omega
  have hr2:(Builtin.append_ #[22,3] 22 #[.slice none 0 0,.int .i64 (wrap64 n)]).run Tryz.prog w = .ok (.slice (some ⟨w.heap.size,0,none⟩) n cp) w2:=by rw [hw64];exact hr
  have HO:=Lib.hid hown
  have HB:=Lib.hid hb
  clear h0 hn hown hb hr
  go_enter Tryz.func236,Tryz.ntmps236
  go_wp2_with (at_builtin;refine Lib.wpList_append_run _ rfl _ _ _ _ rfl _ _ rfl rfl _ _ hr2 ?_)
  go_ret
  exact ⟨_,cp,rfl,HO.out,HB.out⟩
theorem own_vs {w:World} {lo:Nat} {v:Value} {vs:List Vl} (h:w.ownsRow lo 30 3 v vs.length (cellsV vs)):∃ a c,v = .slice a vs.length c:=Hp.own_shape h
theorem VsOut.at_ {B:List Nat} {w:World} {a:Option Addr} {n c:Nat} {vs:List Vl} (h:VsOut B w (.slice a n c) vs):n=vs.length∧(vs=[]∨∃ b off,a=some ⟨b,off,none⟩∧b < w.heap.size∧w.rangeAt b off (cellsV vs)):=by
 obtain ⟨a',c',e,h⟩:=h
 simp only [Value.slice.injEq] at e
 obtain ⟨rfl,rfl,rfl⟩:=e
 refine ⟨rfl,h.imp id ?_⟩
 rintro ⟨b,off,h1,h2,h3,h4⟩
 exact ⟨b,off,h1,h2,h4⟩
theorem own_le {w:World} {lo n m cp sz:Nat} {t:TypeId} {a:Option Addr} {xs:List Value} (h:w.ownsRow lo t sz (.slice a n cp) m xs):m≤cp:=by
 rcases h.2 with ⟨h1,h2⟩ |⟨g,cap,cur,h1,hg,hb,hle,hcap,-⟩
 ·omega
 ·simp only [Value.slice.injEq] at h1
  omega
theorem app_zero (w:World) (a':Option Addr) (n c':Nat) (a:Option Addr) (c:Nat) (hn:n≤c'):(Builtin.append_ #[22,22] 22 #[.slice a' n c',.slice a 0 c]).run Tryz.prog w = .ok (.slice a' n c') w:=by
 obtain ⟨i,hi,hz,hs,hb⟩:=info_parts infoV5
 cases a <;> cases a' <;> simp [Builtin.append_,run_underlying Tryz.underlying22,sizeOf,typeInfo,zeroValue,hi,hz,hs,hn,Builtin.lenOf,Builtin.firstCells,storeCells,go_sem]
theorem app_vs {w:World} {lo:Nat} {v:Value} {xs vs:List Vl} {B:List Nat} {a:Option Addr} {c:Nat} (hown:w.ownsRow lo 30 3 v xs.length (cellsV xs)) (h:VsOut B w (.slice a vs.length c) vs) (hl:xs.length+vs.length≤1000000000) (hlo:lo≤w.heap.size) :
  ∃ v' w',(Builtin.append_ #[22,22] 22 #[v,.slice a vs.length c]).run Tryz.prog w = .ok v' w'∧w'.ownsRow lo 30 3 v' (xs++vs).length (cellsV (xs++vs))∧w.grownBy w' v.ownBlock:=by
 obtain ⟨i,hi,hz,hs,hb⟩:=info_parts infoV5
 rcases h.at_.2 with h0 |⟨b,off,rfl,hlt,hr⟩
 ·subst h0
  rw [List.append_nil]
  obtain ⟨a',c',e⟩:=Hp.own_shape hown
  subst e
  exact ⟨_,w,app_zero w a' xs.length c' a c (own_le hown),hown,World.grownBy.refl _ _⟩
 ·obtain ⟨v',w4,hrun,hown4,hgrow4,_⟩:=run_append_own (P:=Tryz.prog) w lo 22 22 30 i (.agg #[.int .i64 0,.int .i64 0,.string ⟨#[]⟩]) 3 32 Tryz.underlying22 hi hz hs hb rfl (by decide) v xs.length (cellsV xs) hown ⟨b,off,none⟩ vs.length c (cellsV vs) (cellsV_length vs) (fun j u hj=>by rw [Addr.add_mid];exact hr j u hj) (cellsV_one vs) (by unfold maxLen;omega) (by omega) hlo
  exact ⟨v',w4,hrun,by rw [cellsV_app,List.length_append];exact hown4,hgrow4⟩
def preL (l1 l2:List Vl):Nat→List Vl
 | 0=>[]
 | 1=>l1
 | _=>l1++l2
def curL (l1 l2:List Vl):Nat→List Vl
 | 0=>l1
 | _=>l2
theorem pre_next (l1 l2:List Vl) {j:Nat} (h:j < 2):preL l1 l2 j++curL l1 l2 j=preL l1 l2 (j+1):=by
 rcases (by omega:j=0∨j=1) with rfl |rfl <;> simp [preL,curL]
set_option maxRecDepth 100000 in
set_option maxHeartbeats 4000000 in
theorem concat_any {B:List Nat} {a1 a2:Option Addr} {c1 c2:Nat} {l1 l2:List Vl} {w:World} (h1:VsOut B w (.slice a1 l1.length c1) l1) (h2:VsOut B w (.slice a2 l2.length c2) l2) {gb:Nat} (hg:gb < w.heap.size) (k0:w.cell? ⟨gb,0,none⟩=some (.slice a1 l1.length c1)) (k1:w.cell? ⟨gb,1,none⟩=some (.slice a2 l2.length c2)) (hl:l1.length+l2.length≤1000000000) :
  Calls Tryz.prog 193 #[.slice (some ⟨gb,0,none⟩) 2 2] w fun e w'=>∃ v,e = .returned v∧w'.ownsRow w.heap.size 30 3 v (l1++l2).length (cellsV (l1++l2))∧Below w.heap.size w w':=by
 obtain ⟨A,hA⟩:∃ A:Nat→Option Addr,A=fun j=>if j=0 then a1 else a2:=⟨_,rfl⟩
 obtain ⟨CP,hCP⟩:∃ C:Nat→Nat,C=fun j=>if j=0 then c1 else c2:=⟨_,rfl⟩
 obtain ⟨LN,hLN⟩:∃ L:Nat→Nat,L=fun j=>(curL l1 l2 j).length:=⟨_,rfl⟩
 obtain ⟨SM,hSM⟩:∃ S:Nat→Nat,S=fun j=>(preL l1 l2 j).length:=⟨_,rfl⟩
 have HC:Hid (∀ w',Below w.heap.size w w'→∀ j,j < 2→w'.cell? ⟨gb,j,none⟩=some (.slice (A j) (LN j) (CP j))∧VsOut B w' (.slice (A j) (LN j) (CP j)) (curL l1 l2 j)):=Lib.hid fun w' hb j hj=>by
  have hn:Nx B w B w':=Nx.of_below hb
  rcases (by omega:j=0∨j=1) with rfl |rfl
  ·refine ⟨(hb.cell (p:=⟨gb,0,none⟩) hg).trans ?_,?_⟩
   ·rw [hA,hCP,hLN];exact k0
   ·rw [hA,hCP,hLN];exact h1.nx hn
  ·refine ⟨(hb.cell (p:=⟨gb,1,none⟩) hg).trans ?_,?_⟩
   ·rw [hA,hCP,hLN];exact k1
   ·rw [hA,hCP,hLN];exact h2.nx hn
 have HS:Hid (∀ j,j < 2→SM j+LN j=SM (j+1)∧SM (j+1)≤1000000000):=Lib.hid fun j hj=>by
  rw [hSM,hLN]
  refine ⟨by simp only;rw [← pre_next l1 l2 hj,List.length_append],?_⟩
  simp only
  rcases (by omega:j=0∨j=1) with rfl |rfl
  ·show l1.length≤_;omega
  ·show (l1++l2).length≤_;rw [List.length_append];omega
 have HS0:=Lib.hid (show SM 0=0 by rw [hSM];rfl)
 have HS2:=Lib.hid (show SM 2=(l1++l2).length by rw [hSM];rfl)
 have HSM:=Lib.hid hSM
 have HLN:=Lib.hid hLN
 have HLT:=Lib.hid hg
 clear h1 h2 k0 k1 hA hCP hLN hSM hg hl
 go_enter Tryz.func193,Tryz.ntmps193
 go_wp2_with fail
 go_loopg [3,5,11] 2 (fun g s3 s5 i wr=>wr=w∧∃ j:Nat,j≤2∧g=2 - j∧i = .int .i64 j∧s3 = .int .i64 (SM j))
 case atStart=>exact ⟨rfl,0,Nat.zero_le _,rfl,rfl,by rw [HS0.out];rfl⟩
 case round =>
  obtain ⟨rfl,j,hj,rfl,rfl,rfl⟩:=hrel
  by_cases hj2:j < 2
  ·obtain ⟨q1,q2⟩:=HC.out wr (Below.refl _ _) j hj2
   obtain ⟨r1,r2⟩:=HS.out j hj2
   have hji:(j:Int) < 2:=by omega
   have hwr:wrap64 ((SM j:Int)+(LN j:Int))=(SM (j+1):Int):=by unfold wrap64;omega
   have hnn:¬ ((SM (j+1):Int) < 0):=by omega
   have HR:=Lib.hid r1
   clear q2 r1
   go_wp2
   go_roundg (2 - (j+1))
   case measure=>omega
   case rel=>exact ⟨rfl,j+1,by omega,rfl,by go_num,by first |rfl |rw [hwr]⟩
  ·obtain rfl:j=2:=by omega
   have hb0:(SM 2)≤1000000000:=(HS.out 1 (by omega)).2
   have hgr:=grow_any (SM 2) hb0 wr
   have hs2:((SM 2:Nat):Int)=SM 2:=rfl
   clear hj hj2
   go_wp2_with (go_at_call 236;(with_reducible refine hgr.mono ?_);rintro e w2 ⟨ga,gc,rfl,hown,hb⟩;have HO:=Lib.hid hown;have HB:=Lib.hid hb;clear hown hb)
   go_loopg [6,8,27] 2 (fun g s6 s8 i wx=>∃ (j:Nat) (v:Value),j≤2∧g=2 - j∧i = .int .i64 j∧s6=v∧wx.ownsRow wr.heap.size 30 3 v (SM j) (cellsV (preL l1 l2 j))∧Below wr.heap.size wr wx)
   case atStart=>exact ⟨0,_,Nat.zero_le _,rfl,rfl,rfl,by rw [HS0.out];exact HO.out,HB.out⟩
   case round =>
    rename World=>wx
    obtain ⟨j,v,hj,rfl,rfl,rfl,hown,hb⟩:=hrel
    by_cases hj2:j < 2
    ·obtain ⟨q1,q2⟩:=HC.out wx hb j hj2
     have hji:(j:Int) < 2:=by omega
     have hsj:SM j=(preL l1 l2 j).length:=by rw [HSM.out]
     have hlj:LN j=(curL l1 l2 j).length:=by rw [HLN.out]
     obtain ⟨r1,r2⟩:=HS.out j hj2
     rw [hlj] at q2
     have hown2:=hown
     rw [hsj] at hown2
     obtain ⟨v',w',hrun,hown',hgrow⟩:=app_vs hown2 q2 (by omega) hb.size
     rw [← hlj] at hrun
     have HEND:=Lib.hid (show w'.ownsRow wr.heap.size 30 3 v' (SM (j+1)) (cellsV (preL l1 l2 (j+1)))∧Below wr.heap.size wr w' from ⟨by rw [← pre_next l1 l2 hj2,HSM.out];simp only;rw [← pre_next l1 l2 hj2];exact hown',hb.grown hgrow hb.size (fun k hk=>own_low hown k (obl_mem hk.symm))⟩)
     clear q2 hown hown2 hown' hgrow hb r1 r2 hsj hlj
     go_wp2_with (at_builtin;refine wpApp rfl (.tmp 31) (.tmp 32) 22 rfl rfl _ _ _ rfl rfl hrun ?_)
     go_roundg (2 - (j+1))
     case measure=>omega
     case rel=>exact ⟨j+1,v',by omega,rfl,by go_num,rfl,HEND.out.1,HEND.out.2⟩
    ·obtain rfl:j=2:=by omega
     rw [HS2.out] at hown
     have HO2:=Lib.hid hown
     clear hown hj hj2
     go_wp2
     go_ret
     exact ⟨_,rfl,HO2.out,hb⟩
end Go.Proofs.YtkadkmnolkkhgaaGreatDoor.Mw

/-
 argument.
-/
namespace Go.Proofs.YtkadkmnolkkhgaaGreatDoor.Mw
open Go Go.RowKit Go.Maps Go.Shelf Keys Hp Mo
open Des (Vl Ds zeroV zeroD dcs dcs_size dcs_one accF rigF appF eqV)
open Arrs (En ecs)
theorem cellsV_at:∀ {l:List Vl} {k:Nat} {v:Vl} {j:Nat} {u:Value},l[k]? = some v→(vcs v).toList[j]? = some u→(cellsV l)[k*3+j]? = some u
 | [],k,v,j,u,h,_=>by simp at h
 | a :: r,0,v,j,u,h,hj=>by
  simp at h
  subst h
  have e:cellsV (a :: r)=(vcs a).toList++cellsV r:=rfl
  have hj3:j < (vcs a).toList.length:=(List.getElem?_eq_some_iff.1 hj).1
  rw [e,Nat.zero_mul,Nat.zero_add,List.getElem?_append_left hj3]
  exact hj
 | a :: r,k+1,v,j,u,h,hj=>by
  have e:cellsV (a :: r)=(vcs a).toList++cellsV r:=rfl
  have h3:(vcs a).toList.length=3:=rfl
  rw [e,List.getElem?_append_right (by omega),h3,show (k+1)*3+j - 3=k*3+j by omega]
  exact cellsV_at (by simpa using h) hj
attribute [local go_sem ↓] ldR stR alR bxR bdR ldV stV alV bxV bdV ldA stA bxA bdA ldKy bxKy bdKy 
attribute [local irreducible] rcs dcs ecs vcs acs kcs xcs tcs
attribute [local go_sem] run_bx run_alR run_stRg run_bdA0 run_bdAk run_bdAkr run_bdAkvr run_bdAr run_bdAkd run_bdRz run_bdRd run_bdRk run_bdRf run_bdRo run_bdRs run_bdRt' run_bdKs run_bdV0 run_alV
section
variable {X:Cx} {c:Nat} {M M' M'':Wm} {w w' w'':World} {A A' A'':Aw} {ls:List Lc} {kl:List (Value × List KV)} {ro:List Lc} {D:DoT}
theorem stVn (w:World) (v u:Vl):(St 30 (.pointer (some ⟨w.heap.size,0,none⟩)) (.agg (vcs v))).run Tryz.prog (w.alloc (.cells (vcs u) 30)) = .ok () (w.alloc (.cells (vcs v) 30)):=by
 rw [run_stVp (v:=v) (Blk.new w (vcs u) 30),setRow_new]
set_option maxRecDepth 100000 in
set_option maxHeartbeats 4000000 in
theorem arg_any {B:List Nat} {aa:Option Addr} {ac:Nat} {l:List Vl} {w:World} (h:VsOut B w (.slice aa l.length ac) l) (n:Int) (hl:l.length≤1000000000):Calls Tryz.prog 195 #[.slice aa l.length ac,.int .i64 n] w fun e w'=>e = .returned (.agg (vcs (argF l n)))∧Below w.heap.size w w':=by
 have s0:=stVn w zeroV zeroV
 have X0:=Lib.hid (Blk.new w (vcs zeroV) 30)
 have B0:=Lib.hid (show Below w.heap.size w (w.alloc (.cells (vcs zeroV) 30)) from (Below.refl _ w).alloc (Nat.le_refl _) _)
 unfold argF
 by_cases hn:n < 0
 ·have d0:decide (n < 0)=true:=by simp [hn]
  rw [if_pos hn]
  have HN:=Lib.hid hn
  clear h hn
  go_enter Tryz.func195,Tryz.ntmps195
  go_wp2
  refine bodyPost_ret (res_V rfl _ _ w.heap.size zeroV rfl X0.out) rfl ?_
  exact ⟨rfl,B0.out⟩
 ·have d0:decide (n < 0)=false:=by simp;omega
  rw [if_neg hn]
  by_cases hge:n ≥ l.length
  ·have hz:l[n.toNat]? = none:=List.getElem?_eq_none_iff.2 (by omega)
   rw [hz]
   simp only [Option.getD_none]
   have d1:decide ((l.length:Int)≤n)=true:=by simpa using hge
   have HN:=Lib.hid hn
   clear h hn hge hz
   go_enter Tryz.func195,Tryz.ntmps195
   go_wp2
   refine bodyPost_ret (res_V rfl _ _ w.heap.size zeroV rfl X0.out) rfl ?_
   exact ⟨rfl,B0.out⟩
  ·obtain ⟨v,hv⟩:∃ v,l[n.toNat]? = some v:=⟨_,List.getElem?_eq_getElem (by omega)⟩
   rw [hv]
   simp only [Option.getD_some]
   obtain ⟨a',c',e,h'⟩:=h
   simp only [Value.slice.injEq,true_and] at e
   obtain ⟨rfl,rfl⟩:=e
   rcases h' with h' |⟨b,off,rfl,hlt,ho,hr⟩
   ·subst h';simp at hv
   obtain ⟨k,rfl⟩:∃ k:Nat,n=k:=⟨n.toNat,by omega⟩
   have hv':l[k]? = some v:=by simpa using hv
   have hk:k < l.length:=(List.getElem?_eq_some_iff.1 hv').1
   have hrv:w.rangeAt b (off+k*3) (vcs v).toList:=fun j u hj=>by
    have hj3:j < 3:=by have:=(List.getElem?_eq_some_iff.1 hj).1;simpa [vcs] using this
    have hc:=hr (k*3+j) u ?_
    ·rw [show off+k*3+j=off+(k*3+j) by omega];exact hc
    ·exact cellsV_at hv' hj
   have lv:=run_ldVm (w:=w.alloc (.cells (vcs zeroV) 30)) (b:=b) (o:=off+k*3) (v:=v) fun j u hj=>by rw [World.cell?_alloc_lt _ _ _ hlt];exact hrv j u hj
   obtain ⟨L,hL⟩:∃ L,l.length=L:=⟨_,rfl⟩
   rw [hL] at hk hge hl
   have d1:decide ((L:Int)≤k)=false:=by simp;omega
   have hk2:(k:Int) < L:=by omega
   have s1:=run_stVp (v:=v) (Blk.new w (vcs zeroV) 30)
   have X1:=Lib.hid ((Blk.new w (vcs zeroV) 30).row (vcs v))
   have B1:=Lib.hid (below_rowW B0.out (vcs v) (Nat.le_refl _))
   have hk0:¬ ((k:Int) < 0):=by omega
   have HN:=Lib.hid hn
   rw [hL]
   clear hn hge hv hv' hr hrv hlt ho hL
   go_enter Tryz.func195,Tryz.ntmps195
   go_wp2
   refine bodyPost_ret (res_V rfl _ _ w.heap.size v rfl X1.out) rfl ?_
   exact ⟨rfl,B1.out⟩
end
end Go.Proofs.YtkadkmnolkkhgaaGreatDoor.Mw

/-
 getOf; inherited.
-/
namespace Go.Proofs.YtkadkmnolkkhgaaGreatDoor.Mw
open Go Go.RowKit Go.Maps Go.Shelf Keys Hp Mo
open Des (Vl Ds zeroV zeroD dcs dcs_size dcs_one accF rigF appF eqV)
open Arrs (En ecs)
attribute [local go_sem ↓] ldR stR alR bxR bdR ldV stV alV bxV bdV ldA stA bxA bdA ldKy bxKy bdKy 
attribute [local irreducible] rcs dcs ecs vcs acs kcs xcs tcs
attribute [local go_sem] run_bx run_alR run_stRg run_bdA0 run_bdAk run_bdAkr run_bdAkvr run_bdAr run_bdArl run_bdAkd run_bdRz run_bdRd run_bdRk run_bdRf run_bdRo run_bdRs run_bdRt' run_bdKs 
section
variable {X:Cx} {c:Nat} {M M' M'':Wm} {w w' w'':World} {A A' A'':Aw} {ls:List Lc} {kl:List (Value × List KV)} {ro:List Lc} {D:DoT}
theorem res2_R {fn:Func} {p q:Tmp} (h:fn.results=#[.cell p 57,.tmp q]) (tmps:Array Value) (w:World) (g:Nat) (r:Rp) (hp:tmps.getD p undef = .pointer (some ⟨g,0,none⟩)) {T:TypeId} (hr:Blk w g (rcs r) T) :
  (results fn tmps).run Tryz.prog w = .ok (.tuple #[.agg (rcs r),tmps.getD q undef]) w:=by
 have hv:=run_loadVar_row (P:=Tryz.prog) w g T 57 (rcs r) (0,0) _ hr Tryz.underlying57 rfl (by rw [rcs_size];exact sizeR)
 rw [results_cell_tmp h,hp]
 simp [asAddr,hv,Result.andThen]
def PostB (X:Cx) (c:Nat) (M:Wm) (w:World) (R:(Rr × Bool) × Aw) (e:Ending) (w':World):Prop :=
 ∃ M' kv,e = .returned (.tuple #[.agg (rcs (R.1.1.mem kv)),.bool R.1.2])∧KsOut (M'.bl X.wb) w' kv R.1.1.ks∧WIs X (cr R.1.1 c) M' w' R.2∧Nx (M.bl X.wb) w (M'.bl X.wb) w'
theorem fine_zero:Fine zeroQ.k:=⟨by decide,by decide,by decide⟩
theorem Fm.lt0 {x:Lc} {l:List Lc} (F:Fm X c M w M' w' A' (x :: l) kl ro):x.b < w'.heap.size:=F.l0.blk.lt
theorem Fm.finB {R:(Rr × Bool) × Aw} {kv:Value} (F:Fm X (cr R.1.1 c) M w M' w' R.2 ls kl ro) (hk:KsOut (M'.bl X.wb) w' kv R.1.1.ks):PostB X c M w R (.returned (.tuple #[.agg (rcs (R.1.1.mem kv)),.bool R.1.2])) w':=⟨M',kv,rfl,hk,F.wis,F.nx⟩
set_option maxRecDepth 100000 in
set_option maxHeartbeats 4000000 in
theorem getOf_any (HD:DoIs X D) (h:WIs X (c+1) M w A) (v:Vl) (s:ByteArray) (hs:Fine (s,0)) :
  Calls Tryz.prog 82 #[ptr X.wb,.agg (vcs v),.string s] w (Post X c M w (getOfF D v (s,0) A)):=by
 obtain ⟨w1,hw1⟩:∃ w1,(w.alloc (.cells (vcs v) 30)).alloc (.cells (rcs zeroR) 57)=w1:=⟨_,rfl⟩
 have F0:Fm X (c+1) M w M w1 A [⟨w.heap.size+1,rcs zeroR,57⟩,⟨w.heap.size,vcs v,30⟩] [] []:=by
  rw [← hw1];exact ((Fm.start h).new _ _).newg _ _ _ (by simp)
 have hd:=ask_any HD F0.wis 8 v { zeroQ with k:=(s,0),r:=v } nilS hs (VsOut.nil _ _) (by simp [zeroQ])
 have lv:=run_ldVp F0.l1.blk
 have SZ1:=Lib.hid F0.lt0
 have HF0:=Lib.hid F0
 clear F0 h hs HD
 unfold getOfF
 go_enter Tryz.func82,Tryz.ntmps82
 go_wp2_with (go_at_call 118;refine hd.mono ?_;rintro e w2 ⟨M2,kv2,rfl,hks,hM,hn⟩;have hg2:=Rr.good _ hks;have SZ2:=Lib.hid hn.size;have F2:=HF0.out.post hks hM hn;have s2:=run_stRp F2.l0.blk hg2;have HF2:=Lib.hid F2;clear hks hM hn F2)
 have F3:=HF2.out.put (l:=[]) (rcs ((askF D 8 v { zeroQ with k:=(s,0),r:=v } A).1.mem kv2)) (show 57 ≠ 32 by decide)
 refine bodyPost_ret (res_R rfl _ _ (w.heap.size+1) _ rfl F3.l0.blk) rfl ?_
 exact F3.fin F3.k0
set_option maxRecDepth 100000 in
set_option maxHeartbeats 4000000 in
theorem inher_any (HD:DoIs X D) (h:WIs X (c+1) M w A) (m o:Int) {t:Th} {T:TypeId} {xb:Nat} (hx:Blk w xb (xcs o t) T) (hxo:xb ∉ M.bl X.wb) (q:Aq) (ql:Value) (hk:Fine q.k) (hl:VsOut (M.bl X.wb) w ql q.l) (hlen:q.l.length≤lim X) :
  Calls Tryz.prog 200 #[ptr X.wb,.int .i64 m,ptr xb,.agg (acs q ql)] w (PostB X c M w (inherF D m o q A)):=by
 obtain ⟨w1,hw1⟩:∃ w1,(w.alloc (.cells (acs q ql) 52)).alloc (.cells (rcs zeroR) 57)=w1:=⟨_,rfl⟩
 have F0:Fm X (c+1) M w M w1 A [⟨w.heap.size+1,rcs zeroR,57⟩,⟨w.heap.size,acs q ql,52⟩] [] [⟨xb,xcs o t,T⟩]:=by
  rw [← hw1];exact (((Fm.start h).with hx hxo).new _ _).newg _ _ _ (by simp)
 have xn:=x_num F0.r0
 have hd:=HD _ _ w1 _ 1 o zeroQ nilS F0.wis fine_zero (VsOut.nil _ _) (by simp [zeroQ])
 unfold inherF
 obtain ⟨R,hR⟩:∃ R,D 1 o zeroQ A=R:=⟨_,rfl⟩
 rw [hR] at hd ⊢
 have SZ1:=Lib.hid F0.lt0
 have HF0:=Lib.hid F0
 have HDD:=Lib.hid (show DoIs X D from HD)
 have HL:=Lib.hid hl
 have HKK:=Lib.hid hk
 have HLN:=Lib.hid hlen
 clear F0 h hx hxo HD hl hk hlen hR
 obtain ⟨R1,R2⟩:=R
 simp only at hd xn ⊢
 go_enter Tryz.func200,Tryz.ntmps200
 cases hab:abr R1
 ·simp only [Bool.false_eq_true,if_false]
  have HAB:=Lib.hid hab
  clear hab
  by_cases hv:R1.v.k=6
  ·simp only [if_pos hv]
   have hne:(R1.v.k != 6)=false:=by simp [hv]
   have HV:=Lib.hid hv
   clear hv
   go_wp2_with (first |(go_at_call 19;refine hd.mono ?_;rintro e w2 ⟨M2,kv2,rfl,hks,hM,hn⟩;have hg2:=Rr.good _ hks;have SZ2:=Lib.hid hn.size;have F2:=(HF0.out.post hks hM hn).new (rcs (R1.mem kv2)) 57;have lr:=run_ldRp F2.l0.blk;have HF2:=Lib.hid F2;clear hks hM hn F2) |(go_at_call 52;refine (abr_at HAB.out kv2 _).mono ?_;rintro e w4 ⟨rfl,hb⟩;have F4:=(HF2.out.ok HAB.out).call hb;have vk:=rm_vk F4.l0.blk;have vv:=rm_v F4.l0.blk;have la:=run_ldAq F4.l2.blk;have hd2:=ask_any HDD.out F4.wis m R1.v q ql HKK.out (F4.vs HL.out) HLN.out;have HF4:=Lib.hid F4;clear hb F4) |(go_at_call 118;refine hd2.mono ?_;rintro e w5 ⟨M5,kv5,rfl,hks,hM,hn⟩;have hg5:=Rr.good _ hks;have SZ5:=Lib.hid hn.size;have F5:=HF4.out.post hks hM hn;have s5:=run_stRp F5.l1.blk hg5;have HF5:=Lib.hid F5;clear hks hM hn F5))
   have lt:=(HF2.out.l1.blk.lt)
   have F6:=HF5.out.put (l:=[⟨w2.heap.size,rcs (R1.mem kv2),57⟩]) (rcs ((askF D m R1.v q R2).1.mem kv5)) (show 57 ≠ 32 by decide)
   refine bodyPost_ret (res2_R rfl _ _ (w.heap.size+1) _ rfl F6.l1.blk) rfl ?_
   exact F6.finB F6.k0
  ·simp only [if_neg hv]
   have hne:(R1.v.k != 6)=true:=by simp [hv]
   have HV:=Lib.hid hv
   clear hv
   go_wp2_with (first |(go_at_call 19;refine hd.mono ?_;rintro e w2 ⟨M2,kv2,rfl,hks,hM,hn⟩;have hg2:=Rr.good _ hks;have SZ2:=Lib.hid hn.size;have F2:=(HF0.out.post hks hM hn).new (rcs (R1.mem kv2)) 57;have lr:=run_ldRp F2.l0.blk;have HF2:=Lib.hid F2;clear hks hM hn F2) |(go_at_call 52;refine (abr_at HAB.out kv2 _).mono ?_;rintro e w4 ⟨rfl,hb⟩;have F4:=(HF2.out.ok HAB.out).call hb;have vk:=rm_vk F4.l0.blk;have s4:=run_stRp F4.l1.blk (r:=zeroRr.mem nilS) ⟨_,_,_,rfl⟩;have HF4:=Lib.hid F4;clear hb F4))
   have F6:=HF4.out.put (l:=[⟨w2.heap.size,rcs (R1.mem kv2),57⟩]) (rcs (zeroRr.mem nilS)) (show 57 ≠ 32 by decide)
   refine bodyPost_ret (res2_R rfl _ _ (w.heap.size+1) _ rfl F6.l1.blk) rfl ?_
   exact ⟨_,nilS,rfl,KsOut.nil _ _,F6.wis,F6.nx⟩
 ·simp only [if_true]
  have HAB:=Lib.hid hab
  clear hab
  go_wp2_with (first |(go_at_call 19;refine hd.mono ?_;rintro e w2 ⟨M2,kv2,rfl,hks,hM,hn⟩;have hg2:=Rr.good _ hks;have SZ2:=Lib.hid hn.size;have F2:=(HF0.out.post hks hM hn).new (rcs (R1.mem kv2)) 57;have lr:=run_ldRp F2.l0.blk;have HF2:=Lib.hid F2;clear hks hM hn F2) |(go_at_call 52;refine (abr_at HAB.out kv2 _).mono ?_;rintro e w4 ⟨rfl,hb⟩;have F4:=HF2.out.call hb;have lr:=run_ldRp F4.l0.blk;have s4:=run_stRp F4.l1.blk hg2;have HF4:=Lib.hid F4;clear hb F4))
  have F6:=HF4.out.put (l:=[⟨w2.heap.size,rcs (R1.mem kv2),57⟩]) (rcs (R1.mem kv2)) (show 57 ≠ 32 by decide)
  refine bodyPost_ret (res2_R rfl _ _ (w.heap.size+1) _ rfl F6.l1.blk) rfl ?_
  exact F6.finB F6.k0
end
end Go.Proofs.YtkadkmnolkkhgaaGreatDoor.Mw
