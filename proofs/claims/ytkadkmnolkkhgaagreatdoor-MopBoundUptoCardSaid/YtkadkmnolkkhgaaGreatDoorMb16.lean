/-
 Texts of this seat in build order: MwFail, MwFail2, MwDo.
-/
import Derived.Test.YtkadkmnolkkhgaaGreatDoorMb15
import Derived.Test.YtkadkmnolkkhgaaGreatDoorMb10
/-
 Fail: a new error is thrown, or there is no room.
-/
set_option linter.unusedVariables false
set_option linter.unusedSimpArgs false
namespace Go.Proofs.YtkadkmnolkkhgaaGreatDoor.Mw
open Go Go.RowKit Go.Maps Go.Shelf Keys Hp Mo Rg
open Des (Vl Ds zeroV zeroD dcs dcs_size dcs_one accF rigF appF eqV)
open Arrs (En ecs)
attribute [local go_sem ↓] ldR stR alR bxR bdR ldV stV alV bxV bdV bdT bdE bdD Mo.bsE
attribute [local irreducible] rcs dcs ecs vcs tcs
attribute [local go_sem] run_bx run_alR run_alV run_bdR0 run_bdR1 run_bdV0 run_bdV3 run_bdTn run_bdRt' run_stVg run_stRg
def FailP (X:Cx) (c:Nat) (M:Wm) (w:World) (r:Rr) (A':Aw) (e:Ending) (w':World):Prop:=∃ M',e = .returned (.agg (rcs (r.mem nilS)))∧WIs X c M' w' A'∧Nx (M.bl X.wb) w (M'.bl X.wb) w'
theorem ptr_inj {a b:Nat} (h:ptr a=ptr b):a=b:=by
 injection h with h
 injection h with h
 injection h
theorem data_anyv (v:Vl) (a b c:Bool) (w:World):Calls Tryz.prog 72 #[.agg (vcs v),.bool a,.bool b,.bool c] w fun e w'=>e = .returned (.agg (dcs (dataD v a b c)))∧Below w.heap.size w w':=by
 have h:=data_any v a b c w
 unfold vcs
 exact h
theorem Kp.trans {B:List Nat} {w w' w'':World} (h:Kp B w w') (k:Kp B w' w''):Kp B w w'':=⟨h.fr.trans k.fr,fun b hb hn=>(k.same b (Nat.lt_of_lt_of_le hb h.fr.size) hn).trans (h.same b hb hn)⟩
theorem Kp.row {B:List Nat} {w w':World} (h:Kp B w w') {b:Nat} (cs:Array Value) (hb:w.heap.size≤b):Kp B w (w'.setRow b cs):=⟨h.fr.trans ⟨rfl,rfl,rfl,by rw [size_setRow];exact Nat.le_refl _⟩,fun k hk hn=>(setRow_other w' b k cs (by omega)).trans (h.same k hk hn)⟩
structure FailI (X:Cx) (c:Nat) (M:Wm) (A':Aw) (N:Nat) (w1:World) (tv ov:Vl) (rr:Rp) (dd:Ds) (ee:En) (L:Array Bool) (x0 x1 x2 x3 x4 x5 x6 x7 x8 x9 x10 x11 x12 x13 x14 x15 x16 x17 x18 x19 x20 x21 x22 x23 x24 x25:Value) (W:World):Prop where
 k0:x0=ptr X.wb
 k4:x4=ptr N
 k5:x5=ptr (N+1)
 m1:Kp (M.bl X.wb) w1 W
 m3:L.getD 7 false=false→Below w1.heap.size w1 W
 m4:L.getD 7 false=true→∃ M',WIs X c M' W A'∧Nx (M.bl X.wb) w1 (M'.bl X.wb) W∧∀ b,x6=ptr b∨x7=ptr b→b ∉ M'.bl X.wb
 m6:∀ b,x6=ptr b∨x7=ptr b→w1.heap.size≤b∧b < W.heap.size
 h0:L.getD 0 false=true→x11=ptr X.wb
 h1:L.getD 1 false=true→x12 = .agg (vcs ⟨1,0,⟨#[]⟩⟩)
 h2:L.getD 2 false=true→x13 = .agg #[.string ⟨#[110,97,109,101]⟩,.int .i64 0]
 h3:L.getD 3 false=true→x14 = .agg (vcs tv)
 h4:L.getD 4 false=true→x15 = .agg (dcs dd)
 h5:L.getD 5 false=true→x16 = .agg (ecs ee)
 h6:L.getD 6 false=true→∃ g,x17 = .slice (some ⟨g,0,none⟩) 1 1∧w1.heap.size≤g∧Blk W g (ecs ee) 36
 h7:L.getD 7 false=true→x18 = .tuple #[.agg (vcs ov),.agg (rcs rr)]
 h8:L.getD 8 false=true→x10 = .tuple #[.agg (vcs ov),.agg (rcs rr)]
 h9:L.getD 9 false=true→x19 = .agg (vcs ov)
 h10:L.getD 10 false=true→x20 = .agg (rcs rr)
 h11:L.getD 11 false=true→∃ b,x6=ptr b∧w1.heap.size≤b∧∃ o,Blk W b (vcs o) 30
 h12:L.getD 12 false=true→∃ b,x7=ptr b∧w1.heap.size≤b∧∃ o,Blk W b (rcs o) 57
 h13:L.getD 13 false=true→∃ b,x6=ptr b∧w1.heap.size≤b∧Blk W b (vcs ov) 30
 h14:L.getD 14 false=true→∃ b,x7=ptr b∧w1.heap.size≤b∧Blk W b (rcs rr) 57
set_option maxRecDepth 100000 in
set_option maxHeartbeats 4000000 in
theorem fail_run {X:Cx} {c c0:Nat} {M:Wm} {w:World} {A A':Aw} (h:WIs X c0 M w A) (nm:ByteArray) (ov:Vl) (rr:Rr)
  (hcr:∀ W g,Below (w.heap.size+2) (((w.alloc (.cells (rcs zeroR) 57)).alloc (.cells (vcs ⟨4,0,nm⟩) 30)).drew) W→Blk W g (ecs ⟨⟨#[110,97,109,101]⟩,0,dataD ⟨4,0,nm⟩ true false true⟩) 36→w.heap.size+2≤g →
   Calls Tryz.prog 74 #[ptr X.wb,.int .i64 5,.agg (vcs ⟨1,0,⟨#[]⟩⟩),.slice (some ⟨g,0,none⟩) 1 1] W (CreP X c M W ((ov,rr),A'))) :
  Calls Tryz.prog 50 #[ptr X.wb,.string nm] w (FailP X c M w (if abr rr then rr else thrown ov) A'):=by
 obtain ⟨w1,hw1⟩:∃ w1,((w.alloc (.cells (rcs zeroR) 57)).alloc (.cells (vcs ⟨4,0,nm⟩) 30))=w1:=⟨_,rfl⟩
 have k1:w1.heap.size=w.heap.size+2:=by rw [← hw1];simp
 have b1:Below w.heap.size w w1:=by rw [← hw1];exact ((Below.refl _ w).alloc (Nat.le_refl _) _).alloc (by simp) _
 have htN:Blk w1.drew w.heap.size (rcs zeroR) 57:=by rw [← hw1];exact (Blk.new w _ _).old _
 have htv:Blk w1.drew (w.heap.size+1) (vcs ⟨4,0,nm⟩) 30:=by rw [← hw1];exact blk_newg (by simp)
 rw [hw1] at hcr
 obtain ⟨tv,htve⟩:∃ tv:Vl,tv=⟨4,0,nm⟩:=⟨_,rfl⟩
 obtain ⟨dd,hdd⟩:∃ dd,dd=dataD tv true false true:=⟨_,rfl⟩
 obtain ⟨ee,hee⟩:∃ ee:En,ee=⟨⟨#[110,97,109,101]⟩,0,dd⟩:=⟨_,rfl⟩
 rw [← htve,← hdd,← hee,← k1] at hcr
 rw [← htve] at htv
 have hrr:(rr.mem nilS).good:=⟨_,_,_,rfl⟩
 have hX1:∀ b,w1.drew.heap.size≤b→b ∉ M.bl X.wb:=fun b hb=>h.new (by have:w1.heap.size≤b:=hb;omega)
 have hN:w.heap.size ∉ M.bl X.wb:=h.new (Nat.le_refl _)
 have hNv:w.heap.size+1 ∉ M.bl X.wb:=h.new (by omega)
 have hW0:X.W0.heap.size≤w1.drew.heap.size:=Nat.le_trans h.bel.size b1.size
 have hW1:=h.bel.size
 have hd1:Below w.heap.size w w1.drew:=b1.drew
 clear h
 obtain ⟨fr,hfr⟩:∃ fr,fr=(if abr rr then rr else thrown ov):=⟨_,rfl⟩
 rw [← hfr]
 have HFR:=Lib.hid hfr
 clear hfr
 obtain ⟨rq,hrq⟩:∃ rq,rq=rr.mem nilS:=⟨_,rfl⟩
 rw [← hrq] at hrr
 replace hcr:∀ W g,Below w1.drew.heap.size w1.drew W→Blk W g (ecs ee) 36→w1.drew.heap.size≤g→Calls Tryz.prog 74 #[ptr X.wb,.int .i64 5,.agg (vcs ⟨1,0,⟨#[]⟩⟩),.slice (some ⟨g,0,none⟩) 1 1] W fun e w'=>∃ M',e = .returned (.tuple #[.agg (vcs ov),.agg (rcs rq)])∧WIs X c M' w' A'∧Nx (M.bl X.wb) W (M'.bl X.wb) w':=by
  rw [hrq]
  exact hcr
 go_enter Tryz.func50,Tryz.ntmps50
 go_wp2
 refine region_inv (by kernel_rfl) (fun L a W=>∃ x0 x1 x2 x3 x4 x5 x6 x7 x8 x9 x10 x11 x12 x13 x14 x15 x16 x17 x18 x19 x20 x21 x22 x23 x24 x25:Value,a={ tmps:=#[x0,x1,x2,x3,x4,x5,x6,x7,x8,x9,x10,x11,x12,x13,x14,x15,x16,x17,x18,x19,x20,x21,x22,x23,x24,x25],defers:=[] }∧FailI X c M A' w.heap.size w1.drew tv ov rq dd ee L x0 x1 x2 x3 x4 x5 x6 x7 x8 x9 x10 x11 x12 x13 x14 x15 x16 x17 x18 x19 x20 x21 x22 x23 x24 x25 W) (by kernel_rfl) ?start ?step ?done
 case start=>exact ⟨_,_,_,_,_,_,_,_,_,_,_,_,_,_,_,_,_,_,_,_,_,_,_,_,_,_,rfl,⟨rfl,rfl,rfl,Kp.refl _ _,fun _=>Below.refl _ _,fun h=>by simp [Array.getD_eq_getD_getElem?] at h,(fun b h=>by rcases h with h |h <;> cases h),fun h=>by simp [Array.getD_eq_getD_getElem?] at h,fun h=>by simp [Array.getD_eq_getD_getElem?] at h,fun h=>by simp [Array.getD_eq_getD_getElem?] at h,fun h=>by simp [Array.getD_eq_getD_getElem?] at h,fun h=>by simp [Array.getD_eq_getD_getElem?] at h,fun h=>by simp [Array.getD_eq_getD_getElem?] at h,fun h=>by simp [Array.getD_eq_getD_getElem?] at h,fun h=>by simp [Array.getD_eq_getD_getElem?] at h,fun h=>by simp [Array.getD_eq_getD_getElem?] at h,fun h=>by simp [Array.getD_eq_getD_getElem?] at h,fun h=>by simp [Array.getD_eq_getD_getElem?] at h,fun h=>by simp [Array.getD_eq_getD_getElem?] at h,fun h=>by simp [Array.getD_eq_getD_getElem?] at h,fun h=>by simp [Array.getD_eq_getD_getElem?] at h,fun h=>by simp [Array.getD_eq_getD_getElem?] at h⟩⟩
 case step =>
  intro i L a W hi hdep hL hs hcl hI
  have hi2:i < 15:=by simpa using hi
  obtain ⟨x0,x1,x2,x3,x4,x5,x6,x7,x8,x9,x10,x11,x12,x13,x14,x15,x16,x17,x18,x19,x20,x21,x22,x23,x24,x25,rfl,H⟩:=hI
  have ol:∀ j,i ≠ j→(L.setIfInBounds i true).getD j false=true→L.getD j false=true:=fun j hj h=>by rwa [getD_set hj] at h
  rcases (by omega:i=0∨i=1∨i=2∨i=3∨i=4∨i=5∨i=6∨i=7∨i=8∨i=9∨i=10∨i=11∨i=12∨i=13∨i=14) with rfl |rfl |rfl |rfl |rfl |rfl |rfl |rfl |rfl |rfl |rfl |rfl |rfl |rfl |rfl
  ·clear hi hi2
   have e:=H.k0
   subst e
   have ol7:(L.setIfInBounds 0 true).getD 7 false=false→L.getD 7 false=false:=fun h=>by rwa [getD_set (by decide)] at h
   have on7:(L.setIfInBounds 0 true).getD 7 false=true→L.getD 7 false=true:=fun h=>by rwa [getD_set (by decide)] at h
   exact step_run (i:=0) (w':=W) (v:=ptr X.wb) rfl rfl (by simp [execOp,Act.eval,go_sem]) ⟨_,_,_,_,_,_,_,_,_,_,_,_,_,_,_,_,_,_,_,_,_,_,_,_,_,_,rfl,⟨(H.k0),(H.k4),(H.k5),(H.m1),(fun h=>H.m3 (ol7 h)),(fun h=>H.m4 (on7 h)),(H.m6),(fun _=>rfl),(H.h1∘ol 1 nofun),(H.h2∘ol 2 nofun),(H.h3∘ol 3 nofun),(H.h4∘ol 4 nofun),(H.h5∘ol 5 nofun),(H.h6∘ol 6 nofun),(H.h7∘ol 7 nofun),(H.h8∘ol 8 nofun),(H.h9∘ol 9 nofun),(H.h10∘ol 10 nofun),(H.h11∘ol 11 nofun),(H.h12∘ol 12 nofun),(H.h13∘ol 13 nofun),(H.h14∘ol 14 nofun)⟩⟩
  ·clear hi hi2
   have ol7:(L.setIfInBounds 1 true).getD 7 false=false→L.getD 7 false=false:=fun h=>by rwa [getD_set (by decide)] at h
   have on7:(L.setIfInBounds 1 true).getD 7 false=true→L.getD 7 false=true:=fun h=>by rwa [getD_set (by decide)] at h
   refine step_call (i:=1) (f:=75) (args:=#[]) rfl rfl (by simp [execOp,Act.eval,go_sem]) (null_any W) ?_
   rintro e W2 ⟨rfl,hb⟩
   exact ⟨_,rfl,⟨_,_,_,_,_,_,_,_,_,_,_,_,_,_,_,_,_,_,_,_,_,_,_,_,_,_,rfl,⟨(H.k0),(H.k4),(H.k5),(H.m1.trans (Kp.of_below hb)),(fun h=>(H.m3 (ol7 h)).trans (hb.mono H.m1.fr.size)),(fun h=>let ⟨M',q1,q2,q3⟩:=H.m4 (on7 h);⟨M',q1.call hb,q2.call hb,q3⟩),(fun b h=>let ⟨q1,q2⟩:=H.m6 b h;⟨q1,Nat.lt_of_lt_of_le q2 hb.size⟩),(H.h0∘ol 0 nofun),(fun _=>rfl),(H.h2∘ol 2 nofun),(H.h3∘ol 3 nofun),(H.h4∘ol 4 nofun),(H.h5∘ol 5 nofun),(fun h=>let ⟨g,q1,q2,q3⟩:=H.h6 (ol 6 (by decide) h);⟨g,q1,q2,q3.call hb⟩),(H.h7∘ol 7 nofun),(H.h8∘ol 8 nofun),(H.h9∘ol 9 nofun),(H.h10∘ol 10 nofun),(fun h=>let ⟨g,q1,q2,o,q3⟩:=H.h11 (ol 11 (by decide) h);⟨g,q1,q2,o,q3.call hb⟩),(fun h=>let ⟨g,q1,q2,o,q3⟩:=H.h12 (ol 12 (by decide) h);⟨g,q1,q2,o,q3.call hb⟩),(fun h=>let ⟨g,q1,q2,q3⟩:=H.h13 (ol 13 (by decide) h);⟨g,q1,q2,q3.call hb⟩),(fun h=>let ⟨g,q1,q2,q3⟩:=H.h14 (ol 14 (by decide) h);⟨g,q1,q2,q3.call hb⟩)⟩⟩⟩
  ·clear hi hi2
   have ol7:(L.setIfInBounds 2 true).getD 7 false=false→L.getD 7 false=false:=fun h=>by rwa [getD_set (by decide)] at h
   have on7:(L.setIfInBounds 2 true).getD 7 false=true→L.getD 7 false=true:=fun h=>by rwa [getD_set (by decide)] at h
   exact step_run (i:=2) (w':=W) (v:=.agg #[.string ⟨#[110,97,109,101]⟩,.int .i64 0]) rfl rfl (by simp [execOp,Act.eval,go_sem]) ⟨_,_,_,_,_,_,_,_,_,_,_,_,_,_,_,_,_,_,_,_,_,_,_,_,_,_,rfl,⟨(H.k0),(H.k4),(H.k5),(H.m1),(fun h=>H.m3 (ol7 h)),(fun h=>H.m4 (on7 h)),(H.m6),(H.h0∘ol 0 nofun),(H.h1∘ol 1 nofun),(fun _=>rfl),(H.h3∘ol 3 nofun),(H.h4∘ol 4 nofun),(H.h5∘ol 5 nofun),(H.h6∘ol 6 nofun),(H.h7∘ol 7 nofun),(H.h8∘ol 8 nofun),(H.h9∘ol 9 nofun),(H.h10∘ol 10 nofun),(H.h11∘ol 11 nofun),(H.h12∘ol 12 nofun),(H.h13∘ol 13 nofun),(H.h14∘ol 14 nofun)⟩⟩
  ·clear hi hi2
   have e:=H.k5
   subst e
   have ol7:(L.setIfInBounds 3 true).getD 7 false=false→L.getD 7 false=false:=fun h=>by rwa [getD_set (by decide)] at h
   have on7:(L.setIfInBounds 3 true).getD 7 false=true→L.getD 7 false=true:=fun h=>by rwa [getD_set (by decide)] at h
   have lv:=run_ldVp (H.m1.blk htv hNv)
   exact step_run (i:=3) (w':=W) (v:=.agg (vcs tv)) rfl rfl (by simp [execOp,Act.eval,go_sem,lv]) ⟨_,_,_,_,_,_,_,_,_,_,_,_,_,_,_,_,_,_,_,_,_,_,_,_,_,_,rfl,⟨(H.k0),(H.k4),(H.k5),(H.m1),(fun h=>H.m3 (ol7 h)),(fun h=>H.m4 (on7 h)),(H.m6),(H.h0∘ol 0 nofun),(H.h1∘ol 1 nofun),(H.h2∘ol 2 nofun),(fun _=>rfl),(H.h4∘ol 4 nofun),(H.h5∘ol 5 nofun),(H.h6∘ol 6 nofun),(H.h7∘ol 7 nofun),(H.h8∘ol 8 nofun),(H.h9∘ol 9 nofun),(H.h10∘ol 10 nofun),(H.h11∘ol 11 nofun),(H.h12∘ol 12 nofun),(H.h13∘ol 13 nofun),(H.h14∘ol 14 nofun)⟩⟩
  ·clear hi hi2
   have e14:=H.h3 (hdep 3 (memOf (by kernel_rfl)))
   subst e14
   have ol7:(L.setIfInBounds 4 true).getD 7 false=false→L.getD 7 false=false:=fun h=>by rwa [getD_set (by decide)] at h
   have on7:(L.setIfInBounds 4 true).getD 7 false=true→L.getD 7 false=true:=fun h=>by rwa [getD_set (by decide)] at h
   refine step_call (i:=4) (f:=72) (args:=#[.agg (vcs tv),.bool true,.bool false,.bool true]) rfl rfl (by simp [execOp,Act.eval,go_sem]) (data_anyv tv true false true W) ?_
   rintro e W2 ⟨rfl,hb⟩
   exact ⟨_,rfl,⟨_,_,_,_,_,_,_,_,_,_,_,_,_,_,_,_,_,_,_,_,_,_,_,_,_,_,rfl,⟨(H.k0),(H.k4),(H.k5),(H.m1.trans (Kp.of_below hb)),(fun h=>(H.m3 (ol7 h)).trans (hb.mono H.m1.fr.size)),(fun h=>let ⟨M',q1,q2,q3⟩:=H.m4 (on7 h);⟨M',q1.call hb,q2.call hb,q3⟩),(fun b h=>let ⟨q1,q2⟩:=H.m6 b h;⟨q1,Nat.lt_of_lt_of_le q2 hb.size⟩),(H.h0∘ol 0 nofun),(H.h1∘ol 1 nofun),(H.h2∘ol 2 nofun),(H.h3∘ol 3 nofun),(fun _=>by rw [hdd]),(H.h5∘ol 5 nofun),(fun h=>let ⟨g,q1,q2,q3⟩:=H.h6 (ol 6 (by decide) h);⟨g,q1,q2,q3.call hb⟩),(H.h7∘ol 7 nofun),(H.h8∘ol 8 nofun),(H.h9∘ol 9 nofun),(H.h10∘ol 10 nofun),(fun h=>let ⟨g,q1,q2,o,q3⟩:=H.h11 (ol 11 (by decide) h);⟨g,q1,q2,o,q3.call hb⟩),(fun h=>let ⟨g,q1,q2,o,q3⟩:=H.h12 (ol 12 (by decide) h);⟨g,q1,q2,o,q3.call hb⟩),(fun h=>let ⟨g,q1,q2,q3⟩:=H.h13 (ol 13 (by decide) h);⟨g,q1,q2,q3.call hb⟩),(fun h=>let ⟨g,q1,q2,q3⟩:=H.h14 (ol 14 (by decide) h);⟨g,q1,q2,q3.call hb⟩)⟩⟩⟩
  ·clear hi hi2
   have e13:=H.h2 (hdep 2 (memOf (by kernel_rfl)))
   have e15:=H.h4 (hdep 4 (memOf (by kernel_rfl)))
   subst e13
   subst e15
   have ol7:(L.setIfInBounds 5 true).getD 7 false=false→L.getD 7 false=false:=fun h=>by rwa [getD_set (by decide)] at h
   have on7:(L.setIfInBounds 5 true).getD 7 false=true→L.getD 7 false=true:=fun h=>by rwa [getD_set (by decide)] at h
   have hbd:=run_bdEn W ⟨#[110,97,109,101]⟩ 0 dd
   rw [← hee] at hbd
   exact step_run (i:=5) (w':=W) (v:=.agg (ecs ee)) rfl rfl (by simp [execOp,Act.eval,go_sem,hbd]) ⟨_,_,_,_,_,_,_,_,_,_,_,_,_,_,_,_,_,_,_,_,_,_,_,_,_,_,rfl,⟨(H.k0),(H.k4),(H.k5),(H.m1),(fun h=>H.m3 (ol7 h)),(fun h=>H.m4 (on7 h)),(H.m6),(H.h0∘ol 0 nofun),(H.h1∘ol 1 nofun),(H.h2∘ol 2 nofun),(H.h3∘ol 3 nofun),(H.h4∘ol 4 nofun),(fun _=>rfl),(H.h6∘ol 6 nofun),(H.h7∘ol 7 nofun),(H.h8∘ol 8 nofun),(H.h9∘ol 9 nofun),(H.h10∘ol 10 nofun),(H.h11∘ol 11 nofun),(H.h12∘ol 12 nofun),(H.h13∘ol 13 nofun),(H.h14∘ol 14 nofun)⟩⟩
  ·clear hi hi2
   have e16:=H.h5 (hdep 5 (memOf (by kernel_rfl)))
   subst e16
   have ol7:(L.setIfInBounds 6 true).getD 7 false=false→L.getD 7 false=false:=fun h=>by rwa [getD_set (by decide)] at h
   have on7:(L.setIfInBounds 6 true).getD 7 false=true→L.getD 7 false=true:=fun h=>by rwa [getD_set (by decide)] at h
   have hb:Below W.heap.size W (W.alloc (.cells (ecs ee) 36)):=(Below.refl _ W).alloc (Nat.le_refl _) _
   have hbs:=Mo.run_bsE W ee
   exact step_run (i:=6) (w':=(W.alloc (.cells (ecs ee) 36))) (v:=.slice (some ⟨W.heap.size,0,none⟩) 1 1) rfl rfl (by simp [execOp,Act.eval,go_sem,hbs]) ⟨_,_,_,_,_,_,_,_,_,_,_,_,_,_,_,_,_,_,_,_,_,_,_,_,_,_,rfl,⟨(H.k0),(H.k4),(H.k5),(H.m1.trans (Kp.of_below hb)),(fun h=>(H.m3 (ol7 h)).trans (hb.mono H.m1.fr.size)),(fun h=>let ⟨M',q1,q2,q3⟩:=H.m4 (on7 h);⟨M',q1.call hb,q2.call hb,q3⟩),(fun b h=>let ⟨q1,q2⟩:=H.m6 b h;⟨q1,Nat.lt_of_lt_of_le q2 hb.size⟩),(H.h0∘ol 0 nofun),(H.h1∘ol 1 nofun),(H.h2∘ol 2 nofun),(H.h3∘ol 3 nofun),(H.h4∘ol 4 nofun),(H.h5∘ol 5 nofun),(fun _=>⟨_,rfl,H.m1.fr.size,Blk.new W _ _⟩),(H.h7∘ol 7 nofun),(H.h8∘ol 8 nofun),(H.h9∘ol 9 nofun),(H.h10∘ol 10 nofun),(fun h=>let ⟨g,q1,q2,o,q3⟩:=H.h11 (ol 11 (by decide) h);⟨g,q1,q2,o,q3.call hb⟩),(fun h=>let ⟨g,q1,q2,o,q3⟩:=H.h12 (ol 12 (by decide) h);⟨g,q1,q2,o,q3.call hb⟩),(fun h=>let ⟨g,q1,q2,q3⟩:=H.h13 (ol 13 (by decide) h);⟨g,q1,q2,q3.call hb⟩),(fun h=>let ⟨g,q1,q2,q3⟩:=H.h14 (ol 14 (by decide) h);⟨g,q1,q2,q3.call hb⟩)⟩⟩
  ·clear hi hi2
   have e11:=H.h0 (hdep 0 (memOf (by kernel_rfl)))
   have e12:=H.h1 (hdep 1 (memOf (by kernel_rfl)))
   have e17:=H.h6 (hdep 6 (memOf (by kernel_rfl)))
   subst e11
   subst e12
   obtain ⟨g,rfl,hg1,hg2⟩:=e17
   have h7:=getD_no hL
   refine step_call (i:=7) (f:=74) (args:=#[ptr X.wb,.int .i64 5,.agg (vcs ⟨1,0,⟨#[]⟩⟩),.slice (some ⟨g,0,none⟩) 1 1]) rfl rfl (by simp [execOp,Act.eval,go_sem]) (hcr W g (H.m3 h7) hg2 hg1) ?_
   rintro e W2 ⟨M',rfl,h4,n⟩
   exact ⟨_,rfl,⟨_,_,_,_,_,_,_,_,_,_,_,_,_,_,_,_,_,_,_,_,_,_,_,_,_,_,rfl,⟨(H.k0),(H.k4),(H.k5),(H.m1.trans n.kp),(fun h=>by rw [getD_same (by rw [hs];simp)] at h;cases h),(fun _=>⟨M',h4,Nx.from (H.m3 h7) n,fun b hb=>let ⟨q1,q2⟩:=H.m6 b hb;n.out q2 (hX1 _ q1)⟩),(fun b h=>let ⟨q1,q2⟩:=H.m6 b h;⟨q1,Nat.lt_of_lt_of_le q2 n.size⟩),(H.h0∘ol 0 nofun),(H.h1∘ol 1 nofun),(H.h2∘ol 2 nofun),(H.h3∘ol 3 nofun),(H.h4∘ol 4 nofun),(H.h5∘ol 5 nofun),(fun h=>let ⟨g,q1,q2,q3⟩:=H.h6 (ol 6 (by decide) h);⟨g,q1,q2,n.blk q3 (hX1 _ q2)⟩),(fun _=>rfl),(H.h8∘ol 8 nofun),(H.h9∘ol 9 nofun),(H.h10∘ol 10 nofun),(fun h=>let ⟨g,q1,q2,o,q3⟩:=H.h11 (ol 11 (by decide) h);⟨g,q1,q2,o,n.blk q3 (hX1 _ q2)⟩),(fun h=>let ⟨g,q1,q2,o,q3⟩:=H.h12 (ol 12 (by decide) h);⟨g,q1,q2,o,n.blk q3 (hX1 _ q2)⟩),(fun h=>let ⟨g,q1,q2,q3⟩:=H.h13 (ol 13 (by decide) h);⟨g,q1,q2,n.blk q3 (hX1 _ q2)⟩),(fun h=>let ⟨g,q1,q2,q3⟩:=H.h14 (ol 14 (by decide) h);⟨g,q1,q2,n.blk q3 (hX1 _ q2)⟩)⟩⟩⟩
  ·clear hi hi2
   have e18:=H.h7 (hdep 7 (memOf (by kernel_rfl)))
   subst e18
   have ol7:(L.setIfInBounds 8 true).getD 7 false=false→L.getD 7 false=false:=fun h=>by rwa [getD_set (by decide)] at h
   have on7:(L.setIfInBounds 8 true).getD 7 false=true→L.getD 7 false=true:=fun h=>by rwa [getD_set (by decide)] at h
   exact step_run (i:=8) (w':=W) (v:=.tuple #[.agg (vcs ov),.agg (rcs rq)]) rfl rfl (by simp [execOp,Act.eval,go_sem]) ⟨_,_,_,_,_,_,_,_,_,_,_,_,_,_,_,_,_,_,_,_,_,_,_,_,_,_,rfl,⟨(H.k0),(H.k4),(H.k5),(H.m1),(fun h=>H.m3 (ol7 h)),(fun h=>H.m4 (on7 h)),(H.m6),(H.h0∘ol 0 nofun),(H.h1∘ol 1 nofun),(H.h2∘ol 2 nofun),(H.h3∘ol 3 nofun),(H.h4∘ol 4 nofun),(H.h5∘ol 5 nofun),(H.h6∘ol 6 nofun),(H.h7∘ol 7 nofun),(fun _=>rfl),(H.h9∘ol 9 nofun),(H.h10∘ol 10 nofun),(H.h11∘ol 11 nofun),(H.h12∘ol 12 nofun),(H.h13∘ol 13 nofun),(H.h14∘ol 14 nofun)⟩⟩
  ·clear hi hi2
   have e10:=H.h8 (hdep 8 (memOf (by kernel_rfl)))
   subst e10
   have ol7:(L.setIfInBounds 9 true).getD 7 false=false→L.getD 7 false=false:=fun h=>by rwa [getD_set (by decide)] at h
   have on7:(L.setIfInBounds 9 true).getD 7 false=true→L.getD 7 false=true:=fun h=>by rwa [getD_set (by decide)] at h
   exact step_run (i:=9) (w':=W) (v:=.agg (vcs ov)) rfl rfl (by simp [execOp,Act.eval,go_sem]) ⟨_,_,_,_,_,_,_,_,_,_,_,_,_,_,_,_,_,_,_,_,_,_,_,_,_,_,rfl,⟨(H.k0),(H.k4),(H.k5),(H.m1),(fun h=>H.m3 (ol7 h)),(fun h=>H.m4 (on7 h)),(H.m6),(H.h0∘ol 0 nofun),(H.h1∘ol 1 nofun),(H.h2∘ol 2 nofun),(H.h3∘ol 3 nofun),(H.h4∘ol 4 nofun),(H.h5∘ol 5 nofun),(H.h6∘ol 6 nofun),(H.h7∘ol 7 nofun),(H.h8∘ol 8 nofun),(fun _=>rfl),(H.h10∘ol 10 nofun),(H.h11∘ol 11 nofun),(H.h12∘ol 12 nofun),(H.h13∘ol 13 nofun),(H.h14∘ol 14 nofun)⟩⟩
  ·clear hi hi2
   have e10:=H.h8 (hdep 8 (memOf (by kernel_rfl)))
   subst e10
   have ol7:(L.setIfInBounds 10 true).getD 7 false=false→L.getD 7 false=false:=fun h=>by rwa [getD_set (by decide)] at h
   have on7:(L.setIfInBounds 10 true).getD 7 false=true→L.getD 7 false=true:=fun h=>by rwa [getD_set (by decide)] at h
   exact step_run (i:=10) (w':=W) (v:=.agg (rcs rq)) rfl rfl (by simp [execOp,Act.eval,go_sem]) ⟨_,_,_,_,_,_,_,_,_,_,_,_,_,_,_,_,_,_,_,_,_,_,_,_,_,_,rfl,⟨(H.k0),(H.k4),(H.k5),(H.m1),(fun h=>H.m3 (ol7 h)),(fun h=>H.m4 (on7 h)),(H.m6),(H.h0∘ol 0 nofun),(H.h1∘ol 1 nofun),(H.h2∘ol 2 nofun),(H.h3∘ol 3 nofun),(H.h4∘ol 4 nofun),(H.h5∘ol 5 nofun),(H.h6∘ol 6 nofun),(H.h7∘ol 7 nofun),(H.h8∘ol 8 nofun),(H.h9∘ol 9 nofun),(fun _=>rfl),(H.h11∘ol 11 nofun),(H.h12∘ol 12 nofun),(H.h13∘ol 13 nofun),(H.h14∘ol 14 nofun)⟩⟩
  ·clear hi hi2
   have ol7:(L.setIfInBounds 11 true).getD 7 false=false→L.getD 7 false=false:=fun h=>by rwa [getD_set (by decide)] at h
   have on7:(L.setIfInBounds 11 true).getD 7 false=true→L.getD 7 false=true:=fun h=>by rwa [getD_set (by decide)] at h
   have hb:Below W.heap.size W (W.alloc (.cells (vcs zeroV) 30)):=(Below.refl _ W).alloc (Nat.le_refl _) _
   exact step_run (i:=11) (w':=(W.alloc (.cells (vcs zeroV) 30))) (v:=ptr W.heap.size) rfl rfl (by simp [execOp,Act.eval,go_sem]) ⟨_,_,_,_,_,_,_,_,_,_,_,_,_,_,_,_,_,_,_,_,_,_,_,_,_,_,rfl,⟨(H.k0),(H.k4),(H.k5),(H.m1.trans (Kp.of_below hb)),(fun h=>(H.m3 (ol7 h)).trans (hb.mono H.m1.fr.size)),(fun h=>let ⟨M',q1,q2,q3⟩:=H.m4 (on7 h);⟨M',q1.call hb,q2.call hb,fun b h'=>by rcases h' with h' |h' <;> first |exact q3 b (.inr h') |(have e:=ptr_inj h';subst e;exact q1.new (Nat.le_refl _))⟩),(fun b h'=>by rcases h' with h' |h' <;> first |exact let ⟨q1,q2⟩:=H.m6 b (.inr h');⟨q1,Nat.lt_of_lt_of_le q2 hb.size⟩ |(have e:=ptr_inj h';subst e;exact ⟨H.m1.fr.size,by simp⟩)),(H.h0∘ol 0 nofun),(H.h1∘ol 1 nofun),(H.h2∘ol 2 nofun),(H.h3∘ol 3 nofun),(H.h4∘ol 4 nofun),(H.h5∘ol 5 nofun),(fun h=>let ⟨g,q1,q2,q3⟩:=H.h6 (ol 6 (by decide) h);⟨g,q1,q2,q3.call hb⟩),(H.h7∘ol 7 nofun),(H.h8∘ol 8 nofun),(H.h9∘ol 9 nofun),(H.h10∘ol 10 nofun),(fun _=>⟨_,rfl,H.m1.fr.size,_,Blk.new W _ _⟩),(fun h=>let ⟨g,q1,q2,o,q3⟩:=H.h12 (ol 12 (by decide) h);⟨g,q1,q2,o,q3.call hb⟩),(fun h=>(not_yet hL (hcl 13 (by simp) (ol 13 (by decide) h) 11 (memOf (by kernel_rfl)))).elim),(fun h=>let ⟨g,q1,q2,q3⟩:=H.h14 (ol 14 (by decide) h);⟨g,q1,q2,q3.call hb⟩)⟩⟩
  ·clear hi hi2
   have ol7:(L.setIfInBounds 12 true).getD 7 false=false→L.getD 7 false=false:=fun h=>by rwa [getD_set (by decide)] at h
   have on7:(L.setIfInBounds 12 true).getD 7 false=true→L.getD 7 false=true:=fun h=>by rwa [getD_set (by decide)] at h
   have hb:Below W.heap.size W (W.alloc (.cells (rcs zeroR) 57)):=(Below.refl _ W).alloc (Nat.le_refl _) _
   exact step_run (i:=12) (w':=(W.alloc (.cells (rcs zeroR) 57))) (v:=ptr W.heap.size) rfl rfl (by simp [execOp,Act.eval,go_sem]) ⟨_,_,_,_,_,_,_,_,_,_,_,_,_,_,_,_,_,_,_,_,_,_,_,_,_,_,rfl,⟨(H.k0),(H.k4),(H.k5),(H.m1.trans (Kp.of_below hb)),(fun h=>(H.m3 (ol7 h)).trans (hb.mono H.m1.fr.size)),(fun h=>let ⟨M',q1,q2,q3⟩:=H.m4 (on7 h);⟨M',q1.call hb,q2.call hb,fun b h'=>by rcases h' with h' |h' <;> first |exact q3 b (.inl h') |(have e:=ptr_inj h';subst e;exact q1.new (Nat.le_refl _))⟩),(fun b h'=>by rcases h' with h' |h' <;> first |exact let ⟨q1,q2⟩:=H.m6 b (.inl h');⟨q1,Nat.lt_of_lt_of_le q2 hb.size⟩ |(have e:=ptr_inj h';subst e;exact ⟨H.m1.fr.size,by simp⟩)),(H.h0∘ol 0 nofun),(H.h1∘ol 1 nofun),(H.h2∘ol 2 nofun),(H.h3∘ol 3 nofun),(H.h4∘ol 4 nofun),(H.h5∘ol 5 nofun),(fun h=>let ⟨g,q1,q2,q3⟩:=H.h6 (ol 6 (by decide) h);⟨g,q1,q2,q3.call hb⟩),(H.h7∘ol 7 nofun),(H.h8∘ol 8 nofun),(H.h9∘ol 9 nofun),(H.h10∘ol 10 nofun),(fun h=>let ⟨g,q1,q2,o,q3⟩:=H.h11 (ol 11 (by decide) h);⟨g,q1,q2,o,q3.call hb⟩),(fun _=>⟨_,rfl,H.m1.fr.size,_,Blk.new W _ _⟩),(fun h=>let ⟨g,q1,q2,q3⟩:=H.h13 (ol 13 (by decide) h);⟨g,q1,q2,q3.call hb⟩),(fun h=>(not_yet hL (hcl 14 (by simp) (ol 14 (by decide) h) 12 (memOf (by kernel_rfl)))).elim)⟩⟩
  ·clear hi hi2
   have e19:=H.h9 (hdep 9 (memOf (by kernel_rfl)))
   have e6:=H.h11 (hdep 11 (memOf (by kernel_rfl)))
   subst e19
   obtain ⟨b,rfl,hb1,o,hb2⟩:=e6
   have n7:(L.setIfInBounds 13 true).getD 7 false=false→False:=fun h=>by rw [getD_set (by decide),hdep 7 (memOf (by kernel_rfl))] at h;cases h
   have on7:L.getD 7 false=true:=hdep 7 (memOf (by kernel_rfl))
   have sv:=run_stVp (v:=ov) hb2
   exact step_sk (i:=13) (w':=(W.setRow b (vcs ov))) rfl rfl (by simp [execOp,Act.eval,go_sem,sv]) ⟨_,_,_,_,_,_,_,_,_,_,_,_,_,_,_,_,_,_,_,_,_,_,_,_,_,_,rfl,⟨(H.k0),(H.k4),(H.k5),(H.m1.row _ hb1),(fun h=>(n7 h).elim),(fun _=>let ⟨M',q1,q2,q3⟩:=H.m4 on7;⟨M',q1.row _ (q3 b (.inl rfl)) (Nat.le_trans hW0 hb1),q2.row _ hb1,q3⟩),(fun b' h=>let ⟨q1,q2⟩:=H.m6 b' h;⟨q1,by rw [size_setRow];exact q2⟩),(H.h0∘ol 0 nofun),(H.h1∘ol 1 nofun),(H.h2∘ol 2 nofun),(H.h3∘ol 3 nofun),(H.h4∘ol 4 nofun),(H.h5∘ol 5 nofun),(fun h=>let ⟨g,q1,q2,q3⟩:=H.h6 (ol 6 (by decide) h);⟨g,q1,q2,q3.row_other _ (ne_blk q3 hb2 (by decide))⟩),(H.h7∘ol 7 nofun),(H.h8∘ol 8 nofun),(H.h9∘ol 9 nofun),(H.h10∘ol 10 nofun),(fun _=>⟨b,rfl,hb1,ov,hb2.row _⟩),(fun h=>let ⟨g,q1,q2,o,q3⟩:=H.h12 (ol 12 (by decide) h);⟨g,q1,q2,o,q3.row_other _ (ne_blk q3 hb2 (by decide))⟩),(fun _=>⟨b,rfl,hb1,hb2.row _⟩),(fun h=>let ⟨g,q1,q2,q3⟩:=H.h14 (ol 14 (by decide) h);⟨g,q1,q2,q3.row_other _ (ne_blk q3 hb2 (by decide))⟩)⟩⟩
  ·clear hi hi2
   have e20:=H.h10 (hdep 10 (memOf (by kernel_rfl)))
   have e7:=H.h12 (hdep 12 (memOf (by kernel_rfl)))
   subst e20
   obtain ⟨b,rfl,hb1,o,hb2⟩:=e7
   have n7:(L.setIfInBounds 14 true).getD 7 false=false→False:=fun h=>by rw [getD_set (by decide),hdep 7 (memOf (by kernel_rfl))] at h;cases h
   have on7:L.getD 7 false=true:=hdep 7 (memOf (by kernel_rfl))
   have sv:=run_stRp hb2 hrr
   exact step_sk (i:=14) (w':=(W.setRow b (rcs rq))) rfl rfl (by simp [execOp,Act.eval,go_sem,sv]) ⟨_,_,_,_,_,_,_,_,_,_,_,_,_,_,_,_,_,_,_,_,_,_,_,_,_,_,rfl,⟨(H.k0),(H.k4),(H.k5),(H.m1.row _ hb1),(fun h=>(n7 h).elim),(fun _=>let ⟨M',q1,q2,q3⟩:=H.m4 on7;⟨M',q1.row _ (q3 b (.inr rfl)) (Nat.le_trans hW0 hb1),q2.row _ hb1,q3⟩),(fun b' h=>let ⟨q1,q2⟩:=H.m6 b' h;⟨q1,by rw [size_setRow];exact q2⟩),(H.h0∘ol 0 nofun),(H.h1∘ol 1 nofun),(H.h2∘ol 2 nofun),(H.h3∘ol 3 nofun),(H.h4∘ol 4 nofun),(H.h5∘ol 5 nofun),(fun h=>let ⟨g,q1,q2,q3⟩:=H.h6 (ol 6 (by decide) h);⟨g,q1,q2,q3.row_other _ (ne_blk q3 hb2 (by decide))⟩),(H.h7∘ol 7 nofun),(H.h8∘ol 8 nofun),(H.h9∘ol 9 nofun),(H.h10∘ol 10 nofun),(fun h=>let ⟨g,q1,q2,o,q3⟩:=H.h11 (ol 11 (by decide) h);⟨g,q1,q2,o,q3.row_other _ (ne_blk q3 hb2 (by decide))⟩),(fun _=>⟨b,rfl,hb1,rq,hb2.row _⟩),(fun h=>let ⟨g,q1,q2,q3⟩:=H.h13 (ol 13 (by decide) h);⟨g,q1,q2,q3.row_other _ (ne_blk q3 hb2 (by decide))⟩),(fun _=>⟨b,rfl,hb1,hb2.row _⟩)⟩⟩
 case done =>
  rintro L a W hall ⟨x0,x1,x2,x3,x4,x5,x6,x7,x8,x9,x10,x11,x12,x13,x14,x15,x16,x17,x18,x19,x20,x21,x22,x23,x24,x25,rfl,H⟩
  obtain ⟨b6,e6,hb6,B6⟩:=H.h13 (hall 13 (by simp))
  obtain ⟨b7,e7,hb7,B7⟩:=H.h14 (hall 14 (by simp))
  obtain ⟨M',hM,nM,-⟩:=H.m4 (hall 7 (by simp))
  have e0:=H.k0
  have e4:=H.k4
  have e5:=H.k5
  subst e6 e7 e0 e4 e5
  have BN:Lo (M'.bl X.wb) w W w.heap.size (rcs zeroR) 57:=⟨nM.blk htN hN,nM.out htN.lt hN,Nat.le_refl _⟩
  have HBN:=Lib.hid BN
  have HM:=Lib.hid hM
  have HN:=Lib.hid (Nx.from hd1 nM)
  have HB6:=Lib.hid B6
  have lr:=run_ldRp B7
  have HB7:=Lib.hid B7
  have HRQ:=Lib.hid hrq
  have HRR:=Lib.hid hrr
  have HW1:=Lib.hid hW1
  clear H B6 B7 htN htv hcr b1 hb6 hb7 hall hX1 hN hNv hW0 hd1 hw1 hM nM BN hrq hrr hW1 htve hdd hee k1
  have HAB:∀ b,Hid (abr rr=b)→Hid (abr rr=b):=fun _ h=>h
  rcases (by cases abr rr <;> simp:abr rr=false∨abr rr=true) with hab |hab
  ·have hf:(rq.flow != 0)=false:=by rw [HRQ.out];exact hab
   have HF:=Lib.hid hf
   have HH:=Lib.hid hab
   clear hf hab HAB
   go_wp2_with (go_at_call 52;refine (abrupt_any rq false HF.out _).mono ?_;rintro e w2 ⟨rfl,hb⟩;have lv:=run_ldVp (HB6.out.call hb);have sv:=run_stRp (HBN.out.blk.call hb) (r:=(thrown ov).mem nilS) ⟨_,_,_,rfl⟩;have HB:=Lib.hid hb;clear hb)
   refine bodyPost_ret (res_R rfl _ _ w.heap.size _ rfl ((HBN.out.blk.call HB.out).row _)) rfl ⟨M',by rw [HFR.out,if_neg (by rw [HH.out];simp)],?_,?_⟩
   ·exact (HM.out.call HB.out).rowL (HBN.out.call HB.out) _ HW1.out
   ·exact (HN.out.call HB.out).row _ (Nat.le_refl _)
  ·have hf:(rq.flow != 0)=true:=by rw [HRQ.out];exact hab
   have HF:=Lib.hid hf
   have HH:=Lib.hid hab
   clear hf hab HAB
   go_wp2_with (go_at_call 52;refine (abrupt_any rq true HF.out _).mono ?_;rintro e w2 ⟨rfl,hb⟩;have lv:=run_ldRp (HB7.out.call hb);have sv:=run_stRp (HBN.out.blk.call hb) HRR.out;have HB:=Lib.hid hb;clear hb)
   refine bodyPost_ret (res_R rfl _ _ w.heap.size _ rfl ((HBN.out.blk.call HB.out).row _)) rfl ⟨M',by rw [HFR.out,if_pos HH.out,← HRQ.out],?_,?_⟩
   ·exact (HM.out.call HB.out).rowL (HBN.out.call HB.out) _ HW1.out
   ·exact (HN.out.call HB.out).row _ (Nat.le_refl _)
end Go.Proofs.YtkadkmnolkkhgaaGreatDoor.Mw

/-
 create and Fail, whether there is room or not.
-/
namespace Go.Proofs.YtkadkmnolkkhgaaGreatDoor.Mw
open Go Go.RowKit Go.Maps Go.Shelf Keys Hp Mo
open Des (Vl Ds zeroV zeroD dcs dcs_size dcs_one accF rigF appF eqV)
open Arrs (En ecs)
attribute [local go_sem ↓] ldR stR alR bxR bdR ldV stV alV bxV bdV bdT
attribute [local irreducible] rcs dcs ecs vcs tcs
attribute [local go_sem] run_bx run_alR run_alV run_bdR0 run_bdRf run_bdV0 run_bdTn
section
variable {X:Cx} {c:Nat} {M:Wm} {w w':World} {A:Aw}
set_option maxRecDepth 100000 in
set_option maxHeartbeats 2000000 in
theorem create_full (h:WIs X c M w A) (kd:Int) (pv:Vl) (pa:Option Addr) (pc n:Nat) (hr:A.room≤(A.objs.length:Int)) :
  Calls Tryz.prog 74 #[ptr X.wb,.int .i64 kd,.agg (vcs pv),.slice pa n pc] w (CreP X c M w ((zeroV,flowR 3),A)):=by
 obtain ⟨w1,hw1⟩:∃ w1,((w.alloc (.cells (vcs pv) 30)).alloc (.cells (vcs zeroV) 30)).alloc (.cells (rcs zeroR) 57)=w1:=⟨_,rfl⟩
 have k1:w1.heap.size=w.heap.size+3:=by rw [← hw1];simp
 have b1:Below w.heap.size w w1:=by rw [← hw1];exact (((Below.refl _ w).alloc (Nat.le_refl _) _).alloc (by simp) _).alloc (by simp;omega) _
 have x0:Blk w1 w.heap.size (vcs pv) 30:=by rw [← hw1];exact ((Blk.new w _ _).old _).old _
 have x1:Lo (M.bl X.wb) w w1 (w.heap.size+1) (vcs zeroV) 30:=by rw [← hw1];exact ⟨(blk_newg (by simp)).old _,h.new (by omega),by omega⟩
 have x2:Lo (M.bl X.wb) w w1 (w.heap.size+2) (rcs zeroR) 57:=by rw [← hw1];exact ⟨blk_newg (by simp),h.new (by omega),by omega⟩
 have lv:=run_ldVp x0.drew
 have h1:=(h.call b1).drew
 have hst:=store_world X.wb M.hb X.cl A.fuel A.deep A.depth A.deepest M.ls w1.drew h1.wblk
 obtain ⟨a,cc,hos⟩:=h1.os_shape
 have hhb:=h1.hblk
 rw [hos] at hhb
 have hmk:=make_full M.hb A.room a A.objs.length cc A.sy (newT kd pv (.slice pa n pc)) w1.drew hhb hr
 have hbd:∀ w':World,(Bd 39 #[(0,.int .i64 kd),(1,.agg (vcs pv)),(2,.bool true),(3,.slice pa n pc)]).run Tryz.prog w' = .ok (.agg (tcs (newT kd pv (.slice pa n pc)))) w':=fun w'=>run_bdTn w' kd pv true pa n pc
 have X1:=Lib.hid x1.drew
 have X2:=Lib.hid x2.drew
 have B1:=Lib.hid (show Below w.heap.size w w1.drew from b1.drew)
 have H1:=Lib.hid h1
 have H0:=Lib.hid (show X.W0.heap.size≤w.heap.size from h.bel.size)
 clear h hr x0 x1 x2 b1 h1 hos hhb
 go_enter Tryz.func74,Tryz.ntmps74
 go_wp2
 go_region_with (first |(go_at_call 100;refine hst.mono ?_;rintro e w2 ⟨rfl,rfl⟩) |(go_at_call 17;refine hmk.mono ?_;rintro e w4 ⟨rfl,hb4⟩))
 all_goals
  have y1:=X1.out.call hb4
  have y2:=X2.out.call hb4
  have H4:=Lib.hid (H1.out.call hb4)
  have N4:=Lib.hid (Nx.from B1.out (Nx.of_below (B:=M.bl X.wb) hb4))
  have s1:=run_stVp (v:=zeroV) y1.blk
  have z3:=y1.row (vcs zeroV)
  have z4:=y2.row_other (vcs zeroV) (by omega:w.heap.size+2 ≠ w.heap.size+1)
  have s2:=run_stRp z4.blk (r:=(flowR 3).mem nilS) ⟨_,_,_,rfl⟩
  have Y1:=Lib.hid y1
  have Z3:=Lib.hid z3
  have Z4:=Lib.hid z4
  clear hb4 hst hmk lv hbd hw1 y1 y2 z3 z4
  go_wp2
  have z5:=Z3.out.row_other (rcs ((flowR 3).mem nilS)) (by omega:w.heap.size+1 ≠ w.heap.size+2)
  refine bodyPost_ret (res_VR rfl _ _ (w.heap.size+1) (w.heap.size+2) zeroV ((flowR 3).mem nilS) rfl rfl z5.blk (Z4.out.blk.row _)) rfl ⟨M,rfl,?_,?_⟩
  ·exact (H4.out.rowL Y1.out _ H0.out).rowL Z4.out _ H0.out
  ·exact (N4.out.row _ (by omega)).row _ (by omega)
theorem CreP.less {R:(Vl × Rr) × Aw} {e:Ending} (h:CreP X (c+1) M w R e w'):CreP X c M w R e w':=by
 obtain ⟨M',h1,h2,h3⟩:=h
 exact ⟨M',h1,h2.less (by omega),h3⟩
theorem create_any (h:WIs X (c+1) M w A) (kd:Int) (pv:Vl) (pa:Option Addr) (pc:Nat) (es:List En) (hes:Hp.EsAt w.heap.size pa es w) (hf:∀ e ∈ es,Fine (ekey e)) (hn:(es.map ekey).Nodup) (hc:es.length+8*A.fuel.toNat+c≤900000) (hk:X.px=false→kd ≠ 4) :
  Calls Tryz.prog 74 #[ptr X.wb,.int .i64 kd,.agg (vcs pv),.slice pa es.length pc] w (CreP X c M w (createF kd pv es A)):=by
 unfold createF
 by_cases hr:(A.objs.length:Int) < A.room
 ·rw [if_pos hr]
  exact create_room h kd pv pa pc es hes hf hn hc hk hr
 ·rw [if_neg hr]
  exact (create_full h kd pv pa pc es.length (by omega)).mono fun e w' h=>h.less
theorem fine_name:Fine (nameK.1,nameK.2):=⟨by decide,by decide,by decide⟩
theorem fail_any (h:WIs X (c+1) M w A) (nm:ByteArray):Calls Tryz.prog 50 #[ptr X.wb,.string nm] w (FailP X c M w (failF nm A).1 (failF nm A).2):=by
 obtain ⟨es,hes⟩:∃ es:List En,es=[⟨nameK.1,nameK.2,wholeD ⟨4,0,nm⟩ true false true⟩]:=⟨_,rfl⟩
 have hfew:=h.few
 have hlen:es.length=1:=by rw [hes];rfl
 have key:∀ W g,Below (w.heap.size+2) (((w.alloc (.cells (rcs zeroR) 57)).alloc (.cells (vcs ⟨4,0,nm⟩) 30)).drew) W→Blk W g (ecs ⟨⟨#[110,97,109,101]⟩,0,dataD ⟨4,0,nm⟩ true false true⟩) 36→w.heap.size+2≤g →
   Calls Tryz.prog 74 #[ptr X.wb,.int .i64 5,.agg (vcs ⟨1,0,⟨#[]⟩⟩),.slice (some ⟨g,0,none⟩) 1 1] W (CreP X c M W (createF 5 nullV es A)):=by
  intro W g hW hg hlt
  have hW':Below w.heap.size w W:=((((Below.refl _ w).alloc (Nat.le_refl _) (.cells (rcs zeroR) 57)).alloc (by simp) (.cells (vcs ⟨4,0,nm⟩) 30)).drew).trans (hW.mono (by omega))
  have:=create_any (h.call hW') 5 nullV (some ⟨g,0,none⟩) 1 es (fun j e he=>?_) (fun e he=>?_) (by rw [hes];simp) (by rw [hlen];omega) (fun _=>by decide)
  ·rw [hlen] at this
   exact this
  ·rw [hes] at he
   cases j with
   | zero =>
    simp at he
    subst he
    exact ⟨g,0,rfl,hg.lt,by rw [Nat.zero_mul,Nat.zero_add];exact hg.range (r:=[]) (List.append_nil _).symm⟩
   | succ j=>simp at he
  ·rw [hes] at he
   rw [List.mem_singleton.1 he]
   exact fine_name
 have:=fail_run h nm (createF 5 nullV es A).1.1 (createF 5 nullV es A).1.2 (A':=(createF 5 nullV es A).2) key
 unfold failF
 rw [← hes]
 exact this
end
end Go.Proofs.YtkadkmnolkkhgaaGreatDoor.Mw

/-
 The inner method as a contract; ask, getOf, inherited.
-/
namespace Go.Proofs.YtkadkmnolkkhgaaGreatDoor.Mw
open Go Go.RowKit Go.Maps Go.Shelf Keys Hp Mo
open Des (Vl Ds zeroV zeroD dcs dcs_size dcs_one accF rigF appF eqV)
open Arrs (En ecs)
def lim (X:Cx):Nat:=1000000+100000*X.dp.toNat
def DoIs (X:Cx) (D:DoT):Prop:=∀ (c:Nat) (M:Wm) (w:World) (A:Aw) (m o:Int) (a:Aq) (al:Value),WIs X (c+1) M w A→Fine a.k→VsOut (M.bl X.wb) w al a.l→a.l.length≤lim X →
 Calls Tryz.prog 19 #[ptr X.wb,.int .i64 m,.int .i64 o,.agg (acs a al)] w (Post X c M w (D m o a A))
section
variable {X:Cx} {c:Nat} {M:Wm} {w w':World} {A:Aw} {D:DoT}
theorem fail_abr (nm:ByteArray) (A:Aw):abr (failF nm A).1=true:=by
 unfold failF
 split
 rename_i e r A' h
 cases hr:abr r
 ·simp;rfl
 ·simpa using hr
theorem FailP.post {nm:ByteArray} {e:Ending} (h:FailP X c M w (failF nm A).1 (failF nm A).2 e w'):Post X c M w (failF nm A) e w':=by
 obtain ⟨M',h1,h2,h3⟩:=h
 have hks:(failF nm A).1.ks=[]:=by
  unfold failF createF
  by_cases hr:(A.objs.length:Int) < A.room
  ·simp [hr,abr,zeroRr,thrown]
  ·simp [hr,abr,flowR,zeroRr]
 refine ⟨M',nilS,h1,by rw [hks];exact KsOut.nil _ _,?_,h3⟩
 unfold cr
 rw [fail_abr]
 exact h2
theorem Post.lay {R:Rr × Aw} {w1 w2:World} {M':Wm} {kv:Value} {N:Nat} (hb:Below w.heap.size w w1) (h0:X.W0.heap.size≤w.heap.size) (hk:KsOut (M'.bl X.wb) w2 kv R.1.ks) (hM:WIs X (cr R.1 c) M' w2 R.2) (hn:Nx (M.bl X.wb) w1 (M'.bl X.wb) w2) {cs:Array Value} {t:TypeId} (hN:Lo (M'.bl X.wb) w w2 N cs t) (ht:t ≠ 32) :
  Post X c M w R (.returned (.agg (rcs (R.1.mem kv)))) (w2.setRow N (rcs (R.1.mem kv))) :=
 ⟨M',kv,rfl,hk.row hN.blk ht _,hM.rowL hN _ h0,(Nx.from hb hn).row _ hN.low⟩
theorem Rr.good (r:Rr) {B:List Nat} {w:World} {kv:Value} (h:KsOut B w kv r.ks):(r.mem kv).good:=by
 obtain ⟨a,cc,e,-⟩:=h
 exact ⟨_,_,_,e⟩
attribute [local go_sem ↓] ldR stR alR bxR bdR ldV stV alV bxV bdV ldA stA bxA bdA
attribute [local irreducible] rcs dcs ecs vcs acs kcs
attribute [local go_sem] run_bx run_alR
set_option maxRecDepth 100000 in
set_option maxHeartbeats 2000000 in
theorem ask_any (HD:DoIs X D) (h:WIs X (c+1) M w A) (m:Int) (v:Vl) (a:Aq) (al:Value) (hk:Fine a.k) (hl:VsOut (M.bl X.wb) w al a.l) (hlen:a.l.length≤lim X) :
  Calls Tryz.prog 118 #[ptr X.wb,.int .i64 m,.agg (vcs v),.agg (acs a al)] w (Post X c M w (askF D m v a A)):=by
 obtain ⟨w1,hw1⟩:∃ w1,((w.alloc (.cells (vcs v) 30)).alloc (.cells (acs a al) 52)).alloc (.cells (rcs zeroR) 57)=w1:=⟨_,rfl⟩
 have k1:w1.heap.size=w.heap.size+3:=by rw [← hw1];simp
 have b1:Below w.heap.size w w1:=by rw [← hw1];exact (((Below.refl _ w).alloc (Nat.le_refl _) _).alloc (by simp) _).alloc (by simp;omega) _
 have x0:Blk w1 w.heap.size (vcs v) 30:=by rw [← hw1];exact ((Blk.new w _ _).old _).old _
 have x1:Blk w1 (w.heap.size+1) (acs a al) 52:=by rw [← hw1];exact (blk_newg (by simp)).old _
 have x2:Lo (M.bl X.wb) w w1 (w.heap.size+2) (rcs zeroR) 57:=by rw [← hw1];exact ⟨blk_newg (by simp),h.new (by omega),by omega⟩
 have h1:=h.call b1
 have h0:=h.bel.size
 have c0:w1.cell? ⟨w.heap.size,0,none⟩=some (.int .i64 v.k):=(x0.cell 0).trans (vcs_0 v)
 have c1:w1.cell? ⟨w.heap.size,1,none⟩=some (.int .i64 v.n):=(x0.cell 1).trans (vcs_1 v)
 have la:=run_ldAq x1
 have X2:=Lib.hid x2
 have B1:=Lib.hid b1
 have H0:=Lib.hid h0
 unfold askF
 by_cases hv:v.k=6
 ·rw [if_pos hv]
  have hd:=HD c M w1 A m v.n a al h1 hk (hl.nx (Nx.of_below b1)) hlen
  have hne:(v.k != 6)=false:=by simp [hv]
  have HVK:=Lib.hid hv
  clear h hk hl hlen b1 h1 h0 x0 x1 x2 hv
  go_enter Tryz.func118,Tryz.ntmps118
  go_wp2_with (go_at_call 19;refine hd.mono ?_;rintro e w2 ⟨M',kv,rfl,hks,hM,hn⟩;have y2:=X2.out.nx hn;have s2:=run_stRp y2.blk (Rr.good _ hks);have Y2:=Lib.hid y2;have HK:=Lib.hid hks;have HM:=Lib.hid hM;have HN:=Lib.hid hn;clear hks hM hn y2)
  refine bodyPost_ret (res_R rfl _ _ (w.heap.size+2) _ rfl (Y2.out.blk.row _)) rfl ?_
  exact Post.lay B1.out H0.out HK.out HM.out HN.out Y2.out (by decide)
 ·rw [if_neg hv]
  have hd:=fail_any h1 typeErr
  have hne:(v.k != 6)=true:=by simp [hv]
  have HVK:=Lib.hid hv
  clear h hk hl hlen b1 h1 h0 x0 x1 x2 hv
  go_enter Tryz.func118,Tryz.ntmps118
  go_wp2_with (go_at_call 50;refine hd.mono ?_;intro e w2 hp;obtain ⟨M',kv,rfl,hks,hM,hn⟩:=FailP.post hp;have y2:=X2.out.nx hn;have s2:=run_stRp y2.blk (Rr.good _ hks);have Y2:=Lib.hid y2;have HK:=Lib.hid hks;have HM:=Lib.hid hM;have HN:=Lib.hid hn;clear hks hM hn y2 hp)
  refine bodyPost_ret (res_R rfl _ _ (w.heap.size+2) _ rfl (Y2.out.blk.row _)) rfl ?_
  exact Post.lay B1.out H0.out HK.out HM.out HN.out Y2.out (by decide)
end
end Go.Proofs.YtkadkmnolkkhgaaGreatDoor.Mw
