/-
 setProto.
-/
import Derived.Test.YtkadkmnolkkhgaaGreatDoorMb31
import Derived.Test.YtkadkmnolkkhgaaGreatDoorMb10
import Derived.Test.YtkadkmnolkkhgaaGreatDoorMb05
import Derived.Deep.DeepCutAuto
import Derived.BigQuiet
set_option linter.unusedVariables false
set_option linter.unusedSimpArgs false
namespace Go.Proofs.YtkadkmnolkkhgaaGreatDoor.Mw
open Go Go.RowKit Go.Maps Go.Shelf Keys Hp Mo
open Des (Vl Ds zeroV zeroD dcs dcs_size dcs_one accF rigF appF eqV)
open Arrs (En ecs)
open Rg
attribute [local go_sem ↓] ldR stR alR bxR bdR ldV stV alV bxV bdV ldA stA bxA bdA ldKy bxKy bdKy ldT stT alT
attribute [local irreducible] rcs dcs ecs vcs acs kcs xcs tcs
attribute [local go_sem] run_bx run_alR run_stRg run_bdA0 run_bdAk run_bdAkr run_bdAkvr run_bdAr run_bdAkd run_bdRz run_bdRd run_bdRk run_bdRf run_bdRo run_bdRs run_bdRt' run_bdKs run_alT
section
variable {X:Cx} {c:Nat} {M M' M'':Wm} {w w' w'':World} {A A' A'':Aw} {ls:List Lc} {kl:List (Value × List KV)} {ro:List Lc} {D:DoT}
structure SpI (X:Cx) (M:Wm) (xb N0 N1:Nat) (o:Int) (x:Ob) (v:Vl) (w1:World) (L:Array Bool) (x0 x1 x2 x3 x4 x5 x6 x7 x8 x9 x10 x11 x12 x13 x14 x15 x16 x17 x18 x19 x20 x21 x22 x23 x24 x25 x26 x27 x28 x29 x30 x31 x32 x33 x34 x35 x36 x37 x38 x39 x40 x41 x42 x43 x44 x45 x46 x47 x48 x49 x50 x51 x52 x53 x54 x55 x56 x57 x58:Value) (W:World):Prop where
 k0:x0=ptr X.wb
 k1:x1=ptr xb
 k2:x2 = .agg (vcs v)
 k3:x3=undef
 k4:x4=undef
 k5:x5=ptr N0
 k6:x6=ptr N1
 m1:Below w1.heap.size w1 W
 h0:L.getD 0 false=true→x39=ptr X.wb
 h1:L.getD 1 false=true→x40=ptr M.hb
 h2:L.getD 2 false=true→x41=ptr xb
 h3:L.getD 3 false=true→x42=ptr xb
 h4:L.getD 4 false=true→x43 = .pointer (some ⟨xb,0,none⟩)
 h5:L.getD 5 false=true→x44 = .int .i64 o
 h6:L.getD 6 false=true→∃ G,x45 = .tuple #[.agg (tcs G),.bool true]∧GetOk w1.heap.size W x G
 h7:L.getD 7 false=true→∃ G,x38 = .tuple #[.agg (tcs G),.bool true]∧GetOk w1.heap.size W x G
 h8:L.getD 8 false=true→∃ G,x46 = .agg (tcs G)∧GetOk w1.heap.size W x G
 h9:L.getD 9 false=true→x47 = .bool true
 h10:L.getD 10 false=true→∃ b,x7=ptr b∧w1.heap.size≤b∧∃ o,Blk W b (tcs o) 39
 h11:L.getD 11 false=true→∃ b G,x7=ptr b∧w1.heap.size≤b∧Blk W b (tcs G) 39∧GetOk w1.heap.size W x G
 h12:L.getD 12 false=true→x8 = .bool true
set_option maxRecDepth 100000 in
set_option maxHeartbeats 4000000 in
theorem setProto_any (h:WIs X (c+1) M w A) (o:Int) {t:Th} {T:TypeId} {xb:Nat} (hx:Blk w xb (xcs o t) T) (hxo:xb ∉ M.bl X.wb) {x:Ob} (hat:at? A o=some x) (v:Vl) :
  Calls Tryz.prog 167 #[ptr X.wb,ptr xb,.agg (vcs v)] w (Post X c M w (setProtoF o t v A)):=by
 obtain ⟨w1,hw1⟩:∃ w1,(w.alloc (.cells (vcs v) 30)).alloc (.cells (rcs zeroR) 57)=w1:=⟨_,rfl⟩
 have F0:Fm X (c+1) M w M w1 A [⟨w.heap.size+1,rcs zeroR,57⟩,⟨w.heap.size,vcs v,30⟩] [] [⟨xb,xcs o t,T⟩]:=by
  rw [← hw1];exact (((Fm.start h).with hx hxo).new _ _).newg _ _ _ (by simp)
 have hfit:=h.fit hat
 have HAT:=Lib.hid hat
 have HFIT:=Lib.hid hfit
 have HGET:Hid (∀ {w':World},WIs X (c+1) M w' A→Calls Tryz.prog 20 #[ptr M.hb,.int .i64 o] w' fun e w2=>∃ G,e = .returned (.tuple #[.agg (tcs G),.bool true])∧GetOk w'.heap.size w2 x G∧Below w'.heap.size w' w2):=Lib.hid fun h'=>wGetR h' hat
 have lv1:=run_ldVp F0.l1.blk
 have HF0:=Lib.hid F0
 unfold setProtoF
 rw [hat]
 clear F0 h hx hxo hat hfit
 cases hi:isObjNull v
 ·simp only [Bool.not_false,if_true]
  have hc0:∀ w,Calls Tryz.prog 196 #[.agg (vcs v)] w fun e w'=>e = .returned (.bool false)∧Below w.heap.size w w':=fun w=>hi ▸ isObjNull_any v w
  have hi1:=hc0 w1
  clear hc0 hi
  go_enter Tryz.func167,Tryz.ntmps167
  go_wp2_with (first |(go_at_call 196;(with_reducible refine hi1.mono ?_);rintro e w2 ⟨rfl,hb⟩;have F2:=HF0.out.call hb;have hf:=fail_any F2.wis typeErr;have HF2:=Lib.hid F2;clear hb F2) |(go_at_call 50;refine hf.mono ?_;intro e w3 hp;obtain ⟨M3,kv3,rfl,hks,hM,hn⟩:=FailP.post hp;have hg3:=Rr.good _ hks;have F3:=HF2.out.post hks hM hn;have s3:=run_stRp F3.l0.blk hg3;have HF3:=Lib.hid F3;clear hks hM hn hp F3))
  have F4:=HF3.out.put (l:=[]) (rcs ((failF typeErr A).1.mem kv3)) (show 57 ≠ 32 by decide)
  refine bodyPost_ret (res_R rfl _ _ (w.heap.size+1) _ rfl F4.l0.blk) rfl ?_
  exact F4.fin F4.k0
 ·simp only [Bool.not_true,Bool.false_eq_true,if_false]
  have hc0:∀ w,Calls Tryz.prog 196 #[.agg (vcs v)] w fun e w'=>e = .returned (.bool true)∧Below w.heap.size w w':=fun w=>hi ▸ isObjNull_any v w
  have hi1:=hc0 w1
  obtain ⟨eb,heb⟩:∃ eb,eqV v t.proto=eb:=⟨_,rfl⟩
  have hsm:∀ w,Calls Tryz.prog 197 #[.agg (vcs v),.agg (vcs t.proto)] w fun e w'=>e = .returned (.bool eb)∧Below w.heap.size w w':=fun w=>heb ▸ same_vcs v t.proto w
  rw [heb]
  have HSM:=Lib.hid hsm
  obtain ⟨rb,hrb⟩:∃ rb,reachF A o A.objs.length v=rb:=⟨_,rfl⟩
  rw [hrb]
  have HRE:Hid (∀ {w'},WIs X (c+1) M w' A→Calls Tryz.prog 198 #[ptr X.wb,.agg (vcs v),.int .i64 o] w' fun e w2=>e = .returned (.bool rb)∧Below w'.heap.size w' w2):=Lib.hid fun h'=>hrb ▸ reaches_any h' v o
  obtain ⟨xe,hxe⟩:∃ xe,t.ext=xe:=⟨_,rfl⟩
  rw [hxe]
  have HXE:=Lib.hid hxe
  obtain ⟨RR,hRR⟩:∃ RR,RR=(if eb=true then (ans true,A) else if (!xe || rb)=true then (ans false,A) else (ans true,setOb A o { x with th:={ x.th with proto:=v } })):=⟨_,rfl⟩
  rw [← hRR]
  have HRR:=Lib.hid hRR
  clear hc0 hi heb hsm hRR hrb hxe
  go_enter Tryz.func167,Tryz.ntmps167
  go_upto_region 3 with (go_at_call 196;(with_reducible refine hi1.mono ?_);rintro e w2 ⟨rfl,hb⟩;have F2:=HF0.out.call hb;have FD:=F2.drew;have lv:=run_ldVp FD.l1.blk;have lx:=x_proto FD.r0;have HFD:=Lib.hid FD;clear FD;have HF2:=Lib.hid F2;clear hb F2)
  go_cut [20] from 9 to 58 (fun s wx=>s = .bool eb∧Fm X (c+1) M w M wx A [⟨w.heap.size+1,rcs zeroR,57⟩,⟨w.heap.size,vcs v,30⟩] [] [⟨xb,xcs o t,T⟩])
  case first =>
   go_region_with (go_at_call 197;(with_reducible refine (HSM.out _).mono ?_);rintro e w3 ⟨rfl,hb⟩;have F3:=HFD.out.call hb;have HF3:=Lib.hid F3;clear hb F3)
   all_goals (go_wp2_with fail;go_meet;exact ⟨rfl,HF3.out⟩)
  case rest =>
  obtain ⟨rfl,F4⟩:=hcut
  have HF4:=Lib.hid F4
  clear F4 HSM
  cases eb
  ·
   have FD4:=HF4.out.drew
   have lv4:=run_ldVp FD4.l1.blk
   have xe4:=x_ext FD4.r0
   have xn4:=x_num FD4.r0
   have hre:=HRE.out FD4.wis
   have HFD4:=Lib.hid FD4
   rw [HXE.out] at xe4
   clear FD4
   go_upto_region 5 with fail
   go_cut [36] from 9 to 58 (fun s wx=>s = .bool (!xe || rb)∧Fm X (c+1) M w M wx A [⟨w.heap.size+1,rcs zeroR,57⟩,⟨w.heap.size,vcs v,30⟩] [] [⟨xb,xcs o t,T⟩])
   case first =>
    cases xe
    ·have xeq:=x_ext HF4.out.r0
     rw [HXE.out] at xeq
     go_quiet (fail)
     go_wp2_with fail
     go_meet
     exact ⟨rfl,HF4.out.call ⟨rfl,rfl,rfl,Nat.le_refl _,fun _ _=>rfl⟩⟩
    ·go_region_with (go_at_call 198;(with_reducible refine hre.mono ?_);rintro e w5 ⟨rfl,hb⟩;have F5:=HFD4.out.call hb;have HF5:=Lib.hid F5;clear hb F5)
     all_goals (go_wp2_with fail;go_meet;exact ⟨rfl,HF5.out⟩)
   case rest =>
   obtain ⟨rfl,F5⟩:=hcut
   have HF5:=Lib.hid F5
   clear F5 lv4 xe4 xn4 hre HFD4 HF4
   obtain ⟨w5,hw5⟩:∃ u,u=wc:=⟨_,rfl⟩
   subst hw5
   cases hq:(!xe || rb)
   ·have key:RR=(ans true,setOb A o { x with th:={ x.th with proto:=v } }):=by rw [HRR.out,hq];rfl
    have KEY:=Lib.hid key
    clear key
    go_upto_region 7 with fail
    go_cut [7,8] from 9 to 58 (fun s1 s2 wx=>ThAt X (c+1) M w M A x w5.drew.heap.size [⟨w.heap.size+1,rcs zeroR,57⟩,⟨w.heap.size,vcs v,30⟩] [] [⟨xb,xcs o t,T⟩] s1 s2 wx)
    case first =>
     have hwis:=HF5.out.drew.wis
     have hxb:=HF5.out.drew.r0
     refine region_inv (by kernel_rfl) (fun L a W=>∃ x0 x1 x2 x3 x4 x5 x6 x7 x8 x9 x10 x11 x12 x13 x14 x15 x16 x17 x18 x19 x20 x21 x22 x23 x24 x25 x26 x27 x28 x29 x30 x31 x32 x33 x34 x35 x36 x37 x38 x39 x40 x41 x42 x43 x44 x45 x46 x47 x48 x49 x50 x51 x52 x53 x54 x55 x56 x57 x58:Value,a={ tmps:=#[x0,x1,x2,x3,x4,x5,x6,x7,x8,x9,x10,x11,x12,x13,x14,x15,x16,x17,x18,x19,x20,x21,x22,x23,x24,x25,x26,x27,x28,x29,x30,x31,x32,x33,x34,x35,x36,x37,x38,x39,x40,x41,x42,x43,x44,x45,x46,x47,x48,x49,x50,x51,x52,x53,x54,x55,x56,x57,x58],defers:=[] }∧SpI X M xb (w.heap.size) (w.heap.size+1) o x v w5.drew L x0 x1 x2 x3 x4 x5 x6 x7 x8 x9 x10 x11 x12 x13 x14 x15 x16 x17 x18 x19 x20 x21 x22 x23 x24 x25 x26 x27 x28 x29 x30 x31 x32 x33 x34 x35 x36 x37 x38 x39 x40 x41 x42 x43 x44 x45 x46 x47 x48 x49 x50 x51 x52 x53 x54 x55 x56 x57 x58 W) (by kernel_rfl) ?start ?step ?done
     case start=>exact ⟨_,_,_,_,_,_,_,_,_,_,_,_,_,_,_,_,_,_,_,_,_,_,_,_,_,_,_,_,_,_,_,_,_,_,_,_,_,_,_,_,_,_,_,_,_,_,_,_,_,_,_,_,_,_,_,_,_,_,_,rfl,⟨rfl,rfl,rfl,rfl,rfl,rfl,rfl,Below.refl _ _,fun h=>by simp [Array.getD_eq_getD_getElem?] at h,fun h=>by simp [Array.getD_eq_getD_getElem?] at h,fun h=>by simp [Array.getD_eq_getD_getElem?] at h,fun h=>by simp [Array.getD_eq_getD_getElem?] at h,fun h=>by simp [Array.getD_eq_getD_getElem?] at h,fun h=>by simp [Array.getD_eq_getD_getElem?] at h,fun h=>by simp [Array.getD_eq_getD_getElem?] at h,fun h=>by simp [Array.getD_eq_getD_getElem?] at h,fun h=>by simp [Array.getD_eq_getD_getElem?] at h,fun h=>by simp [Array.getD_eq_getD_getElem?] at h,fun h=>by simp [Array.getD_eq_getD_getElem?] at h,fun h=>by simp [Array.getD_eq_getD_getElem?] at h,fun h=>by simp [Array.getD_eq_getD_getElem?] at h⟩⟩
     case step =>
      intro i L a W hi hdep hL hs hcl hI
      have hi2:i < 13:=by simpa using hi
      obtain ⟨x0,x1,x2,x3,x4,x5,x6,x7,x8,x9,x10,x11,x12,x13,x14,x15,x16,x17,x18,x19,x20,x21,x22,x23,x24,x25,x26,x27,x28,x29,x30,x31,x32,x33,x34,x35,x36,x37,x38,x39,x40,x41,x42,x43,x44,x45,x46,x47,x48,x49,x50,x51,x52,x53,x54,x55,x56,x57,x58,rfl,H⟩:=hI
      have ol:∀ j,i ≠ j→(L.setIfInBounds i true).getD j false=true→L.getD j false=true:=fun j hj h=>by rwa [getD_set hj] at h
      rcases (by omega:i=0∨i=1∨i=2∨i=3∨i=4∨i=5∨i=6∨i=7∨i=8∨i=9∨i=10∨i=11∨i=12) with rfl |rfl |rfl |rfl |rfl |rfl |rfl |rfl |rfl |rfl |rfl |rfl |rfl
      ·clear hi hi2
       have k0:=H.k0
       subst k0
       exact step_run (i:=0) (w':=W) (v:=ptr X.wb) rfl rfl (by simp [execOp,Act.eval,go_sem]) ⟨_,_,_,_,_,_,_,_,_,_,_,_,_,_,_,_,_,_,_,_,_,_,_,_,_,_,_,_,_,_,_,_,_,_,_,_,_,_,_,_,_,_,_,_,_,_,_,_,_,_,_,_,_,_,_,_,_,_,_,rfl,⟨(H.k0),(H.k1),(H.k2),(H.k3),(H.k4),(H.k5),(H.k6),(H.m1),(fun _=>rfl),(H.h1∘ol 1 nofun),(H.h2∘ol 2 nofun),(H.h3∘ol 3 nofun),(H.h4∘ol 4 nofun),(H.h5∘ol 5 nofun),(H.h6∘ol 6 nofun),(H.h7∘ol 7 nofun),(H.h8∘ol 8 nofun),(H.h9∘ol 9 nofun),(H.h10∘ol 10 nofun),(H.h11∘ol 11 nofun),(H.h12∘ol 12 nofun)⟩⟩
      ·clear hi hi2
       have e39:=H.h0 (hdep 0 (memOf (by kernel_rfl)))
       subst e39
       refine step_call (i:=1) (f:=100) (args:=#[ptr X.wb]) rfl rfl (by simp [execOp,Act.eval,go_sem]) (stW (hwis.call H.m1)) ?_
       rintro e W2 ⟨rfl,hq⟩
       subst hq
       exact ⟨_,rfl,⟨_,_,_,_,_,_,_,_,_,_,_,_,_,_,_,_,_,_,_,_,_,_,_,_,_,_,_,_,_,_,_,_,_,_,_,_,_,_,_,_,_,_,_,_,_,_,_,_,_,_,_,_,_,_,_,_,_,_,_,rfl,⟨(H.k0),(H.k1),(H.k2),(H.k3),(H.k4),(H.k5),(H.k6),(H.m1),(H.h0∘ol 0 nofun),(fun _=>rfl),(H.h2∘ol 2 nofun),(H.h3∘ol 3 nofun),(H.h4∘ol 4 nofun),(H.h5∘ol 5 nofun),(H.h6∘ol 6 nofun),(H.h7∘ol 7 nofun),(H.h8∘ol 8 nofun),(H.h9∘ol 9 nofun),(H.h10∘ol 10 nofun),(H.h11∘ol 11 nofun),(H.h12∘ol 12 nofun)⟩⟩⟩
      ·clear hi hi2
       have k1:=H.k1
       subst k1
       exact step_run (i:=2) (w':=W) (v:=ptr xb) rfl rfl (by simp [execOp,Act.eval,go_sem]) ⟨_,_,_,_,_,_,_,_,_,_,_,_,_,_,_,_,_,_,_,_,_,_,_,_,_,_,_,_,_,_,_,_,_,_,_,_,_,_,_,_,_,_,_,_,_,_,_,_,_,_,_,_,_,_,_,_,_,_,_,rfl,⟨(H.k0),(H.k1),(H.k2),(H.k3),(H.k4),(H.k5),(H.k6),(H.m1),(H.h0∘ol 0 nofun),(H.h1∘ol 1 nofun),(fun _=>rfl),(H.h3∘ol 3 nofun),(H.h4∘ol 4 nofun),(H.h5∘ol 5 nofun),(H.h6∘ol 6 nofun),(H.h7∘ol 7 nofun),(H.h8∘ol 8 nofun),(H.h9∘ol 9 nofun),(H.h10∘ol 10 nofun),(H.h11∘ol 11 nofun),(H.h12∘ol 12 nofun)⟩⟩
      ·clear hi hi2
       have e41:=H.h2 (hdep 2 (memOf (by kernel_rfl)))
       subst e41
       exact step_run (i:=3) (w':=W) (v:=ptr xb) rfl rfl (by simp [execOp,Act.eval,go_sem]) ⟨_,_,_,_,_,_,_,_,_,_,_,_,_,_,_,_,_,_,_,_,_,_,_,_,_,_,_,_,_,_,_,_,_,_,_,_,_,_,_,_,_,_,_,_,_,_,_,_,_,_,_,_,_,_,_,_,_,_,_,rfl,⟨(H.k0),(H.k1),(H.k2),(H.k3),(H.k4),(H.k5),(H.k6),(H.m1),(H.h0∘ol 0 nofun),(H.h1∘ol 1 nofun),(H.h2∘ol 2 nofun),(fun _=>rfl),(H.h4∘ol 4 nofun),(H.h5∘ol 5 nofun),(H.h6∘ol 6 nofun),(H.h7∘ol 7 nofun),(H.h8∘ol 8 nofun),(H.h9∘ol 9 nofun),(H.h10∘ol 10 nofun),(H.h11∘ol 11 nofun),(H.h12∘ol 12 nofun)⟩⟩
      ·clear hi hi2
       have e42:=H.h3 (hdep 3 (memOf (by kernel_rfl)))
       subst e42
       exact step_run (i:=4) (w':=W) (v:=.pointer (some ⟨xb,0,none⟩)) rfl rfl (by simp [execOp,Act.eval,go_sem]) ⟨_,_,_,_,_,_,_,_,_,_,_,_,_,_,_,_,_,_,_,_,_,_,_,_,_,_,_,_,_,_,_,_,_,_,_,_,_,_,_,_,_,_,_,_,_,_,_,_,_,_,_,_,_,_,_,_,_,_,_,rfl,⟨(H.k0),(H.k1),(H.k2),(H.k3),(H.k4),(H.k5),(H.k6),(H.m1),(H.h0∘ol 0 nofun),(H.h1∘ol 1 nofun),(H.h2∘ol 2 nofun),(H.h3∘ol 3 nofun),(fun _=>rfl),(H.h5∘ol 5 nofun),(H.h6∘ol 6 nofun),(H.h7∘ol 7 nofun),(H.h8∘ol 8 nofun),(H.h9∘ol 9 nofun),(H.h10∘ol 10 nofun),(H.h11∘ol 11 nofun),(H.h12∘ol 12 nofun)⟩⟩
      ·clear hi hi2
       have e43:=H.h4 (hdep 4 (memOf (by kernel_rfl)))
       subst e43
       have cq:=x_num (hxb.call H.m1)
       exact step_run (i:=5) (w':=W) (v:=.int .i64 o) rfl rfl (by simp [execOp,Act.eval,go_sem,cq]) ⟨_,_,_,_,_,_,_,_,_,_,_,_,_,_,_,_,_,_,_,_,_,_,_,_,_,_,_,_,_,_,_,_,_,_,_,_,_,_,_,_,_,_,_,_,_,_,_,_,_,_,_,_,_,_,_,_,_,_,_,rfl,⟨(H.k0),(H.k1),(H.k2),(H.k3),(H.k4),(H.k5),(H.k6),(H.m1),(H.h0∘ol 0 nofun),(H.h1∘ol 1 nofun),(H.h2∘ol 2 nofun),(H.h3∘ol 3 nofun),(H.h4∘ol 4 nofun),(fun _=>rfl),(H.h6∘ol 6 nofun),(H.h7∘ol 7 nofun),(H.h8∘ol 8 nofun),(H.h9∘ol 9 nofun),(H.h10∘ol 10 nofun),(H.h11∘ol 11 nofun),(H.h12∘ol 12 nofun)⟩⟩
      ·clear hi hi2
       have e40:=H.h1 (hdep 1 (memOf (by kernel_rfl)))
       have e44:=H.h5 (hdep 5 (memOf (by kernel_rfl)))
       subst e40
       subst e44
       refine step_call (i:=6) (f:=20) (args:=#[ptr M.hb,.int .i64 o]) rfl rfl (by simp [execOp,Act.eval,go_sem]) (HGET.out (hwis.call H.m1)) ?_
       rintro e W2 ⟨G,rfl,hG,hb⟩
       exact ⟨_,rfl,⟨_,_,_,_,_,_,_,_,_,_,_,_,_,_,_,_,_,_,_,_,_,_,_,_,_,_,_,_,_,_,_,_,_,_,_,_,_,_,_,_,_,_,_,_,_,_,_,_,_,_,_,_,_,_,_,_,_,_,_,rfl,⟨(H.k0),(H.k1),(H.k2),(H.k3),(H.k4),(H.k5),(H.k6),(H.m1.trans (hb.mono H.m1.size)),(H.h0∘ol 0 nofun),(H.h1∘ol 1 nofun),(H.h2∘ol 2 nofun),(H.h3∘ol 3 nofun),(H.h4∘ol 4 nofun),(H.h5∘ol 5 nofun),(fun _=>⟨G,rfl,hG.mono H.m1.size⟩),(fun h=>let ⟨G,q1,q2⟩:=H.h7 (ol 7 (by decide) h);⟨G,q1,q2.call hb⟩),(fun h=>let ⟨G,q1,q2⟩:=H.h8 (ol 8 (by decide) h);⟨G,q1,q2.call hb⟩),(H.h9∘ol 9 nofun),(fun h=>let ⟨g,q1,q2,o,q3⟩:=H.h10 (ol 10 (by decide) h);⟨g,q1,q2,o,q3.call hb⟩),(fun h=>let ⟨g,G,q1,q2,q3,q4⟩:=H.h11 (ol 11 (by decide) h);⟨g,G,q1,q2,q3.call hb,q4.call hb⟩),(H.h12∘ol 12 nofun)⟩⟩⟩
      ·clear hi hi2
       have e45:=H.h6 (hdep 6 (memOf (by kernel_rfl)))
       obtain ⟨G,rfl,hG⟩:=e45
       exact step_run (i:=7) (w':=W) (v:=.tuple #[.agg (tcs G),.bool true]) rfl rfl (by simp [execOp,Act.eval,go_sem]) ⟨_,_,_,_,_,_,_,_,_,_,_,_,_,_,_,_,_,_,_,_,_,_,_,_,_,_,_,_,_,_,_,_,_,_,_,_,_,_,_,_,_,_,_,_,_,_,_,_,_,_,_,_,_,_,_,_,_,_,_,rfl,⟨(H.k0),(H.k1),(H.k2),(H.k3),(H.k4),(H.k5),(H.k6),(H.m1),(H.h0∘ol 0 nofun),(H.h1∘ol 1 nofun),(H.h2∘ol 2 nofun),(H.h3∘ol 3 nofun),(H.h4∘ol 4 nofun),(H.h5∘ol 5 nofun),(H.h6∘ol 6 nofun),(fun _=>⟨G,rfl,hG⟩),(H.h8∘ol 8 nofun),(H.h9∘ol 9 nofun),(H.h10∘ol 10 nofun),(H.h11∘ol 11 nofun),(H.h12∘ol 12 nofun)⟩⟩
      ·clear hi hi2
       have e38:=H.h7 (hdep 7 (memOf (by kernel_rfl)))
       obtain ⟨G,rfl,hG⟩:=e38
       exact step_run (i:=8) (w':=W) (v:=.agg (tcs G)) rfl rfl (by simp [execOp,Act.eval,go_sem]) ⟨_,_,_,_,_,_,_,_,_,_,_,_,_,_,_,_,_,_,_,_,_,_,_,_,_,_,_,_,_,_,_,_,_,_,_,_,_,_,_,_,_,_,_,_,_,_,_,_,_,_,_,_,_,_,_,_,_,_,_,rfl,⟨(H.k0),(H.k1),(H.k2),(H.k3),(H.k4),(H.k5),(H.k6),(H.m1),(H.h0∘ol 0 nofun),(H.h1∘ol 1 nofun),(H.h2∘ol 2 nofun),(H.h3∘ol 3 nofun),(H.h4∘ol 4 nofun),(H.h5∘ol 5 nofun),(H.h6∘ol 6 nofun),(H.h7∘ol 7 nofun),(fun _=>⟨G,rfl,hG⟩),(H.h9∘ol 9 nofun),(H.h10∘ol 10 nofun),(H.h11∘ol 11 nofun),(H.h12∘ol 12 nofun)⟩⟩
      ·clear hi hi2
       have e38:=H.h7 (hdep 7 (memOf (by kernel_rfl)))
       obtain ⟨G,rfl,hG⟩:=e38
       exact step_run (i:=9) (w':=W) (v:=.bool true) rfl rfl (by simp [execOp,Act.eval,go_sem]) ⟨_,_,_,_,_,_,_,_,_,_,_,_,_,_,_,_,_,_,_,_,_,_,_,_,_,_,_,_,_,_,_,_,_,_,_,_,_,_,_,_,_,_,_,_,_,_,_,_,_,_,_,_,_,_,_,_,_,_,_,rfl,⟨(H.k0),(H.k1),(H.k2),(H.k3),(H.k4),(H.k5),(H.k6),(H.m1),(H.h0∘ol 0 nofun),(H.h1∘ol 1 nofun),(H.h2∘ol 2 nofun),(H.h3∘ol 3 nofun),(H.h4∘ol 4 nofun),(H.h5∘ol 5 nofun),(H.h6∘ol 6 nofun),(H.h7∘ol 7 nofun),(H.h8∘ol 8 nofun),(fun _=>rfl),(H.h10∘ol 10 nofun),(H.h11∘ol 11 nofun),(H.h12∘ol 12 nofun)⟩⟩
      ·clear hi hi2
       have hb:Below W.heap.size W (W.alloc (.cells (tcs zeroT) 39)):=(Below.refl _ W).alloc (Nat.le_refl _) _
       exact step_run (i:=10) (w':=(W.alloc (.cells (tcs zeroT) 39))) (v:=ptr W.heap.size) rfl rfl (by simp [execOp,Act.eval,go_sem]) ⟨_,_,_,_,_,_,_,_,_,_,_,_,_,_,_,_,_,_,_,_,_,_,_,_,_,_,_,_,_,_,_,_,_,_,_,_,_,_,_,_,_,_,_,_,_,_,_,_,_,_,_,_,_,_,_,_,_,_,_,rfl,⟨(H.k0),(H.k1),(H.k2),(H.k3),(H.k4),(H.k5),(H.k6),(H.m1.trans (hb.mono H.m1.size)),(H.h0∘ol 0 nofun),(H.h1∘ol 1 nofun),(H.h2∘ol 2 nofun),(H.h3∘ol 3 nofun),(H.h4∘ol 4 nofun),(H.h5∘ol 5 nofun),(fun h=>let ⟨G,q1,q2⟩:=H.h6 (ol 6 (by decide) h);⟨G,q1,q2.call hb⟩),(fun h=>let ⟨G,q1,q2⟩:=H.h7 (ol 7 (by decide) h);⟨G,q1,q2.call hb⟩),(fun h=>let ⟨G,q1,q2⟩:=H.h8 (ol 8 (by decide) h);⟨G,q1,q2.call hb⟩),(H.h9∘ol 9 nofun),(fun _=>⟨_,rfl,H.m1.size,_,Blk.new W _ _⟩),(fun h=>(not_yet hL (hcl 11 (by simp) (ol 11 (by decide) h) 10 (memOf (by kernel_rfl)))).elim),(H.h12∘ol 12 nofun)⟩⟩
      ·clear hi hi2
       have e46:=H.h8 (hdep 8 (memOf (by kernel_rfl)))
       have e7:=H.h10 (hdep 10 (memOf (by kernel_rfl)))
       obtain ⟨G,rfl,hG⟩:=e46
       obtain ⟨b,rfl,hb1,o2,hb2⟩:=e7
       have sv:=run_stTk hb2 hG.ok
       exact step_sk (i:=11) (w':=(W.setRow b (tcs G))) rfl rfl (by simp [execOp,Act.eval,go_sem,sv]) ⟨_,_,_,_,_,_,_,_,_,_,_,_,_,_,_,_,_,_,_,_,_,_,_,_,_,_,_,_,_,_,_,_,_,_,_,_,_,_,_,_,_,_,_,_,_,_,_,_,_,_,_,_,_,_,_,_,_,_,_,rfl,⟨(H.k0),(H.k1),(H.k2),(H.k3),(H.k4),(H.k5),(H.k6),(below_rowW H.m1 _ hb1),(H.h0∘ol 0 nofun),(H.h1∘ol 1 nofun),(H.h2∘ol 2 nofun),(H.h3∘ol 3 nofun),(H.h4∘ol 4 nofun),(H.h5∘ol 5 nofun),(fun h=>let ⟨G,q1,q2⟩:=H.h6 (ol 6 (by decide) h);⟨G,q1,q2.row hb2 (by decide) (by decide) _⟩),(fun h=>let ⟨G,q1,q2⟩:=H.h7 (ol 7 (by decide) h);⟨G,q1,q2.row hb2 (by decide) (by decide) _⟩),(fun h=>let ⟨G,q1,q2⟩:=H.h8 (ol 8 (by decide) h);⟨G,q1,q2.row hb2 (by decide) (by decide) _⟩),(H.h9∘ol 9 nofun),(fun _=>⟨b,rfl,hb1,_,hb2.row _⟩),(fun _=>⟨b,G,rfl,hb1,hb2.row _,hG.row hb2 (by decide) (by decide) _⟩),(H.h12∘ol 12 nofun)⟩⟩
      ·clear hi hi2
       have e47:=H.h9 (hdep 9 (memOf (by kernel_rfl)))
       subst e47
       exact step_run (i:=12) (w':=W) (v:=.bool true) rfl rfl (by simp [execOp,Act.eval,go_sem]) ⟨_,_,_,_,_,_,_,_,_,_,_,_,_,_,_,_,_,_,_,_,_,_,_,_,_,_,_,_,_,_,_,_,_,_,_,_,_,_,_,_,_,_,_,_,_,_,_,_,_,_,_,_,_,_,_,_,_,_,_,rfl,⟨(H.k0),(H.k1),(H.k2),(H.k3),(H.k4),(H.k5),(H.k6),(H.m1),(H.h0∘ol 0 nofun),(H.h1∘ol 1 nofun),(H.h2∘ol 2 nofun),(H.h3∘ol 3 nofun),(H.h4∘ol 4 nofun),(H.h5∘ol 5 nofun),(H.h6∘ol 6 nofun),(H.h7∘ol 7 nofun),(H.h8∘ol 8 nofun),(H.h9∘ol 9 nofun),(H.h10∘ol 10 nofun),(H.h11∘ol 11 nofun),(fun _=>rfl)⟩⟩
     case done =>
      rintro L a W hall ⟨x0,x1,x2,x3,x4,x5,x6,x7,x8,x9,x10,x11,x12,x13,x14,x15,x16,x17,x18,x19,x20,x21,x22,x23,x24,x25,x26,x27,x28,x29,x30,x31,x32,x33,x34,x35,x36,x37,x38,x39,x40,x41,x42,x43,x44,x45,x46,x47,x48,x49,x50,x51,x52,x53,x54,x55,x56,x57,x58,rfl,H⟩
      obtain ⟨bL,G,eL,hbL,BL,hG⟩:=H.h11 (hall 11 (by simp))
      have eM:=H.h12 (hall 12 (by simp))
      have k0:=H.k0
      have k1:=H.k1
      have k2:=H.k2
      have k3:=H.k3
      have k4:=H.k4
      have k5:=H.k5
      have k6:=H.k6
      subst eL eM k0 k1 k2 k3 k4 k5 k6
      have HQ:=Lib.hid (show ThAt X (c+1) M w M A x w5.drew.heap.size [⟨w.heap.size+1,rcs zeroR,57⟩,⟨w.heap.size,vcs v,30⟩] [] [⟨xb,xcs o t,T⟩] (ptr bL) (.bool true) W from ⟨bL,G,rfl,rfl,hG,HF5.out.drew.growW H.m1 BL hbL⟩)
      clear H hwis hxb BL hbL hall hG
      go_wp2_with fail
      go_meet
      exact HQ.out
    case rest =>
    obtain ⟨N,G,rfl,rfl,hG,F3⟩:=hcut
    have hB3:Blk wc N (tcs G) 39:=F3.l0.blk
    have F4:=F3.put (l:=[]) (tcs { G with proto:=v }) (show 39 ≠ 32 by decide)
    have st4:=run_stTproto hB3 v
    have lv4:=run_ldVp F3.l2.blk
    have hG4:=hG.row hB3 (by decide) (by decide) (tcs { G with proto:=v })
    have heq:bare { G with proto:=v }={ x.th with proto:=v }:=by rw [← hG.eq];rfl
    obtain ⟨w4,hw4⟩:∃ w4,wc.setRow N (tcs { G with proto:=v })=w4:=⟨_,rfl⟩
    rw [hw4] at F4 hG4 st4
    have FD:=F4.drew
    obtain ⟨f1,f2,f3,f5,f6,f7,f8⟩:=HFIT.out
    have hset:=wSet FD.wis HAT.out ((hG4.call (Below.refl _ _).drew).give (G':={ G with proto:=v }) rfl rfl f5 (by omega) f7) f3 f6 (fun hp=>by rw [← hG.eq] at f8;exact f8 hp)
    rw [heq] at hset
    have xn:=x_num FD.r0
    have lt:=run_ldT FD.l0.blk
    have hst:=stW FD.wis
    have HFD:=Lib.hid FD
    clear hB3 F3 F4 hG hG4 FD f1 f2 f3 f5 f6 f7 f8 heq
    go_upto_region 9 with fail
    go_cut [] from 9 to 58 (fun wx=>∃ M6,Fm X (c+1) M w M6 wx (setOb A o { x with th:={ x.th with proto:=v } }) (⟨N,tcs { G with proto:=v },39⟩ :: [⟨w.heap.size+1,rcs zeroR,57⟩,⟨w.heap.size,vcs v,30⟩]) [] [⟨xb,xcs o t,T⟩])
    case first =>
     go_region_with (first |(go_at_call 100;(with_reducible refine hst.mono ?_);rintro e w7 ⟨rfl,rfl⟩) |(go_at_call 199;(with_reducible refine hset.mono ?_);rintro e w8 ⟨⟨b6,rfl⟩,M6,hM6,h6,n6⟩;have HF6:=Lib.hid (HFD.out.leftW ⟨h6,n6⟩);clear h6 n6 hM6))
     all_goals (go_wp2_with fail;go_meet;exact ⟨_,HF6.out⟩)
    case rest =>
    obtain ⟨M6,F6⟩:=hcut
    have HF6:=Lib.hid F6
    clear F6
    go_wp2_with (go_at_call 168;(with_reducible refine (answer_any true _).mono ?_);rintro e w10 ⟨rfl,hb⟩;have F10:=HF6.out.call hb;have s10:=run_stRp F10.l1.blk (r:=(ans true).mem nilS) ⟨_,_,_,rfl⟩;have HF10:=Lib.hid F10;clear hb F10)
    have F11:=HF10.out.put (l:=[⟨N,tcs { G with proto:=v },39⟩]) (rcs ((ans true).mem nilS)) (show 57 ≠ 32 by decide)
    refine bodyPost_ret (res_R rfl _ _ (w.heap.size+1) _ rfl F11.l1.blk) rfl ?_
    rw [KEY.out]
    exact F11.fin1 rfl
   ·have key:RR=(ans false,A):=by rw [HRR.out,hq];rfl
    have KEY:=Lib.hid key
    clear key
    go_wp2_with (go_at_call 168;(with_reducible refine (answer_any false _).mono ?_);rintro e w6 ⟨rfl,hb⟩;have F6:=HF5.out.call hb;have s6:=run_stRp F6.l0.blk (r:=(ans false).mem nilS) ⟨_,_,_,rfl⟩;have HF6:=Lib.hid F6;clear hb F6)
    have F6b:=HF6.out.put (l:=[]) (rcs ((ans false).mem nilS)) (show 57 ≠ 32 by decide)
    refine bodyPost_ret (res_R rfl _ _ (w.heap.size+1) _ rfl F6b.l0.blk) rfl ?_
    rw [KEY.out]
    exact F6b.fin1 rfl
  ·have key:RR=(ans true,A):=by rw [HRR.out];rfl
   have KEY:=Lib.hid key
   clear key
   go_wp2_with (go_at_call 168;(with_reducible refine (answer_any true _).mono ?_);rintro e w5 ⟨rfl,hb⟩;have F5:=HF4.out.call hb;have s5:=run_stRp F5.l0.blk (r:=(ans true).mem nilS) ⟨_,_,_,rfl⟩;have HF5:=Lib.hid F5;clear hb F5)
   have F5b:=HF5.out.put (l:=[]) (rcs ((ans true).mem nilS)) (show 57 ≠ 32 by decide)
   refine bodyPost_ret (res_R rfl _ _ (w.heap.size+1) _ rfl F5b.l0.blk) rfl ?_
   rw [KEY.out]
   exact F5b.fin1 rfl
end
end Go.Proofs.YtkadkmnolkkhgaaGreatDoor.Mw
