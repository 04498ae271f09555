/-
 invokeTarget.
-/
import Derived.Test.YtkadkmnolkkhgaaGreatDoorMb20
import Derived.Test.YtkadkmnolkkhgaaGreatDoorMb17
import Derived.Test.YtkadkmnolkkhgaaGreatDoorMb16
import Derived.Test.YtkadkmnolkkhgaaGreatDoorMb21
import Derived.Test.YtkadkmnolkkhgaaGreatDoorMb04
import Derived.Test.YtkadkmnolkkhgaaGreatDoorMb10
import Derived.Deep.DeepCutAuto
set_option linter.unusedVariables false
set_option linter.unusedSimpArgs false
namespace Go.Proofs.YtkadkmnolkkhgaaGreatDoor.Mw
open Go Go.RowKit Go.Maps Go.Shelf Keys Hp Mo
open Des (Vl Ds zeroV zeroD dcs dcs_size dcs_one accF rigF appF eqV)
open Arrs (En ecs)
open Rg
theorem eqV_run (a b:Vl) (w:World):(binOp .eql 30 (.agg (vcs a)) (.agg (vcs b))).run Tryz.prog w = .ok (.bool (a.k == b.k && (a.n == b.n && a.s.toList == b.s.toList))) w:=by
 have h:(Op.equalIn 10000 30 (.agg #[.int .i64 a.k,.int .i64 a.n,.string a.s]) (.agg #[.int .i64 b.k,.int .i64 b.n,.string b.s])).run Tryz.prog w = .ok (a.k == b.k && (a.n == b.n && a.s.toList == b.s.toList)) w:=by
  by_cases h1:a.k=b.k
  ·by_cases h2:a.n=b.n
   ·by_cases h3:a.s.toList=b.s.toList
    ·simp [go_sem,h1,h2,h3]
    ·simp [go_sem,h1,h2,h3]
   ·simp [go_sem,h1,h2]
  ·simp [go_sem,h1]
 simp only [binOp]
 simp [Op.equal,Op.maxDepth,vcs,h]
theorem eqV_bool (a b:Vl):(a.k == b.k && (a.n == b.n && a.s.toList == b.s.toList))=Des.eqV a b:=by
 cases h:Des.eqV a b
 ·cases h2:(a.k == b.k && (a.n == b.n && a.s.toList == b.s.toList))
  ·rfl
  ·exfalso
   simp only [Bool.and_eq_true,beq_iff_eq] at h2
   obtain ⟨h3,h4,h5⟩:=h2
   rw [ByteArray.toList_eq,ByteArray.toList_eq] at h5
   have:a=b:=by
    cases a;cases b
    simp only at h3 h4 h5
    subst h3 h4
    congr 1
    exact ByteArray.ext (Array.toList_inj.1 h5)
   rw [Des.eqV_iff.2 this] at h
   cases h
 ·rw [Des.eqV_iff.1 h]
  simp
theorem eqV_at (a b:Vl) (w:World):(binOp .eql 30 (.agg (vcs a)) (.agg (vcs b))).run Tryz.prog w = .ok (.bool (Des.eqV a b)) w:=by
 rw [eqV_run,eqV_bool]
def BsLL (ps:Array (Nat × Value)):Sem Value:=Instr.buildSlice 308 2 ps
theorem bsLL (ps:Array (Nat × Value)):Instr.buildSlice 308 2 ps=BsLL ps:=(rfl)
theorem infoLV:(Tryz.prog.info? 22).map (fun i=>(i.zero,i.size,i.bytes))=some (some (.slice none 0 0),1,24):=by kernel_rfl
theorem run_bsLL (w:World) (a1:Option Addr) (n1 c1:Nat) (a2:Option Addr) (n2 c2:Nat):(BsLL #[(0,.slice a1 n1 c1),(1,.slice a2 n2 c2)]).run Tryz.prog w = .ok (.slice (some ⟨w.heap.size,0,none⟩) 2 2) (w.alloc (.cells #[.slice a1 n1 c1,.slice a2 n2 c2] 22)):=by
 obtain ⟨i,hi,hz,hs,hb⟩:=info_parts infoLV
 exact run_buildSlice w 308 22 2 _ #[.slice a1 n1 c1,.slice a2 n2 c2] i (.slice none 0 0) Tryz.underlying308 hi hz (by rw [hs];decide) (by rw [hs];decide) (by rw [hs];kernel_rfl)
attribute [local go_sem ↓] ldR stR alR bxR bdR ldV stV alV bxV bdV ldA stA bxA bdA ldKy bxKy bdKy ldT stT alT bsLL
attribute [local irreducible] rcs dcs ecs vcs acs kcs xcs tcs
attribute [local go_sem] run_bx run_alR run_stRg run_bdA0 run_bdAk run_bdAkr run_bdAkvr run_bdAr run_bdAkd run_bdRz run_bdRd run_bdRk run_bdRf run_bdRo run_bdRs run_bdRt' run_bdKs run_alT run_alV
section
variable {X:Cx} {c:Nat} {M M' M'':Wm} {w w' w'':World} {A A' A'':Aw} {ls:List Lc} {kl:List (Value × List KV)} {ro:List Lc} {D:DoT}
structure BdI (X:Cx) (M:Wm) (xb:Nat) (o:Int) (x:Ob) (w1:World) (L:Array Bool) (x10 x11 x36 x37 x38 x39 x40 x41 x42 x43 x44 x45 x46:Value) (W:World):Prop where
 m1:Below w1.heap.size w1 W
 h0:L.getD 0 false=true→x37=ptr X.wb
 h1:L.getD 1 false=true→x38=ptr M.hb
 h2:L.getD 2 false=true→x39=ptr xb
 h3:L.getD 3 false=true→x40=ptr xb
 h4:L.getD 4 false=true→x41 = .pointer (some ⟨xb,0,none⟩)
 h5:L.getD 5 false=true→x42 = .pointer (some ⟨xb,0,none⟩)
 h6:L.getD 6 false=true→x43 = .int .i64 o
 h7:L.getD 7 false=true→∃ G,x44 = .tuple #[.agg (tcs G),.bool true]∧GetOk w1.heap.size W x G
 h8:L.getD 8 false=true→∃ G,x36 = .tuple #[.agg (tcs G),.bool true]∧GetOk w1.heap.size W x G
 h9:L.getD 9 false=true→∃ G,x45 = .agg (tcs G)∧GetOk w1.heap.size W x G
 h10:L.getD 10 false=true→x46 = .bool true
 h11:L.getD 11 false=true→∃ b,x10=ptr b∧w1.heap.size≤b∧∃ o,Blk W b (tcs o) 39
 h12:L.getD 12 false=true→∃ b G,x10=ptr b∧w1.heap.size≤b∧Blk W b (tcs G) 39∧GetOk w1.heap.size W x G
 h13:L.getD 13 false=true→x11 = .bool true
structure BdJ (X:Cx) (M:Wm) (xb N N9 sz n1 n2:Nat) (m:Int) (tg rv:Vl) (LL:List Vl) (ga:Option Addr) (gc:Nat) (ala:Option Addr) (alc:Nat) (Q1:Value→World→Prop) (Q2:World→Prop) (w1:World) (L:Array Bool) (x47 x48 x49 x50 x51 x52 x53 x54 x55 x56 x57 x58 x59 x60 x61 x62 x63:Value) (W:World):Prop where
 m1:L.getD 16 false=false→Below w1.heap.size w1 W
 h0:L.getD 0 false=true→x47=ptr X.wb
 h1:L.getD 1 false=true→x48 = .int .i64 m
 h2:L.getD 2 false=true→x49=ptr xb
 h3:L.getD 3 false=true→x50=ptr xb
 h4:L.getD 4 false=true→x51 = .pointer (some ⟨xb,0,none⟩)
 h5:L.getD 5 false=true→x52 = .pointer (some ⟨xb,1,none⟩)
 h6:L.getD 6 false=true→x53 = .pointer (some ⟨xb,12,none⟩)
 h7:L.getD 7 false=true→x54 = .agg (vcs tg)
 h8:L.getD 8 false=true→x55 = .agg (vcs rv)
 h9:L.getD 9 false=true→x56 = .pointer (some ⟨N,20,none⟩)
 h10:L.getD 10 false=true→x57 = .slice ga n1 gc
 h11:L.getD 11 false=true→x58 = .pointer (some ⟨sz,26,none⟩)
 h12:L.getD 12 false=true→x59 = .slice ala n2 alc
 h13:L.getD 13 false=true→(L.getD 16 false=false→∃ b,x60 = .slice (some ⟨b,0,none⟩) 2 2∧w1.heap.size≤b∧Blk W b #[.slice ga n1 gc,.slice ala n2 alc] 22)
 h14:L.getD 14 false=true→(L.getD 16 false=false→∃ v,x61=v∧W.ownsRow w1.heap.size 30 3 v LL.length (cellsV LL))
 h15:L.getD 15 false=true→(L.getD 16 false=false→∃ va vc,x62 = .agg (acs { zeroQ with r:=rv,l:=LL } (.slice va LL.length vc))∧VsOut (M.bl X.wb) W (.slice va LL.length vc) LL)
 h16:L.getD 16 false=true→(L.getD 17 false=false→Q1 x63 W)
 h17:L.getD 17 false=true→Q2 W
def BdQ1 (X:Cx) (c:Nat) (M:Wm) (w:World) (R:Rr × Aw) (ls ro:List Lc) (v:Value) (W:World):Prop:=∃ M3 kv3,v = .agg (rcs (R.1.mem kv3))∧Fm X (cr R.1 c) M w M3 W R.2 ls [(kv3,R.1.ks)] ro∧(R.1.mem kv3).good
def BdQ2 (X:Cx) (c:Nat) (M:Wm) (w:World) (R:Rr × Aw) (ls:Rr→Value→List Lc) (ro:List Lc) (W:World):Prop:=∃ M3 kv3,Fm X (cr R.1 c) M w M3 W R.2 (ls R.1 kv3) [(kv3,R.1.ks)] ro
set_option maxRecDepth 100000 in
set_option maxHeartbeats 4000000 in
theorem bind_any (HD:DoIs X D) (h:WIs X (c+2) M w A) (o:Int) {x:Ob} (hat:at? A o=some x) {T:TypeId} {xb:Nat} (hx:Blk w xb (xcs o x.th) T) (hxo:xb ∉ M.bl X.wb) (q:Aq) (ql:Value) (hl:VsOut (M.bl X.wb) w ql q.l) (hlen:q.l.length+100000≤lim X) (hlz:lim X≤1000000000) (m:Int) :
  Calls Tryz.prog 164 #[ptr X.wb,.int .i64 m,ptr xb,.agg (acs q ql)] w (Post X c M w (bindF D m o x.th q A)):=by
 obtain ⟨ala,alc,rfl,-⟩:=id hl
 obtain ⟨w1,hw1⟩:∃ w1,(w.alloc (.cells (acs q (.slice ala q.l.length alc)) 52)).alloc (.cells (rcs zeroR) 57)=w1:=⟨_,rfl⟩
 have F0:Fm X (c+2) M w M w1 A [⟨w.heap.size+1,rcs zeroR,57⟩,⟨w.heap.size,acs q (.slice ala q.l.length alc),52⟩] [] [⟨xb,xcs o x.th,T⟩]:=by
  rw [← hw1];exact (((Fm.start h).with hx hxo).new _ _).newg _ _ _ (by simp)
 have F0:=F0.less (c':=c+1) (by omega)
 have hfit:=h.fit hat
 have HFIT:=Lib.hid hfit
 have HGET:Hid (∀ {w':World},WIs X (c+1) M w' A→Calls Tryz.prog 20 #[ptr M.hb,.int .i64 o] w' fun e w2=>∃ G,e = .returned (.tuple #[.agg (tcs G),.bool true])∧GetOk w'.heap.size w2 x G∧Below w'.heap.size w' w2):=Lib.hid fun h'=>wGetR h' hat
 have lths:=x_ths F0.r0
 have s9:=stVn w1 x.th.ths zeroV
 unfold bindF
 rw [hat]
 simp only [Option.map_some,Option.getD_some]
 obtain ⟨rv,hrv⟩:∃ rv,(if m=13 then (if eqV q.r (objV o) then x.th.tg else q.r) else x.th.ths)=rv:=⟨_,rfl⟩
 rw [hrv]
 obtain ⟨LL,hLL⟩:∃ LL,x.vs++q.l=LL:=⟨_,rfl⟩
 rw [hLL]
 obtain ⟨R,hR⟩:∃ R,askF D m x.th.tg { zeroQ with r:=rv,l:=LL } A=R:=⟨_,rfl⟩
 rw [hR]
 have HR:=Lib.hid hR
 clear hR
 have HLL:=Lib.hid hLL
 have HL:=Lib.hid hl
 have HDD:=Lib.hid (show DoIs X D from HD)
 have HLN:=Lib.hid (show LL.length≤lim X by rw [← hLL,List.length_append];have:=hfit.2.2.2.2.2.1;omega)
 have HLZ:=Lib.hid (show x.vs.length+q.l.length≤1000000000 by have:=hfit.2.2.2.2.2.1;omega)
 have HF0:=Lib.hid F0
 clear F0 h hx hxo hat hl hlen hfit HD hlz hLL
 go_enter Tryz.func164,Tryz.ntmps164
 go_upto_if 19 with fail
 go_cut [9] from 12 to 35 (fun s wx=>∃ N9,s=ptr N9∧Fm X (c+1) M w M wx A (⟨N9,vcs (rv),30⟩ :: [⟨w.heap.size+1,rcs zeroR,57⟩,⟨w.heap.size,acs q (.slice ala q.l.length alc),52⟩]) [] [⟨xb,xcs o x.th,T⟩])
 case first =>
  by_cases hm:m=13
  ·rw [if_pos hm] at hrv
   subst hm
   obtain ⟨eb,heb⟩:∃ eb,eqV q.r (objV o)=eb:=⟨_,rfl⟩
   have eqf:∀ w,(binOp .eql 30 (.agg (vcs q.r)) (.agg (vcs ⟨6,o,⟨#[]⟩⟩))).run Tryz.prog w = .ok (.bool eb) w:=fun w=>heb ▸ eqV_at q.r (objV o) w
   rw [heb] at hrv
   have F1:=HF0.out.new (vcs x.th.ths) 30
   have lr1:=ask_r F1.l2.blk
   have s1:=run_stVp (v:=q.r) F1.l0.blk
   have F2:=F1.put (l:=[]) (vcs q.r) (show 30 ≠ 32 by decide)
   obtain ⟨w2,hw2⟩:∃ w2,(w1.alloc (.cells (vcs x.th.ths) 30)).setRow w1.heap.size (vcs q.r)=w2:=⟨_,rfl⟩
   rw [hw2] at s1
   have F2:Fm X (c+1) M w M w2 A (⟨w1.heap.size,vcs q.r,30⟩ :: [⟨w.heap.size+1,rcs zeroR,57⟩,⟨w.heap.size,acs q (.slice ala q.l.length alc),52⟩]) [] [⟨xb,xcs o x.th,T⟩]:=hw2 ▸ F2
   have FD:=F2.drew
   have lv2:=run_ldVp FD.l0.blk
   have xn2:=x_num FD.r0
   have HFD:=Lib.hid FD
   clear F1 F2 FD heb hw2
   go_upto_region 4 with fail
   go_cut [29] from 22 to 29 (fun s wx=>s = .bool eb∧Fm X (c+1) M w M wx A (⟨w1.heap.size,vcs q.r,30⟩ :: [⟨w.heap.size+1,rcs zeroR,57⟩,⟨w.heap.size,acs q (.slice ala q.l.length alc),52⟩]) [] [⟨xb,xcs o x.th,T⟩])
   case first =>
    go_region_with (go_at_call 117;(with_reducible refine (objv_any o _).mono ?_);rintro e w3 ⟨rfl,hb⟩;have F3:=HFD.out.call hb;have lv3:=run_ldVp F3.l0.blk;have HF3:=Lib.hid F3;clear hb F3)
    all_goals (go_wp2_with fail;go_meet;exact ⟨rfl,HF3.out⟩)
   case rest =>
   obtain ⟨rfl,F3⟩:=hcut
   cases eb
   ·simp only [Bool.false_eq_true,if_false] at hrv
    subst hrv
    have HF3:=Lib.hid F3
    clear F3
    go_wp2_with fail
    go_meet
    exact ⟨_,rfl,HF3.out⟩
   ·simp only [if_true] at hrv
    subst hrv
    have ltg:=x_tg F3.r0
    have s3:=run_stVp (v:=x.th.tg) F3.l0.blk
    have HF3:=Lib.hid (F3.put (l:=[]) (vcs x.th.tg) (show 30 ≠ 32 by decide))
    clear F3
    go_wp2_with fail
    go_meet
    exact ⟨_,rfl,HF3.out⟩
  ·have d13:(m == 13)=false:=by simp [hm]
   rw [if_neg hm] at hrv
   subst hrv
   have HM:=Lib.hid hm
   clear hm
   go_wp2_with fail
   go_meet
   exact ⟨_,rfl,HF0.out.new _ _⟩
 case rest =>
 obtain ⟨N9,rfl,F4⟩:=hcut
 have HF4:=Lib.hid F4
 clear F4 HF0 lths s9
 go_upto_region 6 with fail
 go_cut [10,11] from 36 to 46 (fun s1 s2 wx2=>ThAt X (c+1) M w M A x wc.drew.heap.size (⟨N9,vcs (rv),30⟩ :: [⟨w.heap.size+1,rcs zeroR,57⟩,⟨w.heap.size,acs q (.slice ala q.l.length alc),52⟩]) [] [⟨xb,xcs o x.th,T⟩] s1 s2 wx2)
 case first =>
  have hwis:=HF4.out.drew.wis
  have hxb:=HF4.out.drew.r0
  refine region_inv (by kernel_rfl) (fun L a W=>∃ x10 x11 x36 x37 x38 x39 x40 x41 x42 x43 x44 x45 x46:Value,a={ tmps:=#[ptr X.wb,.int .i64 m,ptr xb,.agg (acs q (.slice ala q.l.length alc)),undef,undef,undef,ptr w.heap.size,ptr (w.heap.size+1),ptr N9,x10,x11,u12,u13,u14,u15,u16,u17,u18,u19,u20,u21,u22,u23,u24,u25,u26,u27,u28,u29,u30,u31,u32,u33,u34,u35,x36,x37,x38,x39,x40,x41,x42,x43,x44,x45,x46,undef,undef,undef,undef,undef,undef,undef,undef,undef,undef,undef,undef,undef,undef,undef,undef,undef],defers:=[] }∧BdI X M xb o x wc.drew L x10 x11 x36 x37 x38 x39 x40 x41 x42 x43 x44 x45 x46 W) (by kernel_rfl) ?start ?step ?done
  case start=>exact ⟨_,_,_,_,_,_,_,_,_,_,_,_,_,rfl,⟨Below.refl _ _,fun h=>by simp [Array.getD_eq_getD_getElem?] at h,fun h=>by simp [Array.getD_eq_getD_getElem?] at h,fun h=>by simp [Array.getD_eq_getD_getElem?] at h,fun h=>by simp [Array.getD_eq_getD_getElem?] at h,fun h=>by simp [Array.getD_eq_getD_getElem?] at h,fun h=>by simp [Array.getD_eq_getD_getElem?] at h,fun h=>by simp [Array.getD_eq_getD_getElem?] at h,fun h=>by simp [Array.getD_eq_getD_getElem?] at h,fun h=>by simp [Array.getD_eq_getD_getElem?] at h,fun h=>by simp [Array.getD_eq_getD_getElem?] at h,fun h=>by simp [Array.getD_eq_getD_getElem?] at h,fun h=>by simp [Array.getD_eq_getD_getElem?] at h,fun h=>by simp [Array.getD_eq_getD_getElem?] at h,fun h=>by simp [Array.getD_eq_getD_getElem?] at h⟩⟩
  case step =>
   intro i L a W hi hdep hL hs hcl hI
   have hi2:i < 14:=by simpa using hi
   obtain ⟨x10,x11,x36,x37,x38,x39,x40,x41,x42,x43,x44,x45,x46,rfl,H⟩:=hI
   have ol:∀ j,i ≠ j→(L.setIfInBounds i true).getD j false=true→L.getD j false=true:=fun j hj h=>by rwa [getD_set hj] at h
   rcases (by omega:i=0∨i=1∨i=2∨i=3∨i=4∨i=5∨i=6∨i=7∨i=8∨i=9∨i=10∨i=11∨i=12∨i=13) with rfl |rfl |rfl |rfl |rfl |rfl |rfl |rfl |rfl |rfl |rfl |rfl |rfl |rfl
   ·clear hi hi2
    exact step_run (i:=0) (w':=W) (v:=ptr X.wb) rfl rfl (by simp [execOp,Act.eval,go_sem]) ⟨_,_,_,_,_,_,_,_,_,_,_,_,_,rfl,⟨(H.m1),(fun _=>rfl),(H.h1∘ol 1 nofun),(H.h2∘ol 2 nofun),(H.h3∘ol 3 nofun),(H.h4∘ol 4 nofun),(H.h5∘ol 5 nofun),(H.h6∘ol 6 nofun),(H.h7∘ol 7 nofun),(H.h8∘ol 8 nofun),(H.h9∘ol 9 nofun),(H.h10∘ol 10 nofun),(H.h11∘ol 11 nofun),(H.h12∘ol 12 nofun),(H.h13∘ol 13 nofun)⟩⟩
   ·clear hi hi2
    have e37:=H.h0 (hdep 0 (memOf (by kernel_rfl)))
    subst e37
    refine step_call (i:=1) (f:=100) (args:=#[ptr X.wb]) rfl rfl (by simp [execOp,Act.eval,go_sem]) (stW (hwis.call H.m1)) ?_
    rintro e W2 ⟨rfl,hq⟩
    subst hq
    exact ⟨_,rfl,⟨_,_,_,_,_,_,_,_,_,_,_,_,_,rfl,⟨(H.m1),(H.h0∘ol 0 nofun),(fun _=>rfl),(H.h2∘ol 2 nofun),(H.h3∘ol 3 nofun),(H.h4∘ol 4 nofun),(H.h5∘ol 5 nofun),(H.h6∘ol 6 nofun),(H.h7∘ol 7 nofun),(H.h8∘ol 8 nofun),(H.h9∘ol 9 nofun),(H.h10∘ol 10 nofun),(H.h11∘ol 11 nofun),(H.h12∘ol 12 nofun),(H.h13∘ol 13 nofun)⟩⟩⟩
   ·clear hi hi2
    exact step_run (i:=2) (w':=W) (v:=ptr xb) rfl rfl (by simp [execOp,Act.eval,go_sem]) ⟨_,_,_,_,_,_,_,_,_,_,_,_,_,rfl,⟨(H.m1),(H.h0∘ol 0 nofun),(H.h1∘ol 1 nofun),(fun _=>rfl),(H.h3∘ol 3 nofun),(H.h4∘ol 4 nofun),(H.h5∘ol 5 nofun),(H.h6∘ol 6 nofun),(H.h7∘ol 7 nofun),(H.h8∘ol 8 nofun),(H.h9∘ol 9 nofun),(H.h10∘ol 10 nofun),(H.h11∘ol 11 nofun),(H.h12∘ol 12 nofun),(H.h13∘ol 13 nofun)⟩⟩
   ·clear hi hi2
    have e39:=H.h2 (hdep 2 (memOf (by kernel_rfl)))
    subst e39
    exact step_run (i:=3) (w':=W) (v:=ptr xb) rfl rfl (by simp [execOp,Act.eval,go_sem]) ⟨_,_,_,_,_,_,_,_,_,_,_,_,_,rfl,⟨(H.m1),(H.h0∘ol 0 nofun),(H.h1∘ol 1 nofun),(H.h2∘ol 2 nofun),(fun _=>rfl),(H.h4∘ol 4 nofun),(H.h5∘ol 5 nofun),(H.h6∘ol 6 nofun),(H.h7∘ol 7 nofun),(H.h8∘ol 8 nofun),(H.h9∘ol 9 nofun),(H.h10∘ol 10 nofun),(H.h11∘ol 11 nofun),(H.h12∘ol 12 nofun),(H.h13∘ol 13 nofun)⟩⟩
   ·clear hi hi2
    have e40:=H.h3 (hdep 3 (memOf (by kernel_rfl)))
    subst e40
    exact step_run (i:=4) (w':=W) (v:=.pointer (some ⟨xb,0,none⟩)) rfl rfl (by simp [execOp,Act.eval,go_sem]) ⟨_,_,_,_,_,_,_,_,_,_,_,_,_,rfl,⟨(H.m1),(H.h0∘ol 0 nofun),(H.h1∘ol 1 nofun),(H.h2∘ol 2 nofun),(H.h3∘ol 3 nofun),(fun _=>rfl),(H.h5∘ol 5 nofun),(H.h6∘ol 6 nofun),(H.h7∘ol 7 nofun),(H.h8∘ol 8 nofun),(H.h9∘ol 9 nofun),(H.h10∘ol 10 nofun),(H.h11∘ol 11 nofun),(H.h12∘ol 12 nofun),(H.h13∘ol 13 nofun)⟩⟩
   ·clear hi hi2
    have e41:=H.h4 (hdep 4 (memOf (by kernel_rfl)))
    subst e41
    exact step_run (i:=5) (w':=W) (v:=.pointer (some ⟨xb,0,none⟩)) rfl rfl (by simp [execOp,Act.eval,go_sem]) ⟨_,_,_,_,_,_,_,_,_,_,_,_,_,rfl,⟨(H.m1),(H.h0∘ol 0 nofun),(H.h1∘ol 1 nofun),(H.h2∘ol 2 nofun),(H.h3∘ol 3 nofun),(H.h4∘ol 4 nofun),(fun _=>rfl),(H.h6∘ol 6 nofun),(H.h7∘ol 7 nofun),(H.h8∘ol 8 nofun),(H.h9∘ol 9 nofun),(H.h10∘ol 10 nofun),(H.h11∘ol 11 nofun),(H.h12∘ol 12 nofun),(H.h13∘ol 13 nofun)⟩⟩
   ·clear hi hi2
    have e42:=H.h5 (hdep 5 (memOf (by kernel_rfl)))
    subst e42
    have cq:=x_num (hxb.call H.m1)
    exact step_run (i:=6) (w':=W) (v:=.int .i64 o) rfl rfl (by simp [execOp,Act.eval,go_sem,cq]) ⟨_,_,_,_,_,_,_,_,_,_,_,_,_,rfl,⟨(H.m1),(H.h0∘ol 0 nofun),(H.h1∘ol 1 nofun),(H.h2∘ol 2 nofun),(H.h3∘ol 3 nofun),(H.h4∘ol 4 nofun),(H.h5∘ol 5 nofun),(fun _=>rfl),(H.h7∘ol 7 nofun),(H.h8∘ol 8 nofun),(H.h9∘ol 9 nofun),(H.h10∘ol 10 nofun),(H.h11∘ol 11 nofun),(H.h12∘ol 12 nofun),(H.h13∘ol 13 nofun)⟩⟩
   ·clear hi hi2
    have e38:=H.h1 (hdep 1 (memOf (by kernel_rfl)))
    have e43:=H.h6 (hdep 6 (memOf (by kernel_rfl)))
    subst e38
    subst e43
    refine step_call (i:=7) (f:=20) (args:=#[ptr M.hb,.int .i64 o]) rfl rfl (by simp [execOp,Act.eval,go_sem]) (HGET.out (hwis.call H.m1)) ?_
    rintro e W2 ⟨G,rfl,hG,hb⟩
    exact ⟨_,rfl,⟨_,_,_,_,_,_,_,_,_,_,_,_,_,rfl,⟨(H.m1.trans (hb.mono H.m1.size)),(H.h0∘ol 0 nofun),(H.h1∘ol 1 nofun),(H.h2∘ol 2 nofun),(H.h3∘ol 3 nofun),(H.h4∘ol 4 nofun),(H.h5∘ol 5 nofun),(H.h6∘ol 6 nofun),(fun _=>⟨G,rfl,hG.mono H.m1.size⟩),(fun h=>let ⟨G,q1,q2⟩:=H.h8 (ol 8 (by decide) h);⟨G,q1,q2.call hb⟩),(fun h=>let ⟨G,q1,q2⟩:=H.h9 (ol 9 (by decide) h);⟨G,q1,q2.call hb⟩),(H.h10∘ol 10 nofun),(fun h=>let ⟨g,q1,q2,o,q3⟩:=H.h11 (ol 11 (by decide) h);⟨g,q1,q2,o,q3.call hb⟩),(fun h=>let ⟨g,G,q1,q2,q3,q4⟩:=H.h12 (ol 12 (by decide) h);⟨g,G,q1,q2,q3.call hb,q4.call hb⟩),(H.h13∘ol 13 nofun)⟩⟩⟩
   ·clear hi hi2
    have e44:=H.h7 (hdep 7 (memOf (by kernel_rfl)))
    obtain ⟨G,rfl,hG⟩:=e44
    exact step_run (i:=8) (w':=W) (v:=.tuple #[.agg (tcs G),.bool true]) rfl rfl (by simp [execOp,Act.eval,go_sem]) ⟨_,_,_,_,_,_,_,_,_,_,_,_,_,rfl,⟨(H.m1),(H.h0∘ol 0 nofun),(H.h1∘ol 1 nofun),(H.h2∘ol 2 nofun),(H.h3∘ol 3 nofun),(H.h4∘ol 4 nofun),(H.h5∘ol 5 nofun),(H.h6∘ol 6 nofun),(H.h7∘ol 7 nofun),(fun _=>⟨G,rfl,hG⟩),(H.h9∘ol 9 nofun),(H.h10∘ol 10 nofun),(H.h11∘ol 11 nofun),(H.h12∘ol 12 nofun),(H.h13∘ol 13 nofun)⟩⟩
   ·clear hi hi2
    have e36:=H.h8 (hdep 8 (memOf (by kernel_rfl)))
    obtain ⟨G,rfl,hG⟩:=e36
    exact step_run (i:=9) (w':=W) (v:=.agg (tcs G)) rfl rfl (by simp [execOp,Act.eval,go_sem]) ⟨_,_,_,_,_,_,_,_,_,_,_,_,_,rfl,⟨(H.m1),(H.h0∘ol 0 nofun),(H.h1∘ol 1 nofun),(H.h2∘ol 2 nofun),(H.h3∘ol 3 nofun),(H.h4∘ol 4 nofun),(H.h5∘ol 5 nofun),(H.h6∘ol 6 nofun),(H.h7∘ol 7 nofun),(H.h8∘ol 8 nofun),(fun _=>⟨G,rfl,hG⟩),(H.h10∘ol 10 nofun),(H.h11∘ol 11 nofun),(H.h12∘ol 12 nofun),(H.h13∘ol 13 nofun)⟩⟩
   ·clear hi hi2
    have e36:=H.h8 (hdep 8 (memOf (by kernel_rfl)))
    obtain ⟨G,rfl,hG⟩:=e36
    exact step_run (i:=10) (w':=W) (v:=.bool true) rfl rfl (by simp [execOp,Act.eval,go_sem]) ⟨_,_,_,_,_,_,_,_,_,_,_,_,_,rfl,⟨(H.m1),(H.h0∘ol 0 nofun),(H.h1∘ol 1 nofun),(H.h2∘ol 2 nofun),(H.h3∘ol 3 nofun),(H.h4∘ol 4 nofun),(H.h5∘ol 5 nofun),(H.h6∘ol 6 nofun),(H.h7∘ol 7 nofun),(H.h8∘ol 8 nofun),(H.h9∘ol 9 nofun),(fun _=>rfl),(H.h11∘ol 11 nofun),(H.h12∘ol 12 nofun),(H.h13∘ol 13 nofun)⟩⟩
   ·clear hi hi2
    have hb:Below W.heap.size W (W.alloc (.cells (tcs zeroT) 39)):=(Below.refl _ W).alloc (Nat.le_refl _) _
    exact step_run (i:=11) (w':=(W.alloc (.cells (tcs zeroT) 39))) (v:=ptr W.heap.size) rfl rfl (by simp [execOp,Act.eval,go_sem]) ⟨_,_,_,_,_,_,_,_,_,_,_,_,_,rfl,⟨(H.m1.trans (hb.mono H.m1.size)),(H.h0∘ol 0 nofun),(H.h1∘ol 1 nofun),(H.h2∘ol 2 nofun),(H.h3∘ol 3 nofun),(H.h4∘ol 4 nofun),(H.h5∘ol 5 nofun),(H.h6∘ol 6 nofun),(fun h=>let ⟨G,q1,q2⟩:=H.h7 (ol 7 (by decide) h);⟨G,q1,q2.call hb⟩),(fun h=>let ⟨G,q1,q2⟩:=H.h8 (ol 8 (by decide) h);⟨G,q1,q2.call hb⟩),(fun h=>let ⟨G,q1,q2⟩:=H.h9 (ol 9 (by decide) h);⟨G,q1,q2.call hb⟩),(H.h10∘ol 10 nofun),(fun _=>⟨_,rfl,H.m1.size,_,Blk.new W _ _⟩),(fun h=>(not_yet hL (hcl 12 (by simp) (ol 12 (by decide) h) 11 (memOf (by kernel_rfl)))).elim),(H.h13∘ol 13 nofun)⟩⟩
   ·clear hi hi2
    have e45:=H.h9 (hdep 9 (memOf (by kernel_rfl)))
    have e10:=H.h11 (hdep 11 (memOf (by kernel_rfl)))
    obtain ⟨G,rfl,hG⟩:=e45
    obtain ⟨b,rfl,hb1,o2,hb2⟩:=e10
    have sv:=run_stTk hb2 hG.ok
    exact step_sk (i:=12) (w':=(W.setRow b (tcs G))) rfl rfl (by simp [execOp,Act.eval,go_sem,sv]) ⟨_,_,_,_,_,_,_,_,_,_,_,_,_,rfl,⟨(below_rowW H.m1 _ hb1),(H.h0∘ol 0 nofun),(H.h1∘ol 1 nofun),(H.h2∘ol 2 nofun),(H.h3∘ol 3 nofun),(H.h4∘ol 4 nofun),(H.h5∘ol 5 nofun),(H.h6∘ol 6 nofun),(fun h=>let ⟨G,q1,q2⟩:=H.h7 (ol 7 (by decide) h);⟨G,q1,q2.row hb2 (by decide) (by decide) _⟩),(fun h=>let ⟨G,q1,q2⟩:=H.h8 (ol 8 (by decide) h);⟨G,q1,q2.row hb2 (by decide) (by decide) _⟩),(fun h=>let ⟨G,q1,q2⟩:=H.h9 (ol 9 (by decide) h);⟨G,q1,q2.row hb2 (by decide) (by decide) _⟩),(H.h10∘ol 10 nofun),(fun _=>⟨b,rfl,hb1,_,hb2.row _⟩),(fun _=>⟨b,G,rfl,hb1,hb2.row _,hG.row hb2 (by decide) (by decide) _⟩),(H.h13∘ol 13 nofun)⟩⟩
   ·clear hi hi2
    have e46:=H.h10 (hdep 10 (memOf (by kernel_rfl)))
    subst e46
    exact step_run (i:=13) (w':=W) (v:=.bool true) rfl rfl (by simp [execOp,Act.eval,go_sem]) ⟨_,_,_,_,_,_,_,_,_,_,_,_,_,rfl,⟨(H.m1),(H.h0∘ol 0 nofun),(H.h1∘ol 1 nofun),(H.h2∘ol 2 nofun),(H.h3∘ol 3 nofun),(H.h4∘ol 4 nofun),(H.h5∘ol 5 nofun),(H.h6∘ol 6 nofun),(H.h7∘ol 7 nofun),(H.h8∘ol 8 nofun),(H.h9∘ol 9 nofun),(H.h10∘ol 10 nofun),(H.h11∘ol 11 nofun),(H.h12∘ol 12 nofun),(fun _=>rfl)⟩⟩
  case done =>
   rintro L a W hall ⟨x10,x11,x36,x37,x38,x39,x40,x41,x42,x43,x44,x45,x46,rfl,H⟩
   obtain ⟨bL,G,eL,hbL,BL,hG⟩:=H.h12 (hall 12 (by simp))
   have eM:=H.h13 (hall 13 (by simp))
   subst eL eM
   have HQ:=Lib.hid (show ThAt X (c+1) M w M A x wc.drew.heap.size (⟨N9,vcs (rv),30⟩ :: [⟨w.heap.size+1,rcs zeroR,57⟩,⟨w.heap.size,acs q (.slice ala q.l.length alc),52⟩]) [] [⟨xb,xcs o x.th,T⟩] (ptr bL) (.bool true) W from ⟨bL,G,rfl,rfl,hG,HF4.out.drew.growW H.m1 BL hbL⟩)
   clear H hwis hxb BL hbL hall hG
   go_wp2_with fail
   go_meet
   exact HQ.out
 case rest =>
 rename World=>wd
 obtain ⟨N,G,rfl,rfl,hG,F5⟩:=hcut
 obtain ⟨ga,gc,hga⟩:=own_vs hG.r2
 have FD:=F5.drew
 have hR:=HR.out
 have hwis:=FD.wis
 have hxb:=FD.r0
 have hN:=FD.l0.blk
 have hN9:=FD.l1.blk
 have hAQ:=FD.l3.blk
 have HFZ:=Lib.hid (show Fine zeroK from ⟨by decide,by decide,by decide⟩)
 have hv1:VsOut (M.bl X.wb) wd.drew (.slice ga x.vs.length gc) x.vs:=by
  have h1:=hG.args HF4.out.wis (Nat.le_refl _)
  rw [hga] at h1
  exact h1.nx (Nx.of_below (Below.refl _ _).drew)
 have hv2:VsOut (M.bl X.wb) wd.drew (.slice ala q.l.length alc) q.l:=HL.out.nx FD.nx
 have HCC:Hid (∀ {W:World} {b:Nat},Below wd.drew.heap.size wd.drew W→Blk W b #[.slice ga x.vs.length gc,.slice ala q.l.length alc] 22→Calls Tryz.prog 193 #[.slice (some ⟨b,0,none⟩) 2 2] W fun e w'=>∃ v,e = .returned v∧w'.ownsRow W.heap.size 30 3 v LL.length (cellsV LL)∧Below W.heap.size W w'):=Lib.hid fun hB hb=>by
  have hcc:=concat_any (hv1.nx (Nx.of_below hB)) (hv2.nx (Nx.of_below hB)) hb.lt (hb.cell 0) (hb.cell 1) HLZ.out
  rw [HLL.out] at hcc
  exact hcc
 have HASK:Hid (∀ {W:World} {va:Option Addr} {vc:Nat},Below wd.drew.heap.size wd.drew W→VsOut (M.bl X.wb) W (.slice va LL.length vc) LL→Calls Tryz.prog 118 #[ptr X.wb,.int .i64 m,.agg (vcs x.th.tg),.agg (acs { zeroQ with r:=rv,l:=LL } (.slice va LL.length vc))] W fun e w'=>∃ v,e = .returned v∧BdQ1 X c M w R (⟨N,tcs G,39⟩ :: (⟨N9,vcs (rv),30⟩ :: [⟨w.heap.size+1,rcs zeroR,57⟩,⟨w.heap.size,acs q (.slice ala q.l.length alc),52⟩])) [⟨xb,xcs o x.th,T⟩] v w'):=Lib.hid fun hB hvs=>by
  have F2:=FD.call hB
  have hask:=ask_any HDD.out F2.wis m x.th.tg { zeroQ with r:=rv,l:=LL } _ HFZ.out hvs HLN.out
  rw [hR] at hask
  refine hask.mono ?_
  rintro e w3 ⟨M3,kv3,rfl,hks,hM,hn⟩
  exact ⟨_,rfl,M3,kv3,rfl,F2.post hks hM hn,Rr.good _ hks⟩
 clear FD hR hv1 hv2
 go_upto_region 7 with fail
 refine region_inv (by kernel_rfl) (fun L a W=>∃ x47 x48 x49 x50 x51 x52 x53 x54 x55 x56 x57 x58 x59 x60 x61 x62 x63:Value,a={ tmps:=#[ptr X.wb,.int .i64 m,ptr xb,.agg (acs q (.slice ala q.l.length alc)),undef,undef,undef,ptr w.heap.size,ptr (w.heap.size+1),ptr N9,ptr N,.bool true,u12,u13,u14,u15,u16,u17,u18,u19,u20,u21,u22,u23,u24,u25,u26,u27,u28,u29,u30,u31,u32,u33,u34,u35,u36,u37,u38,u39,u40,u41,u42,u43,u44,u45,u46,x47,x48,x49,x50,x51,x52,x53,x54,x55,x56,x57,x58,x59,x60,x61,x62,x63],defers:=[] }∧BdJ X M xb N N9 w.heap.size x.vs.length q.l.length m x.th.tg rv LL ga gc ala alc (BdQ1 X c M w R (⟨N,tcs G,39⟩ :: (⟨N9,vcs (rv),30⟩ :: [⟨w.heap.size+1,rcs zeroR,57⟩,⟨w.heap.size,acs q (.slice ala q.l.length alc),52⟩])) [⟨xb,xcs o x.th,T⟩]) (BdQ2 X c M w R (fun r kv=>[⟨N,tcs G,39⟩,⟨N9,vcs rv,30⟩,⟨w.heap.size+1,rcs (r.mem kv),57⟩,⟨w.heap.size,acs q (.slice ala q.l.length alc),52⟩]) [⟨xb,xcs o x.th,T⟩]) wd.drew L x47 x48 x49 x50 x51 x52 x53 x54 x55 x56 x57 x58 x59 x60 x61 x62 x63 W) (by kernel_rfl) ?start ?step ?done
 case start=>exact ⟨_,_,_,_,_,_,_,_,_,_,_,_,_,_,_,_,_,rfl,⟨fun _=>Below.refl _ _,fun h=>by simp [Array.getD_eq_getD_getElem?] at h,fun h=>by simp [Array.getD_eq_getD_getElem?] at h,fun h=>by simp [Array.getD_eq_getD_getElem?] at h,fun h=>by simp [Array.getD_eq_getD_getElem?] at h,fun h=>by simp [Array.getD_eq_getD_getElem?] at h,fun h=>by simp [Array.getD_eq_getD_getElem?] at h,fun h=>by simp [Array.getD_eq_getD_getElem?] at h,fun h=>by simp [Array.getD_eq_getD_getElem?] at h,fun h=>by simp [Array.getD_eq_getD_getElem?] at h,fun h=>by simp [Array.getD_eq_getD_getElem?] at h,fun h=>by simp [Array.getD_eq_getD_getElem?] at h,fun h=>by simp [Array.getD_eq_getD_getElem?] at h,fun h=>by simp [Array.getD_eq_getD_getElem?] at h,fun h=>by simp [Array.getD_eq_getD_getElem?] at h,fun h=>by simp [Array.getD_eq_getD_getElem?] at h,fun h=>by simp [Array.getD_eq_getD_getElem?] at h,fun h=>by simp [Array.getD_eq_getD_getElem?] at h,fun h=>by simp [Array.getD_eq_getD_getElem?] at h⟩⟩
 case step =>
  intro i L a W hi hdep hL hs hcl hI
  have hi2:i < 18:=by simpa using hi
  obtain ⟨x47,x48,x49,x50,x51,x52,x53,x54,x55,x56,x57,x58,x59,x60,x61,x62,x63,rfl,H⟩:=hI
  have ol:∀ j,i ≠ j→(L.setIfInBounds i true).getD j false=true→L.getD j false=true:=fun j hj h=>by rwa [getD_set hj] at h
  rcases (by omega:i=0∨i=1∨i=2∨i=3∨i=4∨i=5∨i=6∨i=7∨i=8∨i=9∨i=10∨i=11∨i=12∨i=13∨i=14∨i=15∨i=16∨i=17) with rfl |rfl |rfl |rfl |rfl |rfl |rfl |rfl |rfl |rfl |rfl |rfl |rfl |rfl |rfl |rfl |rfl |rfl
  ·clear hi hi2
   have hP:L.getD 16 false=false:=by
    cases hh:L.getD 16 false
    ·rfl
    ·exact (not_yet hL (hcl 16 (by simp) hh 0 (memOf (by kernel_rfl)))).elim
   have hB:=H.m1 hP
   have ol7:(L.setIfInBounds 0 true).getD 16 false=false→L.getD 16 false=false:=fun h=>by rwa [getD_set (by decide)] at h
   exact step_run (i:=0) (w':=W) (v:=ptr X.wb) rfl rfl (by simp [execOp,Act.eval,go_sem]) ⟨_,_,_,_,_,_,_,_,_,_,_,_,_,_,_,_,_,rfl,⟨(fun h=>H.m1 (ol7 h)),(fun _=>rfl),(H.h1∘ol 1 nofun),(H.h2∘ol 2 nofun),(H.h3∘ol 3 nofun),(H.h4∘ol 4 nofun),(H.h5∘ol 5 nofun),(H.h6∘ol 6 nofun),(H.h7∘ol 7 nofun),(H.h8∘ol 8 nofun),(H.h9∘ol 9 nofun),(H.h10∘ol 10 nofun),(H.h11∘ol 11 nofun),(H.h12∘ol 12 nofun),(fun h h7=>H.h13 (ol 13 (by decide) h) (ol7 h7)),(fun h h7=>H.h14 (ol 14 (by decide) h) (ol7 h7)),(fun h h7=>H.h15 (ol 15 (by decide) h) (ol7 h7)),(fun h=>by have h2:=ol 16 (by decide) h;rw [hP] at h2;cases h2),(fun h=>by have h2:=hcl 17 (by simp) (ol 17 (by decide) h) 16 (memOf (by kernel_rfl));rw [hP] at h2;cases h2)⟩⟩
  ·clear hi hi2
   have hP:L.getD 16 false=false:=by
    cases hh:L.getD 16 false
    ·rfl
    ·exact (not_yet hL (hcl 16 (by simp) hh 1 (memOf (by kernel_rfl)))).elim
   have hB:=H.m1 hP
   have ol7:(L.setIfInBounds 1 true).getD 16 false=false→L.getD 16 false=false:=fun h=>by rwa [getD_set (by decide)] at h
   exact step_run (i:=1) (w':=W) (v:=.int .i64 m) rfl rfl (by simp [execOp,Act.eval,go_sem]) ⟨_,_,_,_,_,_,_,_,_,_,_,_,_,_,_,_,_,rfl,⟨(fun h=>H.m1 (ol7 h)),(H.h0∘ol 0 nofun),(fun _=>rfl),(H.h2∘ol 2 nofun),(H.h3∘ol 3 nofun),(H.h4∘ol 4 nofun),(H.h5∘ol 5 nofun),(H.h6∘ol 6 nofun),(H.h7∘ol 7 nofun),(H.h8∘ol 8 nofun),(H.h9∘ol 9 nofun),(H.h10∘ol 10 nofun),(H.h11∘ol 11 nofun),(H.h12∘ol 12 nofun),(fun h h7=>H.h13 (ol 13 (by decide) h) (ol7 h7)),(fun h h7=>H.h14 (ol 14 (by decide) h) (ol7 h7)),(fun h h7=>H.h15 (ol 15 (by decide) h) (ol7 h7)),(fun h=>by have h2:=ol 16 (by decide) h;rw [hP] at h2;cases h2),(fun h=>by have h2:=hcl 17 (by simp) (ol 17 (by decide) h) 16 (memOf (by kernel_rfl));rw [hP] at h2;cases h2)⟩⟩
  ·clear hi hi2
   have hP:L.getD 16 false=false:=by
    cases hh:L.getD 16 false
    ·rfl
    ·exact (not_yet hL (hcl 3 (by simp) (hcl 4 (by simp) (hcl 5 (by simp) (hcl 6 (by simp) (hcl 7 (by simp) (hcl 16 (by simp) hh 7 (memOf (by kernel_rfl))) 6 (memOf (by kernel_rfl))) 5 (memOf (by kernel_rfl))) 4 (memOf (by kernel_rfl))) 3 (memOf (by kernel_rfl))) 2 (memOf (by kernel_rfl)))).elim
   have hB:=H.m1 hP
   have ol7:(L.setIfInBounds 2 true).getD 16 false=false→L.getD 16 false=false:=fun h=>by rwa [getD_set (by decide)] at h
   exact step_run (i:=2) (w':=W) (v:=ptr xb) rfl rfl (by simp [execOp,Act.eval,go_sem]) ⟨_,_,_,_,_,_,_,_,_,_,_,_,_,_,_,_,_,rfl,⟨(fun h=>H.m1 (ol7 h)),(H.h0∘ol 0 nofun),(H.h1∘ol 1 nofun),(fun _=>rfl),(H.h3∘ol 3 nofun),(H.h4∘ol 4 nofun),(H.h5∘ol 5 nofun),(H.h6∘ol 6 nofun),(H.h7∘ol 7 nofun),(H.h8∘ol 8 nofun),(H.h9∘ol 9 nofun),(H.h10∘ol 10 nofun),(H.h11∘ol 11 nofun),(H.h12∘ol 12 nofun),(fun h h7=>H.h13 (ol 13 (by decide) h) (ol7 h7)),(fun h h7=>H.h14 (ol 14 (by decide) h) (ol7 h7)),(fun h h7=>H.h15 (ol 15 (by decide) h) (ol7 h7)),(fun h=>by have h2:=ol 16 (by decide) h;rw [hP] at h2;cases h2),(fun h=>by have h2:=hcl 17 (by simp) (ol 17 (by decide) h) 16 (memOf (by kernel_rfl));rw [hP] at h2;cases h2)⟩⟩
  ·clear hi hi2
   have e49:=H.h2 (hdep 2 (memOf (by kernel_rfl)))
   subst e49
   have hP:L.getD 16 false=false:=by
    cases hh:L.getD 16 false
    ·rfl
    ·exact (not_yet hL (hcl 4 (by simp) (hcl 5 (by simp) (hcl 6 (by simp) (hcl 7 (by simp) (hcl 16 (by simp) hh 7 (memOf (by kernel_rfl))) 6 (memOf (by kernel_rfl))) 5 (memOf (by kernel_rfl))) 4 (memOf (by kernel_rfl))) 3 (memOf (by kernel_rfl)))).elim
   have hB:=H.m1 hP
   have ol7:(L.setIfInBounds 3 true).getD 16 false=false→L.getD 16 false=false:=fun h=>by rwa [getD_set (by decide)] at h
   exact step_run (i:=3) (w':=W) (v:=ptr xb) rfl rfl (by simp [execOp,Act.eval,go_sem]) ⟨_,_,_,_,_,_,_,_,_,_,_,_,_,_,_,_,_,rfl,⟨(fun h=>H.m1 (ol7 h)),(H.h0∘ol 0 nofun),(H.h1∘ol 1 nofun),(H.h2∘ol 2 nofun),(fun _=>rfl),(H.h4∘ol 4 nofun),(H.h5∘ol 5 nofun),(H.h6∘ol 6 nofun),(H.h7∘ol 7 nofun),(H.h8∘ol 8 nofun),(H.h9∘ol 9 nofun),(H.h10∘ol 10 nofun),(H.h11∘ol 11 nofun),(H.h12∘ol 12 nofun),(fun h h7=>H.h13 (ol 13 (by decide) h) (ol7 h7)),(fun h h7=>H.h14 (ol 14 (by decide) h) (ol7 h7)),(fun h h7=>H.h15 (ol 15 (by decide) h) (ol7 h7)),(fun h=>by have h2:=ol 16 (by decide) h;rw [hP] at h2;cases h2),(fun h=>by have h2:=hcl 17 (by simp) (ol 17 (by decide) h) 16 (memOf (by kernel_rfl));rw [hP] at h2;cases h2)⟩⟩
  ·clear hi hi2
   have e50:=H.h3 (hdep 3 (memOf (by kernel_rfl)))
   subst e50
   have hP:L.getD 16 false=false:=by
    cases hh:L.getD 16 false
    ·rfl
    ·exact (not_yet hL (hcl 5 (by simp) (hcl 6 (by simp) (hcl 7 (by simp) (hcl 16 (by simp) hh 7 (memOf (by kernel_rfl))) 6 (memOf (by kernel_rfl))) 5 (memOf (by kernel_rfl))) 4 (memOf (by kernel_rfl)))).elim
   have hB:=H.m1 hP
   have ol7:(L.setIfInBounds 4 true).getD 16 false=false→L.getD 16 false=false:=fun h=>by rwa [getD_set (by decide)] at h
   exact step_run (i:=4) (w':=W) (v:=.pointer (some ⟨xb,0,none⟩)) rfl rfl (by simp [execOp,Act.eval,go_sem]) ⟨_,_,_,_,_,_,_,_,_,_,_,_,_,_,_,_,_,rfl,⟨(fun h=>H.m1 (ol7 h)),(H.h0∘ol 0 nofun),(H.h1∘ol 1 nofun),(H.h2∘ol 2 nofun),(H.h3∘ol 3 nofun),(fun _=>rfl),(H.h5∘ol 5 nofun),(H.h6∘ol 6 nofun),(H.h7∘ol 7 nofun),(H.h8∘ol 8 nofun),(H.h9∘ol 9 nofun),(H.h10∘ol 10 nofun),(H.h11∘ol 11 nofun),(H.h12∘ol 12 nofun),(fun h h7=>H.h13 (ol 13 (by decide) h) (ol7 h7)),(fun h h7=>H.h14 (ol 14 (by decide) h) (ol7 h7)),(fun h h7=>H.h15 (ol 15 (by decide) h) (ol7 h7)),(fun h=>by have h2:=ol 16 (by decide) h;rw [hP] at h2;cases h2),(fun h=>by have h2:=hcl 17 (by simp) (ol 17 (by decide) h) 16 (memOf (by kernel_rfl));rw [hP] at h2;cases h2)⟩⟩
  ·clear hi hi2
   have e51:=H.h4 (hdep 4 (memOf (by kernel_rfl)))
   subst e51
   have hP:L.getD 16 false=false:=by
    cases hh:L.getD 16 false
    ·rfl
    ·exact (not_yet hL (hcl 6 (by simp) (hcl 7 (by simp) (hcl 16 (by simp) hh 7 (memOf (by kernel_rfl))) 6 (memOf (by kernel_rfl))) 5 (memOf (by kernel_rfl)))).elim
   have hB:=H.m1 hP
   have ol7:(L.setIfInBounds 5 true).getD 16 false=false→L.getD 16 false=false:=fun h=>by rwa [getD_set (by decide)] at h
   exact step_run (i:=5) (w':=W) (v:=.pointer (some ⟨xb,1,none⟩)) rfl rfl (by simp [execOp,Act.eval,go_sem]) ⟨_,_,_,_,_,_,_,_,_,_,_,_,_,_,_,_,_,rfl,⟨(fun h=>H.m1 (ol7 h)),(H.h0∘ol 0 nofun),(H.h1∘ol 1 nofun),(H.h2∘ol 2 nofun),(H.h3∘ol 3 nofun),(H.h4∘ol 4 nofun),(fun _=>rfl),(H.h6∘ol 6 nofun),(H.h7∘ol 7 nofun),(H.h8∘ol 8 nofun),(H.h9∘ol 9 nofun),(H.h10∘ol 10 nofun),(H.h11∘ol 11 nofun),(H.h12∘ol 12 nofun),(fun h h7=>H.h13 (ol 13 (by decide) h) (ol7 h7)),(fun h h7=>H.h14 (ol 14 (by decide) h) (ol7 h7)),(fun h h7=>H.h15 (ol 15 (by decide) h) (ol7 h7)),(fun h=>by have h2:=ol 16 (by decide) h;rw [hP] at h2;cases h2),(fun h=>by have h2:=hcl 17 (by simp) (ol 17 (by decide) h) 16 (memOf (by kernel_rfl));rw [hP] at h2;cases h2)⟩⟩
  ·clear hi hi2
   have e52:=H.h5 (hdep 5 (memOf (by kernel_rfl)))
   subst e52
   have hP:L.getD 16 false=false:=by
    cases hh:L.getD 16 false
    ·rfl
    ·exact (not_yet hL (hcl 7 (by simp) (hcl 16 (by simp) hh 7 (memOf (by kernel_rfl))) 6 (memOf (by kernel_rfl)))).elim
   have hB:=H.m1 hP
   have ol7:(L.setIfInBounds 6 true).getD 16 false=false→L.getD 16 false=false:=fun h=>by rwa [getD_set (by decide)] at h
   exact step_run (i:=6) (w':=W) (v:=.pointer (some ⟨xb,12,none⟩)) rfl rfl (by simp [execOp,Act.eval,go_sem]) ⟨_,_,_,_,_,_,_,_,_,_,_,_,_,_,_,_,_,rfl,⟨(fun h=>H.m1 (ol7 h)),(H.h0∘ol 0 nofun),(H.h1∘ol 1 nofun),(H.h2∘ol 2 nofun),(H.h3∘ol 3 nofun),(H.h4∘ol 4 nofun),(H.h5∘ol 5 nofun),(fun _=>rfl),(H.h7∘ol 7 nofun),(H.h8∘ol 8 nofun),(H.h9∘ol 9 nofun),(H.h10∘ol 10 nofun),(H.h11∘ol 11 nofun),(H.h12∘ol 12 nofun),(fun h h7=>H.h13 (ol 13 (by decide) h) (ol7 h7)),(fun h h7=>H.h14 (ol 14 (by decide) h) (ol7 h7)),(fun h h7=>H.h15 (ol 15 (by decide) h) (ol7 h7)),(fun h=>by have h2:=ol 16 (by decide) h;rw [hP] at h2;cases h2),(fun h=>by have h2:=hcl 17 (by simp) (ol 17 (by decide) h) 16 (memOf (by kernel_rfl));rw [hP] at h2;cases h2)⟩⟩
  ·clear hi hi2
   have e53:=H.h6 (hdep 6 (memOf (by kernel_rfl)))
   subst e53
   have hP:L.getD 16 false=false:=by
    cases hh:L.getD 16 false
    ·rfl
    ·exact (not_yet hL (hcl 16 (by simp) hh 7 (memOf (by kernel_rfl)))).elim
   have hB:=H.m1 hP
   have cq:=x_tg (hxb.call hB)
   have ol7:(L.setIfInBounds 7 true).getD 16 false=false→L.getD 16 false=false:=fun h=>by rwa [getD_set (by decide)] at h
   exact step_run (i:=7) (w':=W) (v:=.agg (vcs x.th.tg)) rfl rfl (by simp [execOp,Act.eval,go_sem,cq]) ⟨_,_,_,_,_,_,_,_,_,_,_,_,_,_,_,_,_,rfl,⟨(fun h=>H.m1 (ol7 h)),(H.h0∘ol 0 nofun),(H.h1∘ol 1 nofun),(H.h2∘ol 2 nofun),(H.h3∘ol 3 nofun),(H.h4∘ol 4 nofun),(H.h5∘ol 5 nofun),(H.h6∘ol 6 nofun),(fun _=>rfl),(H.h8∘ol 8 nofun),(H.h9∘ol 9 nofun),(H.h10∘ol 10 nofun),(H.h11∘ol 11 nofun),(H.h12∘ol 12 nofun),(fun h h7=>H.h13 (ol 13 (by decide) h) (ol7 h7)),(fun h h7=>H.h14 (ol 14 (by decide) h) (ol7 h7)),(fun h h7=>H.h15 (ol 15 (by decide) h) (ol7 h7)),(fun h=>by have h2:=ol 16 (by decide) h;rw [hP] at h2;cases h2),(fun h=>by have h2:=hcl 17 (by simp) (ol 17 (by decide) h) 16 (memOf (by kernel_rfl));rw [hP] at h2;cases h2)⟩⟩
  ·clear hi hi2
   have hP:L.getD 16 false=false:=by
    cases hh:L.getD 16 false
    ·rfl
    ·exact (not_yet hL (hcl 15 (by simp) (hcl 16 (by simp) hh 15 (memOf (by kernel_rfl))) 8 (memOf (by kernel_rfl)))).elim
   have hB:=H.m1 hP
   have cq:=run_ldVp (hN9.call hB)
   have ol7:(L.setIfInBounds 8 true).getD 16 false=false→L.getD 16 false=false:=fun h=>by rwa [getD_set (by decide)] at h
   exact step_run (i:=8) (w':=W) (v:=.agg (vcs rv)) rfl rfl (by simp [execOp,Act.eval,go_sem,cq]) ⟨_,_,_,_,_,_,_,_,_,_,_,_,_,_,_,_,_,rfl,⟨(fun h=>H.m1 (ol7 h)),(H.h0∘ol 0 nofun),(H.h1∘ol 1 nofun),(H.h2∘ol 2 nofun),(H.h3∘ol 3 nofun),(H.h4∘ol 4 nofun),(H.h5∘ol 5 nofun),(H.h6∘ol 6 nofun),(H.h7∘ol 7 nofun),(fun _=>rfl),(H.h9∘ol 9 nofun),(H.h10∘ol 10 nofun),(H.h11∘ol 11 nofun),(H.h12∘ol 12 nofun),(fun h h7=>H.h13 (ol 13 (by decide) h) (ol7 h7)),(fun h h7=>H.h14 (ol 14 (by decide) h) (ol7 h7)),(fun h h7=>H.h15 (ol 15 (by decide) h) (ol7 h7)),(fun h=>by have h2:=ol 16 (by decide) h;rw [hP] at h2;cases h2),(fun h=>by have h2:=hcl 17 (by simp) (ol 17 (by decide) h) 16 (memOf (by kernel_rfl));rw [hP] at h2;cases h2)⟩⟩
  ·clear hi hi2
   have hP:L.getD 16 false=false:=by
    cases hh:L.getD 16 false
    ·rfl
    ·exact (not_yet hL (hcl 10 (by simp) (hcl 13 (by simp) (hcl 14 (by simp) (hcl 15 (by simp) (hcl 16 (by simp) hh 15 (memOf (by kernel_rfl))) 14 (memOf (by kernel_rfl))) 13 (memOf (by kernel_rfl))) 10 (memOf (by kernel_rfl))) 9 (memOf (by kernel_rfl)))).elim
   have hB:=H.m1 hP
   have ol7:(L.setIfInBounds 9 true).getD 16 false=false→L.getD 16 false=false:=fun h=>by rwa [getD_set (by decide)] at h
   exact step_run (i:=9) (w':=W) (v:=.pointer (some ⟨N,20,none⟩)) rfl rfl (by simp [execOp,Act.eval,go_sem]) ⟨_,_,_,_,_,_,_,_,_,_,_,_,_,_,_,_,_,rfl,⟨(fun h=>H.m1 (ol7 h)),(H.h0∘ol 0 nofun),(H.h1∘ol 1 nofun),(H.h2∘ol 2 nofun),(H.h3∘ol 3 nofun),(H.h4∘ol 4 nofun),(H.h5∘ol 5 nofun),(H.h6∘ol 6 nofun),(H.h7∘ol 7 nofun),(H.h8∘ol 8 nofun),(fun _=>rfl),(H.h10∘ol 10 nofun),(H.h11∘ol 11 nofun),(H.h12∘ol 12 nofun),(fun h h7=>H.h13 (ol 13 (by decide) h) (ol7 h7)),(fun h h7=>H.h14 (ol 14 (by decide) h) (ol7 h7)),(fun h h7=>H.h15 (ol 15 (by decide) h) (ol7 h7)),(fun h=>by have h2:=ol 16 (by decide) h;rw [hP] at h2;cases h2),(fun h=>by have h2:=hcl 17 (by simp) (ol 17 (by decide) h) 16 (memOf (by kernel_rfl));rw [hP] at h2;cases h2)⟩⟩
  ·clear hi hi2
   have e56:=H.h9 (hdep 9 (memOf (by kernel_rfl)))
   subst e56
   have hP:L.getD 16 false=false:=by
    cases hh:L.getD 16 false
    ·rfl
    ·exact (not_yet hL (hcl 13 (by simp) (hcl 14 (by simp) (hcl 15 (by simp) (hcl 16 (by simp) hh 15 (memOf (by kernel_rfl))) 14 (memOf (by kernel_rfl))) 13 (memOf (by kernel_rfl))) 10 (memOf (by kernel_rfl)))).elim
   have hB:=H.m1 hP
   have cq:W.cell? ⟨N,20,none⟩=some (.slice ga x.vs.length gc):=by rw [← hga];exact t_args (hN.call hB)
   have ol7:(L.setIfInBounds 10 true).getD 16 false=false→L.getD 16 false=false:=fun h=>by rwa [getD_set (by decide)] at h
   exact step_run (i:=10) (w':=W) (v:=.slice ga x.vs.length gc) rfl rfl (by simp [execOp,Act.eval,go_sem,cq]) ⟨_,_,_,_,_,_,_,_,_,_,_,_,_,_,_,_,_,rfl,⟨(fun h=>H.m1 (ol7 h)),(H.h0∘ol 0 nofun),(H.h1∘ol 1 nofun),(H.h2∘ol 2 nofun),(H.h3∘ol 3 nofun),(H.h4∘ol 4 nofun),(H.h5∘ol 5 nofun),(H.h6∘ol 6 nofun),(H.h7∘ol 7 nofun),(H.h8∘ol 8 nofun),(H.h9∘ol 9 nofun),(fun _=>rfl),(H.h11∘ol 11 nofun),(H.h12∘ol 12 nofun),(fun h h7=>H.h13 (ol 13 (by decide) h) (ol7 h7)),(fun h h7=>H.h14 (ol 14 (by decide) h) (ol7 h7)),(fun h h7=>H.h15 (ol 15 (by decide) h) (ol7 h7)),(fun h=>by have h2:=ol 16 (by decide) h;rw [hP] at h2;cases h2),(fun h=>by have h2:=hcl 17 (by simp) (ol 17 (by decide) h) 16 (memOf (by kernel_rfl));rw [hP] at h2;cases h2)⟩⟩
  ·clear hi hi2
   have hP:L.getD 16 false=false:=by
    cases hh:L.getD 16 false
    ·rfl
    ·exact (not_yet hL (hcl 12 (by simp) (hcl 13 (by simp) (hcl 14 (by simp) (hcl 15 (by simp) (hcl 16 (by simp) hh 15 (memOf (by kernel_rfl))) 14 (memOf (by kernel_rfl))) 13 (memOf (by kernel_rfl))) 12 (memOf (by kernel_rfl))) 11 (memOf (by kernel_rfl)))).elim
   have hB:=H.m1 hP
   have ol7:(L.setIfInBounds 11 true).getD 16 false=false→L.getD 16 false=false:=fun h=>by rwa [getD_set (by decide)] at h
   exact step_run (i:=11) (w':=W) (v:=.pointer (some ⟨w.heap.size,26,none⟩)) rfl rfl (by simp [execOp,Act.eval,go_sem]) ⟨_,_,_,_,_,_,_,_,_,_,_,_,_,_,_,_,_,rfl,⟨(fun h=>H.m1 (ol7 h)),(H.h0∘ol 0 nofun),(H.h1∘ol 1 nofun),(H.h2∘ol 2 nofun),(H.h3∘ol 3 nofun),(H.h4∘ol 4 nofun),(H.h5∘ol 5 nofun),(H.h6∘ol 6 nofun),(H.h7∘ol 7 nofun),(H.h8∘ol 8 nofun),(H.h9∘ol 9 nofun),(H.h10∘ol 10 nofun),(fun _=>rfl),(H.h12∘ol 12 nofun),(fun h h7=>H.h13 (ol 13 (by decide) h) (ol7 h7)),(fun h h7=>H.h14 (ol 14 (by decide) h) (ol7 h7)),(fun h h7=>H.h15 (ol 15 (by decide) h) (ol7 h7)),(fun h=>by have h2:=ol 16 (by decide) h;rw [hP] at h2;cases h2),(fun h=>by have h2:=hcl 17 (by simp) (ol 17 (by decide) h) 16 (memOf (by kernel_rfl));rw [hP] at h2;cases h2)⟩⟩
  ·clear hi hi2
   have e58:=H.h11 (hdep 11 (memOf (by kernel_rfl)))
   subst e58
   have hP:L.getD 16 false=false:=by
    cases hh:L.getD 16 false
    ·rfl
    ·exact (not_yet hL (hcl 13 (by simp) (hcl 14 (by simp) (hcl 15 (by simp) (hcl 16 (by simp) hh 15 (memOf (by kernel_rfl))) 14 (memOf (by kernel_rfl))) 13 (memOf (by kernel_rfl))) 12 (memOf (by kernel_rfl)))).elim
   have hB:=H.m1 hP
   have cq:=ask_l (hAQ.call hB)
   have ol7:(L.setIfInBounds 12 true).getD 16 false=false→L.getD 16 false=false:=fun h=>by rwa [getD_set (by decide)] at h
   exact step_run (i:=12) (w':=W) (v:=.slice ala q.l.length alc) rfl rfl (by simp [execOp,Act.eval,go_sem,cq]) ⟨_,_,_,_,_,_,_,_,_,_,_,_,_,_,_,_,_,rfl,⟨(fun h=>H.m1 (ol7 h)),(H.h0∘ol 0 nofun),(H.h1∘ol 1 nofun),(H.h2∘ol 2 nofun),(H.h3∘ol 3 nofun),(H.h4∘ol 4 nofun),(H.h5∘ol 5 nofun),(H.h6∘ol 6 nofun),(H.h7∘ol 7 nofun),(H.h8∘ol 8 nofun),(H.h9∘ol 9 nofun),(H.h10∘ol 10 nofun),(H.h11∘ol 11 nofun),(fun _=>rfl),(fun h h7=>H.h13 (ol 13 (by decide) h) (ol7 h7)),(fun h h7=>H.h14 (ol 14 (by decide) h) (ol7 h7)),(fun h h7=>H.h15 (ol 15 (by decide) h) (ol7 h7)),(fun h=>by have h2:=ol 16 (by decide) h;rw [hP] at h2;cases h2),(fun h=>by have h2:=hcl 17 (by simp) (ol 17 (by decide) h) 16 (memOf (by kernel_rfl));rw [hP] at h2;cases h2)⟩⟩
  ·clear hi hi2
   have e57:=H.h10 (hdep 10 (memOf (by kernel_rfl)))
   have e59:=H.h12 (hdep 12 (memOf (by kernel_rfl)))
   subst e57 e59
   have hP:L.getD 16 false=false:=by
    cases hh:L.getD 16 false
    ·rfl
    ·exact (not_yet hL (hcl 14 (by simp) (hcl 15 (by simp) (hcl 16 (by simp) hh 15 (memOf (by kernel_rfl))) 14 (memOf (by kernel_rfl))) 13 (memOf (by kernel_rfl)))).elim
   have hB:=H.m1 hP
   have cq:=run_bsLL W ga x.vs.length gc ala q.l.length alc
   have hb:Below W.heap.size W (W.alloc (.cells #[.slice ga x.vs.length gc,.slice ala q.l.length alc] 22)):=(Below.refl _ W).alloc (Nat.le_refl _) _
   have ol7:(L.setIfInBounds 13 true).getD 16 false=false→L.getD 16 false=false:=fun h=>by rwa [getD_set (by decide)] at h
   exact step_run (i:=13) (w':=(W.alloc (.cells #[.slice ga x.vs.length gc,.slice ala q.l.length alc] 22))) (v:=.slice (some ⟨W.heap.size,0,none⟩) 2 2) rfl rfl (by simp [execOp,Act.eval,go_sem,cq]) ⟨_,_,_,_,_,_,_,_,_,_,_,_,_,_,_,_,_,rfl,⟨(fun h=>(H.m1 (ol7 h)).trans (hb.mono (H.m1 (ol7 h)).size)),(H.h0∘ol 0 nofun),(H.h1∘ol 1 nofun),(H.h2∘ol 2 nofun),(H.h3∘ol 3 nofun),(H.h4∘ol 4 nofun),(H.h5∘ol 5 nofun),(H.h6∘ol 6 nofun),(H.h7∘ol 7 nofun),(H.h8∘ol 8 nofun),(H.h9∘ol 9 nofun),(H.h10∘ol 10 nofun),(H.h11∘ol 11 nofun),(H.h12∘ol 12 nofun),(fun _=>fun _=>⟨_,rfl,hB.size,Blk.new W _ _⟩),(fun h=>(not_yet hL (hcl 14 (by simp) (ol 14 (by decide) h) 13 (memOf (by kernel_rfl)))).elim),(fun h=>(not_yet hL (hcl 14 (by simp) (hcl 15 (by simp) (ol 15 (by decide) h) 14 (memOf (by kernel_rfl))) 13 (memOf (by kernel_rfl)))).elim),(fun h=>by have h2:=ol 16 (by decide) h;rw [hP] at h2;cases h2),(fun h=>by have h2:=hcl 17 (by simp) (ol 17 (by decide) h) 16 (memOf (by kernel_rfl));rw [hP] at h2;cases h2)⟩⟩
  ·clear hi hi2
   have e60:=H.h13 (hdep 13 (memOf (by kernel_rfl)))
   have hP:L.getD 16 false=false:=by
    cases hh:L.getD 16 false
    ·rfl
    ·exact (not_yet hL (hcl 15 (by simp) (hcl 16 (by simp) hh 15 (memOf (by kernel_rfl))) 14 (memOf (by kernel_rfl)))).elim
   have hB:=H.m1 hP
   obtain ⟨b,rfl,hbs,hbk⟩:=e60 hP
   have ol7:(L.setIfInBounds 14 true).getD 16 false=false→L.getD 16 false=false:=fun h=>by rwa [getD_set (by decide)] at h
   refine step_call (i:=14) (f:=193) (args:=#[.slice (some ⟨b,0,none⟩) 2 2]) rfl rfl (by simp [execOp,Act.eval,go_sem]) (HCC.out hB hbk) ?_
   rintro e W2 ⟨v,rfl,hown,hb⟩
   exact ⟨_,rfl,⟨_,_,_,_,_,_,_,_,_,_,_,_,_,_,_,_,_,rfl,⟨(fun h=>(H.m1 (ol7 h)).trans (hb.mono (H.m1 (ol7 h)).size)),(H.h0∘ol 0 nofun),(H.h1∘ol 1 nofun),(H.h2∘ol 2 nofun),(H.h3∘ol 3 nofun),(H.h4∘ol 4 nofun),(H.h5∘ol 5 nofun),(H.h6∘ol 6 nofun),(H.h7∘ol 7 nofun),(H.h8∘ol 8 nofun),(H.h9∘ol 9 nofun),(H.h10∘ol 10 nofun),(H.h11∘ol 11 nofun),(H.h12∘ol 12 nofun),(fun h h7=>let ⟨b2,q1,q2,q3⟩:=H.h13 (ol 13 (by decide) h) (ol7 h7);⟨b2,q1,q2,q3.call hb⟩),(fun _=>fun _=>⟨_,rfl,hown.mono hB.size⟩),(fun h=>(not_yet hL (hcl 15 (by simp) (ol 15 (by decide) h) 14 (memOf (by kernel_rfl)))).elim),(fun h=>by have h2:=ol 16 (by decide) h;rw [hP] at h2;cases h2),(fun h=>by have h2:=hcl 17 (by simp) (ol 17 (by decide) h) 16 (memOf (by kernel_rfl));rw [hP] at h2;cases h2)⟩⟩⟩
  ·clear hi hi2
   have e55:=H.h8 (hdep 8 (memOf (by kernel_rfl)))
   have e61:=H.h14 (hdep 14 (memOf (by kernel_rfl)))
   have hP:L.getD 16 false=false:=by
    cases hh:L.getD 16 false
    ·rfl
    ·exact (not_yet hL (hcl 16 (by simp) hh 15 (memOf (by kernel_rfl)))).elim
   have hB:=H.m1 hP
   subst e55
   obtain ⟨v,rfl,hown⟩:=e61 hP
   obtain ⟨va,vc,rfl⟩:=own_vs hown
   have cq:=run_bdArl2 W rv LL va LL.length vc
   have ol7:(L.setIfInBounds 15 true).getD 16 false=false→L.getD 16 false=false:=fun h=>by rwa [getD_set (by decide)] at h
   exact step_run (i:=15) (w':=W) (v:=.agg (acs { zeroQ with r:=rv,l:=LL } (.slice va LL.length vc))) rfl rfl (by simp [execOp,Act.eval,go_sem,cq]) ⟨_,_,_,_,_,_,_,_,_,_,_,_,_,_,_,_,_,rfl,⟨(fun h=>H.m1 (ol7 h)),(H.h0∘ol 0 nofun),(H.h1∘ol 1 nofun),(H.h2∘ol 2 nofun),(H.h3∘ol 3 nofun),(H.h4∘ol 4 nofun),(H.h5∘ol 5 nofun),(H.h6∘ol 6 nofun),(H.h7∘ol 7 nofun),(H.h8∘ol 8 nofun),(H.h9∘ol 9 nofun),(H.h10∘ol 10 nofun),(H.h11∘ol 11 nofun),(H.h12∘ol 12 nofun),(fun h h7=>H.h13 (ol 13 (by decide) h) (ol7 h7)),(fun h h7=>H.h14 (ol 14 (by decide) h) (ol7 h7)),(fun _=>fun _=>⟨va,vc,rfl,vs_own hown fun b hb2=>hwis.new hb2⟩),(fun h=>by have h2:=ol 16 (by decide) h;rw [hP] at h2;cases h2),(fun h=>by have h2:=hcl 17 (by simp) (ol 17 (by decide) h) 16 (memOf (by kernel_rfl));rw [hP] at h2;cases h2)⟩⟩
  ·clear hi hi2
   have e47:=H.h0 (hdep 0 (memOf (by kernel_rfl)))
   have e48:=H.h1 (hdep 1 (memOf (by kernel_rfl)))
   have e54:=H.h7 (hdep 7 (memOf (by kernel_rfl)))
   have e62:=H.h15 (hdep 15 (memOf (by kernel_rfl)))
   subst e47 e48 e54
   have hP:=getD_no hL
   obtain ⟨va,vc,rfl,hvs⟩:=e62 hP
   have hB:=H.m1 hP
   refine step_call (i:=16) (f:=118) (args:=#[ptr X.wb,.int .i64 m,.agg (vcs x.th.tg),.agg (acs { zeroQ with r:=rv,l:=LL } (.slice va LL.length vc))]) rfl rfl (by simp [execOp,Act.eval,go_sem]) (HASK.out hB hvs) ?_
   rintro e W2 ⟨v,rfl,hq⟩
   exact ⟨_,rfl,⟨_,_,_,_,_,_,_,_,_,_,_,_,_,_,_,_,_,rfl,⟨(fun h=>by rw [getD_same (by rw [hs];simp)] at h;cases h),(H.h0∘ol 0 nofun),(H.h1∘ol 1 nofun),(H.h2∘ol 2 nofun),(H.h3∘ol 3 nofun),(H.h4∘ol 4 nofun),(H.h5∘ol 5 nofun),(H.h6∘ol 6 nofun),(H.h7∘ol 7 nofun),(H.h8∘ol 8 nofun),(H.h9∘ol 9 nofun),(H.h10∘ol 10 nofun),(H.h11∘ol 11 nofun),(H.h12∘ol 12 nofun),(fun _ h7=>by rw [getD_same (by rw [hs];simp)] at h7;cases h7),(fun _ h7=>by rw [getD_same (by rw [hs];simp)] at h7;cases h7),(fun _ h7=>by rw [getD_same (by rw [hs];simp)] at h7;cases h7),(fun _=>fun _=>hq),(fun h=>(not_yet hL (hcl 17 (by simp) (ol 17 (by decide) h) 16 (memOf (by kernel_rfl)))).elim)⟩⟩⟩
  ·clear hi hi2
   have e63:=H.h16 (hdep 16 (memOf (by kernel_rfl)))
   have h16:=hdep 16 (memOf (by kernel_rfl))
   obtain ⟨M3,kv3,rfl,F3,hg3⟩:=e63 (getD_no hL)
   have sv:=run_stRp F3.l2.blk hg3
   exact step_sk (i:=17) (w':=(W.setRow (w.heap.size+1) (rcs (R.1.mem kv3)))) rfl rfl (by simp [execOp,Act.eval,go_sem,sv]) ⟨_,_,_,_,_,_,_,_,_,_,_,_,_,_,_,_,_,rfl,⟨(fun h=>by rw [getD_set (by decide),h16] at h;cases h),(H.h0∘ol 0 nofun),(H.h1∘ol 1 nofun),(H.h2∘ol 2 nofun),(H.h3∘ol 3 nofun),(H.h4∘ol 4 nofun),(H.h5∘ol 5 nofun),(H.h6∘ol 6 nofun),(H.h7∘ol 7 nofun),(H.h8∘ol 8 nofun),(H.h9∘ol 9 nofun),(H.h10∘ol 10 nofun),(H.h11∘ol 11 nofun),(H.h12∘ol 12 nofun),(fun _ h7=>by rw [getD_set (by decide),h16] at h7;cases h7),(fun _ h7=>by rw [getD_set (by decide),h16] at h7;cases h7),(fun _ h7=>by rw [getD_set (by decide),h16] at h7;cases h7),(fun _ h=>by rw [getD_same (by rw [hs];simp)] at h;cases h),(fun _=>⟨M3,kv3,F3.put (l:=[⟨N,tcs G,39⟩,⟨N9,vcs rv,30⟩]) (rcs (R.1.mem kv3)) (show 57 ≠ 32 by decide)⟩)⟩⟩
 case done =>
  rintro L a W hall ⟨x47,x48,x49,x50,x51,x52,x53,x54,x55,x56,x57,x58,x59,x60,x61,x62,x63,rfl,H⟩
  obtain ⟨M3,kv3,F4⟩:=H.h17 (hall 17 (by simp))
  go_wp2
  refine bodyPost_ret (res_R rfl _ _ (w.heap.size+1) _ rfl F4.l2.blk) rfl ?_
  exact F4.fin F4.k0
end
end Go.Proofs.YtkadkmnolkkhgaaGreatDoor.Mw
