/-
 Texts of this seat in build order: MwNew, MwLogB, MwDeepM, MwAlvM, MwAlive, MwRight, MwRightB, MwPlain, MwVal, MwRightC, MwRightD, MwMay.
-/
import Derived.Test.YtkadkmnolkkhgaaGreatDoorMb20
import Derived.Test.YtkadkmnolkkhgaaGreatDoorMb36
import Derived.Test.YtkadkmnolkkhgaaGreatDoorMb19
import Derived.Test.YtkadkmnolkkhgaaGreatDoorMb11
import Derived.Test.YtkadkmnolkkhgaaGreatDoorMb07
import Derived.Test.YtkadkmnolkkhgaaGreatDoorMb17
import Derived.Deep.LoopGhost
import Derived.Test.YtkadkmnolkkhgaaGreatDoorMb04
import Derived.Test.YtkadkmnolkkhgaaGreatDoorMb30
import Derived.Test.YtkadkmnolkkhgaaGreatDoorMb03
import Derived.Test.YtkadkmnolkkhgaaGreatDoorMb06
import Derived.Laws.StructEq
/-
 New: a world as the laws begin with.
-/
set_option linter.unusedVariables false
set_option linter.unusedSimpArgs false
namespace Go.Proofs.YtkadkmnolkkhgaaGreatDoor.Mw
open Go Go.RowKit Go.Maps Go.Shelf Keys Hp Mo
open Des (Vl Ds zeroV zeroD dcs dcs_size dcs_one)
open Arrs (En ecs ecs_0 ecs_1 ecs_10 ecs_size ecs_list ecs_one ecs_one')
def newA (F R D:Int):Aw:=⟨[],R,0,max F 0,min (max D 0) 1000,0,0,[]⟩
theorem new_any (W0:World) (hLw:Nums.Lw W0) (F R D:Int) (c:Nat) (hc:8*(max F 0).toNat+c≤900000) (px:Bool) {w:World} (hb0:Below W0.heap.size W0 w) :
  Calls Tryz.prog 14 #[.agg #[.int .i64 F,.int .i64 R,.int .i64 D]] w fun e w'=>∃ wb M,e = .returned (ptr wb)∧WIs ⟨W0,wb,.nilIface,px,0,min (max D 0) 1000⟩ c M w' (newA F R D)∧w.heap.size≤wb∧(∀ b ∈ M.bl wb,w.heap.size≤b)∧Below w.heap.size w w':=by
 refine (newW_any F R D w).mono ?_
 rintro e w' ⟨wb,hb,rfl,hw,hh,h1,h2,hB⟩
 have hbl:∀ b ∈ (Wm.bl ⟨hb,nilS,nilS,[],[],[]⟩ wb),w.heap.size≤b:=by
  intro b hm
  simp [Wm.bl,obl,nilS,Value.ownBlock] at hm
  rcases hm with rfl |rfl
  ·exact h1
  ·exact h2
 have hsz:W0.heap.size≤w.heap.size:=hb0.size
 refine ⟨wb,⟨hb,nilS,nilS,[],[],[]⟩,rfl,?_,h1,hbl,hB⟩
 have hrow:∀ (e:TypeId),w'.ownsRow 0 e 1 nilS 0 []:=fun e=>⟨rfl,.inl ⟨rfl,rfl⟩⟩
 exact {
  wblk:=hw
  hblk:=hh
  orow:=hrow _
  lrow:=hrow _
  objs:=⟨rfl,fun i a b h=>by simp at h⟩
  log:=⟨rfl,fun i a b h=>by simp at h⟩
  rlt:=fun b h=>by cases h
  apart:=fun i j p q _ h=>by simp at h
  low:=fun b h=>Nat.le_trans hsz (hbl b h)
  bel:=hb0.trans (hB.mono hsz)
  lw:=hLw
  fuel:=by show 0≤max F 0;omega
  few:=by show 0+8*(max F 0).toNat+c≤900000;omega
  num:=fun q h=>by cases h
  logn:=by show 0+8*(max F 0).toNat+c≤900000;omega
  dep0:=by show (0:Int)≤0;omega
  dep1:=by show (0:Int)≤min (max D 0) 1000;omega
  deep:=by show min (max D 0) 1000≤1000;omega
  dpe:=rfl
  dle:=rfl
  nopx:=fun _ x h=>by cases h }
end Go.Proofs.YtkadkmnolkkhgaaGreatDoor.Mw

/-
 Log: as many as were noted (weakly: what they hold is not said).
-/
namespace Go.Proofs.YtkadkmnolkkhgaaGreatDoor.Mw
open Go Go.RowKit Go.Maps Go.Shelf Keys Hp Mo
open Des (Vl Ds zeroV zeroD dcs dcs_size dcs_one)
open Arrs (En ecs ecs_0 ecs_1 ecs_10 ecs_size ecs_list ecs_one ecs_one')
theorem vsOut_in {R:List Nat} {w:World} {s:Value} {vs:List Vl} (h:VsIn R w s vs):VsOut [] w s vs:=by
 obtain ⟨a,c,e,h⟩:=h
 refine ⟨a,c,e,h.imp id ?_⟩
 rintro ⟨b,off,cur,h1,h2,h3,h4⟩
 exact ⟨b,off,h1,h3.lt,by simp,h4⟩
theorem ksOut_in {R:List Nat} {w:World} {s:Value} {ks:List KV} (h:KsIn R w s ks) (hl:ks.length≤10000000):KsOut [] w s ks:=by
 obtain ⟨a,c,e,h⟩:=h
 refine ⟨a,c,e,hl,h.imp id ?_⟩
 rintro ⟨b,off,cur,h1,h2,h3,h4⟩
 exact ⟨b,off,cur,h1,h3,by simp,h4⟩
theorem there_call {w w':World} {b n:Nat} (h:w.there b 0 n) (hlt:b < w.heap.size) (hb:Below w.heap.size w w'):w'.there b 0 n:=fun j hj=>by
 have e:w'.heap[b]? = w.heap[b]?:=hb.block b hlt
 rw [World.cell?_of_block (a:=⟨b,0+j,none⟩) e,World.frozen?_of_block (a:=⟨b,0+j,none⟩) e]
 exact h j hj
theorem there_own {w:World} {base g n sz cap:Nat} {e:TypeId} {xs:List Value} (h:w.ownsRow base e sz (.slice (some ⟨g,0,none⟩) n cap) n xs):w.there g 0 (n*sz)∧g < w.heap.size:=by
 rcases h.2 with ⟨h',_⟩ |⟨g',cap',cur,h',_,hg,hle,hcm,hsz,htake⟩
 ·simp at h'
 ·simp only [Value.slice.injEq,Option.some.injEq,Addr.mk.injEq,and_true,true_and] at h'
  obtain ⟨rfl,rfl⟩:=h'
  have hb:Blk w g cur e:=hg
  have hle2:n*sz≤cap*sz:=Nat.mul_le_mul_right _ hle
  refine ⟨fun j hj=>⟨?_,hb.frozen _⟩,hb.lt⟩
  have hj2:j < cur.size:=by omega
  rw [Nat.zero_add,hb.cell j,Array.getElem?_eq_getElem hj2]
  rfl
theorem there_sub {w:World} {b n o k:Nat} (h:w.there b 0 n) (hk:o+k≤n):w.there b o k:=fun j hj=>by
 have:=h (o+j) (by omega)
 rwa [Nat.zero_add] at this
theorem below_cells {B b:Nat} {w0 w:World} (h:Below B w0 w) (hb:B≤b) (o:Nat) (vs:List Value):Below B w0 (w.setCells b o vs):=by
 obtain ⟨h1,h2⟩:=setCells_fr b vs o w
 exact h.trans ⟨h1.os,h1.tape,h1.output,h1.size,fun k hk=>setCells_block b vs o w k (by omega)⟩
theorem infoS3:(Tryz.prog.info? 120).map (fun i=>(i.zero,i.size,i.bytes))=some (some (.agg (scs zeroS nilS nilS)),55,432):=by kernel_rfl
theorem run_stSnM {w:World} {b o:Nat} {s:Sn} {a1 a2:Option Addr} {n1 c1 n2 c2:Nat} (ht:w.there b o 55):(St 120 (.pointer (some ⟨b,o,none⟩)) (.agg (scs s (.slice a1 n1 c1) (.slice a2 n2 c2)))).run Tryz.prog w = .ok () (w.setCells b o (scs s (.slice a1 n1 c1) (.slice a2 n2 c2)).toList) :=
 run_stMid (by rw [scs_size];exact ht) (by rw [scs_size];exact sizeSn) (scs_one _ _ _ _ _ _ _)
section
attribute [local go_sem ↓] bxSn ldSn stSn alSn
attribute [local irreducible] scs
attribute [local go_sem] run_bx run_alSn
variable {X:Cx} {c:Nat} {M:Wm} {w:World} {A:Aw}
set_option maxRecDepth 100000 in
set_option maxHeartbeats 4000000 in
theorem log_any (h:WIs X c M w A) (hq:∀ s ∈ A.log,s.a.l.length≤1000000000∧s.r.ks.length≤10000000) :
  Calls Tryz.prog 44 #[ptr X.wb] w fun e w'=>∃ g,e = .returned (.slice (some ⟨g,0,none⟩) A.log.length A.log.length)∧Below w.heap.size w w':=by
 obtain ⟨i50,hi50,hz500,hz501,hz502⟩:=info_parts infoS3
 obtain ⟨n,hn⟩:∃ n,A.log.length=n:=⟨_,rfl⟩
 have hrow:=h.lrow
 rw [hn] at hrow
 obtain ⟨la,lc,hls⟩:=Hp.own_shape hrow
 rw [hls] at hrow
 have hnl:n≤900000:=by have:=h.logn;omega
 have HLG:Hid (∀ W,Below w.heap.size w W→∀ j,j < n→∃ g0 b s l k,la=some ⟨g0,0,none⟩∧W.cell? ⟨g0,j,none⟩=some (ptr b)∧Blk W b (scs s l k) 120∧VsOut [] W l s.a.l∧KsOut [] W k s.r.ks∧s.a.l.length≤1000000000):=Lib.hid fun W hB j hj=>by
  have hlen:M.sb.length=A.log.length:=h.log.len
  have hjb:j < M.sb.length:=by omega
  have hjs:j < A.log.length:=by omega
  obtain ⟨l,k,hb,hl,hk⟩:=h.log.el j M.sb[j] A.log[j] (List.getElem?_eq_getElem hjb) (List.getElem?_eq_getElem hjs)
  obtain ⟨q1,q2⟩:=hq _ (List.getElem_mem hjs)
  rcases hrow.2 with ⟨h',h0⟩ |⟨g0,cap,cur,h',_,hg,_⟩
  ·omega
  ·simp only [Value.slice.injEq,true_and] at h'
   obtain ⟨rfl,rfl⟩:=h'
   refine ⟨g0,M.sb[j],A.log[j],l,k,rfl,?_,hb.call hB,(vsOut_in hl).nx (Nx.of_below hB),(ksOut_in hk q2).call hB,q1⟩
   have hgl:g0 < w.heap.size:=(show Blk w g0 cur _ from hg).lt
   rw [hB.cell (p:=⟨g0,j,none⟩) hgl,hrow.cellAt j (by omega),List.getElem?_map,List.getElem?_eq_getElem hjb]
   rfl
 have c6:w.cell? ⟨X.wb,6,none⟩=some (.slice la n lc):=by rw [← hls];exact h.w6
 have hwl:X.wb < w.heap.size:=h.wblk.lt
 rw [hn]
 clear h hrow hn hq hls
 go_enter Tryz.func44,Tryz.ntmps44
 go_wp2_with (at_make;refine wpList_make_full _ rfl _ _ 100 rfl w.heap.size 120 i50 (.agg (scs zeroS nilS nilS)) 55 Tryz.underlying100 hi50 hz500 hz501 _ _ _ _ n rfl rfl rfl rfl (by rw [hz502];omega) (by unfold maxLen;omega) (Nat.le_refl _) ?_;intro w2 hown hgrow;have hb2:Below w.heap.size w w2:=(Below.refl _ w).grown hgrow (Nat.le_refl _) (fun k hk=>by cases hk);have c62:w2.cell? ⟨X.wb,6,none⟩=some (.slice la n lc):=(hb2.cell (p:=⟨X.wb,6,none⟩) hwl).trans c6;have HB2:=Lib.hid hb2;have HT:=Lib.hid (there_own hown);clear hown hgrow hb2)
 go_loopg [4,5,17] n (fun g s4 s5 i wr=>∃ j:Nat,j≤n∧g=n - j∧i = .int .i64 j∧Below w.heap.size w wr∧wr.there w.heap.size 0 (n*55)∧w.heap.size < wr.heap.size)
 case atStart=>exact ⟨0,Nat.zero_le _,rfl,rfl,HB2.out,HT.out.1,HT.out.2⟩
 case round =>
  rename World=>wr
  obtain ⟨j,hj,rfl,rfl,hB,hT,hG⟩:=hrel
  by_cases hlt:j < n
  ·have hji:(j:Int) < n:=by omega
   obtain ⟨g0,b,s,l,k,rfl,hc,hbk,hvo,hko,hsl⟩:=HLG.out wr hB j hlt
   have lw:=run_ldSn hbk
   have hcp:=copied_any s l k hvo hko hsl
   have HBr:=Lib.hid hB
   have HTr:=Lib.hid hT
   have HGr:=Lib.hid hG
   clear hB hT hG hbk hvo hko HB2 HT
   go_wp2_with (go_at_call 98;(with_reducible refine hcp.mono ?_);rintro e w3 ⟨l',k',rfl,ho1,ho2,hb3⟩;obtain ⟨a1,c1,rfl⟩:=Hp.own_shape ho1;obtain ⟨a2,c2,rfl⟩:=Hp.own_shape ho2;have hT3:=there_call HTr.out HGr.out hb3;have st3:=run_stSnM (s:=s) (a1:=a1) (n1:=s.a.l.length) (c1:=c1) (a2:=a2) (n2:=s.r.ks.length) (c2:=c2) (there_sub (o:=j*55) (k:=55) hT3 (by omega));have HT3:=Lib.hid hT3;have HB3:=Lib.hid hb3;clear ho1 ho2 hT3 hb3)
   go_roundg (n - (j+1))
   case measure=>omega
   case rel =>
    refine ⟨j+1,by omega,rfl,by go_num,below_cells (HBr.out.trans (HB3.out.mono HBr.out.size)) (Nat.le_refl _) _ _,World.there_setCells HT3.out _ _ _,?_⟩
    rw [(setCells_fr _ _ _ _).2]
    exact Nat.lt_of_lt_of_le HGr.out HB3.out.size
  ·obtain rfl:j=n:=by omega
   have HBr:=Lib.hid hB
   clear hB hT hG
   go_wp2
   go_ret
   exact ⟨_,rfl,HBr.out⟩
end
end Go.Proofs.YtkadkmnolkkhgaaGreatDoor.Mw

/-
 How deep methods go along a chain: plain mathematics over the worlds' methods.
-/
namespace Go.Proofs.YtkadkmnolkkhgaaGreatDoor.Mw
open Go Go.RowKit Keys Hp
open Des (Vl Ds zeroV zeroD dcs eqV accF rigF appF)
open Arrs (En lenF leftF reachF)
section
variable {X:DoT} {C:HandT} {D:DoT} {m o:Int} {a:Aq} {A:Aw} {x:Ob}
end
def chTh (n i:Nat):Th:=freshT 0 (if i+1 < n then objV (i+1:Nat) else nullV)
def chOb (n i:Nat):Ob:=⟨chTh n i,[],[]⟩
def chL (n:Nat):List Ob:=(List.range n).map (chOb n)
section
variable {X:DoT→DoT} {C:DoT→HandT}
end
end Go.Proofs.YtkadkmnolkkhgaaGreatDoor.Mw

/-
 The example: what the plain functions give.
-/
namespace Go.Proofs.YtkadkmnolkkhgaaGreatDoor.Mw
open Go Go.RowKit Go.Maps Go.Shelf Keys Hp Mo
open Des (Vl Ds zeroV zeroD dcs dcs_size dcs_one)
open Arrs (En ecs ecs_0 ecs_1 ecs_10 ecs_size ecs_list ecs_one ecs_one')
def exA:Aw:={ newA 100 10 10 with objs:=chL 1 }
def exQ:Aq:={ zeroQ with k:=(⟨#[97]⟩,0) }
def exR (Xf:DoT→DoT):Rr × Aw:=doF Xf (fun _=>none) 10 7 0 exQ exA
def exS (Xf:DoT→DoT):Rr × Aw:=doF Xf (fun _=>none) 10 3 0 zeroQ (exR Xf).2
theorem al1 (Xf:DoT→DoT):(exR Xf).1=⟨0,zeroV,false,false,zeroD,[]⟩:=by kernel_rfl
theorem al2 (Xf:DoT→DoT):(exS Xf).1.flow=0∧(exS Xf).1.ok=true∧(exS Xf).2.log.length=4∧(exS Xf).1.ks=[]:=by
 refine ⟨?_,?_,?_,?_⟩ <;> kernel_rfl
theorem al3 (Xf:DoT→DoT):∀ s ∈ (exS Xf).2.log,s.a.l.length≤1000000000∧s.r.ks.length≤10000000:=by
 have h:(exS Xf).2.log.map (fun s=>(s.a.l.length,s.r.ks.length))=[(0,0),(0,0),(0,0),(0,0)]:=by kernel_rfl
 intro s hs
 have:=List.mem_map_of_mem (f:=fun s:Sn=>(s.a.l.length,s.r.ks.length)) hs
 rw [h] at this
 have h1:s.a.l.length=0∧s.r.ks.length=0:=by simpa using this
 omega
end Go.Proofs.YtkadkmnolkkhgaaGreatDoor.Mw

/-
 alive.
-/
namespace Go.Proofs.YtkadkmnolkkhgaaGreatDoor.Mw
open Go Go.RowKit Go.Maps Go.Shelf Keys Hp Mo
open Des (Vl Ds zeroV zeroD dcs dcs_size dcs_one accF rigF appF eqV)
open Arrs (En ecs)
theorem rcs_0 (r:Rp):(rcs r)[0]? = some (.int .i64 r.flow):=rfl
theorem rcs_4 (r:Rp):(rcs r)[4]? = some (.bool r.ok):=rfl
theorem run_bdTpx (w:World) (p:Vl):(Bd 39 #[(2,.bool true),(1,.agg (vcs p))]).run Tryz.prog w = .ok (.agg (tcs (freshT 0 p))) w:=run_build w _ _ _ (by kernel_rfl)
theorem run_bdV1n (w:World):(Bd 30 #[(0,.int .i64 1)]).run Tryz.prog w = .ok (.agg (vcs nullV)) w:=run_build w _ _ _ (by kernel_rfl)
theorem run_bdKa (w:World):(Bd 32 #[(0,.string ⟨#[97]⟩)]).run Tryz.prog w = .ok (.agg (kcs (⟨#[97]⟩,0))) w:=run_build w _ _ _ (by kernel_rfl)
theorem al_make:makeF (bare (freshT 0 nullV)) [] [] (newA 100 10 10)=exA:=by kernel_rfl
theorem al_cr1 (Xf:DoT→DoT) (c:Nat):cr (exR Xf).1 c=c+1:=by unfold cr;rw [al1];rfl
theorem al_cr2 (Xf:DoT→DoT) (c:Nat):cr (exS Xf).1 c=c+1:=by
 have h:abr (exS Xf).1=false:=by kernel_rfl
 unfold cr
 rw [h]
 rfl
theorem al_m1 (Xf:DoT→DoT) (kv:Value):((exR Xf).1.mem kv).flow=0∧((exR Xf).1.mem kv).ok=false:=by rw [al1];exact ⟨rfl,rfl⟩
theorem al_m2 (Xf:DoT→DoT) (kv:Value):((exS Xf).1.mem kv).ok=true:=(al2 Xf).2.1
attribute [local go_sem ↓] ldR stR alR bxR bdR ldV stV alV bxV bdV ldA stA bxA bdA ldKy bxKy bdKy bdT
attribute [local irreducible] rcs dcs ecs vcs acs kcs xcs tcs
attribute [local go_sem] run_bx run_alR run_stRg run_bdA0 run_bdAk run_bdAkr run_bdAkvr run_bdAr run_bdAkd run_bdRz run_bdRd run_bdRk run_bdRf run_bdRo run_bdRs run_bdRt' run_bdTpx run_bdV1n run_bdKa
section
variable {X:Cx} {c:Nat} {M M' M'':Wm} {w w' w'':World} {A A' A'':Aw} {ls:List Lc} {kl:List (Value × List KV)} {ro:List Lc} {D:DoT}
theorem al_wmake {w w1:World} {wb:Nat} {M1:Wm} (h1:WIs (⟨w,wb,.nilIface,false,0,min (max 10 0) 1000⟩:Cx) 100000 M1 w1 (newA 100 10 10)):Calls Tryz.prog 17 #[ptr M1.hb,.agg (tcs (freshT 0 nullV))] w1 (MakeP (⟨w,wb,.nilIface,false,0,min (max 10 0) 1000⟩:Cx) 99999 M1 w1 (newA 100 10 10) ⟨bare (freshT 0 nullV),[],[]⟩) :=
 wMake (c:=99999) h1 (th:=freshT 0 nullV) (es:=[]) (vs:=[]) ⟨⟨none,0,rfl,fun j e he=>by simp at he⟩,⟨none,0,rfl,.inl rfl⟩,fun e he=>(by cases he),by decide,by decide⟩ (by simp) (by decide) (fun _=>by decide)
theorem al_made {w w1 w2:World} {wb:Nat} {M1:Wm} {e:Ending} (hp:MakeP (⟨w,wb,.nilIface,false,0,min (max 10 0) 1000⟩:Cx) 99999 M1 w1 (newA 100 10 10) ⟨bare (freshT 0 nullV),[],[]⟩ e w2):e = .returned (.tuple #[.int .i64 0,.bool true])∧∃ M2,WIs (⟨w,wb,.nilIface,false,0,min (max 10 0) 1000⟩:Cx) 99999 M2 w2 exA:=by
 unfold MakeP at hp
 rw [if_pos (by decide)] at hp
 obtain ⟨rfl,M2,hb2,h2,n2⟩:=hp
 rw [← al_make]
 exact ⟨rfl,M2,h2⟩
theorem al_do1 {w w2:World} {wb:Nat} {M2:Wm} (Xf:DoT→DoT) (h2:WIs (⟨w,wb,.nilIface,false,0,min (max 10 0) 1000⟩:Cx) 99999 M2 w2 exA):Calls Tryz.prog 19 #[ptr wb,.int .i64 7,.int .i64 0,.agg (acs { zeroQ with k:=(⟨#[97]⟩,0) } nilS)] w2 (Post (⟨w,wb,.nilIface,false,0,min (max 10 0) 1000⟩:Cx) 99998 M2 w2 (exR Xf)) :=
 doIs_plain (X:=(⟨w,wb,.nilIface,false,0,min (max 10 0) 1000⟩:Cx)) (by show min (max (10:Int) 0) 1000≤1000;decide) rfl rfl Xf (k:=10) (by show (0:Int)≤0;decide) (by show (0:Int)+(10:Nat)=min (max 10 0) 1000;decide) 99998 M2 w2 exA 7 0 exQ nilS h2 ⟨by decide,by decide,by decide⟩ (VsOut.nil _ _) (by simp [exQ,zeroQ])
theorem al_do2 {w w2:World} {wb:Nat} {M2:Wm} (Xf:DoT→DoT) (h2:WIs (⟨w,wb,.nilIface,false,0,min (max 10 0) 1000⟩:Cx) 99999 M2 w2 (exR Xf).2):Calls Tryz.prog 19 #[ptr wb,.int .i64 3,.int .i64 0,.agg (acs zeroQ nilS)] w2 (Post (⟨w,wb,.nilIface,false,0,min (max 10 0) 1000⟩:Cx) 99998 M2 w2 (exS Xf)) :=
 doIs_plain (X:=(⟨w,wb,.nilIface,false,0,min (max 10 0) 1000⟩:Cx)) (by show min (max (10:Int) 0) 1000≤1000;decide) rfl rfl Xf (k:=10) (by show (0:Int)≤0;decide) (by show (0:Int)+(10:Nat)=min (max 10 0) 1000;decide) 99998 M2 w2 (exR Xf).2 3 0 zeroQ nilS h2 fine_zero (VsOut.nil _ _) (by simp [zeroQ])
set_option maxRecDepth 100000 in
set_option maxHeartbeats 4000000 in
theorem alive_any (w:World) (hLw:Nums.Lw w):Calls Tryz.prog 13 #[] w fun e w'=>e = .returned (.bool true)∧Below w.heap.size w w':=by
 have hnew:=new_any w hLw 100 10 10 100000 (by decide) false (Below.refl _ w)
 obtain ⟨Xf,hXf⟩:∃ Xf:DoT→DoT,Xf=fun D=>D:=⟨_,rfl⟩
 clear hXf hLw
 go_enter Tryz.func13,Tryz.ntmps13
 go_wp2_with (first
  | (go_at_call 14
     (with_reducible refine hnew.mono ?_)
     rintro e w1 ⟨wb,M1,rfl,h1,-,-,-⟩
     have c0:w1.cell? ⟨wb,0,none⟩=some (ptr M1.hb):=h1.wblk.cell 0
     have hmk:=al_wmake h1
     have H1:=Lib.hid h1
     clear h1 hnew)
  | (go_at_call 17
     (with_reducible refine hmk.mono ?_)
     intro e w2 hp
     obtain ⟨rfl,M2,h2⟩:=al_made hp
     have hd:=al_do1 Xf h2
     have HF2:=Lib.hid (Fm.start h2)
     clear h2 hp hmk)
  | (go_at_call 19
     (with_reducible refine hd.mono ?_)
     rintro e w3 ⟨M3,kv3,rfl,hks,hM,hn⟩
     have hg3:=Rr.good _ hks
     have F3:=HF2.out.post hks hM hn
     rw [al_cr1] at F3
     have F3:=F3.new (rcs ((exR Xf).1.mem kv3)) 57
     have hd2:=al_do2 Xf F3.wis
     have HF3:=Lib.hid F3
     clear hks hM hn F3 hd)
  | (go_at_call 19
     (with_reducible refine hd2.mono ?_)
     rintro e w5 ⟨M5,kv5,rfl,hks,hM,hn⟩
     have hg5:=Rr.good _ hks
     have F5:=HF3.out.post hks hM hn
     rw [al_cr2] at F5
     have F5:=F5.new (rcs ((exS Xf).1.mem kv5)) 57
     have hlog:=log_any F5.wis (al3 Xf)
     rw [(al2 Xf).2.2.1] at hlog
     have q0:=(F5.l1.blk.cell 0).trans (rcs_0 _)
     have q4:=(F5.l1.blk.cell 4).trans (rcs_4 _)
     have p4:=(F5.l0.blk.cell 4).trans (rcs_4 _)
     rw [(al_m1 Xf kv3).1] at q0
     rw [(al_m1 Xf kv3).2] at q4
     rw [al_m2 Xf kv5] at p4
     have HF5:=Lib.hid F5
     clear hks hM hn F5 hd2)
  | (go_at_call 44
     (with_reducible refine hlog.mono ?_)
     rintro e w7 ⟨g7,rfl,hb7⟩
     have HB:=Lib.hid (show Below w.heap.size w w7 from HF5.out.wis.bel.trans (hb7.mono HF5.out.wis.bel.size))
     clear hb7 hlog))
 go_ret
 exact ⟨rfl,HB.out⟩
end
end Go.Proofs.YtkadkmnolkkhgaaGreatDoor.Mw

/-
 Right at a thing that holds nothing.
-/
namespace Go.Proofs.YtkadkmnolkkhgaaGreatDoor.Mw
open Go Go.RowKit Go.Maps Go.Shelf Keys Hp Mo
open Des (Vl Ds zeroV zeroD dcs dcs_size dcs_one)
open Arrs (En ecs)
end Go.Proofs.YtkadkmnolkkhgaaGreatDoor.Mw

/-
 Right at a thing that holds nothing.
-/
namespace Go.Proofs.YtkadkmnolkkhgaaGreatDoor.Mw
open Go Go.RowKit Go.Maps Go.Shelf Keys Hp Mo
open Des (Vl Ds zeroV zeroD dcs dcs_size dcs_one accF rigF appF eqV)
open Arrs (En ecs)
attribute [local go_sem ↓] ldR stR alR bxR bdR ldV stV alV bxV bdV ldA stA bxA bdA ldKy bxKy bdKy ldT stT alT
attribute [local irreducible] rcs dcs ecs vcs acs kcs xcs tcs
attribute [local go_sem] run_bx run_alR run_stRg run_bdA0 run_bdAk run_bdAkr run_bdAkvr run_bdAr run_bdAkd run_bdRz run_bdRd run_bdRk run_bdRf run_bdRo run_bdRs run_bdRt' run_bdKs run_alT run_alV
section
variable {X:Cx} {c:Nat} {M M' M'':Wm} {w w' w'':World} {A A' A'':Aw} {ls:List Lc} {kl:List (Value × List KV)} {ro:List Lc} {D:DoT}
end
end Go.Proofs.YtkadkmnolkkhgaaGreatDoor.Mw

/-
 plain: a world of plain objects, each the next one's prototype.
-/
namespace Go.Proofs.YtkadkmnolkkhgaaGreatDoor.Mw
open Go Go.RowKit Go.Maps Go.Shelf Keys Hp Mo
open Des (Vl Ds zeroV zeroD dcs dcs_size dcs_one accF rigF appF eqV)
open Arrs (En ecs)
def plG (p:Vl) (a:Option Addr) (n c:Nat):Th:={ zeroT with proto:=p,ext:=true,props:=.slice a n c }
def rtG (a:Option Addr) (n c:Nat):Th:={ zeroT with proto:=nullV,props:=.slice a n c }
theorem run_bdPl (w:World) (p:Vl) (a:Option Addr) (n c:Nat):(Bd 39 #[(1,.agg (vcs p)),(2,.bool true),(3,.slice a n c)]).run Tryz.prog w = .ok (.agg (tcs (plG p a n c))) w:=run_build w _ _ _ (by kernel_rfl)
theorem run_bdRt (w:World) (a:Option Addr) (n c:Nat):(Bd 39 #[(1,.agg (vcs nullV)),(3,.slice a n c)]).run Tryz.prog w = .ok (.agg (tcs (rtG a n c))) w:=run_build w _ _ _ (by kernel_rfl)
theorem run_bdN1 (w:World):(Bd 30 #[(0,.int .i64 1)]).run Tryz.prog w = .ok (.agg (vcs nullV)) w:=run_bdV1 w 1
theorem run_bdO6 (w:World) (n:Int):(Bd 30 #[(0,.int .i64 6),(1,.int .i64 n)]).run Tryz.prog w = .ok (.agg (vcs (objV n))) w:=run_bdV2 w 6 n
def BsT (ps:Array (Nat × Value)):Sem Value:=Instr.buildSlice 95 1 ps
theorem bsT (ps:Array (Nat × Value)):Instr.buildSlice 95 1 ps=BsT ps:=(rfl)
section
variable {X:Cx} {c:Nat} {M M' M'':Wm} {w w' w'':World} {A A' A'':Aw}
end
attribute [local go_sem ↓] ldR stR alR bxR bdR ldV stV alV bxV bdV ldA stA bxA bdA ldKy bxKy bdKy ldT stT alT bdT
attribute [local irreducible] rcs dcs ecs vcs acs kcs xcs tcs
attribute [local go_sem] run_bx run_alR run_stRg run_bdA0 run_bdAk run_bdAkr run_bdAkvr run_bdAr run_bdAkd run_bdRz run_bdRd run_bdRk run_bdRf run_bdRo run_bdRs run_bdRt' run_bdKs run_alT run_alV run_stVg
attribute [local go_sem ↓] bsT
attribute [local go_sem] run_bdPl run_bdRt run_bdN1 run_bdO6
section
variable {X:Cx} {c:Nat} {M M' M'':Wm} {w w' w'':World}
end
end Go.Proofs.YtkadkmnolkkhgaaGreatDoor.Mw

/-
 value, link, side at any value.
-/
namespace Go.Proofs.YtkadkmnolkkhgaaGreatDoor.Mw
open Go Go.RowKit Go.Maps Go.Shelf Keys Hp Mo
open Des (Vl Ds zeroV zeroD dcs dcs_size dcs_one accF rigF appF eqV)
open Arrs (En ecs)
theorem vv_k {w:World} {b:Nat} {v:Vl} {T:TypeId} (h:Blk w b (vcs v) T):w.cell? ⟨b,0,none⟩=some (.int .i64 v.k):=h.cell 0
theorem vv_n {w:World} {b:Nat} {v:Vl} {T:TypeId} (h:Blk w b (vcs v) T):w.cell? ⟨b,1,none⟩=some (.int .i64 v.n):=h.cell 1
theorem vv_s {w:World} {b:Nat} {v:Vl} {T:TypeId} (h:Blk w b (vcs v) T):w.cell? ⟨b,2,none⟩=some (.string v.s):=h.cell 2
def valB (v:Vl) (n:Int):Bool:=Vals.rightF v.k v.n v.s && (v.k != 6 || decide (v.n < n)) && decide (v.s.size≤100)
theorem rv_at (v:Vl) (hs:v.s.size≤2000000) (w:World):Calls Tryz.prog 28 #[.agg (vcs v)] w fun e w'=>e = .returned (.bool (Vals.rightF v.k v.n v.s))∧Below w.heap.size w w':=Vals.rv_any v.k v.n v.s w hs
attribute [local go_sem ↓] ldV stV alV bxV bdV ldD stD alD bxDe
attribute [local irreducible] dcs vcs
attribute [local go_sem] run_bx run_alV
section
set_option maxRecDepth 100000 in
set_option maxHeartbeats 4000000 in
theorem value_any (v:Vl) (n:Int) (hs:v.s.size≤2000000) (w:World):Calls Tryz.prog 15 #[.agg (vcs v),.int .i64 n] w fun e w'=>e = .returned (.bool (valB v n))∧Below w.heap.size w w':=by
 have HB:=Lib.hid (show Below w.heap.size w (w.alloc (.cells (vcs v) 30)) from (Below.refl _ w).alloc (Nat.le_refl _) _)
 have hx:=Blk.new w (vcs v) 30
 have lv:=run_ldVp hx
 have hr:=rv_at v hs (w.alloc (.cells (vcs v) 30))
 have HX:=Lib.hid hx
 obtain ⟨B,hB⟩:∃ B,valB v n=B:=⟨_,rfl⟩
 rw [hB]
 have HBB:=Lib.hid hB
 clear hx hB
 cases hR:Vals.rightF v.k v.n v.s with
 | false =>
  rw [hR] at hr
  have e:B=false:=by rw [← HBB.out];unfold valB;rw [hR];rfl
  subst e
  clear hR hs
  go_enter Tryz.func15,Tryz.ntmps15
  go_wp2_with (go_at_call 28;(with_reducible refine hr.mono ?_);rintro e w2 ⟨rfl,hb⟩;have h2:=HX.out.call hb;have k0:=vv_k h2;have k1:=vv_n h2;have k2:=vv_s h2;have HB2:=Lib.hid (HB.out.trans (hb.mono HB.out.size));clear h2 hb)
  go_ret
  exact ⟨rfl,HB2.out⟩
 | true =>
  rw [hR] at hr
  have e:B=((v.k != 6 || decide (v.n < n)) && decide (v.s.size≤100)):=by rw [← HBB.out];unfold valB;rw [hR];rfl
  clear hR hs
  by_cases hk:v.k=6
  ·have dk:(v.k != 6)=false:=by simp [hk]
   by_cases hn:v.n < n
   ·have dn:decide (v.n < n)=true:=by simp [hn]
    rw [dk,dn] at e
    simp only [Bool.false_or,Bool.true_and] at e
    subst e
    clear hk hn
    go_enter Tryz.func15,Tryz.ntmps15
    go_wp2_with (go_at_call 28;(with_reducible refine hr.mono ?_);rintro e w2 ⟨rfl,hb⟩;have h2:=HX.out.call hb;have k0:=vv_k h2;have k1:=vv_n h2;have k2:=vv_s h2;have HB2:=Lib.hid (HB.out.trans (hb.mono HB.out.size));clear h2 hb)
    go_ret
    exact ⟨by simp;omega,HB2.out⟩
   ·have dn:decide (v.n < n)=false:=by simp;omega
    rw [dk,dn] at e
    simp only [Bool.false_or,Bool.false_and] at e
    subst e
    clear hk hn
    go_enter Tryz.func15,Tryz.ntmps15
    go_wp2_with (go_at_call 28;(with_reducible refine hr.mono ?_);rintro e w2 ⟨rfl,hb⟩;have h2:=HX.out.call hb;have k0:=vv_k h2;have k1:=vv_n h2;have k2:=vv_s h2;have HB2:=Lib.hid (HB.out.trans (hb.mono HB.out.size));clear h2 hb)
    go_ret
    exact ⟨rfl,HB2.out⟩
  ·have dk:(v.k != 6)=true:=by simp [hk]
   rw [dk] at e
   simp only [Bool.true_or,Bool.true_and] at e
   subst e
   clear hk
   go_enter Tryz.func15,Tryz.ntmps15
   go_wp2_with (go_at_call 28;(with_reducible refine hr.mono ?_);rintro e w2 ⟨rfl,hb⟩;have h2:=HX.out.call hb;have k0:=vv_k h2;have k1:=vv_n h2;have k2:=vv_s h2;have HB2:=Lib.hid (HB.out.trans (hb.mono HB.out.size));clear h2 hb)
   go_ret
   exact ⟨by simp;omega,HB2.out⟩
def sideB (d:Ds) (n:Int):Bool:=valB d.v n && valB d.g n && valB d.s n
set_option maxRecDepth 100000 in
set_option maxHeartbeats 4000000 in
theorem side_any (d:Ds) (n:Int) (h1:d.v.s.size≤2000000) (h2:d.g.s.size≤2000000) (h3:d.s.s.size≤2000000) (w:World):Calls Tryz.prog 47 #[.agg (dcs d),.int .i64 n] w fun e w'=>e = .returned (.bool (sideB d n))∧Below w.heap.size w w':=by
 have HB0:=Lib.hid (show Below w.heap.size w (w.alloc (.cells (dcs d) 34)) from (Below.refl _ w).alloc (Nat.le_refl _) _)
 have hx:=Blk.new w (dcs d) 34
 have l1:=d_v hx
 have hv:=fun w=>value_any d.v n h1 w
 have hg:=fun w=>value_any d.g n h2 w
 have hsd:=fun w=>value_any d.s n h3 w
 have HX0:=Lib.hid hx
 obtain ⟨B,hB⟩:∃ B,sideB d n=B:=⟨_,rfl⟩
 rw [hB]
 unfold sideB at hB
 clear hx h1 h2 h3
 cases e1:valB d.v n with
 | false =>
  rw [e1] at hB
  simp only [e1] at hv
  have hB:B=false:=by rw [← hB];rfl
  subst hB
  go_enter Tryz.func47,Tryz.ntmps47
  go_wp2_with (go_at_call 15;(with_reducible refine (hv _).mono ?_);rintro e w1 ⟨rfl,hb⟩;have HB1:=Lib.hid (HB0.out.trans (hb.mono HB0.out.size));clear hb)
  go_ret
  exact ⟨rfl,HB1.out⟩
 | true =>
  rw [e1] at hB
  simp only [e1] at hv
  cases e2:valB d.g n with
  | false =>
   rw [e2] at hB
   simp only [e2] at hg
   have hB:B=false:=by rw [← hB];rfl
   subst hB
   go_enter Tryz.func47,Tryz.ntmps47
   go_wp2_with (go_at_call 15;(with_reducible refine (hv _).mono ?_);rintro e w1 ⟨rfl,hb⟩;have h:=HX0.out.call hb;have l2:=d_g h;have HB1:=Lib.hid (HB0.out.trans (hb.mono HB0.out.size));clear hb h hv;refine Hid.out ?_)
   refine Lib.hid ?_
   go_wp2_with (go_at_call 15;(with_reducible refine (hg _).mono ?_);rintro e w2 ⟨rfl,hb⟩;have HB2:=Lib.hid (HB1.out.trans (hb.mono HB1.out.size));clear hb)
   go_ret
   exact ⟨rfl,HB2.out⟩
  | true =>
   rw [e2] at hB
   simp only [e2] at hg
   obtain ⟨b3,hb3⟩:∃ b3,valB d.s n=b3:=⟨_,rfl⟩
   rw [hb3] at hB
   simp only [hb3] at hsd
   have hB:B=b3:=by rw [← hB];simp
   subst hB
   clear hb3
   go_enter Tryz.func47,Tryz.ntmps47
   go_wp2_with (go_at_call 15;(with_reducible refine (hv _).mono ?_);rintro e w1 ⟨rfl,hb⟩;have h:=HX0.out.call hb;have l2:=d_g h;have HX1:=Lib.hid h;have HB1:=Lib.hid (HB0.out.trans (hb.mono HB0.out.size));clear hb h hv;refine Hid.out ?_)
   refine Lib.hid ?_
   go_wp2_with (go_at_call 15;(with_reducible refine (hg _).mono ?_);rintro e w2 ⟨rfl,hb⟩;have h:=HX1.out.call hb;have l3:=d_s h;have HB2:=Lib.hid (HB1.out.trans (hb.mono HB1.out.size));clear hb h hg;refine Hid.out ?_)
   refine Lib.hid ?_
   go_wp2_with (go_at_call 15;(with_reducible refine (hsd _).mono ?_);rintro e w3 ⟨rfl,hb⟩;have HB3:=Lib.hid (HB2.out.trans (hb.mono HB2.out.size));clear hb)
   go_ret
   exact ⟨rfl,HB3.out⟩
end
end Go.Proofs.YtkadkmnolkkhgaaGreatDoor.Mw

/-
 Big at any list: an exact answer.
-/
namespace Go.Proofs.YtkadkmnolkkhgaaGreatDoor.Mw
open Go Go.RowKit Go.Maps Go.Shelf Keys Hp Mo
open Des (Vl Ds zeroV zeroD dcs dcs_size dcs_one accF rigF appF eqV)
open Arrs (En ecs ecs_0 ecs_10)
end Go.Proofs.YtkadkmnolkkhgaaGreatDoor.Mw

/-
 Right at one thing with properties.
-/
namespace Go.Proofs.YtkadkmnolkkhgaaGreatDoor.Mw
open Go Go.RowKit Go.Maps Go.Shelf Keys Hp Mo
open Des (Vl Ds zeroV zeroD dcs dcs_size dcs_one accF rigF appF eqV whR whr_any)
open Arrs (En ecs ecs_0 ecs_10)
def eqK (a:ByteArray) (n:Int) (b:ByteArray) (m:Int):Bool:=a.toList == b.toList && n == m
theorem run_eqK (a b:ByteArray) (n m:Int) (w:World):(Op.equalIn 10000 32 (.agg #[.string a,.int .i64 n]) (.agg #[.string b,.int .i64 m])).run Tryz.prog w = .ok (eqK a n b m) w:=by
 unfold eqK
 by_cases h1:a.toList=b.toList
 ·by_cases h2:n=m
  ·simp [go_sem,h1,h2]
  ·simp [go_sem,h1,h2]
 ·simp [go_sem,h1]
theorem run_eqKc (a b:KV) (w:World):(Op.equalIn 10000 32 (.agg (kcs a)) (.agg (kcs b))).run Tryz.prog w = .ok (eqK a.1 a.2 b.1 b.2) w:=run_eqK a.1 b.1 a.2 b.2 w
section
variable {w:World} {b:Nat} {a:Option Addr} {n c:Nat} {T:TypeId}
end
end Go.Proofs.YtkadkmnolkkhgaaGreatDoor.Mw

/-
 May at an act whose list is empty: it answers, and what is old stays.
-/
namespace Go.Proofs.YtkadkmnolkkhgaaGreatDoor.Mw
open Go Go.RowKit Go.Maps Go.Shelf Keys Hp Mo
open Des (Vl Ds zeroV zeroD dcs dcs_size dcs_one accF rigF appF eqV rigR rigr_any)
open Arrs (En ecs ecs_0 ecs_10)
def actC (a:Aq):Array Value:=#[.int .i64 0,.int .i64 0,.string a.k.1,.int .i64 a.k.2,.int .i64 a.v.k,.int .i64 a.v.n,.string a.v.s,.int .i64 a.r.k,.int .i64 a.r.n,.string a.r.s,.bool a.d.hv,.bool a.d.hg,.bool a.d.hs,.bool a.d.hw,.bool a.d.he,.bool a.d.hc,.int .i64 a.d.v.k,.int .i64 a.d.v.n,.string a.d.v.s,.int .i64 a.d.g.k,.int .i64 a.d.g.n,.string a.d.g.s,.int .i64 a.d.s.k,.int .i64 a.d.s.n,.string a.d.s.s,.bool a.d.w,.bool a.d.e,.bool a.d.c,nilS]
theorem alAk:Instr.alloc 52 true (.tuple #[])=Al 52:=(rfl)
theorem run_alAk (w:World):(Al 52).run Tryz.prog w = .ok (ptr w.heap.size) (w.alloc (.cells (acs zeroQ nilS) 52)):=run_al (z:=.agg (acs zeroQ nilS)) (n:=27) (by kernel_rfl) w
theorem aq_0 {w:World} {b:Nat} {a:Aq} {l:Value} {T:TypeId} (h:Blk w b (acs a l) T):w.cell? ⟨b,0,none⟩=some (.string a.k.1):=h.cell 0
theorem aq_1 {w:World} {b:Nat} {a:Aq} {l:Value} {T:TypeId} (h:Blk w b (acs a l) T):w.cell? ⟨b,1,none⟩=some (.int .i64 a.k.2):=h.cell 1
theorem bxAct (v:Value):Instr.box 54 v=Bx 54 v:=(rfl)
attribute [local go_sem ↓] ldV stV alV bxV bdV ldA stA bxA bdA ldD stD alD bxDe alAk bxAct
attribute [local irreducible] dcs vcs acs actC
attribute [local go_sem] run_bx run_alAk run_alD
section
end
end Go.Proofs.YtkadkmnolkkhgaaGreatDoor.Mw
