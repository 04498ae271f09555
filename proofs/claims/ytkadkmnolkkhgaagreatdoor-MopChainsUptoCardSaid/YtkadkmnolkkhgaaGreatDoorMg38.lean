/-
 Texts of this seat in build order: MwPlain, MwVal, MwRightC, MwRightD.
-/
import Derived.Test.YtkadkmnolkkhgaaGreatDoorMg37
import Derived.Deep.LoopGhost
import Derived.Test.YtkadkmnolkkhgaaGreatDoorMg17
import Derived.Test.YtkadkmnolkkhgaaGreatDoorMg04
import Derived.Test.YtkadkmnolkkhgaaGreatDoorMg30
import Derived.Test.YtkadkmnolkkhgaaGreatDoorMg03
import Derived.Test.YtkadkmnolkkhgaaGreatDoorMg06
import Derived.Laws.StructEq
/-
 plain: a world of plain objects, each the next one's prototype.
-/
set_option linter.unusedVariables false
set_option linter.unusedSimpArgs false
namespace Go.Proofs.YtkadkmnolkkhgaaGreatDoor.Mw
open Go Go.RowKit Go.Maps Go.Shelf Keys Hp Mo
open Des (Vl Ds zeroV zeroD dcs dcs_size dcs_one accF rigF appF eqV)
open Arrs (En ecs)
def plTh (n i:Nat):Th:=freshT 0 (if i+1 < n then objV (i+1:Nat) else nullV)
def plL (ess:List (List En)) (k:Nat):List Ob:=(List.range k).map fun i=>⟨plTh ess.length i,ess[i]?.getD [],[]⟩
theorem plL_succ (ess:List (List En)) (k:Nat):plL ess (k+1)=plL ess k++[⟨plTh ess.length k,ess[k]?.getD [],[]⟩]:=by simp [plL,List.range_succ]
theorem plL_len (ess:List (List En)) (k:Nat):(plL ess k).length=k:=by simp [plL]
def plA (F R D:Int) (ess:List (List En)) (k:Nat):Aw:={ newA F R D with objs:=plL ess k }
def plG (p:Vl) (a:Option Addr) (n c:Nat):Th:={ zeroT with proto:=p,ext:=true,props:=.slice a n c }
def rtG (a:Option Addr) (n c:Nat):Th:={ zeroT with proto:=nullV,props:=.slice a n c }
theorem plG_ok (p:Vl) (a:Option Addr) (n c:Nat):(plG p a n c).ok:=⟨⟨a,n,c,rfl⟩,⟨none,0,0,rfl⟩⟩
theorem rtG_ok (a:Option Addr) (n c:Nat):(rtG a n c).ok:=⟨⟨a,n,c,rfl⟩,⟨none,0,0,rfl⟩⟩
theorem run_bdPl (w:World) (p:Vl) (a:Option Addr) (n c:Nat):(Bd 39 #[(1,.agg (vcs p)),(2,.bool true),(3,.slice a n c)]).run Tryz.prog w = .ok (.agg (tcs (plG p a n c))) w:=run_build w _ _ _ (by kernel_rfl)
theorem run_bdRt (w:World) (a:Option Addr) (n c:Nat):(Bd 39 #[(1,.agg (vcs nullV)),(3,.slice a n c)]).run Tryz.prog w = .ok (.agg (tcs (rtG a n c))) w:=run_build w _ _ _ (by kernel_rfl)
theorem run_bdN1 (w:World):(Bd 30 #[(0,.int .i64 1)]).run Tryz.prog w = .ok (.agg (vcs nullV)) w:=run_bdV1 w 1
theorem run_bdO6 (w:World) (n:Int):(Bd 30 #[(0,.int .i64 6),(1,.int .i64 n)]).run Tryz.prog w = .ok (.agg (vcs (objV n))) w:=run_bdV2 w 6 n
def BsT (ps:Array (Nat × Value)):Sem Value:=Instr.buildSlice 95 1 ps
theorem bsT (ps:Array (Nat × Value)):Instr.buildSlice 95 1 ps=BsT ps:=(rfl)
theorem infoT3:(Tryz.prog.info? 39).map (fun i=>(i.zero,i.size,i.bytes))=some (some (.agg (tcs zeroT)),24,256):=by kernel_rfl
theorem run_bsT (w:World) (t:Th) (ht:t.ok):(BsT #[(0,.agg (tcs t))]).run Tryz.prog w = .ok (.slice (some ⟨w.heap.size,0,none⟩) 1 1) (w.alloc (.cells (tcs t) 39)):=by
 obtain ⟨i,hi,hz,hs,hb⟩:=info_parts infoT3
 exact run_buildSlice w 95 39 1 _ (tcs t) i (.agg (tcs zeroT)) Tryz.underlying95 hi hz (by rw [hs];decide) (by rw [hs];decide) (by rw [hs];have h:=Go.Great.fill_whole (s:=24) (by decide) [.agg (tcs t)] ((Array.range (1*24)).map ((Value.agg (tcs zeroT)).cells[· % (Value.agg (tcs zeroT)).cells.size]!)) (fun v hv=>by rw [List.mem_singleton.1 hv];rfl) (by simp);simpa [Value.cells] using h)
def RightIs (b:Bool) (es:List En) (a:Option Addr) (c:Nat):Prop:=∀ (w:World) (g:Nat),Blk w g (tcs (rtG a es.length c)) 39→Hp.EsAt w.heap.size a es w→Calls Tryz.prog 41 #[.slice (some ⟨g,0,none⟩) 1 1] w fun e w'=>e = .returned (.bool b)∧Below w.heap.size w w'
section
variable {X:Cx} {c:Nat} {M M' M'':Wm} {w w' w'':World} {A A' A'':Aw}
theorem wMakeDup (h:WIs X (c+1) M w A) {th:Th} {es:List En} {vs:List Vl} (hg:Give w th es vs) (hr:(A.objs.length:Int) < A.room) :
  Calls Tryz.prog 17 #[ptr M.hb,.agg (tcs th)] w fun e w'=>e = .returned (.tuple #[.int .i64 A.objs.length,.bool true])∧Below X.W0.heap.size X.W0 w':=by
 obtain ⟨a,cc,hos⟩:=h.os_shape
 have hb:=h.hblk
 rw [hos] at hb
 have hfew:=h.few
 have horow:=h.orow
 rw [hos] at horow
 refine (make_any 0 M.hb A.room a A.objs.length cc A.sy _ th es vs w hb (Nat.zero_le _) horow (by omega) hr fun w1 hb1=>(hg.call hb1).store).mono ?_
 rintro e w' ⟨rfl,g,c1,h1,ob,pb,mb,ns,a2,m2,c2,h2,hat,h4,h5,h6⟩
 refine ⟨rfl,h4.os.trans h.bel.os,h4.tape.trans h.bel.tape,h4.output.trans h.bel.output,Nat.le_trans h.bel.size h4.size,fun b hb'=>?_⟩
 have hbw:b < w.heap.size:=Nat.lt_of_lt_of_le hb' h.bel.size
 rw [h5 b hbw (fun e=>by have:=h.low _ (mem_hb M X.wb);omega) (fun e=>by
  have:b ∈ M.bl X.wb:=mem_os (obl_mem (by rw [hos];exact e))
  have:=h.low _ this
  omega),h.bel.block b hb']
end
attribute [local go_sem ↓] ldR stR alR bxR bdR ldV stV alV bxV bdV ldA stA bxA bdA ldKy bxKy bdKy ldT stT alT bdT
attribute [local irreducible] rcs dcs ecs vcs acs kcs xcs tcs
attribute [local go_sem] run_bx run_alR run_stRg run_bdA0 run_bdAk run_bdAkr run_bdAkvr run_bdAr run_bdAkd run_bdRz run_bdRd run_bdRk run_bdRf run_bdRo run_bdRs run_bdRt' run_bdKs run_alT run_alV run_stVg
attribute [local go_sem ↓] bsT
attribute [local go_sem] run_bdPl run_bdRt run_bdN1 run_bdO6
section
variable {X:Cx} {c:Nat} {M M' M'':Wm} {w w' w'':World}
structure PlArg (w:World) (a:Option Addr) (ess:List (List En)) (Rg:List En→Bool):Prop where
 len:ess.length≤100
 el:∀ (j:Nat) (es:List En),ess[j]? = some es→∃ b off aj cj,a=some ⟨b,off,none⟩∧b < w.heap.size∧w.cell? ⟨b,off+j,none⟩=some (.slice aj es.length cj)∧Hp.EsAt w.heap.size aj es w∧RightIs (Rg es) es aj cj
 few:∀ es ∈ ess,es.length≤70000
 fine:∀ es ∈ ess,∀ e ∈ es,Fine (ekey e)
 nd:∀ es ∈ ess,Rg es=true→(es.map ekey).Nodup
def PlPost (w:World) (F R D:Int) (ess:List (List En)) (Rg:List En→Bool) (e:Ending) (w':World):Prop :=
 if ess.all Rg then ∃ wb M,e = .returned (.tuple #[ptr wb,.bool true])∧WIs ⟨w,wb,.nilIface,false,0,min (max D 0) 1000⟩ 100000 M w' (plA F R D ess ess.length) else e = .returned (.tuple #[.pointer none,.bool false])∧Below w.heap.size w w'
def MkP (X:Cx) (c:Nat) (M:Wm) (w:World) (A':Aw) (k:Nat) (nd:Prop) (e:Ending) (w':World):Prop:=e = .returned (.tuple #[.int .i64 k,.bool true])∧Below X.W0.heap.size X.W0 w'∧(nd→∃ M',M'.hb=M.hb∧WIs X c M' w' A')
theorem mk_any {X:Cx} {c:Nat} {M:Wm} {w:World} {A:Aw} (h:WIs X (c+1) M w A) {th:Th} {es:List En} (hg:Give w th es []) (hr:(A.objs.length:Int) < A.room) (hc:es.length+8*A.fuel.toNat+c≤900000) (hk:th.kind ≠ 4) :
  Calls Tryz.prog 17 #[ptr M.hb,.agg (tcs th)] w (MkP X c M w (makeF (bare th) es [] A) A.objs.length (es.map ekey).Nodup):=by
 by_cases hn:(es.map ekey).Nodup
 ·refine (wMake h hg hn hc (fun _=>hk)).mono fun e w' hp=>?_
  unfold MakeP at hp
  rw [if_pos hr] at hp
  obtain ⟨h1,M',h2,h3,h4⟩:=hp
  exact ⟨h1,h3.bel,fun _=>⟨M',h2,h3⟩⟩
 ·refine (wMakeDup h hg hr).mono fun e w' hp=>⟨hp.1,hp.2,fun h=>absurd h hn⟩
set_option maxRecDepth 100000 in
set_option maxHeartbeats 4000000 in
theorem plain_any (hLw:Nums.Lw w) (F R D:Int) (hF:F≤80000) (a:Option Addr) (cap:Nat) (ess:List (List En)) (Rg:List En→Bool) (hp:PlArg w a ess Rg) (hR:(ess.length:Int)≤R) :
  Calls Tryz.prog 22 #[.slice a ess.length cap,.agg #[.int .i64 F,.int .i64 R,.int .i64 D]] w (PlPost w F R D ess Rg):=by
 have hlen:=hp.len
 obtain ⟨w1,hw1⟩:∃ w1,w.alloc (.cells #[.int .i64 F,.int .i64 R,.int .i64 D] 28)=w1:=⟨_,rfl⟩
 have b1:Below w.heap.size w w1:=by rw [← hw1];exact (Below.refl _ w).alloc (Nat.le_refl _) _
 have x1:Blk w1 w.heap.size #[.int .i64 F,.int .i64 R,.int .i64 D] 28:=by rw [← hw1];exact Blk.new _ _ _
 have k0:w1.cell? ⟨w.heap.size,0,none⟩=some (.int .i64 F):=x1.cell 0
 have k1:w1.cell? ⟨w.heap.size,1,none⟩=some (.int .i64 R):=x1.cell 1
 have k2:w1.cell? ⟨w.heap.size,2,none⟩=some (.int .i64 D):=x1.cell 2
 have hnew:=new_any w hLw F R D (100000+ess.length) (by omega) false b1
 have HP:=Lib.hid hp
 have HR:=Lib.hid hR
 have HF:=Lib.hid hF
 have HL:=Lib.hid hlen
 have HWX:=Lib.hid b1
 clear hp hR hF hLw b1 x1
 go_enter Tryz.func22,Tryz.ntmps22
 go_wp2_with (go_at_call 14;(with_reducible refine hnew.mono ?_);go_loud (rintro e w2 ⟨wb,M,rfl,hW,hq1,hq2,hq3⟩;have HW:=Lib.hid hW;clear hW hq1 hq2 hq3 hnew))
 go_loopg [7] ess.length (fun g q wr=>∃ (j:Nat) (M':Wm),j≤ess.length∧g=ess.length - j∧q = .int .i64 j∧(∀ i es,i < j→ess[i]? = some es→Rg es=true)∧WIs ⟨w,wb,.nilIface,false,0,min (max D 0) 1000⟩ (100000+(ess.length - j)) M' wr (plA F R D ess j))
 case atStart=>exact ⟨0,M,by omega,rfl,rfl,(fun i es h=>by omega),HW.out⟩
 case round =>
  rename World=>wr
  obtain ⟨j,M',hj,rfl,rfl,hall,hM⟩:=hrel
  have HA:=Lib.hid hall
  by_cases hjl:j < ess.length
  ·obtain ⟨es,hes⟩:∃ es,ess[j]? = some es:=⟨ess[j],List.getElem?_eq_getElem hjl⟩
   have hmem:=List.mem_of_getElem? hes
   obtain ⟨gb,goff,aj,cj,ea,hgb,hcell,hEs,hri⟩:=HP.out.el j es hes
   subst ea
   have hfew:=HP.out.few es hmem
   have hfine:=HP.out.fine es hmem
   have HND:=Lib.hid (HP.out.nd es hmem)
   have hd1:decide ((j:Int) < ess.length)=true:=by simp;omega
   have hd2:decide (j < ess.length)=true:=by simp;omega
   have hw1':wrap64 ((j:Int)+1)=((j+1:Nat):Int):=by unfold wrap64;omega
   obtain ⟨kc,hkc⟩:∃ kc,100000+(ess.length - j)=kc+1∧kc=100000+(ess.length - (j+1)):=⟨_,by omega,rfl⟩
   rw [hkc.1] at hM
   have hlenj:(plA F R D ess j).objs.length=j:=plL_len ess j
   have HKC:=Lib.hid hkc.2
   have HRI:=Lib.hid hri
   have HES:=Lib.hid hEs
   have HGB:=Lib.hid hgb
   have HCE:=Lib.hid hcell
   have hmake:makeF (plTh ess.length j) es [] (plA F R D ess j)=plA F R D ess (j+1):=by
    unfold makeF plA
    congr 1
    rw [plL_succ,hes]
    rfl
   have HMK:=Lib.hid hmake
   have hroomj:((plA F R D ess j).objs.length:Int) < (plA F R D ess j).room:=by rw [hlenj];have:=HR.out;show (j:Int) < R;omega
   have HM:=Lib.hid hM
   clear hcell hEs hri hgb hmake hall hkc hM
   have hcase:j+1 < ess.length∨¬ j+1 < ess.length:=by omega
   rcases hcase with hlast |hlast
   ·have hth:plTh ess.length j=bare (plG (objV ((j:Int)+1)) aj es.length cj):=by unfold plTh;rw [if_pos (by omega)];rfl
    have hd3:decide (((j+1:Nat):Int) < ess.length)=true:=by simp;omega
    have hd4:decide (j+1 < ess.length)=true:=by simp;omega
    have hd5:decide ((j:Int)+1 < ess.length)=true:=by simp;omega
    obtain ⟨W8,hW8⟩:∃ W8,wr.alloc (.cells (vcs (objV ((j:Int)+1))) 30)=W8:=⟨_,rfl⟩
    have h8:WIs ⟨w,wb,.nilIface,false,0,min (max D 0) 1000⟩ (kc+1) M' W8 (plA F R D ess j):=by rw [← hW8];exact HM.out.old _
    have B8:Below w.heap.size w W8:=h8.bel
    have V8:Blk W8 wr.heap.size (vcs (objV ((j:Int)+1))) 30:=by rw [← hW8];exact Blk.new _ _ _
    have z8:W8.heap.size=wr.heap.size+1:=by rw [← hW8];simp
    have c8:W8.drew.cell? ⟨gb,goff+j,none⟩=some (.slice aj es.length cj):=(B8.drew.cell (p:=⟨gb,goff+j,none⟩) HGB.out).trans HCE.out
    have l8:=run_ldVp V8.drew
    have B9:Below w.heap.size w (W8.alloc (.cells (tcs zeroT) 39)).drew:=(B8.alloc B8.size _).drew
    have c9:(W8.alloc (.cells (tcs zeroT) 39)).drew.cell? ⟨gb,goff+j,none⟩=some (.slice aj es.length cj):=(B9.cell (p:=⟨gb,goff+j,none⟩) HGB.out).trans HCE.out
    have l9:=run_ldVp (V8.old (.cells (tcs zeroT) 39)).drew
    obtain ⟨W9,hW9⟩:∃ W9,W8.drew.alloc (.cells (tcs (plG (objV ((j:Int)+1)) aj es.length cj)) 39)=W9:=⟨_,rfl⟩
    have s9:(St 39 (.pointer (some ⟨W8.heap.size,0,none⟩)) (.agg (tcs (plG (objV ((j:Int)+1)) aj es.length cj)))).run Tryz.prog (W8.alloc (.cells (tcs zeroT) 39)).drew = .ok () W9:=by
     rw [← hW9]
     exact run_stT W8.drew (plG (objV ((j:Int)+1)) aj es.length cj) zeroT (plG_ok _ _ _ _)
    have h9:WIs ⟨w,wb,.nilIface,false,0,min (max D 0) 1000⟩ (kc+1) M' W9 (plA F R D ess j):=by rw [← hW9];exact h8.drew.old _
    have T9:Blk W9 W8.heap.size (tcs (plG (objV ((j:Int)+1)) aj es.length cj)) 39:=by rw [← hW9];exact Blk.new _ _ _
    have lT:=run_ldT T9.drew
    have h9d:=h9.drew
    have c0:W9.drew.cell? ⟨wb,0,none⟩=some (ptr M'.hb):=h9d.wblk.cell 0
    have hgv:Give W9.drew (plG (objV ((j:Int)+1)) aj es.length cj) es []:=⟨⟨aj,cj,rfl,(HES.out.below h9d.bel).mono h9d.bel.size⟩,⟨none,0,rfl,.inl rfl⟩,hfine,by omega,by simp⟩
    have hmk:=mk_any h9d hgv hroomj (by show es.length+8*(max F 0).toNat+kc≤900000;have:=HF.out;have:=HKC.out;omega) (by show (0:Int) ≠ 4;decide)
    rw [hlenj,← hth,HMK.out] at hmk
    clear h8 V8 z8 h9 T9 h9d hgv HM B8 B9 hW9
    cases hRg:Rg es with
    | true =>
     rw [hRg] at HRI HND
     have HRG:=Lib.hid hRg
     clear hRg
     go_wp2
     go_region
     all_goals go_wp2
     all_goals (go_region_with (go_at_call 17;(with_reducible refine hmk.mono ?_);go_loud (rintro e w10 ⟨rfl,hB,hN⟩;obtain ⟨M2,-,hW2⟩:=hN (HND.out trivial);have c10:w10.cell? ⟨gb,goff+j,none⟩=some (.slice aj es.length cj):=(hB.cell (p:=⟨gb,goff+j,none⟩) HGB.out).trans HCE.out;have s10:=run_bsT w10 (rtG aj es.length cj) (rtG_ok _ _ _);have hr10:=HRI.out (w10.alloc (.cells (tcs (rtG aj es.length cj)) 39)) w10.heap.size (Blk.new _ _ _) ((HES.out.below (hB.alloc hB.size _)).mono (by have hq:w.heap.size≤w10.heap.size:=hB.size;simp;omega));have HW10:=Lib.hid (hW2.old (.cells (tcs (rtG aj es.length cj)) 39));clear hB hN hW2 hmk)))
     all_goals go_wp2_with (go_at_call 41;(with_reducible refine hr10.mono ?_);rintro e w11 ⟨rfl,hb11⟩;have HW11:=Lib.hid (HW10.out.call hb11);clear hb11 hr10)
     all_goals (
      go_roundg (ess.length - (j+1))
      case measure=>omega
      case rel =>
       refine ⟨j+1,M2,by omega,rfl,by go_num,fun i es' hi hes'=>?_,?_⟩
       ·rcases (by omega:i < j∨i=j) with h |h
        ·exact HA.out i es' h hes'
        ·subst h
         rw [hes] at hes'
         cases hes'
         exact HRG.out
       ·rw [← HKC.out];exact HW11.out)
    | false =>
     rw [hRg] at HRI
     have HRG:=Lib.hid hRg
     clear hRg
     go_wp2
     go_region
     all_goals go_wp2
     all_goals (go_region_with (go_at_call 17;(with_reducible refine hmk.mono ?_);go_loud (rintro e w10 ⟨rfl,hB,hN⟩;have c10:w10.cell? ⟨gb,goff+j,none⟩=some (.slice aj es.length cj):=(hB.cell (p:=⟨gb,goff+j,none⟩) HGB.out).trans HCE.out;have s10:=run_bsT w10 (rtG aj es.length cj) (rtG_ok _ _ _);have hr10:=HRI.out (w10.alloc (.cells (tcs (rtG aj es.length cj)) 39)) w10.heap.size (Blk.new _ _ _) ((HES.out.below (hB.alloc hB.size _)).mono (by have hq:w.heap.size≤w10.heap.size:=hB.size;simp;omega));have HW10:=Lib.hid (show Below w.heap.size w (w10.alloc (.cells (tcs (rtG aj es.length cj)) 39)) from hB.alloc hB.size _);clear hB hN hmk)))
     all_goals go_wp2_with (go_at_call 41;(with_reducible refine hr10.mono ?_);rintro e w11 ⟨rfl,hb11⟩;have HW11:=Lib.hid (HW10.out.trans (hb11.mono HW10.out.size));clear hb11 hr10)
     all_goals (
      go_ret2
      unfold PlPost
      rw [if_neg (fun h=>by have:=List.all_eq_true.1 h es hmem;rw [HRG.out] at this;cases this)]
      exact ⟨rfl,HW11.out⟩)
   ·have hth:plTh ess.length j=bare (plG nullV aj es.length cj):=by unfold plTh;rw [if_neg (by omega)];rfl
    have hd3:decide (((j+1:Nat):Int) < ess.length)=false:=by simp;omega
    have hd4:decide (j+1 < ess.length)=false:=by simp;omega
    have hd5:decide ((j:Int)+1 < ess.length)=false:=by simp;omega
    obtain ⟨W8,hW8⟩:∃ W8,wr.alloc (.cells (vcs nullV) 30)=W8:=⟨_,rfl⟩
    have h8:WIs ⟨w,wb,.nilIface,false,0,min (max D 0) 1000⟩ (kc+1) M' W8 (plA F R D ess j):=by rw [← hW8];exact HM.out.old _
    have B8:Below w.heap.size w W8:=h8.bel
    have V8:Blk W8 wr.heap.size (vcs nullV) 30:=by rw [← hW8];exact Blk.new _ _ _
    have z8:W8.heap.size=wr.heap.size+1:=by rw [← hW8];simp
    have c8:W8.drew.cell? ⟨gb,goff+j,none⟩=some (.slice aj es.length cj):=(B8.drew.cell (p:=⟨gb,goff+j,none⟩) HGB.out).trans HCE.out
    have l8:=run_ldVp V8.drew
    have B9:Below w.heap.size w (W8.alloc (.cells (tcs zeroT) 39)).drew:=(B8.alloc B8.size _).drew
    have c9:(W8.alloc (.cells (tcs zeroT) 39)).drew.cell? ⟨gb,goff+j,none⟩=some (.slice aj es.length cj):=(B9.cell (p:=⟨gb,goff+j,none⟩) HGB.out).trans HCE.out
    have l9:=run_ldVp (V8.old (.cells (tcs zeroT) 39)).drew
    obtain ⟨W9,hW9⟩:∃ W9,W8.drew.alloc (.cells (tcs (plG nullV aj es.length cj)) 39)=W9:=⟨_,rfl⟩
    have s9:(St 39 (.pointer (some ⟨W8.heap.size,0,none⟩)) (.agg (tcs (plG nullV aj es.length cj)))).run Tryz.prog (W8.alloc (.cells (tcs zeroT) 39)).drew = .ok () W9:=by
     rw [← hW9]
     exact run_stT W8.drew (plG nullV aj es.length cj) zeroT (plG_ok _ _ _ _)
    have h9:WIs ⟨w,wb,.nilIface,false,0,min (max D 0) 1000⟩ (kc+1) M' W9 (plA F R D ess j):=by rw [← hW9];exact h8.drew.old _
    have T9:Blk W9 W8.heap.size (tcs (plG nullV aj es.length cj)) 39:=by rw [← hW9];exact Blk.new _ _ _
    have lT:=run_ldT T9.drew
    have h9d:=h9.drew
    have c0:W9.drew.cell? ⟨wb,0,none⟩=some (ptr M'.hb):=h9d.wblk.cell 0
    have hgv:Give W9.drew (plG nullV aj es.length cj) es []:=⟨⟨aj,cj,rfl,(HES.out.below h9d.bel).mono h9d.bel.size⟩,⟨none,0,rfl,.inl rfl⟩,hfine,by omega,by simp⟩
    have hmk:=mk_any h9d hgv hroomj (by show es.length+8*(max F 0).toNat+kc≤900000;have:=HF.out;have:=HKC.out;omega) (by show (0:Int) ≠ 4;decide)
    rw [hlenj,← hth,HMK.out] at hmk
    clear h8 V8 z8 h9 T9 h9d hgv HM B8 B9 hW9
    cases hRg:Rg es with
    | true =>
     rw [hRg] at HRI HND
     have HRG:=Lib.hid hRg
     clear hRg
     go_wp2
     go_region
     all_goals go_wp2
     all_goals (go_region_with (go_at_call 17;(with_reducible refine hmk.mono ?_);go_loud (rintro e w10 ⟨rfl,hB,hN⟩;obtain ⟨M2,-,hW2⟩:=hN (HND.out trivial);have c10:w10.cell? ⟨gb,goff+j,none⟩=some (.slice aj es.length cj):=(hB.cell (p:=⟨gb,goff+j,none⟩) HGB.out).trans HCE.out;have s10:=run_bsT w10 (rtG aj es.length cj) (rtG_ok _ _ _);have hr10:=HRI.out (w10.alloc (.cells (tcs (rtG aj es.length cj)) 39)) w10.heap.size (Blk.new _ _ _) ((HES.out.below (hB.alloc hB.size _)).mono (by have hq:w.heap.size≤w10.heap.size:=hB.size;simp;omega));have HW10:=Lib.hid (hW2.old (.cells (tcs (rtG aj es.length cj)) 39));clear hB hN hW2 hmk)))
     all_goals go_wp2_with (go_at_call 41;(with_reducible refine hr10.mono ?_);rintro e w11 ⟨rfl,hb11⟩;have HW11:=Lib.hid (HW10.out.call hb11);clear hb11 hr10)
     all_goals (
      go_roundg (ess.length - (j+1))
      case measure=>omega
      case rel =>
       refine ⟨j+1,M2,by omega,rfl,by go_num,fun i es' hi hes'=>?_,?_⟩
       ·rcases (by omega:i < j∨i=j) with h |h
        ·exact HA.out i es' h hes'
        ·subst h
         rw [hes] at hes'
         cases hes'
         exact HRG.out
       ·rw [← HKC.out];exact HW11.out)
    | false =>
     rw [hRg] at HRI
     have HRG:=Lib.hid hRg
     clear hRg
     go_wp2
     go_region
     all_goals go_wp2
     all_goals (go_region_with (go_at_call 17;(with_reducible refine hmk.mono ?_);go_loud (rintro e w10 ⟨rfl,hB,hN⟩;have c10:w10.cell? ⟨gb,goff+j,none⟩=some (.slice aj es.length cj):=(hB.cell (p:=⟨gb,goff+j,none⟩) HGB.out).trans HCE.out;have s10:=run_bsT w10 (rtG aj es.length cj) (rtG_ok _ _ _);have hr10:=HRI.out (w10.alloc (.cells (tcs (rtG aj es.length cj)) 39)) w10.heap.size (Blk.new _ _ _) ((HES.out.below (hB.alloc hB.size _)).mono (by have hq:w.heap.size≤w10.heap.size:=hB.size;simp;omega));have HW10:=Lib.hid (show Below w.heap.size w (w10.alloc (.cells (tcs (rtG aj es.length cj)) 39)) from hB.alloc hB.size _);clear hB hN hmk)))
     all_goals go_wp2_with (go_at_call 41;(with_reducible refine hr10.mono ?_);rintro e w11 ⟨rfl,hb11⟩;have HW11:=Lib.hid (HW10.out.trans (hb11.mono HW10.out.size));clear hb11 hr10)
     all_goals (
      go_ret2
      unfold PlPost
      rw [if_neg (fun h=>by have:=List.all_eq_true.1 h es hmem;rw [HRG.out] at this;cases this)]
      exact ⟨rfl,HW11.out⟩)
  ·have hjl':j=ess.length:=by omega
   subst hjl'
   have hd1:decide ((ess.length:Int) < ess.length)=false:=by simp
   have hd2:decide (ess.length < ess.length)=false:=by simp
   have HM:=Lib.hid hM
   clear hM hjl hall
   go_wp2
   go_ret2
   unfold PlPost
   rw [if_pos (by
    rw [List.all_eq_true]
    intro es hm
    obtain ⟨i,hi⟩:=List.mem_iff_getElem?.1 hm
    exact HA.out i es (List.getElem?_eq_some_iff.1 hi).1 hi)]
   exact ⟨wb,M',rfl,by have:=HM.out;rw [Nat.sub_self] at this;exact this⟩
end
end Go.Proofs.YtkadkmnolkkhgaaGreatDoor.Mw

/-
 value, link, side at any value.
-/
namespace Go.Proofs.YtkadkmnolkkhgaaGreatDoor.Mw
open Go Go.RowKit Go.Maps Go.Shelf Keys Hp Mo
open Des (Vl Ds zeroV zeroD dcs dcs_size dcs_one accF rigF appF eqV)
open Arrs (En ecs)
theorem vv_k {w:World} {b:Nat} {v:Vl} {T:TypeId} (h:Blk w b (vcs v) T):w.cell? ⟨b,0,none⟩=some (.int .i64 v.k):=h.cell 0
theorem vv_n {w:World} {b:Nat} {v:Vl} {T:TypeId} (h:Blk w b (vcs v) T):w.cell? ⟨b,1,none⟩=some (.int .i64 v.n):=h.cell 1
theorem vv_s {w:World} {b:Nat} {v:Vl} {T:TypeId} (h:Blk w b (vcs v) T):w.cell? ⟨b,2,none⟩=some (.string v.s):=h.cell 2
def valB (v:Vl) (n:Int):Bool:=Vals.rightF v.k v.n v.s && (v.k != 6 || decide (v.n < n)) && decide (v.s.size≤100)
theorem rv_at (v:Vl) (hs:v.s.size≤2000000) (w:World):Calls Tryz.prog 28 #[.agg (vcs v)] w fun e w'=>e = .returned (.bool (Vals.rightF v.k v.n v.s))∧Below w.heap.size w w':=Vals.rv_any v.k v.n v.s w hs
attribute [local go_sem ↓] ldV stV alV bxV bdV ldD stD alD bxDe
attribute [local irreducible] dcs vcs
attribute [local go_sem] run_bx run_alV
section
set_option maxRecDepth 100000 in
set_option maxHeartbeats 4000000 in
theorem value_any (v:Vl) (n:Int) (hs:v.s.size≤2000000) (w:World):Calls Tryz.prog 15 #[.agg (vcs v),.int .i64 n] w fun e w'=>e = .returned (.bool (valB v n))∧Below w.heap.size w w':=by
 have HB:=Lib.hid (show Below w.heap.size w (w.alloc (.cells (vcs v) 30)) from (Below.refl _ w).alloc (Nat.le_refl _) _)
 have hx:=Blk.new w (vcs v) 30
 have lv:=run_ldVp hx
 have hr:=rv_at v hs (w.alloc (.cells (vcs v) 30))
 have HX:=Lib.hid hx
 obtain ⟨B,hB⟩:∃ B,valB v n=B:=⟨_,rfl⟩
 rw [hB]
 have HBB:=Lib.hid hB
 clear hx hB
 cases hR:Vals.rightF v.k v.n v.s with
 | false =>
  rw [hR] at hr
  have e:B=false:=by rw [← HBB.out];unfold valB;rw [hR];rfl
  subst e
  clear hR hs
  go_enter Tryz.func15,Tryz.ntmps15
  go_wp2_with (go_at_call 28;(with_reducible refine hr.mono ?_);rintro e w2 ⟨rfl,hb⟩;have h2:=HX.out.call hb;have k0:=vv_k h2;have k1:=vv_n h2;have k2:=vv_s h2;have HB2:=Lib.hid (HB.out.trans (hb.mono HB.out.size));clear h2 hb)
  go_ret
  exact ⟨rfl,HB2.out⟩
 | true =>
  rw [hR] at hr
  have e:B=((v.k != 6 || decide (v.n < n)) && decide (v.s.size≤100)):=by rw [← HBB.out];unfold valB;rw [hR];rfl
  clear hR hs
  by_cases hk:v.k=6
  ·have dk:(v.k != 6)=false:=by simp [hk]
   by_cases hn:v.n < n
   ·have dn:decide (v.n < n)=true:=by simp [hn]
    rw [dk,dn] at e
    simp only [Bool.false_or,Bool.true_and] at e
    subst e
    clear hk hn
    go_enter Tryz.func15,Tryz.ntmps15
    go_wp2_with (go_at_call 28;(with_reducible refine hr.mono ?_);rintro e w2 ⟨rfl,hb⟩;have h2:=HX.out.call hb;have k0:=vv_k h2;have k1:=vv_n h2;have k2:=vv_s h2;have HB2:=Lib.hid (HB.out.trans (hb.mono HB.out.size));clear h2 hb)
    go_ret
    exact ⟨by simp;omega,HB2.out⟩
   ·have dn:decide (v.n < n)=false:=by simp;omega
    rw [dk,dn] at e
    simp only [Bool.false_or,Bool.false_and] at e
    subst e
    clear hk hn
    go_enter Tryz.func15,Tryz.ntmps15
    go_wp2_with (go_at_call 28;(with_reducible refine hr.mono ?_);rintro e w2 ⟨rfl,hb⟩;have h2:=HX.out.call hb;have k0:=vv_k h2;have k1:=vv_n h2;have k2:=vv_s h2;have HB2:=Lib.hid (HB.out.trans (hb.mono HB.out.size));clear h2 hb)
    go_ret
    exact ⟨rfl,HB2.out⟩
  ·have dk:(v.k != 6)=true:=by simp [hk]
   rw [dk] at e
   simp only [Bool.true_or,Bool.true_and] at e
   subst e
   clear hk
   go_enter Tryz.func15,Tryz.ntmps15
   go_wp2_with (go_at_call 28;(with_reducible refine hr.mono ?_);rintro e w2 ⟨rfl,hb⟩;have h2:=HX.out.call hb;have k0:=vv_k h2;have k1:=vv_n h2;have k2:=vv_s h2;have HB2:=Lib.hid (HB.out.trans (hb.mono HB.out.size));clear h2 hb)
   go_ret
   exact ⟨by simp;omega,HB2.out⟩
def sideB (d:Ds) (n:Int):Bool:=valB d.v n && valB d.g n && valB d.s n
set_option maxRecDepth 100000 in
set_option maxHeartbeats 4000000 in
theorem side_any (d:Ds) (n:Int) (h1:d.v.s.size≤2000000) (h2:d.g.s.size≤2000000) (h3:d.s.s.size≤2000000) (w:World):Calls Tryz.prog 47 #[.agg (dcs d),.int .i64 n] w fun e w'=>e = .returned (.bool (sideB d n))∧Below w.heap.size w w':=by
 have HB0:=Lib.hid (show Below w.heap.size w (w.alloc (.cells (dcs d) 34)) from (Below.refl _ w).alloc (Nat.le_refl _) _)
 have hx:=Blk.new w (dcs d) 34
 have l1:=d_v hx
 have hv:=fun w=>value_any d.v n h1 w
 have hg:=fun w=>value_any d.g n h2 w
 have hsd:=fun w=>value_any d.s n h3 w
 have HX0:=Lib.hid hx
 obtain ⟨B,hB⟩:∃ B,sideB d n=B:=⟨_,rfl⟩
 rw [hB]
 unfold sideB at hB
 clear hx h1 h2 h3
 cases e1:valB d.v n with
 | false =>
  rw [e1] at hB
  simp only [e1] at hv
  have hB:B=false:=by rw [← hB];rfl
  subst hB
  go_enter Tryz.func47,Tryz.ntmps47
  go_wp2_with (go_at_call 15;(with_reducible refine (hv _).mono ?_);rintro e w1 ⟨rfl,hb⟩;have HB1:=Lib.hid (HB0.out.trans (hb.mono HB0.out.size));clear hb)
  go_ret
  exact ⟨rfl,HB1.out⟩
 | true =>
  rw [e1] at hB
  simp only [e1] at hv
  cases e2:valB d.g n with
  | false =>
   rw [e2] at hB
   simp only [e2] at hg
   have hB:B=false:=by rw [← hB];rfl
   subst hB
   go_enter Tryz.func47,Tryz.ntmps47
   go_wp2_with (go_at_call 15;(with_reducible refine (hv _).mono ?_);rintro e w1 ⟨rfl,hb⟩;have h:=HX0.out.call hb;have l2:=d_g h;have HB1:=Lib.hid (HB0.out.trans (hb.mono HB0.out.size));clear hb h hv;refine Hid.out ?_)
   refine Lib.hid ?_
   go_wp2_with (go_at_call 15;(with_reducible refine (hg _).mono ?_);rintro e w2 ⟨rfl,hb⟩;have HB2:=Lib.hid (HB1.out.trans (hb.mono HB1.out.size));clear hb)
   go_ret
   exact ⟨rfl,HB2.out⟩
  | true =>
   rw [e2] at hB
   simp only [e2] at hg
   obtain ⟨b3,hb3⟩:∃ b3,valB d.s n=b3:=⟨_,rfl⟩
   rw [hb3] at hB
   simp only [hb3] at hsd
   have hB:B=b3:=by rw [← hB];simp
   subst hB
   clear hb3
   go_enter Tryz.func47,Tryz.ntmps47
   go_wp2_with (go_at_call 15;(with_reducible refine (hv _).mono ?_);rintro e w1 ⟨rfl,hb⟩;have h:=HX0.out.call hb;have l2:=d_g h;have HX1:=Lib.hid h;have HB1:=Lib.hid (HB0.out.trans (hb.mono HB0.out.size));clear hb h hv;refine Hid.out ?_)
   refine Lib.hid ?_
   go_wp2_with (go_at_call 15;(with_reducible refine (hg _).mono ?_);rintro e w2 ⟨rfl,hb⟩;have h:=HX1.out.call hb;have l3:=d_s h;have HB2:=Lib.hid (HB1.out.trans (hb.mono HB1.out.size));clear hb h hg;refine Hid.out ?_)
   refine Lib.hid ?_
   go_wp2_with (go_at_call 15;(with_reducible refine (hsd _).mono ?_);rintro e w3 ⟨rfl,hb⟩;have HB3:=Lib.hid (HB2.out.trans (hb.mono HB2.out.size));clear hb)
   go_ret
   exact ⟨rfl,HB3.out⟩
end
end Go.Proofs.YtkadkmnolkkhgaaGreatDoor.Mw

/-
 Big at any list: an exact answer.
-/
namespace Go.Proofs.YtkadkmnolkkhgaaGreatDoor.Mw
open Go Go.RowKit Go.Maps Go.Shelf Keys Hp Mo
open Des (Vl Ds zeroV zeroD dcs dcs_size dcs_one accF rigF appF eqV)
open Arrs (En ecs ecs_0 ecs_10)
def longE (e:En):Bool:=decide (100 < e.ks.size) || decide (100 < e.d.v.s.size)
def bigB (es:List En):Bool:=es.any longE || decide (60 < es.length)
theorem big_yes {es:List En} {j:Nat} {e:En} (he:es[j]? = some e) (h:longE e=true):bigB es=true:=by
 unfold bigB
 rw [List.any_eq_true.2 ⟨e,List.mem_of_getElem? he,h⟩]
 rfl
theorem en_cell {w:World} {b o:Nat} {e:En} (h:enAt w b o e) (j:Nat) (v:Value) (hv:(ecs e)[j]? = some v):w.cell? ⟨b,o+j,none⟩=some v:=h j v (by rw [Array.getElem?_toList];exact hv)
set_option maxRecDepth 100000 in
set_option maxHeartbeats 2000000 in
theorem big_any (ao:Option Addr) (cap:Nat) (es:List En) (w:World) (n₀:Nat) (hlen:(es.length:Int)≤9223372036854775807) (hc:Hp.EsAt n₀ ao es w) :
  Calls Tryz.prog 85 #[.slice ao es.length cap] w fun e w'=>e = .returned (.bool (bigB es))∧w'=w:=by
 have HC:=Lib.hid hc
 obtain ⟨B,hB⟩:∃ B,bigB es=B:=⟨_,rfl⟩
 rw [hB]
 have HB:=Lib.hid hB
 clear hc hB
 go_enter Tryz.func85,Tryz.ntmps85
 go_wp2
 go_loopw [3] (fun i wr=>∃ j:Nat,j≤es.length∧i = .int .i64 j∧wr=w∧Hid (∀ e ∈ es.take j,longE e=false)) (fun i _=>es.length - (intOf i).toNat)
 case atStart=>exact ⟨0,Nat.zero_le _,rfl,rfl,Lib.hid (fun e he=>by simp at he)⟩
 case round =>
  obtain ⟨j,hj,rfl,rfl,hsm⟩:=hrel
  by_cases hlt:j < es.length
  ·obtain ⟨e,he⟩:∃ e,es[j]? = some e:=⟨es[j],by simp [hlt]⟩
   have hlt2:(j:Int) < es.length:=by omega
   obtain ⟨b,off,rfl,hb,hat⟩:=HC.out j e he
   have c0:=en_cell hat 0 _ (ecs_0 e)
   have c10:=en_cell hat 10 _ (ecs_10 e)
   rw [Nat.add_zero] at c0
   have HE:=Lib.hid he
   clear he hat hb
   by_cases h1:100 < (e.ks.size:Int)
   ·have hb3:B=true:=by rw [← HB.out,big_yes HE.out (by unfold longE;rw [decide_eq_true (by omega)];rfl)]
    subst hb3
    go_wp2
    go_ret
    exact ⟨rfl,rfl⟩
   ·have h1':(e.ks.size:Int)≤100:=by omega
    clear h1
    by_cases h2:100 < (e.d.v.s.size:Int)
    ·have hb3:B=true:=by rw [← HB.out,big_yes HE.out (by unfold longE;rw [decide_eq_true (p:=100 < e.d.v.s.size) (by omega),Bool.or_true])]
     subst hb3
     go_wp2
     go_ret
     exact ⟨rfl,rfl⟩
    ·have h2':(e.d.v.s.size:Int)≤100:=by omega
     clear h2
     go_wp2
     go_roundw
     case rel =>
      refine ⟨j+1,by omega,by go_num,trivial,Lib.hid (fun x hx=>?_)⟩
      rw [List.take_add_one,HE.out] at hx
      simp at hx
      rcases hx with hx |rfl
      ·exact hsm.out x hx
      ·unfold longE
       rw [decide_eq_false (by omega),decide_eq_false (by omega)]
       rfl
     case measure=>simp [intOf];omega
  ·obtain rfl:j=es.length:=by omega
   clear hlt hj
   have hn:es.any longE=false:=by
    have:=hsm.out
    rw [List.take_length] at this
    rw [List.any_eq_false]
    intro x hx h
    rw [this x hx] at h
    cases h
   have hb2:decide (60 < es.length)=B:=by rw [← HB.out];unfold bigB;rw [hn];rfl
   clear hn
   by_cases h:(es.length:Int)≤60
   ·have h60:decide (60 < (es.length:Int))=false:=by simp;omega
    have hb3:B=false:=by rw [← hb2];simp;omega
    subst hb3
    clear hb2
    go_wp2
    go_ret
    exact ⟨rfl,rfl⟩
   ·have h':60 < (es.length:Int):=by omega
    have hb3:B=true:=by rw [← hb2];simp;omega
    subst hb3
    clear h hb2
    go_wp2
    go_ret
    exact ⟨rfl,rfl⟩
end Go.Proofs.YtkadkmnolkkhgaaGreatDoor.Mw

/-
 Right at one thing with properties.
-/
namespace Go.Proofs.YtkadkmnolkkhgaaGreatDoor.Mw
open Go Go.RowKit Go.Maps Go.Shelf Keys Hp Mo
open Des (Vl Ds zeroV zeroD dcs dcs_size dcs_one accF rigF appF eqV whR whr_any)
open Arrs (En ecs ecs_0 ecs_10)
def entB (e:En):Bool:=whR e.d && sideB e.d 1 && decide (0≤e.kn) && (decide (e.kn=0) || decide (e.ks=⟨#[]⟩)) && (Uni.pts e.ks).isSome
def dupB (es:List En) (k:Nat) (e:En):Bool:=(es.take k).any (fun x=>decide (ekey x=ekey e))
def entsB (es:List En):Bool:=(List.range es.length).all (fun k=>match es[k]? with |some e=>entB e && !dupB es k e |none=>true)
def rightB (es:List En):Bool:=!bigB es && decide (es.length≤12) && entsB es
theorem ents_no {es:List En} {k:Nat} {e:En} (he:es[k]? = some e) (h:(entB e && !dupB es k e)=false):entsB es=false:=by
 cases hx:entsB es
 ·rfl
 ·exfalso
  unfold entsB at hx
  have:=List.all_eq_true.1 hx k (List.mem_range.2 (List.getElem?_eq_some_iff.1 he).1)
  rw [he] at this
  simp only [] at this
  rw [h] at this
  cases this
theorem ents_yes {es:List En} (h:∀ (k:Nat) (e:En),es[k]? = some e→entB e=true∧dupB es k e=false):entsB es=true:=by
 unfold entsB
 rw [List.all_eq_true]
 intro k hk
 obtain ⟨e,he⟩:∃ e,es[k]? = some e:=⟨es[k]'(List.mem_range.1 hk),List.getElem?_eq_getElem _⟩
 rw [he]
 obtain ⟨h1,h2⟩:=h k e he
 simp only [h1,h2]
 rfl
theorem ents_at {es:List En} (h:entsB es=true) {k:Nat} {e:En} (he:es[k]? = some e):entB e=true∧dupB es k e=false:=by
 cases hx:(entB e && !dupB es k e) with
 | false=>rw [ents_no he hx] at h;cases h
 | true =>
  rw [Bool.and_eq_true,Bool.not_eq_true'] at hx
  exact hx
theorem right_nd {es:List En} (h:rightB es=true):(es.map ekey).Nodup:=by
 have h2:entsB es=true:=by unfold rightB at h;rw [Bool.and_eq_true] at h;exact h.2
 unfold List.Nodup
 rw [List.pairwise_iff_getElem]
 intro i j hi hj hij hne
 rw [List.length_map] at hi hj
 have:=(ents_at h2 (List.getElem?_eq_getElem hj)).2
 unfold dupB at this
 rw [List.any_eq_false] at this
 refine this es[i] ?_ ?_
 ·rw [List.mem_take_iff_getElem]
  exact ⟨i,by omega,rfl⟩
 ·simp only [List.getElem_map] at hne
  rw [decide_eq_true hne]
theorem right_ent {es:List En} (h:rightB es=true) {e:En} (he:e ∈ es):entB e=true:=by
 have h2:entsB es=true:=by unfold rightB at h;rw [Bool.and_eq_true] at h;exact h.2
 obtain ⟨k,hk⟩:=List.getElem?_of_mem he
 exact (ents_at h2 hk).1
theorem en_key {w:World} {b o:Nat} {e:En} (h:enAt w b o e):(Ld 32 (.pointer (some ⟨b,o,none⟩))).run Tryz.prog w = .ok (.agg (kcs (ekey e))) w:=run_ldKm (fun j v hv=>h j v (by
 rw [show (ecs e).toList=(kcs (ekey e)).toList++(dcs e.d).toList from rfl,List.getElem?_append_left (List.getElem?_eq_some_iff.1 hv).1]
 exact hv))
theorem en_desc {w:World} {b o:Nat} {e:En} (h:enAt w b o e):(Ld 34 (.pointer (some ⟨b,o+2,none⟩))).run Tryz.prog w = .ok (.agg (dcs e.d)) w:=run_ldDm (fun j v hv=>by
 have:=h (2+j) v (by
  rw [show (ecs e).toList=(kcs (ekey e)).toList++(dcs e.d).toList from rfl,List.getElem?_append_right (by show 2≤2+j;omega),show 2+j - (kcs (ekey e)).toList.length=j from by show 2+j - 2=j;omega]
  exact hv)
 rwa [show o+2+j=o+(2+j) by omega])
theorem tl_inj {a b:ByteArray} (h:a.toList=b.toList):a=b:=by
 rw [ByteArray.toList_eq,ByteArray.toList_eq] at h
 exact ByteArray.ext (Array.toList_inj.1 h)
def eqK (a:ByteArray) (n:Int) (b:ByteArray) (m:Int):Bool:=a.toList == b.toList && n == m
theorem eqK_iff {a b:KV}:eqK a.1 a.2 b.1 b.2=true↔a=b:=by
 obtain ⟨a,n⟩:=a
 obtain ⟨b,m⟩:=b
 simp only [eqK,Bool.and_eq_true,beq_iff_eq,Prod.mk.injEq]
 exact ⟨fun ⟨h1,h2⟩=>⟨tl_inj h1,h2⟩,fun ⟨h1,h2⟩=>⟨by rw [h1],h2⟩⟩
theorem run_eqK (a b:ByteArray) (n m:Int) (w:World):(Op.equalIn 10000 32 (.agg #[.string a,.int .i64 n]) (.agg #[.string b,.int .i64 m])).run Tryz.prog w = .ok (eqK a n b m) w:=by
 unfold eqK
 by_cases h1:a.toList=b.toList
 ·by_cases h2:n=m
  ·simp [go_sem,h1,h2]
  ·simp [go_sem,h1,h2]
 ·simp [go_sem,h1]
theorem run_eqKc (a b:KV) (w:World):(Op.equalIn 10000 32 (.agg (kcs a)) (.agg (kcs b))).run Tryz.prog w = .ok (eqK a.1 a.2 b.1 b.2) w:=run_eqK a.1 b.1 a.2 b.2 w
section
variable {w:World} {b:Nat} {a:Option Addr} {n c:Nat} {T:TypeId}
theorem rg_proto (h:Blk w b (tcs (rtG a n c)) T):(Ld 30 (.pointer (some ⟨b,1,none⟩))).run Tryz.prog w = .ok (.agg (vcs nullV)) w:=run_ldVm (range_mid h [.int .i64 0] (vcs nullV).toList _ rfl)
theorem rg_v (h:Blk w b (tcs (rtG a n c)) T):(Ld 30 (.pointer (some ⟨b,8,none⟩))).run Tryz.prog w = .ok (.agg (vcs zeroV)) w:=run_ldVm (range_mid h ((tcs (rtG a n c)).toList.take 8) (vcs zeroV).toList ((tcs (rtG a n c)).toList.drop 11) rfl)
theorem rg_this (h:Blk w b (tcs (rtG a n c)) T):(Ld 30 (.pointer (some ⟨b,17,none⟩))).run Tryz.prog w = .ok (.agg (vcs zeroV)) w:=run_ldVm (range_mid h ((tcs (rtG a n c)).toList.take 17) (vcs zeroV).toList ((tcs (rtG a n c)).toList.drop 20) rfl)
theorem rg_0 (h:Blk w b (tcs (rtG a n c)) T):w.cell? ⟨b,0,none⟩=some (.int .i64 0):=(h.cell 0).trans rfl
theorem rg_5 (h:Blk w b (tcs (rtG a n c)) T):w.cell? ⟨b,5,none⟩=some (.slice a n c):=(h.cell 5).trans rfl
theorem rg_6 (h:Blk w b (tcs (rtG a n c)) T):w.cell? ⟨b,6,none⟩=some (.int .i64 0):=(h.cell 6).trans rfl
theorem rg_20 (h:Blk w b (tcs (rtG a n c)) T):w.cell? ⟨b,20,none⟩=some (.slice none 0 0):=(h.cell 20).trans rfl
end
end Go.Proofs.YtkadkmnolkkhgaaGreatDoor.Mw
