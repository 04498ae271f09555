/-
 Texts of this seat in build order: MwWor, MwHeap, HpOps, MwHeap2, MwHeap3.
-/
import Derived.Test.YtkadkmnolkkhgaaGreatDoorMb13
import Derived.Test.YtkadkmnolkkhgaaGreatDoorMb12
import Derived.Test.YtkadkmnolkkhgaaGreatDoorMb09
/-
 A world's own cells laid anew; its log grown. Plain mathematics.
-/
set_option linter.unusedVariables false
set_option linter.unusedSimpArgs false
namespace Go.Proofs.YtkadkmnolkkhgaaGreatDoor.Mw
open Go Go.RowKit Go.Maps Keys Hp Mo
open Des (Vl Ds zeroV zeroD dcs dcs_size dcs_one)
open Arrs (En ecs)
section
variable {X X':Cx} {c c':Nat} {M M':Wm} {w w':World} {A A':Aw}
structure Cx.near (X X':Cx):Prop where
 W0:X'.W0=X.W0
 wb:X'.wb=X.wb
 cl:X'.cl=X.cl
 px:X'.px=X.px
theorem Cx.near.symm (h:X.near X'):X'.near X:=⟨h.W0.symm,h.wb.symm,h.cl.symm,h.px.symm⟩
structure Aw.near (A A':Aw):Prop where
 objs:A'.objs=A.objs
 room:A'.room=A.room
 sy:A'.sy=A.sy
 log:A'.log=A.log
theorem WIs.own (h:WIs X c M w A) (hX:X.near X') (hA:A.near A') (hB:Blk w' X.wb (wcs M.hb X.cl A'.fuel A'.deep A'.depth A'.deepest M.ls) 48) (hs:∀ b,b ≠ X.wb→w'.heap[b]? = w.heap[b]?) (hf:Fr w w')
  (f0:0≤A'.fuel) (f1:8*A'.fuel.toNat+c'≤8*A.fuel.toNat+c) (d0:0≤A'.depth) (d1:A'.depth≤A'.deep) (d2:A'.deep≤1000) (d3:A'.depth=X'.dp) (d4:A'.deep=X'.dl):WIs X' c' M w' A':=by
 have hsame:∀ {b:Nat} {cs:Array Value} {t:TypeId},Blk w b cs t→t ≠ 48→w'.heap[b]? = w.heap[b]?:=fun hb ht=>hs _ (ne_blk hb h.wblk ht)
 have hbel:Below X.W0.heap.size X.W0 w':=⟨hf.os.trans h.bel.os,hf.tape.trans h.bel.tape,hf.output.trans h.bel.output,Nat.le_trans h.bel.size hf.size,fun b hb=>(hs b (by have:=h.low _ (mem_wb M X.wb);omega)).trans (h.bel.block b hb)⟩
 refine ⟨by rw [hX.wb,hX.cl];exact hB,by rw [hA.room,hA.sy];exact (hsame h.hblk (by decide)).trans h.hblk,by rw [hA.objs];exact own_same h.orow fun b cs _ hb=>hsame hb (by decide),by rw [hA.log];exact own_same h.lrow fun b cs _ hb=>hsame hb (by decide),?_,?_,fun b hb=>Nat.lt_of_lt_of_le (h.rlt b hb) hf.size,h.apart,by rw [hX.wb,hX.W0];exact h.low,by rw [hX.W0];exact hbel,by rw [hX.W0];exact h.lw,f0,by rw [hA.objs];have:=h.few;omega,fun q hq=>by have:=h.num q hq;omega,by rw [hA.log];have:=h.logn;omega,d0,d1,d2,d3,d4,by rw [hX.px,hA.objs];exact h.nopx⟩
 ·rw [hA.objs]
  refine forall2_imp h.objs fun q hq x hx=>hx.same (fun b hb=>hs b fun e=>?_) fun b hb=>?_
  ·subst e
   exact hx.nota h.wblk (by decide) (by decide) (by decide) hb
  ·obtain ⟨cs,hb'⟩:=hx.argT hb
   exact hsame hb' (by decide)
 ·rw [hA.log]
  refine forall2_imp h.log fun b hb s hsn=>?_
  obtain ⟨l,k,hb',-,-⟩:=id hsn
  exact hsn.same (hsame hb' (by decide)) (fun b cs _ hb=>hsame hb (by decide)) (fun b cs _ hb=>hsame hb (by decide)) fun _ h=>h
theorem WIs.logged (h:WIs X (c+1) M w A) {s:Sn} {b:Nat} {ls':Value} {rn:List Nat}
  (hB:Blk w' X.wb (wcs M.hb X.cl A.fuel A.deep A.depth A.deepest ls') 48)
  (hrow:w'.ownsRow 0 165 1 ls' (A.log.length+1) ((M.sb.map ptr)++[ptr b]))
  (hs:∀ b,b < w.heap.size→b ≠ X.wb→some b ≠ M.ls.ownBlock→w'.heap[b]? = w.heap[b]?)
  (hls:∀ b ∈ obl ls',some b=M.ls.ownBlock∨X.W0.heap.size≤b) (hsn:SnIs (M.rl++rn) w' b s) (hb:X.W0.heap.size≤b) (hrn:∀ b ∈ rn,X.W0.heap.size≤b∧b < w'.heap.size) (hf:Fr w w') :
  WIs X c { M with ls:=ls',sb:=M.sb++[b],rl:=M.rl++rn } w' { A with log:=A.log++[s] }:=by
 have hlt:∀ {k:Nat},some k=M.ls.ownBlock→∃ cs,Blk w k cs 165:=fun e=>own_typ h.lrow (obl_mem e)
 have hsame:∀ {b:Nat} {cs:Array Value} {t:TypeId},Blk w b cs t→t ≠ 48→t ≠ 165→w'.heap[b]? = w.heap[b]?:=fun hb ht h2=>hs _ hb.lt (ne_blk hb h.wblk ht) fun e=>by
  obtain ⟨cs,hk⟩:=hlt e
  exact ne_blk hb hk h2 rfl
 have hbel:Below X.W0.heap.size X.W0 w':=⟨hf.os.trans h.bel.os,hf.tape.trans h.bel.tape,hf.output.trans h.bel.output,Nat.le_trans h.bel.size hf.size,fun b hb=>(hs b (Nat.lt_of_lt_of_le hb h.bel.size) (by have:=h.low _ (mem_wb M X.wb);omega) fun e=>by have:=h.low b (mem_ls (obl_mem e));omega).trans (h.bel.block b hb)⟩
 have hlow:∀ k ∈ ({ M with ls:=ls',sb:=M.sb++[b],rl:=M.rl++rn }:Wm).bl X.wb,X.W0.heap.size≤k:=fun k hk=>by
  simp only [Wm.bl,List.mem_cons,List.mem_append,List.mem_flatMap] at hk
  rcases hk with rfl |rfl |hk |hk |(hk |hk) |(hk |hk) |⟨q,hq,hk⟩
  ·exact h.low _ (mem_wb M _)
  ·exact h.low _ (mem_hb M _)
  ·exact h.low _ (mem_os hk)
  ·rcases hls k hk with e |e
   ·exact h.low k (mem_ls (obl_mem e))
   ·exact e
  ·exact h.low _ (mem_sb hk)
  ·rcases hk with rfl |hk
   ·exact hb
   ·cases hk
  ·exact h.low _ (mem_rl hk)
  ·exact (hrn k hk).1
  ·exact h.low _ (mem_qs hq hk)
 refine ⟨hB,(hsame h.hblk (by decide) (by decide)).trans h.hblk,own_same h.orow fun b cs _ hb=>hsame hb (by decide) (by decide),?_,?_,?_,fun k hk=>?_,h.apart,hlow,hbel,h.lw,h.fuel,by have:=h.few;show A.objs.length+8*A.fuel.toNat+c≤_;omega,fun q hq=>by have:=h.num q hq;show q.n+8*A.fuel.toNat+c≤_;omega,?_,h.dep0,h.dep1,h.deep,h.dpe,h.dle,h.nopx⟩
 ·simpa using hrow
 ·refine forall2_imp h.objs fun q hq x hx=>hx.same (fun b hb=>hs b (hx.ltc b hb) (fun e=>?_) fun e=>?_) fun b hb=>?_
  ·subst e
   exact hx.nota h.wblk (by decide) (by decide) (by decide) hb
  ·obtain ⟨cs,hk⟩:=hlt e
   exact hx.nota hk (by decide) (by decide) (by decide) hb
  ·obtain ⟨cs,hb'⟩:=hx.argT hb
   exact hsame hb' (by decide) (by decide)
 ·refine all2_app h.log hsn fun k hk s' hsn'=>?_
  obtain ⟨l,kk,hb',-,-⟩:=id hsn'
  exact hsn'.same (hsame hb' (by decide) (by decide)) (fun b cs _ hb=>hsame hb (by decide) (by decide)) (fun b cs _ hb=>hsame hb (by decide) (by decide)) fun b hb=>List.mem_append_left _ hb
 ·rcases List.mem_append.1 hk with hk |hk
  ·exact Nat.lt_of_lt_of_le (h.rlt k hk) hf.size
  ·exact (hrn k hk).2
 ·have:=h.logn
  simp only [List.length_append,List.length_cons,List.length_nil]
  omega
theorem Nx.logged {B:List Nat} {w0:World} (h:WIs X (c+1) M w A) (hn:Nx B w0 (M.bl X.wb) w) {b:Nat} {ls':Value} {rn:List Nat} (hs:∀ b,b < w.heap.size→b ≠ X.wb→some b ≠ M.ls.ownBlock→w'.heap[b]? = w.heap[b]?) (hls:∀ b ∈ obl ls',some b=M.ls.ownBlock∨w0.heap.size≤b) (hb:w0.heap.size≤b) (hrn:∀ b ∈ rn,w0.heap.size≤b) (hf:Fr w w') :
  Nx B w0 (({ M with ls:=ls',sb:=M.sb++[b],rl:=M.rl++rn }:Wm).bl X.wb) w':=by
 refine ⟨⟨hn.kp.fr.trans hf,fun k hk hkn=>?_⟩,fun k hk=>?_⟩
 ·have ho:=hn.out hk hkn
  rw [hs k (Nat.lt_of_lt_of_le hk hn.size) (fun e=>ho (e ▸ mem_wb M _)) fun e=>ho (mem_ls (obl_mem e)),hn.kp.same k hk hkn]
 ·simp only [Wm.bl,List.mem_cons,List.mem_append,List.mem_flatMap] at hk
  rcases hk with rfl |rfl |hk |hk |(hk |hk) |(hk |hk) |⟨q,hq,hk⟩
  ·exact hn.sub _ (mem_wb M _)
  ·exact hn.sub _ (mem_hb M _)
  ·exact hn.sub _ (mem_os hk)
  ·rcases hls k hk with e |e
   ·exact hn.sub k (mem_ls (obl_mem e))
   ·exact .inr e
  ·exact hn.sub _ (mem_sb hk)
  ·rcases hk with rfl |hk
   ·exact .inr hb
   ·cases hk
  ·exact hn.sub _ (mem_rl hk)
  ·exact .inr (hrn k hk)
  ·exact hn.sub _ (mem_qs hq hk)
end
end Go.Proofs.YtkadkmnolkkhgaaGreatDoor.Mw

/-
 What the heap's calls leave of a world.
-/
namespace Go.Proofs.YtkadkmnolkkhgaaGreatDoor.Mw
open Go Go.RowKit Go.Maps Keys Hp Mo
open Des (Vl Ds zeroV zeroD dcs dcs_size dcs_one)
open Arrs (En ecs)
section
variable {X:Cx} {c:Nat} {M:Wm} {w w':World} {A:Aw}
theorem ObIs.ok {q:Oq} {x:Ob} (h:ObIs w q x):({ x.th with args:=q.args }:Th).ok:=by
 obtain ⟨a,cc,e⟩:=Hp.own_shape h.row
 exact ⟨⟨_,_,_,h.nop⟩,⟨a,_,cc,e⟩⟩
theorem th_same {t:Th} {v:Value} (h:t.args=nilS):({ ({ t with args:=v }:Th) with args:=nilS }:Th)=t:=by
 cases t
 simp only at h ⊢
 rw [h]
theorem wHead_some (h:WIs X c M w A) {o:Int} {x:Ob} (hx:at? A o=some x) :
  Calls Tryz.prog 101 #[ptr M.hb,.int .i64 o] w fun e w'=>e = .returned (.tuple #[.agg (tcs x.th),.bool true])∧Below w.heap.size w w':=by
 obtain ⟨i,q,g,cc,rfl,hi,hq,hr,hos,hc,hlt⟩:=h.obj hx
 have hb:=h.hblk
 rw [hos] at hb
 have:=head_some M.hb g q.ob q.pb A.objs.length cc i A.room A.sy _ w hb hlt hc hr.blk hr.ok
 rw [th_same hr.noa] at this
 exact this
theorem wHead_none (h:WIs X c M w A) {o:Int} (hx:at? A o=none) :
  Calls Tryz.prog 101 #[ptr M.hb,.int .i64 o] w fun e w'=>e = .returned (.tuple #[.agg (tcs zeroT),.bool false])∧Below w.heap.size w w':=by
 obtain ⟨a,cc,e⟩:=h.os_shape
 have hb:=h.hblk
 rw [e] at hb
 exact head_none M.hb _ a A.objs.length cc _ o w hb (at_none hx)
theorem wLen (h:WIs X c M w A):Calls Tryz.prog 237 #[ptr M.hb] w fun e w'=>e = .returned (.int .i64 A.objs.length)∧w'=w:=by
 obtain ⟨a,cc,e⟩:=h.os_shape
 have hb:=h.hblk
 rw [e] at hb
 exact len_any M.hb _ a A.objs.length cc _ w hb
theorem find_look {ns:List Nd} {k:KV} {b:Nat} (h:Hp.look ns k=some b):∃ l x r,ns=l++x :: r∧ekey x.e=k∧x.b=b∧find (ns.map (·.e)) k=some x.e.d:=by
 obtain ⟨l,x,r,rfl,h1,h2,h3⟩:=look_at h
 refine ⟨l,x,r,rfl,h1,h2,?_⟩
 unfold find
 rw [List.map_append,List.find?_append]
 have:(l.map (·.e)).find? (fun e=>decide (ekey e=k))=none:=by
  rw [List.find?_eq_none]
  intro e he
  obtain ⟨y,hy,rfl⟩:=List.mem_map.1 he
  simpa using look_none.1 h3 y hy
 rw [this]
 simp [h1]
theorem find_none {ns:List Nd} {k:KV} (h:Hp.look ns k=none):find (ns.map (·.e)) k=none:=by
 unfold find
 rw [Option.map_eq_none_iff,List.find?_eq_none]
 intro e he
 obtain ⟨y,hy,rfl⟩:=List.mem_map.1 he
 simpa using look_none.1 h y hy
theorem own_at {o:Int} {x:Ob} (hx:at? A o=some x) (k:KV):ownF A o k=find x.es k:=by unfold ownF;rw [hx];rfl
theorem own_no {o:Int} (hx:at? A o=none) (k:KV):ownF A o k=none:=by unfold ownF;rw [hx];rfl
section
attribute [local go_sem ↓] ldE ldD alD stD bdDs
attribute [local irreducible] ecs ncs hcs dcs
attribute [local go_sem] run_bx run_alD run_bdDs
set_option maxRecDepth 100000 in
set_option maxHeartbeats 2000000 in
theorem own_none (hb:Nat) (room:Int) (a:Option Addr) (n c:Nat) (sy o:Int) (k:KV) (w:World) (h:Blk w hb (hp room (.slice a n c) sy) 105) (ho:o < 0∨(n:Int)≤o) :
  Calls Tryz.prog 26 #[ptr hb,.int .i64 o,.agg #[.string k.1,.int .i64 k.2]] w fun e w'=>e = .returned (.tuple #[.agg (dcs zeroD),.bool false])∧Below w.heap.size w w':=by
 obtain ⟨w1,hw1⟩:∃ w1,(w.alloc (.cells #[.string k.1,.int .i64 k.2] 32)).alloc (.cells (dcs zeroD) 34)=w1:=⟨_,rfl⟩
 have b1:Below w.heap.size w w1:=by rw [← hw1];exact ((Below.refl _ w).alloc (Nat.le_refl _) _).alloc (by simp) _
 have x1:Blk w1 (w.heap.size+1) (dcs zeroD) 34:=by rw [← hw1];exact blk_newg (by simp)
 have hob:=object_none hb room a n c sy o w1 (h.call b1) ho
 have hst:=run_st_row x1 (T:=34) (cs:=dcs zeroD) (by rw [dcs_size];exact sizeD) rfl (dcs_one _)
 have X1:=Lib.hid x1
 have B1:=Lib.hid b1
 clear h ho x1 b1
 go_enter Tryz.func26,Tryz.ntmps26
 go_wp2_with (go_at_call 56;refine hob.mono ?_;rintro e wz ⟨rfl,rfl⟩)
 refine bodyPost_ret (res2_D rfl _ _ (w.heap.size+1) zeroD rfl (X1.out.row _)) rfl ?_
 exact ⟨rfl,B1.out.trans ⟨rfl,rfl,rfl,by simp,fun k hk=>setRow_other _ (w.heap.size+1) k _ (by omega)⟩⟩
end
theorem wOwn (h:WIs X c M w A) (o:Int) (k:KV) (hk:Fine k) :
  Calls Tryz.prog 26 #[ptr M.hb,.int .i64 o,.agg (kcs k)] w fun e w'=>e = .returned (.tuple #[.agg (dcs (nowD A o k)),.bool (ownF A o k).isSome])∧Below w.heap.size w w':=by
 unfold nowD
 cases hx:at? A o with
 | none =>
  obtain ⟨a,cc,e⟩:=h.os_shape
  have hb:=h.hblk
  rw [e] at hb
  rw [own_no hx]
  exact own_none M.hb _ a A.objs.length cc _ o k w hb (at_none hx)
 | some x =>
  obtain ⟨i,q,g,cc,rfl,hi,hq,hr,hos,hc,hlt⟩:=h.obj hx
  have hb:=h.hblk
  rw [hos] at hb
  rw [own_at hx,← hr.es]
  cases hl:Hp.look q.ns k with
  | none =>
   rw [find_none hl]
   exact hown M.hb g q.ob q.pb A.objs.length cc A.room A.sy _ k zeroD false w hb i hlt hc hr.blk fun w1 hb1=>pget_none q.pb q.mb q.n q.ns k w1 (hr.obj.call hb1) hk hl
  | some b =>
   obtain ⟨l,nd,r,hns,rfl,rfl,hf⟩:=find_look hl
   rw [hf]
   have hobj:=hr.obj
   rw [hns] at hobj hl
   exact hown M.hb g q.ob q.pb A.objs.length cc A.room A.sy _ (ekey nd.e) nd.e.d true w hb i hlt hc hr.blk fun w1 hb1=>pget_some q.pb q.mb q.n l r nd w1 (hobj.call hb1) hk hl
end
end Go.Proofs.YtkadkmnolkkhgaaGreatDoor.Mw

/-
 The heap's own calls around an object's properties.
-/
namespace Go.Proofs.YtkadkmnolkkhgaaGreatDoor.Hp
open Go Go.RowKit Go.Maps Keys
open Des (Vl Ds zeroV zeroD dcs dcs_size dcs_one)
open Arrs (En ecs ecs_0 ecs_1 ecs_10 ecs_size ecs_list ecs_one ecs_one')
section
attribute [local go_sem ↓] ldE ldD alD stD bdDs
attribute [local irreducible] ecs ncs hcs dcs tcs ocs
attribute [local go_sem] run_bx run_alD run_bdDs ecs_0 ecs_1 ocs_24
set_option maxRecDepth 100000 in
set_option maxHeartbeats 2000000 in
theorem hput (hb g ob pb n c:Nat) (room sy:Int) (th:Th) (k:KV) (d:Ds) (w:World) (h:Blk w hb (hp room (.slice (some ⟨g,0,none⟩) n c) sy) 105) (o:Nat) (hn:o < n) (hc:w.cell? ⟨g,o,none⟩=some (ptr ob)) (hob:Blk w ob (ocs th pb) 124) (Q:World→World→Prop)
  (hp:∀ w1,Below w.heap.size w w1→Calls Tryz.prog 81 #[ptr pb,.agg #[.string k.1,.int .i64 k.2],.agg (dcs d)] w1 fun e w'=>e = .returned (.tuple #[])∧Q w1 w') :
  Calls Tryz.prog 36 #[ptr hb,.int .i64 o,.agg #[.string k.1,.int .i64 k.2],.agg (dcs d)] w fun e w'=>e = .returned (.bool true)∧∃ w1,Below w.heap.size w w1∧Q w1 w':=by
 obtain ⟨W1,hW1⟩:∃ W1,w.alloc (.cells #[.string k.1,.int .i64 k.2] 32)=W1:=⟨_,rfl⟩
 have k1:W1.heap.size=w.heap.size+1:=by rw [← hW1];simp
 obtain ⟨W2,hW2⟩:∃ W2,W1.alloc (.cells (dcs d) 34)=W2:=⟨_,rfl⟩
 have b2:Below w.heap.size w W2:=by rw [← hW2,← hW1];exact ((Below.refl _ w).alloc (Nat.le_refl _) _).alloc (by simp) _
 have y2:Blk W2 w.heap.size #[.string k.1,.int .i64 k.2] 32:=by rw [← hW2,← hW1];exact (Blk.new w _ _).old _
 have z2:Blk W2 (w.heap.size+1) (dcs d) 34:=by
  have:=Blk.new W1 (dcs d) 34
  rw [hW2,k1] at this
  exact this
 have l0:=y2.cell 0
 have l1:=y2.cell 1
 have ld:=run_ldMid (w:=W2) (b:=w.heap.size+1) (o:=0) (d:=d) (fun j v hv=>by rw [Nat.zero_add];exact (z2.cell j).trans (by simpa using hv))
 have ldd:=run_ldMid (w:=W2.drew) (b:=w.heap.size+1) (o:=0) (d:=d) (fun j v hv=>by rw [Nat.zero_add];exact (z2.cell j).trans (by simpa using hv))
 have c24:W2.cell? ⟨ob,24,none⟩=some (ptr pb):=by rw [(hob.call b2).cell,ocs_24]
 have hobj:=object_some hb g ob room n c o sy W2 (h.call b2) hn ((b2.cell (World.block_lt_of_cell? w _ hc)).trans hc)
 have B2:=Lib.hid b2
 have P2:=Lib.hid (hp W2 b2)
 have P3:=Lib.hid (hp W2.drew b2.drew)
 clear h hc hob hp y2 z2 b2
 go_enter Tryz.func36,Tryz.ntmps36
 go_wp2_with (go_at_call 56;refine hobj.mono ?_;rintro e w2 ⟨rfl,rfl⟩)
 go_region_with (go_at_call 81;refine P3.out.mono ?_;rintro e w' ⟨rfl,hq⟩)
 all_goals go_wp2
 all_goals go_ret
 all_goals exact ⟨rfl,_,B2.out.drew,hq⟩
set_option maxRecDepth 100000 in
set_option maxHeartbeats 2000000 in
theorem hdrop (hb g ob pb n c:Nat) (room sy:Int) (th:Th) (k:KV) (b:Bool) (w:World) (h:Blk w hb (hp room (.slice (some ⟨g,0,none⟩) n c) sy) 105) (o:Nat) (hn:o < n) (hc:w.cell? ⟨g,o,none⟩=some (ptr ob)) (hob:Blk w ob (ocs th pb) 124) (Q:World→World→Prop)
  (hp:∀ w1,Below w.heap.size w w1→Calls Tryz.prog 238 #[ptr pb,.agg #[.string k.1,.int .i64 k.2]] w1 fun e w'=>e = .returned (.bool b)∧Q w1 w') :
  Calls Tryz.prog 204 #[ptr hb,.int .i64 o,.agg #[.string k.1,.int .i64 k.2]] w fun e w'=>e = .returned (.bool b)∧∃ w1,Below w.heap.size w w1∧Q w1 w':=by
 obtain ⟨W2,hW2⟩:∃ W2,w.alloc (.cells #[.string k.1,.int .i64 k.2] 32)=W2:=⟨_,rfl⟩
 have b2:Below w.heap.size w W2:=by rw [← hW2];exact (Below.refl _ w).alloc (Nat.le_refl _) _
 have y2:Blk W2 w.heap.size #[.string k.1,.int .i64 k.2] 32:=by rw [← hW2];exact Blk.new w _ _
 have l0:=y2.cell 0
 have l1:=y2.cell 1
 have c24:W2.cell? ⟨ob,24,none⟩=some (ptr pb):=by rw [(hob.call b2).cell,ocs_24]
 have hobj:=object_some hb g ob room n c o sy W2 (h.call b2) hn ((b2.cell (World.block_lt_of_cell? w _ hc)).trans hc)
 have B2:=Lib.hid b2
 have P2:=Lib.hid (hp W2 b2)
 have P3:=Lib.hid (hp W2.drew b2.drew)
 clear h hc hob hp y2 b2
 go_enter Tryz.func204,Tryz.ntmps204
 go_wp2_with (first |(go_at_call 56;refine hobj.mono ?_;rintro e w2 ⟨rfl,rfl⟩) |(go_at_call 238;refine P2.out.mono ?_;rintro e w' ⟨rfl,hq⟩))
 go_region_with (go_at_call 238;refine P3.out.mono ?_;rintro e w' ⟨rfl,hq⟩)
 all_goals go_wp2
 all_goals go_ret
 all_goals exact ⟨rfl,_,B2.out.drew,hq⟩
end
end Go.Proofs.YtkadkmnolkkhgaaGreatDoor.Hp

/-
 What Put, Drop, Keys, Get, Set and Make leave of a world.
-/
namespace Go.Proofs.YtkadkmnolkkhgaaGreatDoor.Mw
open Go Go.RowKit Go.Maps Keys Hp Mo
open Des (Vl Ds zeroV zeroD dcs dcs_size dcs_one)
open Arrs (En ecs)
section
variable {X:Cx} {c:Nat} {M:Wm} {w w':World} {A:Aw}
theorem put_none (hb:Nat) (room:Int) (a:Option Addr) (n c:Nat) (sy o:Int) (k:KV) (d:Ds) (w:World) (h:Blk w hb (hp room (.slice a n c) sy) 105) (ho:o < 0∨(n:Int)≤o) :
  Calls Tryz.prog 36 #[ptr hb,.int .i64 o,.agg (kcs k),.agg (dcs d)] w fun e w'=>(∃ b,e = .returned (.bool b))∧Below w.heap.size w w':=by
 obtain ⟨w1,hw1⟩:∃ w1,(w.alloc (.cells #[.string k.1,.int .i64 k.2] 32)).alloc (.cells (dcs d) 34)=w1:=⟨_,rfl⟩
 have b1:Below w.heap.size w w1:=by rw [← hw1];exact ((Below.refl _ w).alloc (Nat.le_refl _) _).alloc (by simp) _
 have hob:=object_none hb room a n c sy o w1 (h.call b1) ho
 have B1:=Lib.hid b1
 clear h ho b1
 unfold kcs
 go_enter Tryz.func36,Tryz.ntmps36
 go_wp2_with (go_at_call 56;refine hob.mono ?_;rintro e wz ⟨rfl,rfl⟩)
 go_ret
 exact ⟨⟨_,rfl⟩,B1.out⟩
theorem drop_none (hb:Nat) (room:Int) (a:Option Addr) (n c:Nat) (sy o:Int) (k:KV) (w:World) (h:Blk w hb (hp room (.slice a n c) sy) 105) (ho:o < 0∨(n:Int)≤o) :
  Calls Tryz.prog 204 #[ptr hb,.int .i64 o,.agg (kcs k)] w fun e w'=>(∃ b,e = .returned (.bool b))∧Below w.heap.size w w':=by
 obtain ⟨w1,hw1⟩:∃ w1,w.alloc (.cells #[.string k.1,.int .i64 k.2] 32)=w1:=⟨_,rfl⟩
 have b1:Below w.heap.size w w1:=by rw [← hw1];exact (Below.refl _ w).alloc (Nat.le_refl _) _
 have hob:=object_none hb room a n c sy o w1 (h.call b1) ho
 have B1:=Lib.hid b1
 clear h ho b1
 unfold kcs
 go_enter Tryz.func204,Tryz.ntmps204
 go_wp2_with (go_at_call 56;refine hob.mono ?_;rintro e wz ⟨rfl,rfl⟩)
 all_goals (try go_region)
 all_goals (try go_wp2)
 all_goals go_ret
 all_goals exact ⟨⟨_,rfl⟩,by first |exact B1.out |exact B1.out.drew⟩
theorem ObIs.turned {q:Oq} {x:Ob} {n:Nat} {ns:List Nd} {es:List En} (h:ObIs w q x) (ht:Turn w w' q.pb q.mb q.ns) (ho:Obj1 w' q.pb q.mb n ns) (hn:Once1 ns) (he:ns.map (·.e)=es) (hf:∀ e ∈ es,Fine (ekey e)) (hl:es.length≤n):ObIs w' { q with n:=n,ns:=ns } { x with es:=es }:=by
 refine ⟨ht.blk h.blk (h.obj.ring.notblk h.blk (by decide) (by decide)) (blk_nemap h.blk h.obj.map),h.nop,h.noa,ho,hn,he,hf,own_same h.row fun b cs _ hb=>ht.same b hb.lt (h.obj.ring.notblk hb (by decide) (by decide)) (blk_nemap hb h.obj.map),hl,h.vlen⟩
theorem bl_cb {q q':Oq} {n:Nat} (h:∀ b ∈ q'.cb,b ∈ q.cb∨n≤b) (ha:q'.args=q.args):∀ b ∈ q'.bl,b ∈ q.bl∨n≤b:=fun b hb=>by
 rcases List.mem_append.1 hb with hb |hb
 ·rw [ha] at hb
  exact .inl (List.mem_append_left _ hb)
 ·exact (h b hb).imp (List.mem_append_right _) id
theorem once_key {l r:List Nd} {x:Nd} (h:Once1 (l++x :: r)):(∀ y ∈ l,ekey y.e ≠ ekey x.e)∧∀ y ∈ r,ekey y.e ≠ ekey x.e:=by
 have hn:=h.once
 simp only [List.map_append,List.map_cons,List.nodup_append,List.nodup_cons] at hn
 exact ⟨fun m hm e=>hn.2.2 (ekey m.e) (List.mem_map.2 ⟨m,hm,rfl⟩) (ekey x.e) (by simp) e,fun m hm e=>hn.2.1.1 (e ▸ List.mem_map.2 ⟨m,hm,rfl⟩)⟩
theorem map_other {l:List Nd} {k:KV} {f:En→En} (h:∀ y ∈ l,ekey y.e ≠ k):(l.map (·.e)).map (fun e=>if ekey e=k then f e else e)=l.map (·.e):=by
 rw [List.map_map]
 apply List.map_congr_left
 intro y hy
 simp [h y hy]
theorem put_old {l r:List Nd} {x:Nd} (d:Ds) (h:Once1 (l++x :: r)):putL ((l++x :: r).map (·.e)) (ekey x.e) d=(l++x.desc d :: r).map (·.e):=by
 unfold putL
 have hf:find ((l++x :: r).map (·.e)) (ekey x.e)=some x.e.d:=by
  obtain ⟨l',x',r',h1,h2,h3,h4⟩:=find_look h.look
  rw [h4]
  have hx':x' ∈ l++x :: r:=h1 ▸ by simp
  obtain ⟨k1,k2⟩:=once_key h
  rcases List.mem_append.1 hx' with hm |hm
  ·exact absurd h2 (k1 _ hm)
  ·rcases List.mem_cons.1 hm with rfl |hm
   ·rfl
   ·exact absurd h2 (k2 _ hm)
 obtain ⟨k1,k2⟩:=once_key h
 rw [hf]
 simp only [Option.isSome_some,if_true]
 rw [List.map_append,List.map_cons,List.map_append,List.map_cons,map_other k1,map_other k2,List.map_append,List.map_cons]
 simp only [if_true]
 rfl
theorem put_new {ns:List Nd} {k:KV} (d:Ds) (h:Hp.look ns k=none):putL (ns.map (·.e)) k d=ns.map (·.e)++[⟨k.1,k.2,d⟩]:=by
 unfold putL
 rw [find_none h]
 rfl
theorem drop_old {l r:List Nd} {x:Nd} (h:Once1 (l++x :: r)):dropL ((l++x :: r).map (·.e)) (ekey x.e)=(l++r).map (·.e):=by
 obtain ⟨k1,k2⟩:=once_key h
 have k:∀ {l:List Nd},(∀ y ∈ l,ekey y.e ≠ ekey x.e)→(l.map (·.e)).filter (fun e=>!decide (ekey e=ekey x.e))=l.map (·.e):=fun hl=>by
  rw [List.filter_eq_self]
  intro e he
  obtain ⟨y,hy,rfl⟩:=List.mem_map.1 he
  simpa using hl y hy
 unfold dropL
 rw [List.map_append,List.map_cons,List.filter_append,List.filter_cons,k k1,k k2,List.map_append]
 simp
theorem drop_no {ns:List Nd} {k:KV} (h:Hp.look ns k=none):dropL (ns.map (·.e)) k=ns.map (·.e):=by
 unfold dropL
 rw [List.filter_eq_self]
 intro e he
 obtain ⟨y,hy,rfl⟩:=List.mem_map.1 he
 simpa using look_none.1 h y hy
theorem setOb_same {i:Nat} {x:Ob} (h:A.objs[i]? = some x):setOb A i x=A:=by
 unfold setOb
 have e:A.objs.set i x=A.objs:=by
  apply List.ext_getElem?
  intro j
  rw [List.getElem?_set]
  by_cases hj:i=j
  ·subst hj
   have:=(List.getElem?_eq_some_iff.1 h).1
   simp [this,h]
   exact (List.getElem?_eq_some_iff.1 h).2.symm
  ·rw [if_neg hj]
 rw [Int.toNat_natCast,e]
def LeftB (X:Cx) (c:Nat) (M:Wm) (w:World) (A':Aw) (e:Ending) (w':World):Prop:=(∃ b,e = .returned (.bool b))∧∃ M',M'.hb=M.hb∧Left X c M w A' w' M'
theorem LeftB.of {M':Wm} {A':Aw} {b:Bool} (h:Left X c M w A' w' M') (hh:M'.hb=M.hb):LeftB X c M w A' (.returned (.bool b)) w':=⟨⟨b,rfl⟩,M',hh,h⟩
theorem wPut (h:WIs X (c+1) M w A) (o:Int) (k:KV) (hk:Fine k) (d:Ds) :
  Calls Tryz.prog 36 #[ptr M.hb,.int .i64 o,.agg (kcs k),.agg (dcs d)] w (LeftB X c M w (putF A o k d)):=by
 unfold putF
 cases hx:at? A o with
 | none =>
  obtain ⟨a,cc,e⟩:=h.os_shape
  have hb:=h.hblk
  rw [e] at hb
  exact (put_none M.hb _ a A.objs.length cc _ o k d w hb (at_none hx)).mono fun e w' ⟨h1,h2⟩=>⟨h1,M,rfl,(h.less (by omega)).call h2,Nx.of_below h2⟩
 | some x =>
  obtain ⟨i,q,g,cc,rfl,hi,hq,hr,hos,hc,hlt⟩:=h.obj hx
  have hb:=h.hblk
  rw [hos] at hb
  have hnum:=h.num q (List.mem_of_getElem? hq)
  cases hl:Hp.look q.ns k with
  | none =>
   refine (hput M.hb g q.ob q.pb A.objs.length cc A.room A.sy _ k d w hb i hlt hc hr.blk _ fun w1 hb1=>pput_new q.pb q.mb q.n q.ns k d w1 (hr.obj.call hb1) hr.once (by omega) hk hl).mono ?_
   rintro e w' ⟨rfl,w1,hb1,nd,hnd,hsz,hob,hon,htu⟩
   have ht:=below_turn hb1 htu
   have hes:(q.ns++[nd]).map (·.e)=putL x.es k d:=by
    rw [← hr.es,put_new d hl,List.map_append]
    congr 1
    show [nd.e]=_
    rw [hnd]
   have hlen:=hr.len
   refine LeftB.of (h.turn (q':={ q with n:=q.n+1,ns:=q.ns++[nd] }) hq hi ht.fr (fun b hb hn=>ht.same b hb (fun hm=>hn (by simp [Oq.cb,hm])) (fun e=>hn (by simp [Oq.cb,e]))) (hr.turned ht hob hon hes ?_ ?_) rfl ?_ (by show q.n+1+_+c≤_;omega) (by omega) (fun hp=>h.nopx hp x (List.mem_of_getElem? hi))) rfl
   ·rw [← hr.es,put_new d hl]
    intro e he
    rcases List.mem_append.1 he with he |he
    ·rw [hr.es] at he;exact hr.fine e he
    ·rw [List.mem_singleton.1 he];exact hk
   ·rw [← hr.es,put_new d hl,List.length_append,hr.es]
    simp
    omega
   ·refine bl_cb (fun b hbm=>?_) rfl
    simp only [Oq.cb,blks,List.map_append,List.map_cons,List.map_nil,List.mem_cons,List.mem_append,List.not_mem_nil,or_false] at hbm ⊢
    rcases hbm with h1 |h1 |h1 |h1 |h1
    ·exact .inl (.inl h1)
    ·exact .inl (.inr (.inl h1))
    ·exact .inl (.inr (.inr (.inl h1)))
    ·exact .inl (.inr (.inr (.inr h1)))
    ·right
     have:=hb1.size
     omega
  | some b =>
   obtain ⟨l,nd,r,hns,rfl,rfl,hf⟩:=find_look hl
   have hobj:=hr.obj
   have hon1:=hr.once
   rw [hns] at hobj hon1
   refine (hput M.hb g q.ob q.pb A.objs.length cc A.room A.sy _ (ekey nd.e) d w hb i hlt hc hr.blk _ fun w1 hb1=>pput_old q.pb q.mb q.n l r nd d w1 (hobj.call hb1) hon1 hk).mono ?_
   rintro e w' ⟨rfl,w1,hb1,hob,hon,htu⟩
   have ht:=below_turn hb1 htu
   rw [← hns] at ht
   have hes:(l++nd.desc d :: r).map (·.e)=putL x.es (ekey nd.e) d:=by
    rw [← hr.es,hns,put_old d hon1]
   have hlen:=hr.len
   have hln:(putL x.es (ekey nd.e) d).length=x.es.length:=by rw [← hes,← hr.es,hns];simp
   refine LeftB.of (h.turn (q':={ q with n:=q.n,ns:=l++nd.desc d :: r }) hq hi ht.fr (fun b hb hn=>ht.same b hb (fun hm=>hn (by simp [Oq.cb,hm])) (fun e=>hn (by simp [Oq.cb,e]))) (hr.turned ht hob hon hes ?_ (by omega)) rfl ?_ (by show q.n+_+c≤_;omega) (by omega) (fun hp=>h.nopx hp x (List.mem_of_getElem? hi))) rfl
   ·rw [← hes]
    intro e he
    obtain ⟨y,hy,rfl⟩:=List.mem_map.1 he
    have hfy:∀ y ∈ q.ns,Fine (ekey y.e):=fun y hy=>hr.fine y.e (by rw [← hr.es];exact List.mem_map.2 ⟨y,hy,rfl⟩)
    rw [hns] at hfy
    rcases List.mem_append.1 hy with hy |hy
    ·exact hfy y (by simp [hy])
    ·rcases List.mem_cons.1 hy with rfl |hy
     ·exact hk
     ·exact hfy y (by simp [hy])
   ·refine bl_cb (fun b hbm=>?_) rfl
    left
    simp only [Oq.cb] at hbm ⊢
    rw [blks_desc,← hns] at hbm
    exact hbm
theorem wDrop (h:WIs X c M w A) (o:Int) (k:KV) (hk:Fine k) :
  Calls Tryz.prog 204 #[ptr M.hb,.int .i64 o,.agg (kcs k)] w (LeftB X c M w (dropF A o k)):=by
 unfold dropF
 cases hx:at? A o with
 | none =>
  obtain ⟨a,cc,e⟩:=h.os_shape
  have hb:=h.hblk
  rw [e] at hb
  exact (drop_none M.hb _ a A.objs.length cc _ o k w hb (at_none hx)).mono fun e w' ⟨h1,h2⟩=>⟨h1,M,rfl,h.call h2,Nx.of_below h2⟩
 | some x =>
  obtain ⟨i,q,g,cc,rfl,hi,hq,hr,hos,hc,hlt⟩:=h.obj hx
  have hb:=h.hblk
  rw [hos] at hb
  have hnum:=h.num q (List.mem_of_getElem? hq)
  cases hl:Hp.look q.ns k with
  | none =>
   refine (hdrop M.hb g q.ob q.pb A.objs.length cc A.room A.sy _ k false w hb i hlt hc hr.blk _ fun w1 hb1=>pdrop_none q.pb q.mb q.n q.ns k w1 (hr.obj.call hb1) hk hl).mono ?_
   rintro e w' ⟨rfl,w1,hb1,hb2⟩
   have hb3:=hb1.trans (hb2.mono hb1.size)
   refine ⟨⟨_,rfl⟩,M,rfl,?_⟩
   show Left X c M w (setOb A i { x with es:=dropL x.es k }) w' M
   have e1:({ x with es:=dropL x.es k }:Ob)=x:=by
    rw [← hr.es,drop_no hl,hr.es]
   rw [e1,setOb_same hi]
   exact ⟨h.call hb3,Nx.of_below hb3⟩
  | some b =>
   obtain ⟨l,nd,r,hns,rfl,rfl,hf⟩:=find_look hl
   have hobj:=hr.obj
   have hon1:=hr.once
   rw [hns] at hobj hon1
   refine (hdrop M.hb g q.ob q.pb A.objs.length cc A.room A.sy _ (ekey nd.e) true w hb i hlt hc hr.blk _ fun w1 hb1=>pdrop_some q.pb q.mb q.n l r nd w1 (hobj.call hb1) hon1 hk).mono ?_
   rintro e w' ⟨rfl,w1,hb1,hob,hon,htu⟩
   have ht:=below_turn hb1 htu
   rw [← hns] at ht
   have hes:(l++r).map (·.e)=dropL x.es (ekey nd.e):=by rw [← hr.es,hns,drop_old hon1]
   have hlen:=hr.len
   have hln:(dropL x.es (ekey nd.e)).length≤x.es.length:=List.length_filter_le _ _
   refine LeftB.of (h.turn (q':={ q with n:=q.n,ns:=l++r }) hq hi ht.fr (fun b hb hn=>ht.same b hb (fun hm=>hn (by simp [Oq.cb,hm])) (fun e=>hn (by simp [Oq.cb,e]))) (hr.turned ht hob hon hes ?_ (by omega)) rfl ?_ (by show q.n+_+c≤_;omega) (by omega) (fun hp=>h.nopx hp x (List.mem_of_getElem? hi))) rfl
   ·intro e he
    exact hr.fine e ((List.mem_filter.1 he).1)
   ·refine bl_cb (fun b hbm=>?_) rfl
    left
    simp only [Oq.cb,blks,List.map_append,List.mem_cons,List.mem_append] at hbm ⊢
    rw [hns]
    simp only [List.map_append,List.map_cons,List.mem_append,List.mem_cons]
    rcases hbm with h1 |h1 |h1 |h1 |h1
    ·exact .inl h1
    ·exact .inr (.inl h1)
    ·exact .inr (.inr (.inl h1))
    ·exact .inr (.inr (.inr (.inl h1)))
    ·exact .inr (.inr (.inr (.inr (.inr h1))))
end
end Go.Proofs.YtkadkmnolkkhgaaGreatDoor.Mw

/-
 What Keys, Get, Set and Make leave of a world.
-/
namespace Go.Proofs.YtkadkmnolkkhgaaGreatDoor.Mw
open Go Go.RowKit Go.Maps Keys Hp Mo
open Des (Vl Ds zeroV zeroD dcs dcs_size dcs_one)
open Arrs (En ecs)
section
variable {X:Cx} {c:Nat} {M:Wm} {w w':World} {A:Aw}
theorem ordF_len (l:List KV):(ordF l).length≤3*l.length:=by
 have h:=once_length l
 have h1:(idxs (once l)).length≤(once l).length:=List.length_filterMap_le _ _
 have h2:(names (once l)).length≤(once l).length:=List.length_filter_le _ _
 have h3:(syms (once l)).length≤(once l).length:=List.length_filter_le _ _
 unfold ordF
 simp only [List.length_append,List.length_map,List.length_mergeSort]
 omega
theorem keys_none (hb:Nat) (room:Int) (a:Option Addr) (n c:Nat) (sy o:Int) (w:World) (h:Blk w hb (hp room (.slice a n c) sy) 105) (ho:o < 0∨(n:Int)≤o) :
  Calls Tryz.prog 175 #[ptr hb,.int .i64 o] w fun e w'=>e = .returned nilS∧Below w.heap.size w w':=by
 have hob:=object_none hb room a n c sy o w h ho
 clear h ho
 go_enter Tryz.func175,Tryz.ntmps175
 go_wp2_with (go_at_call 56;refine hob.mono ?_;rintro e wz ⟨rfl,rfl⟩)
 go_ret
 exact ⟨rfl,Below.refl _ _⟩
theorem ks_own {B:List Nat} {b0:Nat} {v:Value} {ks:List KV} (h:w.ownsRow b0 32 2 v ks.length (cellsK ks)) (hn:∀ b,b0≤b→b ∉ B) (hl:ks.length≤10000000):KsOut B w v ks:=by
 rcases h.2 with ⟨rfl,h0⟩ |⟨g,cap,cur,rfl,hg,hb,hle,hcap,hsz,htk⟩
 ·exact ⟨none,0,by rw [h0],hl,.inl (List.eq_nil_of_length_eq_zero h0)⟩
 ·refine ⟨_,cap,rfl,hl,.inr ⟨g,0,cur,rfl,hb,hn g hg,fun j u hj=>?_⟩⟩
  have hlt:=(List.getElem?_eq_some_iff.1 hj).1
  rw [h.1] at hlt
  rw [Nat.zero_add,h.cellAt j hlt]
  exact hj
theorem vs_own {B:List Nat} {b0:Nat} {v:Value} {vs:List Vl} (h:w.ownsRow b0 30 3 v vs.length (cellsV vs)) (hn:∀ b,b0≤b→b ∉ B):VsOut B w v vs:=by
 rcases h.2 with ⟨rfl,h0⟩ |⟨g,cap,cur,rfl,hg,hb,hle,hcap,hsz,htk⟩
 ·exact ⟨none,0,by rw [h0],.inl (List.eq_nil_of_length_eq_zero h0)⟩
 ·refine ⟨_,cap,rfl,.inr ⟨g,0,rfl,(Array.getElem?_eq_some_iff.1 hb).1,hn g hg,fun j u hj=>?_⟩⟩
  have hlt:=(List.getElem?_eq_some_iff.1 hj).1
  rw [h.1] at hlt
  rw [Nat.zero_add,h.cellAt j hlt]
  exact hj
def KeysPost (B:List Nat) (w:World) (ks:List KV) (e:Ending) (w':World):Prop:=∃ kv,e = .returned kv∧KsOut B w' kv ks∧Below w.heap.size w w'
theorem wKeys (h:WIs X c M w A) (o:Int):Calls Tryz.prog 175 #[ptr M.hb,.int .i64 o] w (KeysPost (M.bl X.wb) w (keysF A o)):=by
 unfold keysF
 cases hx:at? A o with
 | none =>
  obtain ⟨a,cc,e⟩:=h.os_shape
  have hb:=h.hblk
  rw [e] at hb
  exact (keys_none M.hb _ a A.objs.length cc _ o w hb (at_none hx)).mono fun e w' ⟨h1,h2⟩=>⟨_,h1,KsOut.nil _ _,h2⟩
 | some x =>
  obtain ⟨i,q,g,cc,rfl,hi,hq,hr,hos,hc,hlt⟩:=h.obj hx
  have hb:=h.hblk
  rw [hos] at hb
  have hnum:=h.num q (List.mem_of_getElem? hq)
  have hlen:=hr.len
  have hl2:q.ns.length=x.es.length:=by rw [← hr.es];simp
  refine (hkeys_any M.hb g q.ob q.pb A.objs.length cc A.room A.sy _ w hb i hlt hc hr.blk q.mb q.n q.ns (x.es.map ekey) (by rw [← hr.es];simp) hr.obj (by omega) (by omega) (fun k hk=>?_) h.lwAt).mono ?_
  ·obtain ⟨e,he,rfl⟩:=List.mem_map.1 hk
   exact hr.fine e he
  ·rintro e w' ⟨v,rfl,hrow,hbel⟩
   exact ⟨v,rfl,ks_own hrow (fun b hb=>h.new hb) (Nat.le_trans (ordF_len _) (by simp only [List.length_map];omega)),hbel⟩
theorem once_chain {ns:List Nd} (h:Chain ns) (hn:(ns.map fun n=>ekey n.e).Nodup):Once1 ns:=by
 refine ⟨fun n hm=>?_,hn⟩
 obtain ⟨l,r,rfl⟩:=List.append_of_mem hm
 refine h l n r rfl fun y hy e=>?_
 simp only [List.map_append,List.map_cons,List.nodup_append,List.nodup_cons] at hn
 exact hn.2.1.1 (List.mem_map.2 ⟨y,hy,e⟩)
theorem row_obj {w:World} {b pb mb n:Nat} {ns:List Nd} {cs ds:Array Value} (h:Obj1 w pb mb n ns) (hb:Blk w b cs 124):Obj1 (w.setRow b ds) pb mb n ns :=
 ⟨h.ring.same fun k hk=>setRow_other w b k ds fun e=>h.ring.notblk hb (by decide) (by decide) (e ▸ hk),h.map.same (setRow_other w b mb ds fun e=>blk_nemap hb h.map e.symm)⟩
structure Give (w:World) (th:Th) (es:List En) (vs:List Vl):Prop where
 props:∃ pa pc,th.props = .slice pa es.length pc∧Hp.EsAt w.heap.size pa es w
 args:∃ aa ac,th.args = .slice aa vs.length ac∧VsAt w.heap.size aa vs w
 fine:∀ e ∈ es,Fine (ekey e)
 few:es.length≤900000
 vfew:vs.length≤100000
theorem Give.call {th:Th} {es:List En} {vs:List Vl} (h:Give w th es vs) (hb:Below w.heap.size w w'):Give w' th es vs:=by
 obtain ⟨⟨pa,pc,h1,h2⟩,⟨aa,ac,h3,h4⟩,h5,h6,h7⟩:=h
 exact ⟨⟨pa,pc,h1,(h2.below hb).mono hb.size⟩,⟨aa,ac,h3,(h4.below hb).mono hb.size⟩,h5,h6,h7⟩
theorem Give.store {th:Th} {es:List En} {vs:List Vl} (h:Give w th es vs):Calls Tryz.prog 46 #[.agg (tcs th)] w (StorePost w th es vs):=by
 obtain ⟨⟨pa,pc,h1,h2⟩,⟨aa,ac,h3,h4⟩,h5,h6,h7⟩:=h
 exact store_any th pa es.length pc aa vs.length ac es vs w h1 h3 (fun w2 hb=>collect_any pa pc es w2 (by omega) ((h2.below hb).mono hb.size) h5) fun w2 hb=>clone_any aa _ ac vs w2 rfl (by omega) ((h4.below hb).mono hb.size)
def bare (t:Th):Th:={ t with props:=nilS,args:=nilS }
theorem wSet (h:WIs X c M w A) {o:Int} {x:Ob} (hx:at? A o=some x) {th:Th} {es:List En} {vs:List Vl} (hg:Give w th es vs) (hn:(es.map ekey).Nodup) (hc:es.length+8*A.fuel.toNat+c≤900000) (hk:X.px=false→th.kind ≠ 4) :
  Calls Tryz.prog 199 #[ptr M.hb,.int .i64 o,.agg (tcs th)] w (LeftB X c M w (setOb A o ⟨bare th,es,vs⟩)):=by
 obtain ⟨i,q,g,cc,rfl,hi,hq,hr,hos,hcl,hlt⟩:=h.obj hx
 have hb:=h.hblk
 rw [hos] at hb
 refine (set_some M.hb g q.ob q.pb A.objs.length cc i A.room A.sy th _ es vs w hb hlt hcl hr.blk fun w1 hb1=>(hg.call hb1).store).mono ?_
 rintro e w' ⟨rfl,w1,o2,pb,mb,ns,a,m,cp,hb1,hat,rfl⟩
 have hblk1:=hr.blk.call hb1
 have hq':ObIs (w1.setRow q.ob (ocs { th with props:=nilS,args:=.slice a m cp } pb)) ⟨q.ob,pb,mb,es.length,ns,.slice a m cp⟩ ⟨bare th,es,vs⟩:=by
  refine ⟨hblk1.row _,rfl,rfl,row_obj hat.obj hblk1,once_chain hat.chain ?_,hat.es,hg.fine,(own_row hat.row hblk1 (by decide)).mono (Nat.zero_le _),Nat.le_refl _,hg.vfew⟩
  rw [← hat.es,List.map_map] at hn
  exact hn
 refine LeftB.of (h.turn hq hi (w':=w1.setRow q.ob _) (q':=⟨q.ob,pb,mb,es.length,ns,.slice a m cp⟩) ⟨hb1.os,hb1.tape,hb1.output,by rw [size_setRow];exact hb1.size⟩ (fun b hbl hn=>(setRow_other w1 q.ob b _ fun e=>hn (by rw [e];simp [Oq.cb])).trans (hb1.block b hbl)) hq' rfl (fun b hm=>?_) (by show es.length+_+c≤_;omega) (Nat.le_refl _) hk) rfl
 rcases List.mem_append.1 hm with hm |hm
 ·right
  rcases hat.row.2 with ⟨h1,-⟩ |⟨g2,cap,cur,h1,hg2,-,-⟩
  ·rw [show (Value.slice a m cp)=_ from h1] at hm;simp [obl,Value.ownBlock] at hm
  ·rw [show (Value.slice a m cp)=_ from h1] at hm;simp [obl,Value.ownBlock] at hm;omega
 ·rcases List.mem_cons.1 hm with rfl |hm
  ·exact .inl (List.mem_append_right _ (by simp [Oq.cb]))
  ·right
   rcases List.mem_cons.1 hm with rfl |hm
   ·exact hat.lowm
   ·exact hat.low b hm
def MakeP (X:Cx) (c:Nat) (M:Wm) (w:World) (A:Aw) (x:Ob) (e:Ending) (w':World):Prop :=
 if (A.objs.length:Int) < A.room then e = .returned (.tuple #[.int .i64 A.objs.length,.bool true])∧∃ M',M'.hb=M.hb∧Left X c M w (makeF x.th x.es x.vs A) w' M' else e = .returned (.tuple #[.int .i64 0,.bool false])∧Below w.heap.size w w'
theorem wMake (h:WIs X (c+1) M w A) {th:Th} {es:List En} {vs:List Vl} (hg:Give w th es vs) (hn:(es.map ekey).Nodup) (hc:es.length+8*A.fuel.toNat+c≤900000) (hk:X.px=false→th.kind ≠ 4) :
  Calls Tryz.prog 17 #[ptr M.hb,.agg (tcs th)] w (MakeP X c M w A ⟨bare th,es,vs⟩):=by
 obtain ⟨a,cc,hos⟩:=h.os_shape
 have hb:=h.hblk
 rw [hos] at hb
 have hfew:=h.few
 unfold MakeP
 by_cases hr:(A.objs.length:Int) < A.room
 ·simp only [if_pos hr]
  have horow:=h.orow
  rw [hos] at horow
  refine (make_any 0 M.hb A.room a A.objs.length cc A.sy _ th es vs w hb (Nat.zero_le _) horow (by omega) hr fun w1 hb1=>(hg.call hb1).store).mono ?_
  rintro e w' ⟨rfl,g,c1,h1,ob,pb,mb,ns,a2,m2,c2,h2,hat,h4,h5,h6⟩
  refine ⟨rfl,{ M with os:=.slice (some ⟨g,0,none⟩) (A.objs.length+1) c1,qs:=M.qs++[⟨ob,pb,mb,es.length,ns,.slice a2 m2 c2⟩] },rfl,h.grow (q':=⟨ob,pb,mb,es.length,ns,.slice a2 m2 c2⟩) (x':=⟨bare th,es,vs⟩) ⟨h4.os,h4.tape,h4.output,h4.size⟩ (fun b hb1 hb2 hb3=>h5 b hb1 hb2 (by rw [← hos];exact hb3)) h1 h2 (fun b hm=>?_) ?_ (fun b hm=>?_) (by show es.length+_+c≤_;omega) hk⟩
  ·simp only [obl,Value.ownBlock,Option.toList_some,List.mem_singleton] at hm
   rw [hm,hos]
   exact h6
  ·refine ⟨hat.blk,rfl,rfl,hat.obj,once_chain hat.chain ?_,hat.es,hg.fine,hat.row.mono (Nat.zero_le _),Nat.le_refl _,hg.vfew⟩
   rw [← hat.es,List.map_map] at hn
   exact hn
  ·rcases List.mem_append.1 hm with hm |hm
   ·rcases hat.row.2 with ⟨h1,-⟩ |⟨g2,cap,cur,h1,hg2,-,-⟩
    ·rw [show (Value.slice a2 m2 c2)=_ from h1] at hm;simp [obl,Value.ownBlock] at hm
    ·rw [show (Value.slice a2 m2 c2)=_ from h1] at hm;simp [obl,Value.ownBlock] at hm;omega
   ·rcases List.mem_cons.1 hm with rfl |hm
    ·exact hat.lowo
    ·rcases List.mem_cons.1 hm with rfl |hm
     ·exact hat.lowm
     ·exact hat.low b hm
 ·simp only [if_neg hr]
  exact make_full M.hb A.room a A.objs.length cc A.sy th w hb (by omega)
end
end Go.Proofs.YtkadkmnolkkhgaaGreatDoor.Mw
