/-
 Texts of this seat in build order: HpKys, HpOpsK, HpGet, HpClone.
-/
import Derived.Test.YtkadkmnolkkhgaaGreatDoorMb11
import Derived.Test.YtkadkmnolkkhgaaGreatDoorMb09
/-
 keys: the keys of a ring's properties.
-/
set_option linter.unusedVariables false
set_option linter.unusedSimpArgs false
namespace Go.Proofs.YtkadkmnolkkhgaaGreatDoor.Hp
open Go Go.RowKit Go.Maps Go.Shelf Keys
open Des (Vl Ds zeroV zeroD dcs dcs_size dcs_one)
open Arrs (En ecs ecs_0 ecs_1 ecs_10 ecs_size ecs_list ecs_one ecs_one')
def BsK (ps:Array (Nat × Value)):Sem Value:=Instr.buildSlice 55 1 ps
theorem to_bsK (ps:Array (Nat × Value)):Instr.buildSlice 55 1 ps=BsK ps:=(rfl)
theorem run_bsK (w:World) (s:ByteArray) (n:Int):(BsK #[(0,.agg #[.string s,.int .i64 n])]).run Tryz.prog w = .ok (.slice (some ⟨w.heap.size,0,none⟩) 1 1) (w.alloc (.cells #[.string s,.int .i64 n] 32)):=by
 obtain ⟨i,hi,hz,hs,hb⟩:=info_parts info26
 exact run_buildSlice w 55 32 1 _ #[.string s,.int .i64 n] i _ Tryz.underlying55 hi hz (by rw [hs];decide) (by rw [hs];decide) (by rw [hs];have h:=Go.Great.fill_whole (s:=2) (by decide) [.agg #[.string s,.int .i64 n]] ((Array.range (1*2)).map ((Value.agg #[.string ⟨#[]⟩,.int .i64 0]).cells[· % (Value.agg #[.string ⟨#[]⟩,.int .i64 0]).cells.size]!)) (fun v hv=>by rw [List.mem_singleton.1 hv];rfl) (by simp);simpa [Value.cells] using h)
def mkK (c:Nat):Array Value:=madeCells #[.string ⟨#[]⟩,.int .i64 0] (c*2)
theorem run_mkK (c:Nat) (hc:c≤1000000) (w:World):(Instr.makeSlice 55 (.int .i64 0) (.int .i64 c)).run Tryz.prog w = .ok (.slice (some ⟨w.heap.size,0,none⟩) 0 c) (w.alloc (.cells (mkK c) 32)):=by
 obtain ⟨i,hi,hz,hs,hb⟩:=info_parts info26
 have h:=run_make (P:=Tryz.prog) w 55 32 i _ Tryz.underlying55 hi hz .i64 .i64 0 c (by omega) (by omega) (by rw [hb];omega) (by omega)
 rw [hs] at h
 exact h
theorem mkK_own (w:World) (c base:Nat) (hc:c≤1000000) (hb:base≤w.heap.size):(w.alloc (.cells (mkK c) 32)).ownsRow base 32 2 (.slice (some ⟨w.heap.size,0,none⟩) 0 c) 0 [] :=
 World.ownsRow_made w (mkK c) c hb (by unfold maxLen;omega) (by simp [mkK,madeCells])
section
attribute [local go_sem] Oper.semAt_some
attribute [local go_sem ↓] ldE bxE alE stE to_bsK
attribute [local irreducible] ecs ncs hcs mkK
attribute [local go_sem] run_bx run_alE run_stE run_bsK ecs_0 ecs_1
structure KeqInv (w0:World) (n₀ Bs Bn pb:Nat) (pre:List En) (v:Value) (W:World):Prop where
 box:Blk W Bs #[v] 55
 row:W.ownsRow n₀ 32 2 v pre.length (cellsK (pre.map ekey))
 it:Blk W Bn #[ptr pb] 122
 below:Below n₀ w0 W
theorem keq_own (w0:World) (n₀ Bs Bn pb B:Nat) (hn:n₀≤w0.heap.size) (hB:n₀≤B):OwnFrom B (fun pre W=>∃ v,KeqInv w0 n₀ Bs Bn pb pre v W):=by
 rintro pre W W' row ⟨v,⟨h1,h2,h3,h4⟩⟩ hg hr
 have hr2:=fun r e=>(hr r e).2
 exact ⟨v,h1.kept hg hr2,own_kept h2 hg hr2,h3.kept hg hr2,h4.grown hg (Nat.le_trans hn h4.size) (fun k e=>Nat.le_trans hB (hr k e).1)⟩
theorem KeqInv.step {w0 W w1:World} {n₀ Bs Bn pb B0:Nat} {pre:List En} {v v':Value} {x:En} {tmp:Obj} (h:KeqInv w0 n₀ Bs Bn pb pre v W) (hn:n₀≤w0.heap.size) (hB:n₀≤Bs) (hne:Bn ≠ Bs)
  (hown':w1.ownsRow n₀ 32 2 v' (pre.length+1) (cellsK (pre.map ekey)++[.string x.ks,.int .i64 x.kn])) (hgrow:(W.alloc tmp).grownBy w1 v.ownBlock) :
  KeepsFrom B0 W (w1.setCell ⟨Bs,0,none⟩ v')∧Kept n₀ Bn W (w1.setCell ⟨Bs,0,none⟩ v')∧KeqInv w0 n₀ Bs Bn pb (pre++[x]) v' (w1.setCell ⟨Bs,0,none⟩ v'):=by
 obtain ⟨h1,h2,h3,h4⟩:=h
 have hsz:n₀≤W.heap.size:=Nat.le_trans hn h4.size
 obtain ⟨hv1,hv2,hr2,hk2,hb2⟩:=Boxed.appended (t:=55) (tmp:=tmp) h1 (by decide) h2 hsz hB hown' hgrow
 have hbn:Blk (w1.setCell ⟨Bs,0,none⟩ v') Bn #[ptr pb] 122:=by
  have a1:Blk w1 Bn #[ptr pb] 122:=Boxed.kept (Boxed.alloc (t:=122) h3 tmp) hgrow (Boxed.not_row (t:=122) h3 (by decide) h2)
  exact a1.other _ _ hne
 refine ⟨hk2.from _,⟨hb2,hbn.trans (Eq.symm h3)⟩,hv2,?_,hbn,h4.trans hb2⟩
 rw [List.length_append,List.map_append,cellsK_append,show List.map ekey [x]=[ekey x] from rfl,cellsK_one]
 exact hr2
def KeysPost (w:World) (es:List En) (y:Ending) (w':World):Prop:=∃ v,y = .returned v∧w'.ownsRow w.heap.size 32 2 v es.length (cellsK (es.map ekey))∧Below w.heap.size w w'
set_option maxRecDepth 100000 in
set_option maxHeartbeats 4000000 in
theorem pkeys_any (pb mb n:Nat) (ns:List Nd) (w:World) (h:Obj1 w pb mb n ns) (hn:n≤1000000) (hlen:ns.length≤1000000) :
  Calls Tryz.prog 206 #[ptr pb] w (KeysPost w (ns.map (·.e))):=by
 obtain ⟨i26,hi26,hz260,hz261,hz262⟩:=info_parts info26
 obtain ⟨c,hcn,hlenf⟩:=h.map.length
 have l0:=fun ty=>hlenf w ty rfl
 have c23:w.cell? ⟨pb,23,none⟩=some (.map (some mb)):=by rw [h.ring.head.cell,hcs_23]
 have mk:=run_mkK c (by omega) w
 obtain ⟨W1,hW1⟩:∃ W1,w.alloc (.cells (mkK c) 32)=W1:=⟨_,rfl⟩
 have k1:W1.heap.size=w.heap.size+1:=by rw [← hW1];simp
 have o1:W1.ownsRow w.heap.size 32 2 (.slice (some ⟨w.heap.size,0,none⟩) 0 c) 0 []:=by rw [← hW1];exact mkK_own w c _ (by omega) (Nat.le_refl _)
 have b1:Below w.heap.size w W1:=by rw [← hW1];exact (Below.refl _ w).alloc (Nat.le_refl _) _
 rw [hW1] at mk
 obtain ⟨W2,hW2⟩:∃ W2,W1.alloc (.cells #[.slice (some ⟨w.heap.size,0,none⟩) 0 c] 55)=W2:=⟨_,rfl⟩
 have k2:W2.heap.size=w.heap.size+2:=by rw [← hW2];simp [k1]
 have x2:Blk W2 (w.heap.size+1) #[.slice (some ⟨w.heap.size,0,none⟩) 0 c] 55:=by
  have:=Blk.new W1 #[.slice (some ⟨w.heap.size,0,none⟩) 0 c] 55
  rw [hW2,k1] at this
  exact this
 have o2:W2.ownsRow w.heap.size 32 2 (.slice (some ⟨w.heap.size,0,none⟩) 0 c) 0 []:=by rw [← hW2];exact o1.alloc _
 have b2:Below w.heap.size w W2:=by rw [← hW2];exact b1.alloc (by omega) _
 have hst2:W1.alloc (.cells #[.slice (some ⟨w.heap.size,0,none⟩) 0 c] 55)=W2:=hW2
 obtain ⟨W0,hW0⟩:∃ W0,W2.alloc (.cells #[ptr pb] 122)=W0:=⟨_,rfl⟩
 have k0:W0.heap.size=w.heap.size+3:=by rw [← hW0];simp [k2]
 have y0:Blk W0 (w.heap.size+2) #[ptr pb] 122:=by
  have:=Blk.new W2 #[ptr pb] 122
  rw [hW0,k2] at this
  exact this
 have b0:Below w.heap.size w W0:=by rw [← hW0];exact b2.alloc (by omega) _
 have hin:Hid (KeqInv w w.heap.size (w.heap.size+1) (w.heap.size+2) pb [] (.slice (some ⟨w.heap.size,0,none⟩) 0 c) W0) :=
  Lib.hid ⟨by rw [← hW0];exact x2.old _,by rw [← hW0];exact o2.alloc _,y0,b0⟩
 have HR0:=Lib.hid (h.ring.call b0)
 have HLT:=Lib.hid h.ring.lt
 have Y0:=Lib.hid y0
 have Hk0:=Lib.hid k0
 clear h hlenf o1 b1 x2 o2 b2 y0 b0 hst2 k0
 refine (callsIn_wide (n:=9)).1 ?_
 refine callsIn_of_wp_marks Tryz.func206 rfl trivial ?_ rfl
 simp only [Tryz.ntmps206,List.size_toArray,List.length_cons,List.length_nil,Nat.reduceAdd,Nat.reduceSub,Array.replicate_succ,Array.replicate_zero,List.push_toArray,List.append_toArray,List.nil_append,List.cons_append]
 gi_wp2_with (refine ⟨trivial,?_⟩;gi_at_call 106;refine (callsIn_wide.2 (all_any _ _)).mono ?_;rintro e w' ⟨rfl,rfl⟩)
 try rw [hW0]
 clear hW0 hW2 hW1 mk l0 c23
 have k0:=Hk0.out
 refine wpIn_rangeFunc_ownH (F:=Fence.wide) rfl (by omega) (gf:=140) (lb:=#[.pointer (some ⟨w.heap.size+2,0,none⟩)]) rfl trivial (enters_of Tryz.func140 (by kernel_rfl) rfl)
  (all_stops Fence.wide (9 - 1) trivial rfl (by omega) (w.heap.size+2) w.heap.size pb mb ns HLT.out W0 (by omega) Y0.out HR0.out) (fun h k=>h.trans k) (kept_b (by omega) (by omega)) (Below.refl _ _) (fun _=>rfl)
  (fun pre W=>∃ v,KeqInv w w.heap.size (w.heap.size+1) (w.heap.size+2) pb pre v W) (fun _ _ _=>False)
  (keq_own _ _ _ _ _ _ (Nat.le_refl _) (by omega)) (fun _ _ _ _ _ hs _ _=>hs)
  ⟨_,hin.out⟩
  (fun x a' W=>∃ Bx,Blk W Bx (ecs x) 36∧a'={ tmps:=#[ptr pb,undef,.slice none 0 0,.pointer (some ⟨w.heap.size+1,0,none⟩),.pointer (some ⟨Bx,0,none⟩),ptr pb,.pointer (some ⟨pb,0,none⟩),.pointer (some ⟨pb,23,none⟩),.map (some mb),.int .i64 c,.slice (some ⟨w.heap.size,0,none⟩) 0 c,ptr pb,.func (.func 140) #[] #[.pointer (some ⟨w.heap.size+2,0,none⟩)],.agg (ecs x),undef,undef,undef,undef,undef,undef],defers:=[] })
  (fun x a' _ X Y row hs hg hr=>by obtain ⟨Bx,h1,h2⟩:=hs;exact ⟨Bx,h1.kept hg (fun r e=>(hr r e).2),h2⟩)
  ?assign ?body ?done ?stop
 case assign =>
  rintro l pre x W K ⟨v,hi⟩ hK
  gi_wp2
  have hsW:w.heap.size≤W.heap.size:=hi.below.size
  exact hK _ _ ((KeepsOthers.alloc _ _).from _) ⟨(Below.refl _ W).alloc hsW _,heap_alloc_old _ _ hi.it.lt⟩ ⟨v,hi.box.old _,hi.row.alloc _,hi.it.old _,hi.below.alloc hsW _⟩ ⟨W.heap.size,Blk.new W _ _,rfl⟩
 case body =>
  rintro l pre x a' W hl hr ⟨v,hi⟩ ⟨Bx,bX,rfl⟩ hlt
  have c0:W.cell? ⟨w.heap.size+1,0,none⟩=some v:=hi.box.cell 0
  have e0:W.cell? ⟨Bx,0,none⟩=some (.string x.ks):=(bX.cell 0).trans (ecs_0 x)
  have e1:W.cell? ⟨Bx,1,none⟩=some (.int .i64 x.kn):=(bX.cell 1).trans (ecs_1 x)
  have hrow:=hi.row
  have hsW:w.heap.size≤W.heap.size:=hi.below.size
  have hpl:pre.length < 1000000:=by omega
  gi_wp2_with (gi_at_builtin;refine wpListIn_append_own _ rfl _ _ 55 rfl w.heap.size 32 i26 (.agg #[.string ⟨#[]⟩,.int .i64 0]) 2 24 Tryz.underlying55 hi26 hz260 hz261 hz262 rfl (by decide) _ _ _ rfl (hrow.alloc _) ⟨W.heap.size,0,none⟩ 1 1 [.string x.ks,.int .i64 x.kn] rfl rfl (two_new W _ _ 32) (two_cells _ _) (by unfold maxLen;omega) (by omega) (by simp;omega) ?_;intro v' w1 hown' hgrow _;obtain ⟨g',cap',rfl⟩:=ownsRow_succ hown';have hst:=hi.step (B0:=W0.heap.size) (Nat.le_refl _) (by omega) (by omega) hown' hgrow;have hc1:w1.cell? ⟨w.heap.size+1,0,none⟩=some v:=(Blk.cell (Boxed.kept (Boxed.alloc (t:=55) hi.box _) hgrow (Boxed.not_row (t:=55) hi.box (by decide) hi.row)) 0);have hf1:w1.frozen? ⟨w.heap.size+1,0,none⟩=false:=(Blk.frozen (Boxed.kept (Boxed.alloc (t:=55) hi.box _) hgrow (Boxed.not_row (t:=55) hi.box (by decide) hi.row)) 0))
  exact ⟨hst.1,hst.2.1,_,hst.2.2⟩
 case done =>
  rintro D ys W hD rfl ⟨v,hi⟩ hK
  have c0:W.cell? ⟨w.heap.size+1,0,none⟩=some v:=hi.box.cell 0
  obtain ⟨v',hi'⟩:=(keq_own w w.heap.size (w.heap.size+1) (w.heap.size+2) pb W0.heap.size (Nat.le_refl _) (by omega)).putObj (.deferred none) ⟨v,hi⟩ hD hK rfl
  have hvv:v'=v:=by
   have e1:=hi'.box.cell 0
   have e2:(W.putObj D (.deferred none)).cell? ⟨w.heap.size+1,0,none⟩=W.cell? ⟨w.heap.size+1,0,none⟩:=World.cell?_of_block (World.putObj_heap_other (by show w.heap.size+1 ≠ D;omega))
   rw [e2,c0] at e1
   simpa using e1.symm
  subst hvv
  gi_wp2
  refine ⟨by simp,.inl ⟨_,_,rfl,run_takeDeferred hK,?_⟩⟩
  refine ⟨_,results_tmp rfl _ _ _,?_⟩
  exact ⟨_,rfl,hi'.row,hi'.below⟩
 case stop =>
  rintro D c pre W _ _ h _
  exact h.elim
end
end Go.Proofs.YtkadkmnolkkhgaaGreatDoor.Hp

/-
 Heap.Keys.
-/
namespace Go.Proofs.YtkadkmnolkkhgaaGreatDoor.Hp
open Go Go.RowKit Go.Maps Keys
open Des (Vl Ds zeroV zeroD dcs dcs_size dcs_one)
open Arrs (En ecs ecs_0 ecs_1 ecs_10 ecs_size ecs_list ecs_one ecs_one')
theorem pkeys_list (pb mb n:Nat) (ns:List Nd) (KS:List KV) (hKS:(ns.map fun x=>ekey x.e)=KS) (w:World) (h:Obj1 w pb mb n ns) (hn:n≤1000000) (hlen:ns.length≤1000000) :
  Calls Tryz.prog 206 #[ptr pb] w fun e w'=>∃ a c,e = .returned (.slice a KS.length c)∧w'.ownsRow w.heap.size 32 2 (.slice a KS.length c) KS.length (cellsK KS)∧Below w.heap.size w w':=by
 refine (pkeys_any pb mb n ns w h hn hlen).mono ?_
 rintro e w' ⟨v,rfl,hrow,hb⟩
 have e1:(ns.map (·.e)).map ekey=KS:=by rw [List.map_map,← hKS];rfl
 have e2:(ns.map (·.e)).length=KS.length:=by rw [← e1];simp
 rw [e1,e2] at hrow
 rcases hrow.2 with ⟨h1,h2⟩ |⟨g,cap,cur,h1,h2⟩
 ·have h3:v = .slice none KS.length 0:=by rw [h1,h2]
  rw [h3] at hrow ⊢
  exact ⟨none,0,rfl,hrow,hb⟩
 ·rw [h1] at hrow ⊢
  exact ⟨_,cap,rfl,hrow,hb⟩
def HKs (w:World) (KS:List KV) (v:Value) (w':World):Prop:=w'.ownsRow w.heap.size 32 2 v (ordF KS).length (cellsK (ordF KS))∧Below w.heap.size w w'
def HKeysPost (w:World) (KS:List KV) (e:Ending) (w':World):Prop:=∃ v,e = .returned v∧HKs w KS v w'
section
attribute [local irreducible] ecs ncs hcs dcs tcs ocs ordF cellsK HKs
attribute [local go_sem] ocs_24
set_option maxRecDepth 100000 in
set_option maxHeartbeats 800000 in
theorem hkeys (hb g ob pb n c:Nat) (room sy:Int) (th:Th) (w:World) (h:Blk w hb (hp room (.slice (some ⟨g,0,none⟩) n c) sy) 105) (o:Nat) (hn:o < n) (hc:w.cell? ⟨g,o,none⟩=some (ptr ob)) (hob:Blk w ob (ocs th pb) 124) (KS:List KV)
  (hk:Calls Tryz.prog 206 #[ptr pb] w fun e w'=>∃ a c,e = .returned (.slice a KS.length c)∧w'.ownsRow w.heap.size 32 2 (.slice a KS.length c) KS.length (cellsK KS)∧Below w.heap.size w w')
  (ho:∀ a c w3,w3.ownsRow w.heap.size 32 2 (.slice a KS.length c) KS.length (cellsK KS)→Below w.heap.size w w3→Calls Tryz.prog 205 #[.slice a KS.length c] w3 (HKeysPost w KS)) :
  Calls Tryz.prog 175 #[ptr hb,.int .i64 o] w (HKeysPost w KS):=by
 have c24:w.cell? ⟨ob,24,none⟩=some (ptr pb):=by rw [hob.cell,ocs_24]
 have hobj:=object_some hb g ob room n c o sy w h hn hc
 have P2:=Lib.hid hk
 have P3:=Lib.hid ho
 clear h hc hob hk ho
 go_enter Tryz.func175,Tryz.ntmps175
 go_wp2_with (first |(go_at_call 56;refine hobj.mono ?_;rintro e w2 ⟨rfl,rfl⟩) |(go_at_call 206;refine P2.out.mono ?_;rintro e w3 ⟨a,cp,rfl,hrow,hbel⟩;refine Hid.out ?_))
 refine Lib.hid ?_
 have hord:=P3.out a cp w3 hrow hbel
 clear hrow hbel P2 P3
 go_wp2_with (go_at_call 205;refine hord.mono ?_;rintro e w4 ⟨v,rfl,hpo⟩)
 go_ret
 exact ⟨v,rfl,hpo⟩
end
theorem hkeys_any (hb g ob pb n c:Nat) (room sy:Int) (th:Th) (w:World) (h:Blk w hb (hp room (.slice (some ⟨g,0,none⟩) n c) sy) 105) (o:Nat) (hn:o < n) (hc:w.cell? ⟨g,o,none⟩=some (ptr ob)) (hob:Blk w ob (ocs th pb) 124) (mb m:Nat) (ns:List Nd) (KS:List KV) (hKS:(ns.map fun x=>ekey x.e)=KS) (h1:Obj1 w pb mb m ns) (hm:m≤1000000) (hlen:ns.length≤1000000) (hf:∀ k ∈ KS,Fine k) (hL:Nums.Lw w) :
  Calls Tryz.prog 175 #[ptr hb,.int .i64 o] w (HKeysPost w KS):=by
 have hl:KS.length≤1000000:=by rw [← hKS];simp;exact hlen
 refine hkeys hb g ob pb n c room sy th w h o hn hc hob KS (pkeys_list pb mb m ns KS hKS w h1 hm hlen) fun a c' w3 hrow hbel=>?_
 have hsz:=hbel.size
 refine (order_any a c' KS w3 (hL.below hbel) (by omega) (keysAt_own hrow) hf).mono ?_
 rintro e w4 ⟨v,rfl,hr,hb4⟩
 exact ⟨v,rfl,hr.mono (by omega),hbel.trans (hb4.mono hsz)⟩
end Go.Proofs.YtkadkmnolkkhgaaGreatDoor.Hp

/-
 Get.
-/
namespace Go.Proofs.YtkadkmnolkkhgaaGreatDoor.Hp
open Go Go.RowKit Go.Maps Go.Shelf Keys
open Des (Vl Ds zeroV zeroD dcs dcs_size dcs_one)
open Arrs (En ecs ecs_0 ecs_1 ecs_10 ecs_size ecs_list ecs_one ecs_one')
attribute [local go_sem ↓] ldE ldT bxT bxO bdO bdT alE alT stE stT
attribute [local irreducible] ecs ncs hcs tcs ocs
attribute [local go_sem] run_bx run_alE run_alT run_bdO run_bdT0 tcs_0 tcs_5 tcs_20 tcs_set5 tcs_set20 ocs_24
theorem res2_T {fn:Func} {p u:Tmp} (h:fn.results=#[.cell p 39,.tmp u]) (tmps:Array Value) (w:World) (g:Nat) (t:Th) (hp:tmps.getD p undef = .pointer (some ⟨g,0,none⟩)) {T:TypeId} (hr:Blk w g (tcs t) T) :
  (results fn tmps).run Tryz.prog w = .ok (.tuple #[.agg (tcs t),tmps.getD u undef]) w:=by
 have hv:=run_loadVar_row (P:=Tryz.prog) w g T 39 (tcs t) (0,0) _ hr Tryz.underlying39 rfl (by rw [tcs_size];exact sizeT)
 rw [results_cell_tmp h,hp]
 simp [asAddr,hv,Result.andThen]
theorem own_shape {w:World} {base:Nat} {e:TypeId} {size n:Nat} {v:Value} {xs:List Value} (h:w.ownsRow base e size v n xs):∃ a c,v = .slice a n c:=by
 rcases h.2 with ⟨rfl,rfl⟩ |⟨g,cap,cur,rfl,_⟩
 ·exact ⟨none,0,rfl⟩
 ·exact ⟨_,cap,rfl⟩
theorem own_row {base:Nat} {e t:TypeId} {size n b:Nat} {v:Value} {xs:List Value} {cs ds:Array Value} {w:World} (h:w.ownsRow base e size v n xs) (hb:Blk w b cs t) (hte:t ≠ e):(w.setRow b ds).ownsRow base e size v n xs:=by
 refine h.kept (row:=some b) ⟨rfl,rfl,rfl,by simp,fun k _ hk=>setRow_other w b k ds (fun e=>hk (by rw [e]))⟩ (.inr (own_ne h hb hte))
def GetPost (w:World) (th:Th) (es:List En) (vs:List Vl) (y:Ending) (w':World):Prop:=∃ a c a' c',y = .returned (.tuple #[.agg (tcs { th with props:=.slice a es.length c,args:=.slice a' vs.length c' }),.bool true]) ∧
 w'.ownsRow w.heap.size 36 20 (.slice a es.length c) es.length (cellsE es)∧w'.ownsRow w.heap.size 30 3 (.slice a' vs.length c') vs.length (cellsV vs)∧Below w.heap.size w w'
set_option maxRecDepth 100000 in
set_option maxHeartbeats 2000000 in
theorem get_some (hb rb ob pb mb m n c o base:Nat) (room sy:Int) (th:Th) (es:List En) (vs:List Vl) (ns:List Nd) (w:World) (h:Blk w hb (hp room (.slice (some ⟨rb,0,none⟩) n c) sy) 105) (ho:o < n) (hc:w.cell? ⟨rb,o,none⟩=some (ptr ob))
  (hat:ObjAt w base ob pb mb m th es vs ns) (hm:m≤1000000) (hes:es.length≤1000000) (aa:Option Addr) (al ac:Nat) (harg:th.args = .slice aa al ac) (hcl:∀ w',Below w.heap.size w w'→Calls Tryz.prog 53 #[.slice aa al ac] w' (ClonePost w' vs)) :
  Calls Tryz.prog 20 #[ptr hb,.int .i64 o] w (GetPost w th es vs):=by
 obtain ⟨w1,hw1⟩:∃ w1,w.alloc (.cells (tcs zeroT) 39)=w1:=⟨_,rfl⟩
 have b1:Below w.heap.size w w1:=by rw [← hw1];exact (Below.refl _ w).alloc (Nat.le_refl _) _
 have k1:w1.heap.size=w.heap.size+1:=by rw [← hw1];simp
 have x1:Blk w1 w.heap.size (tcs zeroT) 39:=by rw [← hw1];exact Blk.new w _ _
 have hat1:=hat.below b1
 have hc1:w1.cell? ⟨rb,o,none⟩=some (ptr ob):=(b1.cell (World.block_lt_of_cell? w _ hc)).trans hc
 have hob:=object_some hb rb ob room n c o sy w1 (h.call b1) ho hc1
 have lo:=run_ldO hat1.blk
 have tok:th.ok:=⟨⟨_,_,_,hat.props⟩,⟨_,_,_,harg⟩⟩
 obtain ⟨w2,hw2⟩:∃ w2,w1.alloc (.cells (tcs th) 39)=w2:=⟨_,rfl⟩
 have hst:(St 39 (.pointer (some ⟨w1.heap.size,0,none⟩)) (.agg (tcs th))).run Tryz.prog (w1.alloc (.cells (tcs zeroT) 39)) = .ok () w2:=by rw [← hw2];exact run_stT w1 th zeroT tok
 rw [k1] at hst
 have b12:Below w1.heap.size w1 w2:=by rw [← hw2];exact (Below.refl _ w1).alloc (Nat.le_refl _) _
 have b2:Below w.heap.size w w2:=b1.trans (b12.mono (by omega))
 have k2:w2.heap.size=w.heap.size+2:=by rw [← hw2];simp [k1]
 have hat2:=hat1.below b12
 have x2:=x1.call b12
 have y2:Blk w2 (w.heap.size+1) (tcs th) 39:=by
  have:=Blk.new w1 (tcs th) 39
  rw [hw2,k1] at this
  exact this
 have c24:w2.cell? ⟨ob,24,none⟩=some (.pointer (some ⟨pb,0,none⟩)):=by rw [hat2.blk.cell,ocs_24]
 have hlen:ns.length≤1000000:=by rw [← hat.es] at hes;simpa using hes
 have hen:=entries_any pb mb m ns w2 hat2.obj hm hlen
 rw [hat2.es] at hen
 have B2:=Lib.hid b2
 have X2:=Lib.hid x2
 have Y2:=Lib.hid y2
 have HCL:=Lib.hid hcl
 have HARG:=Lib.hid harg
 have HPROPS:=Lib.hid hat.props
 clear b1 x1 hat1 hc1 b12 b2 hat2 x2 y2 hcl harg h hat hc ho tok hw2 hes hlen
 go_enter Tryz.func20,Tryz.ntmps20
 go_wp2_with (first |(go_at_call 56;refine hob.mono ?_;rintro e wz ⟨rfl,rfl⟩) |(go_at_call 57;refine hen.mono ?_;rintro e w3 ⟨v,rfl,hrow,hb3⟩;refine Hid.out ?_))
 refine Lib.hid ?_
 obtain ⟨a,cv,rfl⟩:=own_shape hrow
 have b3:=B2.out.trans (hb3.mono (by omega))
 have x3:=X2.out.call hb3
 have y3:=Y2.out.call hb3
 have d5:w3.cell? ⟨w.heap.size+1,5,none⟩=some th.props:=by rw [y3.cell,tcs_5]
 have f5:=y3.frozen 5
 obtain ⟨w4,hw4⟩:∃ w4,w3.setCell ⟨w.heap.size+1,5,none⟩ (.slice a es.length cv)=w4:=⟨_,rfl⟩
 have b4:Below w.heap.size w w4:=by rw [← hw4];exact b3.setCell (p:=⟨w.heap.size+1,5,none⟩) (by simp) _
 have y4:Blk w4 (w.heap.size+1) (tcs { th with props:=.slice a es.length cv }) 39:=by
  have:=y3.set 5 (.slice a es.length cv)
  rw [tcs_set5,hw4] at this
  exact this
 have x4:Blk w4 w.heap.size (tcs zeroT) 39:=by rw [← hw4];exact x3.other _ _ (by simp)
 have r4:w4.ownsRow w.heap.size 36 20 (.slice a es.length cv) es.length (cellsE es):=by rw [← hw4];exact own_set (hrow.mono (by omega)) y3 (by decide) _ _
 have c20:w4.cell? ⟨w.heap.size+1,20,none⟩=some (.slice aa al ac):=by rw [y4.cell,tcs_20];exact congrArg some HARG.out
 have hc4:=HCL.out w4 b4
 have B4:=Lib.hid b4
 have X4:=Lib.hid x4
 have Y4:=Lib.hid y4
 have R4:=Lib.hid r4
 clear hob lo hst c24 hen hrow hb3 b3 x3 y3 b4 x4 y4 r4 hw1
 go_wp2_with (go_at_call 53;refine hc4.mono ?_;rintro e w5 ⟨a',m',c',rfl,hrow5,hb5⟩;refine Hid.out ?_)
 refine Lib.hid ?_
 obtain ⟨a2,c2,hsh⟩:=own_shape hrow5
 obtain ⟨rfl,rfl,rfl⟩:a'=a2∧m'=vs.length∧c'=c2:=by simpa using hsh
 clear hsh
 have sz4:=B4.out.size
 have b5:=B4.out.trans (hb5.mono sz4)
 have x5:=X4.out.call hb5
 have y5:=Y4.out.call hb5
 have r5:=own_below R4.out hb5
 have d20:w5.cell? ⟨w.heap.size+1,20,none⟩=some (.slice aa al ac):=by rw [y5.cell,tcs_20];exact congrArg some HARG.out
 have f20:=y5.frozen 20
 obtain ⟨t',ht'⟩:∃ t',t'=({ th with props:=.slice a es.length cv,args:=.slice a' vs.length c' }:Th):=⟨_,rfl⟩
 obtain ⟨w6,hw6⟩:∃ w6,w5.setCell ⟨w.heap.size+1,20,none⟩ (.slice a' vs.length c')=w6:=⟨_,rfl⟩
 have b6:Below w.heap.size w w6:=by rw [← hw6];exact b5.setCell (p:=⟨w.heap.size+1,20,none⟩) (by simp) _
 have y6:Blk w6 (w.heap.size+1) (tcs t') 39:=by
  have:=y5.set 20 (.slice a' vs.length c')
  rw [tcs_set20,hw6] at this
  rw [ht']
  exact this
 have x6:Blk w6 w.heap.size (tcs zeroT) 39:=by rw [← hw6];exact x5.other _ _ (by simp)
 have r6:w6.ownsRow w.heap.size 36 20 (.slice a es.length cv) es.length (cellsE es):=by rw [← hw6];exact own_set r5 y5 (by decide) _ _
 have q6:w6.ownsRow w.heap.size 30 3 (.slice a' vs.length c') vs.length (cellsV vs):=by rw [← hw6];exact own_set (hrow5.mono sz4) y5 (by decide) _ _
 have lt:=run_ldT y6
 have tok':t'.ok:=by rw [ht'];exact ⟨⟨_,_,_,rfl⟩,⟨_,_,_,rfl⟩⟩
 have hst:=run_st_row x6 (T:=39) (cs:=tcs t') (by rw [tcs_size];exact sizeT) (by rw [tcs_size,tcs_size]) (tcs_one tok')
 obtain ⟨w7,hw7⟩:∃ w7,w6.setRow w.heap.size (tcs t')=w7:=⟨_,rfl⟩
 rw [hw7] at hst
 have hend:Hid (GetPost w th es vs (.returned (.tuple #[.agg (tcs t'),.bool true])) w7):=by
  rw [← hw7]
  refine ⟨a,cv,a',c',by rw [ht'],own_row r6 x6 (by decide),own_row q6 x6 (by decide),b6.trans ⟨rfl,rfl,rfl,by simp,fun k hk=>setRow_other w6 w.heap.size k _ (by omega)⟩⟩
 have x7:Hid (Blk w7 w.heap.size (tcs t') 39):=by rw [← hw7];exact x6.row _
 clear hc4 d5 f5 hw4 c20 hrow5 hb5 b5 x5 y5 r5 b6 y6 x6 r6 q6 tok' hw7 ht'
 go_wp2
 refine bodyPost_ret (res2_T rfl _ _ w.heap.size t' rfl x7.out) rfl ?_
 exact hend.out
end Go.Proofs.YtkadkmnolkkhgaaGreatDoor.Hp

/-
 Clone at a list of values.
-/
namespace Go.Proofs.YtkadkmnolkkhgaaGreatDoor.Hp
open Go Go.RowKit Go.Maps Go.Shelf Keys
open Des (Vl Ds zeroV zeroD dcs dcs_size dcs_one)
open Arrs (En ecs ecs_0 ecs_1 ecs_10 ecs_size ecs_list ecs_one ecs_one')
theorem infoV:(Tryz.prog.info? 30).map (fun i=>(i.zero,i.size,i.bytes))=some (some (.agg #[.int .i64 0,.int .i64 0,.string ⟨#[]⟩]),3,32):=by kernel_rfl
theorem cellsV_length (l:List Vl):(cellsV l).length=l.length*3:=by
 induction l with
 | nil=>rfl
 | cons a r ih =>
  have e:cellsV (a :: r)=[.int .i64 a.k,.int .i64 a.n,.string a.s]++cellsV r:=rfl
  rw [e,List.length_append,ih,List.length_cons]
  simp
  omega
theorem cellsV_one (l:List Vl):∀ u ∈ cellsV l,u.oneCell'=true:=fun u hu=>by
 obtain ⟨v,_,hv⟩:=List.mem_flatMap.1 hu
 simp at hv
 rcases hv with rfl |rfl |rfl <;> rfl
def VsAt (n₀:Nat) (aa:Option Addr) (vs:List Vl) (w:World):Prop:=vs=[]∨∃ b off,aa=some ⟨b,off,none⟩∧b < n₀∧w.rangeAt b off (cellsV vs)
theorem VsAt.below {n₀:Nat} {aa:Option Addr} {vs:List Vl} {w w':World} (h:VsAt n₀ aa vs w) (hb:Below n₀ w w'):VsAt n₀ aa vs w':=by
 rcases h with h |⟨b,off,ha,hlt,hr⟩
 ·exact .inl h
 ·exact .inr ⟨b,off,ha,hlt,fun j v hv=>by rw [hb.cell (p:=⟨b,off+j,none⟩) hlt];exact hr j v hv⟩
theorem VsAt.mono {n₀ n₁:Nat} {aa:Option Addr} {vs:List Vl} {w:World} (h:VsAt n₀ aa vs w) (hn:n₀≤n₁):VsAt n₁ aa vs w:=by
 rcases h with h |⟨b,off,ha,hlt,hr⟩
 ·exact .inl h
 ·exact .inr ⟨b,off,ha,by omega,hr⟩
theorem vsAt_own {w:World} {base:Nat} {aa:Option Addr} {cp:Nat} {vs:List Vl} (h:w.ownsRow base 30 3 (.slice aa vs.length cp) vs.length (cellsV vs)):VsAt w.heap.size aa vs w:=by
 rcases h.2 with ⟨_,hn⟩ |⟨g,cap,cur,hv,hb,hg,_⟩
 ·exact .inl (List.eq_nil_of_length_eq_zero hn)
 ·simp only [Value.slice.injEq] at hv
  obtain ⟨rfl,-,rfl⟩:=hv
  refine .inr ⟨g,0,rfl,(Array.getElem?_eq_some_iff.1 hg).1,fun j v hv=>?_⟩
  have hj:j < vs.length*3:=by have:=(List.getElem?_eq_some_iff.1 hv).1;rw [cellsV_length] at this;exact this
  rw [Nat.zero_add,h.cellAt j hj]
  exact hv
theorem slice_lit (w:World) (e:TypeId) (base:Nat) (hb:base≤w.heap.size):(w.alloc (.cells #[] e)).ownsRow base e 3 (.slice (some ⟨w.heap.size,0,none⟩) 0 0) 0 []:=World.ownsRow_made w #[] 0 hb (by unfold maxLen;omega) rfl
set_option maxRecDepth 100000 in
set_option maxHeartbeats 1000000 in
theorem clone_any (aa:Option Addr) (al ac:Nat) (vs:List Vl) (w:World) (hlen:vs.length=al) (h100:al≤1000000000) (hv:VsAt w.heap.size aa vs w) :
  Calls Tryz.prog 53 #[.slice aa al ac] w (ClonePost w vs):=by
 obtain ⟨i23,hi23,hz230,hz231,hz232⟩:=info_parts infoV
 have he:=run_eqlS aa al ac w
 cases aa with
 | none =>
  have h0:vs=[]:=by
   rcases hv with h |⟨b,off,ha,_⟩
   ·exact h
   ·cases ha
  subst h0
  have hal:al=0:=by simpa using hlen.symm
  subst hal
  go_enter Tryz.func53,Tryz.ntmps53
  go_wp2
  go_ret
  exact ⟨none,0,0,rfl,World.ownsRow_nil _ _ _ _,Below.refl _ _⟩
 | some ad =>
  have hrow:=slice_lit w 30 w.heap.size (Nat.le_refl _)
  have hcells:∀ j u,(cellsV vs)[j]? = some u→(w.alloc (.cells #[] 30)).cell? (ad.add j)=some u:=fun j u hu=>by
   rcases hv with h |⟨b,off,ha,hlt,hr⟩
   ·subst h;simp [cellsV] at hu
   ·obtain rfl:ad=⟨b,off,none⟩:=by simpa using ha
    rw [Addr.add_mid,World.cell?_alloc_lt _ _ _ hlt]
    exact hr j u hu
  have hnl:(cellsV vs).length=al*3:=by rw [cellsV_length,hlen]
  have HLEN:=Lib.hid hlen
  clear hv hlen
  go_enter Tryz.func53,Tryz.ntmps53
  go_wp2_with (at_builtin;refine wpList_append_own _ rfl _ _ 22 rfl w.heap.size 30 i23 (.agg #[.int .i64 0,.int .i64 0,.string ⟨#[]⟩]) 3 32 Tryz.underlying22 hi23 hz230 hz231 hz232 rfl (by decide) _ _ _ rfl hrow ad al ac (cellsV vs) rfl hnl hcells (cellsV_one vs) (by unfold maxLen;omega) (by omega) (by simp) ?_;intro v' w4 hown4 hgrow4 _)
  go_ret
  rw [Nat.zero_add] at hown4
  obtain ⟨a',c',rfl⟩:=own_shape hown4
  refine ⟨a',al,c',rfl,by rw [HLEN.out];simpa using hown4,((Below.refl _ w).alloc (Nat.le_refl _) _).grown hgrow4 (by simp) (fun k hk=>by cases hk;exact Nat.le_refl _)⟩
end Go.Proofs.YtkadkmnolkkhgaaGreatDoor.Hp
