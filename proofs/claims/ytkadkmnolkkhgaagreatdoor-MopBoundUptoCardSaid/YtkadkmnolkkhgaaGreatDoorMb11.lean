/-
 Texts of this seat in build order: HpGetP, HpOpsO, HpPut, HpPutO, HpDrop.
-/
import Derived.Test.YtkadkmnolkkhgaaGreatDoorMb08
import Derived.Test.YtkadkmnolkkhgaaGreatDoorMb09
/-
 A property's descriptor by its key.
-/
set_option linter.unusedVariables false
set_option linter.unusedSimpArgs false
namespace Go.Proofs.YtkadkmnolkkhgaaGreatDoor.Hp
open Go Go.RowKit Go.Maps Keys
open Des (Vl Ds zeroV zeroD dcs dcs_size dcs_one)
open Arrs (En ecs ecs_0 ecs_1 ecs_10 ecs_size ecs_list ecs_one ecs_one')
theorem run_ldMid {w:World} {b o:Nat} {d:Ds} (h:w.rangeAt b o (dcs d).toList):(Ld 34 (.pointer (some ⟨b,o,none⟩))).run Tryz.prog w = .ok (.agg (dcs d)) w:=by
 have:=run_loadAt_mid (P:=Tryz.prog) w b o 34 (dcs d).toList _ h Tryz.underlying34 rfl sizeD
 simpa [Ld] using this
theorem enAt_desc {w:World} {b o:Nat} {e:En} (h:enAt w b o e):w.rangeAt b (o+2) (dcs e.d).toList:=fun j v hv=>by
 rw [Nat.add_assoc]
 exact h (2+j) v (by
  rw [show (ecs e).toList=[.string e.ks,.int .i64 e.kn]++(dcs e.d).toList from rfl,List.getElem?_append_right (by simp)]
  simpa using hv)
theorem look_at {ns:List Nd} {k:KV} {b:Nat} (h:look ns k=some b):∃ l x r,ns=l++x :: r∧ekey x.e=k∧x.b=b∧look l k=none:=by
 induction ns with
 | nil=>cases h
 | cons n ns ih =>
  by_cases hk:ekey n.e=k
  ·refine ⟨[],n,ns,rfl,hk,?_,rfl⟩
   unfold look at h
   rw [List.find?_cons] at h
   simp [hk] at h
   exact h
  ·have h':look ns k=some b:=by
    unfold look at h ⊢
    rw [List.find?_cons] at h
    simp [hk] at h
    simpa using h
   obtain ⟨l,x,r,rfl,h1,h2,h3⟩:=ih h'
   refine ⟨n :: l,x,r,rfl,h1,h2,?_⟩
   rw [look_none] at h3 ⊢
   intro m hm
   rcases List.mem_cons.1 hm with rfl |hm
   ·exact hk
   ·exact h3 m hm
theorem res2_D {fn:Func} {p q:Tmp} (h:fn.results=#[.cell p 34,.tmp q]) (tmps:Array Value) (w:World) (g:Nat) (d:Ds) (hp:tmps.getD p undef = .pointer (some ⟨g,0,none⟩)) {T:TypeId} (hr:Blk w g (dcs d) T) :
  (results fn tmps).run Tryz.prog w = .ok (.tuple #[.agg (dcs d),tmps.getD q undef]) w:=by
 have hv:=run_loadVar_row (P:=Tryz.prog) w g T 34 (dcs d) (0,0) _ hr Tryz.underlying34 rfl (by rw [dcs_size];exact sizeD)
 rw [results_cell_tmp h,hp]
 simp [asAddr,hv,Result.andThen]
theorem bdDs (ps:Array (Nat × Value)):Instr.build 34 ps=Bd 34 ps:=(rfl)
theorem run_bdDs (w:World):(Bd 34 #[]).run Tryz.prog w = .ok (.agg (dcs zeroD)) w:=run_build w _ _ _ (by kernel_rfl)
section
attribute [local go_sem ↓] ldE ldD alD stD bdDs
attribute [local irreducible] ecs ncs hcs dcs
attribute [local go_sem] run_bx run_alD run_bdDs ecs_0 ecs_1 ncs_20 ncs_21 ncs_22 hcs_23
set_option maxRecDepth 100000 in
theorem pget_some (pb mb n:Nat) (l r:List Nd) (x:Nd) (w:World) (h:Obj1 w pb mb n (l++x :: r)) (hk:Fine (ekey x.e)) (hl:look (l++x :: r) (ekey x.e)=some x.b) :
  Calls Tryz.prog 60 #[ptr pb,.agg #[.string x.e.ks,.int .i64 x.e.kn]] w fun e w'=>e = .returned (.tuple #[.agg (dcs x.e.d),.bool true])∧Below w.heap.size w w':=by
 obtain ⟨W1,hW1⟩:∃ W1,w.alloc (.cells #[.string x.e.ks,.int .i64 x.e.kn] 32)=W1:=⟨_,rfl⟩
 have k1:W1.heap.size=w.heap.size+1:=by rw [← hW1];simp
 obtain ⟨W2,hW2⟩:∃ W2,W1.alloc (.cells (dcs zeroD) 34)=W2:=⟨_,rfl⟩
 have b2:Below w.heap.size w W2:=by rw [← hW2,← hW1];exact ((Below.refl _ w).alloc (Nat.le_refl _) _).alloc (by simp) _
 have h2:=h.call b2
 have y2:Blk W2 w.heap.size #[.string x.e.ks,.int .i64 x.e.kn] 32:=by rw [← hW2,← hW1];exact (Blk.new w _ _).old _
 have z2:Blk W2 (w.heap.size+1) (dcs zeroD) 34:=by
  have:=Blk.new W1 (dcs zeroD) 34
  rw [hW2,k1] at this
  exact this
 have pm:W2.cell? ⟨pb,23,none⟩=some (.map (some mb)):=by rw [h2.ring.head.cell,hcs_23]
 have l0:=y2.cell 0
 have l1:=y2.cell 1
 have hlk:(Instr.lookup 185 (.map (some mb)) (.agg #[.string x.e.ks,.int .i64 x.e.kn]) false).run Tryz.prog W2.drew = .ok (.pointer (some ⟨x.b,0,none⟩)) W2.drew:=by
  have:=h2.drew.map.look hk
  rw [hl] at this
  exact this
 obtain ⟨p,q,hb⟩:=seg_at x h2.ring.seg (by simp)
 have hd:=run_ldMid (w:=W2.drew) (enAt_desc (enAt_node hb))
 have hst:=run_st_row (w:=W2.drew) z2 (T:=34) (cs:=dcs x.e.d) (by rw [dcs_size];exact sizeD) (by rw [dcs_size,dcs_size]) (dcs_one _)
 have Z2:=Lib.hid (Blk.row (w:=W2.drew) z2 (dcs x.e.d))
 have B2:=Lib.hid b2
 clear h h2 y2 z2 hb b2 hl hk
 go_enter Tryz.func60,Tryz.ntmps60
 go_wp2
 go_region
 all_goals go_wp2
 all_goals refine bodyPost_ret (res2_D rfl _ _ (w.heap.size+1) x.e.d rfl Z2.out) rfl ?_
 all_goals exact ⟨rfl,B2.out.drew.trans ⟨rfl,rfl,rfl,by simp,fun k hk=>setRow_other _ _ k _ (by have:=B2.out.size;omega)⟩⟩
set_option maxRecDepth 100000 in
theorem pget_none (pb mb n:Nat) (ns:List Nd) (k:KV) (w:World) (h:Obj1 w pb mb n ns) (hk:Fine k) (hl:look ns k=none) :
  Calls Tryz.prog 60 #[ptr pb,.agg #[.string k.1,.int .i64 k.2]] w fun e w'=>e = .returned (.tuple #[.agg (dcs zeroD),.bool false])∧Below w.heap.size w w':=by
 obtain ⟨W1,hW1⟩:∃ W1,w.alloc (.cells #[.string k.1,.int .i64 k.2] 32)=W1:=⟨_,rfl⟩
 have k1:W1.heap.size=w.heap.size+1:=by rw [← hW1];simp
 obtain ⟨W2,hW2⟩:∃ W2,W1.alloc (.cells (dcs zeroD) 34)=W2:=⟨_,rfl⟩
 have b2:Below w.heap.size w W2:=by rw [← hW2,← hW1];exact ((Below.refl _ w).alloc (Nat.le_refl _) _).alloc (by simp) _
 have h2:=h.call b2
 have y2:Blk W2 w.heap.size #[.string k.1,.int .i64 k.2] 32:=by rw [← hW2,← hW1];exact (Blk.new w _ _).old _
 have z2:Blk W2 (w.heap.size+1) (dcs zeroD) 34:=by
  have:=Blk.new W1 (dcs zeroD) 34
  rw [hW2,k1] at this
  exact this
 have pm:W2.cell? ⟨pb,23,none⟩=some (.map (some mb)):=by rw [h2.ring.head.cell,hcs_23]
 have l0:=y2.cell 0
 have l1:=y2.cell 1
 have hlk:(Instr.lookup 185 (.map (some mb)) (.agg #[.string k.1,.int .i64 k.2]) false).run Tryz.prog W2.drew = .ok (.pointer none) W2.drew:=by
  have:=h2.drew.map.look hk
  rw [hl] at this
  exact this
 have hst:=run_st_row (w:=W2.drew) z2 (T:=34) (cs:=dcs zeroD) (by rw [dcs_size];exact sizeD) rfl (dcs_one _)
 have Z2:=Lib.hid (Blk.row (w:=W2.drew) z2 (dcs zeroD))
 have B2:=Lib.hid b2
 clear h h2 y2 z2 b2 hl hk
 go_enter Tryz.func60,Tryz.ntmps60
 go_wp2
 go_region
 all_goals go_wp2
 all_goals refine bodyPost_ret (res2_D rfl _ _ (w.heap.size+1) zeroD rfl Z2.out) rfl ?_
 all_goals exact ⟨rfl,B2.out.drew.trans ⟨rfl,rfl,rfl,by simp,fun k hk=>setRow_other _ _ k _ (by have:=B2.out.size;omega)⟩⟩
end
end Go.Proofs.YtkadkmnolkkhgaaGreatDoor.Hp

/-
 Heap.Own.
-/
namespace Go.Proofs.YtkadkmnolkkhgaaGreatDoor.Hp
open Go Go.RowKit Go.Maps Keys
open Des (Vl Ds zeroV zeroD dcs dcs_size dcs_one)
open Arrs (En ecs ecs_0 ecs_1 ecs_10 ecs_size ecs_list ecs_one ecs_one')
section
attribute [local go_sem ↓] ldE ldD alD stD bdDs
attribute [local irreducible] ecs ncs hcs dcs tcs ocs
attribute [local go_sem] run_bx run_alD run_bdDs ecs_0 ecs_1 ocs_24
set_option maxRecDepth 100000 in
set_option maxHeartbeats 2000000 in
theorem hown (hb g ob pb n c:Nat) (room sy:Int) (th:Th) (k:KV) (d:Ds) (b:Bool) (w:World) (h:Blk w hb (hp room (.slice (some ⟨g,0,none⟩) n c) sy) 105) (o:Nat) (hn:o < n) (hc:w.cell? ⟨g,o,none⟩=some (ptr ob)) (hob:Blk w ob (ocs th pb) 124)
  (hp:∀ w1,Below w.heap.size w w1→Calls Tryz.prog 60 #[ptr pb,.agg #[.string k.1,.int .i64 k.2]] w1 fun e w'=>e = .returned (.tuple #[.agg (dcs d),.bool b])∧Below w1.heap.size w1 w') :
  Calls Tryz.prog 26 #[ptr hb,.int .i64 o,.agg #[.string k.1,.int .i64 k.2]] w fun e w'=>e = .returned (.tuple #[.agg (dcs d),.bool b])∧Below w.heap.size w w':=by
 obtain ⟨W1,hW1⟩:∃ W1,w.alloc (.cells #[.string k.1,.int .i64 k.2] 32)=W1:=⟨_,rfl⟩
 have k1:W1.heap.size=w.heap.size+1:=by rw [← hW1];simp
 obtain ⟨W2,hW2⟩:∃ W2,W1.alloc (.cells (dcs zeroD) 34)=W2:=⟨_,rfl⟩
 have b2:Below w.heap.size w W2:=by rw [← hW2,← hW1];exact ((Below.refl _ w).alloc (Nat.le_refl _) _).alloc (by simp) _
 have y2:Blk W2 w.heap.size #[.string k.1,.int .i64 k.2] 32:=by rw [← hW2,← hW1];exact (Blk.new w _ _).old _
 have z2:Blk W2 (w.heap.size+1) (dcs zeroD) 34:=by
  have:=Blk.new W1 (dcs zeroD) 34
  rw [hW2,k1] at this
  exact this
 have s2:w.heap.size+2=W2.heap.size:=by rw [← hW2];simp [k1]
 have l0:=y2.cell 0
 have l1:=y2.cell 1
 have c24:W2.cell? ⟨ob,24,none⟩=some (ptr pb):=by rw [(hob.call b2).cell,ocs_24]
 have hobj:=object_some hb g ob room n c o sy W2 (h.call b2) hn ((b2.cell (World.block_lt_of_cell? w _ hc)).trans hc)
 have B2:=Lib.hid b2
 have Z2:=Lib.hid z2
 have P2:=Lib.hid (hp W2 b2)
 have P3:=Lib.hid (hp W2.drew b2.drew)
 have HS:Hid (∀ w',Blk w' (w.heap.size+1) (dcs zeroD) 34→(St 34 (.pointer (some ⟨w.heap.size+1,0,none⟩)) (.agg (dcs d))).run Tryz.prog w' = .ok () (w'.setRow (w.heap.size+1) (dcs d))):=Lib.hid fun w' hz=>run_st_row hz (by rw [dcs_size];exact sizeD) (by simp only [dcs_size]) (dcs_one _)
 clear h hc hob hp y2 z2 b2
 go_enter Tryz.func26,Tryz.ntmps26
 go_wp2_with (go_at_call 56;refine hobj.mono ?_;rintro e w2 ⟨rfl,rfl⟩)
 go_region_with (go_at_call 60;refine P3.out.mono ?_;rintro e w' ⟨rfl,hq⟩;have hz:=Blk.call (w:=w2.drew) Z2.out hq;have hst:=HS.out w' hz)
 all_goals go_wp2
 all_goals refine bodyPost_ret (res2_D rfl _ _ (w.heap.size+1) d rfl (hz.row (dcs d))) rfl ?_
 all_goals exact ⟨rfl,(B2.out.drew.trans (hq.mono B2.out.size)).trans ⟨rfl,rfl,rfl,by simp,fun k hk=>setRow_other _ _ k _ (by have:=B2.out.size;omega)⟩⟩
end
end Go.Proofs.YtkadkmnolkkhgaaGreatDoor.Hp

/-
 A property laid; a property taken out.
-/
namespace Go.Proofs.YtkadkmnolkkhgaaGreatDoor.Hp
open Go Go.RowKit Go.Maps Keys
open Des (Vl Ds zeroV zeroD dcs dcs_size dcs_one)
open Arrs (En ecs ecs_0 ecs_1 ecs_10 ecs_size ecs_list ecs_one ecs_one')
structure Once1 (ns:List Nd):Prop where
 none:∀ n ∈ ns,n.a=none
 once:(ns.map fun n=>ekey n.e).Nodup
theorem Once1.look {l r:List Nd} {x:Nd} (h:Once1 (l++x :: r)):look (l++x :: r) (ekey x.e)=some x.b:=by
 have hn:=h.once
 simp only [List.map_append,List.map_cons,List.nodup_append,List.nodup_cons] at hn
 unfold Hp.look
 rw [List.find?_append]
 have:l.find? (fun n=>decide (ekey n.e=ekey x.e))=Option.none:=by
  rw [List.find?_eq_none]
  intro m hm
  simp only [decide_eq_true_eq]
  exact fun e=>hn.2.2 (ekey m.e) (List.mem_map.2 ⟨m,hm,rfl⟩) (ekey x.e) (by simp) e
 rw [this]
 simp
theorem Once1.drop {l r:List Nd} {x:Nd} (h:Once1 (l++x :: r)):Once1 (l++r)∧upd (Hp.look (l++x :: r)) (ekey x.e) Option.none=Hp.look (l++r):=by
 have hn:=h.once
 simp only [List.map_append,List.map_cons,List.nodup_append,List.nodup_cons] at hn
 obtain ⟨h1,⟨h2,h3⟩,h4⟩:=hn
 have hl:∀ m ∈ l,ekey m.e ≠ ekey x.e:=fun m hm e=>h4 (ekey m.e) (List.mem_map.2 ⟨m,hm,rfl⟩) (ekey x.e) (by simp) e
 have hr:∀ m ∈ r,ekey m.e ≠ ekey x.e:=fun m hm e=>h2 (e ▸ List.mem_map.2 ⟨m,hm,rfl⟩)
 refine ⟨⟨fun n hn=>h.none n (by simp at hn ⊢;rcases hn with hn |hn <;> simp [hn]),?_⟩,?_⟩
 ·rw [List.map_append,List.nodup_append]
  exact ⟨h1,h3,fun a ha b hb=>h4 a ha b (List.mem_cons_of_mem _ hb)⟩
 ·funext k
  unfold upd
  by_cases hk:k=ekey x.e
  ·rw [if_pos hk]
   symm
   rw [look_none]
   intro m hm
   rw [hk]
   rcases List.mem_append.1 hm with hm |hm
   ·exact hl m hm
   ·exact hr m hm
  ·rw [if_neg hk]
   have h':¬ ekey x.e=k:=fun e=>hk e.symm
   unfold Hp.look
   rw [List.find?_append,List.find?_append,List.find?_cons]
   simp [h']
theorem Once1.snoc {ns:List Nd} {x:Nd} (h:Once1 ns) (ha:x.a=Option.none) (hl:Hp.look ns (ekey x.e)=Option.none):Once1 (ns++[x]):=by
 rw [look_none] at hl
 refine ⟨fun n hn=>?_,?_⟩
 ·rcases List.mem_append.1 hn with hn |hn
  ·exact h.none n hn
  ·rw [List.mem_singleton.1 hn];exact ha
 ·rw [List.map_append,List.nodup_append]
  refine ⟨h.once,by simp,fun a ha b hb=>?_⟩
  obtain ⟨m,hm,rfl⟩:=List.mem_map.1 ha
  simp at hb
  rw [hb]
  exact hl m hm
theorem ins_end {w w':World} {pb mb n:Nat} {ns:List Nd} {e:En} {y:Ending} (h:Obj1 w pb mb n ns) (ho:Once1 ns) (hi:InsPost w mb n (lst pb ns) pb (look ns) e y w') (hl:look ns (ekey e)=none) :
  y = .returned (.tuple #[])∧∃ x:Nd,x.e=e∧w.heap.size≤x.b∧Obj1 w' pb mb (n+1) (ns++[x])∧Once1 (ns++[x])∧Turn w w' pb mb ns:=by
 obtain ⟨hy,x,hx,hb,hm,hw,hf⟩:=hi
 have hnm:=h.ring.notmap h.map
 have hlt:=h.ring.lt
 rw [hl] at hb
 have hh:Obj1 w pb mb n (ns++[]):=by rw [List.append_nil];exact h
 refine ⟨hy,⟨x,e,none⟩,rfl,hx,⟨hh.ring.insert ⟨x,e,none⟩ (fun hm=>by rw [List.append_nil] at hm;have:=hlt _ hm;simp at this;omega) hb fun b hbm=>hw b (by rw [List.append_nil] at hbm;exact hlt b hbm) (fun e=>hnm (by rw [List.append_nil] at hbm;exact e ▸ hbm)),?_⟩,ho.snoc rfl hl,hf,fun b hb h1 h2=>?_⟩
 ·have:=look_snoc (n:=⟨x,e,none⟩) hl
  rw [← this]
  exact hm
 ·rw [hw b hb h2]
  have h1':b ∉ blks pb (ns++[]):=by rw [List.append_nil];exact h1
  exact link_other _ _ _ _ _ _ (fun e=>h1' (e ▸ Ring.mem_a ns [])) (fun e=>h1' (e ▸ Ring.mem_c ns []))
theorem insert_end {w:World} {pb mb n:Nat} {ns:List Nd} {e:En} (h:Obj1 w pb mb n ns) (ho:Once1 ns) (hn:n < 1000000) (hk:Fine (ekey e)) (hl:look ns (ekey e)=none) :
  Calls Tryz.prog 126 #[ptr pb,ptr (lst pb ns),.agg (ecs e)] w fun y w'=>y = .returned (.tuple #[])∧∃ x:Nd,x.e=e∧w.heap.size≤x.b∧Obj1 w' pb mb (n+1) (ns++[x])∧Once1 (ns++[x])∧Turn w w' pb mb ns:=by
 have hh:Obj1 w pb mb n (ns++[]):=by rw [List.append_nil];exact h
 obtain ⟨CA,tA,hA,hA1⟩:=hh.ring.at_a
 obtain ⟨CC,tC,hC,hC1⟩:=hh.ring.at_c
 exact (insert_any pb mb n _ _ _ e _ _ _ CA CC tA tC w h.ring.head hA hA1 hC hC1 h.map hn hk).mono fun y w' hi=>ins_end h ho hi hl
theorem bdEn (ps:Array (Nat × Value)):Instr.build 36 ps=Bd 36 ps:=(rfl)
theorem run_bdEn (w:World) (k:KV) (d:Ds):(Bd 36 #[(0,.agg #[.string k.1,.int .i64 k.2]),(1,.agg (dcs d))]).run Tryz.prog w = .ok (.agg (ecs ⟨k.1,k.2,d⟩)) w:=run_build w _ _ _ (by kernel_rfl)
theorem below_turn {w w1 w':World} {pb mb:Nat} {ns:List Nd} (hb:Below w.heap.size w w1) (h:Turn w1 w' pb mb ns):Turn w w' pb mb ns :=
 ⟨⟨h.fr.os.trans hb.os,h.fr.tape.trans hb.tape,h.fr.output.trans hb.output,Nat.le_trans hb.size h.fr.size⟩,fun b hlt h1 h2=>(h.same b (by have:=hb.size;omega) h1 h2).trans (hb.block b hlt)⟩
section
attribute [local go_sem ↓] ldE ldD alD stD bdEn
attribute [local irreducible] ecs ncs hcs dcs
attribute [local go_sem] run_bx run_alD run_bdEn ecs_0 ecs_1 ncs_20 ncs_21 ncs_22 hcs_20 hcs_23
set_option maxRecDepth 100000 in
set_option maxHeartbeats 4000000 in
theorem pput_new (pb mb n:Nat) (ns:List Nd) (k:KV) (d:Ds) (w:World) (h:Obj1 w pb mb n ns) (ho:Once1 ns) (hn:n < 1000000) (hk:Fine k) (hl:look ns k=none) :
  Calls Tryz.prog 81 #[ptr pb,.agg #[.string k.1,.int .i64 k.2],.agg (dcs d)] w fun e w'=>e = .returned (.tuple #[])∧∃ x:Nd,x.e=⟨k.1,k.2,d⟩∧w.heap.size≤x.b∧Obj1 w' pb mb (n+1) (ns++[x])∧Once1 (ns++[x])∧Turn w w' pb mb ns:=by
 obtain ⟨W1,hW1⟩:∃ W1,w.alloc (.cells #[.string k.1,.int .i64 k.2] 32)=W1:=⟨_,rfl⟩
 have k1:W1.heap.size=w.heap.size+1:=by rw [← hW1];simp
 obtain ⟨W2,hW2⟩:∃ W2,W1.alloc (.cells (dcs d) 34)=W2:=⟨_,rfl⟩
 have b2:Below w.heap.size w W2:=by rw [← hW2,← hW1];exact ((Below.refl _ w).alloc (Nat.le_refl _) _).alloc (by simp) _
 have h2:=h.call b2
 have y2:Blk W2 w.heap.size #[.string k.1,.int .i64 k.2] 32:=by rw [← hW2,← hW1];exact (Blk.new w _ _).old _
 have z2:Blk W2 (w.heap.size+1) (dcs d) 34:=by
  have:=Blk.new W1 (dcs d) 34
  rw [hW2,k1] at this
  exact this
 have pm:W2.cell? ⟨pb,23,none⟩=some (.map (some mb)):=by rw [h2.ring.head.cell,hcs_23]
 have p20:W2.cell? ⟨pb,20,none⟩=some (ptr (lst pb ns)):=by rw [h2.ring.head.cell,hcs_20]
 have l0:=y2.cell 0
 have l1:=y2.cell 1
 have hlk:(Instr.lookup 185 (.map (some mb)) (.agg #[.string k.1,.int .i64 k.2]) false).run Tryz.prog W2.drew = .ok (.pointer none) W2.drew:=by
  have:=h2.drew.map.look hk
  rw [hl] at this
  exact this
 have hins:=insert_end (e:=⟨k.1,k.2,d⟩) h2.drew.drew ho hn hk hl
 have b3:Below w.heap.size w W2.drew.drew:=b2.drew.drew
 have hs3:w.heap.size≤W2.drew.drew.heap.size:=b2.size
 have ld:=run_ldMid (w:=W2.drew.drew) (b:=w.heap.size+1) (o:=0) (d:=d) (fun j v hv=>by rw [Nat.zero_add];exact (z2.cell j).trans (by simpa using hv))
 have HI:=Lib.hid hins
 have B3:=Lib.hid b3
 clear hins b3 h2 h y2 z2 b2
 go_enter Tryz.func81,Tryz.ntmps81
 go_wp2
 go_region
 all_goals go_wp2
 all_goals go_region_with (go_at_call 126;refine HI.out.mono ?_;rintro e w' ⟨rfl,x,hx,hsz,hob,hon,htu⟩)
 all_goals go_wp2
 all_goals go_end0
 all_goals exact ⟨rfl,x,hx,by omega,hob,hon,below_turn B3.out htu⟩
end
end Go.Proofs.YtkadkmnolkkhgaaGreatDoor.Hp

/-
 A property's descriptor laid anew.
-/
namespace Go.Proofs.YtkadkmnolkkhgaaGreatDoor.Hp
open Go Go.RowKit Go.Maps Keys
open Des (Vl Ds zeroV zeroD dcs dcs_size dcs_one)
open Arrs (En ecs ecs_0 ecs_1 ecs_10 ecs_size ecs_list ecs_one ecs_one')
theorem ncs_desc (e:En) (p q a:Value) (d:Ds):(((((((((((((((((((ncs e p q a).setIfInBounds 2 (.bool d.hv)).setIfInBounds 3 (.bool d.hg)).setIfInBounds 4 (.bool d.hs)).setIfInBounds 5 (.bool d.hw)).setIfInBounds 6 (.bool d.he)).setIfInBounds 7 (.bool d.hc)).setIfInBounds 8 (.int .i64 d.v.k)).setIfInBounds 9 (.int .i64 d.v.n)).setIfInBounds 10 (.string d.v.s)).setIfInBounds 11 (.int .i64 d.g.k)).setIfInBounds 12 (.int .i64 d.g.n)).setIfInBounds 13 (.string d.g.s)).setIfInBounds 14 (.int .i64 d.s.k)).setIfInBounds 15 (.int .i64 d.s.n)).setIfInBounds 16 (.string d.s.s)).setIfInBounds 17 (.bool d.w)).setIfInBounds 18 (.bool d.e)).setIfInBounds 19 (.bool d.c))=ncs { e with d:=d } p q a:=by simp [ncs]
theorem Blk.desc {w:World} {b:Nat} {e:En} {p q a:Value} {t:TypeId} (h:Blk w b (ncs e p q a) t) (d:Ds):Blk (w.setCells b 2 (dcs d).toList) b (ncs { e with d:=d } p q a) t:=by
 have:=(((((((((((((((((h.set 2 (.bool d.hv)).set 3 (.bool d.hg)).set 4 (.bool d.hs)).set 5 (.bool d.hw)).set 6 (.bool d.he)).set 7 (.bool d.hc)).set 8 (.int .i64 d.v.k)).set 9 (.int .i64 d.v.n)).set 10 (.string d.v.s)).set 11 (.int .i64 d.g.k)).set 12 (.int .i64 d.g.n)).set 13 (.string d.g.s)).set 14 (.int .i64 d.s.k)).set 15 (.int .i64 d.s.n)).set 16 (.string d.s.s)).set 17 (.bool d.w)).set 18 (.bool d.e)).set 19 (.bool d.c)
 rw [ncs_desc] at this
 exact this
theorem there_blk {w:World} {b:Nat} {cs:Array Value} {t:TypeId} (h:Blk w b cs t) {o k:Nat} (hk:o+k≤cs.size):w.there b o k:=fun j hj=>by
 refine ⟨?_,h.frozen (o+j)⟩
 rw [h.cell]
 simp
 omega
theorem setCells_block (b:Nat):∀ (vs:List Value) (o:Nat) (w:World) (k:Nat),k ≠ b→(w.setCells b o vs).heap[k]? = w.heap[k]?
 | [],_,_,_,_=>rfl
 | v :: r,o,w,k,h=>by
  rw [World.setCells,setCells_block b r (o+1) _ k h]
  exact heap_setCell_other w ⟨b,o,none⟩ k v h
theorem setCells_fr (b:Nat):∀ (vs:List Value) (o:Nat) (w:World),Fr w (w.setCells b o vs)∧(w.setCells b o vs).heap.size=w.heap.size
 | [],_,w=>⟨Fr.refl w,rfl⟩
 | v :: r,o,w=>by
  obtain ⟨h1,h2⟩:=setCells_fr b r (o+1) (w.setCell ⟨b,o,none⟩ v)
  rw [World.setCells]
  exact ⟨((Fr.refl w).set _ _).trans h1,h2.trans (by simp [World.setCell])⟩
theorem run_stMid {w:World} {b o:Nat} {T:TypeId} {cs:Array Value} (ht:w.there b o cs.size) (hi:(Tryz.prog.info? T).map (·.size)=some cs.size) (h1:cs.all (·.oneCell')=true):(St T (.pointer (some ⟨b,o,none⟩)) (.agg cs)).run Tryz.prog w = .ok () (w.setCells b o cs.toList) :=
 run_storeAt_mid (P:=Tryz.prog) w b o T cs ht hi h1
def Nd.desc (x:Nd) (d:Ds):Nd:=⟨x.b,⟨x.e.ks,x.e.kn,d⟩,x.a⟩
theorem look_desc (l r:List Nd) (x:Nd) (d:Ds):look (l++x.desc d :: r)=look (l++x :: r):=by
 funext k
 unfold look
 rw [List.find?_append,List.find?_append,List.find?_cons,List.find?_cons]
 have:ekey (x.desc d).e=ekey x.e:=rfl
 rw [this]
 by_cases h:ekey x.e=k <;> cases l.find? (fun n=>decide (ekey n.e=k)) <;> simp [h] <;> rfl
theorem nxt_desc (l r:List Nd) (x:Nd) (d:Ds) (z:Nat):nxt (l++x.desc d :: r) z=nxt (l++x :: r) z:=by cases l <;> rfl
theorem lst_desc (l r:List Nd) (x:Nd) (d:Ds) (z:Nat):lst z (l++x.desc d :: r)=lst z (l++x :: r):=by rw [lst_append,lst_append];rfl
theorem blks_desc (l r:List Nd) (x:Nd) (d:Ds) (pb:Nat):blks pb (l++x.desc d :: r)=blks pb (l++x :: r):=by simp [blks,Nd.desc]
theorem Ring.desc {w w':World} {pb mb:Nat} {l r:List Nd} {x:Nd} (h:Ring w pb mb (l++x :: r)) (d:Ds) (hw:∀ k,k ≠ x.b→w'.heap[k]? = w.heap[k]?) (hx:∀ p q,Blk w x.b (ncs x.e p q (.pointer x.a)) 184→Blk w' x.b (ncs (x.desc d).e p q (.pointer x.a)) 184):Ring w' pb mb (l++x.desc d :: r):=by
 obtain ⟨hh,hs,ha⟩:=h
 have ha':=ha
 simp only [blks,List.map_append,List.map_cons,List.nodup_cons,List.mem_append,List.mem_cons,not_or,List.nodup_append] at ha
 obtain ⟨⟨h1,h2,h3⟩,h4,⟨h5,h6⟩,h7⟩:=ha
 rw [seg_append] at hs
 refine ⟨?_,?_,by rw [blks_desc];exact ha'⟩
 ·rw [nxt_desc,lst_desc]
  exact (hw pb h2).trans hh
 ·rw [seg_append]
  refine ⟨seg_same hs.1 fun n hn=>hw n.b fun e=>h7 n.b (List.mem_map.2 ⟨n,hn,rfl⟩) x.b (.inl rfl) e,hx _ _ hs.2.1,seg_same hs.2.2 fun n hn=>hw n.b fun e=>h5 (e ▸ List.mem_map.2 ⟨n,hn,rfl⟩)⟩
theorem Once1.desc {l r:List Nd} {x:Nd} (h:Once1 (l++x :: r)) (d:Ds):Once1 (l++x.desc d :: r):=by
 obtain ⟨h1,h2⟩:=h
 refine ⟨fun n hn=>?_,?_⟩
 ·simp at hn
  rcases hn with hn |rfl |hn
  ·exact h1 n (by simp [hn])
  ·exact h1 x (by simp)
  ·exact h1 n (by simp [hn])
 ·have:(l++x.desc d :: r).map (fun n=>ekey n.e)=(l++x :: r).map (fun n=>ekey n.e):=by simp;rfl
  rw [this]
  exact h2
section
attribute [local go_sem ↓] ldE ldD alD stD bdEn
attribute [local irreducible] ecs ncs hcs dcs
attribute [local go_sem] run_bx run_alD run_bdEn ecs_0 ecs_1 ncs_20 ncs_21 ncs_22 hcs_20 hcs_23
set_option maxRecDepth 100000 in
set_option maxHeartbeats 4000000 in
theorem pput_old (pb mb n:Nat) (l r:List Nd) (x:Nd) (d:Ds) (w:World) (h:Obj1 w pb mb n (l++x :: r)) (ho:Once1 (l++x :: r)) (hk:Fine (ekey x.e)) :
  Calls Tryz.prog 81 #[ptr pb,.agg #[.string x.e.ks,.int .i64 x.e.kn],.agg (dcs d)] w fun e w'=>e = .returned (.tuple #[])∧Obj1 w' pb mb n (l++x.desc d :: r)∧Once1 (l++x.desc d :: r)∧Turn w w' pb mb (l++x :: r):=by
 obtain ⟨W1,hW1⟩:∃ W1,w.alloc (.cells #[.string x.e.ks,.int .i64 x.e.kn] 32)=W1:=⟨_,rfl⟩
 have k1:W1.heap.size=w.heap.size+1:=by rw [← hW1];simp
 obtain ⟨W2,hW2⟩:∃ W2,W1.alloc (.cells (dcs d) 34)=W2:=⟨_,rfl⟩
 have b2:Below w.heap.size w W2:=by rw [← hW2,← hW1];exact ((Below.refl _ w).alloc (Nat.le_refl _) _).alloc (by simp) _
 have h2:=h.call b2
 have y2:Blk W2 w.heap.size #[.string x.e.ks,.int .i64 x.e.kn] 32:=by rw [← hW2,← hW1];exact (Blk.new w _ _).old _
 have z2:Blk W2 (w.heap.size+1) (dcs d) 34:=by
  have:=Blk.new W1 (dcs d) 34
  rw [hW2,k1] at this
  exact this
 have pm:W2.cell? ⟨pb,23,none⟩=some (.map (some mb)):=by rw [h2.ring.head.cell,hcs_23]
 have l0:=y2.cell 0
 have l1:=y2.cell 1
 have hlk:(Instr.lookup 185 (.map (some mb)) (.agg #[.string x.e.ks,.int .i64 x.e.kn]) false).run Tryz.prog W2.drew = .ok (.pointer (some ⟨x.b,0,none⟩)) W2.drew:=by
  have:=h2.drew.map.look hk
  rw [ho.look] at this
  exact this
 obtain ⟨p,q,hb⟩:=seg_at x h2.ring.seg (by simp)
 have ld:=run_ldMid (w:=W2.drew) (b:=w.heap.size+1) (o:=0) (d:=d) (fun j v hv=>by rw [Nat.zero_add];exact (z2.cell j).trans (by simpa using hv))
 have ld2:=run_ldMid (w:=W2.drew.drew) (b:=w.heap.size+1) (o:=0) (d:=d) (fun j v hv=>by rw [Nat.zero_add];exact (z2.cell j).trans (by simpa using hv))
 have hst:=run_stMid (w:=W2.drew) (b:=x.b) (o:=2) (T:=34) (cs:=dcs d) (there_blk (w:=W2.drew) hb (by rw [dcs_size,ncs_size];omega)) (by rw [dcs_size];exact sizeD) (dcs_one _)
 have hst2:=run_stMid (w:=W2.drew.drew) (b:=x.b) (o:=2) (T:=34) (cs:=dcs d) (there_blk (w:=W2.drew.drew) hb (by rw [dcs_size,ncs_size];omega)) (by rw [dcs_size];exact sizeD) (dcs_one _)
 have hend:∀ W3:World,W3.heap=W2.heap→Fr W2 W3→Hid (Obj1 (W3.setCells x.b 2 (dcs d).toList) pb mb n (l++x.desc d :: r)∧Turn w (W3.setCells x.b 2 (dcs d).toList) pb mb (l++x :: r)):=fun W3 e3 f3=>by
  have hne:mb ≠ x.b:=fun e=>h2.ring.notmap h2.map (by rw [e];simp [blks])
  have hw:∀ k,k ≠ x.b→(W3.setCells x.b 2 (dcs d).toList).heap[k]? = W2.heap[k]?:=fun k hk=>by rw [setCells_block x.b _ 2 W3 k hk,e3]
  refine ⟨⟨h2.ring.desc d hw fun p q hq=>?_,?_⟩,below_turn b2 ⟨f3.trans (setCells_fr _ _ _ _).1,fun b hb h1 h3=>hw b fun e=>h1 (by rw [e];simp [blks])⟩⟩
  ·exact Blk.desc (show Blk W3 x.b _ _ by unfold Blk;rw [e3];exact hq) d
  ·rw [look_desc]
   exact h2.map.same (hw mb hne)
 have e1:=hend W2.drew rfl (Fr.refl _).drew
 have e2:=hend W2.drew.drew rfl (Fr.refl _).drew.drew
 have OD:=Lib.hid (ho.desc d)
 clear hend ho h2 h y2 z2 b2 hb
 go_enter Tryz.func81,Tryz.ntmps81
 go_wp2
 go_region
 all_goals go_wp2
 all_goals refine bodyPost_ret (results_none rfl _ _ _) rfl ?_
 all_goals exact ⟨rfl,e1.out.1,OD.out,e1.out.2⟩
end
end Go.Proofs.YtkadkmnolkkhgaaGreatDoor.Hp

/-
 A property taken out.
-/
namespace Go.Proofs.YtkadkmnolkkhgaaGreatDoor.Hp
open Go Go.RowKit Go.Maps Keys
open Des (Vl Ds zeroV zeroD dcs dcs_size dcs_one)
open Arrs (En ecs ecs_0 ecs_1 ecs_10 ecs_size ecs_list ecs_one ecs_one')
section
attribute [local go_sem ↓] ldE ldD alD stD bdEn
attribute [local irreducible] ecs ncs hcs dcs
attribute [local go_sem] run_bx run_alD run_bdEn ecs_0 ecs_1 ncs_20 ncs_21 ncs_22 hcs_20 hcs_23
set_option maxRecDepth 100000 in
set_option maxHeartbeats 4000000 in
theorem pdrop_none (pb mb n:Nat) (ns:List Nd) (k:KV) (w:World) (h:Obj1 w pb mb n ns) (hk:Fine k) (hl:look ns k=none) :
  Calls Tryz.prog 238 #[ptr pb,.agg #[.string k.1,.int .i64 k.2]] w fun e w'=>e = .returned (.bool false)∧Below w.heap.size w w':=by
 obtain ⟨W1,hW1⟩:∃ W1,w.alloc (.cells #[.string k.1,.int .i64 k.2] 32)=W1:=⟨_,rfl⟩
 have b1:Below w.heap.size w W1:=by rw [← hW1];exact (Below.refl _ w).alloc (Nat.le_refl _) _
 have h1:=h.call b1
 have y1:Blk W1 w.heap.size #[.string k.1,.int .i64 k.2] 32:=by rw [← hW1];exact Blk.new w _ _
 have pm:W1.cell? ⟨pb,23,none⟩=some (.map (some mb)):=by rw [h1.ring.head.cell,hcs_23]
 have l0:=y1.cell 0
 have l1:=y1.cell 1
 have hlk:(Instr.lookup 185 (.map (some mb)) (.agg #[.string k.1,.int .i64 k.2]) false).run Tryz.prog W1.drew = .ok (.pointer none) W1.drew:=by
  have:=h1.drew.map.look hk
  rw [hl] at this
  exact this
 have B1:=Lib.hid b1
 clear h h1 y1 b1 hl hk
 go_enter Tryz.func238,Tryz.ntmps238
 go_wp2
 go_region
 all_goals go_wp2
 all_goals go_ret
 all_goals exact ⟨rfl,B1.out.drew⟩
set_option maxRecDepth 100000 in
set_option maxHeartbeats 8000000 in
theorem pdrop_some (pb mb n:Nat) (l r:List Nd) (x:Nd) (w:World) (h:Obj1 w pb mb n (l++x :: r)) (ho:Once1 (l++x :: r)) (hk:Fine (ekey x.e)) :
  Calls Tryz.prog 238 #[ptr pb,.agg #[.string x.e.ks,.int .i64 x.e.kn]] w fun e w'=>e = .returned (.bool true)∧Obj1 w' pb mb n (l++r)∧Once1 (l++r)∧Turn w w' pb mb (l++x :: r):=by
 obtain ⟨W1,hW1⟩:∃ W1,w.alloc (.cells #[.string x.e.ks,.int .i64 x.e.kn] 32)=W1:=⟨_,rfl⟩
 have b1:Below w.heap.size w W1:=by rw [← hW1];exact (Below.refl _ w).alloc (Nat.le_refl _) _
 have h1:=h.call b1
 have y1:Blk W1 w.heap.size #[.string x.e.ks,.int .i64 x.e.kn] 32:=by rw [← hW1];exact Blk.new w _ _
 have pm:W1.cell? ⟨pb,23,none⟩=some (.map (some mb)):=by rw [h1.ring.head.cell,hcs_23]
 have l0:=y1.cell 0
 have l1:=y1.cell 1
 have hlk:(Instr.lookup 185 (.map (some mb)) (.agg #[.string x.e.ks,.int .i64 x.e.kn]) false).run Tryz.prog W1.drew = .ok (.pointer (some ⟨x.b,0,none⟩)) W1.drew:=by
  have:=h1.drew.map.look hk
  rw [ho.look] at this
  exact this
 obtain ⟨A,hA⟩:∃ A,lst pb l=A:=⟨_,rfl⟩
 obtain ⟨C,hC⟩:∃ C,nxt r pb=C:=⟨_,rfl⟩
 have hseg:=h1.ring.seg
 rw [seg_append] at hseg
 have hb:=hseg.2.1
 rw [hA,hC] at hb
 have hap:=h1.ring.apart
 have nA:A ≠ x.b:=by
  rw [← hA]
  have hh:=hap
  simp only [blks,List.map_append,List.map_cons,List.nodup_cons,List.mem_append,List.mem_cons,not_or,List.nodup_append] at hh
  obtain ⟨⟨q1,q2,q3⟩,q4,⟨q5,q6⟩,q7⟩:=hh
  rcases lst_mem l pb with ⟨e,_⟩ |e
  ·rw [e];exact q2
  ·exact fun e2=>q7 _ e x.b (.inl rfl) e2
 have nC:C ≠ x.b:=by
  rw [← hC]
  have hh:=hap
  simp only [blks,List.map_append,List.map_cons,List.nodup_cons,List.mem_append,List.mem_cons,not_or,List.nodup_append] at hh
  obtain ⟨⟨q1,q2,q3⟩,q4,⟨q5,q6⟩,q7⟩:=hh
  rcases nxt_mem r pb with ⟨e,_⟩ |e
  ·rw [e];exact q2
  ·exact fun e2=>q5 (e2 ▸ e)
 obtain ⟨CA,tA,bA,hA1⟩:=Ring.at_a (l:=l) (r:=x :: r) h1.ring
 obtain ⟨CC,tC,bC,hC1⟩:=(show Ring W1 pb mb ((l++[x])++r) by rw [List.append_assoc];exact h1.ring).at_c
 rw [hA] at bA
 rw [hC] at bC
 have c20:W1.cell? ⟨x.b,20,none⟩=some (.pointer (some ⟨A,0,none⟩)):=by rw [hb.cell,ncs_20]
 have c21:W1.cell? ⟨x.b,21,none⟩=some (.pointer (some ⟨C,0,none⟩)):=by rw [hb.cell,ncs_21]
 have sA:=(bA.cell 21).trans hA1
 have sC:=(bC.cell 20).trans hC1
 have fA:=bA.frozen 21
 have fC:=bC.frozen 20
 have a20:(W1.setCell ⟨A,21,none⟩ (.pointer (some ⟨C,0,none⟩))).cell? ⟨x.b,20,none⟩=some (.pointer (some ⟨A,0,none⟩)):=by rw [World.cell?_setCell_other _ _ _ _ (by simp)];exact c20
 have a21:(W1.setCell ⟨A,21,none⟩ (.pointer (some ⟨C,0,none⟩))).cell? ⟨x.b,21,none⟩=some (.pointer (some ⟨C,0,none⟩)):=by rw [World.cell?_setCell_other _ _ _ _ (by simp [nA])];exact c21
 have d20:(W1.setCell ⟨C,20,none⟩ (.pointer (some ⟨A,0,none⟩))).cell? ⟨x.b,20,none⟩=some (.pointer (some ⟨A,0,none⟩)):=by rw [World.cell?_setCell_other _ _ _ _ (by simp [nC])];exact c20
 have d21:(W1.setCell ⟨C,20,none⟩ (.pointer (some ⟨A,0,none⟩))).cell? ⟨x.b,21,none⟩=some (.pointer (some ⟨C,0,none⟩)):=by rw [World.cell?_setCell_other _ _ _ _ (by simp)];exact c21
 have sA2:(W1.setCell ⟨C,20,none⟩ (.pointer (some ⟨A,0,none⟩))).cell? ⟨A,21,none⟩=some (ptr (nxt (x :: r) pb)):=by rw [World.cell?_setCell_other _ _ _ _ (by simp)];exact sA
 have sC2:(W1.setCell ⟨A,21,none⟩ (.pointer (some ⟨C,0,none⟩))).cell? ⟨C,20,none⟩=some (ptr (lst pb (l++[x]))):=by rw [World.cell?_setCell_other _ _ _ _ (by simp)];exact sC
 obtain ⟨W3,hW3⟩:∃ W3,link W1 A C (ptr C) (ptr A)=W3:=⟨_,rfl⟩
 have hlk1:(W1.setCell ⟨A,21,none⟩ (.pointer (some ⟨C,0,none⟩))).setCell ⟨C,20,none⟩ (.pointer (some ⟨A,0,none⟩))=W3:=hW3
 have hlk2:(W1.setCell ⟨C,20,none⟩ (.pointer (some ⟨A,0,none⟩))).setCell ⟨A,21,none⟩ (.pointer (some ⟨C,0,none⟩))=W3:=by rw [setCell_comm];exact hW3
 have g0:W3.cell? ⟨w.heap.size,0,none⟩=some (.string x.e.ks):=by rw [← hW3,link_cell _ _ _ _ _ _ _ (by omega) (by omega),y1.cell];rfl
 have g1:W3.cell? ⟨w.heap.size,1,none⟩=some (.int .i64 x.e.kn):=by rw [← hW3,link_cell _ _ _ _ _ _ _ (by omega) (by omega),y1.cell];rfl
 have g2:W3.cell? ⟨pb,23,none⟩=some (.map (some mb)):=by rw [← hW3,link_cell _ _ _ _ _ _ _ (by omega) (by omega)];exact pm
 have hxa:x.a=none:=ho.none x (by simp)
 have g22:W3.cell? ⟨x.b,22,none⟩=some (.pointer none):=by rw [← hW3,link_cell _ _ _ _ _ _ _ (by omega) (by omega),hb.cell,ncs_22,hxa]
 have hmn:=h1.ring.notmap h1.map
 have hAm:=Ring.mem_a (pb:=pb) l (x :: r)
 have hCm:C ∈ blks pb (l++x :: r):=by
  have:=Ring.mem_c (pb:=pb) (l++[x]) r
  rw [hC,List.append_assoc] at this
  exact this
 rw [hA] at hAm
 have hm3:MapIs W3 mb n (look (l++x :: r)):=by
  refine h1.map.same ?_
  rw [← hW3]
  exact link_other _ _ _ _ _ _ (fun e=>hmn (e ▸ hAm)) (fun e=>hmn (e ▸ hCm))
 obtain ⟨hod,hlo⟩:=ho.drop
 have hend:∀ W4 w5:World,W4.heap=W3.heap→Fr W1 W4→MapIs w5 mb n (upd (look (l++x :: r)) (ekey x.e) none)→W4.mapTurned w5 mb→Obj1 w5 pb mb n (l++r)∧Turn w w5 pb mb (l++x :: r):=fun W4 w5 e4 f4 m5 t5=>by
  have hw:∀ b,b ≠ mb→w5.heap[b]? = (link W1 A C (ptr C) (ptr A)).heap[b]?:=fun b hb=>by rw [turned_other t5 hb,e4,hW3]
  refine ⟨⟨Ring.drop h1.ring fun b hbm=>?_,by rw [← hlo];exact m5⟩,below_turn b1 ⟨f4.turned t5,fun b hb h2 h3=>?_⟩⟩
  ·rw [hA,hC]
   refine hw b fun e=>hmn ?_
   rw [← e]
   simp only [blks,List.map_append,List.map_cons,List.mem_cons,List.mem_append] at hbm ⊢
   rcases hbm with hbm |hbm |hbm <;> simp [hbm]
  ·rw [hw b h3]
   exact link_other _ _ _ _ _ _ (fun e=>h2 (e ▸ hAm)) (fun e=>h2 (e ▸ hCm))
 have HE:=Lib.hid hend
 have HM:=Lib.hid hm3
 have OD:=Lib.hid hod
 have fr3:Fr W1 W3:=by rw [← hW3];exact (Fr.refl W1).link _ _ _ _
 clear hend hm3 hod hlo hAm hCm hmn bA bC hA1 hC1 hap hseg hb nA nC h h1 y1 ho hxa hW3 hA hC
 obtain ⟨w5,hdel,m5,t5⟩:=MapIs.del (w:=W3.drew.drew.drew) HM.out hk 0
 have hdel2:(Builtin.delete_ #[185,32] 0 #[.map (some mb),.agg #[.string x.e.ks,.int .i64 x.e.kn]]).run Tryz.prog W3.drew.drew.drew = .ok (.tuple #[]) w5:=hdel
 clear hdel
 have hfin:=HE.out W3.drew.drew.drew w5 rfl fr3.drew.drew.drew m5 t5
 have HF:=Lib.hid hfin
 clear hfin m5 t5 HE HM fr3 hk
 go_enter Tryz.func238,Tryz.ntmps238
 go_wp2
 go_region
 all_goals go_wp2
 all_goals go_region
 all_goals go_wp2
 all_goals go_region
 all_goals go_wp2
 all_goals go_ret
 all_goals exact ⟨rfl,HF.out.1,OD.out,HF.out.2⟩
end
end Go.Proofs.YtkadkmnolkkhgaaGreatDoor.Hp
