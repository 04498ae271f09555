/-
 Texts of this seat in build order: HpSeq, HpEnt, HpHeap, HpStore, HpMake.
-/
import Derived.Test.YtkadkmnolkkhgaaGreatDoorMb08
import Derived.Laws.MakeOwn
import Derived.Deep.RegionWith
import Derived.OneCell
import Derived.Deep.Onto
import Derived.Deep.RegionLaw
/-
 AppendSeq over a ring; entries.
-/
set_option linter.unusedVariables false
set_option linter.unusedSimpArgs false
namespace Go.Proofs.YtkadkmnolkkhgaaGreatDoor.Hp
open Go Go.RowKit Go.Maps Go.Shelf Keys
open Des (Vl Ds zeroV zeroD dcs dcs_size dcs_one)
open Arrs (En ecs ecs_0 ecs_1 ecs_10 ecs_size ecs_list ecs_one ecs_one')
def cellsE (l:List En):List Value:=l.flatMap fun e=>(ecs e).toList
theorem cellsE_append (a b:List En):cellsE (a++b)=cellsE a++cellsE b:=by simp [cellsE]
theorem cellsE_one (e:En):cellsE [e]=(ecs e).toList:=by simp [cellsE]
theorem cellsE_at (l:List En):∀ (j:Nat) (e:En),l[j]? = some e→∀ k v,(ecs e).toList[k]? = some v→(cellsE l)[j*20+k]? = some v:=by
 induction l with
 | nil=>intro j e h;simp at h
 | cons a r ih =>
  intro j e h k v hv
  have e1:cellsE (a :: r)=(ecs a).toList++cellsE r:=rfl
  have hk:k < 20:=by have:=(List.getElem?_eq_some_iff.1 hv).1;rw [ecs_list] at this;exact this
  cases j with
  | zero =>
   simp only [List.getElem?_cons_zero,Option.some.injEq] at h
   subst h
   rw [e1,List.getElem?_append_left (by rw [ecs_list];omega),Nat.zero_mul,Nat.zero_add]
   exact hv
  | succ j =>
   rw [e1,List.getElem?_append_right (by rw [ecs_list];omega),ecs_list,show (j+1)*20+k - 20=j*20+k by omega]
   exact ih j e (by simpa using h) k v hv
theorem esAt_own {w:World} {base:Nat} {ao:Option Addr} {cp:Nat} {es:List En} (h:w.ownsRow base 36 20 (.slice ao es.length cp) es.length (cellsE es)):EsAt w.heap.size ao es w:=fun j e he=>by
 have hj:j < es.length:=(List.getElem?_eq_some_iff.1 he).1
 rcases h.2 with ⟨_,hn⟩ |⟨g,cap,cur,hv,hb,hg,_⟩
 ·omega
 ·simp only [Value.slice.injEq] at hv
  obtain ⟨rfl,-,rfl⟩:=hv
  refine ⟨g,0,rfl,(Array.getElem?_eq_some_iff.1 hg).1,fun k v hv=>?_⟩
  have hk:k < 20:=by have:=(List.getElem?_eq_some_iff.1 hv).1;rw [ecs_list] at this;exact this
  rw [show (0+j*20+k)=j*20+k by omega,h.cellAt _ (by omega)]
  exact cellsE_at es j e he k v hv
def BsE (ps:Array (Nat × Value)):Sem Value:=Instr.buildSlice 37 1 ps
theorem to_bsE (ps:Array (Nat × Value)):Instr.buildSlice 37 1 ps=BsE ps:=(rfl)
theorem run_bsE (w:World) (e:En):(BsE #[(0,.agg (ecs e))]).run Tryz.prog w = .ok (.slice (some ⟨w.heap.size,0,none⟩) 1 1) (w.alloc (.cells (ecs e) 36)):=by
 obtain ⟨i,hi,hz,hs,hb⟩:=info_parts infoE
 exact run_buildSlice w 37 36 1 _ (ecs e) i (.agg (ecs zeroE)) Tryz.underlying37 hi hz (by rw [hs];decide) (by rw [hs];decide) (by rw [hs];have h:=Go.Great.fill_whole (s:=20) (by decide) [.agg (ecs e)] ((Array.range (1*20)).map ((Value.agg (ecs zeroE)).cells[· % (Value.agg (ecs zeroE)).cells.size]!)) (fun v hv=>by rw [List.mem_singleton.1 hv];rfl) (by simp);simpa [Value.cells] using h)
theorem new_cells (w:World) (e:En) (t:TypeId):∀ j u,(ecs e).toList[j]? = some u→(w.alloc (.cells (ecs e) t)).cell? ((⟨w.heap.size,0,none⟩:Addr).add j)=some u:=fun j u hu=>by
 have h:=enAt_new w e t j u hu
 rw [Addr.add_mid]
 exact h
theorem zeroE_cells:(Value.agg (ecs zeroE)).cells.size=20:=rfl
def mkE (c:Nat):Array Value:=madeCells (ecs zeroE) (c*20)
theorem run_mkE (c:Nat) (hc:c≤1000000) (w:World):(Instr.makeSlice 37 (.int .i64 0) (.int .i64 c)).run Tryz.prog w = .ok (.slice (some ⟨w.heap.size,0,none⟩) 0 c) (w.alloc (.cells (mkE c) 36)):=by
 obtain ⟨i,hi,hz,hs,hb⟩:=info_parts infoE
 have h:=run_make (P:=Tryz.prog) w 37 36 i (.agg (ecs zeroE)) Tryz.underlying37 hi hz .i64 .i64 0 c (by omega) (by omega) (by rw [hb];omega) (by omega)
 rw [hs] at h
 exact h
theorem mkE_own (w:World) (c base:Nat) (hc:c≤1000000) (hb:base≤w.heap.size):(w.alloc (.cells (mkE c) 36)).ownsRow base 36 20 (.slice (some ⟨w.heap.size,0,none⟩) 0 c) 0 [] :=
 World.ownsRow_made w (mkE c) c hb (by unfold maxLen;omega) (by simp [mkE,madeCells])
section
attribute [local go_sem] Oper.semAt_some
attribute [local go_sem ↓] ldE bxE alE stE to_bsE
attribute [local irreducible] ecs ncs hcs
attribute [local go_sem] run_bx run_alE run_stE run_bsE ecs_0 ecs_1
structure SeqInv (w0:World) (n₀ Bs Bn pb:Nat) (pre:List En) (v:Value) (W:World):Prop where
 box:Blk W Bs #[v] 37
 row:W.ownsRow n₀ 36 20 v pre.length (cellsE pre)
 it:Blk W Bn #[ptr pb] 122
 below:Below n₀ w0 W
theorem own_kept {w w':World} {base:Nat} {e:TypeId} {size:Nat} {v:Value} {k:Nat} {xs:List Value} {row:Option Nat} (h:w.ownsRow base e size v k xs) (hg:w.grownBy w' row) (hr:∀ r,row=some r→∃ o:Obj,w.heap[r]? = some o∧o.isCells=false):w'.ownsRow base e size v k xs:=by
 refine h.kept hg ?_
 rcases h.2 with ⟨rfl,_⟩ |⟨g,cap,cur,rfl,_,hgb,_⟩
 ·exact .inl rfl
 ·refine .inr fun e'=>?_
  obtain ⟨o,ho,hc⟩:=hr g (by simpa [Value.ownBlock] using e'.symm)
  rw [hgb] at ho;cases ho;cases hc
theorem seq_own (w0:World) (n₀ Bs Bn pb B:Nat) (hn:n₀≤w0.heap.size) (hB:n₀≤B):OwnFrom B (fun pre W=>∃ v,SeqInv w0 n₀ Bs Bn pb pre v W):=by
 rintro pre W W' row ⟨v,⟨h1,h2,h3,h4⟩⟩ hg hr
 have hr2:=fun r e=>(hr r e).2
 exact ⟨v,h1.kept hg hr2,own_kept h2 hg hr2,h3.kept hg hr2,h4.grown hg (Nat.le_trans hn h4.size) (fun k e=>Nat.le_trans hB (hr k e).1)⟩
theorem SeqInv.step {w0 W w1:World} {n₀ Bs Bn pb B0:Nat} {pre:List En} {v v':Value} {x:En} {tmp:Obj} (h:SeqInv w0 n₀ Bs Bn pb pre v W) (hn:n₀≤w0.heap.size) (hB:n₀≤Bs) (hne:Bn ≠ Bs)
  (hown':w1.ownsRow n₀ 36 20 v' (pre.length+1) (cellsE pre++(ecs x).toList)) (hgrow:(W.alloc tmp).grownBy w1 v.ownBlock) :
  KeepsFrom B0 W (w1.setCell ⟨Bs,0,none⟩ v')∧Kept n₀ Bn W (w1.setCell ⟨Bs,0,none⟩ v')∧SeqInv w0 n₀ Bs Bn pb (pre++[x]) v' (w1.setCell ⟨Bs,0,none⟩ v'):=by
 obtain ⟨h1,h2,h3,h4⟩:=h
 have hsz:n₀≤W.heap.size:=Nat.le_trans hn h4.size
 obtain ⟨hv1,hv2,hr2,hk2,hb2⟩:=Boxed.appended (t:=37) (tmp:=tmp) h1 (by decide) h2 hsz hB hown' hgrow
 have hbn:Blk (w1.setCell ⟨Bs,0,none⟩ v') Bn #[ptr pb] 122:=by
  have a1:Blk w1 Bn #[ptr pb] 122:=Boxed.kept (Boxed.alloc (t:=122) h3 tmp) hgrow (Boxed.not_row (t:=122) h3 (by decide) h2)
  exact a1.other _ _ hne
 refine ⟨hk2.from _,⟨hb2,hbn.trans (Eq.symm h3)⟩,hv2,?_,hbn,h4.trans hb2⟩
 rw [List.length_append,cellsE_append,cellsE_one]
 exact hr2
def SeqPost (w:World) (n₀:Nat) (es:List En) (y:Ending) (w':World):Prop:=∃ v,y = .returned v∧w'.ownsRow n₀ 36 20 v es.length (cellsE es)∧Below n₀ w w'
set_option maxRecDepth 100000 in
set_option maxHeartbeats 4000000 in
theorem seq_any (n₀ Bn pb mb:Nat) (ns:List Nd) (g c:Nat) (w:World) (hlen:ns.length≤1000000) (hlow:∀ b ∈ blks pb ns,b < n₀) (hn₀:n₀≤w.heap.size) (hc:Blk w Bn #[ptr pb] 122) (hL:Ring w pb mb ns)
  (hrow:w.ownsRow n₀ 36 20 (.slice (some ⟨g,0,none⟩) 0 c) 0 []) :
  Calls Tryz.prog 105 #[.slice (some ⟨g,0,none⟩) 0 c,.func (.func 140) #[] #[.pointer (some ⟨Bn,0,none⟩)]] w (SeqPost w n₀ (ns.map (·.e))):=by
 obtain ⟨i40,hi40,hz400,hz401,hz402⟩:=info_parts infoE
 have HLOW:=Lib.hid hlow
 have HL:=Lib.hid hL
 have HROW:=Lib.hid hrow
 have HC:=Lib.hid hc
 clear hlow hL hrow hc
 refine (callsIn_wide (n:=9)).1 ?_
 refine callsIn_of_wp_marks Tryz.func105 rfl trivial ?_ rfl
 simp only [Tryz.ntmps105,List.size_toArray,List.length_cons,List.length_nil,Nat.reduceAdd,Nat.reduceSub,Array.replicate_succ,Array.replicate_zero,List.push_toArray,List.append_toArray,List.nil_append,List.cons_append]
 gi_wp2
 obtain ⟨W0,hW0⟩:∃ W0,w.alloc (.cells #[.slice (some ⟨g,0,none⟩) 0 c] 37)=W0:=⟨_,rfl⟩
 have k0:W0.heap.size=w.heap.size+1:=by rw [← hW0];simp
 have b0:Below w.heap.size w W0:=by rw [← hW0];exact (Below.refl _ w).alloc (Nat.le_refl _) _
 have hin:Hid (SeqInv w n₀ w.heap.size Bn pb [] (.slice (some ⟨g,0,none⟩) 0 c) W0):=by
  rw [← hW0]
  exact ⟨Blk.new w _ _,HROW.out.alloc _,HC.out.old _,(Below.refl _ w).alloc hn₀ _⟩
 have hcl:=HC.out.lt
 have HC0:=Lib.hid (HC.out.call b0)
 have HL0:=Lib.hid (HL.out.call b0)
 rw [hW0]
 clear hW0
 refine wpIn_rangeFunc_ownH (F:=Fence.wide) rfl (by omega) (gf:=140) (lb:=#[.pointer (some ⟨Bn,0,none⟩)]) rfl trivial (enters_of Tryz.func140 (by kernel_rfl) rfl)
  (all_stops Fence.wide (9 - 1) trivial rfl (by omega) Bn n₀ pb mb ns HLOW.out W0 (by omega) HC0.out HL0.out) (fun h k=>h.trans k) (kept_b (by omega) (by omega)) (Below.refl _ _) (fun _=>rfl)
  (fun pre W=>∃ v,SeqInv w n₀ w.heap.size Bn pb pre v W) (fun _ _ _=>False)
  (seq_own _ _ _ _ _ _ hn₀ (by omega)) (fun _ _ _ _ _ hs _ _=>hs)
  ⟨_,hin.out⟩
  (fun x a' W=>∃ Bx,Blk W Bx (ecs x) 36∧a'={ tmps:=#[.slice (some ⟨g,0,none⟩) 0 c,.func (.func 140) #[] #[.pointer (some ⟨Bn,0,none⟩)],.pointer (some ⟨w.heap.size,0,none⟩),undef,.slice none 0 0,.pointer (some ⟨Bx,0,none⟩),.func (.func 140) #[] #[.pointer (some ⟨Bn,0,none⟩)],.agg (ecs x),undef,undef,undef,undef,undef],defers:=[] })
  (fun x a' _ X Y row hs hg hr=>by obtain ⟨Bx,h1,h2⟩:=hs;exact ⟨Bx,h1.kept hg (fun r e=>(hr r e).2),h2⟩)
  ?assign ?body ?done ?stop
 case assign =>
  rintro l pre x W K ⟨v,hi⟩ hK
  gi_wp2
  have hsW:n₀≤W.heap.size:=Nat.le_trans hn₀ hi.below.size
  exact hK _ _ ((KeepsOthers.alloc _ _).from _) ⟨(Below.refl _ W).alloc hsW _,heap_alloc_old _ _ hi.it.lt⟩ ⟨v,hi.box.old _,hi.row.alloc _,hi.it.old _,hi.below.alloc hsW _⟩ ⟨W.heap.size,Blk.new W _ _,rfl⟩
 case body =>
  rintro l pre x a' W hl hr ⟨v,hi⟩ ⟨Bx,bX,rfl⟩ hlt
  have c0:W.cell? ⟨w.heap.size,0,none⟩=some v:=hi.box.cell 0
  have le:(Ld 36 (.pointer (some ⟨Bx,0,none⟩))).run Tryz.prog W = .ok (.agg (ecs x)) W:=run_ldE (w:=W) (bX.range (r:=[]) (by simp))
  have hrow:=hi.row
  have hsW:n₀≤W.heap.size:=Nat.le_trans hn₀ hi.below.size
  have hpl:pre.length < 1000000:=by omega
  gi_wp2_with (gi_at_builtin;refine wpListIn_append_own _ rfl _ _ 37 rfl n₀ 36 i40 (.agg (ecs zeroE)) 20 136 Tryz.underlying37 hi40 hz400 hz401 hz402 zeroE_cells (by decide) _ _ _ rfl (hrow.alloc _) ⟨W.heap.size,0,none⟩ 1 1 (ecs x).toList rfl (ecs_list x) (new_cells W x 36) (ecs_one' x) (by unfold maxLen;omega) (by omega) (by simp;omega) ?_;intro v' w1 hown' hgrow _;obtain ⟨g',cap',rfl⟩:=ownsRow_succ hown';have hst:=hi.step (B0:=W0.heap.size) hn₀ hn₀ (by omega) hown' hgrow;have hc1:w1.cell? ⟨w.heap.size,0,none⟩=some v:=(Blk.cell (Boxed.kept (Boxed.alloc (t:=37) hi.box _) hgrow (Boxed.not_row (t:=37) hi.box (by decide) hi.row)) 0);have hf1:w1.frozen? ⟨w.heap.size,0,none⟩=false:=(Blk.frozen (Boxed.kept (Boxed.alloc (t:=37) hi.box _) hgrow (Boxed.not_row (t:=37) hi.box (by decide) hi.row)) 0))
  exact ⟨hst.1,hst.2.1,_,hst.2.2⟩
 case done =>
  rintro D ys W hD rfl ⟨v,hi⟩ hK
  have c0:W.cell? ⟨w.heap.size,0,none⟩=some v:=hi.box.cell 0
  obtain ⟨v',hi'⟩:=(seq_own w n₀ w.heap.size Bn pb W0.heap.size hn₀ (by omega)).putObj (.deferred none) ⟨v,hi⟩ hD hK rfl
  have hvv:v'=v:=by
   have e1:=hi'.box.cell 0
   have e2:(W.putObj D (.deferred none)).cell? ⟨w.heap.size,0,none⟩=W.cell? ⟨w.heap.size,0,none⟩:=World.cell?_of_block (World.putObj_heap_other (by show w.heap.size ≠ D;omega))
   rw [e2,c0] at e1
   simpa using e1.symm
  subst hvv
  gi_wp2
  refine ⟨by simp,.inl ⟨_,_,rfl,run_takeDeferred hK,?_⟩⟩
  refine ⟨_,results_tmp rfl _ _ _,?_⟩
  exact ⟨_,rfl,hi'.row,hi'.below⟩
 case stop =>
  rintro D c pre W _ _ h _
  exact h.elim
end
end Go.Proofs.YtkadkmnolkkhgaaGreatDoor.Hp

/-
 entries: the list of a ring's properties.
-/
namespace Go.Proofs.YtkadkmnolkkhgaaGreatDoor.Hp
open Go Go.RowKit Go.Maps Go.Shelf Keys
open Des (Vl Ds zeroV zeroD dcs dcs_size dcs_one)
open Arrs (En ecs ecs_0 ecs_1 ecs_10 ecs_size ecs_list ecs_one ecs_one')
attribute [local go_sem ↓] ldE bxE alE stE to_bsE
attribute [local irreducible] ecs ncs hcs
attribute [local go_sem] run_bx run_alE run_stE run_bsE ecs_0 ecs_1
theorem MapIs.length {w:World} {m n:Nat} {f:KV→Option Nat} (h:MapIs w m n f):∃ c:Nat,c≤n∧∀ (w':World) (ty:TypeId),w'.heap[m]? = w.heap[m]?→(Builtin.len_ #[185] ty #[.map (some m)]).run Tryz.prog w' = .ok (.int .i64 c) w':=by
 obtain ⟨D,hd,hf⟩:=h
 refine ⟨Maps.size D,hd.size_le,fun w' ty he=>?_⟩
 have hd':w'.ownsMap Tryz.prog 32 Rp m n D:=by
  obtain ⟨es,c,ho,hr⟩:=hd
  exact ⟨es,c,he.trans ho,hr⟩
 exact hd'.len Tryz.underlying185 ty
set_option maxRecDepth 100000 in
set_option maxHeartbeats 4000000 in
theorem entries_any (pb mb n:Nat) (ns:List Nd) (w:World) (h:Obj1 w pb mb n ns) (hn:n≤1000000) (hlen:ns.length≤1000000):Calls Tryz.prog 57 #[ptr pb] w (SeqPost w w.heap.size (ns.map (·.e))):=by
 obtain ⟨c,hcn,hlenf⟩:=h.map.length
 have hr:=h.ring
 have hlt:=hr.lt
 obtain ⟨W1,hW1⟩:∃ W1,w.alloc (.cells #[.pointer (some ⟨pb,0,none⟩)] 122)=W1:=⟨_,rfl⟩
 obtain ⟨W2,hW2⟩:∃ W2,w.alloc (.cells (mkE c) 36)=W2:=⟨_,rfl⟩
 obtain ⟨W12,hW12⟩:∃ W12,W1.alloc (.cells (mkE c) 36)=W12:=⟨_,rfl⟩
 obtain ⟨W21,hW21⟩:∃ W21,W2.alloc (.cells #[.pointer (some ⟨pb,0,none⟩)] 122)=W21:=⟨_,rfl⟩
 have k1:W1.heap.size=w.heap.size+1:=by rw [← hW1];simp
 have k2:W2.heap.size=w.heap.size+1:=by rw [← hW2];simp
 have b1:Below w.heap.size w W1:=by rw [← hW1];exact (Below.refl _ w).alloc (Nat.le_refl _) _
 have b2:Below w.heap.size w W2:=by rw [← hW2];exact (Below.refl _ w).alloc (Nat.le_refl _) _
 have b12:Below w.heap.size w W12:=by rw [← hW12];exact b1.alloc (by omega) _
 have b21:Below w.heap.size w W21:=by rw [← hW21];exact b2.alloc (by omega) _
 have x1:Blk W1 w.heap.size #[ptr pb] 122:=by rw [← hW1];exact Blk.new w _ _
 have x12:Blk W12 w.heap.size #[ptr pb] 122:=by rw [← hW12];exact x1.old _
 have x21:Blk W21 (w.heap.size+1) #[ptr pb] 122:=by
  have:=Blk.new W2 #[ptr pb] 122
  rw [k2] at this
  rw [← hW21];exact this
 have o2:W2.ownsRow w.heap.size 36 20 (.slice (some ⟨w.heap.size,0,none⟩) 0 c) 0 []:=by rw [← hW2];exact mkE_own w c _ (by omega) (Nat.le_refl _)
 have o21:W21.ownsRow w.heap.size 36 20 (.slice (some ⟨w.heap.size,0,none⟩) 0 c) 0 []:=by rw [← hW21];exact o2.alloc _
 have o12:W12.ownsRow w.heap.size 36 20 (.slice (some ⟨w.heap.size+1,0,none⟩) 0 c) 0 []:=by
  have:=mkE_own W1 c w.heap.size (by omega) (by omega)
  rw [k1] at this
  rw [← hW12];exact this
 have s12:w.heap.size≤W12.heap.size:=b12.size
 have s21:w.heap.size≤W21.heap.size:=b21.size
 have A1:Hid (Calls Tryz.prog 105 #[.slice (some ⟨w.heap.size,0,none⟩) 0 c,.func (.func 140) #[] #[.pointer (some ⟨w.heap.size+1,0,none⟩)]] W21.drew (SeqPost W21.drew w.heap.size (ns.map (·.e)))) :=
  seq_any w.heap.size (w.heap.size+1) pb mb ns w.heap.size c W21.drew hlen hlt s21 x21.drew ((hr.call (b21.mono (Nat.le_refl _))).call (Below.refl _ W21).drew) o21.drew
 have A2:Hid (Calls Tryz.prog 105 #[.slice (some ⟨w.heap.size+1,0,none⟩) 0 c,.func (.func 140) #[] #[.pointer (some ⟨w.heap.size,0,none⟩)]] W12.drew (SeqPost W12.drew w.heap.size (ns.map (·.e)))) :=
  seq_any w.heap.size w.heap.size pb mb ns (w.heap.size+1) c W12.drew hlen hlt s12 x12.drew ((hr.call (b12.mono (Nat.le_refl _))).call (Below.refl _ W12).drew) o12.drew
 have c0:w.cell? ⟨pb,23,none⟩=some (.map (some mb)):=by rw [hr.head.cell,hcs_23]
 have c1:W1.cell? ⟨pb,23,none⟩=some (.map (some mb)):=by rw [(hr.head.call b1).cell,hcs_23]
 have l0:=fun ty=>hlenf w.drew ty rfl
 have l1:=fun ty=>hlenf W1.drew ty (b1.block mb h.map.lt)
 have m0:=run_mkE c (by omega) w.drew
 have m1:=run_mkE c (by omega) W1.drew
 have B12:=Lib.hid b12
 have B21:=Lib.hid b21
 clear hlenf hlt hr h x1 x12 x21 o2 o21 o12 s12 s21 b1 b2 b12 b21
 go_enter Tryz.func57,Tryz.ntmps57
 go_wp2
 go_region_with (first |(go_at_call 106;(with_reducible refine (all_any pb _).mono ?_);rintro e w' ⟨rfl,rfl⟩) |(go_at_call 105;(first |(with_reducible refine A1.out.mono ?_) |(with_reducible refine A2.out.mono ?_));rintro e w' ⟨v,rfl,hown,hbel⟩))
 all_goals go_wp2
 all_goals go_ret
 all_goals refine ⟨_,rfl,hown,?_⟩
 all_goals first |exact B12.out.drew.trans hbel |exact B21.out.drew.trans hbel
end Go.Proofs.YtkadkmnolkkhgaaGreatDoor.Hp

/-
 The heap's functions, as far as they do not look into a ring.
-/
namespace Go.Proofs.YtkadkmnolkkhgaaGreatDoor.Hp
open Go Go.RowKit Go.Maps Go.Shelf Keys
open Des (Vl Ds zeroV zeroD dcs dcs_size dcs_one)
open Arrs (En ecs ecs_0 ecs_1 ecs_10 ecs_size ecs_list ecs_one ecs_one')
attribute [local go_sem ↓] ldE ldT bxT bxO bdO alE alT stE stT
attribute [local irreducible] ecs ncs hcs tcs ocs
attribute [local go_sem] run_bx run_alE run_alT run_bdO tcs_0 tcs_5 tcs_20 tcs_set5 tcs_set20 ocs_24
abbrev hp (room:Int) (objs:Value) (sy:Int):Array Value:=#[.int .i64 room,objs,.int .i64 sy]
theorem new_any (n:Int) (w:World):Calls Tryz.prog 45 #[.int .i64 n] w fun e w'=>e = .returned (.pointer (some ⟨w.heap.size,0,none⟩))∧w'=w.alloc (.cells (hp n nilS 0) 105):=by
 go_enter Tryz.func45,Tryz.ntmps45
 go_wp2
 go_ret
 exact ⟨rfl,rfl⟩
theorem len_any (hb:Nat) (room:Int) (a:Option Addr) (n c:Nat) (sy:Int) (w:World) (h:Blk w hb (hp room (.slice a n c) sy) 105) :
  Calls Tryz.prog 237 #[ptr hb] w fun e w'=>e = .returned (.int .i64 n)∧w'=w:=by
 have c1:w.cell? ⟨hb,1,none⟩=some (.slice a n c):=h.cell 1
 go_enter Tryz.func237,Tryz.ntmps237
 go_wp2
 go_ret
 exact ⟨rfl,rfl⟩
theorem object_none (hb:Nat) (room:Int) (a:Option Addr) (n c:Nat) (sy o:Int) (w:World) (h:Blk w hb (hp room (.slice a n c) sy) 105) (ho:o < 0∨(n:Int)≤o) :
  Calls Tryz.prog 56 #[ptr hb,.int .i64 o] w fun e w'=>e = .returned (.pointer none)∧w'=w:=by
 have c1:w.cell? ⟨hb,1,none⟩=some (.slice a n c):=h.cell 1
 by_cases h0:o < 0
 ·go_enter Tryz.func56,Tryz.ntmps56
  go_wp2
  go_ret
  exact ⟨rfl,rfl⟩
 ·have h1:(n:Int)≤o:=by omega
  have h0':0≤o:=by omega
  clear h0 ho
  go_enter Tryz.func56,Tryz.ntmps56
  go_wp2
  go_ret
  exact ⟨rfl,rfl⟩
theorem object_some (hb rb ob:Nat) (room:Int) (n c o:Nat) (sy:Int) (w:World) (h:Blk w hb (hp room (.slice (some ⟨rb,0,none⟩) n c) sy) 105) (ho:o < n) (hc:w.cell? ⟨rb,o,none⟩=some (ptr ob)) :
  Calls Tryz.prog 56 #[ptr hb,.int .i64 o] w fun e w'=>e = .returned (ptr ob)∧w'=w:=by
 have c1:w.cell? ⟨hb,1,none⟩=some (.slice (some ⟨rb,0,none⟩) n c):=h.cell 1
 have h1:(o:Int) < n:=by omega
 have h2:decide ((n:Int)≤o)=false:=by simp;omega
 have h3:decide ((o:Int) < 0)=false:=by simp
 go_enter Tryz.func56,Tryz.ntmps56
 go_wp2
 go_ret
 exact ⟨rfl,rfl⟩
theorem run_eqS (d:Nat) (a:Option Addr) (n c:Nat) (w:World):(Op.equalIn (d+1) 22 (.slice a n c) (.slice none 0 0)).run Tryz.prog w = .ok a.isNone w:=by
 cases a <;> simp [Op.equalIn,run_underlying Tryz.underlying22]
theorem run_eqlS (a:Option Addr) (n c:Nat) (w:World):(binOp .eql 22 (.slice a n c) (.slice none 0 0)).run Tryz.prog w = .ok (.bool a.isNone) w:=by
 simp only [binOp]
 simp [Op.equal,Op.maxDepth,run_eqS 9999]
end Go.Proofs.YtkadkmnolkkhgaaGreatDoor.Hp

/-
 store: an object is laid into memory.
-/
namespace Go.Proofs.YtkadkmnolkkhgaaGreatDoor.Hp
open Go Go.RowKit Go.Maps Go.Shelf Keys
open Des (Vl Ds zeroV zeroD dcs dcs_size dcs_one)
open Arrs (En ecs ecs_0 ecs_1 ecs_10 ecs_size ecs_list ecs_one ecs_one')
attribute [local go_sem ↓] ldE ldT bxT bxO bdO alE alT stE stT
attribute [local irreducible] ecs ncs hcs tcs ocs
attribute [local go_sem] run_bx run_alE run_alT run_bdO tcs_0 tcs_5 tcs_20 tcs_set5 tcs_set20 ocs_24
def cellsV (l:List Vl):List Value:=l.flatMap fun v=>[.int .i64 v.k,.int .i64 v.n,.string v.s]
def ClonePost (w:World) (vs:List Vl) (y:Ending) (w':World):Prop:=∃ a n c,y = .returned (.slice a n c)∧w'.ownsRow w.heap.size 30 3 (.slice a n c) vs.length (cellsV vs)∧Below w.heap.size w w'
structure ObjAt (w:World) (base ob pb mb n:Nat) (th:Th) (es:List En) (vs:List Vl) (ns:List Nd):Prop where
 blk:Blk w ob (ocs th pb) 124
 props:th.props = .slice none 0 0
 args:∃ a m c,th.args = .slice a m c
 obj:Obj1 w pb mb n ns
 es:ns.map (·.e)=es
 row:w.ownsRow base 30 3 th.args vs.length (cellsV vs)
 low:∀ b ∈ blks pb ns,base≤b
 lowm:base≤mb
 lowo:base≤ob
 chain:Chain ns
def StorePost (w:World) (th:Th) (es:List En) (vs:List Vl) (y:Ending) (w':World):Prop:=∃ ob pb mb ns a m c,y = .returned (ptr ob)∧ObjAt w' w.heap.size ob pb mb es.length { th with props:=.slice none 0 0,args:=.slice a m c } es vs ns∧Below w.heap.size w w'
theorem own_below {base:Nat} {e:TypeId} {size n:Nat} {v:Value} {xs:List Value} {w w':World} (h:w.ownsRow base e size v n xs) (hb:Below w.heap.size w w'):w'.ownsRow base e size v n xs:=by
 refine h.kept (row:=none) ⟨hb.os,hb.tape,hb.output,hb.size,fun k hk _=>hb.block k hk⟩ ?_
 cases v.ownBlock <;> simp
theorem own_set {w:World} {base:Nat} {e t:TypeId} {size n b:Nat} {v:Value} {xs:List Value} {cs:Array Value} (h:w.ownsRow base e size v n xs) (hb:Blk w b cs t) (hte:t ≠ e) (i:Nat) (u:Value):(w.setCell ⟨b,i,none⟩ u).ownsRow base e size v n xs:=by
 refine ownsRow_setCell_other h ?_ u
 rcases h.2 with ⟨rfl,_⟩ |⟨g,cap,cur,rfl,_,hgb,_⟩
 ·simp [Value.ownBlock]
 ·simp only [Value.ownBlock,ne_eq,Option.some.injEq]
  rintro rfl
  have:=(show w.heap[g]? = _ from hb).symm.trans hgb
  simp at this
  exact hte this.2
theorem Obj1.set {w:World} {pb mb n b i:Nat} {ns:List Nd} {cs:Array Value} {t:TypeId} {u:Value} (h:Obj1 w pb mb n ns) (hb:Blk w b cs t) (h1:t ≠ 184) (h2:t ≠ 187):Obj1 (w.setCell ⟨b,i,none⟩ u) pb mb n ns:=by
 refine ⟨h.ring.same fun c hc=>heap_setCell_other w _ c u (fun e=>h.ring.notblk hb h1 h2 (by simp at e;exact e ▸ hc)),h.map.same (heap_setCell_other w _ mb u fun e=>?_)⟩
 obtain ⟨es,c,ho⟩:=h.map.obj
 simp at e
 rw [e,show w.heap[b]? = _ from hb] at ho
 cases ho
set_option maxRecDepth 100000 in
set_option maxHeartbeats 2000000 in
theorem store_any (th:Th) (pa:Option Addr) (pl pc:Nat) (aa:Option Addr) (al ac:Nat) (es:List En) (vs:List Vl) (w:World) (hp:th.props = .slice pa pl pc) (ha:th.args = .slice aa al ac)
  (hcoll:∀ w',Below w.heap.size w w'→Calls Tryz.prog 99 #[.slice pa pl pc] w' (CollPost w' es)) (hcl:∀ w',Below w.heap.size w w'→Calls Tryz.prog 53 #[.slice aa al ac] w' (ClonePost w' vs)) :
  Calls Tryz.prog 46 #[.agg (tcs th)] w (StorePost w th es vs):=by
 obtain ⟨w1,hw1⟩:∃ w1,w.alloc (.cells (tcs th) 39)=w1:=⟨_,rfl⟩
 have k1:w1.heap.size=w.heap.size+1:=by rw [← hw1];simp
 have b1:Below w.heap.size w w1:=by rw [← hw1];exact (Below.refl _ w).alloc (Nat.le_refl _) _
 have x1:Blk w1 w.heap.size (tcs th) 39:=by rw [← hw1];exact Blk.new w _ _
 have c5:w1.cell? ⟨w.heap.size,5,none⟩=some (.slice pa pl pc):=by rw [x1.cell,tcs_5,hp]
 have h1:=hcoll w1 b1
 have HCL:=Lib.hid hcl
 have B1:=Lib.hid b1
 have X1:=Lib.hid x1
 have HP:=Lib.hid hp
 have HA:=Lib.hid ha
 clear hcoll hcl b1 x1 hp ha
 go_enter Tryz.func46,Tryz.ntmps46
 go_wp2_with (go_at_call 99;refine h1.mono ?_;rintro e w2 ⟨pb,mb,ns,rfl,ho,hes,hlow,hmb,hb2,hch⟩;refine Hid.out ?_)
 refine Lib.hid ?_
 have x2:=X1.out.call hb2
 have b2:=B1.out.trans (hb2.mono (by omega))
 have d5:w2.cell? ⟨w.heap.size,5,none⟩=some (.slice pa pl pc):=by rw [x2.cell,tcs_5,HP.out]
 have f5:=x2.frozen 5
 obtain ⟨w3,hw3⟩:∃ w3,w2.setCell ⟨w.heap.size,5,none⟩ (.slice none 0 0)=w3:=⟨_,rfl⟩
 have x3:Blk w3 w.heap.size (tcs { th with props:=.slice none 0 0 }) 39:=by
  have:=x2.set 5 (.slice none 0 0)
  rw [tcs_set5,hw3] at this
  exact this
 have b3:Below w.heap.size w w3:=by rw [← hw3];exact b2.setCell (p:=⟨w.heap.size,5,none⟩) (Nat.le_refl _) _
 have o3:Obj1 w3 pb mb es.length ns:=by rw [← hw3];exact ho.set x2 (by decide) (by decide)
 have c20:w3.cell? ⟨w.heap.size,20,none⟩=some (.slice aa al ac):=by rw [x3.cell,tcs_20];exact congrArg some HA.out
 have h3:=HCL.out w3 b3
 have O3:=Lib.hid o3
 have B3:=Lib.hid b3
 have X3:=Lib.hid x3
 have HES:=Lib.hid hes
 have HLOW:=Lib.hid hlow
 clear c5 h1 hw1 ho hlow hb2 x2 b2 o3 b3 x3 hes
 go_wp2_with (go_at_call 53;refine h3.mono ?_;rintro e w4 ⟨a,m,c,rfl,hrow,hb4⟩;refine Hid.out ?_)
 refine Lib.hid ?_
 have x4:=X3.out.call hb4
 have sz3:=B3.out.size
 have b4:=B3.out.trans (hb4.mono sz3)
 have d20:w4.cell? ⟨w.heap.size,20,none⟩=some (.slice aa al ac):=by rw [x4.cell,tcs_20];exact congrArg some HA.out
 have f20:=x4.frozen 20
 obtain ⟨w5,hw5⟩:∃ w5,w4.setCell ⟨w.heap.size,20,none⟩ (.slice a m c)=w5:=⟨_,rfl⟩
 have x5:Blk w5 w.heap.size (tcs { th with props:=.slice none 0 0,args:=.slice a m c }) 39:=by
  have:=x4.set 20 (.slice a m c)
  rw [tcs_set20,hw5] at this
  exact this
 have b5:Below w.heap.size w w5:=by rw [← hw5];exact b4.setCell (p:=⟨w.heap.size,20,none⟩) (Nat.le_refl _) _
 have o5:Obj1 w5 pb mb es.length ns:=by rw [← hw5];exact (O3.out.call hb4).set x4 (by decide) (by decide)
 have r5:w5.ownsRow w.heap.size 30 3 (.slice a m c) vs.length (cellsV vs):=by rw [← hw5];exact own_set ((hrow.mono sz3)) x4 (by decide) _ _
 have lt:=run_ldT x5
 obtain ⟨th',hth⟩:∃ th',th'=({ th with props:=.slice none 0 0,args:=.slice a m c }:Th):=⟨_,rfl⟩
 rw [← hth] at lt
 have hbd:=run_bdO w5 th' pb
 have O5:=Lib.hid o5
 have B5:=Lib.hid b5
 have R5:=Lib.hid r5
 have HT:=Lib.hid hth
 clear c20 h3 d5 f5 hw3 hrow hb4 x4 b4 o5 b5 x5 r5 hth
 go_wp2
 go_ret
 have sz5:=B5.out.size
 refine ⟨w5.heap.size,pb,mb,ns,a,m,c,rfl,⟨?_,rfl,⟨_,_,_,rfl⟩,O5.out.old _,HES.out,R5.out.alloc _,fun b hb=>?_,?_,sz5,hch⟩,B5.out.alloc sz5 _⟩
 ·have:=Blk.new w5 (ocs th' pb) 124
  rw [← HT.out]
  exact this
 ·have:=HLOW.out b hb
  omega
 ·omega
end Go.Proofs.YtkadkmnolkkhgaaGreatDoor.Hp

/-
 Make.
-/
namespace Go.Proofs.YtkadkmnolkkhgaaGreatDoor.Hp
open Go Go.RowKit Go.Maps Go.Shelf Keys
open Des (Vl Ds zeroV zeroD dcs dcs_size dcs_one)
open Arrs (En ecs ecs_0 ecs_1 ecs_10 ecs_size ecs_list ecs_one ecs_one')
attribute [local go_sem ↓] ldE ldT bxT bxO bdO alE alT stE stT
attribute [local irreducible] ecs ncs hcs tcs ocs
attribute [local go_sem] run_bx run_alE run_alT run_bdO tcs_0 tcs_5 tcs_20 tcs_set5 tcs_set20 ocs_24
theorem make_full (hb:Nat) (room:Int) (a:Option Addr) (n c:Nat) (sy:Int) (th:Th) (w:World) (h:Blk w hb (hp room (.slice a n c) sy) 105) (hr:room≤n) :
  Calls Tryz.prog 17 #[ptr hb,.agg (tcs th)] w fun e w'=>e = .returned (.tuple #[.int .i64 0,.bool false])∧Below w.heap.size w w':=by
 obtain ⟨w1,hw1⟩:∃ w1,w.alloc (.cells (tcs th) 39)=w1:=⟨_,rfl⟩
 have b1:Below w.heap.size w w1:=by rw [← hw1];exact (Below.refl _ w).alloc (Nat.le_refl _) _
 have c0:w1.cell? ⟨hb,0,none⟩=some (.int .i64 room):=(h.call b1).cell 0
 have c1:w1.cell? ⟨hb,1,none⟩=some (.slice a n c):=(h.call b1).cell 1
 have B1:=Lib.hid b1
 clear b1 h
 go_enter Tryz.func17,Tryz.ntmps17
 go_wp2
 go_region
 all_goals go_wp2
 all_goals go_ret2
 all_goals exact ⟨rfl,B1.out.drew⟩
theorem infoO:(Tryz.prog.info? 106).map (fun i=>(i.zero,i.size,i.bytes))=some (some (.pointer none),1,8):=by kernel_rfl
def MakePost (w:World) (base hb:Nat) (room:Int) (k:Nat) (sy:Int) (xs:List Value) (th:Th) (es:List En) (vs:List Vl) (ow:Option Nat) (y:Ending) (w':World):Prop :=
 y = .returned (.tuple #[.int .i64 k,.bool true])∧∃ g c,Blk w' hb (hp room (.slice (some ⟨g,0,none⟩) (k+1) c) sy) 105∧∃ ob pb mb ns a m c',w'.ownsRow base 106 1 (.slice (some ⟨g,0,none⟩) (k+1) c) (k+1) (xs++[ptr ob])∧ObjAt w' w.heap.size ob pb mb es.length { th with props:=.slice none 0 0,args:=.slice a m c' } es vs ns∧Below base w w'∧(∀ b,b < w.heap.size→b ≠ hb→some b ≠ ow→w'.heap[b]? = w.heap[b]?)∧(some g=ow∨w.heap.size≤g)
theorem ObjAt.below {w w':World} {base ob pb mb n:Nat} {th:Th} {es:List En} {vs:List Vl} {ns:List Nd} (h:ObjAt w base ob pb mb n th es vs ns) (hb:Below w.heap.size w w'):ObjAt w' base ob pb mb n th es vs ns :=
 ⟨h.blk.call hb,h.props,h.args,h.obj.call hb,h.es,own_below h.row hb,h.low,h.lowm,h.lowo,h.chain⟩
theorem ObjAt.mono {w:World} {base base' ob pb mb n:Nat} {th:Th} {es:List En} {vs:List Vl} {ns:List Nd} (h:ObjAt w base ob pb mb n th es vs ns) (hb:base'≤base):ObjAt w base' ob pb mb n th es vs ns :=
 ⟨h.blk,h.props,h.args,h.obj,h.es,h.row.mono hb,fun b hm=>Nat.le_trans hb (h.low b hm),Nat.le_trans hb h.lowm,Nat.le_trans hb h.lowo,h.chain⟩
theorem ne_blk {w:World} {b c:Nat} {cs ds:Array Value} {s t:TypeId} (h:Blk w b cs s) (k:Blk w c ds t) (hne:s ≠ t):b ≠ c:=fun e=>by
 subst e
 have e:=Option.some.inj ((show w.heap[b]? = _ from h).symm.trans (show w.heap[b]? = _ from k))
 cases e
 exact hne rfl
theorem own_ne {w:World} {base b:Nat} {e t:TypeId} {size n:Nat} {v:Value} {xs:List Value} {cs:Array Value} (h:w.ownsRow base e size v n xs) (hb:Blk w b cs t) (hte:t ≠ e):v.ownBlock ≠ some b:=by
 rcases h.2 with ⟨rfl,_⟩ |⟨g,cap,cur,rfl,_,hgb,_⟩
 ·simp [Value.ownBlock]
 ·simp only [Value.ownBlock,ne_eq,Option.some.injEq]
  rintro rfl
  have:=(show w.heap[g]? = _ from hb).symm.trans hgb
  simp at this
  exact hte this.2
theorem own_two {w:World} {b1 b2:Nat} {e1 e2:TypeId} {s1 s2 n1 n2:Nat} {v1 v2:Value} {xs1 xs2:List Value} (h1:w.ownsRow b1 e1 s1 v1 n1 xs1) (h2:w.ownsRow b2 e2 s2 v2 n2 xs2) (hne:e1 ≠ e2):v1.ownBlock=none∨v1.ownBlock ≠ v2.ownBlock:=by
 rcases h1.2 with ⟨rfl,_⟩ |⟨g,cap,cur,rfl,_,hgb,_⟩
 ·exact .inl rfl
 ·rcases h2.2 with ⟨rfl,_⟩ |⟨g2,cap2,cur2,rfl,_,hgb2,_⟩
  ·right;simp [Value.ownBlock]
  ·right
   simp only [Value.ownBlock,ne_eq,Option.some.injEq]
   rintro rfl
   rw [hgb] at hgb2
   simp at hgb2
   exact hne hgb2.2
theorem ObjAt.grown {w w':World} {base base2 ob pb mb n k:Nat} {th:Th} {es:List En} {vs:List Vl} {ns:List Nd} {v:Value} {xs:List Value} (h:ObjAt w base ob pb mb n th es vs ns) (hrow:w.ownsRow base2 106 1 v k xs) (hg:w.grownBy w' v.ownBlock):ObjAt w' base ob pb mb n th es vs ns:=by
 have hn:∀ {b:Nat} {cs:Array Value} {t:TypeId},Blk w b cs t→t ≠ 106→w'.heap[b]? = w.heap[b]?:=fun hb ht=>hg.block _ hb.lt (fun e=>own_ne hrow hb ht e.symm)
 refine ⟨(hn h.blk (by decide)).trans h.blk,h.props,h.args,⟨h.obj.ring.same fun b hb=>?_,h.obj.map.same (hg.block mb h.obj.map.lt fun e=>?_)⟩,h.es,h.row.kept hg (own_two h.row hrow (by decide)),h.low,h.lowm,h.lowo,h.chain⟩
 ·obtain ⟨cs,t,hbl,ht⟩:=h.obj.ring.cells b hb
  exact hn hbl (by rcases ht with rfl |rfl <;> decide)
 ·obtain ⟨es',c,ho⟩:=h.obj.map.obj
  rcases hrow.2 with ⟨rfl,_⟩ |⟨g,cap,cur,rfl,_,hgb,_⟩
  ·simp [Value.ownBlock] at e
  ·simp [Value.ownBlock] at e
   rw [e,hgb] at ho
   cases ho
theorem ObjAt.set {w:World} {base ob pb mb n b i:Nat} {th:Th} {es:List En} {vs:List Vl} {ns:List Nd} {cs:Array Value} {u:Value} (h:ObjAt w base ob pb mb n th es vs ns) (hb:Blk w b cs 105):ObjAt (w.setCell ⟨b,i,none⟩ u) base ob pb mb n th es vs ns :=
 ⟨h.blk.other ⟨b,i,none⟩ u (ne_blk h.blk hb (by decide)),h.props,h.args,h.obj.set hb (by decide) (by decide),h.es,own_set h.row hb (by decide) i u,h.low,h.lowm,h.lowo,h.chain⟩
theorem cell_one (w:World) (v:Value) (t:TypeId):∀ j u,[v][j]? = some u→(w.alloc (.cells #[v] t)).cell? ((⟨w.heap.size,0,none⟩:Addr).add j)=some u:=fun j u hj=>by
 cases j with
 | zero=>simp at hj;subst hj;simp [Addr.add]
 | succ j=>simp at hj
theorem make_end {w w2 w4:World} {base hb k:Nat} {room sy:Int} {a:Option Addr} {c g' c' m2 cc:Nat} {a2:Option Addr} {xs:List Value} {th:Th} {es:List En} {vs:List Vl} {ob pb mb:Nat} {ns:List Nd}
  (hblk:Blk w hb (hp room (.slice a k c) sy) 105) (hbase:base≤hb) (hrow:w.ownsRow base 106 1 (.slice a k c) k xs) (hb2:Below w.heap.size w w2) (hoa:ObjAt w2 w.heap.size ob pb mb es.length { th with props:=.slice none 0 0,args:=.slice a2 m2 cc } es vs ns)
  (hown:w4.ownsRow base 106 1 (.slice (some ⟨g',0,none⟩) (k+1) c') (k+1) (xs++[ptr ob])) (hg:(w2.alloc (.cells #[ptr ob] 106)).grownBy w4 (Value.slice a k c).ownBlock) (hgo:some g'=(Value.slice a k c).ownBlock∨w.heap.size≤g') :
  MakePost w base hb room k sy xs th es vs (Value.slice a k c).ownBlock (.returned (.tuple #[.int .i64 k,.bool true])) (w4.setCell ⟨hb,1,none⟩ (.slice (some ⟨g',0,none⟩) (k+1) c')):=by
 have bk2:=(hblk.call hb2).old (.cells #[ptr ob] 106)
 have r2:=(own_below hrow hb2).alloc (.cells #[ptr ob] 106)
 have bk4:Blk w4 hb (hp room (.slice a k c) sy) 105:=bk2.grown hg (own_ne r2 bk2 (by decide)).symm
 have o4:=(hoa.below ((Below.refl _ w2).alloc (Nat.le_refl _) (.cells #[ptr ob] 106))).grown r2 hg
 have hs:base≤w.heap.size:=Nat.le_trans hbase (Nat.le_of_lt hblk.lt)
 have bel4:Below base w w4:=((hb2.mono hs).alloc (Nat.le_trans hs hb2.size) _).grown hg (by have:=hb2.size;simp;omega) (fun k' hk=>(hrow.lt k' hk).1)
 exact ⟨rfl,g',c',bk4.set 1 _,ob,pb,mb,ns,a2,m2,cc,own_set hown bk4 (by decide) _ _,o4.set bk4,bel4.setCell (p:=⟨hb,1,none⟩) hbase _,fun b hb1 hb3 hb4=>(heap_setCell_other w4 ⟨hb,1,none⟩ b _ hb3).trans ((hg.block b (by have:=hb2.size;simp;omega) hb4).trans ((heap_alloc_old _ _ (by have:=hb2.size;omega)).trans (hb2.block b hb1))),hgo⟩
theorem MakePost.undrew {w:World} {base hb k:Nat} {room sy:Int} {xs:List Value} {th:Th} {es:List En} {vs:List Vl} {ow:Option Nat} {y:Ending} {w' w1:World} (h:MakePost w1 base hb room k sy xs th es vs ow y w') (hb1:Below w.heap.size w w1) (hs:base≤w.heap.size):MakePost w base hb room k sy xs th es vs ow y w':=by
 obtain ⟨h1,g,c,h2,ob,pb,mb,ns,a,m,c',h3,h4,h5,h6,h7⟩:=h
 exact ⟨h1,g,c,h2,ob,pb,mb,ns,a,m,c',h3,h4.mono hb1.size,(hb1.mono hs).trans h5,fun b q1 q2 q3=>(h6 b (by have:=hb1.size;omega) q2 q3).trans (hb1.block b q1),h7.imp id fun h=>Nat.le_trans hb1.size h⟩
theorem step_app {P:Program} {ops:Array Oper} {o:Oper} {a:Act} {w w':World} {K:Act→World→Prop} {Q:Exit→Act→World→Prop} {E:Prop} (hg:o.guard=none) (s x:Operand) (t:TypeId) (hop:o.op=Op.call { callee:=Callee.builtin Builtin.append,args:=#[s,x],argTypes:=#[t,t] }) (ht:o.type=t)
  (v1 v2 v':Value) (hs:a.eval s=v1) (hx:a.eval x=v2) (hrun:(Builtin.append_ #[t,t] t #[v1,v2]).run P w = .ok v' w') (hK:K (a.put o.dst v') w'):if Region.wanted o (yielded ops a.tmps)=true then Oper.wp P o a w K Q else E:=by
 have hw:Region.wanted o (yielded ops a.tmps)=true:=by simp [Region.wanted,hg]
 rw [if_pos hw]
 subst ht
 unfold Oper.wp
 simp [execOp,hop,resolve,invoke,builtin,hs,hx,hrun,Result.andThen]
 exact hK
theorem make_app {W w2:World} {base hb k c:Nat} {room sy:Int} {a:Option Addr} {xs:List Value} (hblk:Blk W hb (hp room (.slice a k c) sy) 105) (hrow:W.ownsRow base 106 1 (.slice a k c) k xs) (hb2:Below W.heap.size W w2) (hk:k≤1000000) (hbase:base≤hb) (ob:Nat) :
  ∃ g' c' w4,(Builtin.append_ #[103,103] 103 #[.slice a k c,.slice (some ⟨w2.heap.size,0,none⟩) 1 1]).run Tryz.prog (w2.alloc (.cells #[.pointer (some ⟨ob,0,none⟩)] 106)) = .ok (.slice (some ⟨g',0,none⟩) (k+1) c') w4 ∧
   w4.ownsRow base 106 1 (.slice (some ⟨g',0,none⟩) (k+1) c') (k+1) (xs++[ptr ob])∧(w2.alloc (.cells #[ptr ob] 106)).grownBy w4 (Value.slice a k c).ownBlock∧w4.cell? ⟨hb,1,none⟩=some (.slice a k c)∧w4.frozen? ⟨hb,1,none⟩=false∧(some g'=(Value.slice a k c).ownBlock∨W.heap.size≤g'):=by
 obtain ⟨i50,hi50,hz500,hz501,hz502⟩:=info_parts infoO
 have hbl2:=hblk.call hb2
 have hlt:=hbl2.lt
 have hr2:=(own_below hrow hb2).alloc (.cells #[ptr ob] 106)
 obtain ⟨v',w4,hrun,hown4,hgrow4,_,hgo⟩:=run_append_own_at (P:=Tryz.prog) (w2.alloc (.cells #[ptr ob] 106)) base 103 103 106 i50 (.pointer none) 1 8 Tryz.underlying103 hi50 hz500 hz501 hz502 rfl (by decide) (.slice a k c) k xs hr2 ⟨w2.heap.size,0,none⟩ 1 1 [ptr ob] rfl (cell_one w2 (ptr ob) 106) (by simp [Value.oneCell']) (by unfold maxLen;omega) (by omega) (by simp;omega)
 obtain ⟨g',c',rfl⟩:=ownsRow_succ hown4
 have hgo':some g'=(Value.slice a k c).ownBlock∨W.heap.size≤g':=by
  rcases hgo with hgo |hgo
  ·exact .inl hgo
  ·right
   have hgo2:g'=(w2.alloc (.cells #[ptr ob] 106)).heap.size:=by simpa [Value.ownBlock] using hgo
   rw [hgo2]
   have:=hb2.size
   simp
   omega
 have hb4:Blk w4 hb (hp room (.slice a k c) sy) 105:=(hbl2.old _).grown hgrow4 (own_ne hr2 (hbl2.old _) (by decide)).symm
 exact ⟨g',c',w4,hrun,hown4,hgrow4,hb4.cell 1,hb4.frozen 1,hgo'⟩
set_option maxRecDepth 100000 in
set_option maxHeartbeats 2000000 in
theorem make_any (base hb:Nat) (room:Int) (a:Option Addr) (k c:Nat) (sy:Int) (xs:List Value) (th:Th) (es:List En) (vs:List Vl) (w:World) (hblk:Blk w hb (hp room (.slice a k c) sy) 105) (hbase:base≤hb) (hrow:w.ownsRow base 106 1 (.slice a k c) k xs) (hk:k≤1000000) (hr:(k:Int) < room)
  (hst:∀ w',Below w.heap.size w w'→Calls Tryz.prog 46 #[.agg (tcs th)] w' (StorePost w' th es vs)) :
  Calls Tryz.prog 17 #[ptr hb,.agg (tcs th)] w (MakePost w base hb room k sy xs th es vs (Value.slice a k c).ownBlock):=by
 obtain ⟨w1,hw1⟩:∃ w1,w.alloc (.cells (tcs th) 39)=w1:=⟨_,rfl⟩
 have b1:Below w.heap.size w w1:=by rw [← hw1];exact (Below.refl _ w).alloc (Nat.le_refl _) _
 have k1:w1.heap.size=w.heap.size+1:=by rw [← hw1];simp
 have x1:Blk w1 w.heap.size (tcs th) 39:=by rw [← hw1];exact Blk.new w _ _
 have hk1:=hblk.call b1
 have hrow1:=own_below hrow b1
 have c0:w1.cell? ⟨hb,0,none⟩=some (.int .i64 room):=hk1.cell 0
 have c1:w1.cell? ⟨hb,1,none⟩=some (.slice a k c):=hk1.cell 1
 have lt:=run_ldT x1.drew.drew
 have h1:=hst w1.drew.drew b1.drew.drew
 have HK1:Hid (Blk w1.drew.drew hb (hp room (.slice a k c) sy) 105):=hk1
 have HR1:Hid (w1.drew.drew.ownsRow base 106 1 (.slice a k c) k xs):=hrow1
 have B1:Hid (Below w.heap.size w w1.drew.drew):=b1.drew.drew
 have hs:base≤w.heap.size:=Nat.le_trans hbase (Nat.le_of_lt hblk.lt)
 have HS:=Lib.hid hs
 have hge:decide (room≤(k:Int))=false:=by simp;omega
 have hlen:wrap64 ((k:Int)+1 - 1)=k:=by unfold wrap64;omega
 have HKK:=Lib.hid hk
 clear b1 x1 hk1 hrow1 hblk hrow hst hs
 go_enter Tryz.func17,Tryz.ntmps17
 go_wp2
 go_region
 all_goals go_wp2
 go_region_law (first |(go_simp;go_at_call 46;refine h1.mono ?_;rintro e w2 ⟨ob,pb,mb,ns,a2,m2,cc,rfl,hoa,hb2⟩;have d1:w2.cell? ⟨hb,1,none⟩=some (.slice a k c):=(HK1.out.call hb2).cell 1;have d2:(w2.alloc (.cells #[.pointer (some ⟨ob,0,none⟩)] 106)).cell? ⟨hb,1,none⟩=some (.slice a k c):=((HK1.out.call hb2).old _).cell 1;obtain ⟨g',c',w4,hrun,hown4,hgrow4,e1,e2,hgo⟩:=make_app HK1.out HR1.out hb2 HKK.out hbase ob;have hend:=Lib.hid (make_end HK1.out hbase HR1.out hb2 hoa hown4 hgrow4 hgo);clear hown4 hgrow4 hoa hb2;dsimp only) |(refine step_app rfl (.tmp 20) (.tmp 23) 103 rfl rfl _ _ _ (by simp [Act.eval,Act.put]) (by simp [Act.eval,Act.put]) hrun ?_))
 all_goals go_wp2
 all_goals go_ret2
 all_goals exact hend.out.undrew B1.out HS.out
end Go.Proofs.YtkadkmnolkkhgaaGreatDoor.Hp
