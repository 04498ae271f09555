/-
 Texts of this seat in build order: HpMem, DeSmall, DeMid, DeRepl, DeIn.
-/
import Derived.Test.YtkadkmnolkkhgaaGreatDoorMb02
import Derived.Test.YtkadkmnolkkhgaaGreatDoorMb04
import Derived.Laws.Tables
import Derived.Laws.Rows
import Derived.Laws.Cells
import Derived.Laws.StructEq
import Derived.Laws.ResultCell
import Derived.Laws.OwnMore
import Derived.Deep.MidRow
import Derived.Great.BuildSlice
import Derived.Maps.AppendAt
import Derived.OwnWalk
import Derived.Maps.OwnSet
import Derived.KernelRfl
import Derived.WalkArith
import Derived.Lib.Hide
import Derived.WalkKit
import Derived.Deep.CutRange
import Derived.Deep.DeepCutAuto
import Derived.BigRegion
import Derived.BigQuiet
/-
 Objects and properties in memory: their shapes, a whole one read, laid, boxed and built.
-/
set_option linter.unusedVariables false
set_option linter.unusedSimpArgs false
namespace Go.Proofs.YtkadkmnolkkhgaaGreatDoor.Hp
open Go Go.RowKit Go.Maps Keys
open Des (Vl Ds zeroV zeroD dcs dcs_size dcs_one)
open Arrs (En ecs ecs_0 ecs_1 ecs_10 ecs_size ecs_list ecs_one ecs_one')
structure Th where
 kind:Int
 proto:Vl
 ext:Bool
 props:Value
 code:Int
 n:Int
 v:Vl
 tg:Vl
 hd:Vl
 ths:Vl
 args:Value
 calls:Bool
 makes:Bool
 env:Int
def zeroE:En:=⟨⟨#[]⟩,0,zeroD⟩
abbrev nilS:Value:=.slice none 0 0
def zeroT:Th:=⟨0,zeroV,false,nilS,0,0,zeroV,zeroV,zeroV,zeroV,nilS,false,false,0⟩
def ekey (e:En):KV:=(e.ks,e.kn)
def tcs (t:Th):Array Value:=#[.int .i64 t.kind,.int .i64 t.proto.k,.int .i64 t.proto.n,.string t.proto.s,.bool t.ext,t.props,.int .i64 t.code,.int .i64 t.n,.int .i64 t.v.k,.int .i64 t.v.n,.string t.v.s,.int .i64 t.tg.k,.int .i64 t.tg.n,.string t.tg.s,.int .i64 t.hd.k,.int .i64 t.hd.n,.string t.hd.s,.int .i64 t.ths.k,.int .i64 t.ths.n,.string t.ths.s,t.args,.bool t.calls,.bool t.makes,.int .i64 t.env]
abbrev ptr (b:Nat):Value:=.pointer (some ⟨b,0,none⟩)
abbrev nilP:Value:=.pointer none
def ocs (t:Th) (pb:Nat):Array Value:=#[.int .i64 t.kind,.int .i64 t.proto.k,.int .i64 t.proto.n,.string t.proto.s,.bool t.ext,t.props,.int .i64 t.code,.int .i64 t.n,.int .i64 t.v.k,.int .i64 t.v.n,.string t.v.s,.int .i64 t.tg.k,.int .i64 t.tg.n,.string t.tg.s,.int .i64 t.hd.k,.int .i64 t.hd.n,.string t.hd.s,.int .i64 t.ths.k,.int .i64 t.ths.n,.string t.ths.s,t.args,.bool t.calls,.bool t.makes,.int .i64 t.env,ptr pb]
def ncs (e:En) (p q:Value) (a:Value):Array Value:=#[.string e.ks,.int .i64 e.kn,.bool e.d.hv,.bool e.d.hg,.bool e.d.hs,.bool e.d.hw,.bool e.d.he,.bool e.d.hc,.int .i64 e.d.v.k,.int .i64 e.d.v.n,.string e.d.v.s,.int .i64 e.d.g.k,.int .i64 e.d.g.n,.string e.d.g.s,.int .i64 e.d.s.k,.int .i64 e.d.s.n,.string e.d.s.s,.bool e.d.w,.bool e.d.e,.bool e.d.c,p,q,a]
def hcs (p q:Value) (m:Nat):Array Value:=#[.string ⟨#[]⟩,.int .i64 0,.bool false,.bool false,.bool false,.bool false,.bool false,.bool false,.int .i64 0,.int .i64 0,.string ⟨#[]⟩,.int .i64 0,.int .i64 0,.string ⟨#[]⟩,.int .i64 0,.int .i64 0,.string ⟨#[]⟩,.bool false,.bool false,.bool false,p,q,nilP,.map (some m)]
theorem tcs_size (t:Th):(tcs t).size=24:=rfl
theorem ocs_size (t:Th) (pb:Nat):(ocs t pb).size=25:=rfl
def Th.ok (t:Th):Prop:=(∃ a n c,t.props = .slice a n c)∧∃ a n c,t.args = .slice a n c
theorem tcs_one {t:Th} (h:t.ok):(tcs t).all (·.oneCell')=true:=by
 obtain ⟨⟨a,n,c,h1⟩,⟨a',n',c',h2⟩⟩:=h
 unfold tcs
 rw [h1,h2]
 simp [Value.oneCell']
theorem zeroT_ok:zeroT.ok:=⟨⟨_,_,_,rfl⟩,⟨_,_,_,rfl⟩⟩
theorem tcs_0 (t:Th):(tcs t)[0]? = some (.int .i64 t.kind):=rfl
theorem tcs_5 (t:Th):(tcs t)[5]? = some t.props:=rfl
theorem tcs_20 (t:Th):(tcs t)[20]? = some t.args:=rfl
theorem tcs_set5 (t:Th) (v:Value):(tcs t).setIfInBounds 5 v=tcs { t with props:=v }:=rfl
theorem tcs_set20 (t:Th) (v:Value):(tcs t).setIfInBounds 20 v=tcs { t with args:=v }:=rfl
theorem ocs_24 (t:Th) (pb:Nat):(ocs t pb)[24]? = some (ptr pb):=rfl
theorem ocs_tcs (t:Th) (pb:Nat):(ocs t pb).toList=(tcs t).toList++[ptr pb]:=rfl
theorem ncs_20 (e:En) (p q a:Value):(ncs e p q a)[20]? = some p:=rfl
theorem ncs_21 (e:En) (p q a:Value):(ncs e p q a)[21]? = some q:=rfl
theorem ncs_22 (e:En) (p q a:Value):(ncs e p q a)[22]? = some a:=rfl
theorem ncs_set20 (e:En) (p q a v:Value):(ncs e p q a).setIfInBounds 20 v=ncs e v q a:=rfl
theorem ncs_set21 (e:En) (p q a v:Value):(ncs e p q a).setIfInBounds 21 v=ncs e p v a:=rfl
theorem ncs_ecs (e:En) (p q a:Value):(ncs e p q a).toList=(ecs e).toList++[p,q,a]:=rfl
theorem ncs_size (e:En) (p q a:Value):(ncs e p q a).size=23:=rfl
theorem hcs_20 (p q:Value) (m:Nat):(hcs p q m)[20]? = some p:=rfl
theorem hcs_21 (p q:Value) (m:Nat):(hcs p q m)[21]? = some q:=rfl
theorem hcs_23 (p q:Value) (m:Nat):(hcs p q m)[23]? = some (.map (some m)):=rfl
theorem hcs_set20 (p q v:Value) (m:Nat):(hcs p q m).setIfInBounds 20 v=hcs v q m:=rfl
theorem hcs_set21 (p q v:Value) (m:Nat):(hcs p q m).setIfInBounds 21 v=hcs p v m:=rfl
def Blk (w:World) (b:Nat) (cs:Array Value) (t:TypeId):Prop:=w.heap[b]? = some (.cells cs t (0,0))
theorem Blk.lt {w:World} {b:Nat} {cs:Array Value} {t:TypeId} (h:Blk w b cs t):b < w.heap.size:=(Array.getElem?_eq_some_iff.1 h).1
theorem Blk.cell {w:World} {b:Nat} {cs:Array Value} {t:TypeId} (h:Blk w b cs t) (i:Nat):w.cell? ⟨b,i,none⟩=cs[i]?:=cell_of_row w b i cs t (0,0) h
theorem Blk.frozen {w:World} {b:Nat} {cs:Array Value} {t:TypeId} (h:Blk w b cs t) (i:Nat):w.frozen? ⟨b,i,none⟩=false:=frozen_of_row w b i cs t h
theorem Blk.new (w:World) (cs:Array Value) (t:TypeId):Blk (w.alloc (.cells cs t)) w.heap.size cs t:=heap_alloc_new w _
theorem Blk.old {w:World} {b:Nat} {cs:Array Value} {t:TypeId} (h:Blk w b cs t) (o:Obj):Blk (w.alloc o) b cs t:=(heap_alloc_old w o h.lt).trans h
theorem Blk.drew {w:World} {b:Nat} {cs:Array Value} {t:TypeId} (h:Blk w b cs t):Blk w.drew b cs t:=h
theorem Blk.set {w:World} {b:Nat} {cs:Array Value} {t:TypeId} (h:Blk w b cs t) (i:Nat) (v:Value):Blk (w.setCell ⟨b,i,none⟩ v) b (cs.setIfInBounds i v) t:=heap_setCell_same w b i cs t v h
theorem Blk.other {w:World} {b:Nat} {cs:Array Value} {t:TypeId} (h:Blk w b cs t) (a:Addr) (v:Value) (hne:b ≠ a.block):Blk (w.setCell a v) b cs t:=(heap_setCell_other w a b v hne).trans h
theorem Blk.below {w w':World} {B b:Nat} {cs:Array Value} {t:TypeId} (h:Blk w b cs t) (hb:Below B w w') (hlt:b < B):Blk w' b cs t:=(hb.block b hlt).trans h
theorem Blk.call {w w':World} {b:Nat} {cs:Array Value} {t:TypeId} (h:Blk w b cs t) (hb:Below w.heap.size w w'):Blk w' b cs t:=h.below hb h.lt
theorem Blk.grown {w w':World} {b:Nat} {cs:Array Value} {t:TypeId} {row:Option Nat} (h:Blk w b cs t) (hg:w.grownBy w' row) (hne:some b ≠ row):Blk w' b cs t:=(hg.block b h.lt hne).trans h
def Ld (T:TypeId) (v:Value):Sem Value:=Instr.loadAt T v
def St (T:TypeId) (p v:Value):Sem Unit:=Instr.storeAt T p v
def Al (T:TypeId):Sem Value:=Instr.alloc T true (.tuple #[])
def Bx (T:TypeId) (v:Value):Sem Value:=Instr.box T v
def Bd (T:TypeId) (ps:Array (Nat × Value)):Sem Value:=Instr.build T ps
theorem ldE (v:Value):Instr.loadAt 36 v=Ld 36 v:=(rfl)
theorem ldT (v:Value):Instr.loadAt 39 v=Ld 39 v:=(rfl)
theorem ldD (v:Value):Instr.loadAt 34 v=Ld 34 v:=(rfl)
theorem stE (p v:Value):Instr.storeAt 36 p v=St 36 p v:=(rfl)
theorem stT (p v:Value):Instr.storeAt 39 p v=St 39 p v:=(rfl)
theorem stD (p v:Value):Instr.storeAt 34 p v=St 34 p v:=(rfl)
theorem alE:Instr.alloc 36 true (.tuple #[])=Al 36:=(rfl)
theorem alT:Instr.alloc 39 true (.tuple #[])=Al 39:=(rfl)
theorem alD:Instr.alloc 34 true (.tuple #[])=Al 34:=(rfl)
theorem bxE (v:Value):Instr.box 36 v=Bx 36 v:=(rfl)
theorem bxT (v:Value):Instr.box 39 v=Bx 39 v:=(rfl)
theorem bxO (v:Value):Instr.box 124 v=Bx 124 v:=(rfl)
theorem bxN (v:Value):Instr.box 184 v=Bx 184 v:=(rfl)
theorem bxH (v:Value):Instr.box 187 v=Bx 187 v:=(rfl)
theorem bdT (ps:Array (Nat × Value)):Instr.build 39 ps=Bd 39 ps:=(rfl)
theorem bdO (ps:Array (Nat × Value)):Instr.build 124 ps=Bd 124 ps:=(rfl)
theorem bdN (ps:Array (Nat × Value)):Instr.build 184 ps=Bd 184 ps:=(rfl)
theorem bdH (ps:Array (Nat × Value)):Instr.build 187 ps=Bd 187 ps:=(rfl)
theorem infoE:(Tryz.prog.info? 36).map (fun i=>(i.zero,i.size,i.bytes))=some (some (.agg (ecs zeroE)),20,136):=by kernel_rfl
theorem infoT:(Tryz.prog.info? 39).map (fun i=>(i.zero,i.size))=some (some (.agg (tcs zeroT)),24):=by kernel_rfl
theorem infoD:(Tryz.prog.info? 34).map (fun i=>(i.zero,i.size))=some (some (.agg (dcs zeroD)),18):=by kernel_rfl
theorem sizeE:(Tryz.prog.info? 36).map (·.size)=some 20:=by kernel_rfl
theorem sizeT:(Tryz.prog.info? 39).map (·.size)=some 24:=by kernel_rfl
theorem sizeD:(Tryz.prog.info? 34).map (·.size)=some 18:=by kernel_rfl
theorem run_bx (T:TypeId) (cs:Array Value) (w:World):(Bx T (.agg cs)).run Tryz.prog w = .ok (ptr w.heap.size) (w.alloc (.cells cs T)):=by
 unfold Bx
 simp [Instr.box,newVar,newRow,Value.cells,go_sem,ptr]
theorem run_al {T:TypeId} {z:Value} {n:Nat} (hi:(Tryz.prog.info? T).map (fun i=>(i.zero,i.size))=some (some z,n)) (w:World):(Al T).run Tryz.prog w = .ok (ptr w.heap.size) (w.alloc (.cells z.cells T)):=by
 cases hq:Tryz.prog.info? T with
 | none=>rw [hq] at hi;cases hi
 | some i =>
  rw [hq] at hi
  simp at hi
  unfold Al
  simp [Instr.alloc,zeroValue,typeInfo,hq,hi.1,newVar,newRow,go_sem,ptr]
theorem run_alE (w:World):(Al 36).run Tryz.prog w = .ok (ptr w.heap.size) (w.alloc (.cells (ecs zeroE) 36)):=run_al (z:=.agg (ecs zeroE)) (n:=20) (by kernel_rfl) w
theorem run_alT (w:World):(Al 39).run Tryz.prog w = .ok (ptr w.heap.size) (w.alloc (.cells (tcs zeroT) 39)):=run_al infoT w
theorem run_alD (w:World):(Al 34).run Tryz.prog w = .ok (ptr w.heap.size) (w.alloc (.cells (dcs zeroD) 34)):=run_al infoD w
def enAt (w:World) (b o:Nat) (e:En):Prop:=w.rangeAt b o (ecs e).toList
theorem run_ldE {w:World} {b o:Nat} {e:En} (h:enAt w b o e):(Ld 36 (.pointer (some ⟨b,o,none⟩))).run Tryz.prog w = .ok (.agg (ecs e)) w:=by
 have:=run_loadAt_mid (P:=Tryz.prog) w b o 36 (ecs e).toList _ h Tryz.underlying36 rfl sizeE
 simpa [Ld] using this
theorem Blk.range {w:World} {b:Nat} {cs:Array Value} {t:TypeId} (h:Blk w b cs t) {l r:List Value} (e:cs.toList=l++r):w.rangeAt b 0 l:=fun j v hv=>by
 have hj:j < l.length:=(List.getElem?_eq_some_iff.1 hv).1
 rw [Nat.zero_add,h.cell,← Array.getElem?_toList,e,List.getElem?_append_left hj]
 exact hv
theorem run_ldR {w:World} {b:Nat} {t:Th} (h:w.rangeAt b 0 (tcs t).toList):(Ld 39 (.pointer (some ⟨b,0,none⟩))).run Tryz.prog w = .ok (.agg (tcs t)) w:=by
 have:=run_loadAt_mid (P:=Tryz.prog) w b 0 39 _ _ h Tryz.underlying39 rfl sizeT
 simpa [Ld] using this
theorem run_ldT {w:World} {b:Nat} {t:Th} {T:TypeId} (h:Blk w b (tcs t) T):(Ld 39 (.pointer (some ⟨b,0,none⟩))).run Tryz.prog w = .ok (.agg (tcs t)) w:=run_ldR (h.range (r:=[]) (by simp))
theorem run_ldO {w:World} {b:Nat} {t:Th} {pb:Nat} {T:TypeId} (h:Blk w b (ocs t pb) T):(Ld 39 (.pointer (some ⟨b,0,none⟩))).run Tryz.prog w = .ok (.agg (tcs t)) w:=run_ldR (h.range (ocs_tcs t pb))
theorem setRow_new (w:World) (c cs:Array Value) (t:TypeId):(w.alloc (.cells c t)).setRow w.heap.size cs=w.alloc (.cells cs t):=by
 unfold World.setRow World.alloc
 simp only
 congr 1
 apply Array.ext_getElem?
 intro i
 rw [Array.getElem?_modify]
 by_cases h:w.heap.size=i
 ·subst h
  simp
 ·have h':¬ i=w.heap.size:=fun e=>h e.symm
  simp [h,h',Array.getElem?_push]
theorem run_st_row {w:World} {b:Nat} {T t:TypeId} {old cs:Array Value} (h:Blk w b old t) (hi:(Tryz.prog.info? T).map (·.size)=some cs.size) (hs:old.size=cs.size) (h1:cs.all (·.oneCell')=true):(St T (.pointer (some ⟨b,0,none⟩)) (.agg cs)).run Tryz.prog w = .ok () (w.setRow b cs):=by
 have h:=run_storeVar_row (P:=Tryz.prog) w b t T old cs h hi hs h1
 unfold St
 simp only [Instr.storeAt,Instr.sureAddr,Sem.run_bind,Sem.run_pure,Result.andThen_ok,h]
theorem run_stE (w:World) (e o:En):(St 36 (.pointer (some ⟨w.heap.size,0,none⟩)) (.agg (ecs e))).run Tryz.prog (w.alloc (.cells (ecs o) 36)) = .ok () (w.alloc (.cells (ecs e) 36)):=by
 rw [run_st_row (Blk.new w (ecs o) _) (by rw [ecs_size];exact sizeE) (by rw [ecs_size,ecs_size]) (ecs_one e),setRow_new]
theorem run_stT (w:World) (e o:Th) (h:e.ok):(St 39 (.pointer (some ⟨w.heap.size,0,none⟩)) (.agg (tcs e))).run Tryz.prog (w.alloc (.cells (tcs o) 39)) = .ok () (w.alloc (.cells (tcs e) 39)):=by
 rw [run_st_row (Blk.new w (tcs o) _) (by rw [tcs_size];exact sizeT) (by rw [tcs_size,tcs_size]) (tcs_one h),setRow_new]
theorem run_stD (w:World) (e o:Ds):(St 34 (.pointer (some ⟨w.heap.size,0,none⟩)) (.agg (dcs e))).run Tryz.prog (w.alloc (.cells (dcs o) 34)) = .ok () (w.alloc (.cells (dcs e) 34)):=by
 rw [run_st_row (Blk.new w (dcs o) _) (by rw [dcs_size];exact sizeD) (by rw [dcs_size,dcs_size]) (dcs_one e),setRow_new]
theorem Blk.row {w:World} {b:Nat} {old:Array Value} {t:TypeId} (h:Blk w b old t) (cs:Array Value):Blk (w.setRow b cs) b cs t:=setRow_heap w b old cs t _ h
theorem Blk.row_other {w:World} {b c:Nat} {old:Array Value} {t:TypeId} (h:Blk w b old t) (cs:Array Value) (hne:b ≠ c):Blk (w.setRow c cs) b old t:=(setRow_other w c b cs hne).trans h
theorem enAt_new (w:World) (e:En) (t:TypeId):enAt (w.alloc (.cells (ecs e) t)) w.heap.size 0 e:=fun j v hv=>by
 rw [Nat.zero_add,(Blk.new w (ecs e) t).cell]
 simpa using hv
theorem enAt_below {B:Nat} {w w':World} {b o:Nat} {e:En} (h:enAt w b o e) (hb:Below B w w') (hlt:b < B):enAt w' b o e:=fun j v hv=>by
 rw [hb.cell (p:=⟨b,o+j,none⟩) hlt]
 exact h j v hv
theorem enAt_node {w:World} {b:Nat} {e:En} {p q a:Value} {t:TypeId} (h:Blk w b (ncs e p q a) t):enAt w b 0 e:=by
 exact h.range (ncs_ecs e p q a)
theorem run_bdT0 (w:World):(Bd 39 #[]).run Tryz.prog w = .ok (.agg (tcs zeroT)) w:=run_build w _ _ _ (by kernel_rfl)
end Go.Proofs.YtkadkmnolkkhgaaGreatDoor.Hp

/-
 The small functions of package desc and of the reference: what they give.
-/
namespace Go.Proofs.YtkadkmnolkkhgaaGreatDoor.Des
open Go.RowKit Vals
attribute [local go_sem ↓] to_ldD to_stD run_eqD run_eqV0
attribute [local go_sem] n2 n3 m2 m3 rowD_drew rowD_drewN rowD_alloc rowD_putc rowD_other putD_drew putD_drewN putD_size putD_alloc setObj_cells run_ldD run_stD okC_dcs okC_lit objRow_dcs one_b one_i one_s objRow_lit dcs_0 dcs_1 dcs_2 dcs_3 dcs_4 dcs_5 dcs_6 dcs_7 dcs_8 dcs_9 dcs_10 dcs_11 dcs_12 dcs_13 dcs_14 dcs_15 dcs_16 dcs_17
attribute [local go_sem low] cell_rowD
def accF (d:Ds):Bool:=d.hg || d.hs
def datF (d:Ds):Bool:=d.hv || d.hw
def canF (v:Vl):Bool:=v.k == 0 || v.k == 6
theorem acc_x (d:Ds) (w:World):Calls Tryz.prog 121 #[DV d] w fun e w'=>e = .returned (.bool (accF d))∧w'=w.alloc (.cells (dcs d) 34):=by
 cases h:d.hg
 ·go_enter Tryz.func121,Tryz.ntmps121
  go_wp2
  go_ret
  exact ⟨by simp [accF,h],rfl⟩
 ·go_enter Tryz.func121,Tryz.ntmps121
  go_wp2
  go_ret
  exact ⟨by simp [accF,h],rfl⟩
theorem acc_any (d:Ds) (w:World):Calls Tryz.prog 121 #[DV d] w fun e w'=>e = .returned (.bool (accF d))∧Below w.heap.size w w' :=
 (acc_x d w).mono fun e w' ⟨h1,h2⟩=>⟨h1,h2 ▸ ball _ _⟩
theorem racc_x (d:Ds) (w:World):Calls Tryz.prog 25 #[DV d] w fun e w'=>e = .returned (.bool (accF d))∧w'=w.alloc (.cells (dcs d) 34):=by
 cases h:d.hg
 ·go_enter Tryz.func25,Tryz.ntmps25
  go_wp2
  go_ret
  exact ⟨by simp [accF,h],rfl⟩
 ·go_enter Tryz.func25,Tryz.ntmps25
  go_wp2
  go_ret
  exact ⟨by simp [accF,h],rfl⟩
theorem racc_any (d:Ds) (w:World):Calls Tryz.prog 25 #[DV d] w fun e w'=>e = .returned (.bool (accF d))∧Below w.heap.size w w' :=
 (racc_x d w).mono fun e w' ⟨h1,h2⟩=>⟨h1,h2 ▸ ball _ _⟩
theorem dat_x (d:Ds) (w:World):Calls Tryz.prog 122 #[DV d] w fun e w'=>e = .returned (.bool (datF d))∧w'=w.alloc (.cells (dcs d) 34):=by
 cases h:d.hv
 ·go_enter Tryz.func122,Tryz.ntmps122
  go_wp2
  go_ret
  exact ⟨by simp [datF,h],rfl⟩
 ·go_enter Tryz.func122,Tryz.ntmps122
  go_wp2
  go_ret
  exact ⟨by simp [datF,h],rfl⟩
theorem dat_any (d:Ds) (w:World):Calls Tryz.prog 122 #[DV d] w fun e w'=>e = .returned (.bool (datF d))∧Below w.heap.size w w' :=
 (dat_x d w).mono fun e w' ⟨h1,h2⟩=>⟨h1,h2 ▸ ball _ _⟩
theorem rdat_x (d:Ds) (w:World):Calls Tryz.prog 24 #[DV d] w fun e w'=>e = .returned (.bool (datF d))∧w'=w.alloc (.cells (dcs d) 34):=by
 cases h:d.hv
 ·go_enter Tryz.func24,Tryz.ntmps24
  go_wp2
  go_ret
  exact ⟨by simp [datF,h],rfl⟩
 ·go_enter Tryz.func24,Tryz.ntmps24
  go_wp2
  go_ret
  exact ⟨by simp [datF,h],rfl⟩
theorem rdat_any (d:Ds) (w:World):Calls Tryz.prog 24 #[DV d] w fun e w'=>e = .returned (.bool (datF d))∧Below w.heap.size w w' :=
 (rdat_x d w).mono fun e w' ⟨h1,h2⟩=>⟨h1,h2 ▸ ball _ _⟩
theorem can_any (v:Vl) (w:World):Calls Tryz.prog 123 #[VV v] w fun e w'=>e = .returned (.bool (canF v))∧Below w.heap.size w w':=by
 cases h:(v.k == 0)
 ·go_enter Tryz.func123,Tryz.ntmps123
  go_wp2
  go_ret
  exact ⟨by simp [canF,h],ball _ _⟩
 ·go_enter Tryz.func123,Tryz.ntmps123
  go_wp2
  go_ret
  exact ⟨by simp [canF,h],ball _ _⟩
theorem side_any (v:Vl) (w:World):Calls Tryz.prog 70 #[VV v] w fun e w'=>e = .returned (.bool (canF v))∧Below w.heap.size w w':=by
 cases h:(v.k == 0)
 ·go_enter Tryz.func70,Tryz.ntmps70
  go_wp2
  go_ret
  exact ⟨by simp [canF,h],ball _ _⟩
 ·go_enter Tryz.func70,Tryz.ntmps70
  go_wp2
  go_ret
  exact ⟨by simp [canF,h],ball _ _⟩
theorem same_any (a b:Vl) (w:World):Calls Tryz.prog 197 #[VV a,VV b] w fun e w'=>e = .returned (.bool (eqV a b))∧Below w.heap.size w w':=by
 go_enter Tryz.func197,Tryz.ntmps197
 go_wp2
 go_ret
 exact ⟨rfl,two_bels _ _ _⟩
end Go.Proofs.YtkadkmnolkkhgaaGreatDoor.Des

/-
 isOtherSort, keepsValue, keepsFunctions, keepsFixed: what they give.
-/
namespace Go.Proofs.YtkadkmnolkkhgaaGreatDoor.Des
open Go.RowKit Vals
attribute [local go_sem ↓] to_ldD to_stD run_eqD run_eqV0
attribute [local go_sem] n2 n3 m2 m3 rowD_drew rowD_drewN rowD_alloc rowD_putc rowD_other putD_drew putD_drewN putD_size putD_alloc setObj_cells run_ldD run_stD okC_dcs okC_lit objRow_dcs one_b one_i one_s objRow_lit dcs_0 dcs_1 dcs_2 dcs_3 dcs_4 dcs_5 dcs_6 dcs_7 dcs_8 dcs_9 dcs_10 dcs_11 dcs_12 dcs_13 dcs_14 dcs_15 dcs_16 dcs_17
attribute [local go_sem low] cell_rowD
def othF (d n:Ds):Bool:=datF d && accF n || accF d && datF n
def kvF (d n:Ds):Bool:=if d.hw && d.w then false else !d.hv || eqV d.v n.v
def kfF (d n:Ds):Bool:=if d.hg && !eqV d.g n.g then false else !d.hs || eqV d.s n.s
def kxF (d n:Ds):Bool:=if (d.hc && d.c) || (d.he && (d.e != n.e)) then false else if othF d n then false else if datF n then n.w || kvF d n else kfF d n
set_option maxHeartbeats 2000000 in
theorem oth_any (d n:Ds) (w:World):Calls Tryz.prog 231 #[DV d,DV n] w fun e w'=>e = .returned (.bool (othF d n))∧Below w.heap.size w w':=by
 go_enter Tryz.func231,Tryz.ntmps231
 go_wp2_with (first |(go_at_call 122;refine (dat_any _ _).mono ?_;rintro e w1 ⟨rfl,hb1⟩;have:=rowD_call hb1 (show rowD _ (w.heap.size)=some (dcs d) by first |assumption |(simp [rowD_alloc,objRow_dcs,rowD_drew,n2,n3,m2,m3];done) |(simp [rowD_drew,rowD_alloc,n2,n3,m2,m3,objRow_dcs,objRow_lit,rowD_putc,rowD_other,putD_size,okC_dcs,okC_lit,one_b,one_i,one_s, *];done));have:=rowD_call hb1 (show rowD _ (w.heap.size+1)=some (dcs n) by first |assumption |(simp [rowD_alloc,objRow_dcs,rowD_drew,n2,n3,m2,m3];done) |(simp [rowD_drew,rowD_alloc,n2,n3,m2,m3,objRow_dcs,objRow_lit,rowD_putc,rowD_other,putD_size,okC_dcs,okC_lit,one_b,one_i,one_s, *];done));have hbw:Below w.heap.size w w1:=bel_keep hb1 (by first |assumption |exact two_bels _ _ _ |exact three_bels _ _ _ _ |exact ball _ _ |exact bel_drew (two_bels _ _ _) |exact bel_drew (three_bels _ _ _ _) |exact bel_drew (ball _ _) |exact bel_drew (by assumption) |exact bel_put (by assumption) (by omega) _);clear hb1) |(go_at_call 121;refine (acc_any _ _).mono ?_;rintro e w1 ⟨rfl,hb1⟩;have:=rowD_call hb1 (show rowD _ (w.heap.size)=some (dcs d) by first |assumption |(simp [rowD_alloc,objRow_dcs,rowD_drew,n2,n3,m2,m3];done) |(simp [rowD_drew,rowD_alloc,n2,n3,m2,m3,objRow_dcs,objRow_lit,rowD_putc,rowD_other,putD_size,okC_dcs,okC_lit,one_b,one_i,one_s, *];done));have:=rowD_call hb1 (show rowD _ (w.heap.size+1)=some (dcs n) by first |assumption |(simp [rowD_alloc,objRow_dcs,rowD_drew,n2,n3,m2,m3];done) |(simp [rowD_drew,rowD_alloc,n2,n3,m2,m3,objRow_dcs,objRow_lit,rowD_putc,rowD_other,putD_size,okC_dcs,okC_lit,one_b,one_i,one_s, *];done));have hbw:Below w.heap.size w w1:=bel_keep hb1 (by first |assumption |exact two_bels _ _ _ |exact three_bels _ _ _ _ |exact ball _ _ |exact bel_drew (two_bels _ _ _) |exact bel_drew (three_bels _ _ _ _) |exact bel_drew (ball _ _) |exact bel_drew (by assumption) |exact bel_put (by assumption) (by omega) _);clear hb1))
 all_goals
  go_ret
  exact ⟨by first |(simp [othF, *];done) |(cases hq1:d.e <;> cases hq2:n.e <;> simp_all [othF]),by first |assumption |exact two_bels _ _ _⟩
set_option maxHeartbeats 2000000 in
theorem kv_any (d n:Ds) (w:World):Calls Tryz.prog 252 #[DV d,DV n] w fun e w'=>e = .returned (.bool (kvF d n))∧Below w.heap.size w w':=by
 go_enter Tryz.func252,Tryz.ntmps252
 go_wp2_with (first |(go_at_call 197;refine (same_any ⟨_,_,_⟩ ⟨_,_,_⟩ _).mono ?_;rintro e w1 ⟨rfl,hb1⟩;have:=rowD_call hb1 (show rowD _ (w.heap.size)=some (dcs d) by first |assumption |(simp [rowD_alloc,objRow_dcs,rowD_drew,n2,n3,m2,m3];done) |(simp [rowD_drew,rowD_alloc,n2,n3,m2,m3,objRow_dcs,objRow_lit,rowD_putc,rowD_other,putD_size,okC_dcs,okC_lit,one_b,one_i,one_s, *];done));have:=rowD_call hb1 (show rowD _ (w.heap.size+1)=some (dcs n) by first |assumption |(simp [rowD_alloc,objRow_dcs,rowD_drew,n2,n3,m2,m3];done) |(simp [rowD_drew,rowD_alloc,n2,n3,m2,m3,objRow_dcs,objRow_lit,rowD_putc,rowD_other,putD_size,okC_dcs,okC_lit,one_b,one_i,one_s, *];done));have hbw:Below w.heap.size w w1:=bel_keep hb1 (by first |assumption |exact two_bels _ _ _ |exact three_bels _ _ _ _ |exact ball _ _ |exact bel_drew (two_bels _ _ _) |exact bel_drew (three_bels _ _ _ _) |exact bel_drew (ball _ _) |exact bel_drew (by assumption) |exact bel_put (by assumption) (by omega) _);clear hb1))
 all_goals
  go_ret
  exact ⟨by first |(simp [kvF, *];done) |(cases hq1:d.e <;> cases hq2:n.e <;> simp_all [kvF]),by first |assumption |exact two_bels _ _ _⟩
set_option maxHeartbeats 2000000 in
theorem kf_any (d n:Ds) (w:World):Calls Tryz.prog 253 #[DV d,DV n] w fun e w'=>e = .returned (.bool (kfF d n))∧Below w.heap.size w w':=by
 go_enter Tryz.func253,Tryz.ntmps253
 go_wp2_with (first |(go_at_call 197;refine (same_any ⟨_,_,_⟩ ⟨_,_,_⟩ _).mono ?_;rintro e w1 ⟨rfl,hb1⟩;have:=rowD_call hb1 (show rowD _ (w.heap.size)=some (dcs d) by first |assumption |(simp [rowD_alloc,objRow_dcs,rowD_drew,n2,n3,m2,m3];done) |(simp [rowD_drew,rowD_alloc,n2,n3,m2,m3,objRow_dcs,objRow_lit,rowD_putc,rowD_other,putD_size,okC_dcs,okC_lit,one_b,one_i,one_s, *];done));have:=rowD_call hb1 (show rowD _ (w.heap.size+1)=some (dcs n) by first |assumption |(simp [rowD_alloc,objRow_dcs,rowD_drew,n2,n3,m2,m3];done) |(simp [rowD_drew,rowD_alloc,n2,n3,m2,m3,objRow_dcs,objRow_lit,rowD_putc,rowD_other,putD_size,okC_dcs,okC_lit,one_b,one_i,one_s, *];done));have hbw:Below w.heap.size w w1:=bel_keep hb1 (by first |assumption |exact two_bels _ _ _ |exact three_bels _ _ _ _ |exact ball _ _ |exact bel_drew (two_bels _ _ _) |exact bel_drew (three_bels _ _ _ _) |exact bel_drew (ball _ _) |exact bel_drew (by assumption) |exact bel_put (by assumption) (by omega) _);clear hb1))
 all_goals
  go_ret
  exact ⟨by first |(simp [kfF, *];done) |(cases hq1:d.e <;> cases hq2:n.e <;> simp_all [kfF]),by first |assumption |exact two_bels _ _ _⟩
set_option maxHeartbeats 2000000 in
theorem kx_any (d n:Ds) (w:World):Calls Tryz.prog 230 #[DV d,DV n] w fun e w'=>e = .returned (.bool (kxF d n))∧Below w.heap.size w w':=by
 go_enter Tryz.func230,Tryz.ntmps230
 go_wp2_with (first |(go_at_call 231;refine (oth_any _ _ _).mono ?_;rintro e w1 ⟨rfl,hb1⟩;have:=rowD_call hb1 (show rowD _ (w.heap.size)=some (dcs d) by first |assumption |(simp [rowD_alloc,objRow_dcs,rowD_drew,n2,n3,m2,m3];done) |(simp [rowD_drew,rowD_alloc,n2,n3,m2,m3,objRow_dcs,objRow_lit,rowD_putc,rowD_other,putD_size,okC_dcs,okC_lit,one_b,one_i,one_s, *];done));have:=rowD_call hb1 (show rowD _ (w.heap.size+1)=some (dcs n) by first |assumption |(simp [rowD_alloc,objRow_dcs,rowD_drew,n2,n3,m2,m3];done) |(simp [rowD_drew,rowD_alloc,n2,n3,m2,m3,objRow_dcs,objRow_lit,rowD_putc,rowD_other,putD_size,okC_dcs,okC_lit,one_b,one_i,one_s, *];done));have hbw:Below w.heap.size w w1:=bel_keep hb1 (by first |assumption |exact two_bels _ _ _ |exact three_bels _ _ _ _ |exact ball _ _ |exact bel_drew (two_bels _ _ _) |exact bel_drew (three_bels _ _ _ _) |exact bel_drew (ball _ _) |exact bel_drew (by assumption) |exact bel_put (by assumption) (by omega) _);clear hb1) |(go_at_call 122;refine (dat_any _ _).mono ?_;rintro e w1 ⟨rfl,hb1⟩;have:=rowD_call hb1 (show rowD _ (w.heap.size)=some (dcs d) by first |assumption |(simp [rowD_alloc,objRow_dcs,rowD_drew,n2,n3,m2,m3];done) |(simp [rowD_drew,rowD_alloc,n2,n3,m2,m3,objRow_dcs,objRow_lit,rowD_putc,rowD_other,putD_size,okC_dcs,okC_lit,one_b,one_i,one_s, *];done));have:=rowD_call hb1 (show rowD _ (w.heap.size+1)=some (dcs n) by first |assumption |(simp [rowD_alloc,objRow_dcs,rowD_drew,n2,n3,m2,m3];done) |(simp [rowD_drew,rowD_alloc,n2,n3,m2,m3,objRow_dcs,objRow_lit,rowD_putc,rowD_other,putD_size,okC_dcs,okC_lit,one_b,one_i,one_s, *];done));have hbw:Below w.heap.size w w1:=bel_keep hb1 (by first |assumption |exact two_bels _ _ _ |exact three_bels _ _ _ _ |exact ball _ _ |exact bel_drew (two_bels _ _ _) |exact bel_drew (three_bels _ _ _ _) |exact bel_drew (ball _ _) |exact bel_drew (by assumption) |exact bel_put (by assumption) (by omega) _);clear hb1) |(go_at_call 252;refine (kv_any _ _ _).mono ?_;rintro e w1 ⟨rfl,hb1⟩;have:=rowD_call hb1 (show rowD _ (w.heap.size)=some (dcs d) by first |assumption |(simp [rowD_alloc,objRow_dcs,rowD_drew,n2,n3,m2,m3];done) |(simp [rowD_drew,rowD_alloc,n2,n3,m2,m3,objRow_dcs,objRow_lit,rowD_putc,rowD_other,putD_size,okC_dcs,okC_lit,one_b,one_i,one_s, *];done));have:=rowD_call hb1 (show rowD _ (w.heap.size+1)=some (dcs n) by first |assumption |(simp [rowD_alloc,objRow_dcs,rowD_drew,n2,n3,m2,m3];done) |(simp [rowD_drew,rowD_alloc,n2,n3,m2,m3,objRow_dcs,objRow_lit,rowD_putc,rowD_other,putD_size,okC_dcs,okC_lit,one_b,one_i,one_s, *];done));have hbw:Below w.heap.size w w1:=bel_keep hb1 (by first |assumption |exact two_bels _ _ _ |exact three_bels _ _ _ _ |exact ball _ _ |exact bel_drew (two_bels _ _ _) |exact bel_drew (three_bels _ _ _ _) |exact bel_drew (ball _ _) |exact bel_drew (by assumption) |exact bel_put (by assumption) (by omega) _);clear hb1) |(go_at_call 253;refine (kf_any _ _ _).mono ?_;rintro e w1 ⟨rfl,hb1⟩;have:=rowD_call hb1 (show rowD _ (w.heap.size)=some (dcs d) by first |assumption |(simp [rowD_alloc,objRow_dcs,rowD_drew,n2,n3,m2,m3];done) |(simp [rowD_drew,rowD_alloc,n2,n3,m2,m3,objRow_dcs,objRow_lit,rowD_putc,rowD_other,putD_size,okC_dcs,okC_lit,one_b,one_i,one_s, *];done));have:=rowD_call hb1 (show rowD _ (w.heap.size+1)=some (dcs n) by first |assumption |(simp [rowD_alloc,objRow_dcs,rowD_drew,n2,n3,m2,m3];done) |(simp [rowD_drew,rowD_alloc,n2,n3,m2,m3,objRow_dcs,objRow_lit,rowD_putc,rowD_other,putD_size,okC_dcs,okC_lit,one_b,one_i,one_s, *];done));have hbw:Below w.heap.size w w1:=bel_keep hb1 (by first |assumption |exact two_bels _ _ _ |exact three_bels _ _ _ _ |exact ball _ _ |exact bel_drew (two_bels _ _ _) |exact bel_drew (three_bels _ _ _ _) |exact bel_drew (ball _ _) |exact bel_drew (by assumption) |exact bel_put (by assumption) (by omega) _);clear hb1))
 all_goals
  go_ret
  exact ⟨by first |(simp [kxF, *];done) |(cases hq1:d.e <;> cases hq2:n.e <;> simp_all [kxF]),by first |assumption |exact two_bels _ _ _⟩
end Go.Proofs.YtkadkmnolkkhgaaGreatDoor.Des

/-
 replaced: what it gives.
-/
namespace Go.Proofs.YtkadkmnolkkhgaaGreatDoor.Des
open Go.RowKit Vals
attribute [local go_sem ↓] to_ldD to_stD run_eqD run_eqV0
attribute [local go_sem] n2 n3 m2 m3 rowD_drew rowD_drewN rowD_alloc rowD_putc rowD_other putD_drew putD_drewN putD_size putD_alloc setObj_cells run_ldD run_stD okC_dcs okC_lit objRow_dcs one_b one_i one_s objRow_lit dcs_0 dcs_1 dcs_2 dcs_3 dcs_4 dcs_5 dcs_6 dcs_7 dcs_8 dcs_9 dcs_10 dcs_11 dcs_12 dcs_13 dcs_14 dcs_15 dcs_16 dcs_17
attribute [local go_sem low] cell_rowD
theorem World.setCell_drewN (w:World) (n:Nat) (a:Addr) (v:Value):(w.drewN n).setCell a v=(w.setCell a v).drewN n:=rfl
theorem World.alloc_drewN (w:World) (n:Nat) (o:Obj):(w.drewN n).alloc o=(w.alloc o).drewN n:=rfl
theorem heap3 (w:World) (a b c:Obj):(((w.alloc a).alloc b).alloc c).heap[w.heap.size+1+1]? = some c:=by
 have e2:((w.alloc a).alloc b).heap.size=w.heap.size+1+1:=by simp
 have:=heap_alloc_new ((w.alloc a).alloc b) c
 rw [e2] at this
 exact this
attribute [local go_sem] World.setCell_drewN World.alloc_drewN
def replF (x y:Ds):Ds:=⟨y.hv || x.hv,y.hg || x.hg,y.hs || x.hs,y.hw || x.hw,y.he || x.he,y.hc || x.hc,⟨cond y.hv y.v.k x.v.k,cond y.hv y.v.n x.v.n,cond y.hv y.v.s x.v.s⟩,⟨cond y.hg y.g.k x.g.k,cond y.hg y.g.n x.g.n,cond y.hg y.g.s x.g.s⟩,⟨cond y.hs y.s.k x.s.k,cond y.hs y.s.n x.s.n,cond y.hs y.s.s x.s.s⟩,cond y.hw y.w x.w,cond y.he y.e x.e,cond y.hc y.c x.c⟩
set_option maxHeartbeats 4000000 in
theorem repl_any (x y:Ds) (w:World) :
  Calls Tryz.prog 124 #[DV x,DV y] w fun en w'=>en = .returned (DV (replF x y))∧Below w.heap.size w w':=by
 have hdx:dcs x=#[.bool (x.hv),.bool (x.hg),.bool (x.hs),.bool (x.hw),.bool (x.he),.bool (x.hc),.int .i64 (x.v.k),.int .i64 (x.v.n),.string (x.v.s),.int .i64 (x.g.k),.int .i64 (x.g.n),.string (x.g.s),.int .i64 (x.s.k),.int .i64 (x.s.n),.string (x.s.s),.bool (x.w),.bool (x.e),.bool (x.c)]:=rfl
 have hyl:(dcs y).size=18:=rfl
 unfold DV
 rw [hdx]
 clear hdx hyl
 go_enter Tryz.func124,Tryz.ntmps124
 go_upto_if 6 with fail
 go_cut [] from 5 to 41 (fun wx=>∃ z0 z6 z7 z8 q,Hid (z0=(y.hv || x.hv)∧z6=cond y.hv y.v.k x.v.k∧z7=cond y.hv y.v.n x.v.n∧z8=cond y.hv y.v.s x.v.s)∧wx=(((w.alloc (.cells #[.bool (z0),.bool (x.hg),.bool (x.hs),.bool (x.hw),.bool (x.he),.bool (x.hc),.int .i64 (z6),.int .i64 (z7),.string (z8),.int .i64 (x.g.k),.int .i64 (x.g.n),.string (x.g.s),.int .i64 (x.s.k),.int .i64 (x.s.n),.string (x.s.s),.bool (x.w),.bool (x.e),.bool (x.c)] 34)).alloc (.cells (dcs y) 34)).alloc (.cells #[.bool false,.bool false,.bool false,.bool false,.bool false,.bool false,.int .i64 0,.int .i64 0,.string ⟨#[]⟩,.int .i64 0,.int .i64 0,.string ⟨#[]⟩,.int .i64 0,.int .i64 0,.string ⟨#[]⟩,.bool false,.bool false,.bool false] 34)).drewN q)
 case first =>
  cases hy:y.hv
  ·go_wp2
   go_meet
   case rel=>exact ⟨x.hv,x.v.k,x.v.n,x.v.s,0,⟨(by simp [hy]),(by simp [hy]),(by simp [hy]),(by simp [hy])⟩,rfl⟩
  ·go_wp2
   go_region
   all_goals (go_wp2_with fail;go_meet;exact ⟨true,y.v.k,y.v.n,y.v.s,1,⟨(by simp [hy]),(by simp [hy]),(by simp [hy]),(by simp [hy])⟩,rfl⟩)
 case rest =>
 obtain ⟨z0,z6,z7,z8,q0,h0,rfl⟩:=hcut
 go_upto_if 12 with fail
 go_cut [] from 5 to 41 (fun wx=>∃ z3 z15 q,Hid (z3=(y.hw || x.hw)∧z15=cond y.hw y.w x.w)∧wx=(((w.alloc (.cells #[.bool (z0),.bool (x.hg),.bool (x.hs),.bool (z3),.bool (x.he),.bool (x.hc),.int .i64 (z6),.int .i64 (z7),.string (z8),.int .i64 (x.g.k),.int .i64 (x.g.n),.string (x.g.s),.int .i64 (x.s.k),.int .i64 (x.s.n),.string (x.s.s),.bool (z15),.bool (x.e),.bool (x.c)] 34)).alloc (.cells (dcs y) 34)).alloc (.cells #[.bool false,.bool false,.bool false,.bool false,.bool false,.bool false,.int .i64 0,.int .i64 0,.string ⟨#[]⟩,.int .i64 0,.int .i64 0,.string ⟨#[]⟩,.int .i64 0,.int .i64 0,.string ⟨#[]⟩,.bool false,.bool false,.bool false] 34)).drewN q)
 case first =>
  cases hy:y.hw
  ·go_wp2
   go_meet
   case rel=>exact ⟨x.hw,x.w,_,⟨(by simp [hy]),(by simp [hy])⟩,rfl⟩
  ·go_wp2
   go_region
   all_goals (go_wp2_with fail;go_meet;exact ⟨true,y.w,_,⟨(by simp [hy]),(by simp [hy])⟩,rfl⟩)
 case rest =>
 obtain ⟨z3,z15,q1,h1,rfl⟩:=hcut
 go_upto_if 18 with fail
 go_cut [] from 5 to 41 (fun wx=>∃ z1 z9 z10 z11 q,Hid (z1=(y.hg || x.hg)∧z9=cond y.hg y.g.k x.g.k∧z10=cond y.hg y.g.n x.g.n∧z11=cond y.hg y.g.s x.g.s)∧wx=(((w.alloc (.cells #[.bool (z0),.bool (z1),.bool (x.hs),.bool (z3),.bool (x.he),.bool (x.hc),.int .i64 (z6),.int .i64 (z7),.string (z8),.int .i64 (z9),.int .i64 (z10),.string (z11),.int .i64 (x.s.k),.int .i64 (x.s.n),.string (x.s.s),.bool (z15),.bool (x.e),.bool (x.c)] 34)).alloc (.cells (dcs y) 34)).alloc (.cells #[.bool false,.bool false,.bool false,.bool false,.bool false,.bool false,.int .i64 0,.int .i64 0,.string ⟨#[]⟩,.int .i64 0,.int .i64 0,.string ⟨#[]⟩,.int .i64 0,.int .i64 0,.string ⟨#[]⟩,.bool false,.bool false,.bool false] 34)).drewN q)
 case first =>
  cases hy:y.hg
  ·go_wp2
   go_meet
   case rel=>exact ⟨x.hg,x.g.k,x.g.n,x.g.s,_,⟨(by simp [hy]),(by simp [hy]),(by simp [hy]),(by simp [hy])⟩,rfl⟩
  ·go_wp2
   go_region
   all_goals (go_wp2_with fail;go_meet;exact ⟨true,y.g.k,y.g.n,y.g.s,_,⟨(by simp [hy]),(by simp [hy]),(by simp [hy]),(by simp [hy])⟩,rfl⟩)
 case rest =>
 obtain ⟨z1,z9,z10,z11,q2,h2,rfl⟩:=hcut
 go_upto_if 24 with fail
 go_cut [] from 5 to 41 (fun wx=>∃ z2 z12 z13 z14 q,Hid (z2=(y.hs || x.hs)∧z12=cond y.hs y.s.k x.s.k∧z13=cond y.hs y.s.n x.s.n∧z14=cond y.hs y.s.s x.s.s)∧wx=(((w.alloc (.cells #[.bool (z0),.bool (z1),.bool (z2),.bool (z3),.bool (x.he),.bool (x.hc),.int .i64 (z6),.int .i64 (z7),.string (z8),.int .i64 (z9),.int .i64 (z10),.string (z11),.int .i64 (z12),.int .i64 (z13),.string (z14),.bool (z15),.bool (x.e),.bool (x.c)] 34)).alloc (.cells (dcs y) 34)).alloc (.cells #[.bool false,.bool false,.bool false,.bool false,.bool false,.bool false,.int .i64 0,.int .i64 0,.string ⟨#[]⟩,.int .i64 0,.int .i64 0,.string ⟨#[]⟩,.int .i64 0,.int .i64 0,.string ⟨#[]⟩,.bool false,.bool false,.bool false] 34)).drewN q)
 case first =>
  cases hy:y.hs
  ·go_wp2
   go_meet
   case rel=>exact ⟨x.hs,x.s.k,x.s.n,x.s.s,_,⟨(by simp [hy]),(by simp [hy]),(by simp [hy]),(by simp [hy])⟩,rfl⟩
  ·go_wp2
   go_region
   all_goals (go_wp2_with fail;go_meet;exact ⟨true,y.s.k,y.s.n,y.s.s,_,⟨(by simp [hy]),(by simp [hy]),(by simp [hy]),(by simp [hy])⟩,rfl⟩)
 case rest =>
 obtain ⟨z2,z12,z13,z14,q3,h3,rfl⟩:=hcut
 go_upto_if 30 with fail
 go_cut [] from 5 to 41 (fun wx=>∃ z4 z16 q,Hid (z4=(y.he || x.he)∧z16=cond y.he y.e x.e)∧wx=(((w.alloc (.cells #[.bool (z0),.bool (z1),.bool (z2),.bool (z3),.bool (z4),.bool (x.hc),.int .i64 (z6),.int .i64 (z7),.string (z8),.int .i64 (z9),.int .i64 (z10),.string (z11),.int .i64 (z12),.int .i64 (z13),.string (z14),.bool (z15),.bool (z16),.bool (x.c)] 34)).alloc (.cells (dcs y) 34)).alloc (.cells #[.bool false,.bool false,.bool false,.bool false,.bool false,.bool false,.int .i64 0,.int .i64 0,.string ⟨#[]⟩,.int .i64 0,.int .i64 0,.string ⟨#[]⟩,.int .i64 0,.int .i64 0,.string ⟨#[]⟩,.bool false,.bool false,.bool false] 34)).drewN q)
 case first =>
  cases hy:y.he
  ·go_wp2
   go_meet
   case rel=>exact ⟨x.he,x.e,_,⟨(by simp [hy]),(by simp [hy])⟩,rfl⟩
  ·go_wp2
   go_region
   all_goals (go_wp2_with fail;go_meet;exact ⟨true,y.e,_,⟨(by simp [hy]),(by simp [hy])⟩,rfl⟩)
 case rest =>
 obtain ⟨z4,z16,q4,h4,rfl⟩:=hcut
 go_upto_if 36 with fail
 go_cut [] from 5 to 41 (fun wx=>∃ z5 z17 q,Hid (z5=(y.hc || x.hc)∧z17=cond y.hc y.c x.c)∧wx=(((w.alloc (.cells #[.bool (z0),.bool (z1),.bool (z2),.bool (z3),.bool (z4),.bool (z5),.int .i64 (z6),.int .i64 (z7),.string (z8),.int .i64 (z9),.int .i64 (z10),.string (z11),.int .i64 (z12),.int .i64 (z13),.string (z14),.bool (z15),.bool (z16),.bool (z17)] 34)).alloc (.cells (dcs y) 34)).alloc (.cells #[.bool false,.bool false,.bool false,.bool false,.bool false,.bool false,.int .i64 0,.int .i64 0,.string ⟨#[]⟩,.int .i64 0,.int .i64 0,.string ⟨#[]⟩,.int .i64 0,.int .i64 0,.string ⟨#[]⟩,.bool false,.bool false,.bool false] 34)).drewN q)
 case first =>
  cases hy:y.hc
  ·go_wp2
   go_meet
   case rel=>exact ⟨x.hc,x.c,_,⟨(by simp [hy]),(by simp [hy])⟩,rfl⟩
  ·go_wp2
   go_region
   all_goals (go_wp2_with fail;go_meet;exact ⟨true,y.c,_,⟨(by simp [hy]),(by simp [hy])⟩,rfl⟩)
 case rest =>
 obtain ⟨z5,z17,q5,h5,rfl⟩:=hcut
 go_wp2
 refine bodyPost_ret (v:=.agg #[.bool (z0),.bool (z1),.bool (z2),.bool (z3),.bool (z4),.bool (z5),.int .i64 (z6),.int .i64 (z7),.string (z8),.int .i64 (z9),.int .i64 (z10),.string (z11),.int .i64 (z12),.int .i64 (z13),.string (z14),.bool (z15),.bool (z16),.bool (z17)]) (results_cell_row (g:=w.heap.size+1+1) Tryz.results124 _ _ 34 _ (0,0) _ rfl (heap3 w _ _ _) Tryz.underlying34 rfl info18) rfl ⟨?_,?_⟩
 ·rw [h0.out.1,h2.out.1,h3.out.1,h1.out.1,h4.out.1,h5.out.1,h0.out.2.1,h0.out.2.2.1,h0.out.2.2.2,h2.out.2.1,h2.out.2.2.1,h2.out.2.2.2,h3.out.2.1,h3.out.2.2.1,h3.out.2.2.2,h1.out.2,h4.out.2,h5.out.2]
  rfl
 ·exact below_dn (three_bels w _ _ _) _
end Go.Proofs.YtkadkmnolkkhgaaGreatDoor.Des

/-
 A region whose callees make memory, walked once, in a class of worlds that keep some rows.
-/
namespace Go.Proofs.YtkadkmnolkkhgaaGreatDoor.Des
open Go.RowKit Vals
attribute [local go_sem ↓] to_ldD to_stD run_eqD run_eqV0
attribute [local go_sem] n2 n3 m2 m3 rowD_drew rowD_drewN rowD_alloc rowD_putc rowD_other putD_drew putD_drewN putD_size putD_alloc setObj_cells run_ldD run_stD okC_dcs okC_lit objRow_dcs one_b one_i one_s objRow_lit dcs_0 dcs_1 dcs_2 dcs_3 dcs_4 dcs_5 dcs_6 dcs_7 dcs_8 dcs_9 dcs_10 dcs_11 dcs_12 dcs_13 dcs_14 dcs_15 dcs_16 dcs_17
attribute [local go_sem low] cell_rowD
structure Wd (S:World→Prop) where
 w:World
 ok:S w
def S1 (B:World) (l:List (Nat × Array Value)):World→Prop:=fun w'=>Below B.heap.size B w'∧∀ x ∈ l,rowD w' x.1=some x.2
theorem S1.call {B:World} {l:List (Nat × Array Value)} {w w':World} (h:S1 B l w) (hb:Below w.heap.size w w'):S1 B l w':=⟨bel_keep hb h.1,fun x hx=>rowD_call hb (h.2 x hx)⟩
theorem S1.drew {B:World} {l:List (Nat × Array Value)} {w:World} (h:S1 B l w):S1 B l w.drew:=⟨bel_drew h.1,fun x hx=>(rowD_drew _ _).trans (h.2 x hx)⟩
theorem s1_nil {B w:World} (h:Below B.heap.size B w):S1 B [] w:=⟨h,fun x hx=>by cases hx⟩
theorem s1_cons {B w:World} {g:Nat} {cs:Array Value} {l:List (Nat × Array Value)} (hr:rowD w g=some cs) (h:S1 B l w):S1 B ((g,cs) :: l) w:=⟨h.1,fun x hx=>by
 cases hx with
 | head=>exact hr
 | tail _ hx=>exact h.2 x hx⟩
theorem S1.row {B w:World} {g:Nat} {cs:Array Value} {l:List (Nat × Array Value)} (h:S1 B l w) (hm:(g,cs) ∈ l):rowD w g=some cs:=h.2 _ hm
theorem wd_row {B:World} {g:Nat} {cs:Array Value} {l:List (Nat × Array Value)} (hm:(g,cs) ∈ l) (p:Wd (S1 B l)):rowD p.w g=some cs:=p.ok.row hm
theorem region_in {P:Program} {id:Nat} {Q:Exit→Act→World→Prop} {a:Act} {w:World} {l:List Oper} {B:World} (rows:List (Nat × Array Value)) (hm:P.follows .mixedOrders=true) (hB:Region.lexB .any l.toArray=true) (h0:S1 B rows w)
  (h:Nonempty (Wd (S1 B rows))→wpQuiet P l.toArray (fun w'=>∃ p:Wd (S1 B rows),w'=p.w) (fun a'=>∀ w',(∃ p:Wd (S1 B rows),w'=p.w)→Q .normal a' w') l a):(Code.region id l.toArray true).wp P Q a w :=
 wp_region_quiet (C:=fun w'=>∃ p:Wd (S1 B rows),w'=p.w) hm hB ⟨⟨_,h0.drew⟩,rfl⟩ (by simpa using h ⟨⟨_,h0.drew⟩⟩)
theorem in_call {P:Program} {B:World} {rows:List (Nat × Array Value)} {f:FuncId} {args:Array Value} {v:Value} {p:Wd (S1 B rows)} (h:Calls P f args p.w fun e w'=>e = .returned v∧Below p.w.heap.size p.w w') :
  Calls P f args p.w fun e w''=>e = .returned v∧∃ q:Wd (S1 B rows),w''=q.w:=h.mono fun _ _ ⟨he,hb⟩=>⟨he,⟨⟨_,p.ok.call hb⟩,rfl⟩⟩
theorem in_out {S:World→Prop} {w':World} (h:∃ p:Wd S,w'=p.w):S w':=by
 obtain ⟨p,rfl⟩:=h
 exact p.ok
end Go.Proofs.YtkadkmnolkkhgaaGreatDoor.Des
