/-
 Texts of this seat in build order: HpIns, HpLook, HpAll, HpBack, HpCollN.
-/
import Derived.Test.YtkadkmnolkkhgaaGreatDoorMb07
import Derived.Deep.RegionWith
import Derived.WalkKit
import Derived.RangeFuncNested
import Derived.RangeFuncBound
import Derived.RangeFuncCalls
import Derived.RangeFuncLeaves
import Derived.RangeFuncBox
import Derived.Shelf.Abstract
import Derived.Shelf.RegionOpen
import Derived.OwnWalkIn
import Derived.TacticsInMore
import Derived.LoopNIn
import Derived.LoopIn
import Derived.LaidEql
/-
 insert: a property goes into a ring.
-/
set_option linter.unusedVariables false
set_option linter.unusedSimpArgs false
namespace Go.Proofs.YtkadkmnolkkhgaaGreatDoor.Hp
open Go Go.RowKit Go.Maps Keys
open Des (Vl Ds zeroV zeroD dcs dcs_size dcs_one)
open Arrs (En ecs ecs_0 ecs_1 ecs_10 ecs_size ecs_list ecs_one ecs_one')
attribute [local go_sem ↓] ldE bxE bxN bdN
attribute [local irreducible] ecs ncs hcs
attribute [local go_sem] run_bx run_bdN ecs_0 ecs_1 ncs_20 ncs_21 ncs_22 hcs_23
structure Fr (w w':World):Prop where
 os:w'.os=w.os
 tape:w'.tape=w.tape
 output:w'.output=w.output
 size:w.heap.size≤w'.heap.size
theorem Fr.refl (w:World):Fr w w:=⟨rfl,rfl,rfl,Nat.le_refl _⟩
theorem Fr.trans {a b c:World} (h:Fr a b) (k:Fr b c):Fr a c:=⟨k.os.trans h.os,k.tape.trans h.tape,k.output.trans h.output,Nat.le_trans h.size k.size⟩
theorem Fr.drew {a w:World} (h:Fr a w):Fr a w.drew:=⟨h.os,h.tape,h.output,h.size⟩
theorem Fr.alloc {a w:World} (h:Fr a w) (o:Obj):Fr a (w.alloc o):=h.trans ⟨rfl,rfl,rfl,by simp⟩
theorem Fr.set {a w:World} (h:Fr a w) (x:Addr) (v:Value):Fr a (w.setCell x v):=h.trans ⟨rfl,rfl,rfl,by simp [World.setCell]⟩
theorem Fr.link {a w:World} (h:Fr a w) (x c:Nat) (f g:Value):Fr a (link w x c f g):=(h.set _ _).set _ _
theorem Fr.turned {a w w':World} {m:Nat} (h:Fr a w) (k:w.mapTurned w' m):Fr a w':=h.trans ⟨k.grown.os,k.grown.tape,k.grown.output,k.grown.size⟩
theorem link_cell (w:World) (a c:Nat) (f g:Value) (b i:Nat) (h0:i ≠ 20) (h1:i ≠ 21):(link w a c f g).cell? ⟨b,i,none⟩=w.cell? ⟨b,i,none⟩:=by
 unfold link
 rw [World.cell?_setCell_other _ _ _ _ (fun e=>h0 (by cases e;rfl)),World.cell?_setCell_other _ _ _ _ (fun e=>h1 (by cases e;rfl))]
theorem MapIs.drew {w:World} {m n:Nat} {f:KV→Option Nat} (h:MapIs w m n f):MapIs w.drew m n f:=h
theorem MapIs.old {w:World} {m n:Nat} {f:KV→Option Nat} (h:MapIs w m n f) (o:Obj):MapIs (w.alloc o) m n f:=h.same (heap_alloc_old w o h.lt)
def InsPost (w:World) (mb n A C:Nat) (f:KV→Option Nat) (e:En) (y:Ending) (w':World):Prop :=
 y = .returned (.tuple #[])∧∃ x,w.heap.size≤x∧Blk w' x (ncs e (ptr A) (ptr C) (.pointer (pto (f (ekey e))))) 184∧MapIs w' mb (n+1) (upd f (ekey e) (some x)) ∧
  (∀ b,b < w.heap.size→b ≠ mb→w'.heap[b]? = (link w A C (ptr x) (ptr x)).heap[b]?)∧Fr w w'
theorem link_heap {w w':World} {a c b:Nat} {f g:Value} (h:w'.heap[b]? = w.heap[b]?):(link w' a c f g).heap[b]? = (link w a c f g).heap[b]?:=by
 unfold link
 simp only [World.setCell,Array.getElem?_modify,h]
theorem ins_post {w W1 W2 W3 w4:World} {mb n A C:Nat} {f:KV→Option Nat} {e:En} {o1:Obj} (h1:w.alloc o1=W1) (h2:W1.alloc (.cells (ncs e (ptr A) (ptr C) (.pointer (pto (f (ekey e))))) 184)=W2)
  (h3:link W2 A C (ptr (w.heap.size+1)) (ptr (w.heap.size+1))=W3) (hA:A < w.heap.size) (hC:C < w.heap.size) (hmb:mb < w.heap.size) (hm:MapIs w4 mb (n+1) (upd f (ekey e) (some (w.heap.size+1)))) (ht:W3.drew.drew.drew.mapTurned w4 mb) :
  InsPost w mb n A C f e (.returned (.tuple #[])) w4:=by
 subst h1 h2 h3
 have e1:(w.alloc o1).heap.size=w.heap.size+1:=by simp
 have b2:=Blk.new (w.alloc o1) (ncs e (ptr A) (ptr C) (.pointer (pto (f (ekey e))))) 184
 rw [e1] at b2
 refine ⟨rfl,w.heap.size+1,by omega,?_,hm,fun b hb hne=>?_,?_⟩
 ·refine (turned_other ht (by omega)).trans ?_
  exact (link_other _ A C _ _ _ (by omega) (by omega)).trans b2
 ·rw [turned_other ht hne]
  refine link_heap (w:=w) ?_
  rw [heap_alloc_old _ _ (by rw [e1];omega)]
  exact heap_alloc_old _ _ hb
 ·refine Fr.turned ?_ ht
  exact ((((((Fr.refl w).alloc _).alloc _)).link _ _ _ _).drew).drew.drew
set_option maxRecDepth 100000 in
set_option maxHeartbeats 2000000 in
theorem insert_any (pb mb n A C:Nat) (f:KV→Option Nat) (e:En) (P Q vC:Value) (CA CC:Array Value) (tA tC:TypeId) (w:World) (hp:Blk w pb (hcs P Q mb) 187) (hA:Blk w A CA tA) (hA1:CA[21]? = some (ptr C)) (hC:Blk w C CC tC) (hC1:CC[20]? = some vC) (hm:MapIs w mb n f) (hn:n < 1000000) (hk:Fine (ekey e)) :
  Calls Tryz.prog 126 #[ptr pb,ptr A,.agg (ecs e)] w (InsPost w mb n A C f e):=by
 obtain ⟨W1,hW1⟩:∃ W1,w.alloc (.cells (ecs e) 36)=W1:=⟨_,rfl⟩
 have k1:W1.heap.size=w.heap.size+1:=by rw [← hW1];simp
 have le:(Ld 36 (.pointer (some ⟨w.heap.size,0,none⟩))).run Tryz.prog W1.drew = .ok (.agg (ecs e)) W1.drew:=by
  rw [← hW1];exact run_ldE (w:=(w.alloc _).drew) (enAt_new w e _)
 have pA:W1.cell? ⟨A,21,none⟩=some (.pointer (some ⟨C,0,none⟩)):=by rw [← hW1,(hA.old _).cell];exact hA1
 have pm:W1.cell? ⟨pb,23,none⟩=some (.map (some mb)):=by rw [← hW1,(hp.old _).cell,hcs_23]
 have k0:W1.cell? ⟨w.heap.size,0,none⟩=some (.string e.ks):=by rw [← hW1,(Blk.new w _ _).cell,ecs_0]
 have k1':W1.cell? ⟨w.heap.size,1,none⟩=some (.int .i64 e.kn):=by rw [← hW1,(Blk.new w _ _).cell,ecs_1]
 have hm1:MapIs W1.drew mb n f:=by rw [← hW1];exact (hm.old _).drew
 obtain ⟨R,hR⟩:∃ R,pto (f (ekey e))=R:=⟨_,rfl⟩
 have hl:(Instr.lookup 185 (.map (some mb)) (.agg #[.string e.ks,.int .i64 e.kn]) false).run Tryz.prog W1.drew = .ok (.pointer R) W1.drew:=by rw [← hR];exact hm1.look hk
 obtain ⟨W2,hW2⟩:∃ W2,W1.alloc (.cells (ncs e (.pointer (some ⟨A,0,none⟩)) (.pointer (some ⟨C,0,none⟩)) (.pointer R)) 184)=W2:=⟨_,rfl⟩
 have k2:W2.heap.size=w.heap.size+2:=by rw [← hW2];simp [k1]
 have b2:Blk W2 (w.heap.size+1) (ncs e (ptr A) (ptr C) (.pointer R)) 184:=by
  have:=Blk.new W1 (ncs e (ptr A) (ptr C) (.pointer R)) 184
  rw [k1] at this
  rw [← hW2];exact this
 have old:∀ b,b < w.heap.size→W2.heap[b]? = w.heap[b]?:=fun b hb=>by
  rw [← hW2,heap_alloc_old _ _ (by omega),← hW1]
  exact heap_alloc_old _ _ hb
 have bA:Blk W2 A CA tA:=(old A hA.lt).trans hA
 have bC:Blk W2 C CC tC:=(old C hC.lt).trans hC
 have bp:Blk W2 pb (hcs P Q mb) 187:=(old pb hp.lt).trans hp
 have c20:W2.cell? ⟨w.heap.size+1,20,none⟩=some (.pointer (some ⟨A,0,none⟩)):=by rw [b2.cell,ncs_20]
 have c21:W2.cell? ⟨w.heap.size+1,21,none⟩=some (.pointer (some ⟨C,0,none⟩)):=by rw [b2.cell,ncs_21]
 have sA:W2.cell? ⟨A,21,none⟩=some (.pointer (some ⟨C,0,none⟩)):=by rw [bA.cell];exact hA1
 have sC:W2.cell? ⟨C,20,none⟩=some vC:=by rw [bC.cell];exact hC1
 have sA2:(W2.setCell ⟨C,20,none⟩ (.pointer (some ⟨w.heap.size+1,0,none⟩))).cell? ⟨A,21,none⟩=some (.pointer (some ⟨C,0,none⟩)):=by rw [World.cell?_setCell_other _ _ _ _ (by simp)];exact sA
 have sC2:(W2.setCell ⟨A,21,none⟩ (.pointer (some ⟨w.heap.size+1,0,none⟩))).cell? ⟨C,20,none⟩=some vC:=by rw [World.cell?_setCell_other _ _ _ _ (by simp)];exact sC
 have nA:A ≠ w.heap.size+1:=by have:=hA.lt;omega
 have nC:C ≠ w.heap.size+1:=by have:=hC.lt;omega
 have d21:(W2.setCell ⟨A,21,none⟩ (.pointer (some ⟨w.heap.size+1,0,none⟩))).cell? ⟨w.heap.size+1,21,none⟩=some (.pointer (some ⟨C,0,none⟩)):=by rw [World.cell?_setCell_other _ _ _ _ (by simp [nA])];exact c21
 have d20:(W2.setCell ⟨C,20,none⟩ (.pointer (some ⟨w.heap.size+1,0,none⟩))).cell? ⟨w.heap.size+1,20,none⟩=some (.pointer (some ⟨A,0,none⟩)):=by rw [World.cell?_setCell_other _ _ _ _ (by simp [nC])];exact c20
 have fA:=bA.frozen 21
 have fC:=bC.frozen 20
 obtain ⟨W3,hW3⟩:∃ W3,link W2 A C (ptr (w.heap.size+1)) (ptr (w.heap.size+1))=W3:=⟨_,rfl⟩
 have hlk1:(W2.setCell ⟨A,21,none⟩ (.pointer (some ⟨w.heap.size+1,0,none⟩))).setCell ⟨C,20,none⟩ (.pointer (some ⟨w.heap.size+1,0,none⟩))=W3:=hW3
 have hlk2:(W2.setCell ⟨C,20,none⟩ (.pointer (some ⟨w.heap.size+1,0,none⟩))).setCell ⟨A,21,none⟩ (.pointer (some ⟨w.heap.size+1,0,none⟩))=W3:=by rw [setCell_comm];exact hW3
 have g0:W3.cell? ⟨w.heap.size,0,none⟩=some (.string e.ks):=by rw [← hW3,link_cell _ _ _ _ _ _ _ (by omega) (by omega),← hW2,World.cell?_alloc_lt _ _ _ (by show w.heap.size < _;omega)];exact k0
 have g1:W3.cell? ⟨w.heap.size,1,none⟩=some (.int .i64 e.kn):=by rw [← hW3,link_cell _ _ _ _ _ _ _ (by omega) (by omega),← hW2,World.cell?_alloc_lt _ _ _ (by show w.heap.size < _;omega)];exact k1'
 have g2:W3.cell? ⟨pb,23,none⟩=some (.map (some mb)):=by rw [← hW3,link_cell _ _ _ _ _ _ _ (by omega) (by omega),bp.cell,hcs_23]
 have hm3:MapIs W3.drew.drew.drew mb n f:=by
  obtain ⟨es,c,ho⟩:=hm.obj
  refine hm.same ?_
  show W3.heap[mb]? = _
  have hob:W2.heap[mb]? = some (.map es c):=(old mb hm.lt).trans ho
  rw [← hW3,ho]
  have n1:mb ≠ A:=fun e=>by rw [e,show W2.heap[A]? = _ from bA] at hob;cases hob
  have n2:mb ≠ C:=fun e=>by rw [e,show W2.heap[C]? = _ from bC] at hob;cases hob
  rw [link_other _ _ _ _ _ _ n1 n2,hob]
 obtain ⟨w4,hst,hm4,ht4⟩:=hm3.store (by unfold maxLen;omega) hk (some (w.heap.size+1))
 have hst':(Instr.mapUpdate 185 (.map (some mb)) (.agg #[.string e.ks,.int .i64 e.kn]) (.pointer (some ⟨w.heap.size+1,0,none⟩))).run Tryz.prog W3.drew.drew.drew = .ok () w4:=hst
 have hend:Hid (InsPost w mb n A C f e (.returned (.tuple #[])) w4):=by
  refine ins_post hW1 (by rw [hR];exact hW2) hW3 hA.lt hC.lt hm.lt hm4 ht4
 clear nA nC hst hm4 ht4 hm3 hW3 bp bA bC old b2 hm1 hm hC hA hp hR hC1 hA1 hk hn
 go_enter Tryz.func126,Tryz.ntmps126
 go_wp2
 go_region
 go_wp2
 go_region
 all_goals go_wp2
 all_goals go_region
 all_goals go_wp2
 all_goals go_end0
 all_goals exact hend.out
end Go.Proofs.YtkadkmnolkkhgaaGreatDoor.Hp

/-
 A ring with its map: what insert leaves of both.
-/
namespace Go.Proofs.YtkadkmnolkkhgaaGreatDoor.Hp
open Go Go.RowKit Go.Maps Keys
open Des (Vl Ds zeroV zeroD dcs dcs_size dcs_one)
open Arrs (En ecs ecs_0 ecs_1 ecs_10 ecs_size ecs_list ecs_one ecs_one')
def look (ns:List Nd) (k:KV):Option Nat:=(ns.find? fun n=>decide (ekey n.e=k)).map (·.b)
theorem look_cons (n:Nd) (ns:List Nd):upd (look ns) (ekey n.e) (some n.b)=look (n :: ns):=by
 funext k
 unfold upd look
 rw [List.find?_cons]
 by_cases h:k=ekey n.e
 ·subst h
  simp
 ·have h':¬ ekey n.e=k:=fun e=>h e.symm
  simp [h,h']
theorem look_none {ns:List Nd} {k:KV}:look ns k=none↔∀ n ∈ ns,ekey n.e ≠ k:=by
 unfold look
 rw [Option.map_eq_none_iff,List.find?_eq_none]
 simp
theorem look_snoc {n:Nd} {ns:List Nd} (h:look ns (ekey n.e)=none):upd (look ns) (ekey n.e) (some n.b)=look (ns++[n]):=by
 funext k
 unfold upd
 by_cases hk:k=ekey n.e
 ·subst hk
  rw [if_pos rfl]
  unfold look at h ⊢
  rw [Option.map_eq_none_iff] at h
  rw [List.find?_append,h]
  simp
 ·rw [if_neg hk]
  have h':¬ ekey n.e=k:=fun e=>hk e.symm
  unfold look
  rw [List.find?_append]
  simp [h']
theorem Ring.notmap {w:World} {pb mb n:Nat} {f:KV→Option Nat} {ns:List Nd} (h:Ring w pb mb ns) (hm:MapIs w mb n f):mb ∉ blks pb ns:=fun hb=>by
 obtain ⟨es,c,ho⟩:=hm.obj
 rcases List.mem_cons.1 hb with rfl |hb
 ·rw [show w.heap[mb]? = _ from h.head] at ho;cases ho
 ·obtain ⟨n,hn,rfl⟩:=List.mem_map.1 hb
  obtain ⟨p,q,hq⟩:=seg_at n h.seg hn
  rw [show w.heap[n.b]? = _ from hq] at ho
  cases ho
theorem Ring.cells {w:World} {pb mb:Nat} {ns:List Nd} (h:Ring w pb mb ns):∀ b ∈ blks pb ns,∃ cs t,Blk w b cs t∧(t=184∨t=187):=fun b hb=>by
 rcases List.mem_cons.1 hb with rfl |hb
 ·exact ⟨_,_,h.head,.inr rfl⟩
 ·obtain ⟨n,hn,rfl⟩:=List.mem_map.1 hb
  obtain ⟨p,q,hq⟩:=seg_at n h.seg hn
  exact ⟨_,_,hq,.inl rfl⟩
theorem Ring.notblk {w:World} {pb mb b:Nat} {ns:List Nd} {cs:Array Value} {t:TypeId} (h:Ring w pb mb ns) (hb:Blk w b cs t) (h1:t ≠ 184) (h2:t ≠ 187):b ∉ blks pb ns:=fun hm=>by
 obtain ⟨cs',t',hb',ht⟩:=h.cells b hm
 have e:Obj.cells cs t (0,0)=Obj.cells cs' t' (0,0):=Option.some.inj (hb.symm.trans hb')
 cases e
 rcases ht with e |e
 ·exact h1 e
 ·exact h2 e
theorem Ring.at_a {w:World} {pb mb:Nat} {l r:List Nd} (h:Ring w pb mb (l++r)):∃ CA tA,Blk w (lst pb l) CA tA∧CA[21]? = some (ptr (nxt r pb)):=by
 rcases snoc_cases l with rfl |⟨l',n,rfl⟩
 ·exact ⟨_,_,h.head,hcs_21 _ _ _⟩
 ·have hs:=h.seg
  rw [List.append_assoc,seg_append] at hs
  rw [lst_append]
  exact ⟨_,_,hs.2.1,ncs_21 _ _ _ _⟩
theorem Ring.at_c {w:World} {pb mb:Nat} {l r:List Nd} (h:Ring w pb mb (l++r)):∃ CC tC,Blk w (nxt r pb) CC tC∧CC[20]? = some (ptr (lst pb l)):=by
 cases r with
 | nil =>
  have hh:=h.head
  rw [List.append_nil] at hh
  exact ⟨_,_,hh,hcs_20 _ _ _⟩
 | cons n r =>
  have hs:=h.seg
  rw [seg_append] at hs
  exact ⟨_,_,hs.2.1,ncs_20 _ _ _ _⟩
theorem Ring.mem_a {pb:Nat} (l r:List Nd):lst pb l ∈ blks pb (l++r):=by
 rw [blks,List.map_append]
 rcases lst_mem l pb with ⟨h,_⟩ |h
 ·rw [h];simp
 ·exact List.mem_cons_of_mem _ (List.mem_append_left _ h)
theorem Ring.mem_c {pb:Nat} (l r:List Nd):nxt r pb ∈ blks pb (l++r):=by
 rw [blks,List.map_append]
 rcases nxt_mem r pb with ⟨h,_⟩ |h
 ·rw [h];simp
 ·exact List.mem_cons_of_mem _ (List.mem_append_right _ h)
structure Turn (w w':World) (pb mb:Nat) (ns:List Nd):Prop where
 fr:Fr w w'
 same:∀ b,b < w.heap.size→b ∉ blks pb ns→b ≠ mb→w'.heap[b]? = w.heap[b]?
theorem Turn.below {w w':World} {pb mb B:Nat} {ns:List Nd} (h:Turn w w' pb mb ns) (hn:∀ b ∈ blks pb ns,B≤b) (hm:B≤mb) (hs:B≤w.heap.size):Below B w w' :=
 ⟨h.fr.os,h.fr.tape,h.fr.output,h.fr.size,fun k hk=>h.same k (by omega) (fun hk'=>by have:=hn k hk';omega) (by omega)⟩
theorem Turn.blk {w w':World} {pb mb b:Nat} {ns:List Nd} {cs:Array Value} {t:TypeId} (h:Turn w w' pb mb ns) (hb:Blk w b cs t) (h1:b ∉ blks pb ns) (h2:b ≠ mb):Blk w' b cs t:=(h.same b hb.lt h1 h2).trans hb
structure Obj1 (w:World) (pb mb n:Nat) (ns:List Nd):Prop where
 ring:Ring w pb mb ns
 map:MapIs w mb n (look ns)
theorem Obj1.call {w w':World} {pb mb n:Nat} {ns:List Nd} (h:Obj1 w pb mb n ns) (hb:Below w.heap.size w w'):Obj1 w' pb mb n ns:=⟨h.ring.call hb,h.map.call hb⟩
theorem Obj1.old {w:World} {pb mb n:Nat} {ns:List Nd} (h:Obj1 w pb mb n ns) (o:Obj):Obj1 (w.alloc o) pb mb n ns:=h.call ((Below.refl _ w).alloc (Nat.le_refl _) o)
theorem Obj1.drew {w:World} {pb mb n:Nat} {ns:List Nd} (h:Obj1 w pb mb n ns):Obj1 w.drew pb mb n ns:=h.call (Below.refl _ w).drew
theorem ins_ring {w w':World} {pb mb n:Nat} {l r:List Nd} {e:En} {y:Ending} (h:Obj1 w pb mb n (l++r)) (hi:InsPost w mb n (lst pb l) (nxt r pb) (look (l++r)) e y w') (hl:l=[]∨r=[]∧look (l++r) (ekey e)=none) :
  y = .returned (.tuple #[])∧∃ x:Nd,x.e=e∧x.a=pto (look (l++r) (ekey e))∧w.heap.size≤x.b∧Obj1 w' pb mb (n+1) (l++x :: r)∧Turn w w' pb mb (l++r):=by
 obtain ⟨hy,x,hx,hb,hm,hw,hf⟩:=hi
 have hnm:=h.ring.notmap h.map
 have hlt:=h.ring.lt
 refine ⟨hy,⟨x,e,pto (look (l++r) (ekey e))⟩,rfl,rfl,hx,⟨h.ring.insert ⟨x,e,pto (look (l++r) (ekey e))⟩ (fun hm=>by have:=hlt _ hm;simp at this;omega) hb fun b hbm=>hw b (hlt b hbm) (fun e=>hnm (e ▸ hbm)),?_⟩,hf,fun b hb h1 h2=>?_⟩
 ·rcases hl with rfl |⟨rfl,hn⟩
  ·have:=look_cons ⟨x,e,pto (look ([]++r) (ekey e))⟩ r
   rw [List.nil_append,← this]
   exact hm
  ·rw [List.append_nil] at hm hn
   have:=look_snoc (n:=⟨x,e,pto (look (l++[]) (ekey e))⟩) hn
   rw [← this]
   exact hm
 ·rw [hw b hb h2]
  exact link_other _ _ _ _ _ _ (fun e=>h1 (e ▸ Ring.mem_a l r)) (fun e=>h1 (e ▸ Ring.mem_c l r))
theorem insert_ring {w:World} {pb mb n:Nat} {l r:List Nd} {e:En} (h:Obj1 w pb mb n (l++r)) (hn:n < 1000000) (hk:Fine (ekey e)) (hl:l=[]∨r=[]∧look (l++r) (ekey e)=none) :
  Calls Tryz.prog 126 #[ptr pb,ptr (lst pb l),.agg (ecs e)] w fun y w'=>y = .returned (.tuple #[])∧∃ x:Nd,x.e=e∧x.a=pto (look (l++r) (ekey e))∧w.heap.size≤x.b∧Obj1 w' pb mb (n+1) (l++x :: r)∧Turn w w' pb mb (l++r):=by
 obtain ⟨CA,tA,hA,hA1⟩:=h.ring.at_a
 obtain ⟨CC,tC,hC,hC1⟩:=h.ring.at_c
 exact (insert_any pb mb n _ _ _ e _ _ _ CA CC tA tC w h.ring.head hA hA1 hC hC1 h.map hn hk).mono fun y w' hi=>ins_ring h hi hl
end Go.Proofs.YtkadkmnolkkhgaaGreatDoor.Hp

/-
 The ring's iterator: what it hands on, for every loop body that keeps the ring.
-/
namespace Go.Proofs.YtkadkmnolkkhgaaGreatDoor.Hp
open Go Go.RowKit Go.Maps Go.Shelf Keys
open Des (Vl Ds zeroV zeroD dcs dcs_size dcs_one)
open Arrs (En ecs ecs_0 ecs_1 ecs_10 ecs_size ecs_list ecs_one ecs_one')
attribute [local go_sem] Oper.semAt_some
attribute [local go_sem ↓] ldE bxE bxN bdN
attribute [local irreducible] ecs ncs hcs
attribute [local go_sem] run_bx run_bdN ecs_0 ecs_1 ncs_20 ncs_21 ncs_22 hcs_23
def blkOf:Value→Nat
 | .pointer (some a)=>a.block
 | _=>0
def left (ns:List Nd) (v:Value):Nat:=(ns.dropWhile fun n=>n.b != blkOf v).length
theorem left_at {pb:Nat} {pre rest:List Nd} (h:(blks pb (pre++rest)).Nodup):left (pre++rest) (ptr (nxt rest pb))=rest.length:=by
 simp only [blks,List.map_append,List.nodup_cons,List.mem_append,not_or,List.nodup_append] at h
 obtain ⟨⟨h1,h2⟩,h3,h4,h5⟩:=h
 have key:∀ p ∈ pre,(p.b != blkOf (ptr (nxt rest pb)))=true:=fun p hp=>by
  have hm:p.b ∈ pre.map (·.b):=List.mem_map.2 ⟨p,hp,rfl⟩
  simp only [bne_iff_ne,ne_eq]
  show ¬ p.b=nxt rest pb
  rcases nxt_mem rest pb with ⟨e,_⟩ |hn
  ·rw [e];exact fun e=>h1 (e ▸ hm)
  ·exact h5 p.b hm _ hn
 unfold left
 rw [List.dropWhile_append_of_pos key]
 cases rest with
 | nil=>rfl
 | cons n r=>simp [List.dropWhile,blkOf,nxt]
def Kept (n₀ B:Nat) (W W':World):Prop:=Below n₀ W W'∧W'.heap[B]? = W.heap[B]?
theorem Kept.trans {n₀ B:Nat} {X Y Z:World} (h:Kept n₀ B X Y) (k:Kept n₀ B Y Z):Kept n₀ B X Z:=⟨h.1.trans k.1,k.2.trans h.2⟩
theorem kept_b {n₀ B s:Nat} (h:n₀≤s) (hB:B < s):∀ (W:World) (l:Nat) (o o':Obj),s≤l→W.heap[l]? = some o→o.isCells=false→o.isWalk=false→Kept n₀ B W (W.putObj l o') :=
 fun W l o o' hl hk hc hw=>⟨(Below.refl n₀ W).grown (grownBy_putObj' W l o') (by have:=(Array.getElem?_eq_some_iff.1 hk).1;omega) (fun k e=>by cases e;omega),World.putObj_heap_other (by omega)⟩
theorem sizeN:(Tryz.prog.info? 184).map (·.size)=some 23:=by kernel_rfl
theorem infoN:∃ i,Tryz.prog.info? 184=some i∧i.size=23:=by
 cases hq:Tryz.prog.info? 184 with
 | none=>have:=sizeN;rw [hq] at this;cases this
 | some i=>exact ⟨i,rfl,by have:=sizeN;rw [hq] at this;simpa using this⟩
theorem run_eqP (d:Nat) {w:World} {a b:Addr} {r:Bool} (hs:(sameAddr a b).run Tryz.prog w = .ok r w):(Op.equalIn (d+1) 182 (.pointer (some a)) (.pointer (some b))).run Tryz.prog w = .ok r w:=by
 obtain ⟨i,hq,hi⟩:=infoN
 simp [Op.equalIn,run_underlying Tryz.underlying182,sizeOf,typeInfo,hq,hi,hs]
theorem run_neP {w:World} {a b:Addr} {r:Bool} (hs:(sameAddr a b).run Tryz.prog w = .ok r w):(binOp .neq 182 (.pointer (some a)) (.pointer (some b))).run Tryz.prog w = .ok (.bool !r) w:=by
 simp only [binOp]
 simp [Op.equal,Op.maxDepth,run_eqP 9999 hs]
theorem run_neq_same (w:World) (b:Nat):(binOp .neq 182 (.pointer (some ⟨b,0,none⟩)) (.pointer (some ⟨b,0,none⟩))).run Tryz.prog w = .ok (.bool false) w:=run_neP (run_sameAddr_same w _)
theorem run_neq_other {w:World} {b c:Nat} {cb cc:Array Value} {tb tc:TypeId} (hb:Blk w b cb tb) (hc:Blk w c cc tc) (hne:b ≠ c):(binOp .neq 182 (.pointer (some ⟨b,0,none⟩)) (.pointer (some ⟨c,0,none⟩))).run Tryz.prog w = .ok (.bool true) w :=
 run_neP (run_sameAddr_other w (a:=⟨b,0,none⟩) (b:=⟨c,0,none⟩) (fun e=>hne (by cases e;rfl)) hb hc)
set_option maxRecDepth 100000 in
set_option maxHeartbeats 1000000 in
theorem all1_in (F:Fence) (n:Nat) (hf:F.fn 140) (hro:F.round=none) (hn:1≤n) (l Bn n₀ pb mb:Nat) (ns:List Nd) (hlow:∀ b ∈ blks pb ns,b < n₀) (J Jx:List En→World→Prop)
  (hY:∀ pre x W,J pre W→pre.length < ns.length→YieldAt F (n - 1) Tryz.prog l #[.agg (ecs x)] W fun e W' =>
   (e = .returned (.bool true)∧J (pre++[x]) W'∧Kept n₀ Bn W W')∨(e = .returned (.bool false)∧Jx (pre++[x]) W'))
  (W:World) (hBn:Blk W Bn #[ptr pb] 122) (hL:Ring W pb mb ns) (h0:J [] W) :
  CallsIn F n Tryz.prog 140 #[.func (.yield l) #[] #[],.pointer (some ⟨Bn,0,none⟩)] W fun e W'=>(∃ v,e = .returned v) ∧
   ((∃ ys,ys=ns.map (·.e)∧J ys W')∨(∃ pre,pre <+: ns.map (·.e)∧Jx pre W')):=by
 refine callsIn_of_wp Tryz.func140 rfl hf ?_ hro
 simp only [Tryz.ntmps140,List.size_toArray,List.length_cons,List.length_nil,Nat.reduceAdd,Nat.reduceSub,Array.replicate_succ,Array.replicate_zero,List.push_toArray,List.append_toArray,List.nil_append,List.cons_append]
 have c0:W.cell? ⟨Bn,0,none⟩=some (.pointer (some ⟨pb,0,none⟩)):=hBn.cell 0
 have c1:W.cell? ⟨pb,21,none⟩=some (.pointer (some ⟨nxt ns pb,0,none⟩)):=(hL.head.cell 21).trans (hcs_21 _ _ _)
 gi_wp2
 clear c0 c1
 gi_loopw [3] (fun p wr=>∃ (pre rest:List Nd),p = .pointer (some ⟨nxt rest pb,0,none⟩)∧Hid (ns=pre++rest)∧Ring wr pb mb ns∧Blk wr Bn #[ptr pb] 122∧J (pre.map (·.e)) wr)
  (fun p wr=>left ns p)
 case atStart =>
  exact ⟨[],ns,rfl,Lib.hid rfl,hL,hBn,h0⟩
 case round =>
  clear hBn hL h0
  obtain ⟨pre,rest,rfl,hx,hr,hb,hJs⟩:=hrel
  have c0:wr.cell? ⟨Bn,0,none⟩=some (.pointer (some ⟨pb,0,none⟩)):=hb.cell 0
  cases rest with
  | nil =>
   have hnx:nxt [] pb=pb:=rfl
   have hsame:=run_neq_same wr pb
   rw [hnx]
   clear hnx
   gi_wp2
   go_end0
   exact ⟨⟨_,rfl⟩,.inl ⟨pre.map (·.e),by rw [hx.out];simp,hJs⟩⟩
  | cons x rest =>
   have hsg:=hr.seg
   have hap:=hr.apart
   rw [hx.out] at hsg hap
   have hbl:=((seg_append wr pre (x :: rest) pb pb).1 hsg).2.1
   have hne:¬ x.b=pb:=by
    simp only [blks,List.map_append,List.map_cons,List.nodup_cons,List.mem_append,List.mem_cons,not_or] at hap
    exact fun e=>hap.1.2.1 e.symm
   have le:=run_ldE (enAt_node hbl)
   have hother:=run_neq_other hbl hr.head hne
   have hnx:nxt (x :: rest) pb=x.b:=rfl
   have hlen:(pre.map (·.e)).length < ns.length:=by rw [hx.out];simp
   obtain ⟨fn,tmps,assign,body,hy,hR⟩:=hY (pre.map (·.e)) x.e wr hJs hlen
   have HLW:=Lib.hid hlow
   have HAP:=Lib.hid hap
   clear hsg hap hbl hlow hY hlen
   rw [hnx]
   gi_wp2
   refine hR.mono ?_
   rintro e W3 (⟨rfl,hJ3,hk3⟩ |⟨rfl,hJx3⟩)
   ·have hr3:=hr.below hk3.1 HLW.out
    have hb3:Blk W3 Bn #[ptr pb] 122:=hk3.2.trans hb
    have hsg:=hr3.seg
    rw [hx.out] at hsg
    have hbl:=((seg_append W3 pre (x :: rest) pb pb).1 hsg).2.1
    have hq3:W3.cell? ⟨x.b,21,none⟩=some (.pointer (some ⟨nxt rest pb,0,none⟩)):=(hbl.cell 21).trans (ncs_21 _ _ _ _)
    clear hsg hbl le c0
    gi_wp2
    go_roundw
    case rel=>exact ⟨pre++[x],rest,rfl,Lib.hid (by rw [hx.out];simp),hr3,hb3,by rw [List.map_append];exact hJ3⟩
    case measure =>
     have h1:=left_at HAP.out
     rw [hx.out]
     have h2:=left_at (pb:=pb) (pre:=pre++[x]) (rest:=rest) (by simpa using HAP.out)
     rw [List.append_assoc,List.singleton_append] at h2
     rw [show (Value.pointer (some ⟨nxt rest pb,0,none⟩))=ptr (nxt rest pb) from rfl,h2]
     rw [show (Value.pointer (some ⟨x.b,0,none⟩))=ptr (nxt (x :: rest) pb) from rfl,h1]
     simp
   ·gi_wp2
    refine bodyPost_ret (results_none rfl _ _ _) rfl ?_
    exact ⟨⟨_,rfl⟩,.inr ⟨pre.map (·.e)++[x.e],⟨rest.map (·.e),by rw [hx.out];simp⟩,hJx3⟩⟩
set_option maxHeartbeats 1000000 in
theorem all_any (pb:Nat) (w:World):Calls Tryz.prog 106 #[ptr pb] w fun e w'=>e = .returned (.func (.func 140) #[] #[.pointer (some ⟨w.heap.size,0,none⟩)])∧w'=w.alloc (.cells #[ptr pb] 122):=by
 go_enter Tryz.func106,Tryz.ntmps106
 go_wp2
 go_ret
 exact ⟨rfl,rfl⟩
theorem all_stops (F:Fence) (n:Nat) (hf:F.fn 140) (hro:F.round=none) (hn:1≤n) (Bn n₀ pb mb:Nat) (ns:List Nd) (hlow:∀ b ∈ blks pb ns,b < n₀) (w:World) (hn₀:n₀≤w.heap.size)
  (hc:Blk w Bn #[ptr pb] 122) (hL:Ring w pb mb ns) :
  SeqStopsK F n Tryz.prog 140 #[.pointer (some ⟨Bn,0,none⟩)] (fun x:En=>#[.agg (ecs x)]) (Kept n₀ Bn) (fun ys=>ys=ns.map (·.e)) (fun pre=>pre <+: ns.map (·.e)) ns.length w:=fun l J Jx W hW _ _ hY h0 =>
 all1_in F n hf hro hn l Bn n₀ pb mb ns hlow J Jx hY W (hc.below hW hc.lt) (hL.call hW) h0
end Go.Proofs.YtkadkmnolkkhgaaGreatDoor.Hp

/-
 slices.Backward at a list of properties: what it hands on, for every loop body that keeps the list.
-/
namespace Go.Proofs.YtkadkmnolkkhgaaGreatDoor.Hp
open Go Go.RowKit Go.Maps Go.Shelf Keys
open Des (Vl Ds zeroV zeroD dcs dcs_size dcs_one)
open Arrs (En ecs ecs_0 ecs_1 ecs_10 ecs_size ecs_list ecs_one ecs_one')
attribute [local go_sem] Oper.semAt_some
attribute [local go_sem ↓] ldE bxE bxN bdN
attribute [local irreducible] ecs ncs hcs
attribute [local go_sem] run_bx run_bdN ecs_0 ecs_1 ncs_20 ncs_21 ncs_22 hcs_23
def EsAt (n₀:Nat) (ao:Option Addr) (es:List En) (w:World):Prop:=∀ j e,es[j]? = some e→∃ b off,ao=some ⟨b,off,none⟩∧b < n₀∧enAt w b (off+j*20) e
theorem EsAt.below {n₀:Nat} {ao:Option Addr} {es:List En} {w w':World} (h:EsAt n₀ ao es w) (hb:Below n₀ w w'):EsAt n₀ ao es w':=fun j e he=>by
 obtain ⟨b,off,ha,hlt,hat⟩:=h j e he
 exact ⟨b,off,ha,hlt,enAt_below hat hb hlt⟩
theorem EsAt.mono {n₀ n₁:Nat} {ao:Option Addr} {es:List En} {w:World} (h:EsAt n₀ ao es w) (hn:n₀≤n₁):EsAt n₁ ao es w:=fun j e he=>by
 obtain ⟨b,off,ha,hlt,hat⟩:=h j e he
 exact ⟨b,off,ha,by omega,hat⟩
abbrev FE:={ e:En // Fine (ekey e) }
def zeroF:FE:=⟨zeroE,by refine ⟨?_,?_,?_⟩ <;> decide⟩
theorem fe_list:∀ (es:List En),(∀ e ∈ es,Fine (ekey e))→∃ fs:List FE,fs.map (·.1)=es
 | [],_=>⟨[],rfl⟩
 | e :: es,h=>by
  obtain ⟨fs,hf⟩:=fe_list es fun x hx=>h x (by simp [hx])
  exact ⟨⟨e,h e (by simp)⟩ :: fs,by simp [hf]⟩
def back (es:List FE) (k:Nat):List (Int × FE):=(List.range k).map fun j=>(((es.length - 1 - j:Nat):Int),(es[es.length - 1 - j]?).getD zeroF)
theorem back_succ (es:List FE) (k:Nat):back es (k+1)=back es k++[(((es.length - 1 - k:Nat):Int),(es[es.length - 1 - k]?).getD zeroF)]:=by simp [back,List.range_succ]
theorem back_length (es:List FE) (k:Nat):(back es k).length=k:=by simp [back]
theorem back_all (es:List FE):(back es es.length).map (·.2)=es.reverse:=by
 apply List.ext_getElem
 ·simp [back]
 ·intro i h1 h2
  simp [back] at h1 h2
  simp only [back,List.map_map,List.getElem_map,List.getElem_range,Function.comp_apply,List.getElem_reverse]
  rw [List.getElem?_eq_getElem (by omega)]
  rfl
set_option maxRecDepth 100000 in
set_option maxHeartbeats 1000000 in
theorem back1_in (F:Fence) (n:Nat) (hf:F.fn 154) (hro:F.round=none) (hn:1≤n) (l Bn n₀:Nat) (ao:Option Addr) (cap:Nat) (es:List FE) (hlen:es.length≤1000000) (J Jx:List (Int × FE)→World→Prop)
  (hY:∀ pre x W,J pre W→pre.length < es.length→YieldAt F (n - 1) Tryz.prog l #[.int .i64 x.1,.agg (ecs x.2.1)] W fun e W' =>
   (e = .returned (.bool true)∧J (pre++[x]) W'∧Kept n₀ Bn W W')∨(e = .returned (.bool false)∧Jx (pre++[x]) W'))
  (W:World) (hBn:Blk W Bn #[.slice ao es.length cap] 37) (hL:EsAt n₀ ao (es.map (·.1)) W) (h0:J [] W) :
  CallsIn F n Tryz.prog 154 #[.func (.yield l) #[] #[],.pointer (some ⟨Bn,0,none⟩)] W fun e W'=>(∃ v,e = .returned v) ∧
   ((∃ ys,ys=back es es.length∧J ys W')∨(∃ pre,(∃ k,k≤es.length∧pre=back es k)∧Jx pre W')):=by
 refine callsIn_of_wp Tryz.func154 rfl hf ?_ hro
 simp only [Tryz.ntmps154,List.size_toArray,List.length_cons,List.length_nil,Nat.reduceAdd,Nat.reduceSub,Array.replicate_succ,Array.replicate_zero,List.push_toArray,List.append_toArray,List.nil_append,List.cons_append]
 have c0:W.cell? ⟨Bn,0,none⟩=some (.slice ao es.length cap):=hBn.cell 0
 gi_wp2
 clear c0
 gi_loopw [3] (fun p wr=>∃ k:Nat,k≤es.length∧p = .int .i64 ((es.length:Int) - 1 - k)∧EsAt n₀ ao (es.map (·.1)) wr∧Blk wr Bn #[.slice ao es.length cap] 37∧J (back es k) wr)
  (fun p wr=>(intOf p+1).toNat)
 case atStart =>
  exact ⟨0,Nat.zero_le _,by simp,hL,hBn,h0⟩
 case round =>
  clear hBn hL h0
  obtain ⟨k,hk,rfl,hr,hb,hJs⟩:=hrel
  have c0:wr.cell? ⟨Bn,0,none⟩=some (.slice ao es.length cap):=hb.cell 0
  by_cases hlt:k < es.length
  ·obtain ⟨i,hi⟩:∃ i:Nat,es.length - 1 - k=i:=⟨_,rfl⟩
   have hil:i < es.length:=by omega
   have hil2:(i:Int) < es.length:=by omega
   obtain ⟨e,he⟩:∃ e,es[i]? = some e:=⟨es[i],by simp [hil]⟩
   obtain ⟨b,off,rfl,hbl,hat⟩:=hr i e.1 (by simp [he])
   have le:=run_ldE hat
   have hie:(es.length:Int) - 1 - k=i:=by omega
   have hlen2:(back es k).length < es.length:=by rw [back_length];exact hlt
   obtain ⟨fn,tmps,assign,body,hy,hR⟩:=hY (back es k) ((i:Int),e) wr hJs hlen2
   dsimp only at hy
   have HS:Hid (back es (k+1)=back es k++[((i:Int),e)]):=by rw [back_succ,hi,he];exact Lib.hid rfl
   have HL:=Lib.hid hlt
   have HI:=Lib.hid hi
   have HIE:=Lib.hid hie
   rw [hie]
   clear hat hbl hY hlen2 hlt hi he hie
   gi_wp2
   refine hR.mono ?_
   rintro e3 W3 (⟨rfl,hJ3,hk3⟩ |⟨rfl,hJx3⟩)
   ·have hr3:=hr.below hk3.1
    have hb3:Blk W3 Bn _ 37:=hk3.2.trans hb
    clear le c0
    gi_wp2
    go_roundw
    case rel=>exact ⟨k+1,HL.out,by rw [← HIE.out];simp;omega,hr3,hb3,by rw [HS.out];exact hJ3⟩
    case measure=>simp [intOf]
   ·gi_wp2
    refine bodyPost_ret (results_none rfl _ _ _) rfl ?_
    exact ⟨⟨_,rfl⟩,.inr ⟨_,⟨k+1,HL.out,HS.out.symm⟩,hJx3⟩⟩
  ·obtain rfl:k=es.length:=by omega
   have hie:(es.length:Int) - 1 - es.length = -1:=by omega
   rw [hie]
   clear hie hlt
   gi_wp2
   go_end0
   exact ⟨⟨_,rfl⟩,.inl ⟨_,rfl,hJs⟩⟩
set_option maxHeartbeats 1000000 in
theorem back_any (ao:Option Addr) (len cap:Nat) (w:World):Calls Tryz.prog 134 #[.slice ao len cap] w fun e w'=>e = .returned (.func (.func 154) #[] #[.pointer (some ⟨w.heap.size,0,none⟩)])∧w'=w.alloc (.cells #[.slice ao len cap] 37):=by
 go_enter Tryz.func134,Tryz.ntmps134
 go_wp2
 go_ret
 exact ⟨rfl,rfl⟩
theorem back_stops (F:Fence) (n:Nat) (hf:F.fn 154) (hro:F.round=none) (hn:1≤n) (Bn n₀:Nat) (ao:Option Addr) (cap:Nat) (es:List FE) (hlen:es.length≤1000000) (w:World) (hn₀:n₀≤w.heap.size)
  (hc:Blk w Bn #[.slice ao es.length cap] 37) (hL:EsAt n₀ ao (es.map (·.1)) w) :
  SeqStopsK F n Tryz.prog 154 #[.pointer (some ⟨Bn,0,none⟩)] (fun x:Int × FE=>#[.int .i64 x.1,.agg (ecs x.2.1)]) (Kept n₀ Bn) (fun ys=>ys=back es es.length) (fun pre=>∃ k,k≤es.length∧pre=back es k) es.length w:=fun l J Jx W hW _ _ hY h0 =>
 back1_in F n hf hro hn l Bn n₀ ao cap es hlen J Jx hY W (hc.below hW hc.lt) (hL.below (hW.mono hn₀)) h0
end Go.Proofs.YtkadkmnolkkhgaaGreatDoor.Hp

/-
 collect: what a round leaves; collect at an empty list.
-/
namespace Go.Proofs.YtkadkmnolkkhgaaGreatDoor.Hp
open Go Go.RowKit Go.Maps Go.Shelf Keys
open Des (Vl Ds zeroV zeroD dcs dcs_size dcs_one)
open Arrs (En ecs ecs_0 ecs_1 ecs_10 ecs_size ecs_list ecs_one ecs_one')
attribute [local go_sem] Oper.semAt_some
attribute [local go_sem ↓] ldE bxE bxN bdN bxH bdH alE stE
attribute [local irreducible] ecs ncs hcs
attribute [local go_sem] run_bx run_bdN run_bdH run_alE run_stE ecs_0 ecs_1 ncs_20 ncs_21 ncs_22 hcs_23 hcs_20 hcs_21
theorem grown_same {w w':World} {row:Option Nat} {b:Nat} {o:Obj} (hg:w.grownBy w' row) (hr:∀ r,row=some r→∃ o:Obj,w.heap[r]? = some o∧o.isCells=false) (hb:w.heap[b]? = some o) (ho:o.isCells=true):w'.heap[b]? = w.heap[b]?:=by
 refine hg.block b (Array.getElem?_eq_some_iff.1 hb).1 fun e=>?_
 obtain ⟨o',ho',hc⟩:=hr b e.symm
 rw [hb] at ho'
 cases ho'
 rw [ho] at hc
 cases hc
theorem Ring.grown {w w':World} {row:Option Nat} {pb mb:Nat} {ns:List Nd} (h:Ring w pb mb ns) (hg:w.grownBy w' row) (hr:∀ r,row=some r→∃ o:Obj,w.heap[r]? = some o∧o.isCells=false):Ring w' pb mb ns:=h.same fun b hb=>by
 obtain ⟨cs,t,hb,_⟩:=h.cells b hb
 exact grown_same hg hr hb rfl
theorem Blk.kept {w w':World} {row:Option Nat} {b:Nat} {cs:Array Value} {t:TypeId} (h:Blk w b cs t) (hg:w.grownBy w' row) (hr:∀ r,row=some r→∃ o:Obj,w.heap[r]? = some o∧o.isCells=false):Blk w' b cs t:=(grown_same hg hr h rfl).trans h
theorem MapIs.grown {w w':World} {row:Option Nat} {m n B:Nat} {f:KV→Option Nat} (h:MapIs w m n f) (hg:w.grownBy w' row) (hr:∀ r,row=some r→B≤r) (hm:m < B):MapIs w' m n f :=
 h.same (hg.block m h.lt fun e=>by have:=hr m e.symm;omega)
structure CollInv (w0:World) (pb mb Bp B0:Nat) (pre:List (Int × FE)) (ns:List Nd) (W:World):Prop where
 obj:Obj1 W pb mb pre.length ns
 es:ns.map (·.e)=(pre.map (·.2.1)).reverse
 box:Blk W Bp #[ptr pb] 122
 low:∀ b ∈ blks pb ns,b=pb∨B0≤b
 below:Below w0.heap.size w0 W
 size:B0≤W.heap.size
 chain:Chain ns
theorem coll_own (w0:World) (pb mb Bp B0 B:Nat) (hB:w0.heap.size≤B) (hm:mb < B):OwnFrom B (fun pre W=>∃ ns,CollInv w0 pb mb Bp B0 pre ns W):=by
 rintro pre W W' row ⟨ns,⟨⟨h1,h2⟩,h3,h4,h5,h6,h7,h8⟩⟩ hg hr
 have hr2:=fun r e=>(hr r e).2
 exact ⟨ns,⟨h1.grown hg hr2,h2.grown hg (fun r e=>(hr r e).1) hm⟩,h3,h4.kept hg hr2,h5,h6.grown hg h6.size (fun k e=>Nat.le_trans hB (hr k e).1),Nat.le_trans h7 hg.size,h8⟩
theorem CollInv.notin {w0 W:World} {pb mb Bp B0 b:Nat} {pre:List (Int × FE)} {ns:List Nd} (h:CollInv w0 pb mb Bp B0 pre ns W) (h1:b ≠ pb) (h2:b < B0):b ∉ blks pb ns:=fun hm=>by
 rcases h.low b hm with e |e
 ·exact h1 e
 ·omega
theorem CollInv.step {w0 W w':World} {pb mb Bp Bn B0:Nat} {pre:List (Int × FE)} {ns:List Nd} {x:Int × FE} {nd:Nd} (h:CollInv w0 pb mb Bp B0 pre ns W) (he:nd.e=x.2.1) (hb:W.heap.size≤nd.b) (ho:Obj1 w' pb mb (pre.length+1) (nd :: ns)) (ht:Turn W w' pb mb ns) (ha:nd.a=pto (look ns (ekey x.2.1)))
  (c1:w0.heap.size≤mb) (c2:mb < pb) (c3:pb < Bp) (c4:Bp < Bn) (c5:Bn < B0) :
  KeepsFrom B0 W w'∧Kept w0.heap.size Bn W w'∧CollInv w0 pb mb Bp B0 (pre++[x]) (nd :: ns) w':=by
 have hlow:∀ b ∈ blks pb ns,w0.heap.size≤b:=fun b hb=>by
  rcases h.low b hb with e |e <;> omega
 have hsz:=h.size
 have hbel:=ht.below (B:=w0.heap.size) hlow c1 (by omega)
 refine ⟨⟨ht.fr.size,fun k o hB hk hc=>?_⟩,⟨hbel,ht.same Bn (by omega) (h.notin (by omega) (by omega)) (by omega)⟩,?_,?_,?_,?_,h.below.trans hbel,Nat.le_trans h.size ht.fr.size,h.chain.cons fun hn=>by
  rw [ha,look_none.2 (fun n hn'=>by rw [← he];exact hn n hn')]
  rfl⟩
 ·refine (ht.same k (Array.getElem?_eq_some_iff.1 hk).1 (fun hm=>?_) (by omega)).trans hk
  obtain ⟨cs,t,hb,_⟩:=h.obj.ring.cells k hm
  rw [show W.heap[k]? = _ from hb] at hk
  cases hk
  cases hc
 ·rw [List.length_append]
  exact ho
 ·simp [he,h.es]
 ·exact ht.blk h.box (h.notin (by omega) (by omega)) (by omega)
 ·intro b hbm
  rcases List.mem_cons.1 hbm with e |hbm
  ·exact .inl e
  ·rcases List.mem_cons.1 hbm with e |hbm
   ·right
    have e':b=nd.b:=e
    omega
   ·exact h.low b (List.mem_cons_of_mem _ hbm)
theorem Turn.undrew {w w':World} {pb mb:Nat} {ns:List Nd} (h:Turn w.drew w' pb mb ns):Turn w w' pb mb ns:=⟨⟨h.fr.os,h.fr.tape,h.fr.output,h.fr.size⟩,h.same⟩
def CollPost (w:World) (es:List En) (y:Ending) (w':World):Prop:=∃ pb mb ns,y = .returned (ptr pb)∧Obj1 w' pb mb es.length ns∧ns.map (·.e)=es∧(∀ b ∈ blks pb ns,w.heap.size≤b)∧w.heap.size≤mb∧Below w.heap.size w w'∧Chain ns
theorem coll_end {w W:World} {B0 D:Nat} {o':Obj} {fs:List FE} {es:List En} {ns:List Nd} (hi:CollInv w (w.heap.size+1) w.heap.size (w.heap.size+2) B0 (back fs fs.length) ns W) (hfs:Hid (fs.map (·.1)=es)) (hD:B0≤D) (hK:W.heap[D]? = some (.deferred (some []))) (h1:w.heap.size+4≤B0) (h2:w.heap.size≤B0) :
  CollPost w es (.returned (.pointer (some ⟨w.heap.size+1,0,none⟩))) (W.putObj D o'):=by
 obtain ⟨ns',hi'⟩:=(coll_own w (w.heap.size+1) w.heap.size (w.heap.size+2) B0 B0 h2 (by omega)).putObj o' ⟨ns,hi⟩ hD hK rfl
 have e1:fs.length=es.length:=by rw [← hfs.out];simp
 have e2:ns'.map (·.e)=es:=by
  rw [hi'.es]
  have:=back_all fs
  rw [show (back fs fs.length).map (·.2.1)=((back fs fs.length).map (·.2)).map (·.1) by simp,this,← hfs.out]
  simp
 refine ⟨_,_,ns',rfl,?_,e2,fun b hb=>?_,Nat.le_refl _,hi'.below,hi'.chain⟩
 ·have:=hi'.obj
  rw [back_length,e1] at this
  exact this
 ·rcases hi'.low b hb with e |e <;> omega
theorem make_mapP (n:Int) (w:World):(Instr.makeMap 185 (some (.int .i64 n))).run Tryz.prog w = .ok (.map (some w.heap.size)) (w.alloc (.map #[] 0)):=make_map Tryz.underlying185 .i64 n w
end Go.Proofs.YtkadkmnolkkhgaaGreatDoor.Hp
