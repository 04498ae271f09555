/-
 Texts of this seat in build order: RgInv, HpRound, HpColl, MoMem.
-/
import Derived.Test.YtkadkmnolkkhgaaGreatDoorMb02
import Derived.Orders
import Derived.Test.YtkadkmnolkkhgaaGreatDoorMb08
import Derived.OrdersHeld
import Derived.Test.YtkadkmnolkkhgaaGreatDoorMb09
import Derived.Laws.ResultCell
/-
 A region that draws its order, by an invariant: one step an operation, whatever the order.
-/
set_option linter.unusedVariables false
set_option linter.unusedSimpArgs false
namespace Go.Proofs.YtkadkmnolkkhgaaGreatDoor.Rg
open Go Go.RowKit
def depsOf (md:Region.Mode) (ops:Array Oper) (i:Nat):List Nat:=((ops[i]?).map fun o=>(o.after.toList.filter (Region.binds md)).map (·.on)).getD []
def acyc (md:Region.Mode) (ops:Array Oper):Bool:=(List.range ops.size).all fun i=>(depsOf md ops i).all fun d=>decide (d < i)
section
variable {P:Program} {ops:Array Oper} {Q:Exit→Act→World→Prop} {md:Region.Mode}
theorem mem_deps {i d:Nat} {o:Oper} (ho:ops[i]? = some o):d ∈ depsOf md ops i↔∃ e ∈ o.after,Region.binds md e=true∧e.on=d:=by
 simp [depsOf,ho,and_assoc]
theorem ready_iff {L:Array Bool} {i:Nat}:i ∈ Region.ready md ops L↔i < ops.size∧L.getD i true=false∧∀ d ∈ depsOf md ops i,L.getD d false=true:=by
 unfold Region.ready
 simp only [List.mem_filter,List.mem_range,Bool.and_eq_true,Bool.not_eq_true']
 constructor
 ·rintro ⟨h1,h2,h3⟩
  refine ⟨h1,h2,fun d hd=>?_⟩
  have ho:ops[i]? = some ops[i]:=Array.getElem?_eq_some_iff.2 ⟨h1,rfl⟩
  rw [ho] at h3
  simp only [Option.map_some,Option.getD_some,Array.all_eq_true_iff_forall_mem] at h3
  obtain ⟨e,he,hb,rfl⟩:=(mem_deps ho).1 hd
  have:=h3 e he
  rw [hb] at this
  simpa using this
 ·rintro ⟨h1,h2,h3⟩
  refine ⟨h1,h2,?_⟩
  have ho:ops[i]? = some ops[i]:=Array.getElem?_eq_some_iff.2 ⟨h1,rfl⟩
  rw [ho]
  simp only [Option.map_some,Option.getD_some,Array.all_eq_true_iff_forall_mem]
  intro e he
  cases hb:Region.binds md e with
  | false=>rfl
  | true=>simpa using h3 _ ((mem_deps ho).2 ⟨e,he,hb,rfl⟩)
theorem getD_set {L:Array Bool} {i j:Nat} (h:i ≠ j) (b:Bool):(L.setIfInBounds i true).getD j b=L.getD j b:=by
 simp [Array.getD_eq_getD_getElem?,Array.getElem?_setIfInBounds,h]
theorem all_of_stuck (hac:acyc md ops=true) {L:Array Bool} (hs:L.size=ops.size) (h:Region.ready md ops L=[]):∀ i,i < ops.size→L.getD i false=true:=by
 have hac':∀ i,i < ops.size→∀ d ∈ depsOf md ops i,d < i:=by
  intro i hi d hd
  unfold acyc at hac
  rw [List.all_eq_true] at hac
  have:=hac i (List.mem_range.2 hi)
  rw [List.all_eq_true] at this
  simpa using this d hd
 intro i
 induction i using Nat.strongRecOn with
 | _ i ih =>
  intro hi
  cases hc:L.getD i true with
  | true =>
   have hl:i < L.size:=by omega
   simp [Array.getD_eq_getD_getElem?,hl] at hc ⊢
   exact hc
  | false =>
   have:i ∈ Region.ready md ops L:=ready_iff.2 ⟨hi,hc,fun d hd=>ih d (hac' i hi d hd) (Nat.lt_trans (hac' i hi d hd) hi)⟩
   rw [h] at this
   cases this
def left (L:Array Bool):Nat:=L.toList.count false
theorem left_set {L:Array Bool} {i:Nat} (h:L.getD i true=false):left (L.setIfInBounds i true)+1=left L:=by
 have hl:i < L.size:=by
  rcases Nat.lt_or_ge i L.size with h' |h'
  ·exact h'
  ·simp [Array.getD_eq_getD_getElem?,Array.getElem?_eq_none h'] at h
 have hv:L[i]=false:=by simpa [Array.getD_eq_getD_getElem?,hl] using h
 unfold left
 simp only [Array.toList_setIfInBounds]
 have hl2:i < L.toList.length:=by simpa using hl
 rw [List.count_set hl2]
 have:L.toList[i]=false:=by simpa using hv
 have hpos:0 < L.toList.count false:=List.count_pos_iff.2 (by rw [← this];exact List.getElem_mem hl2)
 have hc:Array.count false L=L.toList.count false:=by simp
 simp [hv]
 omega
theorem closed_set {L:Array Bool} {i:Nat} (hc:∀ j,j < ops.size→L.getD j false=true→∀ d ∈ depsOf md ops j,L.getD d false=true) (h3:∀ d ∈ depsOf md ops i,L.getD d false=true):∀ j,j < ops.size→(L.setIfInBounds i true).getD j false=true→∀ d ∈ depsOf md ops j,(L.setIfInBounds i true).getD d false=true:=by
 have up:∀ d,L.getD d false=true→(L.setIfInBounds i true).getD d false=true:=by
  intro d hd
  by_cases hid:i=d
  ·subst hid
   have hl:i < L.size:=by
    rcases Nat.lt_or_ge i L.size with h' |h'
    ·exact h'
    ·simp [Array.getD_eq_getD_getElem?,Array.getElem?_eq_none h'] at hd
   simp [Array.getD_eq_getD_getElem?,hl]
  ·rw [getD_set hid];exact hd
 intro j hj h d hd
 by_cases hij:i=j
 ·subst hij
  exact up d (h3 d hd)
 ·rw [getD_set hij] at h
  exact up d (hc j hj h d hd)
theorem getD_no {L:Array Bool} {i:Nat} (h:L.getD i true=false):L.getD i false=false:=by
 rcases Nat.lt_or_ge i L.size with h' |h'
 ·simpa [Array.getD_eq_getD_getElem?,h'] using h
 ·simp [Array.getD_eq_getD_getElem?,Array.getElem?_eq_none h'] at h
theorem getD_same {L:Array Bool} {i:Nat} (h:i < L.size):(L.setIfInBounds i true).getD i false=true:=by
 simp [Array.getD_eq_getD_getElem?,h]
theorem not_yet {L:Array Bool} {i:Nat} (h:L.getD i true=false) (k:L.getD i false=true):False:=by rw [getD_no h] at k;cases k
theorem memOf {l:List Nat} {d:Nat} (h:l.contains d=true):d ∈ l:=by simpa using h
theorem wpAny_inv (I:Array Bool→Act→World→Prop) (hac:acyc md ops=true)
  (hstep:∀ i L a w,i < ops.size→(∀ d ∈ depsOf md ops i,L.getD d false=true)→L.getD i true=false→L.size=ops.size→(∀ j,j < ops.size→L.getD j false=true→∀ d ∈ depsOf md ops j,L.getD d false=true)→I L a w→wpOp P ops Q i (I (L.setIfInBounds i true)) a w)
  (hend:∀ L a w,(∀ i,i < ops.size→L.getD i false=true)→I L a w→Q .normal a w) :
  ∀ (fuel:Nat) (L:Array Bool) (a:Act) (w:World),L.size=ops.size→left L≤fuel→(∀ j,j < ops.size→L.getD j false=true→∀ d ∈ depsOf md ops j,L.getD d false=true)→I L a w→wpAny P md ops Q fuel L a w
 | 0,L,a,w,hs,hf,hc,hI=>by
  have hr:Region.ready md ops L=[]:=by
   apply List.eq_nil_iff_forall_not_mem.2
   intro i hi
   have:=left_set (ready_iff.1 hi).2.1
   omega
  exact ⟨hr,hend L a w (all_of_stuck hac hs hr) hI⟩
 | fuel+1,L,a,w,hs,hf,hc,hI=>by
  refine ⟨fun hr=>hend L a w (all_of_stuck hac hs hr) hI,fun i hi=>?_⟩
  obtain ⟨h1,h2,h3⟩:=ready_iff.1 hi
  refine wpOp_mono (fun a' w' h=>?_) (hstep i L a w h1 h3 h2 hs hc hI)
  exact wpAny_inv I hac hstep hend fuel _ a' w' (by simpa using hs) (by have:=left_set h2;omega) (closed_set hc h3) h
theorem region_inv {id:Nat} {a:Act} {w:World} (hm:P.follows .mixedOrders=true) (I:Array Bool→Act→World→Prop) (hac:acyc .any ops=true)
  (h0:I (Array.replicate ops.size false) a w.drew)
  (hstep:∀ i L a w,i < ops.size→(∀ d ∈ depsOf .any ops i,L.getD d false=true)→L.getD i true=false→L.size=ops.size→(∀ j,j < ops.size→L.getD j false=true→∀ d ∈ depsOf .any ops j,L.getD d false=true)→I L a w→wpOp P ops Q i (I (L.setIfInBounds i true)) a w)
  (hend:∀ L a w,(∀ i,i < ops.size→L.getD i false=true)→I L a w→Q .normal a w):(Code.region id ops true).wp P Q a w :=
 wp_region_any hm (wpAny_inv I hac hstep hend _ _ _ _ (by simp) (by unfold left;refine Nat.le_trans List.count_le_length ?_;simp) (fun j hj h=>by simp [Array.getD_eq_getD_getElem?,hj] at h) h0)
theorem step_run {i:Nat} {o:Oper} {K:Act→World→Prop} {a:Act} {w w':World} {v:Value} (hi:ops[i]? = some o) (hg:o.guard=none) (hrun:(execOp a.eval o).run P w = .ok (.value v) w') (hK:K (a.put o.dst v) w'):wpOp P ops Q i K a w:=by
 unfold wpOp
 simp only [hi]
 rw [if_pos (by simp [Region.wanted,hg])]
 left
 unfold Oper.wp
 rw [hrun]
 exact hK
theorem step_sk {i:Nat} {o:Oper} {K:Act→World→Prop} {a:Act} {w w':World} (hi:ops[i]? = some o) (hg:o.guard=none) (hrun:(execOp a.eval o).run P w = .ok .skip w') (hK:K (a.put o.dst undef) w'):wpOp P ops Q i K a w:=by
 unfold wpOp
 simp only [hi]
 rw [if_pos (by simp [Region.wanted,hg])]
 left
 unfold Oper.wp
 rw [hrun]
 exact hK
theorem step_call {i:Nat} {o:Oper} {K:Act→World→Prop} {a:Act} {w:World} {f:FuncId} {args:Array Value} {R:Ending→World→Prop} (hi:ops[i]? = some o) (hg:o.guard=none) (hrun:(execOp a.eval o).run P w = .ok (.enter f args) w) (hc:Calls P f args w R) (hR:∀ e w',R e w'→∃ v,e = .returned v∧K (a.put o.dst v) w'):wpOp P ops Q i K a w:=by
 unfold wpOp
 simp only [hi]
 rw [if_pos (by simp [Region.wanted,hg])]
 left
 unfold Oper.wp
 rw [hrun]
 refine Calls.mono hc ?_
 intro e w' he
 obtain ⟨v,rfl,hk⟩:=hR e w' he
 exact hk
end
end Go.Proofs.YtkadkmnolkkhgaaGreatDoor.Rg

/-
 A region that draws its order, in a round of a loop over an iterator: out of what holds of it outside.
-/
namespace Go.Proofs.YtkadkmnolkkhgaaGreatDoor.Hp
open Go Go.RowKit Go.Shelf
open Des (Vl Ds zeroV zeroD dcs dcs_size dcs_one)
open Arrs (En ecs ecs_0 ecs_1 ecs_10 ecs_size ecs_list ecs_one ecs_one')
def noDefer (ops:Array Oper):Bool:=ops.all fun o=>match o.op with |.defer _=>false |_=>true
theorem noDefer_spec {ops:Array Oper} (h:noDefer ops=true) {i:Nat} {o:Oper} (ho:ops[i]? = some o):∀ c,o.op ≠ .defer c:=fun c e=>by
 unfold noDefer at h
 rw [Array.all_eq_true_iff_forall_mem] at h
 have:=h o (Array.mem_of_getElem? ho)
 rw [e] at this
 cases this
theorem wpIn_of_wp_op {P:Program} {l n:Nat} {o:Oper} (hd:∀ c,o.op ≠ .defer c) {Q:Exit→Act→World→Prop} (hQ:¬ LetsOut Q) {K K':Act→World→Prop} (hK:∀ a w,K a w→K' a w) {a:Act} {w:World} (h:o.wp P a w K Q∨(o.asks P a w∧LetsOut Q)):o.wpIn (Fence.wide.inRound l) n P a w K' Q:=by
 rcases h with h |⟨_,h⟩
 ·refine ⟨fun _ _=>trivial,?_⟩
  rw [Fence.inRound_round,Oper.semAt_some l _ _ hd]
  unfold Oper.wp at h
  cases hr:(execOp a.eval o).run P w with
  | ok nx w' =>
   rw [hr] at h
   cases nx with
   | value v=>exact hK _ _ h
   | skip=>exact hK _ _ h
   | defer d=>exact hK _ _ h
   | enter f args =>
    refine ⟨(fun h=>by cases h),CallsIn.inRound l (callsIn_wide.2 (Calls.mono h ?_))⟩
    intro e w'' he
    cases e with
    | returned v=>exact hK _ _ he
    | panicked c=>exact he
    | outgrown=>exact he
   | row row args=>exact ⟨(fun h=>by cases h),fun c cs _=>let ⟨v,w2,r,s⟩:=h c cs;⟨v,w2,hK _ _ r,stepsIn_wide.2 s⟩⟩
   | round=>exact h.elim
   | _=>exact h.elim
  | halt x w' =>
   rw [hr] at h
   cases x with
   | panic v=>exact h
   | _=>exact h.elim
 ·exact absurd h hQ
theorem wpAnyIn_of_wpAny {P:Program} {l n:Nat} {md:Region.Mode} {ops:Array Oper} (hd:noDefer ops=true) {Q:Exit→Act→World→Prop} (hQ:¬ LetsOut Q):∀ (fuel:Nat) (listed:Array Bool) (a:Act) (w:World),wpAny P md ops Q fuel listed a w→wpAnyIn (Fence.wide.inRound l) n P md ops Q fuel listed a w
 | 0,_,_,_,h=>h
 | fuel+1,listed,a,w,h=>by
  refine ⟨h.1,fun i hi=>?_⟩
  have h2:=h.2 i hi
  unfold wpOp at h2
  unfold wpOpIn
  cases ho:ops[i]? with
  | none =>
   rw [ho] at h2
   exact wpAnyIn_of_wpAny hd hQ fuel _ a w h2
  | some o =>
   rw [ho] at h2
   simp only at h2 ⊢
   split
   ·rename_i hw
    rw [if_pos hw] at h2
    exact wpIn_of_wp_op (noDefer_spec hd ho) hQ (fun a w h=>wpAnyIn_of_wpAny hd hQ fuel _ a w h) h2
   ·rename_i hw
    rw [if_neg hw] at h2
    exact ⟨fun _ _=>trivial,wpAnyIn_of_wpAny hd hQ fuel _ _ w h2⟩
theorem region_in_round {P:Program} {l n id:Nat} {ops:Array Oper} (hm:P.follows .mixedOrders=true) (hd:noDefer ops=true) {Q:Exit→Act→World→Prop} (hQ:¬ LetsOut Q) {a:Act} {w:World} {S:World→Prop} (h:wpAnyH P .any ops Q S ops.size (Array.replicate ops.size false) a w.drew):(Code.region id ops true).wpIn (Fence.wide.inRound l) n P Q a w :=
 wpIn_region_any hm (wpAnyIn_of_wpAny hd hQ _ _ _ _ (wpAny_of_held _ _ _ _ h))
theorem yields_load {P:Program} {ops:Array Oper} {S:World→Prop} {o:Oper} {a:Act} {T:TypeId} {x:Operand} {y v:Value} (hg:o.guard=none) (hop:o.op = .load T x) (hx:a.eval x=y) (hrun:∀ w,S w→(Instr.loadAt T y).run P w = .ok v w):YieldsIf P ops S o v a :=
 .inl ⟨by simp [Region.wanted,hg],fun w hw=>by simp [execOp,hop,hx,hrun w hw]⟩
theorem yields_nil {P:Program} {ops:Array Oper} {S:World→Prop} {o:Oper} {a:Act} {x:Operand} {p:Addr} (hg:o.guard=none) (hop:o.op = .nilCheck x) (hx:a.eval x = .pointer (some p)):YieldsIf P ops S o (.pointer (some p)) a :=
 .inl ⟨by simp [Region.wanted,hg],fun w hw=>by simp [execOp,hop,hx]⟩
theorem yields_run {P:Program} {ops:Array Oper} {S:World→Prop} {o:Oper} {a:Act} {v:Value} (hg:o.guard=none) (hrun:∀ w,(execOp a.eval o).run P w = .ok (.value v) w):YieldsIf P ops S o v a :=
 .inl ⟨by simp [Region.wanted,hg],fun w hw=>hrun w⟩
theorem call_last {P:Program} {ops:Array Oper} {Q:Exit→Act→World→Prop} {i:Nat} {o:Oper} {K:Act→World→Prop} {a:Act} {w:World} {f:FuncId} {args:Array Value} {R:Ending→World→Prop} (hi:ops[i]? = some o) (hg:o.guard=none) (hrun:(execOp a.eval o).run P w = .ok (.enter f args) w) (hc:Calls P f args w R) (hR:∀ e w',R e w'→∃ v,e = .returned v∧K (a.put o.dst v) w'):wpOp P ops Q i K a w:=by
 unfold wpOp
 simp only [hi]
 rw [if_pos (by simp [Region.wanted,hg])]
 left
 unfold Oper.wp
 rw [hrun]
 refine Calls.mono hc ?_
 intro e w' he
 obtain ⟨v,rfl,hk⟩:=hR e w' he
 exact hk
end Go.Proofs.YtkadkmnolkkhgaaGreatDoor.Hp

/-
 collect: a list of properties becomes a ring.
-/
namespace Go.Proofs.YtkadkmnolkkhgaaGreatDoor.Hp
open Go Go.RowKit Go.Maps Go.Shelf Keys
open Des (Vl Ds zeroV zeroD dcs dcs_size dcs_one)
open Arrs (En ecs ecs_0 ecs_1 ecs_10 ecs_size ecs_list ecs_one ecs_one')
attribute [local go_sem] Oper.semAt_some
attribute [local go_sem ↓] ldE bxE bxN bdN bxH bdH alE stE
attribute [local irreducible] ecs ncs hcs
attribute [local go_sem] run_bx run_bdN run_bdH run_alE run_stE ecs_0 ecs_1 ncs_20 ncs_21 ncs_22 hcs_23 hcs_20 hcs_21
set_option maxRecDepth 100000 in
set_option maxHeartbeats 4000000 in
theorem collect_any (ao:Option Addr) (cap:Nat) (es:List En) (w:World) (hlen:es.length≤1000000) (hes:EsAt w.heap.size ao es w) (hf:∀ e ∈ es,Fine (ekey e)) :
  Calls Tryz.prog 99 #[.slice ao es.length cap] w (CollPost w es):=by
 obtain ⟨W1,hW1⟩:∃ W1,((w.alloc (.map #[] 0)).alloc (.cells (hcs nilP nilP w.heap.size) 187)).alloc (.cells #[ptr (w.heap.size+1)] 122)=W1:=⟨_,rfl⟩
 have k1:W1.heap.size=w.heap.size+3:=by rw [← hW1];simp
 have bp:Blk W1 (w.heap.size+1) (hcs nilP nilP w.heap.size) 187:=by
  have:=(Blk.new (w.alloc (.map #[] 0)) (hcs nilP nilP w.heap.size) 187).old (.cells #[ptr (w.heap.size+1)] 122)
  rw [hW1,World.size_alloc] at this
  exact this
 have bx:Blk W1 (w.heap.size+2) #[ptr (w.heap.size+1)] 122:=by
  have:=Blk.new ((w.alloc (.map #[] 0)).alloc (.cells (hcs nilP nilP w.heap.size) 187)) #[ptr (w.heap.size+1)] 122
  rw [hW1,World.size_alloc,World.size_alloc] at this
  exact this
 have hm1:MapIs W1 w.heap.size 0 (look []):=by
  rw [← hW1]
  exact ((MapIs.made w).old _).old _
 have hb1:Below w.heap.size w W1:=by rw [← hW1];exact (((Below.refl _ w).alloc (Nat.le_refl _) _).alloc (by simp) _).alloc (by simp;omega) _
 have c0:W1.cell? ⟨w.heap.size+2,0,none⟩=some (.pointer (some ⟨w.heap.size+1,0,none⟩)):=bx.cell 0
 have c20:W1.cell? ⟨w.heap.size+1,20,none⟩=some (.pointer none):=(bp.cell 20).trans (hcs_20 _ _ _)
 have c21:W1.cell? ⟨w.heap.size+1,21,none⟩=some (.pointer none):=(bp.cell 21).trans (hcs_21 _ _ _)
 have f20:=bp.frozen 20
 have f21:=bp.frozen 21
 have d20:(W1.setCell ⟨w.heap.size+1,21,none⟩ (.pointer (some ⟨w.heap.size+1,0,none⟩))).cell? ⟨w.heap.size+1,20,none⟩=some (.pointer none):=by rw [World.cell?_setCell_other _ _ _ _ (by simp)];exact c20
 have d21:(W1.setCell ⟨w.heap.size+1,20,none⟩ (.pointer (some ⟨w.heap.size+1,0,none⟩))).cell? ⟨w.heap.size+1,21,none⟩=some (.pointer none):=by rw [World.cell?_setCell_other _ _ _ _ (by simp)];exact c21
 have e20:(W1.setCell ⟨w.heap.size+1,20,none⟩ (.pointer (some ⟨w.heap.size+1,0,none⟩))).cell? ⟨w.heap.size+2,0,none⟩=some (.pointer (some ⟨w.heap.size+1,0,none⟩)):=by rw [World.cell?_setCell_other _ _ _ _ (by simp)];exact c0
 have e21:(W1.setCell ⟨w.heap.size+1,21,none⟩ (.pointer (some ⟨w.heap.size+1,0,none⟩))).cell? ⟨w.heap.size+2,0,none⟩=some (.pointer (some ⟨w.heap.size+1,0,none⟩)):=by rw [World.cell?_setCell_other _ _ _ _ (by simp)];exact c0
 obtain ⟨W2,hW2⟩:∃ W2,link W1 (w.heap.size+1) (w.heap.size+1) (ptr (w.heap.size+1)) (ptr (w.heap.size+1))=W2:=⟨_,rfl⟩
 have hlk1:(W1.setCell ⟨w.heap.size+1,21,none⟩ (.pointer (some ⟨w.heap.size+1,0,none⟩))).setCell ⟨w.heap.size+1,20,none⟩ (.pointer (some ⟨w.heap.size+1,0,none⟩))=W2:=hW2
 have hlk2:(W1.setCell ⟨w.heap.size+1,20,none⟩ (.pointer (some ⟨w.heap.size+1,0,none⟩))).setCell ⟨w.heap.size+1,21,none⟩ (.pointer (some ⟨w.heap.size+1,0,none⟩))=W2:=by rw [setCell_comm];exact hW2
 have k2:W2.heap.size=w.heap.size+3:=by rw [← hW2,link_size,k1]
 have hob:Obj1 W2 (w.heap.size+1) w.heap.size 0 []:=by
  refine ⟨⟨?_,trivial,by simp [blks]⟩,?_⟩
  ·have:=(bp.set 21 (ptr (w.heap.size+1))).set 20 (ptr (w.heap.size+1))
   rw [hcs_set21,hcs_set20] at this
   rw [← hW2]
   exact this
  ·rw [← hW2]
   exact hm1.same (link_other _ _ _ _ _ _ (by omega) (by omega))
 have bx2:Blk W2 (w.heap.size+2) #[ptr (w.heap.size+1)] 122:=by
  rw [← hW2]
  exact (link_other _ _ _ _ _ _ (by omega) (by omega)).trans bx
 have hb2:Below w.heap.size w W2:=by rw [← hW2];exact (hb1.setCell (p:=⟨w.heap.size+1,21,none⟩) (by simp) _).setCell (p:=⟨w.heap.size+1,20,none⟩) (by simp) _
 have HOB:=Lib.hid hob
 have HBX:=Lib.hid bx2
 have HB2:=Lib.hid hb2
 have HES:=Lib.hid hes
 have HF:=Lib.hid hf
 clear hob bx2 hb2 hes hf hW2 hm1 bp bx hb1
 have hmm:=make_mapP
 refine (callsIn_wide (n:=9)).1 ?_
 refine callsIn_of_wp_marks Tryz.func99 rfl trivial ?_ rfl
 simp only [Tryz.ntmps99,List.size_toArray,List.length_cons,List.length_nil,Nat.reduceAdd,Nat.reduceSub,Array.replicate_succ,Array.replicate_zero,List.push_toArray,List.append_toArray,List.nil_append,List.cons_append]
 gi_wp2
 gi_region
 all_goals gi_wp2_with (refine ⟨trivial,?_⟩;gi_at_call 134;refine (callsIn_wide.2 (back_any _ _ _ _)).mono ?_;rintro e w' ⟨rfl,rfl⟩)
 generalize Value.pointer (some ⟨w.heap.size+1,0,none⟩)=u1
 generalize Value.pointer (some ⟨w.heap.size+1,20,none⟩)=u2
 generalize Value.pointer (some ⟨w.heap.size+1,21,none⟩)=u3
 generalize Value.agg (hcs nilP nilP w.heap.size)=u4
 generalize Value.int IntKind.i64 es.length=u5
 generalize Value.map (some w.heap.size)=u6
 obtain ⟨W0,hW0⟩:∃ W0,(W2.alloc (.cells #[.slice ao es.length cap] 37)).drew=W0:=⟨_,rfl⟩
 have k0:W0.heap.size=w.heap.size+4:=by rw [← hW0];simp [k2]
 have b02:Below W2.heap.size W2 W0:=by rw [← hW0];exact ((Below.refl _ W2).alloc (Nat.le_refl _) _).drew
 have bn:Blk W0 (w.heap.size+3) #[.slice ao es.length cap] 37:=by
  have:=Blk.new W2 #[.slice ao es.length cap] 37
  rw [k2] at this
  rw [← hW0]
  exact this.drew
 have o0:=HOB.out.call b02
 have x0:=HBX.out.call b02
 have l0:Below w.heap.size w W0:=HB2.out.trans (b02.mono (by omega))
 rw [hW0]
 clear hlk1 hlk2 e20 e21 d20 d21 f20 f21 c20 c21 c0 hmm hW1 hW0 k1 b02
 obtain ⟨fs,hfs⟩:=fe_list es HF.out
 have hfl:fs.length=es.length:=by rw [← hfs];simp
 have hFSx:=Lib.hid hfs
 have bn':Blk W0 (w.heap.size+3) #[.slice ao fs.length cap] 37:=by rw [hfl];exact bn
 refine wpIn_rangeFunc_ownH (F:=Fence.wide) rfl (by omega) (gf:=154) (lb:=#[.pointer (some ⟨w.heap.size+3,0,none⟩)]) rfl trivial (enters_of Tryz.func154 (by kernel_rfl) rfl)
  (back_stops Fence.wide (9 - 1) trivial rfl (by omega) (w.heap.size+3) w.heap.size ao cap fs (by omega) W0 (by omega) bn' (by rw [hfs];exact HES.out.below l0)) (fun h k=>h.trans k) (kept_b (by omega) (by omega)) (Below.refl _ _) (fun _=>rfl)
  (fun pre W=>∃ ns,CollInv w (w.heap.size+1) w.heap.size (w.heap.size+2) W0.heap.size pre ns W) (fun _ _ _=>False)
  (coll_own _ _ _ _ _ _ (by omega) (by omega)) (fun _ _ _ _ _ hs _ _=>hs)
  ⟨[],o0,rfl,x0,by simp [blks],l0,Nat.le_refl _,Chain.nil⟩
  (fun x a' W=>∃ Bx,Blk W Bx (ecs x.2.1) 36∧a'={ tmps:=#[.slice ao es.length cap,undef,.pointer none,.pointer (some ⟨w.heap.size+1+1,0,none⟩),undef,.pointer (some ⟨Bx,0,none⟩),.slice ao es.length cap,u5,u6,u4,ptr (w.heap.size+1),u1,u1,u1,u1,u1,u1,u1,u1,u1,u1,u2,u1,u1,u3,.slice ao es.length cap,.func (.func 154) #[] #[.pointer (some ⟨w.heap.size+3,0,none⟩)],.int .i64 x.1,.agg (ecs x.2.1),undef,undef,undef,undef,undef,undef,undef],defers:=[] })
  (fun x a' _ X Y row hs hg hr=>by obtain ⟨Bx,h1,h2⟩:=hs;exact ⟨Bx,h1.kept hg (fun r e=>(hr r e).2),h2⟩)
  ?assign ?body ?done ?stop
 case assign =>
  clear bn bn' o0 x0 l0
  rintro l pre x W K ⟨ns,hi⟩ hK
  gi_wp2
  exact hK _ _ ((KeepsOthers.alloc _ _).from _) ⟨(Below.refl _ W).alloc hi.below.size _,heap_alloc_old _ _ (by have:=hi.size;omega)⟩ ⟨ns,hi.obj.old _,hi.es,hi.box.old _,hi.low,hi.below.alloc hi.below.size _,by have:=hi.size;simp;omega,hi.chain⟩ ⟨W.heap.size,Blk.new W _ _,rfl⟩
 case body =>
  clear bn bn' o0 x0 l0
  rintro l pre x a' W hl hr ⟨ns,hi⟩ ⟨Bx,bX,rfl⟩ hlt
  have c0:W.cell? ⟨w.heap.size+2,0,none⟩=some (.pointer (some ⟨w.heap.size+1,0,none⟩)):=hi.box.cell 0
  have le:(Ld 36 (.pointer (some ⟨Bx,0,none⟩))).run Tryz.prog W.drew = .ok (.agg (ecs x.2.1)) W.drew:=run_ldE (w:=W.drew) (bX.range (r:=[]) (by simp))
  have hmx:Tryz.prog.follows .mixedOrders=true:=by kernel_rfl
  have hins:Calls Tryz.prog 126 #[ptr (w.heap.size+1),ptr (w.heap.size+1),.agg (ecs x.2.1)] W.drew fun y w'=>y = .returned (.tuple #[])∧∃ nd:Nd,nd.e=x.2.1∧nd.a=pto (look ns (ekey x.2.1))∧W.drew.heap.size≤nd.b∧Obj1 w' (w.heap.size+1) w.heap.size (pre.length+1) (nd :: ns)∧Turn W.drew w' (w.heap.size+1) w.heap.size ns :=
   insert_ring (l:=[]) (r:=ns) hi.obj.drew (by omega) x.2.2 (.inl rfl)
  have hload:∀ w':World,(w'.cell? ⟨w.heap.size+2,0,none⟩=some (ptr (w.heap.size+1))∧enAt w' Bx 0 x.2.1)→(Instr.loadAt 122 (.pointer (some ⟨w.heap.size+1+1,0,none⟩))).run Tryz.prog w' = .ok (ptr (w.heap.size+1)) w':=fun w' h=>by
   have h1:w'.cell? ⟨w.heap.size+1+1,0,none⟩=some (ptr (w.heap.size+1)):=h.1
   simp [go_sem,h1]
  have hloadE:∀ w':World,(w'.cell? ⟨w.heap.size+2,0,none⟩=some (ptr (w.heap.size+1))∧enAt w' Bx 0 x.2.1)→(Instr.loadAt 36 (.pointer (some ⟨Bx,0,none⟩))).run Tryz.prog w' = .ok (.agg (ecs x.2.1)) w':=fun w' h=>run_ldE h.2
  gi_wp2
  refine region_in_round hmx (by kernel_rfl) (fun ⟨_,_,h⟩=>h) (S:=fun w'=>w'.cell? ⟨w.heap.size+2,0,none⟩=some (ptr (w.heap.size+1))∧enAt w' Bx 0 x.2.1) ?_
  have hS:W.drew.cell? ⟨w.heap.size+2,0,none⟩=some (ptr (w.heap.size+1))∧enAt W.drew Bx 0 x.2.1:=⟨c0,bX.range (r:=[]) (by simp)⟩
  refine wpAnyH_take (i:=0) (v:=ptr (w.heap.size+1)) rfl (by kernel_rfl) (by kernel_rfl) (by kernel_rfl) (fun _ _ _ h=>h) (yields_load rfl rfl rfl hload) hS ?_
  refine wpAnyH_take (i:=1) (v:=ptr (w.heap.size+1)) rfl (by kernel_rfl) (by kernel_rfl) (by kernel_rfl) (fun _ _ _ h=>h) (yields_load rfl rfl rfl hload) hS ?_
  refine wpAnyH_take (i:=2) (v:=ptr (w.heap.size+1)) rfl (by kernel_rfl) (by kernel_rfl) (by kernel_rfl) (fun _ _ _ h=>h) (yields_nil rfl rfl rfl) hS ?_
  refine wpAnyH_take (i:=3) (v:=ptr (w.heap.size+1)) rfl (by kernel_rfl) (by kernel_rfl) (by kernel_rfl) (fun _ _ _ h=>h) (yields_run rfl (fun w'=>by simp [go_sem,Act.eval,Act.put])) hS ?_
  refine wpAnyH_take (i:=4) (v:=.agg (ecs x.2.1)) rfl (by kernel_rfl) (by kernel_rfl) (by kernel_rfl) (fun _ _ _ h=>h) (yields_load rfl rfl rfl hloadE) hS ?_
  refine wpAnyH_all (rs:=[5]) (by kernel_rfl) (by simp) ?_
  intro i hi5
  obtain rfl:i=5:=by simpa using hi5
  refine call_last rfl rfl (f:=126) (args:=#[ptr (w.heap.size+1),ptr (w.heap.size+1),.agg (ecs x.2.1)]) (by simp [go_sem,Act.eval,Act.put]) hins ?_
  rintro e w' ⟨rfl,nd,he,ha,hb,ho,ht⟩
  refine ⟨_,rfl,?_,wpAnyH_done (by kernel_rfl) ?_ _⟩
  ·refine ⟨(ht.undrew.blk hi.box (hi.notin (by omega) (by omega)) (by omega)).cell 0,(ht.undrew.blk bX (hi.obj.ring.notblk bX (by decide) (by decide)) ?_).range (r:=[]) (by simp)⟩
   intro e
   obtain ⟨es',c',ho'⟩:=hi.obj.map.obj
   rw [← e,show W.heap[Bx]? = _ from bX] at ho'
   cases ho'
  ·have h:=hi.step (Bn:=w.heap.size+3) he hb ho ht.undrew ha (Nat.le_refl _) (by omega) (by omega) (by omega) (by omega)
   exact ⟨h.1,h.2.1,_,h.2.2⟩
 case done =>
  clear bn bn' o0 x0 l0
  rintro D ys W hD rfl ⟨ns,hi⟩ hK
  have c0:W.cell? ⟨w.heap.size+2,0,none⟩=some (.pointer (some ⟨w.heap.size+1,0,none⟩)):=hi.box.cell 0
  have hend:=coll_end (fs:=fs) (es:=es) (o':=.deferred none) (D:=D) hi hFSx hD hK (by omega) (by omega)
  gi_wp2
  refine ⟨by simp,.inl ⟨_,_,rfl,run_takeDeferred hK,?_⟩⟩
  refine ⟨_,results_tmp rfl _ _ _,?_⟩
  simp only [] at hend ⊢
  exact hend
 case stop =>
  rintro D c pre W _ _ h _
  exact h.elim
end Go.Proofs.YtkadkmnolkkhgaaGreatDoor.Hp

/-
 Replies and worlds in memory.
-/
namespace Go.Proofs.YtkadkmnolkkhgaaGreatDoor.Mo
open Go Go.RowKit Go.Maps Go.Shelf Keys Hp
open Des (Vl Ds zeroV zeroD dcs dcs_size dcs_one)
open Arrs (En ecs ecs_0 ecs_1 ecs_10 ecs_size ecs_list ecs_one ecs_one')
structure Rp where
 flow:Int
 v:Vl
 ok:Bool
 has:Bool
 d:Ds
 keys:Value
def zeroR:Rp:=⟨0,zeroV,false,false,zeroD,nilS⟩
def vcs (v:Vl):Array Value:=#[.int .i64 v.k,.int .i64 v.n,.string v.s]
def rcs (r:Rp):Array Value:=#[.int .i64 r.flow,.int .i64 r.v.k,.int .i64 r.v.n,.string r.v.s,.bool r.ok,.bool r.has,.bool r.d.hv,.bool r.d.hg,.bool r.d.hs,.bool r.d.hw,.bool r.d.he,.bool r.d.hc,.int .i64 r.d.v.k,.int .i64 r.d.v.n,.string r.d.v.s,.int .i64 r.d.g.k,.int .i64 r.d.g.n,.string r.d.g.s,.int .i64 r.d.s.k,.int .i64 r.d.s.n,.string r.d.s.s,.bool r.d.w,.bool r.d.e,.bool r.d.c,r.keys]
theorem rcs_size (r:Rp):(rcs r).size=25:=rfl
theorem rcs_0 (r:Rp):(rcs r)[0]? = some (.int .i64 r.flow):=rfl
def Rp.good (r:Rp):Prop:=∃ a n c,r.keys = .slice a n c
theorem zeroR_good:zeroR.good:=⟨_,_,_,rfl⟩
theorem rcs_one {r:Rp} (h:r.good):(rcs r).all (·.oneCell')=true:=by
 obtain ⟨a,n,c,h1⟩:=h
 unfold rcs
 rw [h1]
 simp [Value.oneCell']
theorem ldR (v:Value):Instr.loadAt 57 v=Ld 57 v:=(rfl)
theorem stR (p v:Value):Instr.storeAt 57 p v=St 57 p v:=(rfl)
theorem alR:Instr.alloc 57 true (.tuple #[])=Al 57:=(rfl)
theorem bxR (v:Value):Instr.box 57 v=Bx 57 v:=(rfl)
theorem bdR (ps:Array (Nat × Value)):Instr.build 57 ps=Bd 57 ps:=(rfl)
theorem bdD (ps:Array (Nat × Value)):Instr.build 34 ps=Bd 34 ps:=(rfl)
theorem bdE (ps:Array (Nat × Value)):Instr.build 36 ps=Bd 36 ps:=(rfl)
theorem infoR:(Tryz.prog.info? 57).map (fun i=>(i.zero,i.size))=some (some (.agg (rcs zeroR)),25):=by kernel_rfl
theorem sizeR:(Tryz.prog.info? 57).map (·.size)=some 25:=by kernel_rfl
theorem run_alR (w:World):(Al 57).run Tryz.prog w = .ok (ptr w.heap.size) (w.alloc (.cells (rcs zeroR) 57)):=run_al infoR w
theorem run_ldRp {w:World} {b:Nat} {r:Rp} {T:TypeId} (h:Blk w b (rcs r) T):(Ld 57 (.pointer (some ⟨b,0,none⟩))).run Tryz.prog w = .ok (.agg (rcs r)) w:=by
 have:=run_loadAt_mid (P:=Tryz.prog) w b 0 57 (rcs r).toList _ (h.range (r:=[]) (by simp)) Tryz.underlying57 rfl sizeR
 simpa [Ld] using this
theorem run_stRp {w:World} {b:Nat} {o r:Rp} (h:Blk w b (rcs o) 57) (hr:r.good):(St 57 (.pointer (some ⟨b,0,none⟩)) (.agg (rcs r))).run Tryz.prog w = .ok () (w.setRow b (rcs r)) :=
 run_st_row h (by rw [rcs_size];exact sizeR) (by rw [rcs_size,rcs_size]) (rcs_one hr)
theorem run_stRn (w:World) (r o:Rp) (h:r.good):(St 57 (.pointer (some ⟨w.heap.size,0,none⟩)) (.agg (rcs r))).run Tryz.prog (w.alloc (.cells (rcs o) 57)) = .ok () (w.alloc (.cells (rcs r) 57)):=by
 rw [run_stRp (Blk.new w (rcs o) _) h,setRow_new]
theorem blk_newg {w:World} {g:Nat} {cs:Array Value} {t:TypeId} (hg:g=w.heap.size):Blk (w.alloc (.cells cs t)) g cs t:=by
 subst hg
 exact Blk.new w cs t
theorem run_stRg (w:World) (g:Nat) (r o:Rp) (h:r.good) (hg:g=w.heap.size):(St 57 (.pointer (some ⟨g,0,none⟩)) (.agg (rcs r))).run Tryz.prog (w.alloc (.cells (rcs o) 57)) = .ok () (w.alloc (.cells (rcs r) 57)):=by
 subst hg
 exact run_stRn w r o h
theorem run_stDg (w:World) (g:Nat) (r o:Ds) (hg:g=w.heap.size):(St 34 (.pointer (some ⟨g,0,none⟩)) (.agg (dcs r))).run Tryz.prog (w.alloc (.cells (dcs o) 34)) = .ok () (w.alloc (.cells (dcs r) 34)):=by
 subst hg
 exact run_stD w r o
theorem run_bdR0 (w:World):(Bd 57 #[]).run Tryz.prog w = .ok (.agg (rcs zeroR)) w:=run_build w _ _ _ (by kernel_rfl)
theorem run_bdR1 (w:World) (f:Int):(Bd 57 #[(0,.int .i64 f)]).run Tryz.prog w = .ok (.agg (rcs { zeroR with flow:=f })) w:=run_build w _ _ _ (by kernel_rfl)
theorem run_bdR2 (w:World) (f k n:Int) (s:ByteArray):(Bd 57 #[(0,.int .i64 f),(1,.agg #[.int .i64 k,.int .i64 n,.string s])]).run Tryz.prog w = .ok (.agg (rcs { zeroR with flow:=f,v:=⟨k,n,s⟩ })) w:=run_build w _ _ _ (by kernel_rfl)
def dataD (v:Vl) (w e c:Bool):Ds:=⟨true,false,false,true,true,true,v,zeroV,zeroV,w,e,c⟩
theorem run_bdData (W:World) (k n:Int) (s:ByteArray) (w e c:Bool):(Bd 34 #[(0,.bool true),(6,.agg #[.int .i64 k,.int .i64 n,.string s]),(3,.bool true),(9,.bool w),(4,.bool true),(10,.bool e),(5,.bool true),(11,.bool c)]).run Tryz.prog W = .ok (.agg (dcs (dataD ⟨k,n,s⟩ w e c))) W:=run_build W _ _ _ (by kernel_rfl)
theorem run_bdEn (W:World) (ks:ByteArray) (kn:Int) (d:Ds):(Bd 36 #[(0,.agg #[.string ks,.int .i64 kn]),(1,.agg (dcs d))]).run Tryz.prog W = .ok (.agg (ecs ⟨ks,kn,d⟩)) W:=run_build W _ _ _ (by kernel_rfl)
def wcs (hb:Nat) (cl:Value) (fuel deep depth deepest:Int) (lg:Value):Array Value:=#[ptr hb,cl,.int .i64 fuel,.int .i64 deep,.int .i64 depth,.int .i64 deepest,lg]
theorem vcs_size (v:Vl):(vcs v).size=3:=rfl
theorem vcs_0 (v:Vl):(vcs v)[0]? = some (.int .i64 v.k):=rfl
theorem vcs_1 (v:Vl):(vcs v)[1]? = some (.int .i64 v.n):=rfl
theorem vcs_one (v:Vl):(vcs v).all (·.oneCell')=true:=by simp [vcs,Value.oneCell']
theorem ldV (v:Value):Instr.loadAt 30 v=Ld 30 v:=(rfl)
theorem stV (p v:Value):Instr.storeAt 30 p v=St 30 p v:=(rfl)
theorem alV:Instr.alloc 30 true (.tuple #[])=Al 30:=(rfl)
theorem bxV (v:Value):Instr.box 30 v=Bx 30 v:=(rfl)
theorem bdV (ps:Array (Nat × Value)):Instr.build 30 ps=Bd 30 ps:=(rfl)
theorem infoV:(Tryz.prog.info? 30).map (fun i=>(i.zero,i.size))=some (some (.agg (vcs zeroV)),3):=by kernel_rfl
theorem sizeV:(Tryz.prog.info? 30).map (·.size)=some 3:=by kernel_rfl
theorem run_alV (w:World):(Al 30).run Tryz.prog w = .ok (ptr w.heap.size) (w.alloc (.cells (vcs zeroV) 30)):=run_al infoV w
theorem run_ldVp {w:World} {b:Nat} {v:Vl} {T:TypeId} (h:Blk w b (vcs v) T):(Ld 30 (.pointer (some ⟨b,0,none⟩))).run Tryz.prog w = .ok (.agg (vcs v)) w:=by
 have:=run_loadAt_mid (P:=Tryz.prog) w b 0 30 (vcs v).toList _ (h.range (r:=[]) (by simp)) Tryz.underlying30 rfl sizeV
 simpa [Ld] using this
theorem run_stVp {w:World} {b:Nat} {o v:Vl} (h:Blk w b (vcs o) 30):(St 30 (.pointer (some ⟨b,0,none⟩)) (.agg (vcs v))).run Tryz.prog w = .ok () (w.setRow b (vcs v)) :=
 run_st_row h (by rw [vcs_size];exact sizeV) (by rw [vcs_size,vcs_size]) (vcs_one v)
theorem run_stVg (w:World) (g:Nat) (r o:Vl) (hg:g=w.heap.size):(St 30 (.pointer (some ⟨g,0,none⟩)) (.agg (vcs r))).run Tryz.prog (w.alloc (.cells (vcs o) 30)) = .ok () (w.alloc (.cells (vcs r) 30)):=by
 subst hg
 rw [run_stVp (Blk.new w (vcs o) _),setRow_new]
theorem run_bdV0 (w:World):(Bd 30 #[]).run Tryz.prog w = .ok (.agg (vcs zeroV)) w:=run_build w _ _ _ (by kernel_rfl)
theorem run_bdV1 (w:World) (k:Int):(Bd 30 #[(0,.int .i64 k)]).run Tryz.prog w = .ok (.agg (vcs ⟨k,0,⟨#[]⟩⟩)) w:=run_build w _ _ _ (by kernel_rfl)
theorem run_bdV2 (w:World) (k n:Int):(Bd 30 #[(0,.int .i64 k),(1,.int .i64 n)]).run Tryz.prog w = .ok (.agg (vcs ⟨k,n,⟨#[]⟩⟩)) w:=run_build w _ _ _ (by kernel_rfl)
theorem run_bdV3 (w:World) (k:Int) (s:ByteArray):(Bd 30 #[(0,.int .i64 k),(2,.string s)]).run Tryz.prog w = .ok (.agg (vcs ⟨k,0,s⟩)) w:=run_build w _ _ _ (by kernel_rfl)
def newT (kd:Int) (p:Vl) (props:Value):Th:={ zeroT with kind:=kd,proto:=p,ext:=true,props:=props }
theorem run_bdTn (w:World) (kd:Int) (p:Vl) (x:Bool) (a:Option Addr) (n c:Nat):(Bd 39 #[(0,.int .i64 kd),(1,.agg (vcs p)),(2,.bool x),(3,.slice a n c)]).run Tryz.prog w = .ok (.agg (tcs { newT kd p (.slice a n c) with ext:=x })) w:=run_build w _ _ _ (by kernel_rfl)
def BsE (ps:Array (Nat × Value)):Sem Value:=Instr.buildSlice 37 1 ps
theorem bsE (ps:Array (Nat × Value)):Instr.buildSlice 37 1 ps=BsE ps:=(rfl)
theorem run_bsE (w:World) (e:En):(BsE #[(0,.agg (ecs e))]).run Tryz.prog w = .ok (.slice (some ⟨w.heap.size,0,none⟩) 1 1) (w.alloc (.cells (ecs e) 36)):=by
 obtain ⟨i,hi,hz,hs,hb⟩:=info_parts infoE
 exact run_buildSlice w 37 36 1 _ (ecs e) i (.agg (ecs zeroE)) Tryz.underlying37 hi hz (by rw [hs];decide) (by rw [hs];decide) (by rw [hs];have h:=Go.Great.fill_whole (s:=20) (by decide) [.agg (ecs e)] ((Array.range (1*20)).map ((Value.agg (ecs zeroE)).cells[· % (Value.agg (ecs zeroE)).cells.size]!)) (fun v hv=>by rw [List.mem_singleton.1 hv];rfl) (by simp);simpa [Value.cells] using h)
theorem res_V {fn:Func} {p:Tmp} (h:fn.results=#[.cell p 30]) (tmps:Array Value) (w:World) (g:Nat) (v:Vl) (hp:tmps.getD p undef = .pointer (some ⟨g,0,none⟩)) {T:TypeId} (hr:Blk w g (vcs v) T):(results fn tmps).run Tryz.prog w = .ok (.agg (vcs v)) w :=
 results_cell_row h tmps w g T (vcs v) (0,0) _ hp hr Tryz.underlying30 rfl (by exact sizeV)
theorem res_R {fn:Func} {p:Tmp} (h:fn.results=#[.cell p 57]) (tmps:Array Value) (w:World) (g:Nat) (r:Rp) (hp:tmps.getD p undef = .pointer (some ⟨g,0,none⟩)) {T:TypeId} (hr:Blk w g (rcs r) T):(results fn tmps).run Tryz.prog w = .ok (.agg (rcs r)) w :=
 results_cell_row h tmps w g T (rcs r) (0,0) _ hp hr Tryz.underlying57 rfl (by rw [rcs_size];exact sizeR)
theorem res_D {fn:Func} {p:Tmp} (h:fn.results=#[.cell p 34]) (tmps:Array Value) (w:World) (g:Nat) (d:Ds) (hp:tmps.getD p undef = .pointer (some ⟨g,0,none⟩)) {T:TypeId} (hr:Blk w g (dcs d) T):(results fn tmps).run Tryz.prog w = .ok (.agg (dcs d)) w :=
 results_cell_row h tmps w g T (dcs d) (0,0) _ hp hr Tryz.underlying34 rfl (by rw [dcs_size];exact sizeD)
theorem res_VR {fn:Func} {p q:Tmp} (h:fn.results=#[.cell p 30,.cell q 57]) (tmps:Array Value) (w:World) (g k:Nat) (v:Vl) (r:Rp) (hp:tmps.getD p undef = .pointer (some ⟨g,0,none⟩)) (hq:tmps.getD q undef = .pointer (some ⟨k,0,none⟩)) {T U:TypeId} (hv:Blk w g (vcs v) T) (hr:Blk w k (rcs r) U):(results fn tmps).run Tryz.prog w = .ok (.tuple #[.agg (vcs v),.agg (rcs r)]) w:=by
 have e1:=run_loadVar_row (P:=Tryz.prog) w g T 30 (vcs v) (0,0) _ hv Tryz.underlying30 rfl (by exact sizeV)
 have e2:=run_loadVar_row (P:=Tryz.prog) w k U 57 (rcs r) (0,0) _ hr Tryz.underlying57 rfl (by rw [rcs_size];exact sizeR)
 have hp':tmps[p]?.getD undef = .pointer (some ⟨g,0,none⟩):=by simpa using hp
 have hq':tmps[q]?.getD undef = .pointer (some ⟨k,0,none⟩):=by simpa using hq
 simp only [results,h]
 simp [Sem.run_bind,Result.andThen,hp',hq',asAddr,e1,e2]
end Go.Proofs.YtkadkmnolkkhgaaGreatDoor.Mo
