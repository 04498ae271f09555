/-
 Texts of this seat in build order: MwMem, MwHead, MwTurn.
-/
import Derived.Test.YtkadkmnolkkhgaaGreatDoorMb07
import Derived.Test.YtkadkmnolkkhgaaGreatDoorMb10
import Derived.Test.YtkadkmnolkkhgaaGreatDoorMb11
import Derived.Test.YtkadkmnolkkhgaaGreatDoorMb12
import Derived.Test.YtkadkmnolkkhgaaGreatDoorMb02
/-
 A world in memory: its heap, its objects, its log; what a call leaves of it.
-/
set_option linter.unusedVariables false
set_option linter.unusedSimpArgs false
namespace Go.Proofs.YtkadkmnolkkhgaaGreatDoor.Mw
open Go Go.RowKit Go.Maps Keys Hp Mo
open Des (Vl Ds zeroV zeroD dcs dcs_size dcs_one)
open Arrs (En ecs)
structure Oq where
 ob:Nat
 pb:Nat
 mb:Nat
 n:Nat
 ns:List Nd
 args:Value
def obl (v:Value):List Nat:=v.ownBlock.toList
def Oq.cb (q:Oq):List Nat:=q.ob :: q.mb :: blks q.pb q.ns
def Oq.bl (q:Oq):List Nat:=obl q.args++q.cb
structure Wm where
 hb:Nat
 os:Value
 ls:Value
 qs:List Oq
 sb:List Nat
 rl:List Nat
def Wm.bl (M:Wm) (wb:Nat):List Nat:=wb :: M.hb :: (obl M.os++(obl M.ls++(M.sb++(M.rl++M.qs.flatMap Oq.bl))))
structure Cx where
 W0:World
 wb:Nat
 cl:Value
 px:Bool
 dp:Int
 dl:Int
theorem range_same {w w':World} {b off:Nat} {l:List Value} (h:w'.heap[b]? = w.heap[b]?) (hr:w.rangeAt b off l):w'.rangeAt b off l:=fun j v hv=>by
 have e:w'.cell? ⟨b,off+j,none⟩=w.cell? ⟨b,off+j,none⟩:=by unfold World.cell?;rw [h]
 rw [e]
 exact hr j v hv
def kcs (k:KV):Array Value:=#[.string k.1,.int .i64 k.2]
def VsOut (B:List Nat) (w:World) (s:Value) (vs:List Vl):Prop:=∃ a c,s = .slice a vs.length c∧(vs=[]∨∃ b off,a=some ⟨b,off,none⟩∧b < w.heap.size∧b ∉ B∧w.rangeAt b off (cellsV vs))
def KsOut (B:List Nat) (w:World) (s:Value) (ks:List KV):Prop:=∃ a c,s = .slice a ks.length c∧ks.length≤10000000∧(ks=[]∨∃ b off cur,a=some ⟨b,off,none⟩∧Blk w b cur 32∧b ∉ B∧w.rangeAt b off (cellsK ks))
def VsIn (R:List Nat) (w:World) (s:Value) (vs:List Vl):Prop:=∃ a c,s = .slice a vs.length c∧(vs=[]∨∃ b off cur,a=some ⟨b,off,none⟩∧b ∈ R∧Blk w b cur 30∧w.rangeAt b off (cellsV vs))
def KsIn (R:List Nat) (w:World) (s:Value) (ks:List KV):Prop:=∃ a c,s = .slice a ks.length c∧(ks=[]∨∃ b off cur,a=some ⟨b,off,none⟩∧b ∈ R∧Blk w b cur 32∧w.rangeAt b off (cellsK ks))
theorem VsIn.same {R R':List Nat} {w w':World} {s:Value} {vs:List Vl} (h:VsIn R w s vs) (hs:∀ b cs,b ∈ R→Blk w b cs 30→w'.heap[b]? = w.heap[b]?) (hR:∀ b ∈ R,b ∈ R'):VsIn R' w' s vs:=by
 obtain ⟨a,c,e,h⟩:=h
 refine ⟨a,c,e,h.imp id ?_⟩
 rintro ⟨b,off,cur,h1,h2,h3,h4⟩
 have:=hs b cur h2 h3
 exact ⟨b,off,cur,h1,hR b h2,this.trans h3,range_same this h4⟩
theorem KsIn.same {R R':List Nat} {w w':World} {s:Value} {ks:List KV} (h:KsIn R w s ks) (hs:∀ b cs,b ∈ R→Blk w b cs 32→w'.heap[b]? = w.heap[b]?) (hR:∀ b ∈ R,b ∈ R'):KsIn R' w' s ks:=by
 obtain ⟨a,c,e,h⟩:=h
 refine ⟨a,c,e,h.imp id ?_⟩
 rintro ⟨b,off,cur,h1,h2,h3,h4⟩
 have:=hs b cur h2 h3
 exact ⟨b,off,cur,h1,hR b h2,this.trans h3,range_same this h4⟩
structure Kp (B:List Nat) (w w':World):Prop where
 fr:Fr w w'
 same:∀ b,b < w.heap.size→b ∉ B→w'.heap[b]? = w.heap[b]?
theorem Kp.refl (B:List Nat) (w:World):Kp B w w:=⟨Fr.refl w,fun _ _ _=>rfl⟩
theorem Kp.of_below {B:List Nat} {w w':World} (h:Below w.heap.size w w'):Kp B w w':=⟨⟨h.os,h.tape,h.output,h.size⟩,fun b hb _=>h.block b hb⟩
theorem Kp.cell {B:List Nat} {w w':World} (h:Kp B w w') {b i:Nat} (hb:b < w.heap.size) (hn:b ∉ B):w'.cell? ⟨b,i,none⟩=w.cell? ⟨b,i,none⟩:=by
 unfold World.cell?
 rw [h.same b hb hn]
theorem Kp.blk {B:List Nat} {w w':World} (h:Kp B w w') {b:Nat} {cs:Array Value} {t:TypeId} (hb:Blk w b cs t) (hn:b ∉ B):Blk w' b cs t:=(h.same b hb.lt hn).trans hb
theorem Kp.range {B:List Nat} {w w':World} (h:Kp B w w') {b off:Nat} {l:List Value} (hb:b < w.heap.size) (hn:b ∉ B) (hr:w.rangeAt b off l):w'.rangeAt b off l:=fun j v hv=>by
 rw [h.cell hb hn]
 exact hr j v hv
structure Nx (B:List Nat) (w:World) (B':List Nat) (w':World):Prop where
 kp:Kp B w w'
 sub:∀ b ∈ B',b ∈ B∨w.heap.size≤b
theorem Nx.refl (B:List Nat) (w:World):Nx B w B w:=⟨Kp.refl B w,fun _ h=>.inl h⟩
theorem Nx.of_below {B:List Nat} {w w':World} (h:Below w.heap.size w w'):Nx B w B w':=⟨Kp.of_below h,fun _ h=>.inl h⟩
theorem Nx.size {B B':List Nat} {w w':World} (h:Nx B w B' w'):w.heap.size≤w'.heap.size:=h.kp.fr.size
theorem Nx.out {B B':List Nat} {w w':World} (h:Nx B w B' w') {b:Nat} (hb:b < w.heap.size) (hn:b ∉ B):b ∉ B':=fun hm=>by
 rcases h.sub b hm with h' |h'
 ·exact hn h'
 ·omega
theorem Nx.trans {B B' B'':List Nat} {w w' w'':World} (h:Nx B w B' w') (k:Nx B' w' B'' w''):Nx B w B'' w'':=by
 refine ⟨⟨h.kp.fr.trans k.kp.fr,fun b hb hn=>?_⟩,fun b hb=>?_⟩
 ·rw [k.kp.same b (Nat.lt_of_lt_of_le hb h.size) (h.out hb hn),h.kp.same b hb hn]
 ·rcases k.sub b hb with h' |h'
  ·exact h.sub b h'
  ·have:=h.size
   exact .inr (by omega)
theorem Nx.call {B B':List Nat} {w w' w'':World} (h:Nx B w B' w') (k:Below w'.heap.size w' w''):Nx B w B' w'':=h.trans (Nx.of_below k)
theorem Nx.from {B B':List Nat} {w w' w'':World} (h:Below w.heap.size w w') (k:Nx B w' B' w''):Nx B w B' w'':=(Nx.of_below h).trans k
theorem Nx.blk {B B':List Nat} {w w':World} (h:Nx B w B' w') {b:Nat} {cs:Array Value} {t:TypeId} (hb:Blk w b cs t) (hn:b ∉ B):Blk w' b cs t:=h.kp.blk hb hn
theorem VsOut.nx {B B':List Nat} {w w':World} {s:Value} {vs:List Vl} (h:VsOut B w s vs) (k:Nx B w B' w'):VsOut B' w' s vs:=by
 obtain ⟨a,c,hs,h⟩:=h
 refine ⟨a,c,hs,h.imp id ?_⟩
 rintro ⟨b,off,ha,hb,hn,hr⟩
 exact ⟨b,off,ha,Nat.lt_of_lt_of_le hb k.size,k.out hb hn,k.kp.range hb hn hr⟩
theorem KsOut.nx {B B':List Nat} {w w':World} {s:Value} {ks:List KV} (h:KsOut B w s ks) (k:Nx B w B' w'):KsOut B' w' s ks:=by
 obtain ⟨a,c,hs,hl,h⟩:=h
 refine ⟨a,c,hs,hl,h.imp id ?_⟩
 rintro ⟨b,off,cur,ha,hb,hn,hr⟩
 exact ⟨b,off,cur,ha,k.blk hb hn,k.out hb.lt hn,k.kp.range hb.lt hn hr⟩
theorem KsOut.call {B:List Nat} {w w':World} {s:Value} {ks:List KV} (h:KsOut B w s ks) (k:Below w.heap.size w w'):KsOut B w' s ks:=h.nx (Nx.of_below k)
theorem KsOut.row {B:List Nat} {w:World} {s:Value} {ks:List KV} (h:KsOut B w s ks) {b:Nat} {cs:Array Value} {t:TypeId} (hb:Blk w b cs t) (ht:t ≠ 32) (ds:Array Value):KsOut B (w.setRow b ds) s ks:=by
 obtain ⟨a,c,hs,hl,h⟩:=h
 refine ⟨a,c,hs,hl,h.imp id ?_⟩
 rintro ⟨k,off,cur,ha,hk,hn,hr⟩
 have hne:k ≠ b:=fun e=>ne_blk hb hk ht e.symm
 exact ⟨k,off,cur,ha,hk.row_other ds hne,hn,range_same (setRow_other w b k ds hne) hr⟩
theorem VsOut.nil (B:List Nat) (w:World):VsOut B w nilS []:=⟨none,0,rfl,.inl rfl⟩
theorem KsOut.nil (B:List Nat) (w:World):KsOut B w nilS []:=⟨none,0,rfl,by simp,.inl rfl⟩
def acs (a:Aq) (l:Value):Array Value:=#[.string a.k.1,.int .i64 a.k.2,.int .i64 a.v.k,.int .i64 a.v.n,.string a.v.s,.int .i64 a.r.k,.int .i64 a.r.n,.string a.r.s,.bool a.d.hv,.bool a.d.hg,.bool a.d.hs,.bool a.d.hw,.bool a.d.he,.bool a.d.hc,.int .i64 a.d.v.k,.int .i64 a.d.v.n,.string a.d.v.s,.int .i64 a.d.g.k,.int .i64 a.d.g.n,.string a.d.g.s,.int .i64 a.d.s.k,.int .i64 a.d.s.n,.string a.d.s.s,.bool a.d.w,.bool a.d.e,.bool a.d.c,l]
def Rr.mem (r:Rr) (k:Value):Rp:=⟨r.flow,r.v,r.ok,r.has,r.d,k⟩
def scs (s:Sn) (l k:Value):Array Value:=#[.int .i64 s.m,.int .i64 s.o,.int .i64 s.fr,.string s.a.k.1,.int .i64 s.a.k.2,.int .i64 s.a.v.k,.int .i64 s.a.v.n,.string s.a.v.s,.int .i64 s.a.r.k,.int .i64 s.a.r.n,.string s.a.r.s,.bool s.a.d.hv,.bool s.a.d.hg,.bool s.a.d.hs,.bool s.a.d.hw,.bool s.a.d.he,.bool s.a.d.hc,.int .i64 s.a.d.v.k,.int .i64 s.a.d.v.n,.string s.a.d.v.s,.int .i64 s.a.d.g.k,.int .i64 s.a.d.g.n,.string s.a.d.g.s,.int .i64 s.a.d.s.k,.int .i64 s.a.d.s.n,.string s.a.d.s.s,.bool s.a.d.w,.bool s.a.d.e,.bool s.a.d.c,l,
 .int .i64 s.r.flow,.int .i64 s.r.v.k,.int .i64 s.r.v.n,.string s.r.v.s,.bool s.r.ok,.bool s.r.has,.bool s.r.d.hv,.bool s.r.d.hg,.bool s.r.d.hs,.bool s.r.d.hw,.bool s.r.d.he,.bool s.r.d.hc,.int .i64 s.r.d.v.k,.int .i64 s.r.d.v.n,.string s.r.d.v.s,.int .i64 s.r.d.g.k,.int .i64 s.r.d.g.n,.string s.r.d.g.s,.int .i64 s.r.d.s.k,.int .i64 s.r.d.s.n,.string s.r.d.s.s,.bool s.r.d.w,.bool s.r.d.e,.bool s.r.d.c,k]
def xcs (o:Int) (t:Th):Array Value:=#[.int .i64 o,.int .i64 t.kind,.int .i64 t.proto.k,.int .i64 t.proto.n,.string t.proto.s,.bool t.ext,t.props,.int .i64 t.code,.int .i64 t.n,.int .i64 t.v.k,.int .i64 t.v.n,.string t.v.s,.int .i64 t.tg.k,.int .i64 t.tg.n,.string t.tg.s,.int .i64 t.hd.k,.int .i64 t.hd.n,.string t.hd.s,.int .i64 t.ths.k,.int .i64 t.ths.n,.string t.ths.s,t.args,.bool t.calls,.bool t.makes,.int .i64 t.env]
structure ObIs (w:World) (q:Oq) (x:Ob):Prop where
 blk:Blk w q.ob (ocs { x.th with args:=q.args } q.pb) 124
 nop:x.th.props=nilS
 noa:x.th.args=nilS
 obj:Obj1 w q.pb q.mb q.n q.ns
 once:Once1 q.ns
 es:q.ns.map (·.e)=x.es
 fine:∀ e ∈ x.es,Fine (ekey e)
 row:w.ownsRow 0 30 3 q.args x.vs.length (cellsV x.vs)
 len:x.es.length≤q.n
 vlen:x.vs.length≤100000
theorem ObIs.ltc {w:World} {q:Oq} {x:Ob} (h:ObIs w q x):∀ b ∈ q.cb,b < w.heap.size:=fun b hb=>by
 rcases List.mem_cons.1 hb with rfl |hb
 ·exact h.blk.lt
 ·rcases List.mem_cons.1 hb with rfl |hb
  ·exact h.obj.map.lt
  ·exact h.obj.ring.lt b hb
theorem ObIs.same {w w':World} {q:Oq} {x:Ob} (h:ObIs w q x) (hw:∀ b ∈ q.cb,w'.heap[b]? = w.heap[b]?) (ha:∀ b,q.args.ownBlock=some b→w'.heap[b]? = w.heap[b]?):ObIs w' q x:=by
 refine ⟨(hw q.ob (by simp [Oq.cb])).trans h.blk,h.nop,h.noa,⟨h.obj.ring.same fun b hb=>hw b (by simp [Oq.cb,hb]),h.obj.map.same (hw q.mb (by simp [Oq.cb]))⟩,h.once,h.es,h.fine,?_,h.len,h.vlen⟩
 obtain ⟨h1,h2⟩:=h.row
 refine ⟨h1,h2.imp id ?_⟩
 rintro ⟨g,cap,cur,k1,k2,k3,k4⟩
 exact ⟨g,cap,cur,k1,k2,(ha g (by rw [k1];rfl)).trans k3,k4⟩
theorem ObIs.argT {w:World} {q:Oq} {x:Ob} (h:ObIs w q x) {b:Nat} (hb:q.args.ownBlock=some b):∃ cs,Blk w b cs 30:=by
 rcases h.row.2 with ⟨h1,-⟩ |⟨g,cap,cur,h1,-,h3,-⟩
 ·rw [h1] at hb;cases hb
 ·rw [h1] at hb
  cases hb
  exact ⟨cur,h3⟩
structure All2 {α β:Type} (R:α→β→Prop) (l:List α) (m:List β):Prop where
 len:l.length=m.length
 el:∀ (i:Nat) (a:α) (b:β),l[i]? = some a→m[i]? = some b→R a b
theorem forall2_mem {α β:Type} {R:α→β→Prop} {l:List α} {m:List β} (h:All2 R l m) {a:α} (ha:a ∈ l):∃ b ∈ m,R a b:=by
 obtain ⟨i,hi⟩:=List.mem_iff_getElem?.1 ha
 have hlt:i < m.length:=by rw [← h.len];exact (List.getElem?_eq_some_iff.1 hi).1
 exact ⟨m[i],List.getElem_mem hlt,h.el i a _ hi (List.getElem?_eq_getElem hlt)⟩
theorem forall2_imp {α β:Type} {R S:α→β→Prop} {l:List α} {m:List β} (h:All2 R l m) (k:∀ a ∈ l,∀ b,R a b→S a b):All2 S l m :=
 ⟨h.len,fun i a b h1 h2=>k a (List.mem_of_getElem? h1) b (h.el i a b h1 h2)⟩
theorem all2_get {α β:Type} {R:α→β→Prop} {l:List α} {m:List β} (h:All2 R l m) {i:Nat} {b:β} (hb:m[i]? = some b):∃ a,l[i]? = some a∧R a b:=by
 have hlt:i < l.length:=by rw [h.len];exact (List.getElem?_eq_some_iff.1 hb).1
 exact ⟨l[i],List.getElem?_eq_getElem hlt,h.el i _ b (List.getElem?_eq_getElem hlt) hb⟩
theorem all2_set {α β:Type} {R S:α→β→Prop} {l:List α} {m:List β} (h:All2 R l m) {i:Nat} {a:α} {b:β} (hn:S a b) (k:∀ j a b,j ≠ i→l[j]? = some a→m[j]? = some b→R a b→S a b):All2 S (l.set i a) (m.set i b):=by
 refine ⟨by simp [h.len],fun j x y hx hy=>?_⟩
 rw [List.getElem?_set] at hx hy
 by_cases hj:i=j
 ·subst hj
  simp only [if_true] at hx hy
  split at hx <;> split at hy <;> simp at hx hy
  subst hx hy
  exact hn
 ·rw [if_neg hj] at hx hy
  exact k j x y (fun e=>hj e.symm) hx hy (h.el j x y hx hy)
theorem all2_app {α β:Type} {R S:α→β→Prop} {l:List α} {m:List β} (h:All2 R l m) {a:α} {b:β} (hn:S a b) (k:∀ a ∈ l,∀ b,R a b→S a b):All2 S (l++[a]) (m++[b]):=by
 refine ⟨by simp [h.len],fun j x y hx hy=>?_⟩
 rw [List.getElem?_append] at hx hy
 rw [← h.len] at hy
 split at hx
 ·rename_i hj
  rw [if_pos hj] at hy
  exact k x (List.mem_of_getElem? hx) y (h.el j x y hx hy)
 ·rename_i hj
  rw [if_neg hj] at hy
  cases hk:j - l.length with
  | zero=>rw [hk] at hx hy;simp at hx hy;subst hx hy;exact hn
  | succ n=>rw [hk] at hx;simp at hx
def SnIs (R:List Nat) (w:World) (b:Nat) (s:Sn):Prop:=∃ l k,Blk w b (scs s l k) 120∧VsIn R w l s.a.l∧KsIn R w k s.r.ks
theorem SnIs.same {R R':List Nat} {w w':World} {b:Nat} {s:Sn} (h:SnIs R w b s) (h1:w'.heap[b]? = w.heap[b]?) (hs:∀ b cs,b ∈ R→Blk w b cs 30→w'.heap[b]? = w.heap[b]?) (hk:∀ b cs,b ∈ R→Blk w b cs 32→w'.heap[b]? = w.heap[b]?) (hR:∀ b ∈ R,b ∈ R'):SnIs R' w' b s:=by
 obtain ⟨l,r,k1,k2,k3⟩:=h
 exact ⟨l,r,h1.trans k1,k2.same hs hR,k3.same hk hR⟩
structure WIs (X:Cx) (c:Nat) (M:Wm) (w:World) (A:Aw):Prop where
 wblk:Blk w X.wb (wcs M.hb X.cl A.fuel A.deep A.depth A.deepest M.ls) 48
 hblk:Blk w M.hb (hp A.room M.os A.sy) 105
 orow:w.ownsRow 0 106 1 M.os A.objs.length (M.qs.map fun q=>ptr q.ob)
 lrow:w.ownsRow 0 165 1 M.ls A.log.length (M.sb.map ptr)
 objs:All2 (ObIs w) M.qs A.objs
 log:All2 (SnIs M.rl w) M.sb A.log
 rlt:∀ b ∈ M.rl,b < w.heap.size
 apart:∀ (i j:Nat) (p q:Oq),i ≠ j→M.qs[i]? = some p→M.qs[j]? = some q→∀ b ∈ p.bl,b ∉ q.bl
 low:∀ b ∈ M.bl X.wb,X.W0.heap.size≤b
 bel:Below X.W0.heap.size X.W0 w
 lw:Nums.Lw X.W0
 fuel:0≤A.fuel
 few:A.objs.length+8*A.fuel.toNat+c≤900000
 num:∀ q ∈ M.qs,q.n+8*A.fuel.toNat+c≤900000
 logn:A.log.length+8*A.fuel.toNat+c≤900000
 dep0:0≤A.depth
 dep1:A.depth≤A.deep
 deep:A.deep≤1000
 dpe:A.depth=X.dp
 dle:A.deep=X.dl
 nopx:X.px=false→∀ x ∈ A.objs,x.th.kind ≠ 4
section
variable {X:Cx} {c:Nat} {M:Wm} {w w':World} {A:Aw}
theorem WIs.len (h:WIs X c M w A):M.qs.length=A.objs.length:=h.objs.len
theorem row_lt {e:TypeId} {sz n:Nat} {v:Value} {xs:List Value} (h:w.ownsRow 0 e sz v n xs) {b:Nat} (hb:b ∈ obl v):∃ cs,Blk w b cs e:=by
 unfold obl at hb
 rcases h.2 with ⟨h1,-⟩ |⟨g,cap,cur,h1,-,h3,-⟩
 ·rw [h1] at hb;simp [Value.ownBlock] at hb
 ·rw [h1] at hb
  simp [Value.ownBlock] at hb
  rw [hb]
  exact ⟨cur,h3⟩
theorem WIs.lt (h:WIs X c M w A):∀ b ∈ M.bl X.wb,b < w.heap.size:=fun b hm=>by
 simp only [Wm.bl,List.mem_cons,List.mem_append] at hm
 rcases hm with rfl |rfl |hm |hm |hm |hm |hm
 ·exact h.wblk.lt
 ·exact h.hblk.lt
 ·obtain ⟨cs',hb'⟩:=row_lt h.orow hm
  exact hb'.lt
 ·obtain ⟨cs',hb'⟩:=row_lt h.lrow hm
  exact hb'.lt
 ·obtain ⟨s,hs,hr⟩:=forall2_mem h.log hm
  exact hr.choose_spec.choose_spec.1.lt
 ·exact h.rlt b hm
 ·obtain ⟨q,hq,hm⟩:=List.mem_flatMap.1 hm
  obtain ⟨x,hx,hr⟩:=forall2_mem h.objs hq
  rcases List.mem_append.1 hm with hm |hm
  ·obtain ⟨cs',hb'⟩:=row_lt hr.row hm
   exact hb'.lt
  ·exact hr.ltc b hm
theorem WIs.new (h:WIs X c M w A) {b:Nat} (hb:w.heap.size≤b):b ∉ M.bl X.wb:=fun hm=>by have:=h.lt b hm;omega
theorem mem_wb (M:Wm) (wb:Nat):wb ∈ M.bl wb:=List.mem_cons_self ..
theorem mem_hb (M:Wm) (wb:Nat):M.hb ∈ M.bl wb:=List.mem_cons_of_mem _ (List.mem_cons_self ..)
theorem mem_os {M:Wm} {wb b:Nat} (h:b ∈ obl M.os):b ∈ M.bl wb:=by simp only [Wm.bl,List.mem_cons,List.mem_append];exact .inr (.inr (.inl h))
theorem mem_ls {M:Wm} {wb b:Nat} (h:b ∈ obl M.ls):b ∈ M.bl wb:=by simp only [Wm.bl,List.mem_cons,List.mem_append];exact .inr (.inr (.inr (.inl h)))
theorem mem_sb {M:Wm} {wb b:Nat} (h:b ∈ M.sb):b ∈ M.bl wb:=by simp only [Wm.bl,List.mem_cons,List.mem_append];exact .inr (.inr (.inr (.inr (.inl h))))
theorem mem_rl {M:Wm} {wb b:Nat} (h:b ∈ M.rl):b ∈ M.bl wb:=by simp only [Wm.bl,List.mem_cons,List.mem_append];exact .inr (.inr (.inr (.inr (.inr (.inl h)))))
theorem mem_qs {M:Wm} {wb b:Nat} {q:Oq} (hq:q ∈ M.qs) (h:b ∈ q.bl):b ∈ M.bl wb:=by simp only [Wm.bl,List.mem_cons,List.mem_append,List.mem_flatMap];exact .inr (.inr (.inr (.inr (.inr (.inr ⟨q,hq,h⟩)))))
theorem mem_bl {M:Wm} {wb b i:Nat} {q:Oq} (hq:M.qs[i]? = some q) (hb:b ∈ q.bl):b ∈ M.bl wb:=mem_qs (List.mem_of_getElem? hq) hb
theorem obl_mem {v:Value} {b:Nat} (e:some b=v.ownBlock):b ∈ obl v:=by
 unfold obl
 rw [← e]
 simp
theorem own_same {base:Nat} {e:TypeId} {size n:Nat} {v:Value} {xs:List Value} (h:w.ownsRow base e size v n xs) (hs:∀ b cs,b ∈ obl v→Blk w b cs e→w'.heap[b]? = w.heap[b]?):w'.ownsRow base e size v n xs:=by
 obtain ⟨h1,h2⟩:=h
 refine ⟨h1,h2.imp id ?_⟩
 rintro ⟨g,cap,cur,k1,k2,k3,k4⟩
 exact ⟨g,cap,cur,k1,k2,(hs g cur (obl_mem (by rw [k1];rfl)) k3).trans k3,k4⟩
theorem WIs.same (h:WIs X c M w A) (hf:Fr w w') (hs:∀ b ∈ M.bl X.wb,w'.heap[b]? = w.heap[b]?) (hb:Below X.W0.heap.size X.W0 w'):WIs X c M w' A:=by
 refine ⟨(hs _ (mem_wb M _)).trans h.wblk,(hs _ (mem_hb M _)).trans h.hblk,own_same h.orow fun b _ hm _=>hs b (mem_os hm),own_same h.lrow fun b _ hm _=>hs b (mem_ls hm),forall2_imp h.objs fun q hq x hx=>hx.same (fun b hb'=>hs b (mem_qs hq (List.mem_append_right _ hb'))) fun b hb'=>hs b (mem_qs hq (List.mem_append_left _ (obl_mem hb'.symm))),forall2_imp h.log fun b hb' s hsn=>hsn.same (hs b (mem_sb hb')) (fun b _ hm _=>hs b (mem_rl hm)) (fun b _ hm _=>hs b (mem_rl hm)) (fun _ h=>h),fun b hm=>Nat.lt_of_lt_of_le (h.rlt b hm) hf.size,h.apart,h.low,hb,h.lw,h.fuel,h.few,h.num,h.logn,h.dep0,h.dep1,h.deep,h.dpe,h.dle,h.nopx⟩
theorem WIs.call (h:WIs X c M w A) (hb:Below w.heap.size w w'):WIs X c M w' A:=h.same ⟨hb.os,hb.tape,hb.output,hb.size⟩ (fun b hm=>hb.block b (h.lt b hm)) (h.bel.trans (hb.mono h.bel.size))
theorem WIs.row (h:WIs X c M w A) {b:Nat} (cs:Array Value) (hn:b ∉ M.bl X.wb) (hlo:X.W0.heap.size≤b):WIs X c M (w.setRow b cs) A :=
 h.same ⟨rfl,rfl,rfl,by rw [size_setRow];exact Nat.le_refl _⟩ (fun k hk=>setRow_other w b k cs fun e=>hn (e ▸ hk)) ⟨h.bel.os,h.bel.tape,h.bel.output,by rw [size_setRow];exact h.bel.size,fun k hk=>(setRow_other w b k cs (by omega)).trans (h.bel.block k hk)⟩
theorem WIs.less {c':Nat} (h:WIs X c M w A) (hc:c'≤c):WIs X c' M w A :=
 ⟨h.wblk,h.hblk,h.orow,h.lrow,h.objs,h.log,h.rlt,h.apart,h.low,h.bel,h.lw,h.fuel,by have:=h.few;omega,fun q hq=>by have:=h.num q hq;omega,by have:=h.logn;omega,h.dep0,h.dep1,h.deep,h.dpe,h.dle,h.nopx⟩
theorem WIs.drew (h:WIs X c M w A):WIs X c M w.drew A:=h.call (Below.refl _ w).drew
theorem WIs.lwAt (h:WIs X c M w A):Nums.Lw w:=h.lw.below h.bel
theorem WIs.next {B:Wm} (h:WIs X c M w A) (k:Nx (M.bl X.wb) w (B.bl X.wb) w'):Below X.W0.heap.size X.W0 w' :=
 ⟨k.kp.fr.os.trans h.bel.os,k.kp.fr.tape.trans h.bel.tape,k.kp.fr.output.trans h.bel.output,Nat.le_trans h.bel.size k.size,fun b hb=>by
  rw [k.kp.same b (Nat.lt_of_lt_of_le hb h.bel.size) (fun hm=>by have:=h.low b hm;omega),h.bel.block b hb]⟩
theorem Nx.low {B:Wm} (h:WIs X c M w A) (k:Nx (M.bl X.wb) w (B.bl X.wb) w'):∀ b ∈ B.bl X.wb,X.W0.heap.size≤b:=fun b hb=>by
 rcases k.sub b hb with h' |h'
 ·exact h.low b h'
 ·exact Nat.le_trans h.bel.size h'
end
def Left (X:Cx) (c:Nat) (M:Wm) (w:World) (A':Aw) (w':World) (M':Wm):Prop:=WIs X c M' w' A'∧Nx (M.bl X.wb) w (M'.bl X.wb) w'
def cr (r:Rr) (c:Nat):Nat:=if abr r then c else c+1
def Post (X:Cx) (c:Nat) (M:Wm) (w:World) (R:Rr × Aw) (e:Ending) (w':World):Prop :=
 ∃ M' kv,e = .returned (.agg (rcs (R.1.mem kv)))∧KsOut (M'.bl X.wb) w' kv R.1.ks∧WIs X (cr R.1 c) M' w' R.2∧Nx (M.bl X.wb) w (M'.bl X.wb) w'
end Go.Proofs.YtkadkmnolkkhgaaGreatDoor.Mw

/-
 Head and Set of a heap.
-/
namespace Go.Proofs.YtkadkmnolkkhgaaGreatDoor.Hp
open Go Go.RowKit Go.Maps Go.Shelf Keys
open Des (Vl Ds zeroV zeroD dcs dcs_size dcs_one)
open Arrs (En ecs ecs_0 ecs_1 ecs_10 ecs_size ecs_list ecs_one ecs_one')
theorem ldOb (v:Value):Instr.loadAt 124 v=Ld 124 v:=(rfl)
theorem stOb (p v:Value):Instr.storeAt 124 p v=St 124 p v:=(rfl)
theorem sizeOb:(Tryz.prog.info? 124).map (·.size)=some 25:=by kernel_rfl
theorem run_ldOb {w:World} {b:Nat} {t:Th} {pb:Nat} {T:TypeId} (h:Blk w b (ocs t pb) T):(Ld 124 (.pointer (some ⟨b,0,none⟩))).run Tryz.prog w = .ok (.agg (ocs t pb)) w:=by
 have:=run_loadAt_mid (P:=Tryz.prog) w b 0 124 (ocs t pb).toList _ (h.range (r:=[]) (by simp)) Tryz.underlying124 rfl sizeOb
 simpa [Ld] using this
theorem ocs_one {t:Th} (h:t.ok) (pb:Nat):(ocs t pb).all (·.oneCell')=true:=by
 obtain ⟨⟨a,n,c,h1⟩,⟨a',n',c',h2⟩⟩:=h
 unfold ocs
 rw [h1,h2]
 simp [Value.oneCell']
theorem run_bdT0' (w:World):(Bd 39 #[]).run Tryz.prog w = .ok (.agg (tcs zeroT)) w:=run_build w _ _ _ (by kernel_rfl)
section
attribute [local go_sem ↓] ldE ldT bxT bxO bdO alE alT stE stT bdT ldOb stOb
attribute [local irreducible] ecs ncs hcs tcs ocs
attribute [local go_sem] run_bx run_alE run_alT run_bdO run_bdT0' tcs_0 tcs_5 tcs_20 tcs_set5 tcs_set20 ocs_24
set_option maxRecDepth 100000 in
set_option maxHeartbeats 2000000 in
theorem head_none (hb:Nat) (room:Int) (a:Option Addr) (n c:Nat) (sy o:Int) (w:World) (h:Blk w hb (hp room (.slice a n c) sy) 105) (ho:o < 0∨(n:Int)≤o) :
  Calls Tryz.prog 101 #[ptr hb,.int .i64 o] w fun e w'=>e = .returned (.tuple #[.agg (tcs zeroT),.bool false])∧Below w.heap.size w w':=by
 obtain ⟨w1,hw1⟩:∃ w1,w.alloc (.cells (tcs zeroT) 39)=w1:=⟨_,rfl⟩
 have b1:Below w.heap.size w w1:=by rw [← hw1];exact (Below.refl _ w).alloc (Nat.le_refl _) _
 have x1:Blk w1 w.heap.size (tcs zeroT) 39:=by rw [← hw1];exact Blk.new w _ _
 have hob:=object_none hb room a n c sy o w1 (h.call b1) ho
 have hst:=run_st_row x1 (T:=39) (cs:=tcs zeroT) (by rw [tcs_size];exact sizeT) rfl (tcs_one zeroT_ok)
 have X1:=Lib.hid x1
 have B1:=Lib.hid b1
 clear h ho x1 b1
 go_enter Tryz.func101,Tryz.ntmps101
 go_wp2_with (go_at_call 56;refine hob.mono ?_;rintro e wz ⟨rfl,rfl⟩)
 refine bodyPost_ret (res2_T rfl _ _ w.heap.size zeroT rfl (X1.out.row _)) rfl ?_
 exact ⟨rfl,B1.out.trans ⟨rfl,rfl,rfl,by simp,fun k hk=>setRow_other _ w.heap.size k _ (by omega)⟩⟩
set_option maxRecDepth 100000 in
set_option maxHeartbeats 2000000 in
theorem head_some (hb rb ob pb n c o:Nat) (room sy:Int) (th:Th) (w:World) (h:Blk w hb (hp room (.slice (some ⟨rb,0,none⟩) n c) sy) 105) (ho:o < n) (hc:w.cell? ⟨rb,o,none⟩=some (ptr ob))
  (hblk:Blk w ob (ocs th pb) 124) (tok:th.ok) :
  Calls Tryz.prog 101 #[ptr hb,.int .i64 o] w fun e w'=>e = .returned (.tuple #[.agg (tcs { th with args:=nilS }),.bool true])∧Below w.heap.size w w':=by
 obtain ⟨w1,hw1⟩:∃ w1,w.alloc (.cells (tcs zeroT) 39)=w1:=⟨_,rfl⟩
 have b1:Below w.heap.size w w1:=by rw [← hw1];exact (Below.refl _ w).alloc (Nat.le_refl _) _
 have k1:w1.heap.size=w.heap.size+1:=by rw [← hw1];simp
 have x1:Blk w1 w.heap.size (tcs zeroT) 39:=by rw [← hw1];exact Blk.new w _ _
 have hc1:w1.cell? ⟨rb,o,none⟩=some (ptr ob):=(b1.cell (World.block_lt_of_cell? w _ hc)).trans hc
 have hob:=object_some hb rb ob room n c o sy w1 (h.call b1) ho hc1
 have lo:=run_ldO (hblk.call b1)
 obtain ⟨w2,hw2⟩:∃ w2,w1.alloc (.cells (tcs th) 39)=w2:=⟨_,rfl⟩
 have hst:(St 39 (.pointer (some ⟨w1.heap.size,0,none⟩)) (.agg (tcs th))).run Tryz.prog (w1.alloc (.cells (tcs zeroT) 39)) = .ok () w2:=by rw [← hw2];exact run_stT w1 th zeroT tok
 rw [k1] at hst
 have b12:Below w1.heap.size w1 w2:=by rw [← hw2];exact (Below.refl _ w1).alloc (Nat.le_refl _) _
 have b2:Below w.heap.size w w2:=b1.trans (b12.mono (by omega))
 have k2:w2.heap.size=w.heap.size+2:=by rw [← hw2];simp [k1]
 have x2:=x1.call b12
 have y2:Blk w2 (w.heap.size+1) (tcs th) 39:=by
  have:=Blk.new w1 (tcs th) 39
  rw [hw2,k1] at this
  exact this
 obtain ⟨aa,al,ac,harg⟩:=tok.2
 have d20:w2.cell? ⟨w.heap.size+1,20,none⟩=some (.slice aa al ac):=by rw [y2.cell,tcs_20];exact congrArg some harg
 have f20:=y2.frozen 20
 obtain ⟨t',ht'⟩:∃ t',t'=({ th with args:=nilS }:Th):=⟨_,rfl⟩
 obtain ⟨w6,hw6⟩:∃ w6,w2.setCell ⟨w.heap.size+1,20,none⟩ nilS=w6:=⟨_,rfl⟩
 have b6:Below w.heap.size w w6:=by rw [← hw6];exact b2.setCell (p:=⟨w.heap.size+1,20,none⟩) (by simp) _
 have y6:Blk w6 (w.heap.size+1) (tcs t') 39:=by
  have:=y2.set 20 nilS
  rw [tcs_set20,hw6] at this
  rw [ht']
  exact this
 have x6:Blk w6 w.heap.size (tcs zeroT) 39:=by rw [← hw6];exact x2.other _ _ (by simp)
 have lt:=run_ldT y6
 have tok':t'.ok:=by rw [ht'];exact ⟨tok.1,⟨_,_,_,rfl⟩⟩
 have hst2:=run_st_row x6 (T:=39) (cs:=tcs t') (by rw [tcs_size];exact sizeT) (by rw [tcs_size,tcs_size]) (tcs_one tok')
 have X6:=Lib.hid x6
 have B6:=Lib.hid b6
 have HT:=Lib.hid ht'
 clear h ho hc hblk tok b1 x1 hc1 hw2 b12 b2 x2 y2 b6 y6 x6 tok' ht' harg
 go_enter Tryz.func101,Tryz.ntmps101
 go_wp2_with (go_at_call 56;refine hob.mono ?_;rintro e wz ⟨rfl,rfl⟩)
 refine bodyPost_ret (res2_T rfl _ _ w.heap.size t' rfl (X6.out.row _)) rfl ?_
 rw [HT.out]
 exact ⟨rfl,B6.out.trans ⟨rfl,rfl,rfl,by simp,fun k hk=>setRow_other _ w.heap.size k _ (by omega)⟩⟩
def SetPost (w:World) (ob:Nat) (th:Th) (es:List En) (vs:List Vl) (y:Ending) (w':World):Prop:=y = .returned (.bool true)∧∃ w1 o2 pb mb ns a m c,Below w.heap.size w w1∧ObjAt w1 w.heap.size o2 pb mb es.length { th with props:=.slice none 0 0,args:=.slice a m c } es vs ns∧w'=w1.setRow ob (ocs { th with props:=.slice none 0 0,args:=.slice a m c } pb)
set_option maxRecDepth 100000 in
set_option maxHeartbeats 2000000 in
theorem set_some (hb rb ob pb n c o:Nat) (room sy:Int) (th t0:Th) (es:List En) (vs:List Vl) (w:World) (h:Blk w hb (hp room (.slice (some ⟨rb,0,none⟩) n c) sy) 105) (ho:o < n) (hc:w.cell? ⟨rb,o,none⟩=some (ptr ob))
  (hblk:Blk w ob (ocs t0 pb) 124) (hst:∀ w',Below w.heap.size w w'→Calls Tryz.prog 46 #[.agg (tcs th)] w' (StorePost w' th es vs)) :
  Calls Tryz.prog 199 #[ptr hb,.int .i64 o,.agg (tcs th)] w (SetPost w ob th es vs):=by
 obtain ⟨w1,hw1⟩:∃ w1,w.alloc (.cells (tcs th) 39)=w1:=⟨_,rfl⟩
 have b1:Below w.heap.size w w1:=by rw [← hw1];exact (Below.refl _ w).alloc (Nat.le_refl _) _
 have k1:w1.heap.size=w.heap.size+1:=by rw [← hw1];simp
 have x1:Blk w1 w.heap.size (tcs th) 39:=by rw [← hw1];exact Blk.new w _ _
 have hc1:w1.cell? ⟨rb,o,none⟩=some (ptr ob):=(b1.cell (World.block_lt_of_cell? w _ hc)).trans hc
 have hob:=object_some hb rb ob room n c o sy w1 (h.call b1) ho hc1
 have lt:=run_ldT x1
 have ltd:=run_ldT x1.drew
 have h1:=hst w1 b1
 have h1d:=hst w1.drew b1.drew
 have O1:=Lib.hid (hblk.call b1)
 have B1:=Lib.hid b1
 have HS:∀ w2 (pb2:Nat) t2,Blk w2 ob (ocs t0 pb) 124→t2.ok→(St 124 (.pointer (some ⟨ob,0,none⟩)) (.agg (ocs t2 pb2))).run Tryz.prog w2 = .ok () (w2.setRow ob (ocs t2 pb2)):=fun w2 pb2 t2 hb2 ht2=>run_st_row hb2 (by rw [ocs_size];exact sizeOb) (by rw [ocs_size,ocs_size]) (ocs_one ht2 _)
 have HSS:=Lib.hid HS
 clear h ho hc hblk hst b1 x1 hc1 HS
 go_enter Tryz.func199,Tryz.ntmps199
 go_wp2_with (first |(go_at_call 56;refine hob.mono ?_;rintro e wz ⟨rfl,rfl⟩) |(go_at_call 46;refine h1.mono ?_;rintro e w2 ⟨o2,pb2,mb2,ns2,a2,m2,cc,rfl,hoa,hb2⟩;have lo:=run_ldOb hoa.blk;have so:=HSS.out w2 pb2 ({ th with props:=.slice none 0 0,args:=.slice a2 m2 cc }:Th) (O1.out.call hb2) ⟨⟨_,_,_,rfl⟩,⟨a2,m2,cc,rfl⟩⟩;have HOA:=Lib.hid hoa;have HB2:=Lib.hid hb2;clear hoa hb2))
 all_goals go_ret
 all_goals exact ⟨rfl,_,o2,pb2,mb2,ns2,a2,m2,cc,B1.out.trans (HB2.out.mono (by omega)),HOA.out.mono (by omega),rfl⟩
end
end Go.Proofs.YtkadkmnolkkhgaaGreatDoor.Hp

/-
 What a turn of one object, or a new object, leaves of a world. Plain mathematics.
-/
namespace Go.Proofs.YtkadkmnolkkhgaaGreatDoor.Mw
open Go Go.RowKit Go.Maps Keys Hp Mo
open Des (Vl Ds zeroV zeroD dcs dcs_size dcs_one)
open Arrs (En ecs)
theorem blk_nemap {w:World} {b mb n:Nat} {cs:Array Value} {t:TypeId} {f:KV→Option Nat} (h:Blk w b cs t) (hm:MapIs w mb n f):b ≠ mb:=fun e=>by
 obtain ⟨es,c,ho⟩:=hm.obj
 subst e
 rw [show w.heap[b]? = _ from h] at ho
 cases ho
section
variable {X:Cx} {c:Nat} {M:Wm} {w w':World} {A:Aw}
theorem WIs.os_shape (h:WIs X c M w A):∃ a cc,M.os = .slice a A.objs.length cc:=by
 obtain ⟨a,cc,e⟩:=Hp.own_shape h.orow
 exact ⟨a,cc,e⟩
theorem at_none {o:Int} (h:at? A o=none):o < 0∨(A.objs.length:Int)≤o:=by
 unfold at? at h
 split at h
 ·exact .inl ‹_›
 ·right
  rw [List.getElem?_eq_none_iff] at h
  omega
theorem at_some {o:Int} {x:Ob} (h:at? A o=some x):∃ i:Nat,o=i∧A.objs[i]? = some x:=by
 unfold at? at h
 split at h
 ·cases h
 ·exact ⟨o.toNat,by omega,h⟩
theorem WIs.obj (h:WIs X c M w A) {o:Int} {x:Ob} (hx:at? A o=some x):∃ (i:Nat) (q:Oq) (g cc:Nat),o=i∧A.objs[i]? = some x∧M.qs[i]? = some q∧ObIs w q x∧M.os = .slice (some ⟨g,0,none⟩) A.objs.length cc∧w.cell? ⟨g,i,none⟩=some (ptr q.ob)∧i < A.objs.length:=by
 obtain ⟨i,rfl,hi⟩:=at_some hx
 obtain ⟨q,hq,hr⟩:=all2_get h.objs hi
 have hlt:i < A.objs.length:=(List.getElem?_eq_some_iff.1 hi).1
 have horow:=h.orow
 rcases h.orow.2 with ⟨h1,h2⟩ |⟨g,cap,cur,h1,-,-,-⟩
 ·omega
 ·rw [h1] at horow
  refine ⟨i,q,g,cap,rfl,hi,hq,hr,h1,?_,hlt⟩
  rw [horow.cellAt i (by omega),List.getElem?_map,hq]
  rfl
theorem ObIs.nota {q:Oq} {x:Ob} (h:ObIs w q x) {b:Nat} {cs:Array Value} {t:TypeId} (hb:Blk w b cs t) (h1:t ≠ 124) (h2:t ≠ 184) (h3:t ≠ 187):b ∉ q.cb:=fun hm=>by
 rcases List.mem_cons.1 hm with rfl |hm
 ·exact ne_blk hb h.blk h1 rfl
 ·rcases List.mem_cons.1 hm with rfl |hm
  ·obtain ⟨es,c,ho⟩:=h.obj.map.obj
   rw [show w.heap[q.mb]? = _ from hb] at ho
   cases ho
  ·exact h.obj.ring.notblk hb h2 h3 hm
theorem set_eq {α β:Type} (f:α→β) (l:List α) (i:Nat) (a b:α) (hb:l[i]? = some b) (h:f a=f b):(l.set i a).map f=l.map f:=by
 apply List.ext_getElem?
 intro j
 rw [List.getElem?_map,List.getElem?_set,List.getElem?_map]
 by_cases hj:i=j
 ·subst hj
  rw [hb]
  simp [(List.getElem?_eq_some_iff.1 hb).1,h]
 ·rw [if_neg hj]
theorem own_typ {base:Nat} {e:TypeId} {size n:Nat} {v:Value} {xs:List Value} (h:w.ownsRow base e size v n xs) {b:Nat} (hb:b ∈ obl v):∃ cs,Blk w b cs e:=by
 unfold obl at hb
 rcases h.2 with ⟨h1,-⟩ |⟨g,cap,cur,h1,-,h3,-⟩
 ·rw [h1] at hb;simp [Value.ownBlock] at hb
 ·rw [h1] at hb
  simp [Value.ownBlock] at hb
  rw [hb]
  exact ⟨cur,h3⟩
theorem WIs.turn (h:WIs X c M w A) {i c':Nat} {q q':Oq} {x x':Ob} (hi:M.qs[i]? = some q) (hx:A.objs[i]? = some x) (hf:Fr w w') (hs:∀ b,b < w.heap.size→b ∉ q.cb→w'.heap[b]? = w.heap[b]?) (ho:ObIs w' q' x') (hob:q'.ob=q.ob) (hsub:∀ b ∈ q'.bl,b ∈ q.bl∨w.heap.size≤b)
  (hn:q'.n+8*A.fuel.toNat+c'≤900000) (hc:c'≤c) (hk:X.px=false→x'.th.kind ≠ 4):Left X c' M w (setOb A i x') w' { M with qs:=M.qs.set i q' }:=by
 have hq:ObIs w q x:=h.objs.el i q x hi hx
 have hsame:∀ {b:Nat} {cs:Array Value} {t:TypeId},Blk w b cs t→t ≠ 124→t ≠ 184→t ≠ 187→w'.heap[b]? = w.heap[b]?:=fun hb h1 h2 h3=>hs _ hb.lt (hq.nota hb h1 h2 h3)
 have hnx:Nx (M.bl X.wb) w (({ M with qs:=M.qs.set i q' }:Wm).bl X.wb) w':=by
  refine ⟨⟨hf,fun b hb hn=>hs b hb fun hm=>hn (mem_bl hi (List.mem_append_right _ hm))⟩,fun b hb=>?_⟩
  simp only [Wm.bl,List.mem_cons,List.mem_append,List.mem_flatMap] at hb
  rcases hb with hb |hb |hb |hb |hb |hb |⟨p,hp,hb⟩
  ·exact .inl (hb ▸ mem_wb M _)
  ·exact .inl (hb ▸ mem_hb M _)
  ·exact .inl (mem_os hb)
  ·exact .inl (mem_ls hb)
  ·exact .inl (mem_sb hb)
  ·exact .inl (mem_rl hb)
  ·rcases List.mem_or_eq_of_mem_set hp with hp |rfl
   ·exact .inl (mem_qs hp hb)
   ·rcases hsub b hb with hb |hb
    ·exact .inl (mem_bl hi hb)
    ·exact .inr hb
 have hlt:i < A.objs.length:=(List.getElem?_eq_some_iff.1 hx).1
 have hlen:(A.objs.set i x').length=A.objs.length:=by simp
 refine ⟨?_,hnx⟩
 have hmapob:(M.qs.set i q').map (fun q=>ptr q.ob)=M.qs.map fun q=>ptr q.ob:=set_eq _ _ _ _ _ hi (by rw [hob])
 refine ⟨(hsame h.wblk (by decide) (by decide) (by decide)).trans h.wblk,(hsame h.hblk (by decide) (by decide) (by decide)).trans h.hblk,?_,own_same h.lrow fun b cs _ hb=>hsame hb (by decide) (by decide) (by decide),?_,?_,fun b hb=>Nat.lt_of_lt_of_le (h.rlt b hb) hf.size,?_,Nx.low h hnx,h.next hnx,h.lw,h.fuel,?_,?_,by have:=h.logn;first |omega |(show A.log.length+8*A.fuel.toNat+_≤_;omega),h.dep0,h.dep1,h.deep,h.dpe,h.dle,?_⟩
 ·show w'.ownsRow 0 _ 1 M.os (A.objs.set (i:Int).toNat x').length _
  rw [List.length_set,hmapob]
  exact own_same h.orow fun b cs _ hb=>hsame hb (by decide) (by decide) (by decide)
 ·show All2 (ObIs w') (M.qs.set i q') (A.objs.set (i:Int).toNat x')
  rw [Int.toNat_natCast]
  refine all2_set h.objs ho fun j p y hj hp hy hpy=>hpy.same (fun b hb=>hs b (hpy.ltc b hb) fun hm=>h.apart j i p q hj hp hi b (List.mem_append_right _ hb) (List.mem_append_right _ hm)) fun b hb=>?_
  obtain ⟨cs,hbl⟩:=hpy.argT hb
  exact hsame hbl (by decide) (by decide) (by decide)
 ·refine forall2_imp h.log fun b _ s hsn=>hsn.same ?_ (fun b cs _ hb=>hsame hb (by decide) (by decide) (by decide)) (fun b cs _ hb=>hsame hb (by decide) (by decide) (by decide)) (fun _ h=>h)
  obtain ⟨l,k,hb,-⟩:=hsn
  exact hsame hb (by decide) (by decide) (by decide)
 ·intro j k p r hjk hp hr b hb hb'
  have hset:∀ (j:Nat) (p:Oq),(M.qs.set i q')[j]? = some p→(j=i∧p=q')∨(j ≠ i∧M.qs[j]? = some p):=fun j p hp=>by
   rw [List.getElem?_set] at hp
   by_cases hj:i=j
   ·subst hj
    simp only [if_true] at hp
    split at hp
    ·simp at hp;exact .inl ⟨rfl,hp.symm⟩
    ·cases hp
   ·rw [if_neg hj] at hp
    exact .inr ⟨fun e=>hj e.symm,hp⟩
  have old:∀ (j:Nat) (p:Oq),M.qs[j]? = some p→∀ b ∈ p.bl,b < w.heap.size:=fun j p hp b hb=>h.lt b (mem_bl hp hb)
  rcases hset j p hp with ⟨rfl,rfl⟩ |⟨hj,hp2⟩ <;> rcases hset k r hr with ⟨rfl,rfl⟩ |⟨hk',hr2⟩
  ·exact hjk rfl
  ·rcases hsub b hb with hb |hb
   ·exact h.apart j k q r hjk hi hr2 b hb hb'
   ·have:=old k r hr2 b hb';omega
  ·rcases hsub b hb' with hb' |hb'
   ·exact h.apart j k p q hjk hp2 hi b hb hb'
   ·have:=old j p hp2 b hb;omega
  ·exact h.apart j k p r hjk hp2 hr2 b hb hb'
 ·show (A.objs.set (i:Int).toNat x').length+8*A.fuel.toNat+c'≤900000
  rw [List.length_set]
  have:=h.few
  omega
 ·intro p hp
  show p.n+8*A.fuel.toNat+c'≤900000
  rcases List.mem_or_eq_of_mem_set hp with hp |rfl
  ·have:=h.num p hp;omega
  ·exact hn
 ·intro hpx y hy
  have hy':y ∈ A.objs.set (i:Int).toNat x':=hy
  rcases List.mem_or_eq_of_mem_set hy' with hy |rfl
  ·exact h.nopx hpx y hy
  ·exact hk hpx
theorem WIs.grow (h:WIs X (c+1) M w A) {q':Oq} {x':Ob} {os':Value} (hf:Fr w w') (hs:∀ b,b < w.heap.size→b ≠ M.hb→some b ≠ M.os.ownBlock→w'.heap[b]? = w.heap[b]?)
  (hhb:Blk w' M.hb (hp A.room os' A.sy) 105) (hrow:w'.ownsRow 0 106 1 os' (A.objs.length+1) ((M.qs.map fun q=>ptr q.ob)++[ptr q'.ob])) (hos:∀ b ∈ obl os',some b=M.os.ownBlock∨w.heap.size≤b)
  (ho:ObIs w' q' x') (hsub:∀ b ∈ q'.bl,w.heap.size≤b) (hn:q'.n+8*A.fuel.toNat+c≤900000) (hk:X.px=false→x'.th.kind ≠ 4):Left X c M w { A with objs:=A.objs++[x'] } w' { M with os:=os',qs:=M.qs++[q'] }:=by
 have hsame:∀ {b:Nat} {cs:Array Value} {t:TypeId},Blk w b cs t→t ≠ 105→t ≠ 106→w'.heap[b]? = w.heap[b]?:=fun hb h1 h2=>hs _ hb.lt (ne_blk hb h.hblk h1) fun e=>by
  obtain ⟨cs',hb'⟩:=row_lt h.orow (obl_mem e)
  exact ne_blk hb hb' h2 rfl
 have hob:∀ b,some b=M.os.ownBlock→b ∈ M.bl X.wb:=fun b hb=>mem_os (obl_mem hb)
 have hnx:Nx (M.bl X.wb) w (({ M with os:=os',qs:=M.qs++[q'] }:Wm).bl X.wb) w':=by
  refine ⟨⟨hf,fun b hb hn=>hs b hb (fun e=>hn (by rw [e];exact mem_hb M _)) fun e=>hn (hob b e)⟩,fun b hb=>?_⟩
  simp only [Wm.bl,List.mem_cons,List.mem_append,List.flatMap_append,List.flatMap_cons,List.flatMap_nil,List.append_nil] at hb
  rcases hb with hb |hb |hb |hb |hb |hb |hb |hb
  ·exact .inl (hb ▸ mem_wb M _)
  ·exact .inl (hb ▸ mem_hb M _)
  ·rcases hos b hb with hb |hb
   ·exact .inl (hob b hb)
   ·exact .inr hb
  ·exact .inl (mem_ls hb)
  ·exact .inl (mem_sb hb)
  ·exact .inl (mem_rl hb)
  ·obtain ⟨q,hq,hb⟩:=List.mem_flatMap.1 hb
   exact .inl (mem_qs hq hb)
  ·exact .inr (hsub b hb)
 have hmap:∀ {m:Nat} {n:Nat} {f:KV→Option Nat},MapIs w m n f→w'.heap[m]? = w.heap[m]?:=fun hm=>hs _ hm.lt (fun e=>blk_nemap h.hblk hm e.symm) fun e=>by
  obtain ⟨cs',hb'⟩:=row_lt h.orow (obl_mem e)
  exact blk_nemap hb' hm rfl
 refine ⟨⟨(hsame h.wblk (by decide) (by decide)).trans h.wblk,hhb,?_,own_same h.lrow fun b cs _ hb=>hsame hb (by decide) (by decide),?_,forall2_imp h.log fun b _ s hsn=>hsn.same ?_ (fun b cs _ hb=>hsame hb (by decide) (by decide)) (fun b cs _ hb=>hsame hb (by decide) (by decide)) (fun _ h=>h),fun b hb=>Nat.lt_of_lt_of_le (h.rlt b hb) hf.size,?_,Nx.low h hnx,h.next hnx,h.lw,h.fuel,?_,?_,by have:=h.logn;first |omega |(show A.log.length+8*A.fuel.toNat+_≤_;omega),h.dep0,h.dep1,h.deep,h.dpe,h.dle,?_⟩,hnx⟩
 ·show w'.ownsRow 0 _ 1 os' (A.objs++[x']).length ((M.qs++[q']).map _)
  rw [List.length_append,List.map_append]
  exact hrow
 ·refine all2_app h.objs ho fun p hp y hpy=>hpy.same (fun b hb=>?_) fun b hb=>?_
  ·rcases List.mem_cons.1 hb with rfl |hb
   ·exact hsame hpy.blk (by decide) (by decide)
   ·rcases List.mem_cons.1 hb with rfl |hb
    ·exact hmap hpy.obj.map
    ·obtain ⟨cs,t,hbl,ht⟩:=hpy.obj.ring.cells b hb
     exact hsame hbl (by rcases ht with rfl |rfl <;> decide) (by rcases ht with rfl |rfl <;> decide)
  ·obtain ⟨cs,hbl⟩:=hpy.argT hb
   exact hsame hbl (by decide) (by decide)
 ·obtain ⟨l,k,hb,-⟩:=hsn
  exact hsame hb (by decide) (by decide)
 ·have old:∀ (j:Nat) (p:Oq),M.qs[j]? = some p→∀ b ∈ p.bl,b < w.heap.size:=fun j p hp b hb=>h.lt b (mem_bl hp hb)
  have hset:∀ (j:Nat) (p:Oq),(M.qs++[q'])[j]? = some p→(j=M.qs.length∧p=q')∨M.qs[j]? = some p:=fun j p hp=>by
   rw [List.getElem?_append] at hp
   split at hp
   ·exact .inr hp
   ·cases hk:j - M.qs.length with
    | zero=>rw [hk] at hp;simp at hp;exact .inl ⟨by omega,hp.symm⟩
    | succ n=>rw [hk] at hp;simp at hp
  intro j k p r hjk hp hr b hb hb'
  rcases hset j p hp with ⟨rfl,rfl⟩ |hp2 <;> rcases hset k r hr with ⟨rfl,rfl⟩ |hr2
  ·exact hjk rfl
  ·have:=old k r hr2 b hb';have:=hsub b hb;omega
  ·have:=old j p hp2 b hb;have:=hsub b hb';omega
  ·exact h.apart j k p r hjk hp2 hr2 b hb hb'
 ·show (A.objs++[x']).length+8*A.fuel.toNat+c≤900000
  have:=h.few
  simp
  omega
 ·intro p hp
  show p.n+8*A.fuel.toNat+c≤900000
  rcases List.mem_append.1 hp with hp |hp
  ·have:=h.num p hp;omega
  ·rw [List.mem_singleton.1 hp];exact hn
 ·intro hpx y hy
  rcases List.mem_append.1 (show y ∈ A.objs++[x'] from hy) with hy |hy
  ·exact h.nopx hpx y hy
  ·rw [List.mem_singleton.1 hy];exact hk hpx
end
end Go.Proofs.YtkadkmnolkkhgaaGreatDoor.Mw
