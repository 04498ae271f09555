/-
 Texts of this seat in build order: MwFm, MwGetR, MwStep.
-/
import Derived.Test.YtkadkmnolkkhgaaGreatDoorMb16
import Derived.Test.YtkadkmnolkkhgaaGreatDoorMb14
/-
 A method's frame: the world as it is now, near the one at the beginning, with locals and lists of keys.
-/
set_option linter.unusedVariables false
set_option linter.unusedSimpArgs false
namespace Go.Proofs.YtkadkmnolkkhgaaGreatDoor.Mw
open Go Go.RowKit Go.Maps Go.Shelf Keys Hp Mo
open Des (Vl Ds zeroV zeroD dcs dcs_size dcs_one accF rigF appF eqV)
open Arrs (En ecs)
structure Lc where
 b:Nat
 cs:Array Value
 t:TypeId
structure Fm (X:Cx) (c:Nat) (M:Wm) (w:World) (M':Wm) (w':World) (A':Aw) (ls:List Lc) (kl:List (Value × List KV)) (ro:List Lc):Prop where
 wis:WIs X c M' w' A'
 nx:Nx (M.bl X.wb) w (M'.bl X.wb) w'
 lo:∀ x ∈ ls,Lo (M'.bl X.wb) w w' x.b x.cs x.t
 ks:∀ k ∈ kl,KsOut (M'.bl X.wb) w' k.1 k.2
 h0:X.W0.heap.size≤w.heap.size
 rd:∀ x ∈ ro,Blk w' x.b x.cs x.t∧x.b ∉ M'.bl X.wb∧x.b < w.heap.size
 nd:(ls.map (·.b)).Nodup
section
variable {X:Cx} {c:Nat} {M M' M'':Wm} {w w' w'':World} {A A' A'':Aw} {ls:List Lc} {kl:List (Value × List KV)} {ro:List Lc} {D:DoT}
theorem Fm.start (h:WIs X c M w A):Fm X c M w M w A [] [] []:=⟨h,Nx.refl _ _,(fun x h=>by cases h),(fun x h=>by cases h),h.bel.size,(fun x h=>by cases h),by simp⟩
theorem Fm.with (F:Fm X c M w M' w' A' ls kl ro) {b:Nat} {cs:Array Value} {t:TypeId} (h:Blk w b cs t) (ho:b ∉ M.bl X.wb):Fm X c M w M' w' A' ls kl (⟨b,cs,t⟩ :: ro):=⟨F.wis,F.nx,F.lo,F.ks,F.h0,fun x hx=>by
 rcases List.mem_cons.1 hx with rfl |hx
 ·exact ⟨F.nx.blk h ho,F.nx.out h.lt ho,h.lt⟩
 ·exact F.rd x hx,F.nd⟩
theorem Fm.r0 {x:Lc} {l:List Lc} (F:Fm X c M w M' w' A' ls kl (x :: l)):Blk w' x.b x.cs x.t:=(F.rd x (by simp)).1
theorem Fm.r0o {x:Lc} {l:List Lc} (F:Fm X c M w M' w' A' ls kl (x :: l)):x.b ∉ M'.bl X.wb:=(F.rd x (by simp)).2.1
theorem Fm.call (F:Fm X c M w M' w' A' ls kl ro) (hb:Below w'.heap.size w' w''):Fm X c M w M' w'' A' ls kl ro:=⟨F.wis.call hb,F.nx.call hb,fun x hx=>(F.lo x hx).call hb,fun k hk=>(F.ks k hk).call hb,F.h0,fun x hx=>let ⟨h1,h2,h3⟩:=F.rd x hx;⟨h1.call hb,h2,h3⟩,F.nd⟩
theorem Fm.drew (F:Fm X c M w M' w' A' ls kl ro):Fm X c M w M' w'.drew A' ls kl ro:=F.call (Below.refl _ _).drew
theorem Fm.new (F:Fm X c M w M' w' A' ls kl ro) (cs:Array Value) (t:TypeId):Fm X c M w M' (w'.alloc (.cells cs t)) A' (⟨w'.heap.size,cs,t⟩ :: ls) kl ro:=by
 have hb:=(Below.refl _ w').alloc (Nat.le_refl _) (.cells cs t)
 have F':=F.call hb
 refine ⟨F'.wis,F'.nx,fun x hx=>?_,F'.ks,F.h0,F'.rd,?_⟩
 ·rcases List.mem_cons.1 hx with rfl |hx
  ·exact F.wis.lo F.nx.size cs t
  ·exact F'.lo x hx
 ·rw [List.map_cons,List.nodup_cons]
  refine ⟨fun hm=>?_,F.nd⟩
  obtain ⟨y,hy,e⟩:=List.mem_map.1 hm
  have:=(F.lo y hy).blk.lt
  simp only at e
  omega
theorem Fm.next (F:Fm X c M w M' w' A' ls kl ro) {c2:Nat} {A2:Aw} {k2:List (Value × List KV)} (hM:WIs X c2 M'' w'' A2) (hn:Nx (M'.bl X.wb) w' (M''.bl X.wb) w'') (hk:∀ k ∈ k2,KsOut (M''.bl X.wb) w'' k.1 k.2):Fm X c2 M w M'' w'' A2 ls (k2++kl) ro :=
 ⟨hM,F.nx.trans hn,fun x hx=>(F.lo x hx).nx hn,fun k hk'=>by
  rcases List.mem_append.1 hk' with h |h
  ·exact hk k h
  ·exact (F.ks k h).nx hn,F.h0,fun x hx=>let ⟨h1,h2,h3⟩:=F.rd x hx;⟨hn.blk h1 h2,hn.out h1.lt h2,h3⟩,F.nd⟩
theorem Fm.post (F:Fm X (c+1) M w M' w' A' ls kl ro) {R:Rr × Aw} {kv:Value} (hks:KsOut (M''.bl X.wb) w'' kv R.1.ks) (hM:WIs X (cr R.1 c) M'' w'' R.2) (hn:Nx (M'.bl X.wb) w' (M''.bl X.wb) w''):Fm X (cr R.1 c) M w M'' w'' R.2 ls ((kv,R.1.ks) :: kl) ro :=
 F.next (k2:=[(kv,R.1.ks)]) hM hn fun k hk=>by rw [List.mem_singleton.1 hk];exact hks
theorem Fm.less (F:Fm X c M w M' w' A' ls kl ro) {c':Nat} (h:c'≤c):Fm X c' M w M' w' A' ls kl ro:=⟨F.wis.less h,F.nx,F.lo,F.ks,F.h0,F.rd,F.nd⟩
theorem Fm.ok {r:Rr} (F:Fm X (cr r c) M w M' w' A' ls kl ro) (h:abr r=false):Fm X (c+1) M w M' w' A' ls kl ro:=by
 have e:cr r c=c+1:=by unfold cr;rw [h];rfl
 rw [e] at F
 exact F
theorem Fm.bad {r:Rr} (F:Fm X (cr r c) M w M' w' A' ls kl ro):Fm X c M w M' w' A' ls kl ro:=F.less (by unfold cr;split <;> omega)
theorem Fm.put {l r:List Lc} {x:Lc} (F:Fm X c M w M' w' A' (l++x :: r) kl ro) (ds:Array Value) (ht:x.t ≠ 32):Fm X c M w M' (w'.setRow x.b ds) A' (l++⟨x.b,ds,x.t⟩ :: r) kl ro:=by
 have hx:=F.lo x (by simp)
 have hnd:=F.nd
 rw [List.map_append,List.map_cons,List.nodup_append,List.nodup_cons] at hnd
 have hl:∀ y ∈ l,y.b ≠ x.b:=fun y hy=>hnd.2.2 y.b (List.mem_map.2 ⟨y,hy,rfl⟩) x.b (by simp)
 have hr:∀ y ∈ r,y.b ≠ x.b:=fun y hy e=>hnd.2.1.1 (e ▸ List.mem_map.2 ⟨y,hy,rfl⟩)
 refine ⟨F.wis.rowL hx ds F.h0,F.nx.row ds hx.low,fun y hy=>?_,fun k hk=>(F.ks k hk).row hx.blk ht ds,F.h0,fun y hy=>let ⟨h1,h2,h3⟩:=F.rd y hy;⟨h1.row_other ds (by have:=hx.low;omega),h2,h3⟩,by
  have:=F.nd
  rw [List.map_append,List.map_cons] at this ⊢
  exact this⟩
 rcases List.mem_append.1 hy with hy |hy
 ·exact (F.lo y (by simp [hy])).row_other ds (hl y hy)
 ·rcases List.mem_cons.1 hy with rfl |hy
  ·exact hx.row ds
  ·exact (F.lo y (by simp [hy])).row_other ds (hr y hy)
theorem Fm.l0 {x:Lc} {l:List Lc} (F:Fm X c M w M' w' A' (x :: l) kl ro):Lo (M'.bl X.wb) w w' x.b x.cs x.t:=F.lo x (by simp)
theorem Fm.l1 {x y:Lc} {l:List Lc} (F:Fm X c M w M' w' A' (y :: x :: l) kl ro):Lo (M'.bl X.wb) w w' x.b x.cs x.t:=F.lo x (by simp)
theorem Fm.l2 {x y z:Lc} {l:List Lc} (F:Fm X c M w M' w' A' (z :: y :: x :: l) kl ro):Lo (M'.bl X.wb) w w' x.b x.cs x.t:=F.lo x (by simp)
theorem Fm.l3 {x y z u:Lc} {l:List Lc} (F:Fm X c M w M' w' A' (u :: z :: y :: x :: l) kl ro):Lo (M'.bl X.wb) w w' x.b x.cs x.t:=F.lo x (by simp)
theorem Fm.l4 {x y z u v:Lc} {l:List Lc} (F:Fm X c M w M' w' A' (v :: u :: z :: y :: x :: l) kl ro):Lo (M'.bl X.wb) w w' x.b x.cs x.t:=F.lo x (by simp)
theorem Fm.k0 {k:Value × List KV} {l:List (Value × List KV)} (F:Fm X c M w M' w' A' ls (k :: l) ro):KsOut (M'.bl X.wb) w' k.1 k.2:=F.ks k (by simp)
theorem Fm.k1 {k j:Value × List KV} {l:List (Value × List KV)} (F:Fm X c M w M' w' A' ls (j :: k :: l) ro):KsOut (M'.bl X.wb) w' k.1 k.2:=F.ks k (by simp)
theorem Fm.fin {R:Rr × Aw} {kv:Value} (F:Fm X (cr R.1 c) M w M' w' R.2 ls kl ro) (hk:KsOut (M'.bl X.wb) w' kv R.1.ks):Post X c M w R (.returned (.agg (rcs (R.1.mem kv)))) w':=⟨M',kv,rfl,hk,F.wis,F.nx⟩
theorem Fm.fin1 {R:Rr × Aw} (F:Fm X (c+1) M w M' w' R.2 ls kl ro) (hk:R.1.ks=[]):Post X c M w R (.returned (.agg (rcs (R.1.mem nilS)))) w':=⟨M',nilS,rfl,by rw [hk];exact KsOut.nil _ _,F.wis.less (by unfold cr;split <;> omega),F.nx⟩
theorem Fm.newg (F:Fm X c M w M' w' A' ls kl ro) (cs:Array Value) (t:TypeId) (g:Nat) (hg:g=w'.heap.size):Fm X c M w M' (w'.alloc (.cells cs t)) A' (⟨g,cs,t⟩ :: ls) kl ro:=hg ▸ F.new cs t
theorem Fm.vs (F:Fm X c M w M' w' A' ls kl ro) {al:Value} {l:List Vl} (h:VsOut (M.bl X.wb) w al l):VsOut (M'.bl X.wb) w' al l:=h.nx F.nx
end
theorem abr_at {r:Rr} {b:Bool} (hb:abr r=b) (k:Value) (w:World):Calls Tryz.prog 52 #[.agg (rcs (r.mem k))] w fun e w'=>e = .returned (.bool b)∧Below w.heap.size w w':=hb ▸ abr_any r k w
section
variable {w:World} {b:Nat} {r:Rr} {k:Value} {T:TypeId}
theorem rm_v (h:Blk w b (rcs (r.mem k)) T):(Ld 30 (.pointer (some ⟨b,1,none⟩))).run Tryz.prog w = .ok (.agg (vcs r.v)) w:=rep_v h
theorem rm_d (h:Blk w b (rcs (r.mem k)) T):(Ld 34 (.pointer (some ⟨b,6,none⟩))).run Tryz.prog w = .ok (.agg (dcs r.d)) w:=rep_d h
theorem rm_f (h:Blk w b (rcs (r.mem k)) T):w.cell? ⟨b,0,none⟩=some (.int .i64 r.flow):=h.cell 0
theorem rm_vk (h:Blk w b (rcs (r.mem k)) T):w.cell? ⟨b,1,none⟩=some (.int .i64 r.v.k):=h.cell 1
theorem rm_ok (h:Blk w b (rcs (r.mem k)) T):w.cell? ⟨b,4,none⟩=some (.bool r.ok):=h.cell 4
theorem rm_has (h:Blk w b (rcs (r.mem k)) T):w.cell? ⟨b,5,none⟩=some (.bool r.has):=h.cell 5
end
section
variable {w:World} {b:Nat} {d:Ds} {T:TypeId}
theorem d_all (h:Blk w b (dcs d) T):(Ld 34 (.pointer (some ⟨b,0,none⟩))).run Tryz.prog w = .ok (.agg (dcs d)) w:=run_ldDm (range_mid h [] (dcs d).toList [] (by simp))
theorem d_v (h:Blk w b (dcs d) T):(Ld 30 (.pointer (some ⟨b,6,none⟩))).run Tryz.prog w = .ok (.agg (vcs d.v)) w:=run_ldVm (range_mid h [.bool d.hv,.bool d.hg,.bool d.hs,.bool d.hw,.bool d.he,.bool d.hc] (vcs d.v).toList _ rfl)
theorem d_g (h:Blk w b (dcs d) T):(Ld 30 (.pointer (some ⟨b,9,none⟩))).run Tryz.prog w = .ok (.agg (vcs d.g)) w:=run_ldVm (range_mid h [.bool d.hv,.bool d.hg,.bool d.hs,.bool d.hw,.bool d.he,.bool d.hc,.int .i64 d.v.k,.int .i64 d.v.n,.string d.v.s] (vcs d.g).toList _ rfl)
theorem d_s (h:Blk w b (dcs d) T):(Ld 30 (.pointer (some ⟨b,12,none⟩))).run Tryz.prog w = .ok (.agg (vcs d.s)) w:=run_ldVm (range_mid h [.bool d.hv,.bool d.hg,.bool d.hs,.bool d.hw,.bool d.he,.bool d.hc,.int .i64 d.v.k,.int .i64 d.v.n,.string d.v.s,.int .i64 d.g.k,.int .i64 d.g.n,.string d.g.s] (vcs d.s).toList _ rfl)
theorem d_gk (h:Blk w b (dcs d) T):w.cell? ⟨b,9,none⟩=some (.int .i64 d.g.k):=h.cell 9
theorem d_sk (h:Blk w b (dcs d) T):w.cell? ⟨b,12,none⟩=some (.int .i64 d.s.k):=h.cell 12
theorem d_w (h:Blk w b (dcs d) T):w.cell? ⟨b,15,none⟩=some (.bool d.w):=h.cell 15
end
theorem rm_dw {w:World} {b:Nat} {r:Rr} {k:Value} {T:TypeId} (h:Blk w b (rcs (r.mem k)) T):w.cell? ⟨b,21,none⟩=some (.bool r.d.w):=h.cell 21
theorem rm_dc {w:World} {b:Nat} {r:Rr} {k:Value} {T:TypeId} (h:Blk w b (rcs (r.mem k)) T):w.cell? ⟨b,23,none⟩=some (.bool r.d.c):=h.cell 23
theorem x_num {w:World} {b:Nat} {o:Int} {t:Th} {T:TypeId} (h:Blk w b (xcs o t) T):w.cell? ⟨b,0,none⟩=some (.int .i64 o):=h.cell 0
theorem x_ext {w:World} {b:Nat} {o:Int} {t:Th} {T:TypeId} (h:Blk w b (xcs o t) T):w.cell? ⟨b,5,none⟩=some (.bool t.ext):=h.cell 5
theorem x_proto {w:World} {b:Nat} {o:Int} {t:Th} {T:TypeId} (h:Blk w b (xcs o t) T):(Ld 30 (.pointer (some ⟨b,2,none⟩))).run Tryz.prog w = .ok (.agg (vcs t.proto)) w:=run_ldVm (range_mid h [.int .i64 o,.int .i64 t.kind] (vcs t.proto).toList _ rfl)
end Go.Proofs.YtkadkmnolkkhgaaGreatDoor.Mw

/-
 What Get gives, as rows of its own; handed over again.
-/
namespace Go.Proofs.YtkadkmnolkkhgaaGreatDoor.Mw
open Go Go.RowKit Go.Maps Keys Hp Mo
open Des (Vl Ds zeroV zeroD dcs dcs_size dcs_one)
open Arrs (En ecs)
structure GetOk (lo:Nat) (w:World) (x:Ob) (G:Th):Prop where
 eq:bare G=x.th
 r1:w.ownsRow lo 36 20 G.props x.es.length (Hp.cellsE x.es)
 r2:w.ownsRow lo 30 3 G.args x.vs.length (cellsV x.vs)
section
variable {X:Cx} {c:Nat} {M:Wm} {w w':World} {A:Aw} {lo:Nat} {x:Ob} {G:Th}
theorem GetOk.call (h:GetOk lo w x G) (hb:Below w.heap.size w w'):GetOk lo w' x G:=⟨h.eq,Hp.own_below h.r1 hb,Hp.own_below h.r2 hb⟩
theorem GetOk.row (h:GetOk lo w x G) {b:Nat} {cs:Array Value} {t:TypeId} (hb:Blk w b cs t) (h1:t ≠ 36) (h2:t ≠ 30) (ds:Array Value):GetOk lo (w.setRow b ds) x G:=⟨h.eq,own_row h.r1 hb h1,own_row h.r2 hb h2⟩
theorem GetOk.mono {lo':Nat} (h:GetOk lo w x G) (hl:lo'≤lo):GetOk lo' w x G:=⟨h.eq,h.r1.mono hl,h.r2.mono hl⟩
theorem GetOk.ok (h:GetOk lo w x G):G.ok:=by
 obtain ⟨a,c,e⟩:=Hp.own_shape h.r1
 obtain ⟨a',c',e'⟩:=Hp.own_shape h.r2
 exact ⟨⟨a,_,c,e⟩,⟨a',_,c',e'⟩⟩
theorem WIs.fit (h:WIs X c M w A) {o:Int} (hx:at? A o=some x):x.th.props=nilS∧x.th.args=nilS∧(x.es.map ekey).Nodup∧(∀ e ∈ x.es,Fine (ekey e))∧x.es.length+8*A.fuel.toNat+c≤900000∧x.vs.length≤100000∧(X.px=false→x.th.kind ≠ 4):=by
 obtain ⟨i,q,g,cc,rfl,hi,hq,hr,hos,hc,hlt⟩:=h.obj hx
 have hnum:=h.num q (List.mem_of_getElem? hq)
 have hlen:=hr.len
 refine ⟨hr.nop,hr.noa,?_,hr.fine,by omega,hr.vlen,fun hp=>h.nopx hp x (List.mem_of_getElem? hi)⟩
 have hn:=hr.once.once
 rw [← hr.es,List.map_map]
 exact hn
theorem wGetR (h:WIs X c M w A) {o:Int} (hx:at? A o=some x):Calls Tryz.prog 20 #[ptr M.hb,.int .i64 o] w fun e w'=>∃ G,e = .returned (.tuple #[.agg (tcs G),.bool true])∧GetOk w.heap.size w' x G∧Below w.heap.size w w':=by
 obtain ⟨i,q,g,cc,rfl,hi,hq,hr,hos,hc,hlt⟩:=h.obj hx
 have hb:=h.hblk
 rw [hos] at hb
 have hnum:=h.num q (List.mem_of_getElem? hq)
 have hlen:=hr.len
 have hvl:=hr.vlen
 obtain ⟨aa,ac,hargs⟩:=Hp.own_shape hr.row
 have hrow:=hr.row
 rw [hargs] at hrow
 have hvs:=vsAt_own hrow
 have hat:ObjAt w 0 q.ob q.pb q.mb q.n { x.th with args:=q.args } x.es x.vs q.ns:=⟨hr.blk,hr.nop,⟨aa,_,ac,hargs⟩,hr.obj,hr.es,hr.row,fun _ _=>Nat.zero_le _,Nat.zero_le _,Nat.zero_le _,fun l x r e _=>hr.once.none x (by rw [e];simp)⟩
 refine (get_some M.hb g q.ob q.pb q.mb q.n A.objs.length cc i 0 A.room A.sy _ x.es x.vs q.ns w hb hlt hc hat (by omega) (by omega) aa x.vs.length ac hargs fun w1 hb1=>clone_any aa _ ac x.vs w1 rfl (by omega) ((hvs.below hb1).mono hb1.size)).mono ?_
 rintro e w' ⟨a,c1,a',c',rfl,h1,h2,h3⟩
 refine ⟨_,rfl,⟨?_,h1,h2⟩,h3⟩
 obtain ⟨t,es,vs⟩:=x
 have hp:=hr.nop
 have ha:=hr.noa
 simp only at hp ha
 unfold bare
 cases t
 simp only at hp ha
 subst hp ha
 rfl
theorem GetOk.give (h:GetOk lo w x G) {G':Th} (e1:G'.props=G.props) (e2:G'.args=G.args) (hf:∀ e ∈ x.es,Fine (ekey e)) (hl:x.es.length≤900000) (hv:x.vs.length≤100000):Give w G' x.es x.vs:=by
 obtain ⟨a,c,e⟩:=Hp.own_shape h.r1
 obtain ⟨a',c',e'⟩:=Hp.own_shape h.r2
 have r1:=h.r1
 have r2:=h.r2
 rw [e] at r1
 rw [e'] at r2
 exact ⟨⟨a,c,e1.trans e,Hp.esAt_own r1⟩,⟨a',c',e2.trans e',vsAt_own r2⟩,hf,hl,hv⟩
theorem GetOk.args (h:GetOk lo w x G) (hM:WIs X c M w' A) (hlo:w'.heap.size≤lo):VsOut (M.bl X.wb) w G.args x.vs:=vs_own h.r2 fun b hb=>hM.new (Nat.le_trans hlo hb)
end
def ThAt (X:Cx) (c:Nat) (M:Wm) (w:World) (M':Wm) (A':Aw) (x:Ob) (lo:Nat) (ls:List Lc) (kl:List (Value × List KV)) (ro:List Lc) (s1 s2:Value) (wx:World):Prop :=
 ∃ N G,s1=ptr N∧s2 = .bool true∧GetOk lo wx x G∧Fm X c M w M' wx A' (⟨N,tcs G,39⟩ :: ls) kl ro
section
variable {w:World} {b:Nat} {t:Th} {o:Int} {T:TypeId}
theorem t_proto  (h:Blk w b (tcs t) T):(Ld 30 (.pointer (some ⟨b,1,none⟩))).run Tryz.prog w = .ok (.agg (vcs t.proto)) w:=run_ldVm (range_mid h [.int .i64 t.kind] (vcs t.proto).toList _ rfl)
theorem x_v  (h:Blk w b (xcs o t) T):(Ld 30 (.pointer (some ⟨b,9,none⟩))).run Tryz.prog w = .ok (.agg (vcs t.v)) w:=run_ldVm (range_mid h [.int .i64 o,.int .i64 t.kind,.int .i64 t.proto.k,.int .i64 t.proto.n,.string t.proto.s,.bool t.ext,t.props,.int .i64 t.code,.int .i64 t.n] (vcs t.v).toList _ rfl)
theorem x_tg  (h:Blk w b (xcs o t) T):(Ld 30 (.pointer (some ⟨b,12,none⟩))).run Tryz.prog w = .ok (.agg (vcs t.tg)) w:=run_ldVm (range_mid h [.int .i64 o,.int .i64 t.kind,.int .i64 t.proto.k,.int .i64 t.proto.n,.string t.proto.s,.bool t.ext,t.props,.int .i64 t.code,.int .i64 t.n,.int .i64 t.v.k,.int .i64 t.v.n,.string t.v.s] (vcs t.tg).toList _ rfl)
theorem x_ths  (h:Blk w b (xcs o t) T):(Ld 30 (.pointer (some ⟨b,18,none⟩))).run Tryz.prog w = .ok (.agg (vcs t.ths)) w:=run_ldVm (range_mid h [.int .i64 o,.int .i64 t.kind,.int .i64 t.proto.k,.int .i64 t.proto.n,.string t.proto.s,.bool t.ext,t.props,.int .i64 t.code,.int .i64 t.n,.int .i64 t.v.k,.int .i64 t.v.n,.string t.v.s,.int .i64 t.tg.k,.int .i64 t.tg.n,.string t.tg.s,.int .i64 t.hd.k,.int .i64 t.hd.n,.string t.hd.s] (vcs t.ths).toList _ rfl)
theorem x_kind (h:Blk w b (xcs o t) T):w.cell? ⟨b,1,none⟩=some (.int .i64 t.kind):=h.cell 1
theorem x_code (h:Blk w b (xcs o t) T):w.cell? ⟨b,7,none⟩=some (.int .i64 t.code):=h.cell 7
theorem x_n (h:Blk w b (xcs o t) T):w.cell? ⟨b,8,none⟩=some (.int .i64 t.n):=h.cell 8
theorem x_calls (h:Blk w b (xcs o t) T):w.cell? ⟨b,22,none⟩=some (.bool t.calls):=h.cell 22
theorem x_makes (h:Blk w b (xcs o t) T):w.cell? ⟨b,23,none⟩=some (.bool t.makes):=h.cell 23
theorem t_kind (h:Blk w b (tcs t) T):w.cell? ⟨b,0,none⟩=some (.int .i64 t.kind):=h.cell 0
theorem t_ext (h:Blk w b (tcs t) T):w.cell? ⟨b,4,none⟩=some (.bool t.ext):=h.cell 4
theorem t_args (h:Blk w b (tcs t) T):w.cell? ⟨b,20,none⟩=some (t.args):=h.cell 20
theorem t_props (h:Blk w b (tcs t) T):w.cell? ⟨b,5,none⟩=some (t.props):=h.cell 5
end
theorem run_stTk {w:World} {b:Nat} {o r:Th} (hb:Blk w b (tcs o) 39) (hr:r.ok):(St 39 (.pointer (some ⟨b,0,none⟩)) (.agg (tcs r))).run Tryz.prog w = .ok () (w.setRow b (tcs r)) :=
 run_st_row hb (by rw [tcs_size];exact sizeT) (by rw [tcs_size,tcs_size]) (tcs_one hr)
def setL:Nat→List Value→Array Value→Array Value
 | _,[],cs=>cs
 | i,v :: r,cs=>setL (i+1) r (cs.setIfInBounds i v)
theorem setRow_id {w:World} {b:Nat} {cs:Array Value} {t:TypeId} (hb:Blk w b cs t):w.setRow b cs=w:=by
 have h:w.heap[b]? = some (.cells cs t (0,0)):=hb
 unfold World.setRow
 congr 1
 apply Array.ext_getElem?
 intro i
 rw [Array.getElem?_modify]
 by_cases e:b=i
 ·subst e
  rw [if_pos rfl,h]
  rfl
 ·rw [if_neg e]
section
variable {X:Cx} {c:Nat} {M M' M'':Wm} {w w' w'':World} {A A' A'':Aw} {ls:List Lc} {kl:List (Value × List KV)} {ro:List Lc} {D:DoT}
theorem stW (h:WIs X c M w A):Calls Tryz.prog 100 #[ptr X.wb] w fun e w'=>e = .returned (ptr M.hb)∧w'=w:=store_world X.wb M.hb X.cl A.fuel A.deep A.depth A.deepest M.ls w h.wblk
theorem below_rowW {B:Nat} {w w':World} (h:Below B w w') {b:Nat} (cs:Array Value) (hb:B≤b):Below B w (w'.setRow b cs):=by
 refine ⟨h.os,h.tape,h.output,?_,fun c hc=>(setRow_other w' b c cs (by omega)).trans (h.block c hc)⟩
 rw [size_setRow]
 exact h.size
theorem Fm.growW (F:Fm X c M w M' w' A' ls kl ro) (hb:Below w'.heap.size w' w'') {b:Nat} {cs:Array Value} {t:TypeId} (B:Blk w'' b cs t) (hlt:w'.heap.size≤b):Fm X c M w M' w'' A' (⟨b,cs,t⟩ :: ls) kl ro:=by
 have F':=F.call hb
 refine ⟨F'.wis,F'.nx,fun x hx=>?_,F'.ks,F.h0,F'.rd,?_⟩
 ·rcases List.mem_cons.1 hx with rfl |hx
  ·exact ⟨B,F.wis.new hlt,Nat.le_trans F.nx.size hlt⟩
  ·exact F'.lo x hx
 ·rw [List.map_cons,List.nodup_cons]
  refine ⟨fun hm=>?_,F.nd⟩
  obtain ⟨y,hy,e⟩:=List.mem_map.1 hm
  have:=(F.lo y hy).blk.lt
  simp only at e
  omega
theorem Fm.leftW (F:Fm X c M w M' w' A' ls kl ro) {c2:Nat} {A2:Aw} (h:Left X c2 M' w' A2 w'' M''):Fm X c2 M w M'' w'' A2 ls kl ro:=F.next (k2:=[]) h.1 h.2 (fun k hk=>by cases hk)
theorem row_cell {b i:Nat} {cs:Array Value} {t:TypeId} (hb:Blk w b cs t) (v:Value) {ds:Array Value} (e:cs.setIfInBounds i v=ds):w.setCell ⟨b,i,none⟩ v=w.setRow b ds:=by
 rw [← e]
 exact setCell_eq_setRow w b i cs t (0,0) v hb
theorem row_cells {b:Nat} {t:TypeId}:∀ (vs:List Value) (i:Nat) (cs:Array Value) (w:World),Blk w b cs t→∀ {ds:Array Value},(setL i vs cs)=ds→w.setCells b i vs=w.setRow b ds
 | [],i,cs,w,hb,ds,e=>by
  subst e
  exact (setRow_id hb).symm
 | v :: r,i,cs,w,hb,ds,e=>by
  rw [World.setCells,row_cells r (i+1) (cs.setIfInBounds i v) _ (hb.set i v) e,row_cell hb v rfl,setRow_setRow]
end
theorem tcs_set4 (t:Th) (b:Bool):(tcs t).setIfInBounds 4 (.bool b)=tcs { t with ext:=b }:=rfl
theorem dcs_set15 (d:Ds) (b:Bool):(dcs d).setIfInBounds 15 (.bool b)=dcs { d with w:=b }:=rfl
theorem run_stVat {w:World} {b o:Nat} {cs:Array Value} {T:TypeId} (hb:Blk w b cs T) (v:Vl) (ho:o+3≤cs.size) {ds:Array Value} (e:setL o (vcs v).toList cs=ds):(St 30 (.pointer (some ⟨b,o,none⟩)) (.agg (vcs v))).run Tryz.prog w = .ok () (w.setRow b ds):=by
 have h:=run_stMid (w:=w) (b:=b) (o:=o) (T:=30) (cs:=vcs v) (there_blk hb (by show o+3≤_;omega)) sizeV (by simp [vcs,Value.oneCell'])
 rw [h,row_cells _ _ _ _ hb e]
theorem run_stTproto {w:World} {b:Nat} {t:Th} {T:TypeId} (hb:Blk w b (tcs t) T) (v:Vl):(St 30 (.pointer (some ⟨b,1,none⟩)) (.agg (vcs v))).run Tryz.prog w = .ok () (w.setRow b (tcs { t with proto:=v })):=run_stVat hb v (by show 1+3≤24;omega) rfl
theorem run_stDval {w:World} {b:Nat} {d:Ds} {T:TypeId} (hb:Blk w b (dcs d) T) (v:Vl):(St 30 (.pointer (some ⟨b,6,none⟩)) (.agg (vcs v))).run Tryz.prog w = .ok () (w.setRow b (dcs { d with v:=v })):=run_stVat hb v (by show 6+3≤18;omega) rfl
theorem run_stRval {w:World} {b:Nat} {r:Rr} {k:Value} {T:TypeId} (hb:Blk w b (rcs (r.mem k)) T) (v:Vl):(St 30 (.pointer (some ⟨b,1,none⟩)) (.agg (vcs v))).run Tryz.prog w = .ok () (w.setRow b (rcs (({ r with v:=v }:Rr).mem k))):=run_stVat hb v (by show 1+3≤25;omega) rfl
theorem same_vcs (a b:Vl) (w:World):Calls Tryz.prog 197 #[.agg (vcs a),.agg (vcs b)] w fun e w'=>e = .returned (.bool (Des.eqV a b))∧Below w.heap.size w w':=Des.same_any a b w
end Go.Proofs.YtkadkmnolkkhgaaGreatDoor.Mw

/-
 Step; the world's own cells.
-/
namespace Go.Proofs.YtkadkmnolkkhgaaGreatDoor.Mw
open Go Go.RowKit Go.Maps Go.Shelf Keys Hp Mo
open Des (Vl Ds zeroV zeroD dcs dcs_size dcs_one accF rigF appF eqV)
open Arrs (En ecs)
attribute [local go_sem ↓] ldR stR alR bxR bdR ldV stV alV bxV bdV ldA stA bxA bdA ldKy bxKy bdKy 
attribute [local irreducible] rcs dcs ecs vcs acs kcs xcs tcs
attribute [local go_sem] run_bx run_alR run_stRg run_bdA0 run_bdAk run_bdAkr run_bdAkvr run_bdAr run_bdAkd run_bdRz run_bdRd run_bdRk run_bdRf run_bdRo run_bdRs run_bdRt' run_bdKs 
section
variable {X:Cx} {c:Nat} {M M' M'':Wm} {w w' w'':World} {A A' A'':Aw} {ls:List Lc} {kl:List (Value × List KV)} {ro:List Lc} {D:DoT}
theorem WIs.wset (h:WIs X c M w A) {X':Cx} {c':Nat} {A':Aw} (hX:X.near X') (hA:A.near A') (f0:0≤A'.fuel) (f1:8*A'.fuel.toNat+c'≤8*A.fuel.toNat+c) (d0:0≤A'.depth) (d1:A'.depth≤A'.deep) (d2:A'.deep≤1000) (d3:A'.depth=X'.dp) (d4:A'.deep=X'.dl) :
  WIs X' c' M (w.setRow X.wb (wcs M.hb X.cl A'.fuel A'.deep A'.depth A'.deepest M.ls)) A' :=
 h.own hX hA (h.wblk.row _) (fun b hb=>setRow_other w X.wb b _ hb) ⟨rfl,rfl,rfl,by rw [size_setRow];exact Nat.le_refl _⟩ f0 f1 d0 d1 d2 d3 d4
theorem Nx.wset (M:Wm) (wb:Nat) (w:World) (cs:Array Value):Nx (M.bl wb) w (M.bl wb) (w.setRow wb cs) :=
 ⟨⟨⟨rfl,rfl,rfl,by rw [size_setRow];exact Nat.le_refl _⟩,fun b hb hn=>setRow_other w wb b cs fun e=>hn (e ▸ mem_wb M wb)⟩,fun b hb=>.inl hb⟩
theorem wcs_fuel {hb:Nat} {cl ls:Value} {f dl d de v:Int}:(wcs hb cl f dl d de ls).setIfInBounds 2 (.int .i64 v)=wcs hb cl v dl d de ls:=rfl
theorem wcs_depth {hb:Nat} {cl ls:Value} {f dl d de v:Int}:(wcs hb cl f dl d de ls).setIfInBounds 4 (.int .i64 v)=wcs hb cl f dl v de ls:=rfl
theorem wcs_deepest {hb:Nat} {cl ls:Value} {f dl d de v:Int}:(wcs hb cl f dl d de ls).setIfInBounds 5 (.int .i64 v)=wcs hb cl f dl d v ls:=rfl
theorem Cx.near_refl (X:Cx):X.near X:=⟨rfl,rfl,rfl,rfl⟩
theorem WIs.w2 (h:WIs X c M w A):w.cell? ⟨X.wb,2,none⟩=some (.int .i64 A.fuel):=h.wblk.cell 2
theorem WIs.w3 (h:WIs X c M w A):w.cell? ⟨X.wb,3,none⟩=some (.int .i64 A.deep):=h.wblk.cell 3
theorem WIs.w4 (h:WIs X c M w A):w.cell? ⟨X.wb,4,none⟩=some (.int .i64 A.depth):=h.wblk.cell 4
theorem WIs.w5 (h:WIs X c M w A):w.cell? ⟨X.wb,5,none⟩=some (.int .i64 A.deepest):=h.wblk.cell 5
theorem WIs.w6 (h:WIs X c M w A):w.cell? ⟨X.wb,6,none⟩=some M.ls:=h.wblk.cell 6
theorem WIs.w1 (h:WIs X c M w A):w.cell? ⟨X.wb,1,none⟩=some X.cl:=h.wblk.cell 1
theorem step_no (h:WIs X c M w A) (hf:A.fuel=0):Calls Tryz.prog 51 #[ptr X.wb] w fun e w'=>e = .returned (.agg (rcs ((flowR 2).mem nilS)))∧Below w.heap.size w w':=by
 obtain ⟨w1,hw1⟩:∃ w1,w.alloc (.cells (rcs zeroR) 57)=w1:=⟨_,rfl⟩
 have b1:Below w.heap.size w w1:=by rw [← hw1];exact (Below.refl _ w).alloc (Nat.le_refl _) _
 have x1:Blk w1 w.heap.size (rcs zeroR) 57:=by rw [← hw1];exact Blk.new w _ _
 have h1:=h.call b1
 have c2:=h1.w2
 rw [hf] at c2
 have s1:=run_stRp x1 (r:=(flowR 2).mem nilS) ⟨_,_,_,rfl⟩
 have X1:=Lib.hid (x1.row (rcs ((flowR 2).mem nilS)))
 have B1:=Lib.hid (below_rowW b1 (rcs ((flowR 2).mem nilS)) (Nat.le_refl _))
 clear h h1 x1 b1 hf
 go_enter Tryz.func51,Tryz.ntmps51
 go_wp2
 refine bodyPost_ret (res_R rfl _ _ w.heap.size _ rfl X1.out) rfl ?_
 exact ⟨rfl,B1.out⟩
theorem step_yes (h:WIs X c M w A) (hf:A.fuel ≠ 0):Calls Tryz.prog 51 #[ptr X.wb] w fun e w'=>e = .returned (.agg (rcs (zeroRr.mem nilS)))∧WIs X (c+8) M w' { A with fuel:=A.fuel - 1 }∧Nx (M.bl X.wb) w (M.bl X.wb) w':=by
 obtain ⟨w1,hw1⟩:∃ w1,w.alloc (.cells (rcs zeroR) 57)=w1:=⟨_,rfl⟩
 have F0:Fm X c M w M w1 A [⟨w.heap.size,rcs zeroR,57⟩] [] []:=by rw [← hw1];exact (Fm.start h).new _ _
 have h1:=F0.wis
 have c2:=h1.w2
 have f2:=h1.wblk.frozen 2
 have hfew:=h.few
 have hfu:=h.fuel
 have e2:w1.setCell ⟨X.wb,2,none⟩ (.int .i64 (A.fuel - 1))=w1.setRow X.wb (wcs M.hb X.cl (A.fuel - 1) A.deep A.depth A.deepest M.ls):=row_cell h1.wblk _ wcs_fuel
 have h2:=h1.wset (c':=c+8) (A':={ A with fuel:=A.fuel - 1 }) (Cx.near_refl X) ⟨rfl,rfl,rfl,rfl⟩ (by show 0≤A.fuel - 1;omega) (by show 8*(A.fuel - 1).toNat+(c+8)≤_;omega) h1.dep0 h1.dep1 h1.deep h1.dpe h1.dle
 have F2:Fm X (c+8) M w M (w1.setRow X.wb (wcs M.hb X.cl (A.fuel - 1) A.deep A.depth A.deepest M.ls)) { A with fuel:=A.fuel - 1 } [⟨w.heap.size,rcs zeroR,57⟩] [] []:=F0.next (k2:=[]) h2 (Nx.wset M X.wb w1 _) (fun k hk=>by cases hk)
 rw [← e2] at F2
 have s1:=run_stRp F2.l0.blk (r:=zeroRr.mem nilS) ⟨_,_,_,rfl⟩
 have F3:=F2.put (l:=[]) (rcs (zeroRr.mem nilS)) (show 57 ≠ 32 by decide)
 have HF3:=Lib.hid F3
 have d0:(A.fuel == 0)=false:=by simp [hf]
 have hw64:wrap64 (A.fuel - 1)=A.fuel - 1:=by unfold wrap64;omega
 clear h h1 h2 F0 F2 F3 hf hfew hfu e2
 go_enter Tryz.func51,Tryz.ntmps51
 go_wp2
 refine bodyPost_ret (res_R rfl _ _ w.heap.size _ rfl HF3.out.l0.blk) rfl ?_
 exact ⟨rfl,HF3.out.wis,HF3.out.nx⟩
end
end Go.Proofs.YtkadkmnolkkhgaaGreatDoor.Mw
