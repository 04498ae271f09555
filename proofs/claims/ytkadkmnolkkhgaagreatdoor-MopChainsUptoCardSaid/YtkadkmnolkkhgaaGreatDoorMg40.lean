/-
 Texts of this seat in build order: MwChainM, MwFirst.
-/
import Derived.Test.YtkadkmnolkkhgaaGreatDoorMg38
import Derived.Test.YtkadkmnolkkhgaaGreatDoorMg37
import Derived.Test.YtkadkmnolkkhgaaGreatDoorMg39
/-
 Chains of plain objects with properties: what a look along them gives (plain mathematics).
-/
set_option linter.unusedVariables false
set_option linter.unusedSimpArgs false
namespace Go.Proofs.YtkadkmnolkkhgaaGreatDoor.Mw
open Go Go.RowKit Keys Hp
open Des (Vl Ds zeroV zeroD dcs eqV accF rigF appF)
open Arrs (En lenF leftF)
def firstF:List (List En)→KV→Option Ds
 | [],_=>none
 | es :: r,k=>match find es k with |some d=>some d |none=>firstF r k
theorem at_pl {A:Aw} {ess:List (List En)} (h:A.objs=plL ess ess.length) {i:Nat} {es:List En} (hi:ess[i]? = some es):at? A (i:Int)=some ⟨plTh ess.length i,es,[]⟩:=by
 have hlt:i < ess.length:=(List.getElem?_eq_some_iff.1 hi).1
 unfold at?
 rw [if_neg (by omega),h]
 simp [plL,hlt]
 exact Option.some.inj ((List.getElem?_eq_getElem hlt).symm.trans hi)
theorem pl_own {A:Aw} {ess:List (List En)} (h:A.objs=plL ess ess.length) {i:Nat} {es:List En} (hi:ess[i]? = some es) (k:KV):ownF A i k=find es k:=by
 unfold ownF
 rw [at_pl h hi]
 rfl
def ownR (o:Option Ds):Rr:=match o with
 | some d=>{ zeroRr with has:=true,d:=d }
 | none=>zeroRr
structure Sm (A B:Aw) (n:Int):Prop where
 objs:B.objs=A.objs
 room:B.room=A.room
 depth:B.depth=A.depth
 deep:B.deep=A.deep
 fuel:A.fuel - n≤B.fuel
theorem Sm.refl (A:Aw):Sm A A 0:=⟨rfl,rfl,rfl,rfl,by omega⟩
theorem Sm.trans {A B D:Aw} {n m k:Int} (h:Sm A B n) (j:Sm B D m) (e:n+m≤k):Sm A D k:=⟨j.objs.trans h.objs,j.room.trans h.room,j.depth.trans h.depth,j.deep.trans h.deep,by have:=h.fuel;have:=j.fuel;omega⟩
section
variable {X:DoT→DoT} {C:DoT→HandT} {ess:List (List En)}
theorem sm_leave {A B:Aw} {n:Int} (m o:Int) (a:Aq) (r:Rr) (h:Sm (enterA A) B n):Sm A (leaveA A m o a (r,B)).2 (n+1)∧(leaveA A m o a (r,B)).1=r:=by
 unfold leaveA
 split
 ·exact ⟨⟨h.objs,h.room,by show B.depth - 1=A.depth;rw [h.depth];show A.depth+1 - 1=_;omega,h.deep,by show A.fuel - (n+1)≤B.fuel;have:=h.fuel;have e:(enterA A).fuel=A.fuel - 1:=rfl;omega⟩,rfl⟩
 ·exact ⟨⟨h.objs,h.room,by show B.depth - 1=A.depth;rw [h.depth];show A.depth+1 - 1=_;omega,h.deep,by show A.fuel - (n+1)≤B.fuel;have:=h.fuel;have e:(enterA A).fuel=A.fuel - 1:=rfl;omega⟩,rfl⟩
theorem pl_get {A:Aw} (h:A.objs=plL ess ess.length) {i:Nat} {es:List En} (hi:ess[i]? = some es) (q:Aq) {k:Nat} (hf:A.fuel ≠ 0) (hd:¬ A.depth ≥ A.deep) :
  ∃ B,doF X C k 5 i q A=(ownR (find es q.k),B)∧Sm A B 1:=by
 rw [do_body,body_ok (at_pl h hi) (by decide) hf hd]
 have e:perfF (X (subF X C k)) (C (subF X C k)) (subF X C k) 5 i (plTh ess.length i) q (enterA A)=(getOwnF i q.k (enterA A),enterA A):=by
  simp [perfF,plTh,freshT,zeroT,ordiF]
 rw [e]
 obtain ⟨s1,s2⟩:=sm_leave (A:=A) 5 i q (getOwnF i q.k (enterA A)) (Sm.refl (enterA A))
 refine ⟨_,Prod.ext ?_ rfl,s1.trans (Sm.refl _) (by omega)⟩
 rw [s2]
 unfold getOwnF
 rw [pl_own (A:=enterA A) h hi]
 unfold ownR
 cases find es q.k <;> rfl
theorem pl_proto {A:Aw} (h:A.objs=plL ess ess.length) {i:Nat} {es:List En} (hi:ess[i]? = some es) (q:Aq) {k:Nat} (hf:A.fuel ≠ 0) (hd:¬ A.depth ≥ A.deep) :
  ∃ B,doF X C k 1 i q A=(done (plTh ess.length i).proto,B)∧Sm A B 1:=by
 rw [do_body,body_ok (at_pl h hi) (by decide) hf hd]
 have e:perfF (X (subF X C k)) (C (subF X C k)) (subF X C k) 1 i (plTh ess.length i) q (enterA A)=(done (plTh ess.length i).proto,enterA A):=by
  simp [perfF,plTh,freshT,zeroT,ordiF]
 rw [e]
 unfold leaveA
 simp only [show abr (done (plTh ess.length i).proto)=false from rfl,Bool.false_eq_true,if_false]
 refine ⟨_,rfl,rfl,rfl,?_,rfl,?_⟩
 ·show A.depth+1 - 1=A.depth;omega
 ·show A.fuel - 1≤A.fuel - 1;omega
theorem pl_inher {A:Aw} (h:A.objs=plL ess ess.length) {i:Nat} {es:List En} (hi:ess[i]? = some es) (m:Int) (q:Aq) {k:Nat} (hf:A.fuel ≠ 0) (hd:¬ A.depth ≥ A.deep) :
  ∃ B,Sm A B 1∧inherF (doF X C k) m i q A=(if i+1 < ess.length then ((doF X C k m (i+1:Nat) q B).1,true) else (zeroRr,false),if i+1 < ess.length then (doF X C k m (i+1:Nat) q B).2 else B):=by
 obtain ⟨B,e,hs⟩:=pl_proto (X:=X) (C:=C) h hi zeroQ (k:=k) hf hd
 refine ⟨B,hs,?_⟩
 unfold inherF
 rw [e]
 simp only [show abr (done (plTh ess.length i).proto)=false from rfl,Bool.false_eq_true,if_false]
 by_cases hl:i+1 < ess.length
 ·rw [if_pos hl,if_pos hl]
  have e1:(done (plTh ess.length i).proto).v=objV (i+1:Nat):=by simp [done,plTh,freshT,hl]
  rw [e1]
  simp only [show (objV (i+1:Nat)).k=6 from rfl,if_true,askF]
  rfl
 ·rw [if_neg hl,if_neg hl]
  have e1:(done (plTh ess.length i).proto).v=nullV:=by simp [done,plTh,freshT,hl]
  rw [e1]
  simp only [show ¬ nullV.k=6 by decide,if_false]
theorem pl_has (q:KV):∀ (r i k:Nat) (A:Aw),A.objs=plL ess ess.length→i+r=ess.length→0 < r→A.depth+k=A.deep→r+1≤k→3*(r:Int)+1≤A.fuel →
  ∃ B,doF X C k 7 i { zeroQ with k:=q } A=(ans (firstF (ess.drop i) q).isSome,B)∧Sm A B (3*(r:Int)):=by
 intro r
 induction r with
 | zero=>intro i k A _ _ h;omega
 | succ r ih =>
  intro i k A hA hir _ hk hrk hf
  obtain ⟨es,hes⟩:∃ es,ess[i]? = some es:=⟨ess[i],List.getElem?_eq_getElem (by omega)⟩
  have hdrop:ess.drop i=es :: ess.drop (i+1):=by
   rw [List.drop_eq_getElem_cons (by omega)]
   congr 1
   exact Option.some.inj ((List.getElem?_eq_getElem (by omega)).symm.trans hes)
  obtain ⟨j,rfl⟩:∃ j,k=j+1:=⟨k - 1,by omega⟩
  rw [do_body,body_ok (at_pl hA hes) (by decide) (by omega) (by omega)]
  have e:perfF (X (subF X C (j+1))) (C (subF X C (j+1))) (subF X C (j+1)) 7 i (plTh ess.length i) { zeroQ with k:=q } (enterA A)=hasF (doF X C j) i { zeroQ with k:=q } (enterA A):=by
   simp [perfF,plTh,freshT,zeroT,ordiF,subF]
  rw [e]
  have hE:(enterA A).objs=plL ess ess.length:=hA
  have eF:(enterA A).fuel=A.fuel - 1:=rfl
  have eD:(enterA A).depth=A.depth+1:=rfl
  have eP:(enterA A).deep=A.deep:=rfl
  obtain ⟨B1,e1,s1⟩:=pl_get (X:=X) (C:=C) hE hes { zeroQ with k:=q } (k:=j) (by omega) (by omega)
  have hfir:firstF (ess.drop i) q=(match find es q with |some d=>some d |none=>firstF (ess.drop (i+1)) q):=by rw [hdrop];rfl
  unfold hasF
  rw [e1]
  cases hfi:find es q with
  | some d =>
   simp only [ownR,hfi,show abr { zeroRr with has:=true,d:=d }=false from rfl,Bool.false_eq_true,if_false,if_true]
   obtain ⟨s2,e2⟩:=sm_leave (A:=A) 7 i { zeroQ with k:=q } (ans true) s1
   refine ⟨_,Prod.ext ?_ rfl,s2.trans (Sm.refl _) (by omega)⟩
   rw [e2,hfir,hfi]
   rfl
  | none =>
   simp only [ownR,hfi,show abr zeroRr=false from rfl,Bool.false_eq_true,if_false,show zeroRr.has=false from rfl]
   obtain ⟨B2,s3,e3⟩:=pl_inher (X:=X) (C:=C) (A:=B1) (s1.objs.trans hE) hes 7 { zeroQ with k:=q } (k:=j) (by have:=s1.fuel;omega) (by rw [s1.depth,s1.deep];omega)
   rw [e3]
   by_cases hl:i+1 < ess.length
   ·obtain ⟨B3,e4,s4⟩:=ih (i+1) j B2 (s3.objs.trans (s1.objs.trans hE)) (by omega) (by omega) (by rw [s3.depth,s1.depth,s3.deep,s1.deep];omega) (by omega) (by have:=s1.fuel;have:=s3.fuel;omega)
    simp only [if_pos hl,e4]
    have s5:=(s1.trans s3 (k:=2) (by omega)).trans s4 (k:=2+3*(r:Int)) (by omega)
    obtain ⟨s2,e2⟩:=sm_leave (A:=A) 7 i { zeroQ with k:=q } (ans (firstF (ess.drop (i+1)) q).isSome) s5
    refine ⟨_,Prod.ext ?_ rfl,s2.trans (Sm.refl _) (by push_cast;omega)⟩
    rw [e2,hfir,hfi]
   ·simp only [if_neg hl]
    have s5:=s1.trans s3 (k:=2) (by omega)
    obtain ⟨s2,e2⟩:=sm_leave (A:=A) 7 i { zeroQ with k:=q } zeroRr s5
    refine ⟨_,Prod.ext ?_ rfl,s2.trans (Sm.refl _) (by push_cast;omega)⟩
    rw [e2,hfir,hfi,List.drop_eq_nil_of_le (by omega)]
    rfl
def GetR (o:Option Ds) (R:Rr):Prop:=match o with
 | none=>R=zeroRr
 | some d=>if accF d=true then (if d.g.k=0 then R=zeroRr else R.flow=1) else R=done d.v
theorem fail_one (nm:ByteArray) (A:Aw) (h:(A.objs.length:Int) < A.room):(failF nm A).1.flow=1:=by
 unfold failF createF
 rw [if_pos h]
 rfl
theorem pl_call {A:Aw} (h:A.objs=plL ess ess.length) (h0:0 < ess.length) (q:Aq) {k:Nat} (hf:A.fuel ≠ 0) (hd:¬ A.depth ≥ A.deep) (hr:(ess.length:Int) < A.room) :
  (doF X C k 12 0 q A).1.flow=1:=by
 obtain ⟨es,hes⟩:∃ es,ess[0]? = some es:=⟨ess[0],List.getElem?_eq_getElem h0⟩
 have hat:at? A (0:Int)=some ⟨plTh ess.length 0,es,[]⟩:=at_pl h hes
 rw [do_body,body_ok (x:=⟨plTh ess.length 0,es,[]⟩) hat (by decide) hf hd]
 have e:perfF (X (subF X C k)) (C (subF X C k)) (subF X C k) 12 0 (plTh ess.length 0) q (enterA A)=failF typeErr (enterA A):=by
  simp [perfF,plTh,freshT,zeroT,invF,callsT]
 rw [e]
 have h2:=fail_one typeErr (enterA A) (by show (A.objs.length:Int) < A.room;rw [h,plL_len];exact hr)
 unfold leaveA
 split
 ·exact h2
 ·exact h2
theorem pl_read {A:Aw} (h:A.objs=plL ess ess.length) (h0:0 < ess.length) (d:Ds) (rc:Vl) {k:Nat} (hg:d.g.k=6→d.g.n=0) (hf:A.fuel ≠ 0) (hd:¬ A.depth ≥ A.deep) (hr:(ess.length:Int) < A.room) :
  GetR (some d) (readF (doF X C k) d rc A).1:=by
 unfold readF
 simp only [GetR]
 cases ha:accF d with
 | false=>simp
 | true =>
  simp only [Bool.not_true,Bool.false_eq_true,if_false,if_true]
  by_cases hk:d.g.k=0
  ·rw [if_pos hk,if_pos hk]
  ·rw [if_neg hk,if_neg hk]
   unfold askF
   by_cases h6:d.g.k=6
   ·rw [if_pos h6,hg h6]
    exact pl_call h h0 _ hf hd hr
   ·rw [if_neg h6]
    exact fail_one typeErr A (by rw [h,plL_len];exact hr)
theorem leave_fst (A:Aw) (m o:Int) (a:Aq) (R:Rr × Aw):(leaveA A m o a R).1=R.1:=by unfold leaveA;split <;> rfl
theorem pl_mget (q:KV) (rc:Vl) (hg:∀ es ∈ ess,∀ e ∈ es,e.d.g.k=6→e.d.g.n=0):∀ (r i k:Nat) (A:Aw),A.objs=plL ess ess.length→i+r=ess.length→0 < r→A.depth+k=A.deep→r+2≤k→3*(r:Int)+4≤A.fuel→(ess.length:Int) < A.room →
  GetR (firstF (ess.drop i) q) (doF X C k 8 i { zeroQ with k:=q,r:=rc } A).1:=by
 intro r
 induction r with
 | zero=>intro i k A _ _ h;omega
 | succ r ih =>
  intro i k A hA hir _ hk hrk hf hroom
  obtain ⟨es,hes⟩:∃ es,ess[i]? = some es:=⟨ess[i],List.getElem?_eq_getElem (by omega)⟩
  have hdrop:ess.drop i=es :: ess.drop (i+1):=by
   rw [List.drop_eq_getElem_cons (by omega)]
   congr 1
   exact Option.some.inj ((List.getElem?_eq_getElem (by omega)).symm.trans hes)
  obtain ⟨j,rfl⟩:∃ j,k=j+1:=⟨k - 1,by omega⟩
  rw [do_body,body_ok (at_pl hA hes) (by decide) (by omega) (by omega),leave_fst]
  have e:perfF (X (subF X C (j+1))) (C (subF X C (j+1))) (subF X C (j+1)) 8 i (plTh ess.length i) { zeroQ with k:=q,r:=rc } (enterA A)=getF (doF X C j) i { zeroQ with k:=q,r:=rc } (enterA A):=by
   simp [perfF,plTh,freshT,zeroT,ordiF,subF]
  rw [e]
  have hE:(enterA A).objs=plL ess ess.length:=hA
  have eF:(enterA A).fuel=A.fuel - 1:=rfl
  have eD:(enterA A).depth=A.depth+1:=rfl
  have eP:(enterA A).deep=A.deep:=rfl
  have eR:(enterA A).room=A.room:=rfl
  obtain ⟨B1,e1,s1⟩:=pl_get (X:=X) (C:=C) hE hes { zeroQ with k:=q } (k:=j) (by omega) (by omega)
  have hfir:firstF (ess.drop i) q=(match find es q with |some d=>some d |none=>firstF (ess.drop (i+1)) q):=by rw [hdrop];rfl
  unfold getF
  simp only [e1]
  cases hfi:find es q with
  | some d =>
   simp only [ownR,hfi,show abr { zeroRr with has:=true,d:=d }=false from rfl,Bool.false_eq_true,if_false,if_true]
   rw [hfir,hfi]
   have hmem:∃ e ∈ es,e.d=d:=by
    unfold find at hfi
    obtain ⟨e,he,rfl⟩:=Option.map_eq_some_iff.1 hfi
    exact ⟨e,List.mem_of_find?_eq_some he,rfl⟩
   obtain ⟨e,he,rfl⟩:=hmem
   exact pl_read (s1.objs.trans hE) (by omega) e.d rc (hg es (List.mem_of_getElem? hes) e he) (by have:=s1.fuel;omega) (by rw [s1.depth,s1.deep];omega) (by rw [s1.room];exact hroom)
  | none =>
   simp only [ownR,hfi,show abr zeroRr=false from rfl,Bool.false_eq_true,if_false,show zeroRr.has=false from rfl]
   rw [hfir,hfi]
   obtain ⟨B2,s3,e3⟩:=pl_inher (X:=X) (C:=C) (A:=B1) (s1.objs.trans hE) hes 8 { zeroQ with k:=q,r:=rc } (k:=j) (by have:=s1.fuel;omega) (by rw [s1.depth,s1.deep];omega)
   rw [e3]
   by_cases hl:i+1 < ess.length
   ·simp only [if_pos hl]
    exact ih (i+1) j B2 (s3.objs.trans (s1.objs.trans hE)) (by omega) (by omega) (by rw [s3.depth,s1.depth,s3.deep,s1.deep];omega) (by omega) (by have:=s1.fuel;have:=s3.fuel;omega) (by rw [s3.room,s1.room];exact hroom)
   ·simp only [if_neg hl]
    rw [List.drop_eq_nil_of_le (by omega)]
    rfl
end
end Go.Proofs.YtkadkmnolkkhgaaGreatDoor.Mw

/-
 first: the first one of a chain that has a key.
-/
namespace Go.Proofs.YtkadkmnolkkhgaaGreatDoor.Mw
open Go Go.RowKit Go.Maps Go.Shelf Keys Hp Mo
open Des (Vl Ds zeroV zeroD dcs dcs_size dcs_one accF rigF appF eqV)
open Arrs (En ecs ecs_0 ecs_10)
def Lists (w:World) (n₀:Nat) (a:Option Addr) (ess:List (List En)):Prop:=∀ (j:Nat) (es:List En),ess[j]? = some es→es.length≤70000∧∃ b off aj cj,a=some ⟨b,off,none⟩∧b < n₀∧w.cell? ⟨b,off+j,none⟩=some (.slice aj es.length cj)∧Hp.EsAt n₀ aj es w
theorem Lists.below {w w':World} {n₀:Nat} {a:Option Addr} {ess:List (List En)} (h:Lists w n₀ a ess) (hb:Below n₀ w w'):Lists w' n₀ a ess:=fun j es he=>by
 obtain ⟨h0,b,off,aj,cj,h1,h2,h3,h4⟩:=h j es he
 exact ⟨h0,b,off,aj,cj,h1,h2,(hb.cell (p:=⟨b,off+j,none⟩) h2).trans h3,h4.below hb⟩
theorem two_blk (w:World) (cs ds:Array Value) (T T':TypeId):Blk ((w.alloc (.cells cs T)).alloc (.cells ds T')) (w.heap.size+1) ds T':=by
 have h:=Blk.new (w.alloc (.cells cs T)) ds T'
 have z:(w.alloc (.cells cs T)).heap.size=w.heap.size+1:=by simp
 rw [z] at h
 exact h
theorem res_st {W:World} {b:Nat} {o d:Ds} {T:TypeId} (h:Blk W b (dcs o) T):(St 34 (.pointer (some ⟨b,0,none⟩)) (.agg (dcs d))).run Tryz.prog W = .ok () (W.setRow b (dcs d)):=run_st_row h (by rw [dcs_size];exact sizeD) (by rw [dcs_size,dcs_size]) (dcs_one d)
theorem res_ld {W:World} {b:Nat} {d:Ds} {T:TypeId} (h:Blk W b (dcs d) T):(Ld 34 (.pointer (some ⟨b,0,none⟩))).run Tryz.prog W = .ok (.agg (dcs d)) W:=run_ldDm (range_mid h [] (dcs d).toList [] (by simp))
theorem res2_D {fn:Func} {p q:Tmp} (h:fn.results=#[.cell p 34,.tmp q]) (tmps:Array Value) (w:World) (g:Nat) (d:Ds) (hp:tmps.getD p undef = .pointer (some ⟨g,0,none⟩)) {T:TypeId} (hr:Blk w g (dcs d) T) :
  (results fn tmps).run Tryz.prog w = .ok (.tuple #[.agg (dcs d),tmps.getD q undef]) w:=by
 have hv:=run_loadVar_row (P:=Tryz.prog) w g T 34 (dcs d) (0,0) _ hr Tryz.underlying34 rfl (by rw [dcs_size];exact sizeD)
 rw [results_cell_tmp h,hp]
 simp [asAddr,hv,Result.andThen]
theorem fnd_none {es:List En} {k:KV} (h:∀ x ∈ es,ekey x ≠ k):find es k=none:=by
 unfold find
 rw [List.find?_eq_none.2 (fun x hx=>by simpa using h x hx)]
 rfl
theorem fnd_at {es:List En} {k:KV} {j:Nat} {x:En} (hx:es[j]? = some x) (h:∀ y ∈ es.take j,ekey y ≠ k) (he:ekey x=k):find es k=some x.d:=by
 obtain ⟨hj,hx⟩:=List.getElem?_eq_some_iff.1 hx
 have hs:es=es.take j++(x :: es.drop (j+1)):=by rw [← hx,List.getElem_cons_drop,List.take_append_drop]
 unfold find
 rw [hs,List.find?_append,List.find?_eq_none.2 (fun y hy=>by simpa using h y hy)]
 simp [he]
theorem first_drop {ess:List (List En)} {i:Nat} {es:List En} (hi:ess[i]? = some es) (k:KV):firstF (ess.drop i) k=(match find es k with |some d=>some d |none=>firstF (ess.drop (i+1)) k):=by
 obtain ⟨hj,hx⟩:=List.getElem?_eq_some_iff.1 hi
 rw [← hx,List.drop_eq_getElem_cons hj]
 rfl
def fstD (o:Option Ds):Ds:=o.getD zeroD
attribute [local go_sem ↓] ldV stV alV bxV bdV ldKy bxKy bdKy ldD stD alD bxDe bdD
attribute [local irreducible] dcs vcs kcs ecs
attribute [local go_sem] run_bx run_alD
section
set_option maxRecDepth 100000 in
set_option maxHeartbeats 8000000 in
theorem first_any (a:Option Addr) (cap:Nat) (ess:List (List En)) (k:KV) (hn:ess.length≤100) (w:World) (hl:Lists w w.heap.size a ess) :
  Calls Tryz.prog 23 #[.slice a ess.length cap,.agg (kcs k)] w fun e w'=>e = .returned (.tuple #[.agg (dcs (fstD (firstF ess k))),.bool (firstF ess k).isSome])∧Below w.heap.size w w':=by
 have HL:=Lib.hid hl
 have HN:=Lib.hid hn
 obtain ⟨O,hO⟩:∃ O,firstF ess k=O:=⟨_,rfl⟩
 rw [hO]
 have HO:=Lib.hid hO
 clear hl hO
 go_enter Tryz.func23,Tryz.ntmps23
 go_wp2
 go_loopg [6] ess.length (fun g s wr=>∃ i:Nat,i≤ess.length∧g=ess.length - i∧s = .int .i64 i∧firstF (ess.drop i) k=O∧Blk wr w.heap.size (kcs k) 32∧Blk wr (w.heap.size+1) (dcs zeroD) 34∧Below w.heap.size w wr)
 case atStart=>exact ⟨0,by omega,rfl,rfl,by rw [List.drop_zero];exact HO.out,(Blk.new w _ _).old _,two_blk _ _ _ _ _,((Below.refl _ w).alloc (Nat.le_refl _) _).alloc (by simp) _⟩
 case round =>
  rename World=>wr
  obtain ⟨i,hi,rfl,rfl,hf,hk,hz,hB⟩:=hrel
  by_cases hil:i < ess.length
  ·obtain ⟨es,hes⟩:∃ es,ess[i]? = some es:=⟨ess[i],List.getElem?_eq_getElem hil⟩
   have hil2:(i:Int) < ess.length:=by omega
   have HES:=Lib.hid hes
   have HF:=Lib.hid hf
   have HBr:=Lib.hid hB
   have HK:=Lib.hid hk
   have HZ:=Lib.hid hz
   clear hk hz
   obtain ⟨hle,b,off,aj,cj,ea,hlb,hc,hE⟩:=HL.out i es hes
   subst ea
   have HC:=Lib.hid hc
   have HE:=Lib.hid hE
   have HLB:=Lib.hid hlb
   clear hes hf hB hc hE hlb
   go_wp2
   go_loopg [7] es.length (fun g s wx=>∃ j:Nat,j≤es.length∧g=es.length - j∧s = .int .i64 j∧(∀ y ∈ es.take j,ekey y ≠ k)∧Blk wx w.heap.size (kcs k) 32∧Blk wx (w.heap.size+1) (dcs zeroD) 34∧Below w.heap.size w wx)
   case atStart=>exact ⟨0,by omega,rfl,rfl,(fun y hy=>by simp at hy),HK.out,HZ.out,HBr.out⟩
   case round =>
    rename World=>wx
    obtain ⟨j,hj,rfl,rfl,hne,hk,hz,hB⟩:=hrel
    have cl:wx.cell? ⟨b,off+i,none⟩=some (.slice aj es.length cj):=(hB.cell (p:=⟨b,off+i,none⟩) HLB.out).trans HC.out
    have cld:wx.drew.cell? ⟨b,off+i,none⟩=some (.slice aj es.length cj):=(hB.drew.cell (p:=⟨b,off+i,none⟩) HLB.out).trans HC.out
    by_cases hjl:j < es.length
    ·have hjl2:(j:Int) < es.length:=by omega
     obtain ⟨x,hx⟩:∃ x,es[j]? = some x:=⟨es[j],List.getElem?_eq_getElem hjl⟩
     obtain ⟨b4,off4,ea4,heb4,hat4⟩:=(HE.out.below hB) j x hx
     subst ea4
     have lx:=en_key hat4
     have lxd:=en_key (w:=wx.drew) (e:=x) hat4
     have ld:=en_desc hat4
     have ldd:=en_desc (w:=wx.drew) (e:=x) hat4
     have HX:=Lib.hid hx
     have HNE:=Lib.hid hne
     have HBx:=Lib.hid hB
     have HK:=Lib.hid hk
     have HZ:=Lib.hid hz
     have le:(Ld 32 (.pointer (some ⟨w.heap.size,0,none⟩))).run Tryz.prog wx = .ok (.agg (kcs k)) wx:=run_ldKm (range_mid hk [] (kcs k).toList [] (by simp))
     have led:(Ld 32 (.pointer (some ⟨w.heap.size,0,none⟩))).run Tryz.prog wx.drew = .ok (.agg (kcs k)) wx.drew:=run_ldKm (range_mid hk.drew [] (kcs k).toList [] (by simp))
     clear hk hz
     have HAT:=Lib.hid hat4
     clear hx hne hB hat4 heb4
     cases hq:eqK (ekey x).1 (ekey x).2 k.1 k.2 with
     | true =>
      have kr:=fun w=>key_eqK (w:=w) hq
      have hO2:O=some x.d:=by rw [← HF.out,first_drop HES.out,fnd_at HX.out HNE.out (eqK_iff.1 hq)]
      subst hO2
      have lddd:=en_desc (w:=wx.drew.drew) (e:=x) HAT.out
      have cldd:wx.drew.drew.cell? ⟨b,off+i,none⟩=_:=cld
      have sa0:=res_st (W:=wx) (d:=x.d) HZ.out
      have sb0:=res_ld (W:=wx.setRow (w.heap.size+1) (dcs x.d)) ((HZ.out).row (dcs x.d))
      have sa1:=res_st (W:=wx.drew) (d:=x.d) HZ.out.drew
      have sb1:=res_ld (W:=wx.drew.setRow (w.heap.size+1) (dcs x.d)) ((HZ.out.drew).row (dcs x.d))
      have sa2:=res_st (W:=wx.drew.drew) (d:=x.d) HZ.out.drew.drew
      have sb2:=res_ld (W:=wx.drew.drew.setRow (w.heap.size+1) (dcs x.d)) ((HZ.out.drew.drew).row (dcs x.d))
      go_wp2
      go_region
      all_goals go_wp2
      all_goals try go_region
      all_goals go_wp2
      all_goals (try simp only [Exit.inBlock,Exit.then])
      all_goals first |refine bodyPost_ret (res2_D rfl _ _ _ _ rfl (HZ.out.row (dcs x.d))) rfl ?_ |refine bodyPost_ret (res2_D rfl _ _ _ _ rfl (HZ.out.drew.row (dcs x.d))) rfl ?_ |refine bodyPost_ret (res2_D rfl _ _ _ _ rfl (HZ.out.drew.drew.row (dcs x.d))) rfl ?_
      all_goals first |exact ⟨rfl,below_row HBx.out _ (by omega)⟩ |exact ⟨rfl,below_row HBx.out.drew _ (by omega)⟩ |exact ⟨rfl,below_row HBx.out.drew.drew _ (by omega)⟩
     | false =>
      have kr:=fun w=>key_eqK (w:=w) hq
      go_wp2
      go_region
      go_wp2
      go_roundg (es.length - (j+1))
      case measure=>omega
      case rel =>
       refine ⟨j+1,by omega,rfl,by go_num,fun y hy=>?_,(by first |exact HK.out |exact HK.out.drew),(by first |exact HZ.out |exact HZ.out.drew),(by first |exact HBx.out |exact HBx.out.drew)⟩
       rw [List.take_add_one,HX.out] at hy
       simp at hy
       rcases hy with hy |rfl
       ·exact HNE.out y hy
       ·intro h
        rw [eqK_iff.2 h] at hq
        cases hq
    ·obtain rfl:j=es.length:=by omega
     have HNE:=Lib.hid hne
     have HBx:=Lib.hid hB
     have HK:=Lib.hid hk
     have HZ:=Lib.hid hz
     clear hne hB hjl hk hz
     go_wp2
     go_roundg (ess.length - (i+1))
     case measure=>omega
     case rel =>
      refine ⟨i+1,by omega,rfl,by go_num,?_,HK.out,HZ.out,HBx.out⟩
      have:=HF.out
      rw [first_drop HES.out,fnd_none (by have h:=HNE.out;rwa [List.take_length] at h)] at this
      exact this
  ·obtain rfl:i=ess.length:=by omega
   have hO2:O=none:=by rw [← hf,List.drop_length];rfl
   subst hO2
   have HBr:=Lib.hid hB
   have hb0:(Bd 34 #[]).run Tryz.prog wr = .ok (.agg (dcs zeroD)) wr:=run_build wr _ _ _ (by kernel_rfl)
   have sa0:=res_st (W:=wr) (d:=zeroD) hz
   have sb0:=res_ld (W:=wr.setRow (w.heap.size+1) (dcs zeroD)) ((hz).row (dcs zeroD))
   have HZ1:=Lib.hid (hz.row (dcs zeroD))
   clear hil hB hf
   go_wp2
   try simp only [Exit.inBlock,Exit.then]
   refine bodyPost_ret (res2_D rfl _ _ _ _ rfl HZ1.out) rfl ?_
   exact ⟨rfl,below_row HBr.out _ (by omega)⟩
end
end Go.Proofs.YtkadkmnolkkhgaaGreatDoor.Mw
