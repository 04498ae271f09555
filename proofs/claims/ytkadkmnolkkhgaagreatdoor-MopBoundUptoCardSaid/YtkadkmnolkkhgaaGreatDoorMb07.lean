/-
 Texts of this seat in build order: ArCut, ArSmall, MwSpec, HpRing, HpMap.
-/
import Derived.Test.YtkadkmnolkkhgaaGreatDoorMb06
import Derived.Test.YtkadkmnolkkhgaaGreatDoorMb05
import Derived.Test.YtkadkmnolkkhgaaGreatDoorMb00
/-
 arrays.Cut: what is left, and the length at which it stops, at every list of properties.
-/
set_option linter.unusedVariables false
set_option linter.unusedSimpArgs false
namespace Go.Proofs.YtkadkmnolkkhgaaGreatDoor.Arrs
open Go Go.RowKit Go.Maps Nums Keys
attribute [local go_sem ↓] to_ldE to_alE to_stE to_bsE
attribute [local irreducible] ecs zer
attribute [local go_sem] run_alE run_stE run_bsE ecs_0 ecs_1 ecs_10 ecs_19
def CutPost (es:List En) (t:Int) (w:World) (x:Ending) (w':World):Prop :=
 ∃ ao cp,x = .returned (.tuple #[.slice ao (leftF es t).length cp,.int .i64 (reachF es t)])∧EsAt ao (leftF es t) w'∧Below w.heap.size w w'
theorem own_shape {w:World} {base:Nat} {e:TypeId} {size n:Nat} {v:Value} {xs:List Value} (h:w.ownsRow base e size v n xs):∃ a c,v = .slice a n c:=by
 rcases h.2 with ⟨rfl,rfl⟩ |⟨g,cap,cur,rfl,_⟩
 ·exact ⟨none,0,rfl⟩
 ·exact ⟨_,cap,rfl⟩
theorem grown_of_below {w w':World} (hb:Below w.heap.size w w'):w.grownBy w' none:=⟨hb.os,hb.tape,hb.output,hb.size,fun k hk _=>hb.block k hk⟩
theorem own_below {w w':World} {base:Nat} {e:TypeId} {size n:Nat} {v:Value} {xs:List Value} (h:w.ownsRow base e size v n xs) (hb:Below w.heap.size w w'):w'.ownsRow base e size v n xs :=
 h.kept (grown_of_below hb) (by cases hv:v.ownBlock <;> simp)
structure CutInv (w0:World) (es:List En) (n:Int) (j:Nat) (v:Value) (wr:World):Prop where
 own:wr.ownsRow w0.heap.size 36 20 v ((es.take j).filter (keepF n)).length (cellsE ((es.take j).filter (keepF n)))
 below:Below w0.heap.size w0 wr
section
variable {w0 wr w1 w2 w3:World} {es:List En} {n:Int} {j m:Nat} {v v':Value} {e:En} {o:Obj}
theorem CutInv.start (h:Below w0.heap.size w0 w1):CutInv w0 es n 0 (.slice none 0 0) w1:=⟨World.ownsRow_nil _ _ _ _,h⟩
theorem CutInv.next (h:CutInv w0 es n j v wr) (hb:Below (wr.alloc o).heap.size (wr.alloc o) w2):CutInv w0 es n j v w2 :=
 ⟨own_below (h.own.alloc o) hb,bel_next h.below h.below.size hb⟩
theorem CutInv.drop (h:CutInv w0 es n j v wr) (he:es[j]? = some e) (hk:keepF n e=false):CutInv w0 es n (j+1) v wr:=by
 obtain ⟨h1,h2⟩:=h
 rw [← filter_drop he hk] at h1
 exact ⟨h1,h2⟩
theorem CutInv.keep (h:CutInv w0 es n j v w2) (he:es[j]? = some e) (hk:keepF n e=true) (hm:((es.take j).filter (keepF n)).length=m)
  (hown:w3.ownsRow w0.heap.size 36 20 v' (m+1) (cellsE ((es.take j).filter (keepF n))++(ecs e).toList)) (hg:(w2.alloc o).grownBy w3 v.ownBlock):CutInv w0 es n (j+1) v' w3:=by
 subst hm
 obtain ⟨h1,h2⟩:=h
 refine ⟨?_,(h2.alloc h2.size o).grown hg (size_al o h2.size) (fun k hk=>(h1.lt k hk).1)⟩
 rw [filter_keep he hk,List.length_append,cellsE_append,cellsE_one]
 exact hown
end
theorem new_cells (w:World) (e:En) (t:TypeId):∀ j u,(ecs e).toList[j]? = some u→(w.alloc (.cells (ecs e) t)).cell? ((⟨w.heap.size,0,none⟩:Addr).add j)=some u:=enAt_new w e t
def ReachIs (ao:Option Addr) (cap:Nat) (es:List En) (t n:Int) (w:World):Prop:=Calls Tryz.prog 254 #[.slice ao es.length cap,.int .i64 t] w fun x w'=>x = .returned (.int .i64 n)∧Below w.heap.size w w'
set_option maxRecDepth 100000 in
set_option maxHeartbeats 2000000 in
theorem cut_any (ao:Option Addr) (cap:Nat) (es:List En) (w:World) (t0:Int) (hL:Lw w) (hlen:es.length≤1000000) (hc:EsAt ao es w) (hf:∀ e ∈ es,e.ks.size≤281474976710656) (h0:t0≤9223372036854775807) (h1:0≤t0) :
  Calls Tryz.prog 233 #[.slice ao es.length cap,.int .i64 t0] w (CutPost es t0 w):=by
 have hre:ReachIs ao cap es t0 (reachF es t0) w:=reached_any ao cap es w t0 hL hlen hc hf h0 h1
 have hm0:max t0 0=t0:=Int.max_eq_left h1
 have hn0:=reach_ge es t0
 have hn1:=reach_le es (M:=9223372036854775807) h0 (by omega)
 obtain ⟨i39,hi39,hz390,hz391,hz392⟩:=info_parts infoE
 obtain ⟨n,hn⟩:∃ n,reachF es t0=n:=⟨_,rfl⟩
 rw [hn] at hre hn0 hn1
 have HN:=Lib.hid hn
 have HC:=Lib.hid hc
 have HF:=Lib.hid hf
 have HL:=Lib.hid hL
 clear hc hf hL hn
 go_enter Tryz.func233,Tryz.ntmps233
 go_wp2_with (go_at_call 254;refine Calls.mono hre ?_;rintro x w1 ⟨rfl,hb1⟩;refine Hid.out ?_)
 refine Lib.hid ?_
 have hst:=CutInv.start (es:=es) (n:=n) hb1
 clear hm0 hre hb1
 go_wp2
 go_loopw [7,18] (fun v i wr=>∃ j:Nat,j≤es.length∧i = .int .i64 j∧CutInv w es n j v wr) (fun _ i _=>es.length - (intOf i).toNat)
 case atStart=>exact ⟨0,Nat.zero_le _,rfl,hst⟩
 case round =>
  clear hst
  obtain ⟨j,hj,rfl,hinv⟩:=hrel
  by_cases hlt:j < es.length
  ·obtain ⟨e,he⟩:∃ e,es[j]? = some e:=⟨es[j],by simp [hlt]⟩
   have hlt2:(j:Int) < es.length:=by omega
   have hbx:=hinv.below
   obtain ⟨b,off,rfl,hb,hat⟩:=(HC.out.below hbx) j e he
   have l0:=run_ldE hat
   have hk:=HF.out e (List.mem_of_getElem? he)
   have hfl:=filter_le (keepF n) es j
   have HE:=Lib.hid he
   have HB:=Lib.hid hb
   have L1:=HL.out.below (hbx.alloc hbx.size (.cells (ecs e) 36))
   clear he hat hb hbx
   cases hi:idxE e with
   | none =>
    have hix:=idx_none hk hi
    have hkp:keepF n e=true:=keep_none hi
    have HI:=Lib.hid hi
    have HIX:=Lib.hid hix
    have HKP:=Lib.hid hkp
    clear hi hix hkp
    go_wp2_with (go_at_call 160;refine (HIX.out.at L1).mono ?_;rintro x w2 ⟨rfl,hb2⟩;refine Hid.out ?_)
    refine Lib.hid ?_
    have hinv2:=hinv.next hb2
    have l2:=run_ldE (new_at hb2)
    have hws2:=hinv2.below.size
    clear L1 hb2 hinv l0
    have hr:=hinv2.own
    obtain ⟨m,hm⟩:∃ m,((es.take j).filter (keepF n)).length=m:=⟨_,rfl⟩
    rw [hm] at hr hfl
    have HM:=Lib.hid hm
    clear hm
    go_wp2_with (at_builtin;refine wpList_append_own _ rfl _ _ 37 rfl w.heap.size 36 i39 (.agg zer) 20 136 Tryz.underlying37 hi39 hz390 hz391 hz392 zer_cells (by decide) _ _ _ rfl (hr.alloc _) ⟨w2.heap.size,0,none⟩ 1 1 (ecs e).toList rfl (ecs_list e) (new_cells w2 e 36) (ecs_one' e) (by unfold maxLen;omega) (by omega) (size_al _ hws2) ?_;intro v' w3 hown3 hgrow3 _)
    have hinv':=hinv2.keep HE.out HKP.out HM.out hown3 hgrow3
    clear hown3 hgrow3 hinv2 hr
    go_wp2
    go_roundw
    case rel=>exact ⟨j+1,by omega,by go_num,hinv'⟩
    case measure=>simp [intOf];omega
   | some i =>
    have hix:=idx_some hk hi
    have hbi:=idxE_bd hi
    have hks:=keep_some (n:=n) hi
    have HI:=Lib.hid hi
    have HIX:=Lib.hid hix
    clear hi hix
    by_cases hl:i < n
    ·have hkp:keepF n e=true:=by rw [hks];simpa using hl
     have HKP:=Lib.hid hkp
     clear hkp hks
     go_wp2_with (go_at_call 160;refine (HIX.out.at L1).mono ?_;rintro x w2 ⟨rfl,hb2⟩;refine Hid.out ?_)
     refine Lib.hid ?_
     have hinv2:=hinv.next hb2
     have l2:=run_ldE (new_at hb2)
     have hws2:=hinv2.below.size
     clear L1 hb2 hinv l0
     have hr:=hinv2.own
     obtain ⟨m,hm⟩:∃ m,((es.take j).filter (keepF n)).length=m:=⟨_,rfl⟩
     rw [hm] at hr hfl
     have HM:=Lib.hid hm
     clear hm
     go_wp2_with (at_builtin;refine wpList_append_own _ rfl _ _ 37 rfl w.heap.size 36 i39 (.agg zer) 20 136 Tryz.underlying37 hi39 hz390 hz391 hz392 zer_cells (by decide) _ _ _ rfl (hr.alloc _) ⟨w2.heap.size,0,none⟩ 1 1 (ecs e).toList rfl (ecs_list e) (new_cells w2 e 36) (ecs_one' e) (by unfold maxLen;omega) (by omega) (size_al _ hws2) ?_;intro v' w3 hown3 hgrow3 _)
     have hinv':=hinv2.keep HE.out HKP.out HM.out hown3 hgrow3
     clear hown3 hgrow3 hinv2 hr
     go_wp2
     go_roundw
     case rel=>exact ⟨j+1,by omega,by go_num,hinv'⟩
     case measure=>simp [intOf];omega
    ·have hl2:n≤i:=by omega
     have hkp:keepF n e=false:=by rw [hks];simpa using hl2
     have HKP:=Lib.hid hkp
     clear hkp hks hl
     go_wp2_with (go_at_call 160;refine (HIX.out.at L1).mono ?_;rintro x w2 ⟨rfl,hb2⟩;have hinv2:=(hinv.next hb2).drop HE.out HKP.out;clear L1 hb2)
     go_roundw
     case rel=>exact ⟨j+1,by omega,by go_num,hinv2⟩
     case measure=>simp [intOf];omega
  ·obtain rfl:j=es.length:=by omega
   clear hlt hj
   obtain ⟨hown,hbel⟩:=hinv
   rw [List.take_length] at hown
   have hlf:leftF es t0=es.filter (keepF n):=by unfold leftF;rw [HN.out]
   obtain ⟨a,c,rfl⟩:=own_shape hown
   have hat:=esAt_own hown
   have hpost:∀ x,x=Ending.returned (.tuple #[.slice a (es.filter (keepF n)).length c,.int .i64 n])→CutPost es t0 w x wr:=fun x hx=>⟨a,c,by rw [hlf,HN.out];exact hx,by rw [hlf];exact hat,hbel⟩
   clear hown hlf hat
   generalize (es.filter (keepF n)).length=q at hpost
   go_wp2
   go_ret2
   exact hpost _ rfl
end Go.Proofs.YtkadkmnolkkhgaaGreatDoor.Arrs

/-
 Length, the reference's Length, Big, same, the document's example.
-/
namespace Go.Proofs.YtkadkmnolkkhgaaGreatDoor.Arrs
open Go Go.RowKit Go.Maps Nums Keys
attribute [local go_sem ↓] to_ldE to_alE to_stE to_bsE
attribute [local irreducible] ecs zer
attribute [local go_sem] run_alE run_stE run_bsE ecs_0 ecs_1 ecs_10 ecs_19
def lenF (k n:Int):Int × Bool:=if k=3∧0≤n∧n≤4294967295 then (n,true) else (0,false)
theorem lenF_yes {k n:Int} (hk:k=3) (h0:0≤n) (h1:n≤4294967295):lenF k n=(n,true):=if_pos ⟨hk,h0,h1⟩
theorem lenF_no {k n:Int} (h:k ≠ 3∨n < 0∨4294967295 < n):lenF k n=(0,false):=if_neg (by omega)
theorem len_any (k n:Int) (s:ByteArray) (w:World):Calls Tryz.prog 188 #[.agg #[.int .i64 k,.int .i64 n,.string s]] w fun x w'=>x = .returned (.tuple #[.int .i64 (lenF k n).1,.bool (lenF k n).2])∧Below w.heap.size w w':=by
 by_cases hk:k=3
 ·by_cases h0:n < 0
  ·rw [lenF_no (.inr (.inl h0))]
   subst hk
   go_enter Tryz.func188,Tryz.ntmps188
   go_wp2
   go_ret2
   exact ⟨rfl,ball _ _⟩
  ·have h0':0≤n:=by omega
   clear h0
   by_cases h1:n≤4294967295
   ·rw [lenF_yes hk h0' h1]
    subst hk
    go_enter Tryz.func188,Tryz.ntmps188
    go_wp2
    go_ret2
    exact ⟨rfl,ball _ _⟩
   ·have h1':4294967295 < n:=by omega
    clear h1
    rw [lenF_no (.inr (.inr h1'))]
    subst hk
    go_enter Tryz.func188,Tryz.ntmps188
    go_wp2
    go_ret2
    exact ⟨rfl,ball _ _⟩
 ·rw [lenF_no (.inl hk)]
  have hk':(k == 3)=false:=by simpa using hk
  go_enter Tryz.func188,Tryz.ntmps188
  go_wp2
  go_ret2
  exact ⟨rfl,ball _ _⟩
end Go.Proofs.YtkadkmnolkkhgaaGreatDoor.Arrs

/-
 The worlds and their methods as plain functions.
-/
namespace Go.Proofs.YtkadkmnolkkhgaaGreatDoor.Mw
open Go Go.RowKit Keys Hp
open Des (Vl Ds zeroV zeroD dcs eqV accF rigF appF)
open Arrs (En lenF leftF reachF)
structure Ob where
 th:Th
 es:List En
 vs:List Vl
structure Aq where
 k:KV
 v:Vl
 r:Vl
 d:Ds
 l:List Vl
structure Rr where
 flow:Int
 v:Vl
 ok:Bool
 has:Bool
 d:Ds
 ks:List KV
structure Sn where
 m:Int
 o:Int
 fr:Int
 a:Aq
 r:Rr
structure Aw where
 objs:List Ob
 room:Int
 sy:Int
 fuel:Int
 deep:Int
 depth:Int
 deepest:Int
 log:List Sn
def zeroK:KV:=(⟨#[]⟩,0)
def zeroQ:Aq:=⟨zeroK,zeroV,zeroV,zeroD,[]⟩
def zeroRr:Rr:=⟨0,zeroV,false,false,zeroD,[]⟩
def done (v:Vl):Rr:={ zeroRr with v:=v }
def ans (b:Bool):Rr:={ zeroRr with ok:=b }
def flowR (f:Int):Rr:={ zeroRr with flow:=f }
def thrown (v:Vl):Rr:={ zeroRr with flow:=1,v:=v }
def abr (r:Rr):Bool:=r.flow != 0
def nullV:Vl:=⟨1,0,⟨#[]⟩⟩
def numV (n:Int):Vl:=⟨3,n,⟨#[]⟩⟩
def objV (n:Int):Vl:=⟨6,n,⟨#[]⟩⟩
def wholeD (v:Vl) (w e c:Bool):Ds:=⟨true,false,false,true,true,true,v,zeroV,zeroV,w,e,c⟩
def typeErr:ByteArray:=⟨#[84,121,112,101,69,114,114,111,114]⟩
def rangeErr:ByteArray:=⟨#[82,97,110,103,101,69,114,114,111,114]⟩
def nameK:KV:=(⟨#[110,97,109,101]⟩,0)
def lenK:KV:=(⟨#[108,101,110,103,116,104]⟩,0)
def protoK:KV:=(⟨#[112,114,111,116,111,116,121,112,101]⟩,0)
def at? (A:Aw) (o:Int):Option Ob:=if o < 0 then none else A.objs[o.toNat]?
def setOb (A:Aw) (o:Int) (x:Ob):Aw:={ A with objs:=A.objs.set o.toNat x }
def find (es:List En) (k:KV):Option Ds:=(es.find? fun e=>decide (ekey e=k)).map (·.d)
def ownF (A:Aw) (o:Int) (k:KV):Option Ds:=(at? A o).bind fun x=>find x.es k
def putL (es:List En) (k:KV) (d:Ds):List En :=
 if (find es k).isSome then es.map fun e=>if ekey e=k then ⟨e.ks,e.kn,d⟩ else e else es++[⟨k.1,k.2,d⟩]
def dropL (es:List En) (k:KV):List En:=es.filter fun e=>!decide (ekey e=k)
def putF (A:Aw) (o:Int) (k:KV) (d:Ds):Aw:=match at? A o with
 | none=>A
 | some x=>setOb A o { x with es:=putL x.es k d }
def dropF (A:Aw) (o:Int) (k:KV):Aw:=match at? A o with
 | none=>A
 | some x=>setOb A o { x with es:=dropL x.es k }
def makeF (t:Th) (es:List En) (vs:List Vl) (A:Aw):Aw:={ A with objs:=A.objs++[⟨t,es,vs⟩] }
def freshT (kind:Int) (proto:Vl):Th:={ zeroT with kind:=kind,proto:=proto,ext:=true }
def createF (kind:Int) (proto:Vl) (es:List En) (A:Aw):(Vl × Rr) × Aw :=
 if (A.objs.length:Int) < A.room then ((objV A.objs.length,zeroRr),makeF (freshT kind proto) es [] A) else ((zeroV,flowR 3),A)
def failF (name:ByteArray) (A:Aw):Rr × Aw :=
 match createF 5 nullV [⟨nameK.1,nameK.2,wholeD ⟨4,0,name⟩ true false true⟩] A with
 | ((e,r),A')=>(if abr r then r else thrown e,A')
def callsT (t:Th):Bool:=if t.kind=2 then true else if t.kind=3∨t.kind=4 then t.calls else false
def makesT (t:Th):Bool:=if t.kind=2 then t.code == 1 || t.code == 30 else if t.kind=3∨t.kind=4 then t.makes else false
def callsV (A:Aw) (v:Vl):Bool:=if v.k=6 then (match at? A v.n with |some x=>callsT x.th |none=>false) else false
abbrev DoT:=Int→Int→Aq→Aw→Rr × Aw
def askF (D:DoT) (m:Int) (v:Vl) (q:Aq) (A:Aw):Rr × Aw:=if v.k=6 then D m v.n q A else failF typeErr A
def getOfF (D:DoT) (v:Vl) (k:KV) (A:Aw):Rr × Aw:=askF D 8 v { zeroQ with k:=k,r:=v } A
def inherF (D:DoT) (m o:Int) (q:Aq) (A:Aw):(Rr × Bool) × Aw :=
 match D 1 o zeroQ A with
 | (r,A)=>if abr r then ((r,true),A) else if r.v.k=6 then (match askF D m r.v q A with |(r,A)=>((r,true),A)) else ((zeroRr,false),A)
def reachF (A:Aw) (o:Int):Nat→Vl→Bool
 | 0,_=>false
 | n+1,v=>if v.k=6 then if v.n=o then true else (match at? A v.n with |some x=>if x.th.kind=4 then false else reachF A o n x.th.proto |none=>reachF A o n zeroV) else false
def isObjNull (v:Vl):Bool:=v.k == 6 || v.k == 1
def setProtoF (o:Int) (t:Th) (v:Vl) (A:Aw):Rr × Aw :=
 if !isObjNull v then failF typeErr A else if eqV v t.proto then (ans true,A) else if !t.ext || reachF A o A.objs.length v then (ans false,A)
 else (ans true,match at? A o with |some x=>setOb A o { x with th:={ x.th with proto:=v } } |none=>A)
def preventF (o:Int) (t:Th) (A:Aw):Rr × Aw :=
 (ans true,if t.ext then (match at? A o with |some x=>setOb A o { x with th:={ x.th with ext:=false } } |none=>A) else A)
def getOwnF (o:Int) (k:KV) (A:Aw):Rr:=match ownF A o k with
 | some d=>{ zeroRr with has:=true,d:=d }
 | none=>zeroRr
def nowD (A:Aw) (o:Int) (k:KV):Ds:=(ownF A o k).getD zeroD
def applyF (o:Int) (t:Th) (a:Aq) (A:Aw):Rr × Aw :=
 match appF t.ext a.d (ownF A o a.k).isSome (nowD A o a.k) with
 | (d,ok)=>(ans ok,if ok then putF A o a.k d else A)
def defineF (o:Int) (t:Th) (a:Aq) (A:Aw):Rr × Aw:=if rigF a.d then applyF o t a A else failF typeErr A
def hasF (D:DoT) (o:Int) (a:Aq) (A:Aw):Rr × Aw :=
 match D 5 o { zeroQ with k:=a.k } A with
 | (own,A)=>if abr own then (own,A) else if own.has then (ans true,A) else (match inherF D 7 o { zeroQ with k:=a.k } A with |((r,_),A)=>(r,A))
def readF (D:DoT) (d:Ds) (recv:Vl) (A:Aw):Rr × Aw:=if !accF d then (done d.v,A) else if d.g.k=0 then (zeroRr,A) else askF D 12 d.g { zeroQ with r:=recv } A
def getF (D:DoT) (o:Int) (a:Aq) (A:Aw):Rr × Aw :=
 match D 5 o { zeroQ with k:=a.k } A with
 | (own,A)=>if abr own then (own,A) else if own.has then readF D own.d a.r A else (match inherF D 8 o { zeroQ with k:=a.k,r:=a.r } A with |((r,_),A)=>(r,A))
def writeF (D:DoT) (d:Ds) (a:Aq) (A:Aw):Rr × Aw :=
 if d.s.k=0 then (ans false,A) else match askF D 12 d.s { zeroQ with r:=a.r,l:=[a.v] } A with |(r,A)=>(if abr r then r else ans true,A)
def placeF (D:DoT) (a:Aq) (A:Aw):Rr × Aw :=
 match askF D 5 a.r { zeroQ with k:=a.k } A with
 | (own,A)=>if abr own then (own,A) else if own.has && (accF own.d || !own.d.w) then (ans false,A)
  else askF D 6 a.r { zeroQ with k:=a.k,d:=if own.has then { zeroD with hv:=true,v:=a.v } else wholeD a.v true true true } A
def setTail (D:DoT) (d:Ds) (a:Aq) (A:Aw):Rr × Aw:=if accF d then writeF D d a A else if !d.w || a.r.k != 6 then (ans false,A) else placeF D a A
def setF (D:DoT) (o:Int) (a:Aq) (A:Aw):Rr × Aw :=
 match D 5 o { zeroQ with k:=a.k } A with
 | (own,A)=>if abr own then (own,A) else if own.has then setTail D own.d a A
  else (match inherF D 9 o { zeroQ with k:=a.k,v:=a.v,r:=a.r } A with |((r,ok),A)=>if ok then (r,A) else setTail D (wholeD zeroV true true true) a A)
def removeF (D:DoT) (o:Int) (a:Aq) (A:Aw):Rr × Aw :=
 match D 5 o { zeroQ with k:=a.k } A with
 | (own,A)=>if abr own then (own,A) else if own.has && !own.d.c then (ans false,A) else (ans true,dropF A o a.k)
def keysF (A:Aw) (o:Int):List KV:=match at? A o with |some x=>ordF (x.es.map ekey) |none=>[]
def ordiF (D:DoT) (m o:Int) (t:Th) (a:Aq) (A:Aw):Rr × Aw :=
 if m=1 then (done t.proto,A) else if m=2 then setProtoF o t a.v A else if m=3 then (ans t.ext,A) else if m=4 then preventF o t A
 else if m=5 then (getOwnF o a.k A,A) else if m=6 then defineF o t a A else if m=7 then hasF D o a A else if m=8 then getF D o a A
 else if m=9 then setF D o a A else if m=10 then removeF D o a A else ({ zeroRr with ks:=keysF A o },A)
def truncF (o t:Int) (A:Aw):Int × Aw:=match at? A o with
 | some x=>(Arrs.reachF x.es t,setOb A o { x with es:=leftF x.es t })
 | none=>(t,A)
def defLenF (o:Int) (t:Th) (a:Aq) (len:Ds) (A:Aw):Rr × Aw :=
 if (lenF a.d.v.k a.d.v.n).2=false then failF rangeErr A
 else if (lenF a.d.v.k a.d.v.n).1 ≥ len.v.n then applyF o t a A
 else if !(appF t.ext a.d true len).2 || !len.w then (ans false,A)
 else match truncF o (lenF a.d.v.k a.d.v.n).1 A with
  | (n,A)=>(ans (n == (lenF a.d.v.k a.d.v.n).1),putF A o lenK { len with v:=numV n,w:=!a.d.hw || a.d.w })
def defElF (o:Int) (t:Th) (a:Aq) (i:Int) (len:Ds) (A:Aw):Rr × Aw :=
 if i < len.v.n then applyF o t a A else if !len.w then (ans false,A)
 else match applyF o t a A with
  | (r,A)=>(r,if r.ok then putF A o lenK { len with v:=numV (i+1) } else A)
def defArrF (o:Int) (t:Th) (a:Aq) (A:Aw):Rr × Aw :=
 if !rigF a.d then failF typeErr A
 else if decide (a.k=lenK) && a.d.hv then defLenF o t a (nowD A o lenK) A
 else match kidx a.k with
  | some i=>defElF o t a i (nowD A o lenK) A
  | none=>applyF o t a A
abbrev HandT:=Option (Int→Vl→List Vl→Aw→Rr × Aw)
def handF (C:HandT) (o:Int) (this:Vl) (l:List Vl) (A:Aw):Rr × Aw:=match C with
 | none=>failF typeErr A
 | some f=>match f o this l A with |(r,A)=>(if abr r then r else done r.v,A)
def argF (l:List Vl) (n:Int):Vl:=if n < 0 then zeroV else l[n.toNat]?.getD zeroV
def callF (C:HandT) (o:Int) (t:Th) (a:Aq) (A:Aw):Rr × Aw :=
 if t.code=2 then (done t.v,A) else if t.code=3 then (thrown t.v,A) else if t.code=4 then (done (argF a.l t.n),A) else if t.code=5 then (done a.r,A)
 else if t.code=30 then failF typeErr A else handF C o a.r a.l A
def consF (C:HandT) (D:DoT) (o:Int) (t:Th) (a:Aq) (A:Aw):Rr × Aw :=
 if t.code=30 then handF C o a.r a.l A
 else match getOfF D a.r protoK A with
  | (p,A)=>if abr p then (p,A) else match createF 0 (if p.v.k=6 then p.v else nullV) [] A with
   | ((made,r),A)=>if abr r then (r,A) else match handF C o made a.l A with
    | (r,A)=>(if abr r || r.v.k == 6 then r else done made,A)
def bindF (D:DoT) (m o:Int) (t:Th) (a:Aq) (A:Aw):Rr × Aw :=
 askF D m t.tg { zeroQ with r:=if m=13 then (if eqV a.r (objV o) then t.tg else a.r) else t.ths,l:=((at? A o).map (·.vs)).getD []++a.l } A
def invF (C:HandT) (D:DoT) (m o:Int) (t:Th) (a:Aq) (A:Aw):Rr × Aw :=
 if !(if m=12 then callsT t else makesT t) then failF typeErr A
 else if t.kind=3 then bindF D m o t a A else if m=13 then consF C D o t a A else callF C o t a A
def perfF (X:DoT) (C:HandT) (D:DoT) (m o:Int) (t:Th) (a:Aq) (A:Aw):Rr × Aw :=
 if t.kind=4 then X m o a A else if t.kind=1∧m=6 then defArrF o t a A else if m=12∨m=13 then invF C D m o t a A else ordiF D m o t a A
def isMethF (m:Int):Bool:=decide (1≤m) && decide (m≤13)
def bodyF (X:DoT) (C:HandT) (D:DoT) (m o:Int) (a:Aq) (A:Aw):Rr × Aw:=match at? A o with
 | none=>failF typeErr A
 | some x=>if !isMethF m then failF typeErr A
  else if A.fuel=0 then (flowR 2,A)
  else if A.depth ≥ A.deep then (flowR 4,{ A with fuel:=A.fuel - 1 })
  else match perfF X C D m o x.th a { A with fuel:=A.fuel - 1,depth:=A.depth+1,deepest:=max A.deepest (A.depth+1) } with
   | (r,B)=>if abr r then (r,{ B with depth:=B.depth - 1 }) else (r,{ B with depth:=B.depth - 1,log:=B.log++[⟨m,o,A.log.length,a,r⟩] })
def doF (X:DoT→DoT) (C:DoT→HandT):Nat→DoT
 | 0=>bodyF (X fun _ _ _ A=>(zeroRr,A)) (C fun _ _ _ A=>(zeroRr,A)) fun _ _ _ A=>(zeroRr,A)
 | n+1=>bodyF (X (doF X C n)) (C (doF X C n)) (doF X C n)
end Go.Proofs.YtkadkmnolkkhgaaGreatDoor.Mw

/-
 A ring of properties in memory: what it is, and what a new linking of two places leaves of it. Plain mathematics.
-/
namespace Go.Proofs.YtkadkmnolkkhgaaGreatDoor.Hp
open Go Go.RowKit Go.Maps Keys
open Des (Vl Ds zeroV zeroD dcs dcs_size dcs_one)
open Arrs (En ecs ecs_0 ecs_1 ecs_10 ecs_size ecs_list ecs_one ecs_one')
structure Nd where
 b:Nat
 e:En
 a:Option Addr
def nxt:List Nd→Nat→Nat
 | [],z=>z
 | n :: _,_=>n.b
def lst:Nat→List Nd→Nat
 | a,[]=>a
 | _,n :: r=>lst n.b r
def Seg (w:World):Nat→List Nd→Nat→Prop
 | _,[],_=>True
 | a,n :: r,z=>Blk w n.b (ncs n.e (ptr a) (ptr (nxt r z)) (.pointer n.a)) 184∧Seg w n.b r z
def Chain (ns:List Nd):Prop:=∀ l x r,ns=l++x :: r→(∀ y ∈ r,(y.e.ks,y.e.kn) ≠ (x.e.ks,x.e.kn))→x.a=none
theorem Chain.nil:Chain []:=fun l x r h=>by cases l <;> cases h
theorem Chain.cons {n:Nd} {ns:List Nd} (h:Chain ns) (hn:(∀ y ∈ ns,(y.e.ks,y.e.kn) ≠ (n.e.ks,n.e.kn))→n.a=none):Chain (n :: ns):=fun l x r e hr=>by
 cases l with
 | nil=>cases e;exact hn hr
 | cons m l=>cases e;exact h l x r rfl hr
def blks (pb:Nat) (ns:List Nd):List Nat:=pb :: ns.map (·.b)
structure Ring (w:World) (pb mb:Nat) (ns:List Nd):Prop where
 head:Blk w pb (hcs (ptr (lst pb ns)) (ptr (nxt ns pb)) mb) 187
 seg:Seg w pb ns pb
 apart:(blks pb ns).Nodup
theorem nxt_append (l r:List Nd) (z:Nat):nxt (l++r) z=nxt l (nxt r z):=by cases l <;> rfl
theorem lst_append:∀ (l r:List Nd) (a:Nat),lst a (l++r)=lst (lst a l) r
 | [],_,_=>rfl
 | n :: l,r,_=>lst_append l r n.b
theorem seg_append (w:World):∀ (l r:List Nd) (a z:Nat),Seg w a (l++r) z↔Seg w a l (nxt r z)∧Seg w (lst a l) r z
 | [],r,a,z=>by simp [Seg,lst]
 | n :: l,r,a,z=>by
  show (Blk w n.b (ncs n.e (ptr a) (ptr (nxt (l++r) z)) (.pointer n.a)) _∧Seg w n.b (l++r) z)↔(Blk w n.b (ncs n.e (ptr a) (ptr (nxt l (nxt r z))) (.pointer n.a)) _∧Seg w n.b l (nxt r z))∧Seg w (lst n.b l) r z
  rw [seg_append w l r n.b z,nxt_append,and_assoc]
theorem seg_same {w w':World}:∀ {l:List Nd} {a z:Nat},Seg w a l z→(∀ n ∈ l,w'.heap[n.b]? = w.heap[n.b]?)→Seg w' a l z
 | [],_,_,_,_=>trivial
 | n :: l,a,z,h,hw=>⟨(hw n (by simp)).trans h.1,seg_same h.2 fun m hm=>hw m (by simp [hm])⟩
theorem lst_mem:∀ (l:List Nd) (a:Nat),lst a l=a∧l=[]∨lst a l ∈ l.map (·.b)
 | [],a=>.inl ⟨rfl,rfl⟩
 | n :: l,a=>by
  right
  rcases lst_mem l n.b with ⟨h,_⟩ |h
  ·rw [show lst a (n :: l)=lst n.b l from rfl,h];simp
  ·rw [show lst a (n :: l)=lst n.b l from rfl];simp;right;simpa using h
theorem nxt_mem (l:List Nd) (z:Nat):nxt l z=z∧l=[]∨nxt l z ∈ l.map (·.b):=by
 cases l with
 | nil=>exact .inl ⟨rfl,rfl⟩
 | cons n l=>right;simp [nxt]
theorem seg_at {w:World}:∀ {l:List Nd} {a z:Nat} (n:Nd),Seg w a l z→n ∈ l→∃ p q,Blk w n.b (ncs n.e (ptr p) (ptr q) (.pointer n.a)) 184
 | [],_,_,_,_,h=>by cases h
 | m :: l,a,z,n,h,hm=>by
  rcases List.mem_cons.1 hm with rfl |hm
  ·exact ⟨_,_,h.1⟩
  ·exact seg_at n h.2 hm
theorem Ring.lt {w:World} {pb mb:Nat} {ns:List Nd} (h:Ring w pb mb ns):∀ b ∈ blks pb ns,b < w.heap.size:=fun b hb=>by
 rcases List.mem_cons.1 hb with rfl |hb
 ·exact h.head.lt
 ·obtain ⟨n,hn,rfl⟩:=List.mem_map.1 hb
  obtain ⟨p,q,hq⟩:=seg_at n h.seg hn
  exact hq.lt
theorem Ring.same {w w':World} {pb mb:Nat} {ns:List Nd} (h:Ring w pb mb ns) (hw:∀ b ∈ blks pb ns,w'.heap[b]? = w.heap[b]?):Ring w' pb mb ns :=
 ⟨(hw pb (by simp [blks])).trans h.head,seg_same h.seg fun n hn=>hw n.b (by simp [blks];exact .inr ⟨n,hn,rfl⟩),h.apart⟩
theorem Ring.below {w w':World} {pb mb B:Nat} {ns:List Nd} (h:Ring w pb mb ns) (hb:Below B w w') (hlt:∀ b ∈ blks pb ns,b < B):Ring w' pb mb ns:=h.same fun b hm=>hb.block b (hlt b hm)
theorem Ring.call {w w':World} {pb mb:Nat} {ns:List Nd} (h:Ring w pb mb ns) (hb:Below w.heap.size w w'):Ring w' pb mb ns:=h.below hb h.lt
def link (w:World) (a c:Nat) (f g:Value):World:=(w.setCell ⟨a,21,none⟩ f).setCell ⟨c,20,none⟩ g
theorem setCell_comm (w:World) (a c:Nat) (f g:Value):(w.setCell ⟨c,20,none⟩ g).setCell ⟨a,21,none⟩ f=link w a c f g:=by
 have hh:((w.setCell ⟨c,20,none⟩ g).setCell ⟨a,21,none⟩ f).heap=(link w a c f g).heap:=by
  apply Array.ext_getElem?
  intro i
  unfold link
  simp only [World.setCell,Array.getElem?_modify]
  by_cases h1:a=i
  ·by_cases h2:c=i
   ·simp only [h1,h2,if_true,Option.map_map]
    cases w.heap[i]? with
    | none=>rfl
    | some o =>
     cases o <;> try rfl
     rename_i cs t fr
     have e:(cs.setIfInBounds 20 g).setIfInBounds 21 f=(cs.setIfInBounds 21 f).setIfInBounds 20 g:=by
      apply Array.ext_getElem?
      intro j
      simp only [Array.getElem?_setIfInBounds,Array.size_setIfInBounds]
      by_cases h3:21=j
      ·by_cases h4:20=j
       ·omega
       ·simp [h3,h4]
      ·by_cases h4:20=j <;> simp [h3,h4]
     show some (Obj.cells ((cs.setIfInBounds 20 g).setIfInBounds 21 f) t fr)=some (Obj.cells ((cs.setIfInBounds 21 f).setIfInBounds 20 g) t fr)
     rw [e]
   ·simp [h1,h2]
  ·by_cases h2:c=i
   ·simp [h1,h2]
   ·simp [h1,h2]
 have e:∀ {u v:World},u.heap=v.heap→u.tape=v.tape→u.drawn=v.drawn→u.os=v.os→u.output=v.output→u=v:=by
  intro u v h1 h2 h3 h4 h5
  cases u;cases v
  simp only at h1 h2 h3 h4 h5
  subst h1 h2 h3 h4 h5
  rfl
 exact e hh rfl rfl rfl rfl
theorem link_other (w:World) (a c:Nat) (f g:Value) (b:Nat) (h1:b ≠ a) (h2:b ≠ c):(link w a c f g).heap[b]? = w.heap[b]?:=by
 unfold link
 rw [heap_setCell_other _ ⟨c,20,none⟩ b g h2,heap_setCell_other _ ⟨a,21,none⟩ b f h1]
theorem link_size (w:World) (a c:Nat) (f g:Value):(link w a c f g).heap.size=w.heap.size:=by simp [link,World.setCell]
theorem snoc_cases {α:Type} (l:List α):l=[]∨∃ l' a,l=l'++[a]:=by
 cases h:l.reverse with
 | nil=>left;simpa using h
 | cons a r=>right;refine ⟨r.reverse,a,?_⟩;have:=congrArg List.reverse h;simpa using this
theorem Ring.relink {w w':World} {pb mb:Nat} {l mid r:List Nd} (h:Ring w pb mb (l++(mid++r))) (mid':List Nd) (hs:Seg w' (lst pb l) mid' (nxt r pb)) (hn:(blks pb (l++(mid'++r))).Nodup)
  (hw:∀ b ∈ blks pb (l++r),w'.heap[b]? = (link w (lst pb l) (nxt r pb) (ptr (nxt mid' (nxt r pb))) (ptr (lst (lst pb l) mid'))).heap[b]?):Ring w' pb mb (l++(mid'++r)):=by
 obtain ⟨hh,hseg,hap⟩:=h
 obtain ⟨A,hA⟩:∃ A,lst pb l=A:=⟨_,rfl⟩
 obtain ⟨C,hC⟩:∃ C,nxt r pb=C:=⟨_,rfl⟩
 obtain ⟨f,hf⟩:∃ f,ptr (nxt mid' C)=f:=⟨_,rfl⟩
 obtain ⟨g,hg⟩:∃ g,ptr (lst A mid')=g:=⟨_,rfl⟩
 rw [hA,hC,hf,hg] at hw
 rw [hA,hC] at hs
 -- apartness
 have hap':pb ∉ l.map (·.b)∧pb ∉ r.map (·.b)∧(∀ x ∈ l.map (·.b),x ∉ r.map (·.b))∧(l.map (·.b)).Nodup∧(r.map (·.b)).Nodup:=by
  simp only [blks,List.map_append,List.nodup_cons,List.mem_append,not_or,List.nodup_append] at hap
  obtain ⟨⟨h1,h2,h3⟩,h4,⟨h5,h6,h7⟩,h8⟩:=hap
  exact ⟨h1,h3,fun x hx hx'=>h8 x hx x (.inr hx') rfl,h4,h6⟩
 obtain ⟨pl,pr,lr,nl,nr⟩:=hap'
 have hAm:A=pb∧l=[]∨A ∈ l.map (·.b):=by rw [← hA];exact lst_mem l pb
 have hCm:C=pb∧r=[]∨C ∈ r.map (·.b):=by rw [← hC];exact nxt_mem r pb
 rw [seg_append,seg_append,hA] at hseg
 obtain ⟨sl,-,sr⟩:=hseg
 refine ⟨?_,?_,hn⟩
 ·-- the head
  have e1:Blk (w.setCell ⟨A,21,none⟩ f) pb (hcs (ptr (lst pb (l++(mid++r)))) (ptr (nxt (l++(mid'++r)) pb)) mb) 187:=by
   rcases hAm with ⟨rfl,rfl⟩ |hAm
   ·have:=hh.set 21 f
    rw [hcs_set21,← hf] at this
    have e:nxt ([]++(mid'++r)) A=nxt mid' C:=by rw [List.nil_append,nxt_append,hC]
    rw [e,← hf]
    exact this
   ·have e:nxt (l++(mid'++r)) pb=nxt (l++(mid++r)) pb:=by cases l with
     | nil=>simp at hAm
     | cons n l=>rfl
    rw [e]
    exact hh.other ⟨A,21,none⟩ f (fun e=>pl (e ▸ hAm))
  have e2:Blk (link w A C f g) pb (hcs (ptr (lst pb (l++(mid'++r)))) (ptr (nxt (l++(mid'++r)) pb)) mb) 187:=by
   unfold link
   rcases hCm with ⟨hCp,rfl⟩ |hCm
   ·have:=e1.set 20 g
    rw [hcs_set20] at this
    rw [show lst pb (l++(mid'++[]))=lst A mid' by rw [List.append_nil,lst_append,hA],hg,hCp]
    exact this
   ·have e:lst pb (l++(mid'++r))=lst pb (l++(mid++r)):=by
     cases r with
     | nil=>simp at hCm
     | cons n r=>rw [lst_append,lst_append,lst_append,lst_append];rfl
    rw [e]
    exact e1.other ⟨C,20,none⟩ g (fun e=>pr (e ▸ hCm))
  exact (hw pb (by simp [blks])).trans e2
 ·rw [seg_append,seg_append,hA,hC]
  refine ⟨?_,hs,?_⟩
  ·-- the part ahead
   rw [nxt_append,hC]
   rcases snoc_cases l with rfl |⟨l',n,rfl⟩
   ·trivial
   ·have hAn:A=n.b:=by rw [← hA,lst_append];rfl
    rw [seg_append] at sl ⊢
    obtain ⟨s1,s2,-⟩:=sl
    have hCn:n.b ≠ C:=by
     rcases hCm with ⟨rfl,-⟩ |hCm
     ·exact fun e=>pl (by rw [← e];simp)
     ·exact fun e=>lr n.b (by simp) (e ▸ hCm)
    refine ⟨seg_same s1 fun m hm=>?_,?_,trivial⟩
    ·have hma:m.b ≠ n.b:=by
      rw [List.map_append,List.nodup_append] at nl
      exact nl.2.2 m.b (List.mem_map.2 ⟨m,hm,rfl⟩) n.b (by simp)
     have hml:m.b ∈ (l'++[n]).map (·.b):=List.mem_map.2 ⟨m,by simp [hm],rfl⟩
     have hmC:m.b ≠ C:=by
      rcases hCm with ⟨rfl,-⟩ |hCm
      ·exact fun e=>pl (e ▸ hml)
      ·exact fun e=>lr m.b hml (e ▸ hCm)
     rw [hw m.b (by rw [blks,List.map_append];exact List.mem_cons_of_mem _ (List.mem_append_left _ hml)),hAn]
     exact link_other _ _ _ _ _ _ hma hmC
    ·have e3:=s2.set 21 f
     rw [ncs_set21] at e3
     have e4:=e3.other ⟨C,20,none⟩ g hCn
     have e5:Blk w' n.b (ncs n.e (ptr (lst pb l')) f (.pointer n.a)) 184:=by
      refine (hw n.b (by simp [blks])).trans ?_
      unfold link
      rw [hAn]
      exact e4
     rw [← hf] at e5
     exact e5
  ·-- the part behind
   cases r with
   | nil=>trivial
   | cons m r =>
    have hCn:C=m.b:=by rw [← hC];rfl
    obtain ⟨s1,s2⟩:=sr
    have hAn:m.b ≠ A:=by
     rcases hAm with ⟨rfl,-⟩ |hAm
     ·exact fun e=>pr (by rw [← e];simp)
     ·exact fun e=>lr A hAm (e ▸ by simp)
    refine ⟨?_,seg_same s2 fun k hk=>?_⟩
    ·have e3:=(s1.other ⟨A,21,none⟩ f hAn).set 20 g
     rw [ncs_set20] at e3
     have e5:Blk w' m.b (ncs m.e g (ptr (nxt r pb)) (.pointer m.a)) 184:=by
      refine (hw m.b (by simp [blks])).trans ?_
      unfold link
      rw [hCn]
      exact e3
     rw [← hg] at e5
     exact e5
    ·have hkm:k.b ≠ m.b:=by
      rw [List.map_cons,List.nodup_cons] at nr
      exact fun e=>nr.1 (e ▸ List.mem_map.2 ⟨k,hk,rfl⟩)
     have hkl:k.b ∈ (m :: r).map (·.b):=List.mem_map.2 ⟨k,by simp [hk],rfl⟩
     have hkA:k.b ≠ A:=by
      rcases hAm with ⟨rfl,-⟩ |hAm
      ·exact fun e=>pr (e ▸ hkl)
      ·exact fun e=>lr A hAm (e ▸ hkl)
     rw [hw k.b (by rw [blks,List.map_append];exact List.mem_cons_of_mem _ (List.mem_append_right _ hkl)),hCn]
     exact link_other _ _ _ _ _ _ hkA hkm
theorem Ring.insert {w w':World} {pb mb:Nat} {l r:List Nd} (h:Ring w pb mb (l++r)) (n:Nd) (hb:n.b ∉ blks pb (l++r)) (hx:Blk w' n.b (ncs n.e (ptr (lst pb l)) (ptr (nxt r pb)) (.pointer n.a)) 184)
  (hw:∀ b ∈ blks pb (l++r),w'.heap[b]? = (link w (lst pb l) (nxt r pb) (ptr n.b) (ptr n.b)).heap[b]?):Ring w' pb mb (l++n :: r):=by
 refine Ring.relink (mid:=[]) (by simpa using h) [n] ⟨hx,trivial⟩ ?_ hw
 have hap:=h.apart
 simp only [blks,List.map_append,List.map_cons,List.nodup_cons,List.mem_append,not_or,List.nodup_append,List.mem_cons,List.nil_append,List.cons_append,List.singleton_append] at hap hb ⊢
 obtain ⟨⟨h1,h2⟩,h3,h4,h5⟩:=hap
 obtain ⟨b1,b2,b3⟩:=hb
 refine ⟨⟨h1,fun e=>b1 e.symm,h2⟩,h3,⟨b3,h4⟩,fun x hx y hy=>?_⟩
 rcases hy with rfl |hy
 ·exact fun e=>b2 (e ▸ hx)
 ·exact h5 x hx y hy
theorem Ring.drop {w w':World} {pb mb:Nat} {l r:List Nd} {n:Nd} (h:Ring w pb mb (l++n :: r))
  (hw:∀ b ∈ blks pb (l++r),w'.heap[b]? = (link w (lst pb l) (nxt r pb) (ptr (nxt r pb)) (ptr (lst pb l))).heap[b]?):Ring w' pb mb (l++r):=by
 refine Ring.relink (mid:=[n]) h [] trivial ?_ hw
 have hap:=h.apart
 simp only [blks,List.map_append,List.map_cons,List.nodup_cons,List.mem_append,not_or,List.nodup_append,List.mem_cons,List.nil_append] at hap ⊢
 obtain ⟨⟨h1,h2,h2'⟩,h3,⟨h4,h4'⟩,h5⟩:=hap
 exact ⟨⟨h1,h2'⟩,h3,h4',fun x hx y hy=>h5 x hx y (.inr hy)⟩
end Go.Proofs.YtkadkmnolkkhgaaGreatDoor.Hp

/-
 The map of a ring: which block each key leads to.
-/
namespace Go.Proofs.YtkadkmnolkkhgaaGreatDoor.Hp
open Go Go.RowKit Go.Maps Keys
open Des (Vl Ds zeroV zeroD dcs dcs_size dcs_one)
open Arrs (En ecs ecs_0 ecs_1 ecs_10 ecs_size ecs_list ecs_one ecs_one')
def Rp:Value→Option (DataW Unit × List MemPlace)
 | .pointer none=>some (.nil,[])
 | .pointer (some a)=>if a=⟨a.block,0,none⟩ then some (.lit (.int .i64 a.block),[]) else none
 | _=>none
def pto:Option Nat→Option Addr
 | none=>none
 | some b=>some ⟨b,0,none⟩
def rd (o:Option Nat):DataW Unit:=match o with |none=>.nil |some b=>.lit (.int .i64 b)
theorem rp_pto (o:Option Nat):Rp (.pointer (pto o))=some (rd o,[]):=by cases o <;> simp [Rp,pto,rd]
theorem rp_inv {v:Value} {o:Option Nat} {ps:List MemPlace} (h:Rp v=some (rd o,ps)):v = .pointer (pto o):=by
 unfold Rp at h
 split at h
 ·cases o with
  | none=>rfl
  | some b=>simp [rd] at h
 ·rename_i a
  split at h
  ·rename_i ha
   cases o with
   | none=>simp [rd] at h
   | some b =>
    simp [rd] at h
    rw [ha]
    obtain ⟨h1,-⟩:=h
    have:a.block=b:=by omega
    rw [this]
    rfl
  ·cases h
 ·cases h
def MapIs (w:World) (m n:Nat) (f:KV→Option Nat):Prop:=∃ D,w.ownsMap Tryz.prog 32 Rp m n D∧∀ k,Fine k→D.atKey (klit k) .nil=rd (f k)
theorem MapIs.lt {w:World} {m n:Nat} {f:KV→Option Nat} (h:MapIs w m n f):m < w.heap.size:=h.choose_spec.1.lt
theorem MapIs.obj {w:World} {m n:Nat} {f:KV→Option Nat} (h:MapIs w m n f):∃ es c,w.heap[m]? = some (.map es c):=by
 obtain ⟨D,⟨es,c,h,_⟩,_⟩:=h
 exact ⟨es,c,h⟩
theorem MapIs.same {w w':World} {m n:Nat} {f:KV→Option Nat} (h:MapIs w m n f) (hw:w'.heap[m]? = w.heap[m]?):MapIs w' m n f:=by
 obtain ⟨D,⟨es,c,h,hr⟩,hf⟩:=h
 exact ⟨D,⟨es,c,hw.trans h,hr⟩,hf⟩
theorem MapIs.below {w w':World} {B m n:Nat} {f:KV→Option Nat} (h:MapIs w m n f) (hb:Below B w w') (hlt:m < B):MapIs w' m n f:=h.same (hb.block m hlt)
theorem MapIs.call {w w':World} {m n:Nat} {f:KV→Option Nat} (h:MapIs w m n f) (hb:Below w.heap.size w w'):MapIs w' m n f:=h.below hb h.lt
theorem MapIs.made (w:World):MapIs (w.alloc (.map #[] 0)) w.heap.size 0 (fun _=>none):=⟨_,World.ownsMap_made _ _ _ _,fun k _=>rfl⟩
theorem zeroP (w:World):(zeroValue 182).run Tryz.prog w = .ok (.pointer none) w:=by kernel_rfl
theorem MapIs.look {w:World} {m n:Nat} {f:KV→Option Nat} (h:MapIs w m n f) {k:KV} (hk:Fine k):(Instr.lookup 185 (.map (some m)) (.agg #[.string k.1,.int .i64 k.2]) false).run Tryz.prog w = .ok (.pointer (pto (f k))) w:=by
 obtain ⟨D,hd,hf⟩:=h
 obtain ⟨v,ps,hrun,hv⟩:=hd.lookup (t:=185) (e:=182) law26 Tryz.underlying185 (zeroP w) (zd:=.nil) (zp:=[]) rfl hk.key
 rw [hf k hk] at hv
 rw [hrun,rp_inv hv]
def upd (f:KV→Option Nat) (k:KV) (o:Option Nat):KV→Option Nat:=fun k'=>if k'=k then o else f k'
theorem key_lit {k:KV} (hk:Fine k):WideAt.IsKeyLit (klit k):=law26.key hk.key
theorem MapIs.store {w:World} {m n:Nat} {f:KV→Option Nat} (h:MapIs w m n f) (hn:n < maxLen) {k:KV} (hk:Fine k) (o:Option Nat):∃ w',(Instr.mapUpdate 185 (.map (some m)) (.agg #[.string k.1,.int .i64 k.2]) (.pointer (pto o))).run Tryz.prog w = .ok () w'∧MapIs w' m (n+1) (upd f k o)∧w.mapTurned w' m:=by
 obtain ⟨D,hd,hf⟩:=h
 obtain ⟨w',h1,h2,h3⟩:=hd.store (t:=185) (e:=182) law26 Tryz.underlying185 hn hk.key (rp_pto o)
 refine ⟨w',h1,⟨_,h2,fun k' hk'=>?_⟩,h3⟩
 unfold upd
 by_cases e:k'=k
 ·subst e
  rw [if_pos rfl,atKey_put_same hd.isMap (key_lit hk)]
 ·rw [if_neg e,atKey_put_other (fun h=>e (klit_inj hk' hk h)),hf k' hk']
theorem MapIs.del {w:World} {m n:Nat} {f:KV→Option Nat} (h:MapIs w m n f) {k:KV} (hk:Fine k) (ty:TypeId):∃ w',(Builtin.delete_ #[185,32] ty #[.map (some m),.agg #[.string k.1,.int .i64 k.2]]).run Tryz.prog w = .ok (.tuple #[]) w'∧MapIs w' m n (upd f k none)∧w.mapTurned w' m:=by
 obtain ⟨D,hd,hf⟩:=h
 obtain ⟨w',h1,h2,h3⟩:=hd.drop (t:=185) (e:=182) law26 Tryz.underlying185 hk.key ty
 refine ⟨w',h1,⟨_,h2,fun k' hk'=>?_⟩,h3⟩
 unfold upd
 by_cases e:k'=k
 ·subst e
  rw [if_pos rfl,atKey_del_same]
  rfl
 ·rw [if_neg e,atKey_del_other (fun h=>e (klit_inj hk' hk h)),hf k' hk']
theorem turned_other {w w':World} {m b:Nat} (h:w.mapTurned w' m) (hne:b ≠ m):w'.heap[b]? = w.heap[b]?:=by
 obtain ⟨es,clock,es',clock',hb,rfl⟩:=h
 exact Go.ChangeMaps.heap_setBlock_other hb _ hne
theorem MapIs.len {w:World} {m n:Nat} {f:KV→Option Nat} (h:MapIs w m n f) (ty:TypeId):∃ c:Nat,c≤n∧(Builtin.len_ #[185] ty #[.map (some m)]).run Tryz.prog w = .ok (.int .i64 c) w:=by
 obtain ⟨D,hd,hf⟩:=h
 exact ⟨_,hd.size_le,hd.len Tryz.underlying185 ty⟩
theorem run_bdN (w:World) (e:En) (p q a:Option Addr):(Bd 184 #[(0,.agg (ecs e)),(1,.pointer p),(2,.pointer q),(3,.pointer a)]).run Tryz.prog w = .ok (.agg (ncs e (.pointer p) (.pointer q) (.pointer a))) w:=run_build w _ _ _ (by kernel_rfl)
theorem run_bdH (w:World) (m:Nat):(Bd 187 #[(1,.map (some m))]).run Tryz.prog w = .ok (.agg (hcs nilP nilP m)) w:=run_build w _ _ _ (by kernel_rfl)
theorem run_bdO (w:World) (t:Th) (pb:Nat):(Bd 124 #[(0,.agg (tcs t)),(1,.pointer (some ⟨pb,0,none⟩))]).run Tryz.prog w = .ok (.agg (ocs t pb)) w:=run_build w _ _ _ (by kernel_rfl)
end Go.Proofs.YtkadkmnolkkhgaaGreatDoor.Hp
