/-
 Texts of this seat in build order: MwOpenC, MwSetM.
-/
import Derived.Test.YtkadkmnolkkhgaaGreatDoorRows
import Derived.Test.YtkadkmnolkkhgaaGreatDoorMg40
import Derived.ProofKit
import Derived.OpenShut
import Derived.ChangeArms
import Derived.Deep.Slices
import Derived.Lib.SmallJoins
import Derived.Test.YtkadkmnolkkhgaaGreatDoorMg06
/-
 What came in: values, keys, properties, lists of them, lists of lists.
-/
set_option linter.unusedVariables false
set_option linter.unusedSimpArgs false
namespace Go.Proofs.YtkadkmnolkkhgaaGreatDoor.Mw
open Go Go.RowKit Go.ChangeShapes Go.WideShapes Go.Deep Keys Hp Mo
open Des (Vl Ds zeroV zeroD dcs)
open Arrs (En ecs ecs_list)
def I64 (n:Int):Prop:=-9223372036854775808≤n∧n≤9223372036854775807
theorem i64_bds {n:Int} (h:(Lit.int .i64 n).wf=true):I64 n:=by
 unfold I64
 have e1:IntKind.i64.min = -9223372036854775808:=rfl
 have e2:IntKind.i64.max=9223372036854775807:=rfl
 simp [Lit.wf,e1,e2] at h
 omega
section
variable {H:Type} {enc:TypeId × Value→H} {w:World} {base:Nat} {spare:Nat→Bool} {held:Bool}
theorem cellsCV:Tryz.prog.cellsOf 30=3:=by kernel_rfl
theorem cellsCI:Tryz.prog.cellsOf 3=1:=by kernel_rfl
theorem cellsCS:Tryz.prog.cellsOf 9=1:=by kernel_rfl
theorem cellsCB:Tryz.prog.cellsOf 4=1:=by kernel_rfl
theorem cellsCD:Tryz.prog.cellsOf 34=18:=by kernel_rfl
theorem cellsCK:Tryz.prog.cellsOf 32=2:=by kernel_rfl
theorem cellsCE:Tryz.prog.cellsOf 36=20:=by kernel_rfl
theorem cellsCL:Tryz.prog.cellsOf 37=1:=by kernel_rfl
theorem bk_pos (d:DataW H):1≤Rows.uptoBulk d:=by
 cases d with
 | lit l=>cases l <;> simp [Rows.uptoBulk]
 | _=>simp [Rows.uptoBulk]
theorem bk_mem (l:List (DataW H)) (d:DataW H) (h:d ∈ l):Rows.uptoBulk d≤Rows.uptoBulkAll l:=by
 induction l with
 | nil=>cases h
 | cons x r ih =>
  simp only [Rows.uptoBulkAll]
  cases h with
  | head=>omega
  | tail _ h=>have:=ih h;omega
theorem bk_elem (D:Nat→DataW H) (sp:List (DataW H)) (n i:Nat) (h:i < n):Rows.uptoBulk (D i)≤Rows.uptoBulk (.slice ((List.range n).map D) sp):=by
 have:=bk_mem ((List.range n).map D) (D i) (List.mem_map.2 ⟨i,List.mem_range.2 h,rfl⟩)
 simp only [Rows.uptoBulk]
 omega
theorem bk_len (l:List (DataW H)) (m:Nat) (h:∀ d ∈ l,m≤Rows.uptoBulk d):m*l.length≤Rows.uptoBulkAll l:=by
 induction l with
 | nil=>simp
 | cons x r ih =>
  simp only [Rows.uptoBulkAll,List.length_cons,Nat.mul_succ]
  have h1:=h x List.mem_cons_self
  have h2:=ih fun d hd=>h d (List.mem_cons_of_mem _ hd)
  omega
theorem bk_str {s:ByteArray} {y:DataW H} (e:y = .lit (.string s.data.toList)):s.size+1≤Rows.uptoBulk y:=by
 rw [e]
 simp only [Rows.uptoBulk]
 have e:s.data.toList.length=s.size:=by rw [Array.length_toList];rfl
 omega
set_option maxRecDepth 100000 in
theorem open_v {m:Nat} {cs:List Value} {y:DataW H × List MemPlace} (h:DataW.trod enc Tryz.prog w base spare held m 30 cs=some y):∃ v:Vl,cs=(vcs v).toList∧v.s.size+4≤Rows.uptoBulk y.1∧I64 v.k∧I64 v.n:=by
 obtain ⟨xs,n,_,hx,hl,hlen,hg⟩:=DataW.trod_struct Tryz.underlying30 h
 rw [cellsCV] at hl
 match cs,hl with
 | [c0,c1,c2],_ =>
  match xs,hlen with
  | [y0,y1,y2],_ =>
   have g0:DataW.trod enc Tryz.prog w base spare held n 3 (([c0,c1,c2].drop 0).take (Tryz.prog.cellsOf 3))=[y0,y1,y2][0]?:=hg 0 _ rfl
   have g1:DataW.trod enc Tryz.prog w base spare held n 3 (([c0,c1,c2].drop 1).take (Tryz.prog.cellsOf 3))=[y0,y1,y2][1]?:=hg 1 _ rfl
   have g2:DataW.trod enc Tryz.prog w base spare held n 9 (([c0,c1,c2].drop 2).take (Tryz.prog.cellsOf 9))=[y0,y1,y2][2]?:=hg 2 _ rfl
   rw [cellsCI] at g0 g1
   rw [cellsCS] at g2
   have g0:DataW.trod enc Tryz.prog w base spare held n 3 [c0]=some y0:=g0
   have g1:DataW.trod enc Tryz.prog w base spare held n 3 [c1]=some y1:=g1
   have g2:DataW.trod enc Tryz.prog w base spare held n 9 [c2]=some y2:=g2
   obtain ⟨k,hk,_,wk⟩:=DataW.trod_int Tryz.underlying3 g0
   obtain ⟨q,hq,_,wq⟩:=DataW.trod_int Tryz.underlying3 g1
   obtain ⟨s,hs,e2,_⟩:=DataW.trod_string Tryz.underlying9 g2
   simp only [List.cons.injEq,and_true] at hk hq hs
   subst hk hq hs
   refine ⟨⟨k,q,s⟩,rfl,?_,i64_bds wk,i64_bds wq⟩
   have hy:y.1 = .agg [y0.1,y1.1,y2.1]:=by simpa using congrArg Prod.fst hx
   rw [hy]
   have h0:=bk_pos y0.1
   have h1:=bk_pos y1.1
   have h2:=bk_str (congrArg Prod.fst e2)
   simp only [Rows.uptoBulk,Rows.uptoBulkAll]
   show s.size+4≤_
   omega
set_option maxRecDepth 100000 in
theorem open_k {m:Nat} {cs:List Value} {y:DataW H × List MemPlace} (h:DataW.trod enc Tryz.prog w base spare held m 32 cs=some y):∃ k:KV,cs=[.string k.1,.int .i64 k.2]∧k.1.size+3≤Rows.uptoBulk y.1∧I64 k.2:=by
 obtain ⟨xs,n,_,hx,hl,hlen,hg⟩:=DataW.trod_struct Tryz.underlying32 h
 rw [cellsCK] at hl
 match cs,hl with
 | [c0,c1],_ =>
  match xs,hlen with
  | [y0,y1],_ =>
   have g0:DataW.trod enc Tryz.prog w base spare held n 9 (([c0,c1].drop 0).take (Tryz.prog.cellsOf 9))=[y0,y1][0]?:=hg 0 _ rfl
   have g1:DataW.trod enc Tryz.prog w base spare held n 3 (([c0,c1].drop 1).take (Tryz.prog.cellsOf 3))=[y0,y1][1]?:=hg 1 _ rfl
   rw [cellsCS] at g0
   rw [cellsCI] at g1
   have g0:DataW.trod enc Tryz.prog w base spare held n 9 [c0]=some y0:=g0
   have g1:DataW.trod enc Tryz.prog w base spare held n 3 [c1]=some y1:=g1
   obtain ⟨s,hs,e0,ws⟩:=DataW.trod_string Tryz.underlying9 g0
   obtain ⟨q,hq,_,wq⟩:=DataW.trod_int Tryz.underlying3 g1
   simp only [List.cons.injEq,and_true] at hs hq
   subst hs hq
   refine ⟨(s,q),rfl,?_,i64_bds wq⟩
   have hy:y.1 = .agg [y0.1,y1.1]:=by simpa using congrArg Prod.fst hx
   rw [hy]
   have h1:=bk_pos y1.1
   have h2:=bk_str (congrArg Prod.fst e0)
   simp only [Rows.uptoBulk,Rows.uptoBulkAll]
   show s.size+3≤_
   omega
set_option maxRecDepth 100000 in
set_option maxHeartbeats 2000000 in
theorem open_d {m:Nat} {cs:List Value} {y:DataW H × List MemPlace} (h:DataW.trod enc Tryz.prog w base spare held m 34 cs=some y):∃ d:Ds,cs=(dcs d).toList∧d.v.s.size+d.g.s.size+d.s.s.size+22≤Rows.uptoBulk y.1:=by
 obtain ⟨xs,n,_,hx,hl,hlen,hg⟩:=DataW.trod_struct Tryz.underlying34 h
 rw [cellsCD] at hl
 match cs,hl with
 | [c0,c1,c2,c3,c4,c5,c6,c7,c8,c9,c10,c11,c12,c13,c14,c15,c16,c17],_ =>
  match xs,hlen with
  | [y0,y1,y2,y3,y4,y5,y6,y7,y8,y9,y10,y11],_ =>
   have g0:DataW.trod enc Tryz.prog w base spare held n 4 (([c0,c1,c2,c3,c4,c5,c6,c7,c8,c9,c10,c11,c12,c13,c14,c15,c16,c17].drop 0).take (Tryz.prog.cellsOf 4))=[y0,y1,y2,y3,y4,y5,y6,y7,y8,y9,y10,y11][0]?:=hg 0 _ rfl
   rw [cellsCB] at g0
   have g0:DataW.trod enc Tryz.prog w base spare held n 4 [c0]=some y0:=g0
   have g1:DataW.trod enc Tryz.prog w base spare held n 4 (([c0,c1,c2,c3,c4,c5,c6,c7,c8,c9,c10,c11,c12,c13,c14,c15,c16,c17].drop 1).take (Tryz.prog.cellsOf 4))=[y0,y1,y2,y3,y4,y5,y6,y7,y8,y9,y10,y11][1]?:=hg 1 _ rfl
   rw [cellsCB] at g1
   have g1:DataW.trod enc Tryz.prog w base spare held n 4 [c1]=some y1:=g1
   have g2:DataW.trod enc Tryz.prog w base spare held n 4 (([c0,c1,c2,c3,c4,c5,c6,c7,c8,c9,c10,c11,c12,c13,c14,c15,c16,c17].drop 2).take (Tryz.prog.cellsOf 4))=[y0,y1,y2,y3,y4,y5,y6,y7,y8,y9,y10,y11][2]?:=hg 2 _ rfl
   rw [cellsCB] at g2
   have g2:DataW.trod enc Tryz.prog w base spare held n 4 [c2]=some y2:=g2
   have g3:DataW.trod enc Tryz.prog w base spare held n 4 (([c0,c1,c2,c3,c4,c5,c6,c7,c8,c9,c10,c11,c12,c13,c14,c15,c16,c17].drop 3).take (Tryz.prog.cellsOf 4))=[y0,y1,y2,y3,y4,y5,y6,y7,y8,y9,y10,y11][3]?:=hg 3 _ rfl
   rw [cellsCB] at g3
   have g3:DataW.trod enc Tryz.prog w base spare held n 4 [c3]=some y3:=g3
   have g4:DataW.trod enc Tryz.prog w base spare held n 4 (([c0,c1,c2,c3,c4,c5,c6,c7,c8,c9,c10,c11,c12,c13,c14,c15,c16,c17].drop 4).take (Tryz.prog.cellsOf 4))=[y0,y1,y2,y3,y4,y5,y6,y7,y8,y9,y10,y11][4]?:=hg 4 _ rfl
   rw [cellsCB] at g4
   have g4:DataW.trod enc Tryz.prog w base spare held n 4 [c4]=some y4:=g4
   have g5:DataW.trod enc Tryz.prog w base spare held n 4 (([c0,c1,c2,c3,c4,c5,c6,c7,c8,c9,c10,c11,c12,c13,c14,c15,c16,c17].drop 5).take (Tryz.prog.cellsOf 4))=[y0,y1,y2,y3,y4,y5,y6,y7,y8,y9,y10,y11][5]?:=hg 5 _ rfl
   rw [cellsCB] at g5
   have g5:DataW.trod enc Tryz.prog w base spare held n 4 [c5]=some y5:=g5
   have g6:DataW.trod enc Tryz.prog w base spare held n 30 (([c0,c1,c2,c3,c4,c5,c6,c7,c8,c9,c10,c11,c12,c13,c14,c15,c16,c17].drop 6).take (Tryz.prog.cellsOf 30))=[y0,y1,y2,y3,y4,y5,y6,y7,y8,y9,y10,y11][6]?:=hg 6 _ rfl
   rw [cellsCV] at g6
   have g6:DataW.trod enc Tryz.prog w base spare held n 30 [c6,c7,c8]=some y6:=g6
   have g7:DataW.trod enc Tryz.prog w base spare held n 30 (([c0,c1,c2,c3,c4,c5,c6,c7,c8,c9,c10,c11,c12,c13,c14,c15,c16,c17].drop 9).take (Tryz.prog.cellsOf 30))=[y0,y1,y2,y3,y4,y5,y6,y7,y8,y9,y10,y11][7]?:=hg 7 _ rfl
   rw [cellsCV] at g7
   have g7:DataW.trod enc Tryz.prog w base spare held n 30 [c9,c10,c11]=some y7:=g7
   have g8:DataW.trod enc Tryz.prog w base spare held n 30 (([c0,c1,c2,c3,c4,c5,c6,c7,c8,c9,c10,c11,c12,c13,c14,c15,c16,c17].drop 12).take (Tryz.prog.cellsOf 30))=[y0,y1,y2,y3,y4,y5,y6,y7,y8,y9,y10,y11][8]?:=hg 8 _ rfl
   rw [cellsCV] at g8
   have g8:DataW.trod enc Tryz.prog w base spare held n 30 [c12,c13,c14]=some y8:=g8
   have g9:DataW.trod enc Tryz.prog w base spare held n 4 (([c0,c1,c2,c3,c4,c5,c6,c7,c8,c9,c10,c11,c12,c13,c14,c15,c16,c17].drop 15).take (Tryz.prog.cellsOf 4))=[y0,y1,y2,y3,y4,y5,y6,y7,y8,y9,y10,y11][9]?:=hg 9 _ rfl
   rw [cellsCB] at g9
   have g9:DataW.trod enc Tryz.prog w base spare held n 4 [c15]=some y9:=g9
   have g10:DataW.trod enc Tryz.prog w base spare held n 4 (([c0,c1,c2,c3,c4,c5,c6,c7,c8,c9,c10,c11,c12,c13,c14,c15,c16,c17].drop 16).take (Tryz.prog.cellsOf 4))=[y0,y1,y2,y3,y4,y5,y6,y7,y8,y9,y10,y11][10]?:=hg 10 _ rfl
   rw [cellsCB] at g10
   have g10:DataW.trod enc Tryz.prog w base spare held n 4 [c16]=some y10:=g10
   have g11:DataW.trod enc Tryz.prog w base spare held n 4 (([c0,c1,c2,c3,c4,c5,c6,c7,c8,c9,c10,c11,c12,c13,c14,c15,c16,c17].drop 17).take (Tryz.prog.cellsOf 4))=[y0,y1,y2,y3,y4,y5,y6,y7,y8,y9,y10,y11][11]?:=hg 11 _ rfl
   rw [cellsCB] at g11
   have g11:DataW.trod enc Tryz.prog w base spare held n 4 [c17]=some y11:=g11
   obtain ⟨b0,h0,_⟩:=DataW.trod_bool Tryz.underlying4 g0
   obtain ⟨b1,h1,_⟩:=DataW.trod_bool Tryz.underlying4 g1
   obtain ⟨b2,h2,_⟩:=DataW.trod_bool Tryz.underlying4 g2
   obtain ⟨b3,h3,_⟩:=DataW.trod_bool Tryz.underlying4 g3
   obtain ⟨b4,h4,_⟩:=DataW.trod_bool Tryz.underlying4 g4
   obtain ⟨b5,h5,_⟩:=DataW.trod_bool Tryz.underlying4 g5
   obtain ⟨v6,h6,s6,_⟩:=open_v g6
   obtain ⟨v7,h7,s7,_⟩:=open_v g7
   obtain ⟨v8,h8,s8,_⟩:=open_v g8
   obtain ⟨b9,h9,_⟩:=DataW.trod_bool Tryz.underlying4 g9
   obtain ⟨b10,h10,_⟩:=DataW.trod_bool Tryz.underlying4 g10
   obtain ⟨b11,h11,_⟩:=DataW.trod_bool Tryz.underlying4 g11
   have h6:[c6,c7,c8]=[.int .i64 v6.k,.int .i64 v6.n,.string v6.s]:=h6
   have h7:[c9,c10,c11]=[.int .i64 v7.k,.int .i64 v7.n,.string v7.s]:=h7
   have h8:[c12,c13,c14]=[.int .i64 v8.k,.int .i64 v8.n,.string v8.s]:=h8
   simp only [List.cons.injEq,and_true] at h0 h1 h2 h3 h4 h5 h6 h7 h8 h9 h10 h11
   obtain ⟨h6a,h6b,h6c⟩:=h6
   obtain ⟨h7a,h7b,h7c⟩:=h7
   obtain ⟨h8a,h8b,h8c⟩:=h8
   subst h0 h1 h2 h3 h4 h5 h6a h6b h6c h7a h7b h7c h8a h8b h8c h9 h10 h11
   refine ⟨⟨b0,b1,b2,b3,b4,b5,v6,v7,v8,b9,b10,b11⟩,rfl,?_⟩
   have hy:y.1 = .agg [y0.1,y1.1,y2.1,y3.1,y4.1,y5.1,y6.1,y7.1,y8.1,y9.1,y10.1,y11.1]:=by simpa using congrArg Prod.fst hx
   rw [hy]
   have p0:=bk_pos y0.1
   have p1:=bk_pos y1.1
   have p2:=bk_pos y2.1
   have p3:=bk_pos y3.1
   have p4:=bk_pos y4.1
   have p5:=bk_pos y5.1
   have p9:=bk_pos y9.1
   have p10:=bk_pos y10.1
   have p11:=bk_pos y11.1
   simp only [Rows.uptoBulk,Rows.uptoBulkAll]
   show v6.s.size+v7.s.size+v8.s.size+22≤_
   omega
theorem ecs_parts (s:ByteArray) (n:Int) (d:Ds):[.string s,.int .i64 n]++(dcs d).toList=(ecs ⟨s,n,d⟩).toList:=rfl
set_option maxRecDepth 100000 in
theorem open_e {m:Nat} {cs:List Value} {y:DataW H × List MemPlace} (h:DataW.trod enc Tryz.prog w base spare held m 36 cs=some y):∃ e:En,cs=(ecs e).toList∧e.ks.size+e.d.v.s.size+e.d.g.s.size+e.d.s.s.size+26≤Rows.uptoBulk y.1∧I64 e.kn:=by
 obtain ⟨xs,n,_,hx,hl,hlen,hg⟩:=DataW.trod_struct Tryz.underlying36 h
 rw [cellsCE] at hl
 match xs,hlen with
 | [y0,y1],_ =>
  have g0:DataW.trod enc Tryz.prog w base spare held n 32 ((cs.drop 0).take (Tryz.prog.cellsOf 32))=[y0,y1][0]?:=hg 0 _ rfl
  have g1:DataW.trod enc Tryz.prog w base spare held n 34 ((cs.drop 2).take (Tryz.prog.cellsOf 34))=[y0,y1][1]?:=hg 1 _ rfl
  rw [cellsCK,List.drop_zero] at g0
  rw [cellsCD] at g1
  obtain ⟨k,hk,fk,kb⟩:=open_k (y:=y0) g0
  obtain ⟨d,hd,fd⟩:=open_d (y:=y1) g1
  refine ⟨⟨k.1,k.2,d⟩,?_,?_,kb⟩
  ·rw [← ecs_parts,← hk,← hd,List.take_of_length_le (l:=cs.drop 2) (by rw [List.length_drop,hl];omega),List.take_append_drop]
  ·have hy:y.1 = .agg [y0.1,y1.1]:=by simpa using congrArg Prod.fst hx
   rw [hy]
   simp only [Rows.uptoBulk,Rows.uptoBulkAll]
   show k.1.size+d.v.s.size+d.g.s.size+d.s.s.size+26≤_
   omega
end
theorem list_off {α:Type} {Q:Nat→α→Prop}:∀ n,(∀ i,i < n→∃ x,Q i x)→∃ l:List α,l.length=n∧∀ i x,l[i]? = some x→Q i x:=by
 intro n
 induction n with
 | zero=>intro _;exact ⟨[],rfl,fun i x h=>by simp at h⟩
 | succ n ih =>
  intro h
  obtain ⟨l,hl,hq⟩:=ih fun i hi=>h i (by omega)
  obtain ⟨x,hx⟩:=h n (by omega)
  refine ⟨l++[x],by simp [hl],fun i y hy=>?_⟩
  rcases Nat.lt_or_ge i n with hi |hi
  ·rw [List.getElem?_append_left (by omega)] at hy
   exact hq i y hy
  ·rw [List.getElem?_append_right (by omega)] at hy
   have hi0:i - l.length=0:=by
    have:=(List.getElem?_eq_some_iff.1 hy).1
    simp at this
    omega
   rw [hi0] at hy
   simp at hy
   subst hy
   rw [show i=n by omega]
   exact hx
structure FitE (e:En):Prop where
 key:e.ks.size≤1048576
 kb:I64 e.kn
 v:e.d.v.s.size≤1048576
 g:e.d.g.s.size≤1048576
 s:e.d.s.s.size≤1048576
theorem FitE.fine {e:En} (h:FitE e):Fine (ekey e):=⟨by have:=h.key;show e.ks.size≤_;omega,h.kb⟩
set_option maxRecDepth 100000 in
theorem open_el {H:Type} {enc:TypeId × Value→H} {W:World} {base:Nat} {spare:Nat→Bool} {held:Bool} {m:Nat} {c:Value} {y:DataW H × List MemPlace} (h:DataW.trod enc Tryz.prog W base spare held m 37 [c]=some y) :
  ∃ a cap es,c = .slice a es.length cap∧es.length≤maxLen∧Hp.EsAt W.heap.size a es W∧(Rows.uptoBulk y.1≤1048576→(∀ e ∈ es,FitE e)∧es.length≤70000):=by
 rcases open_slice Tryz.underlying37 h with ⟨hcs,_⟩ |⟨a,len,cap,mm,n,D,Pl,hcs,hb,hl,hm,hmm,hx,hi⟩
 ·simp at hcs
  subst hcs
  exact ⟨none,0,[],rfl,Nat.zero_le _,(fun j e he=>by simp at he),fun _=>⟨(fun e he=>by cases he),by simp⟩⟩
 ·simp at hcs
  subst hcs
  have hlm:len≤mm:=by rw [hmm];split <;> omega
  have hd:y.1 = .slice ((List.range len).map D) ((List.range (mm - len)).map fun j=>D (len+j)):=by simpa using congrArg Prod.fst hx
  obtain ⟨es,hel,heq⟩:=list_off (Q:=fun i (e:En)=>Arrs.enAt W (a.add (i*20)) e∧e.ks.size+e.d.v.s.size+e.d.g.s.size+e.d.s.s.size+26≤Rows.uptoBulk (D i)∧I64 e.kn) len (fun i hil=>by
   obtain ⟨cs',hc,ht⟩:=hi i (by omega)
   rw [cellsCE] at hc
   obtain ⟨e,rfl,hs⟩:=open_e ht
   obtain ⟨_,hcl,hat⟩:=World.cells?_some hc
   exact ⟨e,fun j v hv=>by
    have hj:j < 20:=by have:=(List.getElem?_eq_some_iff.1 hv).1;rw [ecs_list] at this;exact this
    rw [hat j hj,hv],hs⟩)
  refine ⟨some a,cap,es,by rw [hel],by omega,fun j e he=>?_,fun hb=>⟨fun e he=>?_,?_⟩⟩
  ·have hq:=(heq j e he).1
   have h0:=hq 0 _ (show (ecs e).toList[0]? = some (.string e.ks) from rfl)
   obtain ⟨b,off,sp⟩:=a
   have hsp:sp=none:=by
    have h00:=(heq 0 (es[0]'(by have:=(List.getElem?_eq_some_iff.1 he).1;omega)) (by simp)).1 0 _ (show _=some (.string _) from rfl)
    simpa [Addr.add] using World.cell?_spot h00
   subst hsp
   have hb:=World.block_lt_of_cell? W _ h0
   have e2:(⟨b,off,none⟩:Addr).add (j*20)=⟨b,off+j*20,none⟩:=by unfold Addr.add;split <;> simp_all
   rw [e2] at hq hb
   have hb2:((⟨b,off+j*20,none⟩:Addr).add 0).block=b:=by unfold Addr.add;split <;> rfl
   rw [hb2] at hb
   exact ⟨b,off,rfl,hb,fun i v hv=>by
    have:=hq i v hv
    rwa [show (⟨b,off+j*20,none⟩:Addr).add i=⟨b,off+j*20+i,none⟩ by unfold Addr.add;split <;> simp_all] at this⟩
  ·obtain ⟨i,hi1,hi2⟩:=List.getElem_of_mem he
   have hbi:=bk_elem D ((List.range (mm - len)).map fun j=>D (len+j)) len i (by omega)
   rw [← hd] at hbi
   obtain ⟨_,h1,h2⟩:=heq i e (by rw [List.getElem?_eq_getElem hi1,hi2])
   exact ⟨by omega,h2,by omega,by omega,by omega⟩
  ·rw [hd] at hb
   simp only [Rows.uptoBulk] at hb
   have:=bk_len ((List.range len).map D) 26 (fun d hd2=>by
    obtain ⟨i,hi2,rfl⟩:=List.mem_map.1 hd2
    have hi3:=List.mem_range.1 hi2
    have:=(heq i (es[i]'(by omega)) (List.getElem?_eq_getElem _)).2.1
    omega)
   rw [List.length_map,List.length_range] at this
   omega
set_option maxRecDepth 100000 in
theorem open_ess {H:Type} {enc:TypeId × Value→H} {W:World} {base b0:Nat} {r:Reach} {spare:Nat→Bool} {held:Bool} {v:Value} {d:DataW H} {p:List MemPlace} (hv:Value.okWide Tryz.prog W r b0 63 v) (h:DataW.Trod enc Tryz.prog W base spare held 63 v d p) :
  ∃ a cap ess,v = .slice a ess.length cap∧ess.length≤maxLen∧(Rows.uptoBulk d≤1048576→Lists W W.heap.size a ess∧∀ es ∈ ess,∀ e ∈ es,FitE e):=by
 obtain ⟨a0,len0,cap0,rfl⟩:=okWide_slice Tryz.underlying63 hv
 obtain ⟨fuel,hf⟩:=h
 rcases open_slice Tryz.underlying63 hf with ⟨hcs,_⟩ |⟨a,len,cap,m,n,D,Pl,hcs,hb,hl,hm,hmm,hx,hi⟩
 ·simp [Value.cells] at hcs
  obtain ⟨rfl,rfl,rfl⟩:=hcs
  exact ⟨none,0,[],rfl,Nat.zero_le _,fun _=>⟨(fun j es he=>by simp at he),(fun es he=>by cases he)⟩⟩
 ·simp [Value.cells] at hcs
  obtain ⟨rfl,rfl,rfl⟩:=hcs
  have hlm:len0≤m:=by rw [hmm];split <;> omega
  have hd:d = .slice ((List.range len0).map D) ((List.range (m - len0)).map fun j=>D (len0+j)):=by simpa using congrArg Prod.fst hx
  obtain ⟨ess,hel,heq⟩:=list_off (Q:=fun i (es:List En)=>∃ aj cj,W.cell? ((a.add (i*1)).add 0)=some (.slice aj es.length cj)∧Hp.EsAt W.heap.size aj es W∧(Rows.uptoBulk (D i)≤1048576→(∀ e ∈ es,FitE e)∧es.length≤70000)) len0 (fun i hil=>by
   obtain ⟨cs',hc,ht⟩:=hi i (by omega)
   rw [cellsCL] at hc
   obtain ⟨hsz,hcl,hat⟩:=World.cells?_some hc
   match cs',hcl with
   | [c],_ =>
    obtain ⟨aj,cj,es,rfl,h1,h2,h3⟩:=open_el ht
    refine ⟨es,aj,cj,by rw [hat 0 (by omega)];rfl,h2,h3⟩)
  refine ⟨some a,cap0,ess,by rw [hel],by omega,fun hb=>⟨fun j es he=>?_,fun es he=>?_⟩⟩
  ·obtain ⟨aj,cj,h0,h1,h2⟩:=heq j es he
   have hj:=(List.getElem?_eq_some_iff.1 he).1
   have hbi:=bk_elem D ((List.range (m - len0)).map fun j=>D (len0+j)) len0 j (by omega)
   rw [← hd] at hbi
   obtain ⟨b,off,sp⟩:=a
   have hsp:sp=none:=by
    obtain ⟨a9,c9,h00,_⟩:=heq 0 (ess[0]'(by omega)) (List.getElem?_eq_getElem _)
    simpa [Addr.add] using World.cell?_spot h00
   subst hsp
   have hbl:=World.block_lt_of_cell? W _ h0
   have e2:((⟨b,off,none⟩:Addr).add (j*1)).add 0=⟨b,off+j,none⟩:=by unfold Addr.add;split <;> simp_all
   rw [e2] at h0 hbl
   exact ⟨(h2 (by omega)).2,b,off,aj,cj,rfl,hbl,h0,h1⟩
  ·obtain ⟨i,hi1,hi2⟩:=List.getElem_of_mem he
   have hbi:=bk_elem D ((List.range (m - len0)).map fun j=>D (len0+j)) len0 i (by omega)
   rw [← hd] at hbi
   obtain ⟨aj,cj,h0,h1,h2⟩:=heq i es (by rw [List.getElem?_eq_getElem hi1,hi2])
   exact (h2 (by omega)).1
set_option maxRecDepth 100000 in
theorem open_kk {H:Type} {enc:TypeId × Value→H} {W:World} {base b0:Nat} {r:Reach} {spare:Nat→Bool} {held:Bool} {v:Value} {d:DataW H} {p:List MemPlace} (hv:Value.okWide Tryz.prog W r b0 32 v) (h:DataW.Trod enc Tryz.prog W base spare held 32 v d p) :
  ∃ k:KV,v = .agg (kcs k)∧(Rows.uptoBulk d≤1048576→k.1.size≤1048576)∧I64 k.2:=by
 obtain ⟨cs,rfl,hsz⟩:=okWide_struct Tryz.underlying32 hv
 obtain ⟨fuel,hf⟩:=h
 obtain ⟨k,hk,hs,kb⟩:=open_k hf
 refine ⟨k,?_,fun hb=>by have hs2:k.1.size+3≤Rows.uptoBulk d:=hs;omega,kb⟩
 have e:cs.toList=[.string k.1,.int .i64 k.2]:=hk
 have e2:cs=#[.string k.1,.int .i64 k.2]:=Array.toList_inj.1 e
 rw [e2]
 rfl
set_option maxRecDepth 100000 in
theorem open_vv {H:Type} {enc:TypeId × Value→H} {W:World} {base b0:Nat} {r:Reach} {spare:Nat→Bool} {held:Bool} {v:Value} {d:DataW H} {p:List MemPlace} (hv:Value.okWide Tryz.prog W r b0 30 v) (h:DataW.Trod enc Tryz.prog W base spare held 30 v d p) :
  ∃ a:Vl,v = .agg (vcs a)∧(Rows.uptoBulk d≤1048576→a.s.size≤1048576):=by
 obtain ⟨cs,rfl,hsz⟩:=okWide_struct Tryz.underlying30 hv
 obtain ⟨fuel,hf⟩:=h
 obtain ⟨a,hk,hs,_⟩:=open_v hf
 refine ⟨a,?_,fun hb=>by have hs2:a.s.size+4≤Rows.uptoBulk d:=hs;omega⟩
 have e:cs.toList=(vcs a).toList:=hk
 rw [Array.toList_inj.1 e]
end Go.Proofs.YtkadkmnolkkhgaaGreatDoor.Mw

/-
 MSet along a chain of plain objects with properties (plain mathematics).
-/
namespace Go.Proofs.YtkadkmnolkkhgaaGreatDoor.Mw
open Go Go.RowKit Keys Hp
open Des (Vl Ds zeroV zeroD dcs eqV eqV_iff eqV_refl accF datF canF rigF appF whF whR rigR badF replF kxF kvF othF eqD addF compF clearF)
open Arrs (En lenF leftF)
def newD (own:Option Ds) (v:Vl):Ds:=match own with |some d=>{ d with v:=v } |none=>wholeD v true true true
theorem wh_data {n:Ds} (h:whR n=true) (ha:accF n=false):n=⟨true,false,false,true,true,true,n.v,zeroV,zeroV,n.w,n.e,n.c⟩:=by
 obtain ⟨a1,a2,a3,a4,a5,a6,v,g,s,w,e,c⟩:=n
 simp only [accF,Bool.or_eq_false_iff] at ha
 obtain ⟨rfl,rfl⟩:=ha
 cases a1 <;> cases a4 <;> cases a5 <;> cases a6 <;> simp [whR,rigR,badF,accF,datF] at h
 have hg:=eqV_iff.1 h.1
 have hs:=eqV_iff.1 h.2
 subst hg hs
 rfl
theorem wh_acc {n:Ds} (h:whR n=true) (ha:accF n=true):n.v=zeroV∧datF n=false:=by
 obtain ⟨a1,a2,a3,a4,a5,a6,v,g,s,w,e,c⟩:=n
 simp only [accF] at ha
 cases a1 <;> cases a2 <;> cases a3 <;> cases a4 <;> simp [whR,rigR,badF,accF,datF] at h ha ⊢
 all_goals (first |exact eqV_iff.1 h.1.1.2.1.1.1 |exact eqV_iff.1 (by simp_all) |skip)
theorem rig_v (v:Vl):rigF { zeroD with hv:=true,v:=v }=true:=by
 simp [rigF,accF,datF,zeroD,canF,zeroV,replF,eqD,eqV_refl]
theorem rig_w (v:Vl):rigF (wholeD v true true true)=true:=by
 simp [rigF,accF,datF,zeroD,wholeD,canF,zeroV,replF,eqD,eqV_refl]
theorem app_old {d:Ds} (v:Vl) (h:whR d=true) (ha:accF d=false) (hw:d.w=true):appF true { zeroD with hv:=true,v:=v } true d=({ d with v:=v },true):=by
 have e:=wh_data h ha
 rw [hw] at e
 obtain ⟨a1,a2,a3,a4,a5,a6,v0,g,s,w,e0,c0⟩:=d
 simp only [Ds.mk.injEq] at e
 obtain ⟨rfl,rfl,rfl,rfl,rfl,rfl,-,rfl,rfl,rfl,-,-⟩:=e
 have hr:=rig_v v
 simp [appF,hr,whF,rigF,accF,datF,zeroD,canF,zeroV,replF,eqD,eqV_refl,kxF,kvF,othF]
theorem app_new (v:Vl):appF true (wholeD v true true true) false zeroD=(wholeD v true true true,true):=by
 unfold appF
 rw [rig_w v]
 simp [addF,compF,clearF,wholeD,accF,replF,zeroV]
theorem putF_objs {A B:Aw} (h:A.objs=B.objs) (o:Int) (k:KV) (d:Ds):(putF A o k d).objs=(putF B o k d).objs:=by
 unfold putF at?
 rw [h]
 split
 ·exact h
 ·simp only [setOb,h]
theorem leave_objs (A:Aw) (m o:Int) (a:Aq) (R:Rr × Aw):(leaveA A m o a R).2.objs=R.2.objs:=by unfold leaveA;split <;> rfl
section
variable {X:DoT→DoT} {C:DoT→HandT} {ess:List (List En)}
theorem pl_define {A:Aw} (h:A.objs=plL ess ess.length) {es:List En} (h0:ess[0]? = some es) (q:KV) (d dn:Ds) {k:Nat} (hr:rigF d=true) (ha:appF true d (find es q).isSome ((find es q).getD zeroD)=(dn,true)) (hf:A.fuel ≠ 0) (hd:¬ A.depth ≥ A.deep) :
  ∃ B,doF X C k 6 0 { zeroQ with k:=q,d:=d } A=(ans true,B)∧B.objs=(putF A 0 q dn).objs:=by
 have hat:at? A (0:Int)=some ⟨plTh ess.length 0,es,[]⟩:=at_pl h h0
 rw [do_body,body_ok (x:=⟨plTh ess.length 0,es,[]⟩) hat (by decide) hf hd]
 have hown:ownF (enterA A) 0 q=find es q:=pl_own (A:=enterA A) (i:=0) h h0 q
 have e:perfF (X (subF X C k)) (C (subF X C k)) (subF X C k) 6 0 (plTh ess.length 0) { zeroQ with k:=q,d:=d } (enterA A)=(ans true,putF (enterA A) 0 q dn):=by
  simp [perfF,plTh,freshT,zeroT,ordiF,defineF,hr,applyF,hown,nowD,ha]
 rw [e]
 refine ⟨(leaveA A 6 0 { zeroQ with k:=q,d:=d } (ans true,putF (enterA A) 0 q dn)).2,Prod.ext ?_ rfl,?_⟩
 ·rw [leave_fst]
 ·rw [leave_objs]
  exact putF_objs (A:=enterA A) (B:=A) rfl 0 q dn
theorem pl_place {A:Aw} (h:A.objs=plL ess ess.length) {es:List En} (h0:ess[0]? = some es) (q:KV) (v:Vl) (hw:∀ e ∈ es,whR e.d=true) (hok:∀ d,find es q=some d→accF d=false∧d.w=true) {k:Nat} (hf:3≤A.fuel) (hd:¬ A.depth ≥ A.deep) :
  ∃ B,placeF (doF X C k) { zeroQ with k:=q,v:=v,r:=objV 0 } A=(ans true,B)∧B.objs=(putF A 0 q (newD (find es q) v)).objs:=by
 obtain ⟨B1,e1,s1⟩:=pl_get (X:=X) (C:=C) (i:=0) h h0 { zeroQ with k:=q } (k:=k) (by omega) hd
 unfold placeF
 simp only [askF,show (objV 0).k=6 from rfl,if_true,show (objV 0).n=((0:Nat):Int) from rfl,e1]
 cases hfi:find es q with
 | none =>
  obtain ⟨B2,e2,o2⟩:=pl_define (X:=X) (C:=C) (A:=B1) (s1.objs.trans h) h0 q (wholeD v true true true) (wholeD v true true true) (k:=k) (rig_w v) (by rw [hfi];exact app_new v) (by have:=s1.fuel;omega) (by rw [s1.depth,s1.deep];exact hd)
  simp only [ownR,hfi,show abr zeroRr=false from rfl,Bool.false_eq_true,if_false,show zeroRr.has=false from rfl,Bool.false_and]
  refine ⟨B2,e2,o2.trans ?_⟩
  exact putF_objs s1.objs 0 q _
 | some d =>
  obtain ⟨h1,h2⟩:=hok d hfi
  have hmem:∃ e ∈ es,e.d=d:=by
   unfold find at hfi
   obtain ⟨e,he,rfl⟩:=Option.map_eq_some_iff.1 hfi
   exact ⟨e,List.mem_of_find?_eq_some he,rfl⟩
  obtain ⟨e,he,rfl⟩:=hmem
  obtain ⟨B2,e2,o2⟩:=pl_define (X:=X) (C:=C) (A:=B1) (s1.objs.trans h) h0 q { zeroD with hv:=true,v:=v } { e.d with v:=v } (k:=k) (rig_v v) (by rw [hfi];exact app_old v (hw e he) h1 h2) (by have:=s1.fuel;omega) (by rw [s1.depth,s1.deep];exact hd)
  simp only [ownR,hfi,show abr { zeroRr with has:=true,d:=e.d }=false from rfl,Bool.false_eq_true,if_false,Bool.true_and,h1,h2,Bool.not_true,Bool.or_false,if_true]
  refine ⟨B2,e2,o2.trans ?_⟩
  exact putF_objs s1.objs 0 q _
def SetR (es:List En) (q:KV) (v:Vl) (A:Aw) (o:Option Ds) (R:Rr × Aw):Prop:=match o with
 | none=>R.1=ans true∧R.2.objs=(putF A 0 q (newD (find es q) v)).objs
 | some d=>accF d=false→if d.w=true then R.1=ans true∧R.2.objs=(putF A 0 q (newD (find es q) v)).objs else R.1=ans false∧R.2.objs=A.objs
theorem SetR.leave {es:List En} {q:KV} {v:Vl} {A B A':Aw} {o:Option Ds} {R:Rr × Aw} (hB:B.objs=A'.objs) (h:SetR es q v B o R) (m n:Int) (a:Aq):SetR es q v A' o (leaveA A m n a R):=by
 unfold SetR at h ⊢
 cases o with
 | none=>rw [leave_fst,leave_objs];exact ⟨h.1,h.2.trans (putF_objs hB 0 q _)⟩
 | some d =>
  intro ha
  have h:=h ha
  rw [leave_fst,leave_objs]
  split
  ·rename_i hw
   rw [if_pos hw] at h
   exact ⟨h.1,h.2.trans (putF_objs hB 0 q _)⟩
  ·rename_i hw
   rw [if_neg hw] at h
   exact ⟨h.1,h.2.trans hB⟩
theorem pl_tail {A:Aw} (h:A.objs=plL ess ess.length) {es:List En} (h0:ess[0]? = some es) (q:KV) (v:Vl) (hw:∀ e ∈ es,whR e.d=true) (d:Ds) (hok:∀ x,find es q=some x→x=d) {k:Nat} (hf:3≤A.fuel) (hd:¬ A.depth ≥ A.deep) :
  SetR es q v A (some d) (setTail (doF X C k) d { zeroQ with k:=q,v:=v,r:=objV 0 } A):=by
 unfold SetR
 intro ha
 unfold setTail
 rw [ha]
 simp only [Bool.false_eq_true,if_false,show ((objV 0).k != 6)=false from rfl,Bool.or_false]
 cases hdw:d.w with
 | true =>
  simp only [Bool.not_true,Bool.false_eq_true,if_false,if_true]
  obtain ⟨B,e,o⟩:=pl_place (X:=X) (C:=C) h h0 q v hw (fun x hx=>by rw [hok x hx];exact ⟨ha,hdw⟩) (k:=k) hf hd
  rw [e]
  exact ⟨rfl,o⟩
 | false =>
  simp only [Bool.not_false,if_true,Bool.false_eq_true,if_false]
  first |exact ⟨rfl,rfl⟩ |simp
theorem pl_mset {es:List En} (h0:ess[0]? = some es) (q:KV) (v:Vl) (hw:∀ e ∈ es,whR e.d=true):∀ (r i k:Nat) (A:Aw),A.objs=plL ess ess.length→i+r=ess.length→0 < r→A.depth+k=A.deep→r+2≤k→3*(r:Int)+6≤A.fuel→(0 < i→find es q=none) →
  SetR es q v A (firstF (ess.drop i) q) (doF X C k 9 i { zeroQ with k:=q,v:=v,r:=objV 0 } A):=by
 intro r
 induction r with
 | zero=>intro i k A _ _ h;omega
 | succ r ih =>
  intro i k A hA hir _ hk hrk hf hno
  obtain ⟨ei,hes⟩:∃ es,ess[i]? = some es:=⟨ess[i],List.getElem?_eq_getElem (by omega)⟩
  have hdrop:ess.drop i=ei :: ess.drop (i+1):=by
   rw [List.drop_eq_getElem_cons (by omega)]
   congr 1
   exact Option.some.inj ((List.getElem?_eq_getElem (by omega)).symm.trans hes)
  obtain ⟨j,rfl⟩:∃ j,k=j+1:=⟨k - 1,by omega⟩
  rw [do_body,body_ok (at_pl hA hes) (by decide) (by omega) (by omega)]
  have e:perfF (X (subF X C (j+1))) (C (subF X C (j+1))) (subF X C (j+1)) 9 i (plTh ess.length i) { zeroQ with k:=q,v:=v,r:=objV 0 } (enterA A)=setF (doF X C j) i { zeroQ with k:=q,v:=v,r:=objV 0 } (enterA A):=by
   simp [perfF,plTh,freshT,zeroT,ordiF,subF]
  rw [e]
  have hE:(enterA A).objs=plL ess ess.length:=hA
  have eF:(enterA A).fuel=A.fuel - 1:=rfl
  have eD:(enterA A).depth=A.depth+1:=rfl
  have eP:(enterA A).deep=A.deep:=rfl
  refine SetR.leave (A':=A) (B:=enterA A) rfl ?_ 9 i _
  obtain ⟨B1,e1,s1⟩:=pl_get (X:=X) (C:=C) hE hes { zeroQ with k:=q } (k:=j) (by omega) (by omega)
  have hfir:firstF (ess.drop i) q=(match find ei q with |some d=>some d |none=>firstF (ess.drop (i+1)) q):=by rw [hdrop];rfl
  have hback:∀ {B:Aw} {o:Option Ds} {R:Rr × Aw},B.objs=(enterA A).objs→SetR es q v B o R→SetR es q v (enterA A) o R:=by
   intro B o R hB h
   unfold SetR at h ⊢
   cases o with
   | none=>exact ⟨h.1,h.2.trans (putF_objs hB 0 q _)⟩
   | some d =>
    intro ha
    have h:=h ha
    split
    ·rename_i hw
     rw [if_pos hw] at h
     exact ⟨h.1,h.2.trans (putF_objs hB 0 q _)⟩
    ·rename_i hw
     rw [if_neg hw] at h
     exact ⟨h.1,h.2.trans hB⟩
  unfold setF
  simp only [e1]
  cases hfi:find ei q with
  | some d =>
   simp only [ownR,hfi,show abr { zeroRr with has:=true,d:=d }=false from rfl,Bool.false_eq_true,if_false,if_true]
   rw [hfir,hfi]
   refine hback s1.objs (pl_tail (s1.objs.trans hE) h0 q v hw d (fun x hx=>?_) (by have:=s1.fuel;omega) (by rw [s1.depth,s1.deep];omega))
   rcases Nat.eq_zero_or_pos i with h |h
   ·subst h
    rw [h0] at hes
    cases hes
    rw [hx] at hfi
    cases hfi
    rfl
   ·rw [hno h] at hx
    cases hx
  | none =>
   simp only [ownR,hfi,show abr zeroRr=false from rfl,Bool.false_eq_true,if_false,show zeroRr.has=false from rfl]
   rw [hfir,hfi]
   have hno2:find es q=none:=by
    rcases Nat.eq_zero_or_pos i with h |h
    ·subst h
     rw [h0] at hes
     cases hes
     exact hfi
    ·exact hno h
   obtain ⟨B2,s3,e3⟩:=pl_inher (X:=X) (C:=C) (A:=B1) (s1.objs.trans hE) hes 9 { zeroQ with k:=q,v:=v,r:=objV 0 } (k:=j) (by have:=s1.fuel;omega) (by rw [s1.depth,s1.deep];omega)
   rw [e3]
   by_cases hl:i+1 < ess.length
   ·simp only [if_pos hl,if_true]
    exact hback (s3.objs.trans s1.objs) (ih (i+1) j B2 (s3.objs.trans (s1.objs.trans hE)) (by omega) (by omega) (by rw [s3.depth,s1.depth,s3.deep,s1.deep];omega) (by omega) (by have:=s1.fuel;have:=s3.fuel;omega) (fun _=>hno2))
   ·simp only [if_neg hl,Bool.false_eq_true,if_false]
    rw [List.drop_eq_nil_of_le (by omega)]
    have ht:=pl_tail (X:=X) (C:=C) (A:=B2) (s3.objs.trans (s1.objs.trans hE)) h0 q v hw (wholeD zeroV true true true) (fun x hx=>by rw [hno2] at hx;cases hx) (k:=j) (by have:=s1.fuel;have:=s3.fuel;omega) (by rw [s3.depth,s1.depth,s3.deep,s1.deep];omega)
    have ht:=ht rfl
    rw [if_pos (show (wholeD zeroV true true true).w=true from rfl)] at ht
    refine hback (s3.objs.trans s1.objs) (o:=none) ?_
    exact ht
theorem find_put (es:List En) (k:KV) (d:Ds):find (putL es k d) k=some d:=by
 unfold putL
 by_cases h:(find es k).isSome
 ·rw [if_pos h]
  unfold find at h ⊢
  induction es with
  | nil=>simp at h
  | cons x r ih =>
   by_cases hx:ekey x=k
   ·have hx2:ekey (⟨x.ks,x.kn,d⟩:En)=k:=hx
    simp [hx,hx2]
   ·simp only [List.map_cons,if_neg hx]
    rw [List.find?_cons_of_neg (by simpa using hx)]
    rw [List.find?_cons_of_neg (by simpa using hx)] at h
    exact ih h
 ·rw [if_neg h]
  have hn:find es k=none:=by simpa using h
  unfold find at hn ⊢
  have hn2:=Option.map_eq_none_iff.1 hn
  rw [List.find?_append,hn2]
  simp [show ekey (⟨k.1,k.2,d⟩:En)=k from rfl]
theorem own_put {A B:Aw} (h:A.objs=plL ess ess.length) {es:List En} (h0:ess[0]? = some es) (q:KV) (d:Ds) (hB:B.objs=(putF A 0 q d).objs):ownF B 0 q=some d:=by
 have hat:at? A (0:Int)=some ⟨plTh ess.length 0,es,[]⟩:=at_pl h h0
 have hlt:0 < A.objs.length:=by rw [h,plL_len];exact (List.getElem?_eq_some_iff.1 h0).1
 have e:B.objs=A.objs.set 0 ⟨plTh ess.length 0,putL es q d,[]⟩:=by
  rw [hB]
  unfold putF
  rw [hat]
  rfl
 have hat2:at? B (0:Int)=some ⟨plTh ess.length 0,putL es q d,[]⟩:=by
  unfold at?
  rw [if_neg (by omega),e]
  simp [hlt]
 unfold ownF
 rw [hat2]
 exact find_put es q d
theorem own_objs {A B:Aw} (h:B.objs=A.objs) (o:Int) (q:KV):ownF B o q=ownF A o q:=by unfold ownF at?;rw [h]
end
end Go.Proofs.YtkadkmnolkkhgaaGreatDoor.Mw
