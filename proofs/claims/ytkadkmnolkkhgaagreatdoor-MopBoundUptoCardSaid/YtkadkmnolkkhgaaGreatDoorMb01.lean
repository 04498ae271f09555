/-
 Texts of this seat in build order: KyIndex, KyInv, Sort, KyOut.
-/
import Derived.Test.YtkadkmnolkkhgaaGreatDoorMb00
import Derived.Maps.AppendAt
import Derived.Laws.AppendOwnNone
import Derived.Test.YtkadkmnolkkhgaaGreatDoorProg
import Derived.Shelf.Slices.In.SortNone
import Derived.Shelf.Sort.Plain
import Derived.Sort.OwnSortedInts
import Derived.OwnWalk
/-
 keys.Index: what it gives; the document's example.
-/
set_option linter.unusedVariables false
namespace Go.Proofs.YtkadkmnolkkhgaaGreatDoor.Keys
open Go.RowKit Nums
theorem bnext {w w1 w2:World} (h1:Below w.heap.size w w1) (h2:Below w1.heap.size w1 w2):Below w.heap.size w w2:=h1.trans (h2.mono h1.size)
theorem ball (w:World) (o:Obj):Below w.heap.size w (w.alloc o):=(Below.refl _ _).alloc (Nat.le_refl _) _
theorem new_cell {w w1:World} {cs:Array Value} {t:TypeId} (hb:Below (w.alloc (.cells cs t)).heap.size (w.alloc (.cells cs t)) w1) (i:Nat):w1.cell? ⟨w.heap.size,i,none⟩=cs[i]?:=by
 rw [hb.cell (p:=⟨w.heap.size,i,none⟩) (by simp)]
 simp
def ReadIs (s:ByteArray) (n:Int) (ok:Bool):Prop:=∀ w,Lw w→Calls Tryz.prog 192 #[.string s] w fun e w'=>e = .returned (.tuple #[.int .i64 n,.bool ok])∧Below w.heap.size w w'
theorem ReadIs.at {s:ByteArray} {n:Int} {ok:Bool} (h:ReadIs s n ok) {w:World} (hL:Lw w):Calls Tryz.prog 192 #[.string s] w fun e w'=>e = .returned (.tuple #[.int .i64 n,.bool ok])∧Below w.heap.size w w':=h w hL
set_option maxHeartbeats 1000000 in
theorem index_sym (s:ByteArray) (y:Int) (hy:(y != 0)=true) (w:World) :
  Calls Tryz.prog 160 #[.agg #[.string s,.int .i64 y]] w fun e w'=>e=two none∧Below w.heap.size w w':=by
 go_enter Tryz.func160,Tryz.ntmps160
 go_wp2_with (go_at_call 176;refine (sym_yes s y hy _).mono ?_;rintro e w1 ⟨rfl,hb⟩)
 go_ret2
 exact ⟨rfl,bnext (ball _ _) hb⟩
set_option maxHeartbeats 1000000 in
theorem index_none (s:ByteArray) (y:Int) (hr:ReadIs s y false) (w:World) (hL:Lw w) :
  Calls Tryz.prog 160 #[.agg #[.string s,.int .i64 0]] w fun e w'=>e=two none∧Below w.heap.size w w':=by
 have hL0:=hL.below (ball w (.cells #[.string s,.int .i64 0] 32))
 go_enter Tryz.func160,Tryz.ntmps160
 go_wp2_with (first |(go_at_call 176;refine (sym_no s _).mono ?_;rintro e w1 ⟨rfl,hb⟩;have hL1:=hL0.below hb;have hc:=new_cell hb 0) |(go_at_call 192;refine (hr.at hL1).mono ?_;rintro e w2 ⟨rfl,hb2⟩))
 go_ret2
 exact ⟨rfl,bnext (bnext (ball _ _) hb) hb2⟩
set_option maxHeartbeats 1000000 in
theorem index_neg (s:ByteArray) (n:Int) (hn:n < 0) (hr:ReadIs s n true) (w:World) (hL:Lw w) :
  Calls Tryz.prog 160 #[.agg #[.string s,.int .i64 0]] w fun e w'=>e=two (none)∧Below w.heap.size w w':=by
 have hL0:=hL.below (ball w (.cells #[.string s,.int .i64 0] 32))
 go_enter Tryz.func160,Tryz.ntmps160
 go_wp2_with (first |(go_at_call 176;refine (sym_no s _).mono ?_;rintro e w1 ⟨rfl,hb⟩;have hL1:=hL0.below hb;have hc:=new_cell hb 0) |(go_at_call 192;refine (hr.at hL1).mono ?_;rintro e w2 ⟨rfl,hb2⟩))
 go_ret2
 exact ⟨rfl,bnext (bnext (ball _ _) hb) hb2⟩
set_option maxHeartbeats 1000000 in
theorem index_big (s:ByteArray) (n:Int) (h0:0≤n) (hn:4294967294 < n) (hr:ReadIs s n true) (w:World) (hL:Lw w) :
  Calls Tryz.prog 160 #[.agg #[.string s,.int .i64 0]] w fun e w'=>e=two (none)∧Below w.heap.size w w':=by
 have hL0:=hL.below (ball w (.cells #[.string s,.int .i64 0] 32))
 go_enter Tryz.func160,Tryz.ntmps160
 go_wp2_with (first |(go_at_call 176;refine (sym_no s _).mono ?_;rintro e w1 ⟨rfl,hb⟩;have hL1:=hL0.below hb;have hc:=new_cell hb 0) |(go_at_call 192;refine (hr.at hL1).mono ?_;rintro e w2 ⟨rfl,hb2⟩))
 go_ret2
 exact ⟨rfl,bnext (bnext (ball _ _) hb) hb2⟩
set_option maxHeartbeats 1000000 in
theorem index_in (s:ByteArray) (n:Int) (h0:0≤n) (hn:n≤4294967294) (hr:ReadIs s n true) (w:World) (hL:Lw w) :
  Calls Tryz.prog 160 #[.agg #[.string s,.int .i64 0]] w fun e w'=>e=two (some n)∧Below w.heap.size w w':=by
 have hL0:=hL.below (ball w (.cells #[.string s,.int .i64 0] 32))
 go_enter Tryz.func160,Tryz.ntmps160
 go_wp2_with (first |(go_at_call 176;refine (sym_no s _).mono ?_;rintro e w1 ⟨rfl,hb⟩;have hL1:=hL0.below hb;have hc:=new_cell hb 0) |(go_at_call 192;refine (hr.at hL1).mono ?_;rintro e w2 ⟨rfl,hb2⟩))
 go_ret2
 exact ⟨rfl,bnext (bnext (ball _ _) hb) hb2⟩
theorem index_str (s:ByteArray) (hs:s.size≤281474976710656) (w:World) (hL:Lw w) :
  Calls Tryz.prog 160 #[.agg #[.string s,.int .i64 0]] w fun e w'=>e=two (idxF s.data.toList)∧Below w.heap.size w w':=by
 have h:∀ w,Lw w→Calls Tryz.prog 192 #[.string s] w fun e w'=>e=two (readF s.data.toList)∧Below w.heap.size w w':=fun w hL=>read_any s hs w hL
 cases hr:readF s.data.toList with
 | none=>rw [idxF_none hr];rw [hr] at h;exact index_none s 0 h w hL
 | some n =>
  rw [hr] at h
  have hi:ReadIs s n true:=h
  by_cases h0:n < 0
  ·rw [idxF_out hr (.inl h0)];exact index_neg s n h0 hi w hL
  ·by_cases h1:n≤4294967294
   ·rw [idxF_in hr (by omega) h1];exact index_in s n (by omega) h1 hi w hL
   ·rw [idxF_out hr (by omega)];exact index_big s n (by omega) (by omega) hi w hL
end Go.Proofs.YtkadkmnolkkhgaaGreatDoor.Keys

/-
 What holds at the head of a round of keys.Order, and what each way through a round does to it.
-/
namespace Go.Proofs.YtkadkmnolkkhgaaGreatDoor.Keys
open Go Go.RowKit Go.Maps Nums
theorem make_map {P:Program} {t k e:TypeId} (h:P.underlying t=some (.map k e)) (kk:IntKind) (n:Int) (w:World):(Instr.makeMap t (some (.int kk n))).run P w = .ok (.map (some w.heap.size)) (w.alloc (.map #[] 0)):=by
 simp [Instr.makeMap,run_underlying h,asInt,asIntOf,Result.andThen]
theorem grown_of_below {w w':World} (hb:Below w.heap.size w w'):w.grownBy w' none:=⟨hb.os,hb.tape,hb.output,hb.size,fun k hk _=>hb.block k hk⟩
section
variable {w w':World} {base:Nat} {e:TypeId} {size n:Nat} {v:Value} {xs:List Value}
theorem own_below (h:w.ownsRow base e size v n xs) (hb:Below w.heap.size w w'):w'.ownsRow base e size v n xs:=h.kept (grown_of_below hb) (by cases hv:v.ownBlock <;> simp)
theorem own_alloc2 (h:w.ownsRow base e size v n xs) (o o':Obj):((w.alloc o).alloc o').ownsRow base e size v n xs:=(h.alloc o).alloc o'
theorem own_apart {e2:TypeId} {size2 n2:Nat} {v2:Value} {xs2:List Value} (h:w.ownsRow base e size v n xs) (h2:w.ownsRow base e2 size2 v2 n2 xs2) (hne:e ≠ e2):v2.ownBlock=none∨v2.ownBlock ≠ v.ownBlock:=by
 rcases h2.2 with ⟨rfl,_⟩ |⟨g,cap,cur,rfl,_,hg,_⟩
 ·exact .inl rfl
 ·right
  rcases h.2 with ⟨rfl,_⟩ |⟨g',cap',cur',rfl,_,hg',_⟩
  ·simp [Value.ownBlock]
  ·simp only [Value.ownBlock,ne_eq,Option.some.injEq]
   rintro rfl
   rw [hg] at hg'
   simp at hg'
   exact hne hg'.2.symm
theorem own_low (h:w.ownsRow base e size v n xs) {b:Nat} (hb:b < base):some b ≠ v.ownBlock:=fun e1=>by
 have:=(h.lt b e1.symm).1
 omega
theorem own_far (h:w.ownsRow base e size v n xs):v.ownBlock ≠ some w.heap.size:=fun e1=>by
 have:=(h.lt _ e1).2
 omega
end
structure OrdInv (w0:World) (ks:List KV) (j:Nat) (v3 v4 v5:Value) (wr:World):Prop where
 map:wr.ownsMap Tryz.prog 32 unitElem w0.heap.size j (SetK (once (ks.take j)))
 r3:wr.ownsRow (w0.heap.size+1) 3 1 v3 (idxs (once (ks.take j))).length (ints (idxs (once (ks.take j))))
 r4:wr.ownsRow (w0.heap.size+1) 32 2 v4 (names (once (ks.take j))).length (cellsK (names (once (ks.take j))))
 r5:wr.ownsRow (w0.heap.size+1) 32 2 v5 (syms (once (ks.take j))).length (cellsK (syms (once (ks.take j))))
 apart:v4.ownBlock=none∨v4.ownBlock ≠ v5.ownBlock
 below:Below w0.heap.size w0 wr
 size:w0.heap.size+1≤wr.heap.size
theorem OrdInv.start (w0:World) (ks:List KV):OrdInv w0 ks 0 (.slice none 0 0) (.slice none 0 0) (.slice none 0 0) (w0.alloc (.map #[] 0)) where
 map:=by
  have:SetK (once (ks.take 0)) = .map []:=rfl
  rw [this]
  exact World.ownsMap_made _ _ _ _
 r3:=World.ownsRow_nil _ _ _ _
 r4:=World.ownsRow_nil _ _ _ _
 r5:=World.ownsRow_nil _ _ _ _
 apart:=.inl rfl
 below:=ball _ _
 size:=by simp
section
variable {w0 wr w1 w2 w3:World} {ks:List KV} {j:Nat} {v3 v4 v5 v':Value} {k:KV} {o o' o3:Obj}
theorem OrdInv.old (h:OrdInv w0 ks j v3 v4 v5 wr) (hk:ks[j]? = some k) (hm:memb k (once (ks.take j))=true):OrdInv w0 ks (j+1) v3 v4 v5 ((wr.alloc o).alloc o'):=by
 have e:=once_old hk hm
 obtain ⟨h1,h2,h3,h4,h5,h6,h7⟩:=h
 exact ⟨by rw [e];exact ((h1.alloc o).alloc o').mono (Nat.le_succ _),by rw [e];exact own_alloc2 h2 o o',by rw [e];exact own_alloc2 h3 o o',by rw [e];exact own_alloc2 h4 o o',h5,(h6.alloc h6.size o).alloc (by have:=h6.size;simp;omega) o',by simp;omega⟩
structure OrdMid (w0:World) (ks:List KV) (j:Nat) (v3 v4 v5:Value) (wr:World):Prop where
 map:wr.ownsMap Tryz.prog 32 unitElem w0.heap.size (j+1) (SetK (once (ks.take (j+1))))
 r3:wr.ownsRow (w0.heap.size+1) 3 1 v3 (idxs (once (ks.take j))).length (ints (idxs (once (ks.take j))))
 r4:wr.ownsRow (w0.heap.size+1) 32 2 v4 (names (once (ks.take j))).length (cellsK (names (once (ks.take j))))
 r5:wr.ownsRow (w0.heap.size+1) 32 2 v5 (syms (once (ks.take j))).length (cellsK (syms (once (ks.take j))))
 apart:v4.ownBlock=none∨v4.ownBlock ≠ v5.ownBlock
 below:Below w0.heap.size w0 wr
 size:w0.heap.size+1≤wr.heap.size
theorem OrdInv.mid (h:OrdInv w0 ks j v3 v4 v5 wr) (hk:ks[j]? = some k) (hm:memb k (once (ks.take j))=false)
  (hown:w1.ownsMap Tryz.prog 32 unitElem w0.heap.size (j+1) ((SetK (once (ks.take j))).put (klit k) (.agg []))) (hg:((wr.alloc o).alloc o').grownBy w1 (some w0.heap.size)):OrdMid w0 ks j v3 v4 v5 w1:=by
 have e:=once_new hk hm
 obtain ⟨h1,h2,h3,h4,h5,h6,h7⟩:=h
 have l3:=own_low h2 (b:=w0.heap.size) (Nat.lt_succ_self _)
 have l4:=own_low h3 (b:=w0.heap.size) (Nat.lt_succ_self _)
 have l5:=own_low h4 (b:=w0.heap.size) (Nat.lt_succ_self _)
 refine ⟨by rw [e,set_snoc];exact hown,(own_alloc2 h2 o o').kept hg (.inr l3.symm),(own_alloc2 h3 o o').kept hg (.inr l4.symm),(own_alloc2 h4 o o').kept hg (.inr l5.symm),h5,
  ((h6.alloc h6.size o).alloc (by have:=h6.size;simp;omega) o').grown hg (by have:=h6.size;simp;omega) (fun k hk=>by cases hk;exact Nat.le_refl _),by have:=hg.size;simp at this;omega⟩
theorem OrdMid.next (h:OrdMid w0 ks j v3 v4 v5 w1) (hb:Below w1.heap.size w1 w2):OrdMid w0 ks j v3 v4 v5 w2:=by
 obtain ⟨h1,h2,h3,h4,h5,h6,h7⟩:=h
 exact ⟨h1.kept (grown_of_below hb) (by simp),own_below h2 hb,own_below h3 hb,own_below h4 hb,h5,h6.trans (hb.mono (by omega)),Nat.le_trans h7 hb.size⟩
theorem box_cells {a b:Value} {t:TypeId} {m:Nat} (hg:((wr.alloc (.cells #[a,b] t)).alloc o').grownBy w1 (some m)) (hm:m < wr.heap.size) (hb:Below w1.heap.size w1 w2) :
  (w1.cell? ⟨wr.heap.size,0,none⟩=some a∧w1.cell? ⟨wr.heap.size,1,none⟩=some b)∧(w2.cell? ⟨wr.heap.size,0,none⟩=some a∧w2.cell? ⟨wr.heap.size,1,none⟩=some b):=by
 have hs:=hg.size
 simp at hs
 have e0:w1.cell? ⟨wr.heap.size,0,none⟩=some a:=by rw [World.cell?_of_block (hg.block wr.heap.size (by simp;omega) (by simp;omega))];simp
 have e1:w1.cell? ⟨wr.heap.size,1,none⟩=some b:=by rw [World.cell?_of_block (hg.block wr.heap.size (by simp;omega) (by simp;omega))];simp
 exact ⟨⟨e0,e1⟩,by rw [hb.cell (p:=⟨wr.heap.size,0,none⟩) (show wr.heap.size < _ by omega),e0],by rw [hb.cell (p:=⟨wr.heap.size,1,none⟩) (show wr.heap.size < _ by omega),e1]⟩
theorem OrdMid.idx {n:Int} (h:OrdMid w0 ks j v3 v4 v5 w2) (hk:ks[j]? = some k) (hm:memb k (once (ks.take j))=false) (hi:kidx k=some n)
  (hown:w3.ownsRow (w0.heap.size+1) 3 1 v' ((idxs (once (ks.take j))).length+1) (ints (idxs (once (ks.take j)))++[.int .i64 n])) (hg:(w2.alloc o3).grownBy w3 v3.ownBlock):OrdInv w0 ks (j+1) v' v4 v5 w3:=by
 have e:=once_new hk hm
 obtain ⟨s1,s2,s3⟩:=step_idx hi (once (ks.take j))
 obtain ⟨h1,h2,h3,h4,h5,h6,h7⟩:=h
 refine ⟨(h1.alloc o3).kept hg (own_low h2 (Nat.lt_succ_self _)),by rw [e,s1,List.length_append,ints,List.map_append];exact hown,by rw [e,s2];exact (h3.alloc o3).kept hg (own_apart h2 h3 (by decide)),by rw [e,s3];exact (h4.alloc o3).kept hg (own_apart h2 h4 (by decide)),h5,
  (h6.alloc h6.size o3).grown hg (by have:=h6.size;simp;omega) (fun k hk=>by have:=(h2.lt k hk).1;omega),by have:=hg.size;simp at this;omega⟩
theorem OrdMid.name (h:OrdMid w0 ks j v3 v4 v5 w2) (hk:ks[j]? = some k) (hm:memb k (once (ks.take j))=false) (h0:k.2=0) (hi:idxF k.1.data.toList=none)
  (hown:w3.ownsRow (w0.heap.size+1) 32 2 v' ((names (once (ks.take j))).length+1) (cellsK (names (once (ks.take j)))++[.string k.1,.int .i64 k.2])) (hg:(w2.alloc o3).grownBy w3 v4.ownBlock)
  (hat:v'.ownBlock=v4.ownBlock∨v'.ownBlock=some (w2.alloc o3).heap.size):OrdInv w0 ks (j+1) v3 v' v5 w3:=by
 have e:=once_new hk hm
 obtain ⟨s1,s2,s3⟩:=step_name h0 hi (once (ks.take j))
 obtain ⟨h1,h2,h3,h4,h5,h6,h7⟩:=h
 have h5':v5.ownBlock=none∨v5.ownBlock ≠ v4.ownBlock:=by
  rcases h5 with h5 |h5
  ·rw [h5];cases hv:v5.ownBlock <;> simp
  ·exact .inr (Ne.symm h5)
 refine ⟨(h1.alloc o3).kept hg (own_low h3 (Nat.lt_succ_self _)),by rw [e,s1];exact (h2.alloc o3).kept hg (own_apart h3 h2 (by decide)),by rw [e,s2,List.length_append,cellsK_append,cellsK_one];exact hown,by rw [e,s3];exact (h4.alloc o3).kept hg h5',?_,
  (h6.alloc h6.size o3).grown hg (by have:=h6.size;simp;omega) (fun k hk=>by have:=(h3.lt k hk).1;omega),by have:=hg.size;simp at this;omega⟩
 rcases hat with hat |hat
 ·rw [hat];exact h5
 ·rw [hat];exact .inr (own_far (h4.alloc o3)).symm
theorem OrdMid.sym (h:OrdMid w0 ks j v3 v4 v5 w2) (hk:ks[j]? = some k) (hm:memb k (once (ks.take j))=false) (h0:(k.2 != 0)=true) (hi:kidx k=none)
  (hown:w3.ownsRow (w0.heap.size+1) 32 2 v' ((syms (once (ks.take j))).length+1) (cellsK (syms (once (ks.take j)))++[.string k.1,.int .i64 k.2])) (hg:(w2.alloc o3).grownBy w3 v5.ownBlock)
  (hat:v'.ownBlock=v5.ownBlock∨v'.ownBlock=some (w2.alloc o3).heap.size):OrdInv w0 ks (j+1) v3 v4 v' w3:=by
 have e:=once_new hk hm
 obtain ⟨s1,s2,s3⟩:=step_sym h0 hi (once (ks.take j))
 obtain ⟨h1,h2,h3,h4,h5,h6,h7⟩:=h
 refine ⟨(h1.alloc o3).kept hg (own_low h4 (Nat.lt_succ_self _)),by rw [e,s1];exact (h2.alloc o3).kept hg (own_apart h4 h2 (by decide)),by rw [e,s2];exact (h3.alloc o3).kept hg h5,by rw [e,s3,List.length_append,cellsK_append,cellsK_one];exact hown,?_,
  (h6.alloc h6.size o3).grown hg (by have:=h6.size;simp;omega) (fun k hk=>by have:=(h4.lt k hk).1;omega),by have:=hg.size;simp at this;omega⟩
 rcases hat with hat |hat
 ·rw [hat];exact h5
 ·rw [hat];exact .inr (own_far (h3.alloc o3))
theorem two_new (w:World) (a b:Value) (t:TypeId):∀ j u,[a,b][j]? = some u→(w.alloc (.cells #[a,b] t)).cell? ((⟨w.heap.size,0,none⟩:Addr).add j)=some u:=by
 intro j u hj
 match j,hj with
 | 0,hj=>simp at hj;subst hj;simp [Addr.add]
 | 1,hj=>simp at hj;subst hj;simp [Addr.add]
theorem one_int (a:Int):∀ u ∈ [Value.int .i64 a],u.oneCell'=true:=by
 intro u hu
 simp at hu
 subst hu
 rfl
theorem two_cells (s:ByteArray) (a:Int):∀ u ∈ [Value.string s,Value.int .i64 a],u.oneCell'=true:=by
 intro u hu
 simp at hu
 rcases hu with rfl |rfl <;> rfl
theorem size_alloc_le {w:World} {B:Nat} (o:Obj) (h:B≤w.heap.size):B≤(w.alloc o).heap.size:=by simp;omega
end
theorem info3:(Tryz.prog.info? 3).map (fun i=>(i.zero,i.size,i.bytes))=some (some (.int .i64 0),1,8):=by kernel_rfl
theorem info26:(Tryz.prog.info? 32).map (fun i=>(i.zero,i.size,i.bytes))=some (some (.agg #[.string ⟨#[]⟩,.int .i64 0]),2,24):=by kernel_rfl
end Go.Proofs.YtkadkmnolkkhgaaGreatDoor.Keys

/-
 Contracts of library functions at this program: each is one application of a theorem of the library.
-/
namespace Go.Proofs
open Go.Shelf
def Tryz.lays189_ren:Go.Shelf.Ren:=⟨fun |189=>239 |125=>258 |257=>257 |128=>275 |129=>241 |294=>266 |295=>267 |296=>268 |297=>269 |298=>270 |299=>271 |216=>272 |300=>273 |301=>274 |328=>279 |329=>280 |330=>281 |331=>282 |332=>283 |215=>284 |343=>287 |n=>n,fun |28=>149 |3=>3 |46=>193 |0=>0 |51=>318 |53=>284 |4=>4 |183=>334 |182=>333 |131=>42 |5=>5 |9=>9 |218=>348 |222=>352 |228=>359 |229=>208 |n=>n,fun |n=>n⟩
theorem Tryz.lays189:Go.Proofs.Lays.n189 Tryz.prog Tryz.lays189_ren:={
 mixed:=by kernel_rfl
 f125:=Tryz.func258.trans (congrArg some (by kernel_rfl))
 f128:=Tryz.func275.trans (congrArg some (by kernel_rfl))
 f129:=Tryz.func241.trans (congrArg some (by kernel_rfl))
 f189:=Tryz.func239.trans (congrArg some (by kernel_rfl))
 f215:=Tryz.func284.trans (congrArg some (by kernel_rfl))
 f216:=Tryz.func272.trans (congrArg some (by kernel_rfl))
 f257:=Tryz.func257.trans (congrArg some (by kernel_rfl))
 f294:=Tryz.func266.trans (congrArg some (by kernel_rfl))
 f295:=Tryz.func267.trans (congrArg some (by kernel_rfl))
 f296:=Tryz.func268.trans (congrArg some (by kernel_rfl))
 f297:=Tryz.func269.trans (congrArg some (by kernel_rfl))
 f298:=Tryz.func270.trans (congrArg some (by kernel_rfl))
 f299:=Tryz.func271.trans (congrArg some (by kernel_rfl))
 f300:=Tryz.func273.trans (congrArg some (by kernel_rfl))
 f301:=Tryz.func274.trans (congrArg some (by kernel_rfl))
 f328:=Tryz.func279.trans (congrArg some (by kernel_rfl))
 f329:=Tryz.func280.trans (congrArg some (by kernel_rfl))
 f330:=Tryz.func281.trans (congrArg some (by kernel_rfl))
 f331:=Tryz.func282.trans (congrArg some (by kernel_rfl))
 f332:=Tryz.func283.trans (congrArg some (by kernel_rfl))
 f343:=Tryz.func287.trans (congrArg some (by kernel_rfl))
 t0:=Tryz.underlying0
 a0:=Tryz.isAgg0
 z0:=Tryz.sizeOf0
 v0:=Tryz.zeroValue0
 t3:=Tryz.underlying3
 a3:=Tryz.isAgg3
 z3:=Tryz.sizeOf3
 v3:=Tryz.zeroValue3
 t4:=Tryz.underlying4
 a4:=Tryz.isAgg4
 z4:=Tryz.sizeOf4
 v4:=Tryz.zeroValue4
 t5:=Tryz.underlying5
 a5:=Tryz.isAgg5
 z5:=Tryz.sizeOf5
 v5:=Tryz.zeroValue5
 t9:=Tryz.underlying9
 a9:=Tryz.isAgg9
 z9:=Tryz.sizeOf9
 v9:=Tryz.zeroValue9
 t28:=Tryz.underlying149
 a28:=Tryz.isAgg149
 z28:=Tryz.sizeOf149
 v28:=Tryz.zeroValue149
 t46:=Tryz.underlying193
 a46:=Tryz.isAgg193
 z46:=Tryz.sizeOf193
 v46:=Tryz.zeroValue193
 t51:=Tryz.underlying318
 a51:=Tryz.isAgg318
 z51:=Tryz.sizeOf318
 v51:=Tryz.zeroValue318
 t53:=Tryz.underlying284
 a53:=Tryz.isAgg284
 z53:=Tryz.sizeOf284
 v53:=Tryz.zeroValue284
 t131:=Tryz.underlying42
 a131:=Tryz.isAgg42
 z131:=Tryz.sizeOf42
 v131:=Tryz.zeroValue42
 t182:=Tryz.underlying333
 a182:=Tryz.isAgg333
 z182:=Tryz.sizeOf333
 v182:=Tryz.zeroValue333
 t183:=Tryz.underlying334
 a183:=Tryz.isAgg334
 z183:=Tryz.sizeOf334
 v183:=Tryz.zeroValue334
 t218:=Tryz.underlying348
 a218:=Tryz.isAgg348
 z218:=Tryz.sizeOf348
 v218:=Tryz.zeroValue348
 t222:=Tryz.underlying352
 a222:=Tryz.isAgg352
 z222:=Tryz.sizeOf352
 v222:=Tryz.zeroValue352
 t228:=Tryz.underlying359
 a228:=Tryz.isAgg359
 z228:=Tryz.sizeOf359
 v228:=Tryz.zeroValue359
 t229:=Tryz.underlying208
 a229:=Tryz.isAgg208
 z229:=Tryz.sizeOf208
 v229:=Tryz.zeroValue208 }
open Go.Sort Go.RowKit in
theorem Tryz.slices_Sort_int (blk off cap:Nat) (zs:List Int) (w:World) (hH:Holds (Value.int .i64) w blk off zs.toArray) (hblk:blk < w.heap.size) (hsz:zs.length < 4611686018427387904) :
  Calls Tryz.prog 239 #[.slice (some ⟨blk,off,none⟩) zs.length cap] w fun e w' =>
   e = .returned (.tuple #[])∧∃ n os,w'=grow (putRow (Value.int .i64) (Sort.ahead w n) blk off (zs.mergeSort fun x y=>decide (x≤y)).toArray) os:=Any.slices_Sort_int Tryz.lays189 blk off cap zs w hH hblk hsz
open Go.RowKit Go.Sort in
theorem Tryz.slices_Sort_int_none (p:Option Addr) (cap:Nat) (w:World) :
  Calls Tryz.prog 239 #[.slice p 0 cap] w fun e w'=>e = .returned (.tuple #[])∧w'=w:=Any.slices_Sort_int_none Tryz.lays189 p cap w
end Go.Proofs

/-
 The end of keys.Order: the sorted indexes, the list that is handed back, and appending a list of the call's own.
-/
namespace Go.Proofs.YtkadkmnolkkhgaaGreatDoor.Keys
open Go Go.RowKit Go.Maps Go.Sort Nums
def rise (l:List Int):List Int:=l.mergeSort fun x y=>decide (x≤y)
theorem rise_length (l:List Int):(rise l).length=l.length:=List.length_mergeSort l
theorem sort_own (base:Nat) (v:Value) (zs:List Int) (w:World) (hown:w.ownsRow base 3 1 v zs.length (ints zs)) (hz:zs.length≤1000000) :
  Calls Tryz.prog 239 #[v] w fun e w'=>e = .returned (.tuple #[])∧w'.ownsRow base 3 1 v zs.length (ints (rise zs))∧w.grownBy w' v.ownBlock:=by
 rcases hown.2 with ⟨rfl,h0⟩ |⟨g,cap,cur,rfl,hbase,hb,h1,h2,h3,h4⟩
 ·obtain rfl:zs=[]:=List.eq_nil_of_length_eq_zero h0
  refine (Tryz.slices_Sort_int_none none 0 w).mono fun e w' ⟨he,hw⟩=>?_
  subst hw
  have e0:ints (rise [])=[]:=by simp [rise,ints]
  rw [e0]
  exact ⟨he,World.ownsRow_nil _ _ _ _,World.grownBy.refl _ _⟩
 ·have hH:Holds (Value.int .i64) w g 0 zs.toArray:=holds_of_blockI hb (by have h5:=h4;rw [Nat.mul_one] at h5;exact h5)
  have hgl:g < w.heap.size:=(Array.getElem?_eq_some_iff.1 hb).1
  refine (Tryz.slices_Sort_int g 0 cap zs w hH hgl (by omega)).mono fun e w' ⟨he,n,os,hw⟩=>?_
  subst hw
  have hl:(rise zs).length=zs.length:=rise_length zs
  exact ⟨he,ownsRow_sortedI (n:=n) (os:=os) (ts:=rise zs) hl hbase hb h1 h2 h3,grownBy_sortedI _⟩
theorem wpList_append_src {P:Program} {w:World} {ops:Array Oper} {rest:List Oper} {o:Oper} {a:Act} {Q:Exit→Act→World→Prop} (hgd:o.guard=none) (s x:Operand) (t:TypeId)
  (ho:o.op = .call { callee:=.builtin .append,args:=#[s,x],argTypes:=#[t,t] })
  (base:Nat) (e:TypeId) (i:TypeInfo) (z:Value) (size bytes:Nat) (ht:P.underlying t=some (.slice e)) (hi:P.info? e=some i) (hz:i.zero=some z)
  (hsize:i.size=size) (hby:i.bytes=bytes) (hzs:z.cells.size=size) (hsz:0 < size)
  (v:Value) (n:Nat) (xs:List Value) (hs:a.eval s=v) (hown:w.ownsRow base e size v n xs)
  (base2:Nat) (v2:Value) (n2:Nat) (xs2:List Value) (hx:a.eval x=v2) (hown2:w.ownsRow base2 e size v2 n2 xs2) (h1:∀ u ∈ xs2,u.oneCell'=true)
  (h63:n+n2≤maxLen) (hbytes:(n+n2)*bytes≤140737488355328) (hbase:base≤w.heap.size)
  (h:∀ v' w',w'.ownsRow base e size v' (n+n2) (xs++xs2)→w.grownBy w' v.ownBlock→(v'.ownBlock=v.ownBlock∨v'.ownBlock=some w.heap.size)→wpList P ops Q rest (a.put o.dst v') w') :
  wpList P ops Q (o :: rest) a w:=by
 rcases hown2.2 with ⟨rfl,rfl⟩ |⟨g,cap,cur,rfl,_⟩
 ·have hn:xs2=[]:=List.eq_nil_of_length_eq_zero (by simpa using hown2.1)
  subst hn
  exact wpList_append_own_none hgd s x t ho base e i size ht hi v n xs hs hown hx (h v w (by simpa using hown) (World.grownBy.refl _ _) (.inl rfl))
 ·exact wpList_append_own_at w hgd s x t ho base e i z size bytes ht hi hz hsize hby hzs hsz v n xs hs hown ⟨g,0,none⟩ n2 cap xs2 hx hown2.1 (hown2.cells (g:=g) rfl) h1 h63 hbytes hbase
   (fun v' w' r1 r2 _ r4=>h v' w' r1 r2 r4)
theorem cellsK_one' (l:List KV):∀ u ∈ cellsK l,u.oneCell'=true:=by
 intro u hu
 unfold cellsK at hu
 obtain ⟨k,_,hk⟩:=List.mem_flatMap.1 hu
 simp at hk
 rcases hk with rfl |rfl <;> rfl
def numK (l:List Int):List KV:=l.map fun n=>(kb n,0)
theorem numK_length (l:List Int):(numK l).length=l.length:=by simp [numK]
theorem numK_snoc {l:List Int} {j:Nat} {n:Int} (h:l[j]? = some n):numK (l.take (j+1))=numK (l.take j)++[(kb n,0)]:=by
 rw [List.take_add_one,h]
 simp [numK]
theorem ordF_eq (l:List KV):ordF l=numK (rise (idxs (once l)))++names (once l)++syms (once l):=rfl
structure OutInv (w0:World) (S:List Int) (N Y:List KV) (j:Nat) (vo v3 v4 v5:Value) (wr:World):Prop where
 out:wr.ownsRow (w0.heap.size+1) 32 2 vo (numK (S.take j)).length (cellsK (numK (S.take j)))
 r3:wr.ownsRow (w0.heap.size+1) 3 1 v3 S.length (ints S)
 r4:wr.ownsRow (w0.heap.size+1) 32 2 v4 N.length (cellsK N)
 r5:wr.ownsRow (w0.heap.size+1) 32 2 v5 Y.length (cellsK Y)
 a4:v4.ownBlock=none∨v4.ownBlock ≠ vo.ownBlock
 a5:v5.ownBlock=none∨v5.ownBlock ≠ vo.ownBlock
 below:Below w0.heap.size w0 wr
 size:w0.heap.size+1≤wr.heap.size
section
variable {w0 wr w1 w2 w3:World} {ks:List KV} {j:Nat} {vo v3 v4 v5 v':Value} {S:List Int} {N Y:List KV} {o:Obj}
theorem OrdInv.sorted (h:OrdInv w0 ks j v3 v4 v5 wr) (hown:w1.ownsRow (w0.heap.size+1) 3 1 v3 (idxs (once (ks.take j))).length (ints (rise (idxs (once (ks.take j)))))) (hg:wr.grownBy w1 v3.ownBlock) :
  w1.ownsMap Tryz.prog 32 unitElem w0.heap.size j (SetK (once (ks.take j))) ∧
  w1.ownsRow (w0.heap.size+1) 32 2 v4 (names (once (ks.take j))).length (cellsK (names (once (ks.take j)))) ∧
  w1.ownsRow (w0.heap.size+1) 32 2 v5 (syms (once (ks.take j))).length (cellsK (syms (once (ks.take j))))∧Below w0.heap.size w0 w1∧w0.heap.size+1≤w1.heap.size:=by
 obtain ⟨h1,h2,h3,h4,h5,h6,h7⟩:=h
 exact ⟨h1.kept hg (own_low h2 (Nat.lt_succ_self _)),h3.kept hg (own_apart h2 h3 (by decide)),h4.kept hg (own_apart h2 h4 (by decide)),h6.grown hg (by omega) (fun k hk=>by have:=(h2.lt k hk).1;omega),Nat.le_trans h7 hg.size⟩
theorem OutInv.start {cap:Nat} (h3:w1.ownsRow (w0.heap.size+1) 3 1 v3 S.length (ints S)) (h4:w1.ownsRow (w0.heap.size+1) 32 2 v4 N.length (cellsK N)) (h5:w1.ownsRow (w0.heap.size+1) 32 2 v5 Y.length (cellsK Y))
  (hb:Below w0.heap.size w0 w1) (hs:w0.heap.size+1≤w1.heap.size) (hown:w2.ownsRow (w0.heap.size+1) 32 2 (.slice (some ⟨w1.heap.size,0,none⟩) 0 cap) 0 []) (hg:w1.grownBy w2 none) :
  OutInv w0 S N Y 0 (.slice (some ⟨w1.heap.size,0,none⟩) 0 cap) v3 v4 v5 w2:=by
 have f:∀ {v:Value},v.ownBlock=none∨v.ownBlock ≠ none:=fun {v}=>by cases v.ownBlock <;> simp
 exact ⟨hown,h3.kept hg f,h4.kept hg f,h5.kept hg f,.inr (own_far h4),.inr (own_far h5),hb.grown hg (by omega) (fun k hk=>by cases hk),Nat.le_trans hs hg.size⟩
theorem OutInv.next (h:OutInv w0 S N Y j vo v3 v4 v5 w1) (hb:Below w1.heap.size w1 w2):OutInv w0 S N Y j vo v3 v4 v5 w2:=by
 obtain ⟨h1,h2,h3,h4,h5,h6,h7,h8⟩:=h
 exact ⟨own_below h1 hb,own_below h2 hb,own_below h3 hb,own_below h4 hb,h5,h6,h7.trans (hb.mono (by omega)),Nat.le_trans h8 hb.size⟩
theorem OutInv.step {n:Int} {m:Nat} (h:OutInv w0 S N Y j vo v3 v4 v5 w2) (hn:S[j]? = some n) (hm:(numK (S.take j)).length=m)
  (hown:w3.ownsRow (w0.heap.size+1) 32 2 v' (m+1) (cellsK (numK (S.take j))++[.string (kb n),.int .i64 0])) (hg:(w2.alloc o).grownBy w3 vo.ownBlock)
  (hat:v'.ownBlock=vo.ownBlock∨v'.ownBlock=some (w2.alloc o).heap.size):OutInv w0 S N Y (j+1) v' v3 v4 v5 w3:=by
 subst hm
 obtain ⟨h1,h2,h3,h4,h5,h6,h7,h8⟩:=h
 have e:=numK_snoc hn
 refine ⟨by rw [e,List.length_append,cellsK_append,cellsK_one];exact hown,(h2.alloc o).kept hg (own_apart h1 h2 (by decide)),(h3.alloc o).kept hg h5,(h4.alloc o).kept hg h6,?_,?_,
  (h7.alloc h7.size o).grown hg (by have:=h7.size;simp;omega) (fun k hk=>by have:=(h1.lt k hk).1;omega),by have:=hg.size;simp at this;omega⟩
 ·rcases hat with hat |hat
  ·rw [hat];exact h5
  ·rw [hat];exact .inr (own_far (h3.alloc o))
 ·rcases hat with hat |hat
  ·rw [hat];exact h6
  ·rw [hat];exact .inr (own_far (h4.alloc o))
theorem own_shape {w:World} {base:Nat} {e:TypeId} {size n:Nat} {v:Value} {xs:List Value} (h:w.ownsRow base e size v n xs):∃ a c,v = .slice a n c:=by
 rcases h.2 with ⟨rfl,rfl⟩ |⟨g,cap,cur,rfl,_⟩
 ·exact ⟨none,0,rfl⟩
 ·exact ⟨_,cap,rfl⟩
theorem own_at {w:World} {base:Nat} {e:TypeId} {n:Nat} {ao:Option Addr} {cp k:Nat} {xs:List Value} {u:Value} (h:w.ownsRow base e 1 (.slice ao n cp) n xs) (hu:xs[k]? = some u) :
  ∃ g,ao=some ⟨g,0,none⟩∧w.cell? ⟨g,k,none⟩=some u:=by
 rcases h.2 with ⟨hv,hn⟩ |⟨g,cap,cur,hv,_⟩
 ·subst hn
  have:xs=[]:=List.eq_nil_of_length_eq_zero (by simpa using h.1)
  subst this
  simp at hu
 ·simp at hv
  refine ⟨g,hv.1,?_⟩
  have:=h.cells (g:=g) (by rw [hv.1];rfl) k u hu
  have e:(⟨g,0,none⟩:Addr).add k=⟨g,k,none⟩:=by unfold Addr.add;split <;> simp_all
  rw [e] at this
  exact this
end
end Go.Proofs.YtkadkmnolkkhgaaGreatDoor.Keys
