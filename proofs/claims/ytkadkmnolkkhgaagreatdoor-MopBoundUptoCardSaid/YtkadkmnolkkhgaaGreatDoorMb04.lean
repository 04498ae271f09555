/-
 Texts of this seat in build order: VaRight, DeMem, ArMem.
-/
import Derived.Test.YtkadkmnolkkhgaaGreatDoorMb02
import Derived.Test.YtkadkmnolkkhgaaGreatDoorMb03
import Derived.Laws.Tables
import Derived.Laws.Rows
import Derived.Laws.StructEq
import Derived.Laws.ResultCell
import Derived.Deep.MidRow
import Derived.Test.YtkadkmnolkkhgaaGreatDoorMb01
import Derived.Laws.Cells
import Derived.Laws.OwnMore
import Derived.Great.BuildSlice
import Derived.Maps.AppendAt
import Derived.OwnWalk
import Derived.KernelRfl
import Derived.WalkArith
/-
 values.Right and the reference's RightValue: what they give.
-/
set_option linter.unusedVariables false
set_option linter.unusedSimpArgs false
namespace Go.Proofs.YtkadkmnolkkhgaaGreatDoor.Vals
open Go.RowKit Nums Uni
def rtF (s:ByteArray):Bool:=(pts s).isSome && decide ((units s).length≤10000)
def rnF (k n:Int):Bool:=if k=0∨k=1 then n == 0 else if k=2 then (n == 0 || n == 1) else if k=3 then sf n else if k=5 then decide (1≤n) else if k=6 then decide (0≤n) else false
def rightF (k n:Int) (s:ByteArray):Bool:=if k=4 then (n == 0 && rtF s) else (s.toList.isEmpty && rnF k n)
theorem new_cell {w w1:World} {cs:Array Value} {t:TypeId} (hb:Below (w.alloc (.cells cs t)).heap.size (w.alloc (.cells cs t)) w1) (i:Nat):w1.cell? ⟨w.heap.size,i,none⟩=cs[i]?:=by
 rw [hb.cell (p:=⟨w.heap.size,i,none⟩) (by simp)]
 simp
theorem rv_0a (n:Int) (s:ByteArray) (w:World) (h:(n == 0)=true):Calls Tryz.prog 28 #[V 0 n s] w fun e w'=>e = .returned (.bool s.toList.isEmpty)∧Below w.heap.size w w':=by
 go_enter Tryz.func28,Tryz.ntmps28
 go_wp2
 go_ret
 exact ⟨rfl,ball _ _⟩
theorem rv_0b (n:Int) (s:ByteArray) (w:World) (h:(n == 0)=false):Calls Tryz.prog 28 #[V 0 n s] w fun e w'=>e = .returned (.bool false)∧Below w.heap.size w w':=by
 go_enter Tryz.func28,Tryz.ntmps28
 go_wp2
 go_ret
 exact ⟨rfl,ball _ _⟩
theorem rv_1a (n:Int) (s:ByteArray) (w:World) (h:(n == 0)=true):Calls Tryz.prog 28 #[V 1 n s] w fun e w'=>e = .returned (.bool s.toList.isEmpty)∧Below w.heap.size w w':=by
 go_enter Tryz.func28,Tryz.ntmps28
 go_wp2
 go_ret
 exact ⟨rfl,ball _ _⟩
theorem rv_1b (n:Int) (s:ByteArray) (w:World) (h:(n == 0)=false):Calls Tryz.prog 28 #[V 1 n s] w fun e w'=>e = .returned (.bool false)∧Below w.heap.size w w':=by
 go_enter Tryz.func28,Tryz.ntmps28
 go_wp2
 go_ret
 exact ⟨rfl,ball _ _⟩
theorem rv_2a (n:Int) (s:ByteArray) (w:World) (h:(n == 0)=true):Calls Tryz.prog 28 #[V 2 n s] w fun e w'=>e = .returned (.bool s.toList.isEmpty)∧Below w.heap.size w w':=by
 go_enter Tryz.func28,Tryz.ntmps28
 go_wp2
 go_ret
 exact ⟨rfl,ball _ _⟩
theorem rv_2b (n:Int) (s:ByteArray) (w:World) (h:(n == 0)=false) (h2:(n == 1)=true):Calls Tryz.prog 28 #[V 2 n s] w fun e w'=>e = .returned (.bool s.toList.isEmpty)∧Below w.heap.size w w':=by
 go_enter Tryz.func28,Tryz.ntmps28
 go_wp2
 go_ret
 exact ⟨rfl,ball _ _⟩
theorem rv_2c (n:Int) (s:ByteArray) (w:World) (h:(n == 0)=false) (h2:(n == 1)=false):Calls Tryz.prog 28 #[V 2 n s] w fun e w'=>e = .returned (.bool false)∧Below w.heap.size w w':=by
 go_enter Tryz.func28,Tryz.ntmps28
 go_wp2
 go_ret
 exact ⟨rfl,ball _ _⟩
theorem rv_3a (n:Int) (s:ByteArray) (w:World) (h:sf n=true):Calls Tryz.prog 28 #[V 3 n s] w fun e w'=>e = .returned (.bool s.toList.isEmpty)∧Below w.heap.size w w':=by
 go_enter Tryz.func28,Tryz.ntmps28
 go_wp2_with (go_at_call 62;refine (rsafe_any _ _).mono ?_;rintro e w' ⟨rfl,rfl⟩)
 go_ret
 exact ⟨rfl,ball _ _⟩
theorem rv_3b (n:Int) (s:ByteArray) (w:World) (h:sf n=false):Calls Tryz.prog 28 #[V 3 n s] w fun e w'=>e = .returned (.bool false)∧Below w.heap.size w w':=by
 go_enter Tryz.func28,Tryz.ntmps28
 go_wp2_with (go_at_call 62;refine (rsafe_any _ _).mono ?_;rintro e w' ⟨rfl,rfl⟩)
 go_ret
 exact ⟨rfl,ball _ _⟩
theorem rv_4b (n:Int) (s:ByteArray) (w:World) (h:(n == 0)=false):Calls Tryz.prog 28 #[V 4 n s] w fun e w'=>e = .returned (.bool false)∧Below w.heap.size w w':=by
 go_enter Tryz.func28,Tryz.ntmps28
 go_wp2
 go_ret
 exact ⟨rfl,ball _ _⟩
theorem rv_5a (n:Int) (s:ByteArray) (w:World) (h:1≤n):Calls Tryz.prog 28 #[V 5 n s] w fun e w'=>e = .returned (.bool s.toList.isEmpty)∧Below w.heap.size w w':=by
 go_enter Tryz.func28,Tryz.ntmps28
 go_wp2
 go_ret
 exact ⟨rfl,ball _ _⟩
theorem rv_5b (n:Int) (s:ByteArray) (w:World) (h:decide (1≤n)=false):Calls Tryz.prog 28 #[V 5 n s] w fun e w'=>e = .returned (.bool false)∧Below w.heap.size w w':=by
 go_enter Tryz.func28,Tryz.ntmps28
 go_wp2
 go_ret
 exact ⟨rfl,ball _ _⟩
theorem rv_6a (n:Int) (s:ByteArray) (w:World) (h:0≤n):Calls Tryz.prog 28 #[V 6 n s] w fun e w'=>e = .returned (.bool s.toList.isEmpty)∧Below w.heap.size w w':=by
 go_enter Tryz.func28,Tryz.ntmps28
 go_wp2
 go_ret
 exact ⟨rfl,ball _ _⟩
theorem rv_6b (n:Int) (s:ByteArray) (w:World) (h:decide (0≤n)=false):Calls Tryz.prog 28 #[V 6 n s] w fun e w'=>e = .returned (.bool false)∧Below w.heap.size w w':=by
 go_enter Tryz.func28,Tryz.ntmps28
 go_wp2
 go_ret
 exact ⟨rfl,ball _ _⟩
theorem rv_4n (n:Int) (s:ByteArray) (w:World) (h:(n == 0)=true) (hs:s.size≤2000000) (hp:pts s=none):Calls Tryz.prog 28 #[V 4 n s] w fun e w'=>e = .returned (.bool false)∧Below w.heap.size w w':=by
 have hr:∀ w,Calls Tryz.prog 35 #[.string s] w fun e w'=>e = .returned (.bool false)∧Below w.heap.size w w':=fun w=>by
  have:=rightText_any s w (by omega)
  rw [hp] at this
  exact this
 clear hp
 go_enter Tryz.func28,Tryz.ntmps28
 go_wp2_with (go_at_call 35;refine (hr _).mono ?_;rintro e w1 ⟨rfl,hb⟩)
 go_ret
 exact ⟨rfl,bnext (ball _ _) hb⟩
set_option maxHeartbeats 1000000 in
theorem rv_4s (n:Int) (s:ByteArray) (L:List Nat) (w:World) (h:(n == 0)=true) (hs:s.size≤2000000) (hp:pts s=some L):Calls Tryz.prog 28 #[V 4 n s] w fun e w'=>e = .returned (.bool (decide (((units s).length:Int)≤10000)))∧Below w.heap.size w w':=by
 have hr:∀ w,Calls Tryz.prog 35 #[.string s] w fun e w'=>e = .returned (.bool true)∧Below w.heap.size w w':=fun w=>by
  have:=rightText_any s w (by omega)
  rw [hp] at this
  exact this
 have hu:=fun w=>runits_any s w (by omega)
 obtain ⟨m,hm⟩:∃ m,(units s).length=m:=⟨_,rfl⟩
 rw [hm]
 clear hp
 go_enter Tryz.func28,Tryz.ntmps28
 go_wp2_with (first |(go_at_call 35;refine (hr _).mono ?_;rintro e w1 ⟨rfl,hb⟩;have hc:=new_cell hb 2) |(go_at_call 63;refine (hu _).mono ?_))
 rintro e w2 ⟨v,rfl,hown,hb2⟩
 rw [hm] at hown
 obtain ⟨ao,cp,rfl⟩:=own_shape hown
 have HM:=Lib.hid hm
 clear hown hm
 go_wp2
 go_ret
 exact ⟨rfl,bnext (bnext (ball _ _) hb) hb2⟩
theorem rv_k (k n:Int) (s:ByteArray) (hk:NoKind k) (w:World):Calls Tryz.prog 28 #[V k n s] w fun e w'=>e = .returned (.bool false)∧Below w.heap.size w w':=by
 obtain ⟨e0,e1,e2,e3,e4,e5,e6⟩:=hk
 go_enter Tryz.func28,Tryz.ntmps28
 go_wp2
 go_ret
 exact ⟨rfl,ball _ _⟩
theorem rv_any (k n:Int) (s:ByteArray) (w:World) (hs:s.size≤2000000):Calls Tryz.prog 28 #[V k n s] w fun e w'=>e = .returned (.bool (rightF k n s))∧Below w.heap.size w w':=by
 rcases kind_cases k with rfl |rfl |rfl |rfl |rfl |rfl |rfl |hk
 ·cases h:(n == 0) with
  | true =>
   have e:rightF 0 n s=s.toList.isEmpty:=by simp [rightF,rnF,h]
   rw [e];exact rv_0a n s w h
  | false =>
   have e:rightF 0 n s=false:=by simp [rightF,rnF,h]
   rw [e];exact rv_0b n s w h
 ·cases h:(n == 0) with
  | true =>
   have e:rightF 1 n s=s.toList.isEmpty:=by simp [rightF,rnF,h]
   rw [e];exact rv_1a n s w h
  | false =>
   have e:rightF 1 n s=false:=by simp [rightF,rnF,h]
   rw [e];exact rv_1b n s w h
 ·cases h:(n == 0) with
  | true =>
   have e:rightF 2 n s=s.toList.isEmpty:=by simp [rightF,rnF,h]
   rw [e];exact rv_2a n s w h
  | false =>
   cases h2:(n == 1) with
   | true =>
    have e:rightF 2 n s=s.toList.isEmpty:=by simp [rightF,rnF,h,h2]
    rw [e];exact rv_2b n s w h h2
   | false =>
    have e:rightF 2 n s=false:=by simp [rightF,rnF,h,h2]
    rw [e];exact rv_2c n s w h h2
 ·cases h:sf n with
  | true =>
   have e:rightF 3 n s=s.toList.isEmpty:=by simp [rightF,rnF,h]
   rw [e];exact rv_3a n s w h
  | false =>
   have e:rightF 3 n s=false:=by simp [rightF,rnF,h]
   rw [e];exact rv_3b n s w h
 ·cases h:(n == 0) with
  | false =>
   have e:rightF 4 n s=false:=by simp [rightF,h]
   rw [e];exact rv_4b n s w h
  | true =>
   cases hp:pts s with
   | none =>
    have e:rightF 4 n s=false:=by simp [rightF,rtF,hp]
    rw [e];exact rv_4n n s w h hs hp
   | some L =>
    have e:rightF 4 n s=decide (((units s).length:Int)≤10000):=by
     have:(((units s).length:Int)≤10000)↔(units s).length≤10000:=by omega
     simp [rightF,rtF,hp,h,this]
    rw [e];exact rv_4s n s L w h hs hp
 ·by_cases h:1≤n
  ·have e:rightF 5 n s=s.toList.isEmpty:=by simp [rightF,rnF,h]
   rw [e];exact rv_5a n s w h
  ·have e:rightF 5 n s=false:=by simp [rightF,rnF,h]
   rw [e];exact rv_5b n s w (decide_eq_false h)
 ·by_cases h:0≤n
  ·have e:rightF 6 n s=s.toList.isEmpty:=by simp [rightF,rnF,h]
   rw [e];exact rv_6a n s w h
  ·have e:rightF 6 n s=false:=by simp [rightF,rnF,h]
   rw [e];exact rv_6b n s w (decide_eq_false h)
 ·have h:=hk.ne
  have e:rightF k n s=false:=by simp [rightF,rnF,h]
  rw [e];exact rv_k k n s hk w
end Go.Proofs.YtkadkmnolkkhgaaGreatDoor.Vals

/-
 Descriptors: their shape, a whole one read out of and laid into memory, and '==' of two.
-/
namespace Go.Proofs.YtkadkmnolkkhgaaGreatDoor.Des
open Go.RowKit Vals
theorem two_bels (w:World) (a b:Obj):Below w.heap.size w ((w.alloc a).alloc b):=((Below.refl _ _).alloc (Nat.le_refl _) _).alloc (by simp) _
theorem three_bels (w:World) (a b c:Obj):Below w.heap.size w (((w.alloc a).alloc b).alloc c):=(((Below.refl _ _).alloc (Nat.le_refl _) _).alloc (by simp) _).alloc (by simp;omega) _
theorem below_dn {B:Nat} {a w:World} (h:Below B a w) (n:Nat):Below B a (w.drewN n):=h.trans ⟨rfl,rfl,rfl,Nat.le_refl _,fun _ _=>rfl⟩
theorem n2 (n:Nat):(n+1+1=n)=False:=by simp only [eq_iff_iff,iff_false];omega
theorem n3 (n:Nat):(n+1+1+1=n)=False:=by simp only [eq_iff_iff,iff_false];omega
theorem m2 (n:Nat):(n=n+1+1)=False:=by simp only [eq_iff_iff,iff_false];omega
theorem m3 (n:Nat):(n=n+1+1+1)=False:=by simp only [eq_iff_iff,iff_false];omega
theorem bel_keep {w0 w w':World} (hb:Below w.heap.size w w') (h:Below w0.heap.size w0 w):Below w0.heap.size w0 w':=h.trans (hb.mono h.size)
theorem bel_drew {B:Nat} {a w:World} (h:Below B a w):Below B a w.drew:=h.drew
structure Vl where
 k:Int
 n:Int
 s:ByteArray
structure Ds where
 hv:Bool
 hg:Bool
 hs:Bool
 hw:Bool
 he:Bool
 hc:Bool
 v:Vl
 g:Vl
 s:Vl
 w:Bool
 e:Bool
 c:Bool
def dcs (d:Ds):Array Value:=#[.bool d.hv,.bool d.hg,.bool d.hs,.bool d.hw,.bool d.he,.bool d.hc,.int .i64 d.v.k,.int .i64 d.v.n,.string d.v.s,.int .i64 d.g.k,.int .i64 d.g.n,.string d.g.s,.int .i64 d.s.k,.int .i64 d.s.n,.string d.s.s,.bool d.w,.bool d.e,.bool d.c]
abbrev DV (d:Ds):Value:=.agg (dcs d)
abbrev VV (v:Vl):Value:=.agg #[.int .i64 v.k,.int .i64 v.n,.string v.s]
def zeroV:Vl:=⟨0,0,⟨#[]⟩⟩
def zeroD:Ds:=⟨false,false,false,false,false,false,zeroV,zeroV,zeroV,false,false,false⟩
theorem dcs_0 (d:Ds):(dcs d)[0]? = some (.bool d.hv):=rfl
theorem dcs_1 (d:Ds):(dcs d)[1]? = some (.bool d.hg):=rfl
theorem dcs_2 (d:Ds):(dcs d)[2]? = some (.bool d.hs):=rfl
theorem dcs_3 (d:Ds):(dcs d)[3]? = some (.bool d.hw):=rfl
theorem dcs_4 (d:Ds):(dcs d)[4]? = some (.bool d.he):=rfl
theorem dcs_5 (d:Ds):(dcs d)[5]? = some (.bool d.hc):=rfl
theorem dcs_6 (d:Ds):(dcs d)[6]? = some (.int .i64 d.v.k):=rfl
theorem dcs_7 (d:Ds):(dcs d)[7]? = some (.int .i64 d.v.n):=rfl
theorem dcs_8 (d:Ds):(dcs d)[8]? = some (.string d.v.s):=rfl
theorem dcs_9 (d:Ds):(dcs d)[9]? = some (.int .i64 d.g.k):=rfl
theorem dcs_10 (d:Ds):(dcs d)[10]? = some (.int .i64 d.g.n):=rfl
theorem dcs_11 (d:Ds):(dcs d)[11]? = some (.string d.g.s):=rfl
theorem dcs_12 (d:Ds):(dcs d)[12]? = some (.int .i64 d.s.k):=rfl
theorem dcs_13 (d:Ds):(dcs d)[13]? = some (.int .i64 d.s.n):=rfl
theorem dcs_14 (d:Ds):(dcs d)[14]? = some (.string d.s.s):=rfl
theorem dcs_15 (d:Ds):(dcs d)[15]? = some (.bool d.w):=rfl
theorem dcs_16 (d:Ds):(dcs d)[16]? = some (.bool d.e):=rfl
theorem dcs_17 (d:Ds):(dcs d)[17]? = some (.bool d.c):=rfl
theorem dcs_size (d:Ds):(dcs d).size=18:=rfl
theorem dcs_one (d:Ds):(dcs d).all (·.oneCell')=true:=by simp [dcs,Value.oneCell']
theorem dcs_one18 (d:Ds):(dcs d).all (fun x=>x.oneCell') 0 18=true:=dcs_one d
theorem one_b (b:Bool):(Value.bool b).oneCell'=true:=rfl
theorem one_i (k:IntKind) (n:Int):(Value.int k n).oneCell'=true:=rfl
theorem one_s (s:ByteArray):(Value.string s).oneCell'=true:=rfl
def objRow:Obj→Option (Array Value)
 | .cells cs _ fz=>if cs.size=18∧fz=(0,0) then some cs else none
 | _=>none
def rowD (w:World) (g:Nat):Option (Array Value):=(w.heap[g]?).bind objRow
theorem objRow_some {o:Obj} {cs:Array Value} (h:objRow o=some cs):∃ t,o = .cells cs t (0,0)∧cs.size=18:=by
 unfold objRow at h
 split at h
 ·split at h
  ·rename_i h2
   obtain ⟨h2,rfl⟩:=h2
   simp at h
   subst h
   exact ⟨_,rfl,h2⟩
  ·cases h
 ·cases h
theorem objRow_cells (cs:Array Value) (t:TypeId) (h:cs.size=18):objRow (.cells cs t)=some cs:=by unfold objRow;simp [h]
theorem rowD_some {w:World} {g:Nat} {cs:Array Value} (h:rowD w g=some cs):∃ t,w.heap[g]? = some (.cells cs t (0,0))∧cs.size=18:=by
 unfold rowD at h
 cases hg:w.heap[g]? with
 | none=>rw [hg] at h;cases h
 | some o =>
  rw [hg] at h
  obtain ⟨t,rfl,hs⟩:=objRow_some h
  exact ⟨t,rfl,hs⟩
theorem rowD_is {w:World} {g:Nat} (h:(rowD w g).isSome=true):∃ cs t,rowD w g=some cs∧w.heap[g]? = some (.cells cs t (0,0))∧cs.size=18:=by
 obtain ⟨cs,hc⟩:=Option.isSome_iff_exists.1 h
 obtain ⟨t,ht,hs⟩:=rowD_some hc
 exact ⟨cs,t,hc,ht,hs⟩
theorem rowD_lt {w:World} {g:Nat} (h:(rowD w g).isSome=true):g < w.heap.size:=by
 obtain ⟨cs,t,hc,ht,hs⟩:=rowD_is h
 exact (Array.getElem?_eq_some_iff.1 ht).1
theorem rowD_drew (w:World) (g:Nat):rowD w.drew g=rowD w g:=(rfl)
theorem rowD_drewN (w:World) (n g:Nat):rowD (w.drewN n) g=rowD w g:=(rfl)
theorem rowD_new (w:World) (o:Obj) (g:Nat) (h:w.heap.size=g):rowD (w.alloc o) g=objRow o:=by
 subst h
 unfold rowD
 rw [heap_alloc_new]
 rfl
theorem rowD_alloc (w:World) (o:Obj) (g:Nat):rowD (w.alloc o) g=if w.heap.size=g then objRow o else rowD w g:=by
 split
 ·rename_i h
  exact rowD_new w o g h
 ·rename_i h
  unfold rowD World.alloc
  simp only [Array.getElem?_push]
  rw [if_neg (fun e=>h e.symm)]
theorem objRow_lit (a0 a1 a2 a3 a4 a5 a6 a7 a8 a9 a10 a11 a12 a13 a14 a15 a16 a17:Value) (t:TypeId):objRow (.cells #[a0,a1,a2,a3,a4,a5,a6,a7,a8,a9,a10,a11,a12,a13,a14,a15,a16,a17] t)=some #[a0,a1,a2,a3,a4,a5,a6,a7,a8,a9,a10,a11,a12,a13,a14,a15,a16,a17]:=rfl
theorem objRow_dcs (d:Ds) (t:TypeId):objRow (.cells (dcs d) t)=some (dcs d):=objRow_cells _ _ rfl
theorem rowD_keep {w w':World} {B g:Nat} {cs:Array Value} (hb:Below B w w') (hg:g < B) (h:rowD w g=some cs):rowD w' g=some cs:=by
 unfold rowD at *
 rw [hb.block g hg]
 exact h
theorem rowD_call {w w':World} {g:Nat} {cs:Array Value} (hb:Below w.heap.size w w') (h:rowD w g=some cs):rowD w' g=some cs :=
 rowD_keep hb (rowD_lt (by rw [h];rfl)) h
theorem is_call {w w':World} {g:Nat} (hb:Below w.heap.size w w') (h:(rowD w g).isSome=true):(rowD w' g).isSome=true:=by
 obtain ⟨cs,hc⟩:=Option.isSome_iff_exists.1 h
 rw [rowD_call hb hc]
 rfl
def putD (w:World) (g:Nat) (cs:Array Value):World:=w.setRow g cs
theorem putD_drew (w:World) (g:Nat) (cs:Array Value):putD w.drew g cs=(putD w g cs).drew:=(rfl)
theorem putD_drewN (w:World) (n g:Nat) (cs:Array Value):putD (w.drewN n) g cs=(putD w g cs).drewN n:=(rfl)
theorem putD_size (w:World) (g:Nat) (cs:Array Value):(putD w g cs).heap.size=w.heap.size:=by simp [putD,World.setRow]
def setObj (o:Obj) (cs:Array Value):Obj:=match o with |.cells _ t fz=>.cells cs t fz |o=>o
theorem setObj_cells (c cs:Array Value) (t:TypeId) (fz:Nat × Nat):setObj (.cells c t fz) cs = .cells cs t fz:=rfl
theorem putD_alloc (w:World) (o:Obj) (g:Nat) (cs:Array Value):putD (w.alloc o) g cs=if w.heap.size=g then w.alloc (setObj o cs) else (putD w g cs).alloc o:=by
 unfold putD World.setRow World.alloc
 split
 ·rename_i h
  subst h
  simp only
  congr 1
  apply Array.ext_getElem?
  intro i
  rw [Array.getElem?_modify]
  by_cases h:w.heap.size=i
  ·subst h
   simp only [if_true,Array.getElem?_push,Option.map_some]
   cases o <;> rfl
  ·have h':¬ i=w.heap.size:=fun e=>h e.symm
   simp [h,h',Array.getElem?_push]
 ·rename_i h
  simp only
  congr 1
  apply Array.ext_getElem?
  intro i
  simp only [Array.getElem?_modify,Array.getElem?_push,Array.size_modify]
  by_cases h1:g=i
  ·subst h1
   rw [if_pos rfl,if_neg (fun e=>h e.symm),if_neg (fun e=>h e.symm),if_pos rfl]
  ·rw [if_neg h1]
   split
   ·rfl
   ·rfl
theorem rowD_put (w:World) (g:Nat) (cs:Array Value) (h:(rowD w g).isSome=true) (hs:cs.size=18):rowD (putD w g cs) g=some cs:=by
 obtain ⟨c,t,hc,ht,hs2⟩:=rowD_is h
 unfold rowD putD World.setRow
 simp only [Array.getElem?_modify]
 rw [if_pos trivial,ht]
 simp [objRow,hs]
theorem rowD_other (w:World) (g g2:Nat) (cs:Array Value) (h:¬ g=g2):rowD (putD w g cs) g2=rowD w g2:=by
 unfold rowD putD World.setRow
 simp only [Array.getElem?_modify]
 rw [if_neg h]
theorem bel_put {B g:Nat} {w0 w:World} (hb:Below B w0 w) (hBg:B≤g) (cs:Array Value):Below B w0 (putD w g cs) :=
 hb.trans ⟨rfl,rfl,rfl,by simp [putD,World.setRow],fun k hk=>by
  unfold putD World.setRow
  simp only [Array.getElem?_modify]
  rw [if_neg (by omega)]⟩
theorem cell_rowD (w:World) (g i:Nat) (h:(rowD w g).isSome=true):w.cell? ⟨g,i,none⟩=((rowD w g).getD #[])[i]?:=by
 obtain ⟨cs,t,hc,ht,hs⟩:=rowD_is h
 rw [hc,cell_of_row w g i cs t (0,0) ht]
 rfl
def ldD (v:Value):Sem Value:=Instr.loadAt 34 v
theorem to_ldD (v:Value):Instr.loadAt 34 v=ldD v:=(rfl)
theorem info18:(Tryz.prog.info? 34).map (·.size)=some 18:=by kernel_rfl
theorem run_ldD (w:World) (g:Nat) (h:(rowD w g).isSome=true):(ldD (.pointer (some ⟨g,0,none⟩))).run Tryz.prog w = .ok (.agg ((rowD w g).getD #[])) w:=by
 obtain ⟨cs,t,hc,ht,hs⟩:=rowD_is h
 rw [hc]
 unfold ldD
 simp only [Instr.loadAt,Instr.sureAddr,Sem.run_bind,Sem.run_pure,Result.andThen_ok,run_loadVar_row w g t 34 cs (0,0) _ ht Tryz.underlying34 rfl (by rw [hs];exact info18),Option.getD_some]
theorem res_rowD {fn:Func} {p:Tmp} (h:fn.results=#[.cell p 34]) (tmps:Array Value) (w:World) (g:Nat) (cs:Array Value) (hp:tmps.getD p undef = .pointer (some ⟨g,0,none⟩)) (hr:rowD w g=some cs) :
  (results fn tmps).run Tryz.prog w = .ok (.agg cs) w:=by
 obtain ⟨t,ht,hs⟩:=rowD_some hr
 exact results_cell_row h tmps w g t cs (0,0) _ hp ht Tryz.underlying34 rfl (by rw [hs];exact info18)
theorem res2_rowD {fn:Func} {p u:Tmp} (h:fn.results=#[.cell p 34,.tmp u]) (tmps:Array Value) (w:World) (g:Nat) (cs:Array Value) (hp:tmps.getD p undef = .pointer (some ⟨g,0,none⟩)) (hr:rowD w g=some cs) :
  (results fn tmps).run Tryz.prog w = .ok (.tuple #[.agg cs,tmps.getD u undef]) w:=by
 obtain ⟨t,ht,hs⟩:=rowD_some hr
 have hv:=run_loadVar_row (P:=Tryz.prog) w g t 34 cs (0,0) _ ht Tryz.underlying34 rfl (by rw [hs];exact info18)
 rw [results_cell_tmp h,hp]
 simp [asAddr,hv,Result.andThen]
def okC (cells:Array Value):Bool:=decide (cells.size=18) && cells.all (·.oneCell')
theorem okC_dcs (d:Ds):okC (dcs d)=true:=by simp [okC,dcs_size,dcs_one18]
theorem okC_lit (a0 a1 a2 a3 a4 a5 a6 a7 a8 a9 a10 a11 a12 a13 a14 a15 a16 a17:Value):okC #[a0,a1,a2,a3,a4,a5,a6,a7,a8,a9,a10,a11,a12,a13,a14,a15,a16,a17]=(a0.oneCell' && a1.oneCell' && a2.oneCell' && a3.oneCell' && a4.oneCell' && a5.oneCell' && a6.oneCell' && a7.oneCell' && a8.oneCell' && a9.oneCell' && a10.oneCell' && a11.oneCell' && a12.oneCell' && a13.oneCell' && a14.oneCell' && a15.oneCell' && a16.oneCell' && a17.oneCell'):=by simp [okC,Bool.and_assoc]
def stD (p v:Value):Sem Unit:=Instr.storeAt 34 p v
theorem to_stD (p v:Value):Instr.storeAt 34 p v=stD p v:=(rfl)
theorem rowD_putc (w:World) (g:Nat) (cs:Array Value) (h:(rowD w g).isSome=true) (hs:okC cs=true):rowD (putD w g cs) g=some cs:=by
 simp only [okC,Bool.and_eq_true,decide_eq_true_eq] at hs
 exact rowD_put w g cs h hs.1
theorem run_stD (w:World) (g:Nat) (cells:Array Value) (h:(rowD w g).isSome=true) (h2:okC cells=true):(stD (.pointer (some ⟨g,0,none⟩)) (.agg cells)).run Tryz.prog w = .ok () (putD w g cells):=by
 obtain ⟨cs,t,hc,ht,hs⟩:=rowD_is h
 simp only [okC,Bool.and_eq_true,decide_eq_true_eq] at h2
 obtain ⟨hs2,h1⟩:=h2
 unfold stD
 simp only [Instr.storeAt,Instr.sureAddr,Sem.run_bind,Sem.run_pure,Result.andThen_ok,run_storeVar_row w g t 34 cs cells ht (by rw [hs2];exact info18) (hs.trans hs2.symm) h1]
 rfl
def eqV (a b:Vl):Bool:=a.k == b.k && (a.n == b.n && a.s.toList == b.s.toList)
def eqD (a b:Ds):Bool:=a.hv == b.hv && (a.hg == b.hg && (a.hs == b.hs && (a.hw == b.hw && (a.he == b.he && (a.hc == b.hc && (eqV a.v b.v && (eqV a.g b.g && (eqV a.s b.s && (a.w == b.w && (a.e == b.e && a.c == b.c))))))))))
theorem tl_inj {a b:ByteArray} (h:a.toList=b.toList):a=b:=by
 rw [ByteArray.toList_eq,ByteArray.toList_eq] at h
 exact ByteArray.ext (Array.toList_inj.1 h)
theorem eqV_iff {a b:Vl}:eqV a b=true↔a=b:=by
 obtain ⟨ak,an,az⟩:=a
 obtain ⟨bk,bn,bz⟩:=b
 simp only [eqV,Bool.and_eq_true,beq_iff_eq,Vl.mk.injEq]
 exact ⟨fun ⟨h1,h2,h3⟩=>⟨h1,h2,tl_inj h3⟩,fun ⟨h1,h2,h3⟩=>⟨h1,h2,by rw [h3]⟩⟩
theorem eqV_refl (a:Vl):eqV a a=true:=eqV_iff.2 rfl
theorem run_eqV (d:Nat) (k n k2 n2:Int) (s s2:ByteArray) (w:World):(Op.equalIn (d+2) 30 (.agg #[.int .i64 k,.int .i64 n,.string s]) (.agg #[.int .i64 k2,.int .i64 n2,.string s2])).run Tryz.prog w = .ok (eqV ⟨k,n,s⟩ ⟨k2,n2,s2⟩) w:=by
 unfold eqV
 by_cases h1:k=k2
 ·by_cases h2:n=n2
  ·by_cases h3:s.toList=s2.toList
   ·simp [go_sem,h1,h2,h3]
   ·simp [go_sem,h1,h2,h3]
  ·simp [go_sem,h1,h2]
 ·simp [go_sem,h1]
theorem run_eqV0 (k n k2 n2:Int) (s s2:ByteArray) (w:World):(Op.equalIn 10000 30 (.agg #[.int .i64 k,.int .i64 n,.string s]) (.agg #[.int .i64 k2,.int .i64 n2,.string s2])).run Tryz.prog w = .ok (eqV ⟨k,n,s⟩ ⟨k2,n2,s2⟩) w:=run_eqV 9998 k n k2 n2 s s2 w
theorem eqf_cons {P:Program} {w:World} {d:Nat} {xs ys:Array Value} {f:Field} {fs:List Field} {a b:Value} {r s:Bool} (hn:f.name ≠ "_") (ha:(part f.type xs f.offset).run P w = .ok a w) (hb:(part f.type ys f.offset).run P w = .ok b w)
  (h:(Op.equalIn d f.type a b).run P w = .ok r w) (ht:(Op.eqFields d xs ys fs).run P w = .ok s w):(Op.eqFields d xs ys (f :: fs)).run P w = .ok (r && s) w:=by
 simp only [Op.eqFields]
 rw [if_pos hn]
 simp only [Sem.run_bind,ha,hb,h,Result.andThen_ok,Sem.run_ite,Sem.run_pure,ht]
 cases r <;> simp
theorem eqf_nil {P:Program} {w:World} {d:Nat} {xs ys:Array Value}:(Op.eqFields d xs ys []).run P w = .ok true w:=by simp [Op.eqFields]
theorem run_eqD (a b:Ds) (w:World):(Op.equalIn 10000 34 (.agg (dcs a)) (.agg (dcs b))).run Tryz.prog w = .ok (eqD a b) w:=by
 rw [run_equalIn_struct w 9999 34 _ _ (by kernel_rfl) (by kernel_rfl)]
 simp only [Program.fieldsOf,Tryz.underlying34]
 have e:eqD a b=(a.hv == b.hv && (a.hg == b.hg && (a.hs == b.hs && (a.hw == b.hw && (a.he == b.he && (a.hc == b.hc && (eqV a.v b.v && (eqV a.g b.g && (eqV a.s b.s && (a.w == b.w && (a.e == b.e && (a.c == b.c && true)))))))))))):=by simp only [eqD,Bool.and_true]
 rw [e]
 refine eqf_cons (a:=.bool a.hv) (b:=.bool b.hv) (by decide) (by simp [go_sem,dcs]) (by simp [go_sem,dcs]) (run_equalIn_bool' w 9998 4 a.hv b.hv Tryz.underlying4) ?_
 refine eqf_cons (a:=.bool a.hg) (b:=.bool b.hg) (by decide) (by simp [go_sem,dcs]) (by simp [go_sem,dcs]) (run_equalIn_bool' w 9998 4 a.hg b.hg Tryz.underlying4) ?_
 refine eqf_cons (a:=.bool a.hs) (b:=.bool b.hs) (by decide) (by simp [go_sem,dcs]) (by simp [go_sem,dcs]) (run_equalIn_bool' w 9998 4 a.hs b.hs Tryz.underlying4) ?_
 refine eqf_cons (a:=.bool a.hw) (b:=.bool b.hw) (by decide) (by simp [go_sem,dcs]) (by simp [go_sem,dcs]) (run_equalIn_bool' w 9998 4 a.hw b.hw Tryz.underlying4) ?_
 refine eqf_cons (a:=.bool a.he) (b:=.bool b.he) (by decide) (by simp [go_sem,dcs]) (by simp [go_sem,dcs]) (run_equalIn_bool' w 9998 4 a.he b.he Tryz.underlying4) ?_
 refine eqf_cons (a:=.bool a.hc) (b:=.bool b.hc) (by decide) (by simp [go_sem,dcs]) (by simp [go_sem,dcs]) (run_equalIn_bool' w 9998 4 a.hc b.hc Tryz.underlying4) ?_
 refine eqf_cons (a:=VV a.v) (b:=VV b.v) (by decide) (by simp [go_sem,dcs]) (by simp [go_sem,dcs]) (run_eqV 9997 a.v.k a.v.n b.v.k b.v.n a.v.s b.v.s w) ?_
 refine eqf_cons (a:=VV a.g) (b:=VV b.g) (by decide) (by simp [go_sem,dcs]) (by simp [go_sem,dcs]) (run_eqV 9997 a.g.k a.g.n b.g.k b.g.n a.g.s b.g.s w) ?_
 refine eqf_cons (a:=VV a.s) (b:=VV b.s) (by decide) (by simp [go_sem,dcs]) (by simp [go_sem,dcs]) (run_eqV 9997 a.s.k a.s.n b.s.k b.s.n a.s.s b.s.s w) ?_
 refine eqf_cons (a:=.bool a.w) (b:=.bool b.w) (by decide) (by simp [go_sem,dcs]) (by simp [go_sem,dcs]) (run_equalIn_bool' w 9998 4 a.w b.w Tryz.underlying4) ?_
 refine eqf_cons (a:=.bool a.e) (b:=.bool b.e) (by decide) (by simp [go_sem,dcs]) (by simp [go_sem,dcs]) (run_equalIn_bool' w 9998 4 a.e b.e Tryz.underlying4) ?_
 refine eqf_cons (a:=.bool a.c) (b:=.bool b.c) (by decide) (by simp [go_sem,dcs]) (by simp [go_sem,dcs]) (run_equalIn_bool' w 9998 4 a.c b.c Tryz.underlying4) ?_
 exact eqf_nil
end Go.Proofs.YtkadkmnolkkhgaaGreatDoor.Des

/-
 Properties of objects (a key and a descriptor): their shape, a whole one read out of and laid into memory, '==' of one with itself, lists of them.
-/
namespace Go.Proofs.YtkadkmnolkkhgaaGreatDoor.Arrs
open Go Go.RowKit Go.Maps Nums Keys
open Des (Vl Ds dcs zeroV zeroD VV)
structure En where
 ks:ByteArray
 kn:Int
 d:Ds
def ecs (e:En):Array Value:=#[.string e.ks,.int .i64 e.kn,.bool e.d.hv,.bool e.d.hg,.bool e.d.hs,.bool e.d.hw,.bool e.d.he,.bool e.d.hc,.int .i64 e.d.v.k,.int .i64 e.d.v.n,.string e.d.v.s,.int .i64 e.d.g.k,.int .i64 e.d.g.n,.string e.d.g.s,.int .i64 e.d.s.k,.int .i64 e.d.s.n,.string e.d.s.s,.bool e.d.w,.bool e.d.e,.bool e.d.c]
def zer:Array Value:=#[.string ⟨#[]⟩,.int .i64 0,.bool false,.bool false,.bool false,.bool false,.bool false,.bool false,.int .i64 0,.int .i64 0,.string ⟨#[]⟩,.int .i64 0,.int .i64 0,.string ⟨#[]⟩,.int .i64 0,.int .i64 0,.string ⟨#[]⟩,.bool false,.bool false,.bool false]
theorem ecs_0 (e:En):(ecs e)[0]? = some (.string e.ks):=rfl
theorem ecs_1 (e:En):(ecs e)[1]? = some (.int .i64 e.kn):=rfl
theorem ecs_10 (e:En):(ecs e)[10]? = some (.string e.d.v.s):=rfl
theorem ecs_19 (e:En):(ecs e)[19]? = some (.bool e.d.c):=rfl
theorem ecs_size (e:En):(ecs e).size=20:=rfl
theorem zer_cells:(Value.agg zer).cells.size=20:=rfl
theorem ecs_one (e:En):(ecs e).all (·.oneCell')=true:=by simp [ecs,Value.oneCell']
theorem ecs_list (e:En):(ecs e).toList.length=20:=rfl
theorem ecs_one' (e:En):∀ u ∈ (ecs e).toList,u.oneCell'=true:=fun u hu=>by
 have h:=ecs_one e
 rw [Array.all_eq_true_iff_forall_mem] at h
 exact h u (by simpa using hu)
theorem infoE:(Tryz.prog.info? 36).map (fun i=>(i.zero,i.size,i.bytes))=some (some (.agg zer),20,136):=by kernel_rfl
theorem sizeE:(Tryz.prog.info? 36).map (·.size)=some 20:=by kernel_rfl
def enAt (w:World) (a:Addr) (e:En):Prop:=∀ j v,(ecs e).toList[j]? = some v→w.cell? (a.add j)=some v
def ldE (v:Value):Sem Value:=Instr.loadAt 36 v
theorem to_ldE (v:Value):Instr.loadAt 36 v=ldE v:=(rfl)
theorem run_ldE {w:World} {a:Addr} {e:En} (h:enAt w a e):(ldE (.pointer (some a))).run Tryz.prog w = .ok (.agg (ecs e)) w:=by
 have hl:=run_loadCells_list (P:=Tryz.prog) (w:=w) a (ecs e).toList h
 rw [ecs_list] at hl
 obtain ⟨i,hi,hz,hs,hb⟩:=info_parts infoE
 have hagg:(isAgg 36).run Tryz.prog w = .ok true w:=by
  unfold isAgg
  rw [Sem.run_bind,run_underlying Tryz.underlying36 w]
  rfl
 unfold ldE
 simp [Instr.loadAt,Instr.sureAddr,loadVar,Sem.run_bind,hagg,sizeOf,typeInfo,hi,hs,hl]
def alE:Sem Value:=Instr.alloc 36 true (.tuple #[])
theorem to_alE:Instr.alloc 36 true (.tuple #[])=alE:=(rfl)
theorem run_alE (w:World):alE.run Tryz.prog w = .ok (.pointer (some ⟨w.heap.size,0,none⟩)) (w.alloc (.cells zer 36)):=by
 obtain ⟨i,hi,hz,hs,hb⟩:=info_parts infoE
 unfold alE
 simp [Instr.alloc,zeroValue,typeInfo,hi,hz,newVar,newRow,go_sem]
def stE (p v:Value):Sem Unit:=Instr.storeAt 36 p v
theorem to_stE (p v:Value):Instr.storeAt 36 p v=stE p v:=(rfl)
theorem setRow_new (w:World) (c cs:Array Value) (t:TypeId):(w.alloc (.cells c t)).setRow w.heap.size cs=w.alloc (.cells cs t):=by
 unfold World.setRow World.alloc
 simp only
 congr 1
 apply Array.ext_getElem?
 intro i
 rw [Array.getElem?_modify]
 by_cases h:w.heap.size=i
 ·subst h
  simp
 ·have h':¬ i=w.heap.size:=fun e=>h e.symm
  simp [h,h',Array.getElem?_push]
theorem run_stE (w:World) (e:En):(stE (.pointer (some ⟨w.heap.size,0,none⟩)) (.agg (ecs e))).run Tryz.prog (w.alloc (.cells zer 36)) = .ok () (w.alloc (.cells (ecs e) 36)):=by
 have h:=run_storeVar_row (P:=Tryz.prog) (w.alloc (.cells zer 36)) w.heap.size 36 36 zer (ecs e) (heap_alloc_new w _) (by rw [ecs_size];exact sizeE) (by rw [ecs_size];rfl) (ecs_one e)
 unfold stE
 simp only [Instr.storeAt,Instr.sureAddr,Sem.run_bind,Sem.run_pure,Result.andThen_ok,h,setRow_new]
def bsE (ps:Array (Nat × Value)):Sem Value:=Instr.buildSlice 37 1 ps
theorem to_bsE (ps:Array (Nat × Value)):Instr.buildSlice 37 1 ps=bsE ps:=(rfl)
theorem run_bsE (w:World) (e:En):(bsE #[(0,.agg (ecs e))]).run Tryz.prog w = .ok (.slice (some ⟨w.heap.size,0,none⟩) 1 1) (w.alloc (.cells (ecs e) 36)):=by
 obtain ⟨i,hi,hz,hs,hb⟩:=info_parts infoE
 exact run_buildSlice w 37 36 1 _ (ecs e) i (.agg zer) Tryz.underlying37 hi hz (by rw [hs];decide) (by rw [hs];decide) (by rw [hs];have h:=Go.Great.fill_whole (s:=20) (by decide) [.agg (ecs e)] ((Array.range (1*20)).map ((Value.agg zer).cells[· % (Value.agg zer).cells.size]!)) (fun v hv=>by rw [List.mem_singleton.1 hv];rfl) (by simp);simpa [Value.cells] using h)
theorem enAt_new (w:World) (e:En) (t:TypeId):enAt (w.alloc (.cells (ecs e) t)) ⟨w.heap.size,0,none⟩ e:=fun j v hv=>by
 have ha:(⟨w.heap.size,0,none⟩:Addr).add j=⟨w.heap.size,j,none⟩:=by unfold Addr.add;split <;> simp_all
 rw [ha,cell_of_row (w.alloc (.cells (ecs e) t)) w.heap.size j (ecs e) t (0,0) (heap_alloc_new w _)]
 simpa using hv
theorem enAt_below {B:Nat} {w w':World} {a:Addr} {e:En} (h:enAt w a e) (hb:Below B w w') (ha:a.block < B):enAt w' a e:=fun j v hv=>by
 have hbl:(a.add j).block=a.block:=by unfold Addr.add;split <;> rfl
 rw [hb.cell (p:=a.add j) (by rw [hbl];exact ha)]
 exact h j v hv
theorem enAt_cell {w:World} {b o:Nat} {e:En} (h:enAt w ⟨b,o,none⟩ e) (j:Nat) (v:Value) (hv:(ecs e)[j]? = some v):w.cell? ⟨b,o+j,none⟩=some v:=by
 have ha:(⟨b,o,none⟩:Addr).add j=⟨b,o+j,none⟩:=by unfold Addr.add;split <;> simp_all
 rw [← ha]
 exact h j v (by simpa using hv)
def cellsE (l:List En):List Value:=l.flatMap fun e=>(ecs e).toList
theorem cellsE_append (a b:List En):cellsE (a++b)=cellsE a++cellsE b:=by simp [cellsE]
theorem cellsE_one (e:En):cellsE [e]=(ecs e).toList:=by simp [cellsE]
theorem cellsE_at (l:List En):∀ (j:Nat) (e:En),l[j]? = some e→∀ k v,(ecs e).toList[k]? = some v→(cellsE l)[j*20+k]? = some v:=by
 induction l with
 | nil=>intro j e h;simp at h
 | cons a r ih =>
  intro j e h k v hv
  have e1:cellsE (a :: r)=(ecs a).toList++cellsE r:=rfl
  have hk:k < 20:=by have:=(List.getElem?_eq_some_iff.1 hv).1;rw [ecs_list] at this;exact this
  cases j with
  | zero =>
   simp only [List.getElem?_cons_zero,Option.some.injEq] at h
   subst h
   rw [e1,List.getElem?_append_left (by rw [ecs_list];omega),Nat.zero_mul,Nat.zero_add]
   exact hv
  | succ j =>
   rw [e1,List.getElem?_append_right (by rw [ecs_list];omega),ecs_list,show (j+1)*20+k - 20=j*20+k by omega]
   exact ih j e (by simpa using h) k v hv
def EsAt (ao:Option Addr) (es:List En) (w:World):Prop:=∀ j e,es[j]? = some e→∃ b off,ao=some ⟨b,off,none⟩∧b < w.heap.size∧enAt w ⟨b,off+j*20,none⟩ e
theorem esAt_own {w:World} {base:Nat} {ao:Option Addr} {cp:Nat} {es:List En} (h:w.ownsRow base 36 20 (.slice ao es.length cp) es.length (cellsE es)):EsAt ao es w:=fun j e he=>by
 have hj:j < es.length:=(List.getElem?_eq_some_iff.1 he).1
 rcases h.2 with ⟨_,hn⟩ |⟨g,cap,cur,hv,hb,hg,_⟩
 ·omega
 ·simp only [Value.slice.injEq] at hv
  obtain ⟨rfl,-,rfl⟩:=hv
  refine ⟨g,0,rfl,(Array.getElem?_eq_some_iff.1 hg).1,fun k v hv=>?_⟩
  have hk:k < 20:=by have:=(List.getElem?_eq_some_iff.1 hv).1;rw [ecs_list] at this;exact this
  have ha:(⟨g,0+j*20,none⟩:Addr).add k=⟨g,j*20+k,none⟩:=by unfold Addr.add;split <;> simp_all
  rw [ha,h.cellAt _ (by omega)]
  exact cellsE_at es j e he k v hv
theorem EsAt.below {ao:Option Addr} {es:List En} {w w':World} (h:EsAt ao es w) (hb:Below w.heap.size w w'):EsAt ao es w':=fun j e he=>by
 obtain ⟨b,off,ha,hlt,hat⟩:=h j e he
 exact ⟨b,off,ha,Nat.lt_of_lt_of_le hlt hb.size,enAt_below hat hb hlt⟩
end Go.Proofs.YtkadkmnolkkhgaaGreatDoor.Arrs
