/-
 Texts of this seat in build order: NmNum, NmRnum, KyMath, KyOrd, NmSmall, KySmall, Shelf, Latoi, NmText.
-/
import Derived.Lib.ItoaNum
import Derived.Lib.AtoiAll
import Derived.Test.YtkadkmnolkkhgaaGreatDoorProg
import Derived.Maps.OwnSet
import Derived.DeepKeys4
import Derived.KernelRfl
import Derived.WalkArith
import Derived.WalkKit
import Derived.WalkSpells
import Derived.WalkLawsBesides
import Derived.RegionTactic
import Derived.ChangeAlike
import Derived.Deep.QuietTactic
import Derived.BigQuiet
import Derived.Lib.Hide
import Derived.Below
import Derived.Shelf.LaysM
import Derived.Shelf.Strconv.Itoa3
import Derived.Shelf.LaysC
import Derived.Shelf.Strconv.ErrVarAll
import Derived.Lib.AppendIntMem
/-
 Plain mathematics of decimal numerals: what digits spell, that a numeral spells its number, that reading a numeral gives the number back.
-/
set_option linter.unusedVariables false
namespace Go.Proofs.YtkadkmnolkkhgaaGreatDoor.Nums
open Go
def sf (n:Int):Bool:=decide (-9007199254740991≤n∧n≤9007199254740991)
theorem sf_true {n:Int} (h:sf n=true):-9007199254740991≤n∧n≤9007199254740991:=of_decide_eq_true h
theorem sf_mk {n:Int} (h0:-9007199254740991≤n) (h1:n≤9007199254740991):sf n=true:=decide_eq_true ⟨h0,h1⟩
theorem sf_no {n:Int} (h:n < -9007199254740991∨9007199254740991 < n):sf n=false:=decide_eq_false (by omega)
def valD (l:List UInt8):Nat:=l.foldl (fun a c=>a*10+(c.toNat - 48)) 0
theorem valD_snoc (l:List UInt8) (c:UInt8):valD (l++[c])=valD l*10+(c.toNat - 48):=by simp [valD]
theorem dig_nat (d:Nat) (h:d < 10):(UInt8.ofNat (48+d)).toNat=48+d:=by
 rw [UInt8.toNat_ofNat'];omega
theorem val_dec (u:Nat):valD (Lib.decDigits u)=u:=by
 induction u using Nat.strongRecOn with
 | ind u ih =>
  rw [Lib.decDigits]
  split
  ·simp only [valD,List.foldl_cons,List.foldl_nil,dig_nat u ‹_›];omega
  ·rw [valD_snoc,ih (u / 10) (by omega),dig_nat _ (by omega)];omega
theorem dec_digits (u:Nat):∀ c ∈ Lib.decDigits u,48≤c.toNat∧c.toNat≤57:=by
 induction u using Nat.strongRecOn with
 | ind u ih =>
  intro c hc
  rw [Lib.decDigits] at hc
  split at hc
  ·have:c=UInt8.ofNat (48+u):=by simpa using hc
   rw [this,dig_nat u ‹_›];omega
  ·rcases List.mem_append.1 hc with h |h
   ·exact ih (u / 10) (by omega) c h
   ·have:c=UInt8.ofNat (48+u % 10):=by simpa using h
    rw [this,dig_nat _ (by omega)];omega
theorem dec_ne (u:Nat):Lib.decDigits u ≠ []:=by
 rw [Lib.decDigits];split <;> simp
def val (l:List UInt8):Int :=
 match l with
 | []=>0
 | c :: r=>if c.toNat=45 then -(valD r:Int) else valD (c :: r)
theorem val_digits {l:List UInt8} (h:∀ c ∈ l,48≤c.toNat∧c.toNat≤57):val l=valD l:=by
 cases l with
 | nil=>rfl
 | cons c r =>
  have:=h c (by simp)
  simp only [val,if_neg (show ¬ c.toNat=45 by omega)]
theorem val_itoa (n:Int):val (Lib.itoa n)=n:=by
 unfold Lib.itoa
 split
 ·simp only [val]
  rw [if_pos (by decide),val_dec]
  omega
 ·rw [val_digits (dec_digits _),val_dec]
  omega
theorem fold_ge (l:List UInt8):∀ a,a≤l.foldl (fun a c=>a*10+(c.toNat - 48)) a:=by
 induction l with
 | nil=>intro a;exact Nat.le_refl _
 | cons c r ih=>intro a;have:=ih (a*10+(c.toNat - 48));simp only [List.foldl_cons];omega
theorem parse_digits (l:List UInt8):∀ a,(∀ c ∈ l,48≤c.toNat∧c.toNat≤57)→l.foldl (fun a c=>a*10+(c.toNat - 48)) a < 18446744073709551616 →
  Lib.parseUint10 a l = .ok (l.foldl (fun a c=>a*10+(c.toNat - 48)) a):=by
 induction l with
 | nil=>intro a _ _;rfl
 | cons c r ih =>
  intro a hd hlt
  simp only [List.foldl_cons] at hlt ⊢
  have g:=fold_ge r (a*10+(c.toNat - 48))
  simp only [Lib.parseUint10]
  rw [if_pos (hd c (by simp)),if_neg (by omega),if_neg (by omega)]
  exact ih _ (fun x hx=>hd x (by simp [hx])) hlt
theorem parse_dec (u:Nat) (h:u < 18446744073709551616):Lib.parseMag (Lib.decDigits u) = .ok u:=by
 unfold Lib.parseMag
 rw [if_neg (dec_ne u),parse_digits _ 0 (dec_digits u) (by have:=val_dec u;unfold valD at this;omega)]
 have:=val_dec u
 unfold valD at this
 rw [this]
theorem atoi_itoa (n:Int) (h0:-9223372036854775808≤n) (h1:n≤9223372036854775807):Lib.atoiAll (Lib.itoa n) = .ok n:=by
 by_cases hn:n < 0
 ·have e:Lib.itoa n=45 :: Lib.decDigits n.natAbs:=if_pos hn
  rw [e]
  simp only [Lib.atoiAll]
  rw [if_pos (by decide),parse_dec _ (by omega)]
  simp only
  rw [if_neg (by simp),if_neg (by omega),if_pos (by decide)]
  congr 1
  omega
 ·have e:Lib.itoa n=Lib.decDigits n.toNat:=if_neg hn
  rw [e]
  cases hd:Lib.decDigits n.toNat with
  | nil=>exact absurd hd (dec_ne _)
  | cons c r =>
   have hc:=dec_digits n.toNat c (by rw [hd];simp)
   simp only [Lib.atoiAll]
   rw [if_neg (by omega),← hd,parse_dec _ (by omega)]
   simp only
   rw [if_neg (by omega),if_neg (by omega),if_neg (by omega)]
   congr 1
   omega
def readF (l:List UInt8):Option Int:=if sf (val l)=true∧Lib.itoa (val l)=l then some (val l) else none
theorem readF_mk {n:Int} {l:List UInt8} (hs:sf n=true) (hl:Lib.itoa n=l):readF l=some n:=by
 have e:val l=n:=by rw [← hl,val_itoa]
 unfold readF
 rw [e,if_pos ⟨hs,hl⟩]
theorem readF_some {n:Int} {l:List UInt8} (h:readF l=some n):sf n=true∧Lib.itoa n=l:=by
 unfold readF at h
 split at h
 ·have:=Option.some.inj h;rw [← this];assumption
 ·cases h
theorem readF_no {l:List UInt8} (h:∀ n,sf n=true→Lib.itoa n=l→False):readF l=none:=by
 unfold readF
 rw [if_neg (fun hh=>h _ hh.1 hh.2)]
theorem readF_atoi {l:List UInt8} {v:Int} (h:Lib.atoiAll l = .ok v):readF l=if sf v=true∧Lib.itoa v=l then some v else none:=by
 split
 ·exact readF_mk (by simp_all) (by simp_all)
 ·refine readF_no fun n hn hl=>?_
  have:=atoi_itoa n (by have:=sf_true hn;omega) (by have:=sf_true hn;omega)
  rw [hl,h] at this
  injection this with this
  subst this
  rename_i hno
  exact absurd (And.intro hn hl) hno
theorem readF_atoi_no {l:List UInt8} (h:∀ v,Lib.atoiAll l ≠ .ok v):readF l=none :=
 readF_no fun n hn hl=>h n (by rw [← hl];exact atoi_itoa n (by have:=sf_true hn;omega) (by have:=sf_true hn;omega))
end Go.Proofs.YtkadkmnolkkhgaaGreatDoor.Nums

/-
 Plain mathematics of the reference's ReadNumber: bytes of a text, the number that a part of it spells, and why a text that it refuses is no number's.
-/
namespace Go.Proofs.YtkadkmnolkkhgaaGreatDoor.Nums
open Go
end Go.Proofs.YtkadkmnolkkhgaaGreatDoor.Nums

/-
 Plain mathematics of array indexes: which texts are indexes.
-/
namespace Go.Proofs.YtkadkmnolkkhgaaGreatDoor.Keys
open Go Nums
def idxF (l:List UInt8):Option Int :=
 match readF l with
 | some n=>if 0≤n∧n≤4294967294 then some n else none
 | none=>none
theorem idxF_none {l:List UInt8} (h:readF l=none):idxF l=none:=by simp [idxF,h]
theorem idxF_in {l:List UInt8} {n:Int} (h:readF l=some n) (h0:0≤n) (h1:n≤4294967294):idxF l=some n:=by simp [idxF,h,h0,h1]
theorem idxF_out {l:List UInt8} {n:Int} (h:readF l=some n) (h0:n < 0∨4294967294 < n):idxF l=none:=by
 simp only [idxF,h]
 exact if_neg (by omega)
theorem idxF_some {l:List UInt8} {n:Int} (h:idxF l=some n):0≤n∧n≤4294967294∧Lib.itoa n=l:=by
 unfold idxF at h
 split at h
 ·split at h
  ·have:=Option.some.inj h
   subst this
   rename_i hr hb
   exact ⟨hb.1,hb.2,(readF_some hr).2⟩
  ·cases h
 ·cases h
end Go.Proofs.YtkadkmnolkkhgaaGreatDoor.Keys

/-
 Plain mathematics of the order of keys: what stands where, and why each key stands once.
-/
namespace Go.Proofs.YtkadkmnolkkhgaaGreatDoor.Keys
open Go Go.RowKit Go.Maps Nums
set_option maxRecDepth 100000
abbrev KV:=ByteArray × Int
def kb (n:Int):ByteArray:=⟨(Lib.itoa n).toArray⟩
def cellsK (l:List KV):List Value:=l.flatMap fun k=>[.string k.1,.int .i64 k.2]
theorem cellsK_append (a b:List KV):cellsK (a++b)=cellsK a++cellsK b:=by simp [cellsK]
theorem cellsK_one (k:KV):cellsK [k]=[.string k.1,.int .i64 k.2]:=rfl
theorem cellsK_length (l:List KV):(cellsK l).length=l.length*2:=by
 induction l with
 | nil=>rfl
 | cons a r ih=>simp only [cellsK,List.flatMap_cons,List.length_append,List.length_cons,List.length_nil] at ih ⊢;omega
theorem cellsK_at (l:List KV):∀ (j:Nat) (k:KV),l[j]? = some k→(cellsK l)[2*j]? = some (.string k.1)∧(cellsK l)[2*j+1]? = some (.int .i64 k.2):=by
 induction l with
 | nil=>intro j k h;simp at h
 | cons a r ih =>
  intro j k h
  have e:cellsK (a :: r) = .string a.1 :: .int .i64 a.2 :: cellsK r:=rfl
  cases j with
  | zero=>simp at h;subst h;exact ⟨rfl,rfl⟩
  | succ j =>
   have:=ih j k (by simpa using h)
   rw [e,show 2*(j+1)=2*j+1+1 by omega]
   exact this
def kidx (k:KV):Option Int:=if k.2=0 then idxF k.1.data.toList else none
def isSym (k:KV):Bool:=k.2 != 0
def isName (k:KV):Bool:=k.2 == 0 && (idxF k.1.data.toList).isNone
instance:DecidableEq ByteArray:=fun a b=>if h:a.data=b.data then .isTrue (ByteArray.ext h) else .isFalse fun e=>h (by rw [e])
theorem snoc_ind {α:Type} {P:List α→Prop} (h0:P []) (h1:∀ l a,P l→P (l++[a])) (l:List α):P l:=by
 have h:∀ r:List α,P r.reverse:=fun r=>by
  induction r with
  | nil=>exact h0
  | cons a r ih=>rw [List.reverse_cons];exact h1 _ _ ih
 have:=h l.reverse
 rwa [List.reverse_reverse] at this
def memb (k:KV) (l:List KV):Bool:=l.any fun x=>decide (x=k)
theorem memb_iff (k:KV) (l:List KV):memb k l=true↔k ∈ l:=by simp [memb]
def once (l:List KV):List KV:=l.foldl (fun acc k=>if memb k acc=true then acc else acc++[k]) []
theorem once_snoc (l:List KV) (k:KV):once (l++[k])=if memb k (once l)=true then once l else once l++[k]:=by unfold once;rw [List.foldl_append];rfl
theorem once_mem (l:List KV):∀ k,k ∈ once l↔k ∈ l:=by
 refine snoc_ind (P:=fun l=>∀ k,k ∈ once l↔k ∈ l) ?_ ?_ l
 ·intro k;simp [once]
 ·intro l a ih k
  rw [once_snoc]
  split
  ·rename_i h
   rw [ih,List.mem_append]
   constructor
   ·exact Or.inl
   ·rintro (h' |h')
    ·exact h'
    ·rw [List.mem_singleton.1 h'];exact (ih a).1 ((memb_iff _ _).1 h)
  ·rw [List.mem_append,List.mem_append,ih]
theorem once_length (l:List KV):(once l).length≤l.length:=by
 refine snoc_ind (P:=fun l=>(once l).length≤l.length) (by simp [once]) ?_ l
 ·intro l a ih
  rw [once_snoc]
  split <;> simp <;> omega
theorem laidOut:laidOutB Tryz.prog=true:=by kernel_rfl
theorem row26:(32:TypeId) < Tryz.prog.types.size:=of_decide_eq_true (by kernel_rfl)
theorem wide26:(match Tryz.prog.underlying 32 with |some (.array _ _) |some (.struct _)=>true |_=>false)=true:=by rw [Tryz.underlying32]
theorem law26:Keyed Tryz.prog 32:=Keyed.of_law (deep_law_laid laidOut (m:=2) (by omega) row26 (by kernel_rfl) wide26)
theorem zero36 (w:World):(zeroValue 231).run Tryz.prog w = .ok (.agg #[]) w:=by kernel_rfl
theorem cells26:Tryz.prog.cellsOf 32=2:=by kernel_rfl
theorem cells9:Tryz.prog.cellsOf 9=1:=by kernel_rfl
theorem cells3:Tryz.prog.cellsOf 3=1:=by kernel_rfl
def klit (k:KV):Lit:=.string (keyBytes [.string k.1.data.toList,.int .i64 k.2])
theorem formed26 (a b:Value):(Value.agg #[a,b]).formed Tryz.prog 32=true:=by simp [Value.formed,Tryz.underlying32,cells26]
theorem keyType26:Tryz.prog.keyType 32=true:=by kernel_rfl
theorem key_lits (k:KV) (hs:k.1.size≤maxLen) (hw:(Lit.int .i64 k.2).wf=true) (d:Nat):Tryz.prog.keyLits (d+2) 32 [.string k.1,.int .i64 k.2]=some [.string k.1.data.toList,.int .i64 k.2]:=by
 simp [Program.keyLits,Tryz.underlying32,Tryz.underlying9,Tryz.underlying3,cells26,cells9,cells3,hs,hw]
theorem key_of (k:KV) (hs:k.1.size≤maxLen) (hw:(Lit.int .i64 k.2).wf=true):keyOf Tryz.prog 32 (.agg #[.string k.1,.int .i64 k.2])=some (klit k):=by
 unfold keyOf
 rw [Tryz.underlying32]
 simp only [keyType26,formed26,Bool.and_self,if_true]
 obtain ⟨d,hd⟩:∃ d,Tryz.prog.types.size+1=d+2:=⟨Tryz.prog.types.size - 1,by have h:32 < Tryz.prog.types.size:=row26;omega⟩
 rw [hd]
 have e:(Value.agg #[.string k.1,.int .i64 k.2]).cells.toList=[.string k.1,.int .i64 k.2]:=rfl
 rw [e,key_lits k hs hw]
 rfl
def Fine (k:KV):Prop:=k.1.size≤281474976710656∧-9223372036854775808≤k.2∧k.2≤9223372036854775807
theorem Fine.key {k:KV} (h:Fine k):keyOf Tryz.prog 32 (.agg #[.string k.1,.int .i64 k.2])=some (klit k):=by
 obtain ⟨h1,h2,h3⟩:=h
 exact key_of k (by unfold maxLen;omega) (WalkArith.wf_i64 (by omega))
theorem klit_inj {a b:KV} (ha:Fine a) (hb:Fine b) (h:klit a=klit b):a=b:=by
 have e:=law26.inj ha.key (h ▸ hb.key)
 simp at e
 exact Prod.ext e.1 e.2
def SetK (l:List KV):DataW Unit:=setOf (.agg []) (l.map klit)
theorem has_set {l:List KV} {k:KV} (hl:∀ x ∈ l,Fine x) (hk:Fine k):Maps.has (SetK l) (klit k)=memb k l:=by
 unfold SetK
 rw [has_setOf _ _ _ (fun y hy=>by obtain ⟨x,hx,rfl⟩:=List.mem_map.1 hy;exact law26.key (hl x hx).key),List.any_map]
 unfold memb
 rw [Bool.eq_iff_iff]
 simp only [List.any_eq_true,Function.comp_apply,decide_eq_true_eq]
 constructor
 ·rintro ⟨x,hx,h⟩
  exact ⟨x,hx,klit_inj (hl x hx) hk (WideAt.sameKey_eq h)⟩
 ·rintro ⟨x,hx,rfl⟩
  exact ⟨x,hx,WideAt.sameKey_self (law26.key hk.key)⟩
theorem set_snoc (l:List KV) (k:KV):SetK (l++[k])=(SetK l).put (klit k) (.agg []):=by
 unfold SetK
 rw [List.map_append,List.map_singleton,setOf_snoc]
def ints (l:List Int):List Value:=l.map (Value.int .i64)
def idxs (l:List KV):List Int:=l.filterMap kidx
def names (l:List KV):List KV:=l.filter isName
def syms (l:List KV):List KV:=l.filter isSym
def ordF (l:List KV):List KV:=((idxs (once l)).mergeSort (fun x y=>decide (x≤y))).map (fun n=>(kb n,0))++names (once l)++syms (once l)
theorem kidx_some {k:KV} {n:Int} (h:kidx k=some n):k.2=0∧idxF k.1.data.toList=some n:=by
 unfold kidx at h
 split at h
 ·exact ⟨by assumption,h⟩
 ·cases h
inductive Sort3 (k:KV):Prop
 | idx (n:Int) (h:kidx k=some n)
 | sym (h:(k.2 != 0)=true) (h0:kidx k=none)
 | name (h:k.2=0) (h0:idxF k.1.data.toList=none)
theorem sort3 (k:KV):Sort3 k:=by
 by_cases h:k.2=0
 ·cases hi:idxF k.1.data.toList with
  | none=>exact .name h hi
  | some n=>exact .idx n (by rw [kidx,if_pos h,hi])
 ·exact .sym (by simpa using h) (by rw [kidx,if_neg h])
theorem step_idx {k:KV} {n:Int} (h:kidx k=some n) (l:List KV):idxs (l++[k])=idxs l++[n]∧names (l++[k])=names l∧syms (l++[k])=syms l:=by
 obtain ⟨h1,h2⟩:=kidx_some h
 refine ⟨by simp [idxs,List.filterMap_append,h],?_,?_⟩
 ·simp [names,isName,h2]
 ·simp [syms,isSym,h1]
theorem step_sym {k:KV} (h:(k.2 != 0)=true) (h0:kidx k=none) (l:List KV):idxs (l++[k])=idxs l∧names (l++[k])=names l∧syms (l++[k])=syms l++[k]:=by
 have h':k.2 ≠ 0:=by simpa using h
 refine ⟨by simp [idxs,List.filterMap_append,h0],?_,?_⟩
 ·simp [names,isName,h']
 ·simp [syms,isSym,h']
theorem step_name {k:KV} (h:k.2=0) (h0:idxF k.1.data.toList=none) (l:List KV):idxs (l++[k])=idxs l∧names (l++[k])=names l++[k]∧syms (l++[k])=syms l:=by
 refine ⟨by simp [idxs,List.filterMap_append,kidx,h,h0],?_,?_⟩
 ·simp [names,isName,h,h0]
 ·simp [syms,isSym,h]
theorem take_snoc {l:List KV} {j:Nat} {k:KV} (h:l[j]? = some k):l.take (j+1)=l.take j++[k]:=by rw [List.take_add_one,h];rfl
theorem once_old {l:List KV} {j:Nat} {k:KV} (h:l[j]? = some k) (hm:memb k (once (l.take j))=true):once (l.take (j+1))=once (l.take j):=by rw [take_snoc h,once_snoc,if_pos hm]
theorem once_new {l:List KV} {j:Nat} {k:KV} (h:l[j]? = some k) (hm:memb k (once (l.take j))=false):once (l.take (j+1))=once (l.take j)++[k]:=by rw [take_snoc h,once_snoc,if_neg (by rw [hm];decide)]
theorem once_len {l:List KV} {j:Nat} (h:j≤l.length):(once (l.take j)).length≤j:=by
 have:=once_length (l.take j)
 rw [List.length_take] at this
 omega
theorem idxs_len (l:List KV):(idxs l).length≤l.length:=List.length_filterMap_le _ _
theorem names_len (l:List KV):(names l).length≤l.length:=List.length_filter_le _ _
theorem syms_len (l:List KV):(syms l).length≤l.length:=List.length_filter_le _ _
end Go.Proofs.YtkadkmnolkkhgaaGreatDoor.Keys

/-
 The small functions of package numbers and their counterparts: what each call gives.
-/
namespace Go.Proofs.YtkadkmnolkkhgaaGreatDoor.Nums
open Go.RowKit
def two (r:Option Int):Ending:=.returned (.tuple #[.int .i64 (r.getD 0),.bool r.isSome])
theorem safe_any (n:Int) (w:World) :
  Calls Tryz.prog 235 #[.int .i64 n] w fun e w'=>e = .returned (.bool (sf n))∧w=w':=by
 by_cases h:-9007199254740991≤n
 ·by_cases h2:n≤9007199254740991
  ·rw [sf_mk h h2]
   go_enter Tryz.func235,Tryz.ntmps235
   go_wp2
   go_ret
   exact ⟨rfl,rfl⟩
  ·rw [sf_no (by omega)]
   go_enter Tryz.func235,Tryz.ntmps235
   go_wp2
   go_ret
   exact ⟨rfl,rfl⟩
 ·rw [sf_no (by omega)]
  go_enter Tryz.func235,Tryz.ntmps235
  go_wp2
  go_ret
  exact ⟨rfl,rfl⟩
theorem rsafe_any (n:Int) (w:World) :
  Calls Tryz.prog 62 #[.int .i64 n] w fun e w'=>e = .returned (.bool (sf n))∧w=w':=by
 by_cases h:-9007199254740991≤n
 ·by_cases h2:n≤9007199254740991
  ·rw [sf_mk h h2]
   go_enter Tryz.func62,Tryz.ntmps62
   go_wp2
   go_ret
   exact ⟨rfl,rfl⟩
  ·rw [sf_no (by omega)]
   go_enter Tryz.func62,Tryz.ntmps62
   go_wp2
   go_ret
   exact ⟨rfl,rfl⟩
 ·rw [sf_no (by omega)]
  go_enter Tryz.func62,Tryz.ntmps62
  go_wp2
  go_ret
  exact ⟨rfl,rfl⟩
end Go.Proofs.YtkadkmnolkkhgaaGreatDoor.Nums

/-
 keys.isSymbol: what a call gives.
-/
namespace Go.Proofs.YtkadkmnolkkhgaaGreatDoor.Keys
open Go.RowKit Nums
theorem sym_yes (s:ByteArray) (y:Int) (hy:(y != 0)=true) (w:World) :
  Calls Tryz.prog 176 #[.agg #[.string s,.int .i64 y]] w fun e w'=>e = .returned (.bool true)∧Below w.heap.size w w':=by
 go_enter Tryz.func176,Tryz.ntmps176
 go_wp2
 go_ret
 exact ⟨rfl,(Below.refl _ _).alloc (Nat.le_refl _) _⟩
theorem sym_no (s:ByteArray) (w:World) :
  Calls Tryz.prog 176 #[.agg #[.string s,.int .i64 0]] w fun e w'=>e = .returned (.bool false)∧Below w.heap.size w w':=by
 go_enter Tryz.func176,Tryz.ntmps176
 go_wp2
 go_ret
 exact ⟨rfl,(Below.refl _ _).alloc (Nat.le_refl _) _⟩
end Go.Proofs.YtkadkmnolkkhgaaGreatDoor.Keys

/-
 Contracts of library functions at this program: each is one application of a theorem of the library.
-/
namespace Go.Proofs
open Go.Shelf
def Tryz.laysM171_ren:Go.Shelf.Ren:=⟨fun |171=>127 |243=>152 |246=>179 |283=>207 |284=>208 |285=>209 |286=>210 |129=>241 |317=>240 |318=>242 |319=>243 |320=>244 |337=>259 |338=>260 |n=>n,fun |3=>3 |9=>9 |2=>2 |4=>4 |171=>283 |0=>0 |53=>284 |37=>287 |5=>5 |173=>288 |212=>317 |51=>318 |20=>20 |213=>319 |46=>193 |232=>340 |233=>341 |n=>n,fun |17=>0 |18=>1 |19=>2 |n=>n⟩
theorem Tryz.laysM171:Go.Proofs.LaysM.n171 Tryz.prog Tryz.laysM171_ren:={
 mixed:=by kernel_rfl
 f129:=Tryz.func241.trans (congrArg some (by kernel_rfl))
 f171:=Tryz.func127.trans (congrArg some (by kernel_rfl))
 f243:=Tryz.func152.trans (congrArg some (by kernel_rfl))
 f246:=Tryz.func179.trans (congrArg some (by kernel_rfl))
 f283:=Tryz.func207.trans (congrArg some (by kernel_rfl))
 f284:=Tryz.func208.trans (congrArg some (by kernel_rfl))
 f285:=Tryz.func209.trans (congrArg some (by kernel_rfl))
 f286:=Tryz.func210.trans (congrArg some (by kernel_rfl))
 f317:=Tryz.func240.trans (congrArg some (by kernel_rfl))
 f318:=Tryz.func242.trans (congrArg some (by kernel_rfl))
 f319:=Tryz.func243.trans (congrArg some (by kernel_rfl))
 f320:=Tryz.func244.trans (congrArg some (by kernel_rfl))
 f337:=Tryz.func259.trans (congrArg some (by kernel_rfl))
 f338:=Tryz.func260.trans (congrArg some (by kernel_rfl))
 t0:=Tryz.underlying0
 a0:=Tryz.isAgg0
 z0:=Tryz.sizeOf0
 v0:=Tryz.zeroValue0
 t2:=Tryz.underlying2
 a2:=Tryz.isAgg2
 z2:=Tryz.sizeOf2
 v2:=Tryz.zeroValue2
 t3:=Tryz.underlying3
 a3:=Tryz.isAgg3
 z3:=Tryz.sizeOf3
 v3:=Tryz.zeroValue3
 t4:=Tryz.underlying4
 a4:=Tryz.isAgg4
 z4:=Tryz.sizeOf4
 v4:=Tryz.zeroValue4
 t5:=Tryz.underlying5
 a5:=Tryz.isAgg5
 z5:=Tryz.sizeOf5
 v5:=Tryz.zeroValue5
 t9:=Tryz.underlying9
 a9:=Tryz.isAgg9
 z9:=Tryz.sizeOf9
 v9:=Tryz.zeroValue9
 t20:=Tryz.underlying20
 a20:=Tryz.isAgg20
 z20:=Tryz.sizeOf20
 v20:=Tryz.zeroValue20
 t37:=Tryz.underlying287
 a37:=Tryz.isAgg287
 z37:=Tryz.sizeOf287
 v37:=Tryz.zeroValue287
 t46:=Tryz.underlying193
 a46:=Tryz.isAgg193
 z46:=Tryz.sizeOf193
 v46:=Tryz.zeroValue193
 t51:=Tryz.underlying318
 a51:=Tryz.isAgg318
 z51:=Tryz.sizeOf318
 v51:=Tryz.zeroValue318
 t53:=Tryz.underlying284
 a53:=Tryz.isAgg284
 z53:=Tryz.sizeOf284
 v53:=Tryz.zeroValue284
 t171:=Tryz.underlying283
 a171:=Tryz.isAgg283
 z171:=Tryz.sizeOf283
 v171:=Tryz.zeroValue283
 t173:=Tryz.underlying288
 a173:=Tryz.isAgg288
 z173:=Tryz.sizeOf288
 v173:=Tryz.zeroValue288
 t212:=Tryz.underlying317
 a212:=Tryz.isAgg317
 z212:=Tryz.sizeOf317
 v212:=Tryz.zeroValue317
 t213:=Tryz.underlying319
 a213:=Tryz.isAgg319
 z213:=Tryz.sizeOf319
 t232:=Tryz.underlying340
 a232:=Tryz.isAgg340
 z232:=Tryz.sizeOf340
 v232:=Tryz.zeroValue340
 t233:=Tryz.underlying341
 a233:=Tryz.isAgg341
 z233:=Tryz.sizeOf341
 v233:=Tryz.zeroValue341
 g17:=by kernel_rfl
 g18:=by kernel_rfl
 g19:=by kernel_rfl
 i0:=by kernel_rfl
 i2:=by kernel_rfl
 i3:=by kernel_rfl
 i4:=by kernel_rfl
 i5:=by kernel_rfl
 i9:=by kernel_rfl
 i20:=by kernel_rfl
 i37:=by kernel_rfl
 i46:=by kernel_rfl
 i51:=by kernel_rfl
 i53:=by kernel_rfl
 i171:=by kernel_rfl
 i173:=by kernel_rfl
 i212:=by kernel_rfl
 i232:=by kernel_rfl
 i233:=by kernel_rfl
 m17:=by kernel_rfl
 m18:=by kernel_rfl
 m19:=by kernel_rfl }
open Go.RowKit Go.Sort Go.Lib in
theorem Tryz.strconv_Itoa (n:Int) (h0:-9223372036854775808≤n) (h1:n≤9223372036854775807) (w:World) (htab:Lib.TabIs Tryz.prog w "internal/strconv.uint64pow10" .u64 Lib.pow10Tab) :
  Calls Tryz.prog 127 #[.int .i64 n] w fun e w'=>e = .returned (.string ⟨(Lib.itoa n).toArray⟩)∧∃ k os,w'=grow (w.drewN k) os:=Any.strconv_Itoa Tryz.laysM171 n h0 h1 w htab
end Go.Proofs

/-
 Contracts of library functions at this program: each is one application of a theorem of the library.
-/
namespace Go.Proofs
open Go.Shelf
def Tryz.laysC172_ren:Go.Shelf.Ren:=⟨fun |172=>234 |244=>255 |245=>256 |247=>261 |279=>262 |280=>263 |281=>264 |282=>265 |287=>276 |316=>277 |171=>127 |205=>278 |321=>285 |322=>286 |243=>152 |246=>179 |283=>207 |284=>208 |285=>209 |286=>210 |129=>241 |317=>240 |318=>242 |319=>243 |320=>244 |337=>259 |338=>260 |n=>n,fun |9=>9 |3=>3 |75=>305 |76=>306 |4=>4 |5=>5 |167=>326 |37=>287 |0=>0 |85=>327 |2=>2 |168=>329 |53=>284 |175=>342 |46=>193 |210=>346 |127=>355 |145=>358 |143=>356 |21=>21 |171=>283 |173=>288 |212=>317 |51=>318 |20=>20 |213=>319 |232=>340 |233=>341 |80=>258 |n=>n,fun |15=>3 |16=>4 |17=>0 |18=>1 |19=>2 |n=>n⟩
theorem Tryz.laysC172:Go.Proofs.LaysC.n172 Tryz.prog Tryz.laysC172_ren:={
 mixed:=by kernel_rfl
 f129:=Tryz.func241.trans (congrArg some (by kernel_rfl))
 f171:=Tryz.func127.trans (congrArg some (by kernel_rfl))
 f172:=Tryz.func234.trans (congrArg some (by kernel_rfl))
 f205:=Tryz.func278.trans (congrArg some (by kernel_rfl))
 f243:=Tryz.func152.trans (congrArg some (by kernel_rfl))
 f244:=Tryz.func255.trans (congrArg some (by kernel_rfl))
 f245:=Tryz.func256.trans (congrArg some (by kernel_rfl))
 f246:=Tryz.func179.trans (congrArg some (by kernel_rfl))
 f247:=Tryz.func261.trans (congrArg some (by kernel_rfl))
 f279:=Tryz.func262.trans (congrArg some (by kernel_rfl))
 f280:=Tryz.func263.trans (congrArg some (by kernel_rfl))
 f281:=Tryz.func264.trans (congrArg some (by kernel_rfl))
 f282:=Tryz.func265.trans (congrArg some (by kernel_rfl))
 f283:=Tryz.func207.trans (congrArg some (by kernel_rfl))
 f284:=Tryz.func208.trans (congrArg some (by kernel_rfl))
 f285:=Tryz.func209.trans (congrArg some (by kernel_rfl))
 f286:=Tryz.func210.trans (congrArg some (by kernel_rfl))
 f287:=Tryz.func276.trans (congrArg some (by kernel_rfl))
 f316:=Tryz.func277.trans (congrArg some (by kernel_rfl))
 f317:=Tryz.func240.trans (congrArg some (by kernel_rfl))
 f318:=Tryz.func242.trans (congrArg some (by kernel_rfl))
 f319:=Tryz.func243.trans (congrArg some (by kernel_rfl))
 f320:=Tryz.func244.trans (congrArg some (by kernel_rfl))
 f321:=Tryz.func285.trans (congrArg some (by kernel_rfl))
 f322:=Tryz.func286.trans (congrArg some (by kernel_rfl))
 f337:=Tryz.func259.trans (congrArg some (by kernel_rfl))
 f338:=Tryz.func260.trans (congrArg some (by kernel_rfl))
 t0:=Tryz.underlying0
 a0:=Tryz.isAgg0
 z0:=Tryz.sizeOf0
 v0:=Tryz.zeroValue0
 t2:=Tryz.underlying2
 a2:=Tryz.isAgg2
 z2:=Tryz.sizeOf2
 v2:=Tryz.zeroValue2
 t3:=Tryz.underlying3
 a3:=Tryz.isAgg3
 z3:=Tryz.sizeOf3
 v3:=Tryz.zeroValue3
 t4:=Tryz.underlying4
 a4:=Tryz.isAgg4
 z4:=Tryz.sizeOf4
 v4:=Tryz.zeroValue4
 t5:=Tryz.underlying5
 a5:=Tryz.isAgg5
 z5:=Tryz.sizeOf5
 v5:=Tryz.zeroValue5
 t9:=Tryz.underlying9
 a9:=Tryz.isAgg9
 z9:=Tryz.sizeOf9
 v9:=Tryz.zeroValue9
 t20:=Tryz.underlying20
 a20:=Tryz.isAgg20
 z20:=Tryz.sizeOf20
 v20:=Tryz.zeroValue20
 t21:=Tryz.underlying21
 a21:=Tryz.isAgg21
 z21:=Tryz.sizeOf21
 v21:=Tryz.zeroValue21
 t37:=Tryz.underlying287
 a37:=Tryz.isAgg287
 z37:=Tryz.sizeOf287
 v37:=Tryz.zeroValue287
 t46:=Tryz.underlying193
 a46:=Tryz.isAgg193
 z46:=Tryz.sizeOf193
 v46:=Tryz.zeroValue193
 t51:=Tryz.underlying318
 a51:=Tryz.isAgg318
 z51:=Tryz.sizeOf318
 v51:=Tryz.zeroValue318
 t53:=Tryz.underlying284
 a53:=Tryz.isAgg284
 z53:=Tryz.sizeOf284
 v53:=Tryz.zeroValue284
 t75:=Tryz.underlying305
 a75:=Tryz.isAgg305
 z75:=Tryz.sizeOf305
 v75:=Tryz.zeroValue305
 t76:=Tryz.underlying306
 a76:=Tryz.isAgg306
 z76:=Tryz.sizeOf306
 v76:=Tryz.zeroValue306
 t85:=Tryz.underlying327
 a85:=Tryz.isAgg327
 z85:=Tryz.sizeOf327
 v85:=Tryz.zeroValue327
 t127:=Tryz.underlying355
 a127:=Tryz.isAgg355
 z127:=Tryz.sizeOf355
 v127:=Tryz.zeroValue355
 t143:=Tryz.underlying356
 a143:=Tryz.isAgg356
 z143:=Tryz.sizeOf356
 v143:=Tryz.zeroValue356
 t145:=Tryz.underlying358
 a145:=Tryz.isAgg358
 z145:=Tryz.sizeOf358
 v145:=Tryz.zeroValue358
 t167:=Tryz.underlying326
 a167:=Tryz.isAgg326
 z167:=Tryz.sizeOf326
 v167:=Tryz.zeroValue326
 t168:=Tryz.underlying329
 a168:=Tryz.isAgg329
 z168:=Tryz.sizeOf329
 v168:=Tryz.zeroValue329
 t171:=Tryz.underlying283
 a171:=Tryz.isAgg283
 z171:=Tryz.sizeOf283
 v171:=Tryz.zeroValue283
 t173:=Tryz.underlying288
 a173:=Tryz.isAgg288
 z173:=Tryz.sizeOf288
 v173:=Tryz.zeroValue288
 t175:=Tryz.underlying342
 a175:=Tryz.isAgg342
 z175:=Tryz.sizeOf342
 v175:=Tryz.zeroValue342
 t210:=Tryz.underlying346
 a210:=Tryz.isAgg346
 z210:=Tryz.sizeOf346
 v210:=Tryz.zeroValue346
 t212:=Tryz.underlying317
 a212:=Tryz.isAgg317
 z212:=Tryz.sizeOf317
 v212:=Tryz.zeroValue317
 t213:=Tryz.underlying319
 a213:=Tryz.isAgg319
 z213:=Tryz.sizeOf319
 t232:=Tryz.underlying340
 a232:=Tryz.isAgg340
 z232:=Tryz.sizeOf340
 v232:=Tryz.zeroValue340
 t233:=Tryz.underlying341
 a233:=Tryz.isAgg341
 z233:=Tryz.sizeOf341
 v233:=Tryz.zeroValue341
 g15:=by kernel_rfl
 g16:=by kernel_rfl
 g17:=by kernel_rfl
 g18:=by kernel_rfl
 g19:=by kernel_rfl
 t80:=Tryz.underlying258
 a80:=Tryz.isAgg258
 z80:=Tryz.sizeOf258
 v80:=Tryz.zeroValue258
 i0:=by kernel_rfl
 i2:=by kernel_rfl
 i3:=by kernel_rfl
 i4:=by kernel_rfl
 i5:=by kernel_rfl
 i9:=by kernel_rfl
 i20:=by kernel_rfl
 i21:=by kernel_rfl
 i37:=by kernel_rfl
 i46:=by kernel_rfl
 i51:=by kernel_rfl
 i53:=by kernel_rfl
 i75:=by kernel_rfl
 i76:=by kernel_rfl
 i80:=by kernel_rfl
 i85:=by kernel_rfl
 i127:=by kernel_rfl
 i143:=by kernel_rfl
 i145:=by kernel_rfl
 i167:=by kernel_rfl
 i168:=by kernel_rfl
 i171:=by kernel_rfl
 i173:=by kernel_rfl
 i175:=by kernel_rfl
 i210:=by kernel_rfl
 i212:=by kernel_rfl
 i232:=by kernel_rfl
 i233:=by kernel_rfl
 m15:=by kernel_rfl
 m16:=by kernel_rfl
 m17:=by kernel_rfl
 m18:=by kernel_rfl
 m19:=by kernel_rfl
 c0:=by kernel_rfl
 c2:=by kernel_rfl
 c3:=by kernel_rfl
 c4:=by kernel_rfl
 c5:=by kernel_rfl
 c9:=by kernel_rfl
 c20:=by kernel_rfl
 c21:=by kernel_rfl
 c37:=by kernel_rfl
 c46:=by kernel_rfl
 c51:=by kernel_rfl
 c53:=by kernel_rfl
 c75:=by kernel_rfl
 c76:=by kernel_rfl
 c80:=by kernel_rfl
 c85:=by kernel_rfl
 c127:=by kernel_rfl
 c143:=by kernel_rfl
 c145:=by kernel_rfl
 c167:=by kernel_rfl
 c168:=by kernel_rfl
 c171:=by kernel_rfl
 c173:=by kernel_rfl
 c175:=by kernel_rfl
 c210:=by kernel_rfl
 c212:=by kernel_rfl
 c213:=by kernel_rfl
 c232:=by kernel_rfl
 c233:=by kernel_rfl }
open Go.RowKit
theorem Tryz.strconv_Atoi_ok (s:ByteArray) (hmax:s.size≤9223372036854775806) (v:Int) (h:Lib.atoiAll s.data.toList = .ok v) (w:World) :
  Calls Tryz.prog 234 #[.string s] w fun e w'=>e = .returned (.tuple #[.int .i64 v,.nilIface])∧(w'=w∨∃ t,w'=Lib.bytesWorld w 5 t):=Any.strconv_Atoi_ok Tryz.laysC172 s hmax v h w
def BadAtoi (w:World) (e:Ending) (w':World):Prop :=
 ∃ (n:Int) (t:TypeId) (N:Nat),e = .returned (.tuple #[.int .i64 n,.iface t (.pointer (some ⟨N,0,none⟩))])∧Below w.heap.size w w'
theorem Tryz.atoi_bad (s:ByteArray) (hlim:s.size≤281474976710656) (h:∀ v,Lib.atoiAll s.data.toList ≠ .ok v) (w:World) (t1 t2:TypeId) (p1 p2:Value)
  (h1:w.var? Tryz.prog "strconv.ErrSyntax" = some #[.iface t1 p1]) (h2:w.var? Tryz.prog "strconv.ErrRange" = some #[.iface t2 p2]) :
  Calls Tryz.prog 234 #[.string s] w (BadAtoi w):=by
 rcases hc:Lib.atoiAll s.data.toList with v |_ |_
 ·exact absurd hc (h v)
 ·exact (Any.strconv_Atoi_syntax_var Tryz.laysC172 s hlim hc t1 p1 w h1).mono fun e w' ⟨N,he,_,_,hb⟩=>⟨_,_,N,he,hb⟩
 ·exact (Any.strconv_Atoi_range_var Tryz.laysC172 s hlim hc t2 p2 w h2).mono fun e w' ⟨N,he,_,_,hb⟩=>⟨_,_,N,he,hb⟩
end Go.Proofs

/-
 numbers.Text and numbers.Read: what each call gives.
-/
namespace Go.Proofs.YtkadkmnolkkhgaaGreatDoor.Nums
open Go.RowKit
structure Lw (w:World):Prop where
 tab:Lib.TabIs Tryz.prog w "internal/strconv.uint64pow10" .u64 Lib.pow10Tab
 es:∃ t p,w.var? Tryz.prog "strconv.ErrSyntax" = some #[.iface t p]
 er:∃ t p,w.var? Tryz.prog "strconv.ErrRange" = some #[.iface t p]
theorem var_below {w w':World} {n:String} {cs:Array Value} (h:w.var? Tryz.prog n=some cs) (hb:Below w.heap.size w w'):w'.var? Tryz.prog n=some cs:=by
 unfold World.var? at *
 cases hg:Tryz.prog.globalNamed n with
 | none=>simp [hg] at h
 | some g =>
  simp only [hg,Option.bind_some] at h ⊢
  have hlt:g < w.heap.size:=by
   rcases Nat.lt_or_ge g w.heap.size with h' |h'
   ·exact h'
   ·rw [Array.getElem?_eq_none h'] at h;simp at h
  rw [hb.block g hlt]
  exact h
theorem Lw.below {w w':World} (h:Lw w) (hb:Below w.heap.size w w'):Lw w' :=
 ⟨var_below h.tab hb,h.es.imp fun _=>Exists.imp fun _ h=>var_below h hb,h.er.imp fun _=>Exists.imp fun _ h=>var_below h hb⟩
theorem itoa_lib (n:Int) (h0:-9223372036854775808≤n) (h1:n≤9223372036854775807) (w:World) (hL:Lw w) :
  Calls Tryz.prog 127 #[.int .i64 n] w fun e w'=>e = .returned (.string ⟨(Lib.itoa n).toArray⟩)∧Below w.heap.size w w' :=
 (Tryz.strconv_Itoa n h0 h1 w hL.tab).mono fun e w' ⟨he,k,os,hw⟩=>⟨he,hw ▸ Lib.below_grow _ w (Nat.le_refl _) k os⟩
theorem text_any (n:Int) (h0:-9223372036854775808≤n) (h1:n≤9223372036854775807) (w:World) (hL:Lw w) :
  Calls Tryz.prog 83 #[.int .i64 n] w fun e w'=>e = .returned (.string ⟨(Lib.itoa n).toArray⟩)∧Below w.heap.size w w':=by
 have hc:=fun w hL=>itoa_lib n h0 h1 w hL
 generalize (⟨(Lib.itoa n).toArray⟩:ByteArray)=t at hc ⊢
 go_enter Tryz.func83,Tryz.ntmps83
 go_wp2_with (go_at_call 127;refine (hc _ hL).mono ?_;rintro e w1 ⟨rfl,hb⟩)
 go_ret
 exact ⟨rfl,hb⟩
theorem atoi_ok (s:ByteArray) (hmax:s.size≤9223372036854775806) (v:Int) (h:Lib.atoiAll s.data.toList = .ok v) (w:World) :
  Calls Tryz.prog 234 #[.string s] w fun e w'=>e = .returned (.tuple #[.int .i64 v,.nilIface])∧Below w.heap.size w w' :=
 (Tryz.strconv_Atoi_ok s hmax v h w).mono fun e w' ⟨he,hw⟩=>⟨he,by
  rcases hw with rfl |⟨t,rfl⟩
  ·exact Below.refl _ _
  ·exact Lib.bytesWorld_below _ _ _⟩
theorem atoi_bd {l:List UInt8} {v:Int} (h:Lib.atoiAll l = .ok v):-9223372036854775808≤v∧v≤9223372036854775807:=by
 unfold Lib.atoiAll at h
 split at h
 ·cases h
 ·simp only at h
  split at h
  ·cases h
  ·cases h
  ·split at h
   ·cases h
   ·split at h
    ·cases h
    ·injection h with h
     subst h
     split <;> omega
set_option maxHeartbeats 1000000 in
theorem read_bad (s:ByteArray) (hlim:s.size≤281474976710656) (h:∀ v,Lib.atoiAll s.data.toList ≠ .ok v) (w:World) (hL:Lw w) :
  Calls Tryz.prog 192 #[.string s] w fun e w'=>e=two none∧Below w.heap.size w w':=by
 obtain ⟨⟨t1,p1,h1⟩,⟨t2,p2,h2⟩⟩:=And.intro hL.es hL.er
 have hc:=Tryz.atoi_bad s hlim h w t1 t2 p1 p2 h1 h2
 clear h h1 h2 hL
 go_enter Tryz.func192,Tryz.ntmps192
 go_wp2_with (go_at_call 234;refine hc.mono ?_;rintro e w1 ⟨n,t,N,rfl,hb⟩)
 go_ret2
 exact ⟨rfl,hb⟩
set_option maxHeartbeats 1000000 in
theorem read_unsafe (s:ByteArray) (hmax:s.size≤9223372036854775806) (v:Int) (h:Lib.atoiAll s.data.toList = .ok v) (hs:sf v=false) (w:World) :
  Calls Tryz.prog 192 #[.string s] w fun e w'=>e=two none∧Below w.heap.size w w':=by
 have hc:=atoi_ok s hmax v h w
 clear h
 go_enter Tryz.func192,Tryz.ntmps192
 go_wp2_with (first |(go_at_call 234;refine hc.mono ?_;rintro e w1 ⟨rfl,hb⟩) |(go_at_call 235;refine (safe_any _ _).mono ?_;rintro e w' ⟨rfl,rfl⟩))
 go_ret2
 exact ⟨rfl,hb⟩
set_option maxHeartbeats 1000000 in
theorem read_other (s:ByteArray) (hmax:s.size≤9223372036854775806) (v:Int) (h:Lib.atoiAll s.data.toList = .ok v) (hs:sf v=true) (hne:Lib.itoa v ≠ s.data.toList) (w:World) (hL:Lw w) :
  Calls Tryz.prog 192 #[.string s] w fun e w'=>e=two none∧Below w.heap.size w w':=by
 have hc:=atoi_ok s hmax v h w
 have ht:=fun w hL=>text_any v (by have:=atoi_bd h;omega) (by have:=atoi_bd h;omega) w hL
 clear h
 obtain ⟨t,e⟩:∃ t:ByteArray,(⟨(Lib.itoa v).toArray⟩:ByteArray)=t:=⟨_,rfl⟩
 have hts:t.toList ≠ s.toList:=fun hh=>hne (by rw [ByteArray.toList_eq,ByteArray.toList_eq,← e] at hh;exact hh)
 rw [e] at ht
 clear e hne
 have hts2:(t.toList == s.toList)=false:=by simpa using hts
 clear hts
 go_enter Tryz.func192,Tryz.ntmps192
 go_wp2_with (first |(go_at_call 234;refine hc.mono ?_;rintro e w1 ⟨rfl,hb⟩;have hL1:=hL.below hb) |(go_at_call 235;refine (safe_any _ _).mono ?_;rintro e w' ⟨rfl,rfl⟩) |(go_at_call 83;refine (ht _ hL1).mono ?_;rintro e w2 ⟨rfl,hb2⟩))
 go_ret2
 exact ⟨rfl,hb.trans (hb2.mono hb.size)⟩
set_option maxHeartbeats 1000000 in
theorem read_yes (s:ByteArray) (hmax:s.size≤9223372036854775806) (v:Int) (h:Lib.atoiAll s.data.toList = .ok v) (hs:sf v=true) (heq:Lib.itoa v=s.data.toList) (w:World) (hL:Lw w) :
  Calls Tryz.prog 192 #[.string s] w fun e w'=>e=two (some v)∧Below w.heap.size w w':=by
 have hc:=atoi_ok s hmax v h w
 have ht:=fun w hL=>text_any v (by have:=atoi_bd h;omega) (by have:=atoi_bd h;omega) w hL
 clear h
 have e:(⟨(Lib.itoa v).toArray⟩:ByteArray)=s:=by rw [heq]
 rw [e] at ht
 clear e heq
 go_enter Tryz.func192,Tryz.ntmps192
 go_wp2_with (first |(go_at_call 234;refine hc.mono ?_;rintro e w1 ⟨rfl,hb⟩;have hL1:=hL.below hb) |(go_at_call 235;refine (safe_any _ _).mono ?_;rintro e w' ⟨rfl,rfl⟩) |(go_at_call 83;refine (ht _ hL1).mono ?_;rintro e w2 ⟨rfl,hb2⟩))
 go_ret2
 exact ⟨rfl,hb.trans (hb2.mono hb.size)⟩
theorem read_any (s:ByteArray) (hlim:s.size≤281474976710656) (w:World) (hL:Lw w) :
  Calls Tryz.prog 192 #[.string s] w fun e w'=>e=two (readF s.data.toList)∧Below w.heap.size w w':=by
 by_cases h:∃ v,Lib.atoiAll s.data.toList = .ok v
 ·obtain ⟨v,h⟩:=h
  rw [readF_atoi h]
  cases hs:sf v with
  | false=>rw [if_neg (by simp)];exact read_unsafe s (by omega) v h hs w
  | true =>
   by_cases heq:Lib.itoa v=s.data.toList
   ·rw [if_pos ⟨rfl,heq⟩];exact read_yes s (by omega) v h hs heq w hL
   ·rw [if_neg (fun hh=>heq hh.2)];exact read_other s (by omega) v h hs heq w hL
 ·rw [readF_atoi_no fun v hv=>h ⟨v,hv⟩]
  exact read_bad s hlim (fun v hv=>h ⟨v,hv⟩) w hL
end Go.Proofs.YtkadkmnolkkhgaaGreatDoor.Nums
