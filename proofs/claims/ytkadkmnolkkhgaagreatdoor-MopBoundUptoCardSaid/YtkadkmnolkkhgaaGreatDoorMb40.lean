/-
 Texts of this seat in build order: MwLaid, MwOpenV.
-/
import Derived.Test.YtkadkmnolkkhgaaGreatDoorRows
import Derived.Test.YtkadkmnolkkhgaaGreatDoorMb00
import Derived.Stop.LaidErr
import Derived.Lib.LaidTab
import Derived.LaidMore
import Derived.ProofKit
import Derived.Test.YtkadkmnolkkhgaaGreatDoorMb38
import Derived.Test.YtkadkmnolkkhgaaGreatDoorMb20
/-
 What the listed variables give: the tables and the sentinels of the library.
-/
set_option linter.unusedVariables false
set_option linter.unusedSimpArgs false
namespace Go.Proofs.YtkadkmnolkkhgaaGreatDoor.Nums
open Go.RowKit
theorem gPow:Tryz.prog.globalNamed "internal/strconv.uint64pow10" = some 0:=by kernel_rfl
theorem gPowType:(Tryz.prog.globals[0]?).map (·.type)=some 317:=by kernel_rfl
theorem cells48:Tryz.prog.cellsOf 284=1:=by kernel_rfl
theorem cells61:Tryz.prog.cellsOf 317=20:=by kernel_rfl
theorem gSyn:Tryz.prog.globalNamed "strconv.ErrSyntax" = some 3:=by kernel_rfl
theorem gSynType:(Tryz.prog.globals[3]?).map (·.type)=some 305:=by kernel_rfl
theorem gRan:Tryz.prog.globalNamed "strconv.ErrRange" = some 4:=by kernel_rfl
theorem gRanType:(Tryz.prog.globals[4]?).map (·.type)=some 305:=by kernel_rfl
theorem cells70:Tryz.prog.cellsOf 358=1:=by kernel_rfl
theorem cells9:Tryz.prog.cellsOf 9=1:=by kernel_rfl
theorem star : "*" ++ "errors.errorString" = "*errors.errorString" := by decide
theorem row68 (u:TypeId) (h:Tryz.prog.typeName? 3 u=some "*errors.errorString"):u=356 :=
 typeName_ptr_named (nm := "errors.errorString") (by rw [star];kernel_rfl) (by kernel_rfl) (by decide) u (by rw [star];exact h)
theorem lw_of_laid {W:World} {row:OpenClaim} (hr:row.laid=[("math/bits.deBruijn32tab",Rows.laid_math_bits_deBruijn32tab),("math/bits.deBruijn64tab",Rows.laid_math_bits_deBruijn64tab),("internal/strconv.uint64pow10",Rows.laid_internal_strconv_uint64pow10),("strconv.ErrRange",Rows.laid_strconv_ErrRange),("strconv.ErrSyntax",Rows.laid_strconv_ErrSyntax)]) (h:laidMetH Tryz.prog row.laid W):Lw W:=by
 rw [hr] at h
 rw [MakeChecks.laidMetH_plain _ _ _ (by kernel_rfl)] at h
 have h3:=h.tail.tail
 have h4:=h3.tail
 obtain ⟨a0,s0,hv0,-,-,-⟩:=laid_sentinel h4 gRan gRanType Tryz.underlying305 row68 Tryz.underlying356 Tryz.underlying358 rfl rfl Tryz.underlying9 cells70 cells9
 obtain ⟨a1,s1,hv1,-,-,-⟩:=laid_sentinel h4.tail gSyn gSynType Tryz.underlying305 row68 Tryz.underlying356 Tryz.underlying358 rfl rfl Tryz.underlying9 cells70 cells9
 exact ⟨Lib.tabIs_of_head gPow gPowType Tryz.underlying317 Tryz.underlying284 cells48 cells61 h3,⟨_,_,hv1⟩,⟨_,_,hv0⟩⟩
end Go.Proofs.YtkadkmnolkkhgaaGreatDoor.Nums

/-
 A list of values that came in.
-/
namespace Go.Proofs.YtkadkmnolkkhgaaGreatDoor.Mw
open Go Go.RowKit Go.ChangeShapes Go.WideShapes Go.Deep Keys Hp Mo
open Des (Vl Ds zeroV zeroD dcs)
open Arrs (En ecs ecs_list)
set_option maxRecDepth 100000 in
theorem open_vs {H:Type} {enc:TypeId × Value→H} {W:World} {base b0:Nat} {r:Reach} {spare:Nat→Bool} {held:Bool} {v:Value} {d:DataW H} {p:List MemPlace} (hv:Value.okWide Tryz.prog W r b0 22 v) (h:DataW.Trod enc Tryz.prog W base spare held 22 v d p) :
  ∃ a cap vs,v = .slice a vs.length cap∧vs.length≤maxLen∧VsAt W.heap.size a vs W∧(Rows.uptoBulk d≤1048576→∀ v ∈ vs,v.s.size≤1048576):=by
 obtain ⟨a0,len0,cap0,rfl⟩:=okWide_slice Tryz.underlying22 hv
 obtain ⟨fuel,hf⟩:=h
 rcases open_slice Tryz.underlying22 hf with ⟨hcs,_⟩ |⟨a,len,cap,m,n,D,Pl,hcs,hb,hl,hm,hmm,hx,hi⟩
 ·simp [Value.cells] at hcs
  obtain ⟨rfl,rfl,rfl⟩:=hcs
  exact ⟨none,0,[],rfl,Nat.zero_le _,.inl rfl,fun _ v hv=>by cases hv⟩
 ·simp [Value.cells] at hcs
  obtain ⟨rfl,rfl,rfl⟩:=hcs
  have hlm:len0≤m:=by rw [hmm];split <;> omega
  have hd:d = .slice ((List.range len0).map D) ((List.range (m - len0)).map fun j=>D (len0+j)):=by simpa using congrArg Prod.fst hx
  obtain ⟨vs,hel,heq⟩:=list_off (Q:=fun i (v:Vl)=>(∀ j u,(vcs v).toList[j]? = some u→W.cell? ((a.add (i*3)).add j)=some u)∧v.s.size+4≤Rows.uptoBulk (D i)) len0 (fun i hil=>by
   obtain ⟨cs',hc,ht⟩:=hi i (by omega)
   rw [cellsCV] at hc
   obtain ⟨v,rfl,hs,_⟩:=open_v ht
   obtain ⟨_,hcl,hat⟩:=World.cells?_some hc
   exact ⟨v,fun j u hj=>by
    have hj3:j < 3:=(List.getElem?_eq_some_iff.1 hj).1
    rw [hat j hj3,hj],hs⟩)
  refine ⟨some a,cap0,vs,by rw [hel],by omega,?_,fun hb v hv=>?_⟩
  ·cases vs with
   | nil=>exact .inl rfl
   | cons v0 r0 =>
    right
    obtain ⟨b,off,sp⟩:=a
    have h00:=(heq 0 v0 rfl).1 0 _ (show (vcs v0).toList[0]? = some (.int .i64 v0.k) from rfl)
    have hsp:sp=none:=by simpa [Addr.add] using World.cell?_spot h00
    subst hsp
    have hbl:=World.block_lt_of_cell? W _ h00
    have e0:((⟨b,off,none⟩:Addr).add (0*3)).add 0=⟨b,off,none⟩:=by unfold Addr.add;split <;> simp_all
    rw [e0] at hbl
    refine ⟨b,off,rfl,hbl,fun j u hj=>?_⟩
    have hjl:j < (v0 :: r0).length*3:=by have:=(List.getElem?_eq_some_iff.1 hj).1;rwa [cellsV_length] at this
    obtain ⟨v,hv⟩:∃ v,(v0 :: r0)[j / 3]? = some v:=⟨_,List.getElem?_eq_getElem (by omega)⟩
    have hr:j % 3 < (vcs v).toList.length:=Nat.mod_lt _ (by decide)
    have hu:=cellsV_at hv (List.getElem?_eq_getElem hr)
    rw [show j / 3*3+j % 3=j by omega,hj] at hu
    have hq:=(heq _ v hv).1 (j % 3) u (by rw [List.getElem?_eq_getElem hr];exact hu.symm)
    rw [Addr.add_mid,Addr.add_mid,show off+j / 3*3+j % 3=off+j by omega] at hq
    exact hq
  ·obtain ⟨i,hi1,hi2⟩:=List.getElem_of_mem hv
   have hbi:=bk_elem D ((List.range (m - len0)).map fun j=>D (len0+j)) len0 i (by omega)
   rw [← hd] at hbi
   have:=(heq i v (by rw [List.getElem?_eq_getElem hi1,hi2])).2
   omega
end Go.Proofs.YtkadkmnolkkhgaaGreatDoor.Mw
