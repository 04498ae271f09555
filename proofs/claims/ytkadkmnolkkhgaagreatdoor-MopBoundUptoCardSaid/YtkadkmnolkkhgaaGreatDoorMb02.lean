/-
 Texts of this seat in build order: KyOw, HpBase, VaKind, UnMath, UnLow, UnPts, UnOf, UnLen, UnPtm.
-/
import Derived.Test.YtkadkmnolkkhgaaGreatDoorMb01
import Derived.Laws.OwnMore
import Derived.Test.YtkadkmnolkkhgaaGreatDoorMb00
import Derived.Below
import Derived.Laws.RangeString
import Derived.Laws.RangeAny
import Derived.Test.YtkadkmnolkkhgaaGreatDoorProg
import Derived.WalkKit
import Derived.WalkSpells
import Derived.WalkLawsBesides
import Derived.RegionTactic
import Derived.ChangeAlike
import Derived.Deep.QuietTactic
import Derived.BigQuiet
import Derived.Lib.Hide
import Derived.OneCell
import Derived.Deep.RegionWith
/-
 keys.Order: what it gives, at every list of keys.
-/
set_option linter.unusedVariables false
namespace Go.Proofs.YtkadkmnolkkhgaaGreatDoor.Keys
open Go Go.RowKit Go.Maps Nums
def IdxK (k:KV) (n:Int) (ok:Bool):Prop:=∀ w,Lw w→Calls Tryz.prog 160 #[.agg #[.string k.1,.int .i64 k.2]] w fun e w'=>e = .returned (.tuple #[.int .i64 n,.bool ok])∧Below w.heap.size w w'
theorem IdxK.at {k:KV} {n:Int} {ok:Bool} (h:IdxK k n ok) {w:World} (hL:Lw w):Calls Tryz.prog 160 #[.agg #[.string k.1,.int .i64 k.2]] w fun e w'=>e = .returned (.tuple #[.int .i64 n,.bool ok])∧Below w.heap.size w w':=h w hL
theorem index_key (k:KV) (hk:Fine k):IdxK k ((kidx k).getD 0) (kidx k).isSome:=fun w hL=>by
 unfold kidx
 split
 ·rename_i h
  rw [h]
  exact index_str k.1 hk.1 w hL
 ·rename_i h
  exact index_sym k.1 k.2 (by simpa using h) w
theorem sym_nok (k:KV) (h:k.2=0) (w:World):Calls Tryz.prog 176 #[.agg #[.string k.1,.int .i64 k.2]] w fun e w'=>e = .returned (.bool false)∧Below w.heap.size w w':=by
 rw [h]
 exact sym_no k.1 w
theorem blk_lt {w:World} {g i:Nat} {v:Value} (h:w.cell? ⟨g,i,none⟩=some v):g < w.heap.size:=World.block_lt_of_cell? w ⟨g,i,none⟩ h
theorem rise_mem (l:List Int) (n:Int):n ∈ rise l↔n ∈ l:=(List.mergeSort_perm l _).mem_iff
theorem rise_bd (l:List KV):∀ n ∈ rise (idxs l),0≤n∧n≤4294967294:=fun n hn=>by
 obtain ⟨k,_,hk⟩:=List.mem_filterMap.1 ((rise_mem _ _).1 hn)
 have:=idxF_some (kidx_some hk).2
 exact ⟨this.1,this.2.1⟩
def OrdPost (ks:List KV) (w:World) (e:Ending) (w':World):Prop:=∃ v,e = .returned v∧w'.ownsRow (w.heap.size+1) 32 2 v (ordF ks).length (cellsK (ordF ks))∧Below w.heap.size w w'
def TextIs (n:Int):Prop:=∀ w,Lw w→Calls Tryz.prog 83 #[.int .i64 n] w fun e w'=>e = .returned (.string (kb n))∧Below w.heap.size w w'
theorem TextIs.at {n:Int} (h:TextIs n) {w:World} (hL:Lw w):Calls Tryz.prog 83 #[.int .i64 n] w fun e w'=>e = .returned (.string (kb n))∧Below w.heap.size w w':=h w hL
def KeysAt (ao:Option Addr) (ks:List KV) (w:World):Prop:=∀ j k,ks[j]? = some k→∃ b off,ao=some ⟨b,off,none⟩∧b < w.heap.size∧w.cell? ⟨b,off+j*2,none⟩=some (.string k.1)∧w.cell? ⟨b,off+j*2+1,none⟩=some (.int .i64 k.2)
theorem keysAt_own {w:World} {base:Nat} {ao:Option Addr} {cp:Nat} {ks:List KV} (h:w.ownsRow base 32 2 (.slice ao ks.length cp) ks.length (cellsK ks)):KeysAt ao ks w:=fun j k hk=>by
 have hj:j < ks.length:=(List.getElem?_eq_some_iff.1 hk).1
 rcases h.2 with ⟨_,hn⟩ |⟨g,cap,cur,hv,hb,hg,_⟩
 ·omega
 ·simp only [Value.slice.injEq] at hv
  obtain ⟨rfl,-,rfl⟩:=hv
  obtain ⟨e0,e1⟩:=cellsK_at ks j k hk
  exact ⟨g,0,rfl,(Array.getElem?_eq_some_iff.1 hg).1,by rw [h.cellAt _ (by omega),← e0];congr 1;omega,by rw [h.cellAt _ (by omega),← e1];congr 1;omega⟩
set_option maxRecDepth 100000 in
set_option maxHeartbeats 1000000 in
theorem order_any (ao:Option Addr) (cap:Nat) (ks:List KV) (w:World) (hL:Lw w) (hlen:ks.length≤1000000) (hc:KeysAt ao ks w) (hf:∀ k ∈ ks,Fine k) :
  Calls Tryz.prog 205 #[.slice ao ks.length cap] w (OrdPost ks w):=by
 have hmm:=fun (n:Int) (w:World)=>make_map Tryz.underlying312 .i64 n w
 obtain ⟨i3,hi3,hz30,hz31,hz32⟩:=info_parts info3
 obtain ⟨i26,hi26,hz260,hz261,hz262⟩:=info_parts info26
 have HC:=Lib.hid hc
 have HF:=Lib.hid hf
 clear hc hf
 go_enter Tryz.func205,Tryz.ntmps205
 go_wp2
 clear hmm
 go_loopw [3,4,5,21] (fun v3 v4 v5 i wr=>∃ j:Nat,j≤ks.length∧i = .int .i64 j∧OrdInv w ks j v3 v4 v5 wr) (fun _ _ _ i _=>ks.length - (intOf i).toNat)
 case atStart=>exact ⟨0,Nat.zero_le _,rfl,OrdInv.start w ks⟩
 case round =>
  obtain ⟨j,hj,rfl,hinv⟩:=hrel
  by_cases hlt:j < ks.length
  ·obtain ⟨k,hk⟩:∃ k,ks[j]? = some k:=⟨ks[j],by simp [hlt]⟩
   have hlt2:(j:Int) < ks.length:=by omega
   obtain ⟨b,off,rfl,hb,c0,c1⟩:=HC.out j k hk
   have hb2:=hinv.below
   rw [← hb2.cell (p:=⟨b,off+j*2,none⟩) hb] at c0
   rw [← hb2.cell (p:=⟨b,off+j*2+1,none⟩) hb] at c1
   have hkf:=HF.out k (List.mem_of_getElem? hk)
   have hkey:=hkf.key
   have hown:=hinv.map
   have hix:=index_key k hkf
   have hol:=once_len hj
   have hil:=idxs_len (once (ks.take j))
   have hws:=hinv.size
   cases hm:memb k (once (ks.take j)) with
   | true =>
    have hh:Maps.has (SetK (once (ks.take j))) (klit k)=true:=by
     rw [has_set (fun x hx=>HF.out x (List.mem_of_mem_take ((once_mem _ x).1 hx))) hkf,hm]
    have HK:=Lib.hid hk
    have HM:=Lib.hid hm
    clear hk hm hb2
    go_wp2_with (at_lookup;refine wpList_lookup_own_unit _ rfl _ _ 312 rfl 32 231 law26 Tryz.underlying312 (zero36 _) w.heap.size j _ rfl (hown.alloc _) _ _ rfl hkey ?_;rw [hh])
    go_roundw
    case rel=>exact ⟨j+1,by omega,by go_num,OrdInv.old hinv HK.out HM.out⟩
    case measure=>simp [intOf];omega
   | false =>
    have hh:Maps.has (SetK (once (ks.take j))) (klit k)=false:=by
     rw [has_set (fun x hx=>HF.out x (List.mem_of_mem_take ((once_mem _ x).1 hx))) hkf,hm]
    have HK:=Lib.hid hk
    have HM:=Lib.hid hm
    have HL:=Lib.hid hL
    clear hk hm hb2
    rcases sort3 k with ⟨n,hs⟩ |⟨hs,hs0⟩ |⟨hs,hs0⟩
    ·rw [hs] at hix
     have HS:=Lib.hid hs
     clear hs hkf
     go_wp2_with (first
      | (at_lookup;refine wpList_lookup_own_unit _ rfl _ _ 312 rfl 32 231 law26 Tryz.underlying312 (zero36 _) w.heap.size j _ rfl (hown.alloc _) _ _ rfl hkey ?_;rw [hh])
      | (at_mapUpdate;refine wpList_mapUpdate_own _ rfl _ _ _ 312 rfl 32 231 law26 Tryz.underlying312 (unitElem (H:=Unit)) w.heap.size j _ rfl ((hown.alloc _).alloc _) (by unfold maxLen;omega) _ _ _ rfl rfl hkey _ [] unitElem_mk ?_;intro w1 hown1 hgrow1;refine Hid.out ?_))
     refine Lib.hid ?_
     have hmid:=hinv.mid HK.out HM.out hown1 hgrow1
     have L1:=HL.out.below hmid.below
     obtain ⟨⟨a0,a1⟩,-⟩:=box_cells hgrow1 (by omega) (Below.refl _ w1)
     clear c0 c1 hh hkey hown hown1
     go_wp2_with (go_at_call 160;refine (hix.at L1).mono ?_;rintro e w2 ⟨rfl,hb2⟩;refine Hid.out ?_)
     refine Lib.hid ?_
     obtain ⟨-,⟨d0,d1⟩⟩:=box_cells hgrow1 (by omega) hb2
     have hmid2:=hmid.next hb2
     have hws2:=hmid2.size
     clear a0 a1 hmid hinv hgrow1 hb2
     have hr:=hmid2.r3
     obtain ⟨m,hm⟩:∃ m,(idxs (once (ks.take j))).length=m:=⟨_,rfl⟩
     rw [hm] at hr hil
     have HN:=Lib.hid hm
     clear hm
     go_wp2_with (at_builtin;refine wpList_append_own _ rfl _ _ 149 rfl (w.heap.size+1) 3 i3 (.int .i64 0) 1 8 Tryz.underlying149 hi3 hz30 hz31 hz32 rfl (by decide) _ _ _ rfl (hr.alloc _) ⟨w2.heap.size,0,none⟩ 1 1 [.int .i64 n] rfl rfl (cell_one_new _ _ _) (one_int _) (by unfold maxLen;omega) (by omega) (size_alloc_le _ hws2) ?_;intro v' w3 hown3 hgrow3 _)
     have hinv':=hmid2.idx HK.out HM.out HS.out (by rw [HN.out];exact hown3) hgrow3
     clear hown3 hgrow3 hmid2 hr
     go_wp2
     go_roundw
     case rel=>exact ⟨j+1,by omega,by go_num,hinv'⟩
     case measure=>simp [intOf];omega
    ·have hix2:=hix
     rw [hs0] at hix2
     have hix3:IdxK k 0 false:=hix2
     have HS:=Lib.hid hs
     have HS0:=Lib.hid hs0
     clear hix hix2 hs hs0 hkf
     go_wp2_with (first
      | (at_lookup;refine wpList_lookup_own_unit _ rfl _ _ 312 rfl 32 231 law26 Tryz.underlying312 (zero36 _) w.heap.size j _ rfl (hown.alloc _) _ _ rfl hkey ?_;rw [hh])
      | (at_mapUpdate;refine wpList_mapUpdate_own _ rfl _ _ _ 312 rfl 32 231 law26 Tryz.underlying312 (unitElem (H:=Unit)) w.heap.size j _ rfl ((hown.alloc _).alloc _) (by unfold maxLen;omega) _ _ _ rfl rfl hkey _ [] unitElem_mk ?_;intro w1 hown1 hgrow1;refine Hid.out ?_))
     refine Lib.hid ?_
     have hmid:=hinv.mid HK.out HM.out hown1 hgrow1
     have L1:=HL.out.below hmid.below
     obtain ⟨⟨a0,a1⟩,-⟩:=box_cells hgrow1 (by omega) (Below.refl _ w1)
     clear c0 c1 hh hkey hown hown1
     go_wp2_with (go_at_call 160;refine (hix3.at L1).mono ?_;rintro e w2 ⟨rfl,hb2⟩;refine Hid.out ?_)
     refine Lib.hid ?_
     obtain ⟨-,⟨d0,d1⟩⟩:=box_cells hgrow1 (by omega) hb2
     have hmid2:=hmid.next hb2
     have hws2:=hmid2.size
     clear a0 a1 hmid hinv hgrow1 hb2
     have L2:=HL.out.below hmid2.below
     go_wp2_with (go_at_call 176;refine (sym_yes k.1 k.2 HS.out _).mono ?_;rintro e w3 ⟨rfl,hb3⟩;refine Hid.out ?_)
     refine Lib.hid ?_
     have e0:=(hb3.cell (p:=⟨wr.heap.size,0,none⟩) (show wr.heap.size < w2.heap.size from blk_lt d0)).trans d0
     have e1:=(hb3.cell (p:=⟨wr.heap.size,1,none⟩) (show wr.heap.size < w2.heap.size from blk_lt d0)).trans d1
     have hmid3:=hmid2.next hb3
     have hws3:=hmid3.size
     clear d0 d1 hmid2 hb3 L2
     have hr:=hmid3.r5
     obtain ⟨m,hm⟩:∃ m,(syms (once (ks.take j))).length=m:=⟨_,rfl⟩
     have hil2:=syms_len (once (ks.take j))
     rw [hm] at hr hil2
     have HN:=Lib.hid hm
     clear hm
     go_wp2_with (at_builtin;refine wpList_append_own_at _ rfl _ _ 55 rfl (w.heap.size+1) 32 i26 (.agg #[.string ⟨#[]⟩,.int .i64 0]) 2 24 Tryz.underlying55 hi26 hz260 hz261 hz262 rfl (by decide) _ _ _ rfl (hr.alloc _) ⟨w3.heap.size,0,none⟩ 1 1 [.string k.1,.int .i64 k.2] rfl rfl (two_new _ _ _ _) (two_cells _ _) (by unfold maxLen;omega) (by omega) (size_alloc_le _ hws3) ?_;intro v' w4 hown4 hgrow4 _ hat4)
     have hinv':=hmid3.sym HK.out HM.out HS.out HS0.out (by rw [HN.out];exact hown4) hgrow4 hat4
     clear hown4 hgrow4 hat4 hmid3 hr
     go_wp2
     go_roundw
     case rel=>exact ⟨j+1,by omega,by go_num,hinv'⟩
     case measure=>simp [intOf];omega
    ·have hix2:=hix
     rw [show kidx k=none by rw [kidx,if_pos hs,hs0]] at hix2
     have hix3:IdxK k 0 false:=hix2
     have HS:=Lib.hid hs
     have HS0:=Lib.hid hs0
     clear hix hix2 hs hs0 hkf
     go_wp2_with (first
      | (at_lookup;refine wpList_lookup_own_unit _ rfl _ _ 312 rfl 32 231 law26 Tryz.underlying312 (zero36 _) w.heap.size j _ rfl (hown.alloc _) _ _ rfl hkey ?_;rw [hh])
      | (at_mapUpdate;refine wpList_mapUpdate_own _ rfl _ _ _ 312 rfl 32 231 law26 Tryz.underlying312 (unitElem (H:=Unit)) w.heap.size j _ rfl ((hown.alloc _).alloc _) (by unfold maxLen;omega) _ _ _ rfl rfl hkey _ [] unitElem_mk ?_;intro w1 hown1 hgrow1;refine Hid.out ?_))
     refine Lib.hid ?_
     have hmid:=hinv.mid HK.out HM.out hown1 hgrow1
     have L1:=HL.out.below hmid.below
     obtain ⟨⟨a0,a1⟩,-⟩:=box_cells hgrow1 (by omega) (Below.refl _ w1)
     clear c0 c1 hh hkey hown hown1
     go_wp2_with (go_at_call 160;refine (hix3.at L1).mono ?_;rintro e w2 ⟨rfl,hb2⟩;refine Hid.out ?_)
     refine Lib.hid ?_
     obtain ⟨-,⟨d0,d1⟩⟩:=box_cells hgrow1 (by omega) hb2
     have hmid2:=hmid.next hb2
     have hws2:=hmid2.size
     clear a0 a1 hmid hinv hgrow1 hb2
     have L2:=HL.out.below hmid2.below
     go_wp2_with (go_at_call 176;refine (sym_nok k HS.out _).mono ?_;rintro e w3 ⟨rfl,hb3⟩;refine Hid.out ?_)
     refine Lib.hid ?_
     have e0:=(hb3.cell (p:=⟨wr.heap.size,0,none⟩) (show wr.heap.size < w2.heap.size from blk_lt d0)).trans d0
     have e1:=(hb3.cell (p:=⟨wr.heap.size,1,none⟩) (show wr.heap.size < w2.heap.size from blk_lt d0)).trans d1
     have hmid3:=hmid2.next hb3
     have hws3:=hmid3.size
     clear d0 d1 hmid2 hb3 L2
     have hr:=hmid3.r4
     obtain ⟨m,hm⟩:∃ m,(names (once (ks.take j))).length=m:=⟨_,rfl⟩
     have hil2:=names_len (once (ks.take j))
     rw [hm] at hr hil2
     have HN:=Lib.hid hm
     clear hm
     go_wp2_with (at_builtin;refine wpList_append_own_at _ rfl _ _ 55 rfl (w.heap.size+1) 32 i26 (.agg #[.string ⟨#[]⟩,.int .i64 0]) 2 24 Tryz.underlying55 hi26 hz260 hz261 hz262 rfl (by decide) _ _ _ rfl (hr.alloc _) ⟨w3.heap.size,0,none⟩ 1 1 [.string k.1,.int .i64 k.2] rfl rfl (two_new _ _ _ _) (two_cells _ _) (by unfold maxLen;omega) (by omega) (size_alloc_le _ hws3) ?_;intro v' w4 hown4 hgrow4 _ hat4)
     have hinv':=hmid3.name HK.out HM.out HS.out HS0.out (by rw [HN.out];exact hown4) hgrow4 hat4
     clear hown4 hgrow4 hat4 hmid3 hr
     go_wp2
     go_roundw
     case rel=>exact ⟨j+1,by omega,by go_num,hinv'⟩
     case measure=>simp [intOf];omega
  ·obtain rfl:j=ks.length:=by omega
   have HL:=Lib.hid hL
   clear hlt hj
   have htk:ks.take ks.length=ks:=List.take_length
   have hol:=once_length ks
   have hil:=idxs_len (once ks)
   have hnl:=names_len (once ks)
   have hyl:=syms_len (once ks)
   have r3:=hinv.r3
   rw [htk] at r3
   have hsort:=sort_own _ _ _ _ r3 (by omega)
   have hbd:∀ n ∈ rise (idxs (once ks)),0≤n∧n≤4294967294:=rise_bd (once ks)
   obtain ⟨S,hS⟩:∃ S,rise (idxs (once ks))=S:=⟨_,rfl⟩
   have hSl:(idxs (once ks)).length=S.length:=by rw [← hS,rise_length]
   rw [hSl,hS] at hsort
   rw [hSl] at r3 hil
   rw [hS] at hbd
   obtain ⟨a3,c3,rfl⟩:=own_shape r3
   have HS:=Lib.hid hS
   have HSL:=Lib.hid hSl
   have HTK:=Lib.hid htk
   have HB:=Lib.hid hbd
   clear r3 hS hSl htk hbd
   go_wp2_with (go_at_call 239;refine hsort.mono ?_;rintro e w1 ⟨rfl,hown1,hgrow1⟩;refine Hid.out ?_)
   refine Lib.hid ?_
   have hso:=hinv.sorted (by rw [HTK.out,HSL.out,HS.out];exact hown1) hgrow1
   rw [HTK.out] at hso
   obtain ⟨g1,g2,g3,g4,g5⟩:=hso
   have hmz:=g1.size_le
   clear hinv hgrow1 hsort
   obtain ⟨N,hN⟩:∃ N,names (once ks)=N:=⟨_,rfl⟩
   obtain ⟨Y,hY⟩:∃ Y,syms (once ks)=Y:=⟨_,rfl⟩
   rw [hN] at g2 hnl
   rw [hY] at g3 hyl
   have HN:=Lib.hid hN
   have HY:=Lib.hid hY
   clear hN hY
   obtain ⟨c,hcz⟩:∃ c,Maps.size (SetK (once ks))=c:=⟨_,rfl⟩
   rw [hcz] at hmz
   go_wp2_with (at_len;refine wpList_len_own _ rfl _ 312 rfl 32 231 Tryz.underlying312 _ _ _ _ rfl g1 ?_;rw [hcz];clear hcz g1;refine Hid.out ?_)
   refine Lib.hid ?_
   go_wp2_with (at_make;refine wpList_make_own _ rfl _ _ 55 rfl (w.heap.size+1) 32 i26 (.agg #[.string ⟨#[]⟩,.int .i64 0]) 2 Tryz.underlying55 hi26 hz260 hz261 _ _ _ c rfl rfl (by omega) (by rw [hz262];omega) (by unfold maxLen;omega) g5 ?_;intro w2 hown2 hgrow2;refine Hid.out ?_)
   refine Lib.hid ?_
   have hout:=OutInv.start hown1 g2 g3 g4 g5 hown2 hgrow2
   clear hown1 g2 g3 g4 g5 hown2 hgrow2
   go_wp2
   go_loopw [13,63] (fun vo i wr=>∃ j:Nat,j≤S.length∧i = .int .i64 j∧OutInv w S N Y j vo (.slice a3 S.length c3) u4 u5 wr) (fun _ i _=>S.length - (intOf i).toNat)
   case atStart=>exact ⟨0,Nat.zero_le _,rfl,hout⟩
   case round =>
    clear hout
    obtain ⟨j,hj,rfl,hout⟩:=hrel
    have hrs:=hout.size
    by_cases hlt:j < S.length
    ·obtain ⟨n,hn⟩:∃ n,S[j]? = some n:=⟨S[j],by simp [hlt]⟩
     have hlt2:(j:Int) < S.length:=by omega
     have hnb:=HB.out n (List.mem_of_getElem? hn)
     have ht:TextIs n:=fun w hL=>text_any n (by omega) (by omega) w hL
     obtain ⟨g,hg,hcell⟩:=own_at hout.r3 (k:=j) (u:=.int .i64 n) (by simp [ints,hn])
     subst hg
     have HN2:=Lib.hid hn
     have LR:=HL.out.below hout.below
     clear hn
     go_wp2_with (go_at_call 83;(with_reducible refine (ht.at LR).mono ?_);rintro e w5 ⟨rfl,hb5⟩;refine Hid.out ?_)
     refine Lib.hid ?_
     have hout2:=hout.next hb5
     have hr:=hout2.out
     obtain ⟨m,hm⟩:∃ m,(numK (S.take j)).length=m:=⟨_,rfl⟩
     have hmj:m≤j:=by rw [← hm,numK_length,List.length_take];omega
     rw [hm] at hr
     have HM:=Lib.hid hm
     have hrs2:=hout2.size
     clear hm hcell hout hb5
     go_wp2_with (at_builtin;refine wpList_append_own_at _ rfl _ _ 55 rfl (w.heap.size+1) 32 i26 (.agg #[.string ⟨#[]⟩,.int .i64 0]) 2 24 Tryz.underlying55 hi26 hz260 hz261 hz262 rfl (by decide) _ _ _ rfl (hr.alloc _) ⟨w5.heap.size,0,none⟩ 1 1 [.string (kb n),.int .i64 0] rfl rfl (two_new _ _ _ _) (two_cells _ _) (by unfold maxLen;omega) (by omega) (size_alloc_le _ hrs2) ?_;intro v' w6 hown6 hgrow6 _ hat6)
     have hout3:=hout2.step HN2.out HM.out hown6 hgrow6 hat6
     clear hown6 hgrow6 hat6 hout2 hr
     go_wp2
     go_roundw
     case rel=>exact ⟨j+1,by omega,by go_num,hout3⟩
     case measure=>simp [intOf];omega
    ·obtain rfl:j=S.length:=by omega
     clear hlt hj
     obtain ⟨h1,h2,h3,h4,h5,h6,h7,h8⟩:=hout
     rw [List.take_length,numK_length] at h1
     go_wp2_with (at_builtin;refine wpList_append_src rfl _ _ 55 rfl (w.heap.size+1) 32 i26 (.agg #[.string ⟨#[]⟩,.int .i64 0]) 2 24 Tryz.underlying55 hi26 hz260 hz261 hz262 rfl (by decide) _ _ _ rfl h1 _ _ _ _ rfl h3 (cellsK_one' _) (by unfold maxLen;omega) (by omega) h8 ?_;intro v6 w6 hown6 hgrow6 _;refine Hid.out ?_)
     refine Lib.hid ?_
     have h4':=h4.kept hgrow6 h6
     have hb6:=h7.grown hgrow6 (by omega) (fun k hk=>by have:=(h1.lt k hk).1;omega)
     have hs6:=Nat.le_trans h8 hgrow6.size
     clear h1 h3 h4 h5 h6 h7 hgrow6
     go_wp2_with (at_builtin;refine wpList_append_src rfl _ _ 55 rfl (w.heap.size+1) 32 i26 (.agg #[.string ⟨#[]⟩,.int .i64 0]) 2 24 Tryz.underlying55 hi26 hz260 hz261 hz262 rfl (by decide) _ _ _ rfl hown6 _ _ _ _ rfl h4' (cellsK_one' _) (by unfold maxLen;omega) (by omega) hs6 ?_;intro v7 w7 hown7 hgrow7 _;refine Hid.out ?_)
     refine Lib.hid ?_
     have hb7:=hb6.grown hgrow7 (by omega) (fun k hk=>by have:=(hown6.lt k hk).1;omega)
     clear hown6 hgrow7 hb6 h4'
     go_wp2
     go_ret
     refine ⟨v7,rfl,?_,hb7⟩
     rw [ordF_eq,HS.out,HN.out,HY.out,cellsK_append,cellsK_append,List.length_append,List.length_append,numK_length]
     exact hown7
end Go.Proofs.YtkadkmnolkkhgaaGreatDoor.Keys

/-
 values.Truth and Type, and the reference's: what they give, kind by kind.
-/
namespace Go.Proofs.YtkadkmnolkkhgaaGreatDoor.Vals
open Go.RowKit Nums
structure NoKind (k:Int):Prop where
 e0:(k == 0)=false
 e1:(k == 1)=false
 e2:(k == 2)=false
 e3:(k == 3)=false
 e4:(k == 4)=false
 e5:(k == 5)=false
 e6:(k == 6)=false
theorem kind_cases (k:Int):k=0∨k=1∨k=2∨k=3∨k=4∨k=5∨k=6∨NoKind k:=by
 by_cases h0:k=0
 ·exact .inl h0
 by_cases h1:k=1
 ·exact .inr (.inl h1)
 by_cases h2:k=2
 ·exact .inr (.inr (.inl h2))
 by_cases h3:k=3
 ·exact .inr (.inr (.inr (.inl h3)))
 by_cases h4:k=4
 ·exact .inr (.inr (.inr (.inr (.inl h4))))
 by_cases h5:k=5
 ·exact .inr (.inr (.inr (.inr (.inr (.inl h5)))))
 by_cases h6:k=6
 ·exact .inr (.inr (.inr (.inr (.inr (.inr (.inl h6))))))
 ·exact .inr (.inr (.inr (.inr (.inr (.inr (.inr ⟨by simpa using h0,by simpa using h1,by simpa using h2,by simpa using h3,by simpa using h4,by simpa using h5,by simpa using h6⟩))))))
theorem NoKind.ne {k:Int} (h:NoKind k):k ≠ 0∧k ≠ 1∧k ≠ 2∧k ≠ 3∧k ≠ 4∧k ≠ 5∧k ≠ 6 :=
 ⟨by simpa using h.e0,by simpa using h.e1,by simpa using h.e2,by simpa using h.e3,by simpa using h.e4,by simpa using h.e5,by simpa using h.e6⟩
abbrev V (k n:Int) (s:ByteArray):Value:=.agg #[.int .i64 k,.int .i64 n,.string s]
theorem ball (w:World) (o:Obj):Below w.heap.size w (w.alloc o):=(Below.refl _ _).alloc (Nat.le_refl _) _
theorem bnext {w w1 w2:World} (h1:Below w.heap.size w w1) (h2:Below w1.heap.size w1 w2):Below w.heap.size w w2:=h1.trans (h2.mono h1.size)
end Go.Proofs.YtkadkmnolkkhgaaGreatDoor.Vals

/-
 Plain mathematics of chapter 1: bytes, code points and 16-bit units; nothing here speaks of the program.
-/
namespace Go.Proofs.YtkadkmnolkkhgaaGreatDoor.Uni
def B (s:ByteArray) (k:Nat):Nat:=(s.data.toList[k]?.getD 0).toNat
theorem B_lt (s:ByteArray) (k:Nat):B s k < 256:=by unfold B;exact UInt8.toNat_lt _
theorem B_get (s:ByteArray) (k:Nat) (h:k < s.size):(s[k]'h).toNat=B s k:=by
 unfold B
 have h':k < s.data.toList.length:=by simpa using h
 rw [List.getElem?_eq_getElem h']
 rfl
theorem B_get! (s:ByteArray) (k:Nat):(s.get! k).toNat=B s k:=by
 by_cases h:k < s.size
 ·rw [← B_get s k h]
  have:=get_at s k h
  simp only [Nat.add_zero] at this
  rw [this]
 ·unfold B
  have h':¬ k < s.data.size:=by simpa using h
  have e:s.data[k]? = none:=by simp;exact Nat.le_of_not_lt h'
  have e2:s.data[k]! = default:=by rw [getElem!_def,e]
  simp only [ByteArray.get!,e2]
  have e3:s.data.toList[k]? = none:=by simp;exact Nat.le_of_not_lt h'
  rw [e3]
  rfl
def surB (s:ByteArray) (i:Nat):Bool:=decide (i+3≤s.size∧B s i=237∧B s (i+1) / 32=5∧B s (i+2) / 64=2)
def surV (s:ByteArray) (i:Nat):Nat:=53248+B s (i+1) % 64*64+B s (i+2) % 64
theorem surB_iff {s:ByteArray} {i:Nat} (h:surB s i=true):i+3≤s.size∧B s i=237∧B s (i+1) / 32=5∧B s (i+2) / 64=2:=of_decide_eq_true h
theorem surB_not {s:ByteArray} {i:Nat} (h:surB s i=false):¬ (i+3≤s.size∧B s i=237∧B s (i+1) / 32=5∧B s (i+2) / 64=2):=of_decide_eq_false h
theorem surV_bd {s:ByteArray} {i:Nat} (h:surB s i=true):55296≤surV s i∧surV s i≤57343:=by
 obtain ⟨_,_,h1,h2⟩:=surB_iff h
 have:=B_lt s (i+1)
 unfold surV
 omega
theorem dec_eq (s:ByteArray) (i:Nat):Utf8.decode s i =
  (if B s i < 128 then (B s i,1)
    else if B s i / 32=6∧i+1 < s.size∧B s (i+1) / 64=2 then
     (if 128≤(B s i % 32)*64+B s (i+1) % 64 then ((B s i % 32)*64+B s (i+1) % 64,2) else (65533,1))
    else if B s i / 16=14∧i+1 < s.size∧B s (i+1) / 64=2∧i+2 < s.size∧B s (i+2) / 64=2 then
     (if 2048≤(B s i % 16)*4096+B s (i+1) % 64*64+B s (i+2) % 64∧((B s i % 16)*4096+B s (i+1) % 64*64+B s (i+2) % 64 < 55296∨57344≤(B s i % 16)*4096+B s (i+1) % 64*64+B s (i+2) % 64)
    then ((B s i % 16)*4096+B s (i+1) % 64*64+B s (i+2) % 64,3) else (65533,1))
    else if B s i / 8=30∧i+1 < s.size∧B s (i+1) / 64=2∧i+2 < s.size∧B s (i+2) / 64=2∧i+3 < s.size∧B s (i+3) / 64=2 then
     (if 65536≤(B s i % 8)*262144+B s (i+1) % 64*4096+B s (i+2) % 64*64+B s (i+3) % 64∧(B s i % 8)*262144+B s (i+1) % 64*4096+B s (i+2) % 64*64+B s (i+3) % 64≤1114111
    then ((B s i % 8)*262144+B s (i+1) % 64*4096+B s (i+2) % 64*64+B s (i+3) % 64,4) else (65533,1))
    else (65533,1)):=by
 unfold Utf8.decode Utf8.valid Utf8.runeError
 simp only [B_get!,Nat.add_zero,ge_iff_le]
 have h0:=B_lt s i
 have h1:=B_lt s (i+1)
 have h2:=B_lt s (i+2)
 have h3:=B_lt s (i+3)
 by_cases a:B s i < 128
 ·rw [if_pos a,if_pos a]
 ·rw [if_neg a,if_neg a]
  by_cases b:B s i / 32=6∧i+1 < s.size∧B s (i+1) / 64=2
  ·rw [if_pos (by simp [b]),if_pos b]
  ·rw [if_neg (by simp;intro x y;omega),if_neg b]
   by_cases c:B s i / 16=14∧i+1 < s.size∧B s (i+1) / 64=2∧i+2 < s.size∧B s (i+2) / 64=2
   ·rw [if_pos (by simp [c]),if_pos c]
    refine ite_congr ?_ (fun _=>rfl) (fun _=>rfl)
    simp
    intro _
    omega
   ·rw [if_neg (by simp;intro x y;omega),if_neg c]
    by_cases d:B s i / 8=30∧i+1 < s.size∧B s (i+1) / 64=2∧i+2 < s.size∧B s (i+2) / 64=2∧i+3 < s.size∧B s (i+3) / 64=2
    ·rw [if_pos (by simp [d]),if_pos d]
     refine ite_congr ?_ (fun _=>rfl) (fun _=>rfl)
     simp
     intro _
     omega
    ·rw [if_neg (by simp;intro x y;omega),if_neg d]
theorem decode_sur {s:ByteArray} {i:Nat} (h:surB s i=true):Utf8.decode s i=(65533,1)∧Utf8.decode s (i+1)=(65533,1)∧Utf8.decode s (i+2)=(65533,1):=by
 obtain ⟨h0,h1,h2,h3⟩:=surB_iff h
 have:=B_lt s (i+1)
 have:=B_lt s (i+2)
 refine ⟨?_,?_,?_⟩
 ·rw [dec_eq]
  rw [if_neg (by omega),if_neg (by omega),if_pos (by omega),if_neg (by omega)]
 ·rw [dec_eq]
  rw [if_neg (by omega),if_neg (by omega),if_neg (by omega),if_neg (by omega)]
 ·rw [dec_eq]
  rw [if_neg (by omega),if_neg (by omega),if_neg (by omega),if_neg (by omega)]
theorem decode_cases (s:ByteArray) (i:Nat) (hi:i < s.size) :
  (Utf8.decode s i=(65533,1)) ∨
  (1≤(Utf8.decode s i).2∧i+(Utf8.decode s i).2≤s.size∧(Utf8.decode s i).2≤4∧(Utf8.decode s i).1≤1114111∧((Utf8.decode s i).1 < 55296∨57344≤(Utf8.decode s i).1) ∧
   ((Utf8.decode s i).1=65533→(Utf8.decode s i).2=3)):=by
 have h0:=B_lt s i
 have h1:=B_lt s (i+1)
 have h2:=B_lt s (i+2)
 have h3:=B_lt s (i+3)
 rw [dec_eq]
 split
 ·right;simp;omega
 ·split
  ·split
   ·right;simp;omega
   ·left;rfl
  ·split
   ·split
    ·right;simp;omega
    ·left;rfl
   ·split
    ·split
     ·right;simp;omega
     ·left;rfl
    ·left;rfl
def pt (s:ByteArray) (i:Nat):Nat × Nat :=
 if surB s i then (surV s i,3) else if Utf8.decode s i=(65533,1) then (0,0) else Utf8.decode s i
def isHi (c:Nat):Bool:=decide (55296≤c∧c < 56320)
def isLo (c:Nat):Bool:=decide (56320≤c∧c≤57343)
def dec (s:ByteArray):Nat→Nat→Bool→Option (List Nat)
 | 0,_,_=>some []
 | f+1,i,ah=>if i < s.size then (if (pt s i).2=0∨(ah=true∧isLo (pt s i).1=true) then none else (dec s f (i+(pt s i).2) (isHi (pt s i).1)).map ((pt s i).1 :: ·)) else some []
def pts (s:ByteArray):Option (List Nat):=dec s s.size 0 false
def Went (s:ByteArray) (done:List Nat) (f i:Nat) (ah:Bool):Prop :=
 s.size≤i+f∧i≤s.size∧done.length≤i∧pts s=(dec s f i ah).map (done++·)
theorem went_start (s:ByteArray):Went s [] s.size 0 false:=by
 refine ⟨by omega,by omega,by simp,?_⟩
 unfold pts
 cases dec s s.size 0 false <;> simp
theorem went_end {s:ByteArray} {done:List Nat} {f i:Nat} {ah:Bool} (h:Went s done f i ah) (hi:¬ i < s.size):pts s=some done:=by
 rw [h.2.2.2]
 cases f with
 | zero=>simp [dec]
 | succ f=>simp [dec,hi]
theorem went_step {s:ByteArray} {done:List Nat} {f i:Nat} {ah:Bool} (h:Went s done f i ah) (hi:i < s.size) (hn:1≤(pt s i).2) (hs:i+(pt s i).2≤s.size)
  (ha:¬ (ah=true∧isLo (pt s i).1=true)):∃ g,Went s (done++[(pt s i).1]) g (i+(pt s i).2) (isHi (pt s i).1):=by
 obtain ⟨h1,h2,h3,h4⟩:=h
 obtain ⟨g,rfl⟩:∃ g,f=g+1:=⟨f - 1,by omega⟩
 refine ⟨g,by omega,hs,by simp;omega,?_⟩
 rw [h4]
 simp only [dec,hi,if_true]
 rw [if_neg (fun x=>x.elim (by omega) ha)]
 cases dec s g (i+(pt s i).2) (isHi (pt s i).1) <;> simp
theorem went_none {s:ByteArray} {done:List Nat} {f i:Nat} {ah:Bool} (h:Went s done f i ah) (hi:i < s.size) (hn:(pt s i).2=0):pts s=none:=by
 obtain ⟨h1,h2,h3,h4⟩:=h
 obtain ⟨g,rfl⟩:∃ g,f=g+1:=⟨f - 1,by omega⟩
 rw [h4]
 simp [dec,hi,hn]
theorem went_pair {s:ByteArray} {done:List Nat} {f i:Nat} {ah:Bool} (h:Went s done f i ah) (hi:i < s.size) (ha:ah=true) (hl:isLo (pt s i).1=true):pts s=none:=by
 obtain ⟨h1,h2,h3,h4⟩:=h
 obtain ⟨g,rfl⟩:∃ g,f=g+1:=⟨f - 1,by omega⟩
 rw [h4]
 simp [dec,hi,ha,hl]
theorem pt_sur {s:ByteArray} {i:Nat} (h:surB s i=true):pt s i=(surV s i,3):=by unfold pt;rw [if_pos h]
theorem pt_none {s:ByteArray} {i:Nat} (h:surB s i=false) (h2:Utf8.decode s i=(65533,1)):pt s i=(0,0):=by
 unfold pt;rw [if_neg (by simp [h]),if_pos h2]
theorem pt_dec {s:ByteArray} {i:Nat} (h2:¬ Utf8.decode s i=(65533,1)):pt s i=Utf8.decode s i:=by
 unfold pt
 rw [if_neg (fun h=>h2 (decode_sur h).1),if_neg h2]
def un (p:Nat):List Nat:=if p < 65536 then [p] else [55296+(p - 65536) / 1024,56320+(p - 65536) % 1024]
def uns (l:List Nat):List Nat:=l.flatMap un
def units (s:ByteArray):List Nat:=((pts s).map uns).getD []
theorem un_small {p:Nat} (h:p < 65536):un p=[p]:=if_pos h
theorem un_great {p:Nat} (h:¬ p < 65536):un p=[55296+(p - 65536) / 1024,56320+(p - 65536) % 1024]:=if_neg h
theorem un_len (p:Nat):(un p).length=if p < 65536 then 1 else 2:=by unfold un;split <;> rfl
theorem uns_snoc (l:List Nat) (p:Nat):uns (l++[p])=uns l++un p:=by simp [uns]
theorem uns_le (l:List Nat):(uns l).length≤2*l.length:=by
 induction l with
 | nil=>simp [uns]
 | cons a r ih =>
  have h1:uns (a :: r)=un a++uns r:=by simp [uns]
  have h2:=un_len a
  rw [h1,List.length_append,List.length_cons]
  split at h2 <;> omega
theorem dec_len (s:ByteArray):∀ f i ah l,dec s f i ah=some l→i≤s.size→(∀ j,j < s.size→j+(pt s j).2≤s.size)→l.length+i≤s.size:=by
 intro f
 induction f with
 | zero=>intro i ah l h hi _;simp [dec] at h;subst h;simpa using hi
 | succ f ih =>
  intro i ah l h hi hpt
  simp only [dec] at h
  split at h
  ·rename_i hlt
   split at h
   ·simp at h
   ·rename_i hn
    simp only [Option.map_eq_some_iff] at h
    obtain ⟨r,hr,rfl⟩:=h
    have h2:=ih _ _ r hr (hpt i hlt) hpt
    have:(pt s i).2 ≠ 0:=fun x=>hn (.inl x)
    simp only [List.length_cons]
    omega
  ·simp at h;subst h;simpa using hi
theorem pt_le (s:ByteArray) (i:Nat) (h:i < s.size):i+(pt s i).2≤s.size:=by
 unfold pt
 split
 ·rename_i h';exact (surB_iff h').1
 ·split
  ·simp;omega
  ·rename_i h2
   rcases decode_cases s i h with h3 |h3
   ·exact absurd h3 h2
   ·exact h3.2.1
theorem pts_len {s:ByteArray} {l:List Nat} (h:pts s=some l):l.length≤s.size:=by
 have:=dec_len s _ _ _ l h (Nat.zero_le _) (pt_le s)
 omega
end Go.Proofs.YtkadkmnolkkhgaaGreatDoor.Uni

/-
 The small functions of package units: what each call gives.
-/
namespace Go.Proofs.YtkadkmnolkkhgaaGreatDoor.Uni
open Go.RowKit
theorem gB (s:ByteArray):∀ (n:Nat) (h:n < s.size),((s[n]'h).toNat:Int)=((B s n:Nat):Int):=fun n h=>by rw [B_get s n h]
def wd (p:Nat):Nat:=if p < 65536 then 1 else 2
end Go.Proofs.YtkadkmnolkkhgaaGreatDoor.Uni

/-
 units.points: what it gives for whatever visitor keeps its own invariant.
-/
namespace Go.Proofs.YtkadkmnolkkhgaaGreatDoor.Uni
open Go.RowKit
end Go.Proofs.YtkadkmnolkkhgaaGreatDoor.Uni

/-
 units.Of, units.Right and units.Len, by their visitors.
-/
namespace Go.Proofs.YtkadkmnolkkhgaaGreatDoor.Uni
open Go.RowKit
def uc (l:List Nat):List Value:=l.map fun n:Nat=>Value.int .u16 (n:Int)
theorem uc_append (a b:List Nat):uc (a++b)=uc a++uc b:=by simp [uc]
theorem info32:(Tryz.prog.info? 192).map (fun i=>(i.zero,i.size,i.bytes))=some (some (.int .u16 0),1,2):=by kernel_rfl
theorem own_shape {w:World} {base e1:Nat} {v:Value} {n:Nat} {xs:List Value} (h:w.ownsRow base e1 1 v n xs):∃ a c,v = .slice a n c:=by
 rcases h.2 with ⟨rfl,rfl⟩ |⟨g,cap,cur,rfl,_⟩
 ·exact ⟨none,0,rfl⟩
 ·exact ⟨_,cap,rfl⟩
theorem own_ne {w:World} {base e1 e2:Nat} {v:Value} {n c:Nat} {xs:List Value} {cs:Array Value} {fz:Nat × Nat} (h:w.ownsRow base e1 1 v n xs) (hc:w.heap[c]? = some (.cells cs e2 fz)) (hne:e1 ≠ e2):v.ownBlock ≠ some c:=by
 rcases h.2 with ⟨rfl,_⟩ |⟨g,cap,cur,rfl,_,hg,_⟩
 ·simp [Value.ownBlock]
 ·simp [Value.ownBlock]
  rintro rfl
  rw [hg] at hc
  simp at hc
  exact hne hc.2.1
def OfPost (s:ByteArray) (w:World) (e:Ending) (w':World):Prop :=
 ∃ v,e = .returned v∧w'.ownsRow w.heap.size 192 1 v (units s).length (uc (units s))∧Below w.heap.size w w'
end Go.Proofs.YtkadkmnolkkhgaaGreatDoor.Uni

/-
 units.Len by its visitor.
-/
namespace Go.Proofs.YtkadkmnolkkhgaaGreatDoor.Uni
open Go.RowKit
end Go.Proofs.YtkadkmnolkkhgaaGreatDoor.Uni

/-
 Plain mathematics of a code point's decoding by the reference's steps.
-/
namespace Go.Proofs.YtkadkmnolkkhgaaGreatDoor.Uni
def acc (s:ByteArray) (i c0:Nat):Nat→Nat
 | 0=>c0
 | 1=>c0
 | k+2=>acc s i c0 (k+1)*64+B s (i+(k+1)) % 64
theorem acc_succ (s:ByteArray) (i c0 k:Nat) (h:1≤k):acc s i c0 (k+1)=acc s i c0 k*64+B s (i+k) % 64:=by
 obtain ⟨j,rfl⟩:∃ j,k=j+1:=⟨k - 1,by omega⟩
 rfl
def Cls (b n c0 low:Nat):Prop :=
 (194≤b∧b≤223∧n=2∧c0=b % 32∧low=128)∨(224≤b∧b≤239∧n=3∧c0=b % 16∧low=2048)∨(240≤b∧b≤244∧n=4∧c0=b % 8∧low=65536)
def Conts (s:ByteArray) (i k:Nat):Prop:=∀ q,1≤q→q < k→B s (i+q) / 64=2
theorem acc_le (s:ByteArray) (i c0:Nat) (h:c0≤31):∀ k,k≤4→acc s i c0 k≤32*262144:=by
 intro k hk
 have a1:acc s i c0 1=c0:=rfl
 have a2:acc s i c0 2=acc s i c0 1*64+B s (i+1) % 64:=rfl
 have a3:acc s i c0 3=acc s i c0 2*64+B s (i+2) % 64:=rfl
 have a4:acc s i c0 4=acc s i c0 3*64+B s (i+3) % 64:=rfl
 have e:k=0∨k=1∨k=2∨k=3∨k=4:=by omega
 rcases e with rfl |rfl |rfl |rfl |rfl
 ·show c0≤_;omega
 all_goals omega
theorem pt_ascii {s:ByteArray} {i:Nat} (h:B s i < 128):pt s i=(B s i,1):=by
 unfold pt
 have h1:surB s i=false:=by
  cases e:surB s i with
  | false=>rfl
  | true=>have:=surB_iff e;omega
 have hd:Utf8.decode s i=(B s i,1):=by rw [dec_eq,if_pos h]
 rw [if_neg (by rw [h1];simp),hd]
 rw [if_neg (by simp;omega)]
theorem pt_ok {s:ByteArray} {i n c0 low:Nat} (h:Cls (B s i) n c0 low) (hs:i+n≤s.size) (hc:Conts s i n) (hl:low≤acc s i c0 n) (hm:acc s i c0 n≤1114111):pt s i=(acc s i c0 n,n):=by
 have b0:=B_lt s i
 have b1:=B_lt s (i+1)
 have b2:=B_lt s (i+2)
 have b3:=B_lt s (i+3)
 rcases h with ⟨h1,h2,rfl,rfl,rfl⟩ |⟨h1,h2,rfl,rfl,rfl⟩ |⟨h1,h2,rfl,rfl,rfl⟩
 ·have k1:=hc 1 (by omega) (by omega)
  have e:acc s i (B s i % 32) 2=B s i % 32*64+B s (i+1) % 64:=rfl
  rw [e] at hl hm ⊢
  have hd:Utf8.decode s i=(B s i % 32*64+B s (i+1) % 64,2):=by rw [dec_eq,if_neg (by omega),if_pos (by omega),if_pos (by omega)]
  rw [pt_dec (by rw [hd];simp),hd]
 ·have k1:=hc 1 (by omega) (by omega)
  have k2:=hc 2 (by omega) (by omega)
  have e:acc s i (B s i % 16) 3=(B s i % 16*64+B s (i+1) % 64)*64+B s (i+2) % 64:=rfl
  rw [e] at hl hm ⊢
  unfold pt
  cases hsur:surB s i with
  | true =>
   have:=surB_iff hsur
   rw [if_pos rfl]
   unfold surV
   simp
   omega
  | false =>
   have hn:=surB_not hsur
   have hd:Utf8.decode s i=((B s i % 16)*4096+B s (i+1) % 64*64+B s (i+2) % 64,3):=by rw [dec_eq,if_neg (by omega),if_neg (by omega),if_pos (by omega),if_pos (by omega)]
   rw [if_neg (by simp),hd,if_neg (by simp)]
   simp
   omega
 ·have k1:=hc 1 (by omega) (by omega)
  have k2:=hc 2 (by omega) (by omega)
  have k3:=hc 3 (by omega) (by omega)
  have e:acc s i (B s i % 8) 4=((B s i % 8*64+B s (i+1) % 64)*64+B s (i+2) % 64)*64+B s (i+3) % 64:=rfl
  rw [e] at hl hm ⊢
  have hd:Utf8.decode s i=((B s i % 8)*262144+B s (i+1) % 64*4096+B s (i+2) % 64*64+B s (i+3) % 64,4):=by rw [dec_eq,if_neg (by omega),if_neg (by omega),if_neg (by omega),if_pos (by omega),if_pos (by omega)]
  rw [pt_dec (by rw [hd];simp),hd]
  simp
  omega
theorem pt_out {s:ByteArray} {i:Nat} (h1:128≤B s i) (h2:∀ n c0 low,¬ Cls (B s i) n c0 low):pt s i=(0,0):=by
 have b0:=B_lt s i
 have b1:=B_lt s (i+1)
 have n2:¬ (194≤B s i∧B s i≤223):=fun h=>h2 2 _ 128 (.inl ⟨h.1,h.2,rfl,rfl,rfl⟩)
 have n3:¬ (224≤B s i∧B s i≤239):=fun h=>h2 3 _ 2048 (.inr (.inl ⟨h.1,h.2,rfl,rfl,rfl⟩))
 have n4:¬ (240≤B s i∧B s i≤244):=fun h=>h2 4 _ 65536 (.inr (.inr ⟨h.1,h.2,rfl,rfl,rfl⟩))
 have hn:surB s i=false:=by
  cases e:surB s i with
  | false=>rfl
  | true=>have:=surB_iff e;omega
 refine pt_none hn ?_
 rw [dec_eq,if_neg (by omega)]
 by_cases c2:B s i / 32=6∧i+1 < s.size∧B s (i+1) / 64=2
 ·rw [if_pos c2,if_neg (by omega)]
 ·rw [if_neg c2,if_neg (by omega)]
  split
  ·rw [if_neg (by omega)]
  ·rfl
theorem pt_bad {s:ByteArray} {i n c0 low:Nat} (h:Cls (B s i) n c0 low) (hb:¬ (i+n≤s.size∧Conts s i n∧low≤acc s i c0 n∧acc s i c0 n≤1114111)):pt s i=(0,0):=by
 have b0:=B_lt s i
 have b1:=B_lt s (i+1)
 have b2:=B_lt s (i+2)
 have b3:=B_lt s (i+3)
 rcases h with ⟨h1,h2,rfl,rfl,rfl⟩ |⟨h1,h2,rfl,rfl,rfl⟩ |⟨h1,h2,rfl,rfl,rfl⟩
 ·have e:acc s i (B s i % 32) 2=B s i % 32*64+B s (i+1) % 64:=rfl
  rw [e] at hb
  have hn:surB s i=false:=by
   cases e:surB s i with
   | false=>rfl
   | true=>have:=surB_iff e;omega
  have hc:¬ (i+2≤s.size∧B s (i+1) / 64=2):=fun x=>hb ⟨x.1,(fun q q1 q2=>by
   obtain rfl:q=1:=by omega
   exact x.2),by omega,by omega⟩
  refine pt_none hn ?_
  rw [dec_eq,if_neg (by omega),if_neg (by omega),if_neg (by omega),if_neg (by omega)]
 ·have e:acc s i (B s i % 16) 3=(B s i % 16*64+B s (i+1) % 64)*64+B s (i+2) % 64:=rfl
  rw [e] at hb
  have hc:¬ (i+3≤s.size∧B s (i+1) / 64=2∧B s (i+2) / 64=2∧2048≤(B s i % 16*64+B s (i+1) % 64)*64+B s (i+2) % 64):=fun x=>hb ⟨x.1,(fun q q1 q2=>by
   obtain rfl |rfl:q=1∨q=2:=by omega
   ·exact x.2.1
   ·exact x.2.2.1),x.2.2.2,by omega⟩
  have hn:surB s i=false:=by
   cases e:surB s i with
   | false=>rfl
   | true=>have:=surB_iff e;omega
  refine pt_none hn ?_
  rw [dec_eq,if_neg (by omega),if_neg (by omega)]
  split
  ·rw [if_neg (by omega)]
  ·rw [if_neg (by omega)]
 ·have e:acc s i (B s i % 8) 4=((B s i % 8*64+B s (i+1) % 64)*64+B s (i+2) % 64)*64+B s (i+3) % 64:=rfl
  rw [e] at hb
  have hc:¬ (i+4≤s.size∧B s (i+1) / 64=2∧B s (i+2) / 64=2∧B s (i+3) / 64=2∧65536≤((B s i % 8*64+B s (i+1) % 64)*64+B s (i+2) % 64)*64+B s (i+3) % 64∧((B s i % 8*64+B s (i+1) % 64)*64+B s (i+2) % 64)*64+B s (i+3) % 64≤1114111):=fun x=>hb ⟨x.1,(fun q q1 q2=>by
   obtain rfl |rfl |rfl:q=1∨q=2∨q=3:=by omega
   ·exact x.2.1
   ·exact x.2.2.1
   ·exact x.2.2.2.1),x.2.2.2.2.1,x.2.2.2.2.2⟩
  have hn:surB s i=false:=by
   cases e:surB s i with
   | false=>rfl
   | true=>have:=surB_iff e;omega
  refine pt_none hn ?_
  rw [dec_eq,if_neg (by omega),if_neg (by omega),if_neg (by omega)]
  split
  ·rw [if_neg (by omega)]
  ·rfl
end Go.Proofs.YtkadkmnolkkhgaaGreatDoor.Uni
