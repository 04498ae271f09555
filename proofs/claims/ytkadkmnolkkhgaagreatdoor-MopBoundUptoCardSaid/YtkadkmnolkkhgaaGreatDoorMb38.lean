/-
 Texts of this seat in build order: MwMayL, MwRightE, MwChainM, MwFirst, MwOpenC, MwSetM, MwChainL, RgGuard.
-/
import Derived.Test.YtkadkmnolkkhgaaGreatDoorMb37
import Derived.Test.YtkadkmnolkkhgaaGreatDoorMb20
import Derived.Test.YtkadkmnolkkhgaaGreatDoorRows
import Derived.ProofKit
import Derived.OpenShut
import Derived.ChangeArms
import Derived.Deep.Slices
import Derived.Lib.SmallJoins
import Derived.Test.YtkadkmnolkkhgaaGreatDoorMb06
import Derived.Test.YtkadkmnolkkhgaaGreatDoorMb36
import Derived.Deep.LoopGhost
import Derived.Test.YtkadkmnolkkhgaaGreatDoorMb10
/-
 May, exactly, whatever its list.
-/
set_option linter.unusedVariables false
set_option linter.unusedSimpArgs false
namespace Go.Proofs.YtkadkmnolkkhgaaGreatDoor.Mw
open Go Go.RowKit Go.Maps Go.Shelf Keys Hp Mo
open Des (Vl Ds zeroV zeroD dcs dcs_size dcs_one accF rigF appF eqV rigR rigr_any)
open Arrs (En ecs ecs_0 ecs_10)
def actL (m o:Int) (a:Aq) (l:Value):Array Value:=#[.int .i64 m,.int .i64 o,.string a.k.1,.int .i64 a.k.2,.int .i64 a.v.k,.int .i64 a.v.n,.string a.v.s,.int .i64 a.r.k,.int .i64 a.r.n,.string a.r.s,.bool a.d.hv,.bool a.d.hg,.bool a.d.hs,.bool a.d.hw,.bool a.d.he,.bool a.d.hc,.int .i64 a.d.v.k,.int .i64 a.d.v.n,.string a.d.v.s,.int .i64 a.d.g.k,.int .i64 a.d.g.n,.string a.d.g.s,.int .i64 a.d.s.k,.int .i64 a.d.s.n,.string a.d.s.s,.bool a.d.w,.bool a.d.e,.bool a.d.c,l]
theorem actL_a {w:World} {b:Nat} {m o:Int} {a:Aq} {l:Value} {T:TypeId} (h:Blk w b (actL m o a l) T):(Ld 52 (.pointer (some ⟨b,2,none⟩))).run Tryz.prog w = .ok (.agg (acs a l)) w:=by
 have:=run_loadAt_mid (P:=Tryz.prog) w b 2 52 (acs a l).toList _ (range_mid h [.int .i64 m,.int .i64 o] (acs a l).toList [] rfl) Tryz.underlying52 rfl sizeA
 simpa [Ld] using this
theorem run_stAkL (w:World) (a o:Aq) (aa:Option Addr) (n c:Nat):(St 52 (.pointer (some ⟨w.heap.size,0,none⟩)) (.agg (acs a (.slice aa n c)))).run Tryz.prog (w.alloc (.cells (acs o nilS) 52)) = .ok () (w.alloc (.cells (acs a (.slice aa n c)) 52)):=by
 rw [run_st_row (Blk.new w (acs o nilS) _) (show _=some (acs a (.slice aa n c)).size from sizeA) rfl (by simp [acs,nilS,Value.oneCell']),setRow_new]
theorem run_bdActL (w:World) (q:Aq) (l:Value):(Bd 54 #[(2,.agg (acs q l))]).run Tryz.prog w = .ok (.agg (actL 0 0 q l)) w:=run_build w _ _ _ (by kernel_rfl)
def mayB (a:Aq) (vs:List Vl):Bool:=vs.all (fun v=>valB v 1) && (decide (vs.length≤8) && (valB a.v 1 && (valB a.r 1 && (rigR a.d && (sideB a.d 1 && (decide (0≤a.k.2) && ((a.k.2 == 0 || a.k.1.toList.isEmpty) && (decide (a.k.1.size≤100) && (Uni.pts a.k.1).isSome))))))))
theorem all_no {vs:List Vl} {i:Nat} {v:Vl} (hv:vs[i]? = some v) (h:valB v 1=false):vs.all (fun v=>valB v 1)=false:=by
 cases hx:vs.all (fun v=>valB v 1)
 ·rfl
 ·have:=List.all_eq_true.1 hx v (List.mem_of_getElem? hv)
  rw [h] at this
  cases this
attribute [local go_sem ↓] ldV stV alV bxV bdV ldA stA bxA bdA ldD stD alD bxDe alAk bxAct
attribute [local irreducible] dcs vcs acs actL
attribute [local go_sem] run_bx run_alAk run_alD
section
set_option maxRecDepth 100000 in
set_option maxHeartbeats 8000000 in
theorem may_list (m o:Int) (a:Aq) (aa:Option Addr) (cl:Nat) (vs:List Vl) (hn:vs.length≤1000000) (hs:∀ v ∈ vs,v.s.size≤2000000) (h1:a.k.1.size≤2000000) (h2:a.v.s.size≤2000000) (h3:a.r.s.size≤2000000) (h4:a.d.v.s.size≤2000000) (h5:a.d.g.s.size≤2000000) (h6:a.d.s.s.size≤2000000) (w:World) (hvs:VsAt w.heap.size aa vs w) :
  Calls Tryz.prog 18 #[.agg (actL m o a (.slice aa vs.length cl)),.int .i64 1] w fun e w'=>e = .returned (.bool (mayB a vs))∧Below w.heap.size w w':=by
 obtain ⟨Bm,hBm⟩:∃ b,mayB a vs=b:=⟨_,rfl⟩
 rw [hBm]
 have HBM:=Lib.hid hBm
 clear hBm
 have x0:=Blk.new w (actL m o a (.slice aa vs.length cl)) 54
 have la:=actL_a x0
 have B0:Below w.heap.size w (w.alloc (.cells (actL m o a (.slice aa vs.length cl)) 54)):=(Below.refl _ w).alloc (Nat.le_refl _) _
 obtain ⟨w2,hw2⟩:∃ w2,(w.alloc (.cells (actL m o a (.slice aa vs.length cl)) 54)).alloc (.cells (acs a (.slice aa vs.length cl)) 52)=w2:=⟨_,rfl⟩
 have st2:=run_stAkL (w.alloc (.cells (actL m o a (.slice aa vs.length cl)) 54)) a zeroQ aa vs.length cl
 rw [hw2] at st2
 have z1:(w.alloc (.cells (actL m o a (.slice aa vs.length cl)) 54)).heap.size=w.heap.size+1:=by simp
 rw [z1] at st2
 have B2:Below w.heap.size w w2:=by rw [← hw2];exact B0.alloc B0.size _
 have x2:Blk w2 (w.heap.size+1) (acs a (.slice aa vs.length cl)) 52:=by rw [← hw2,← z1];exact Blk.new _ _ _
 have HX:=Lib.hid x2
 have HB:=Lib.hid B2
 have HN:=Lib.hid hn
 have HS:=Lib.hid hs
 have HV:=Lib.hid hvs
 have H1:=Lib.hid h1
 have H2:=Lib.hid h2
 have H3:=Lib.hid h3
 have H4:=Lib.hid h4
 have H5:=Lib.hid h5
 have H6:=Lib.hid h6
 clear x0 B0 hw2 x2 B2 hn hs hvs h1 h2 h3 h4 h5 h6
 go_enter Tryz.func18,Tryz.ntmps18
 go_wp2
 go_loopg [6] vs.length (fun g s wr=>∃ i:Nat,i≤vs.length∧g=vs.length - i∧s = .int .i64 i∧(vs.take i).all (fun v=>valB v 1)=true∧Blk wr (w.heap.size+1) (acs a (.slice aa vs.length cl)) 52∧Below w.heap.size w wr)
 case atStart=>exact ⟨0,by omega,rfl,rfl,rfl,HX.out,HB.out⟩
 case round =>
  rename World=>wr
  obtain ⟨i,hi,rfl,rfl,hall,hx,hB⟩:=hrel
  have k26:wr.cell? ⟨w.heap.size+1,26,none⟩=some (.slice aa vs.length cl):=ask_l hx
  have HX2:=Lib.hid hx
  have HB2:=Lib.hid hB
  have HALL:=Lib.hid hall
  by_cases hil:i < vs.length
  ·obtain ⟨v,hv⟩:∃ v,vs[i]? = some v:=⟨vs[i],List.getElem?_eq_getElem hil⟩
   rcases HV.out.below hB with h |⟨b,off,rfl,hlt,hr⟩
   ·subst h;simp at hil
   have hrv:wr.rangeAt b (off+i*3) (vcs v).toList:=fun j u hj=>by
    have hc:=hr (i*3+j) u (cellsV_at hv hj)
    rw [show off+i*3+j=off+(i*3+j) by omega];exact hc
   have lv:=run_ldVm hrv
   have hil2:(i:Int) < vs.length:=by omega
   have hva:=fun w=>value_any v 1 (HS.out v (List.mem_of_getElem? hv)) w
   have HVV:=Lib.hid hv
   have HIL:=Lib.hid hil
   have hw1:wrap64 ((i:Int)+1)=((i+1:Nat):Int):=by have:=HN.out;unfold wrap64;omega
   clear hv hr hrv hlt hx hB hall hil
   obtain ⟨q,hq⟩:∃ q,valB v 1=q:=⟨_,rfl⟩
   rw [hq] at hva
   have HQ:=Lib.hid hq
   clear hq
   cases q
   ·go_wp2_with (go_at_call 15;(with_reducible refine (hva _).mono ?_);rintro e v1 ⟨rfl,hv1⟩;have HB3:=Lib.hid (HB2.out.trans (hv1.mono HB2.out.size));clear hv1)
    go_ret
    refine ⟨?_,HB3.out⟩
    rw [← HBM.out]
    unfold mayB
    rw [all_no HVV.out HQ.out]
    rfl
   ·go_wp2_with (go_at_call 15;(with_reducible refine (hva _).mono ?_);rintro e v1 ⟨rfl,hv1⟩;have HB3:=Lib.hid (HB2.out.trans (hv1.mono HB2.out.size));have HX3:=Lib.hid (HX2.out.call hv1);clear hv1)
    go_roundg (vs.length - (i+1))
    case measure=>have:=HIL.out;omega
    case rel =>
     refine ⟨i+1,by have:=HIL.out;omega,rfl,by go_num,?_,HX3.out,HB3.out⟩
     rw [List.take_add_one,HVV.out]
     simp only [Option.toList,List.all_append,List.all_cons,List.all_nil,HALL.out,HQ.out,Bool.and_self]
  ·obtain rfl:i=vs.length:=by omega
   rw [List.take_length] at hall
   have HAL:=Lib.hid hall
   clear hall hil HALL
   have hva:=fun w=>value_any a.v 1 H2.out w
   have hvr:=fun w=>value_any a.r 1 H3.out w
   have hrd:∀ w,Calls Tryz.prog 31 #[.agg (dcs a.d)] w fun en w'=>en = .returned (.bool (rigR a.d))∧Below w.heap.size w w':=fun w=>rigr_any a.d w
   have hsd:=fun w=>side_any a.d 1 H4.out H5.out H6.out w
   have hrt:=fun w=>Uni.rightText_any a.k.1 w (by have:=H1.out;omega)
   have ld:=ask_d hx
   have st3:=run_stD wr a.d zeroD
   obtain ⟨w3,hw3⟩:∃ w3,wr.alloc (.cells (dcs a.d) 34)=w3:=⟨_,rfl⟩
   have B3:Below w.heap.size w w3:=by rw [← hw3];exact hB.alloc hB.size _
   have x3:Blk w3 (w.heap.size+1) (acs a (.slice aa vs.length cl)) 52:=by rw [← hw3];exact hx.old _
   have d3:Blk w3 wr.heap.size (dcs a.d) 34:=by rw [← hw3];exact Blk.new _ _ _
   rw [hw3] at st3
   have c26:w3.cell? ⟨w.heap.size+1,26,none⟩=some (.slice aa vs.length cl):=ask_l x3
   have lv:=ask_v x3
   have HX3:=Lib.hid x3
   have HD3:=Lib.hid d3
   have HB3:=Lib.hid B3
   clear hw3 B3 x3 d3 HB HX hx hB HX2 HB2
   obtain ⟨c2,hc2⟩:∃ q,valB a.v 1=q:=⟨_,rfl⟩
   obtain ⟨c3,hc3⟩:∃ q,valB a.r 1=q:=⟨_,rfl⟩
   obtain ⟨c4,hc4⟩:∃ q,rigR a.d=q:=⟨_,rfl⟩
   obtain ⟨c5,hc5⟩:∃ q,sideB a.d 1=q:=⟨_,rfl⟩
   obtain ⟨c9,hc9⟩:∃ q,(Uni.pts a.k.1).isSome=q:=⟨_,rfl⟩
   rw [hc2] at hva
   rw [hc3] at hvr
   rw [hc4] at hrd
   rw [hc5] at hsd
   rw [hc9] at hrt
   have hm:Bm=(decide (vs.length≤8) && (c2 && (c3 && (c4 && (c5 && (decide (0≤a.k.2) && ((a.k.2 == 0 || a.k.1.toList.isEmpty) && (decide (a.k.1.size≤100) && c9)))))))):=by
    rw [← HBM.out]
    unfold mayB
    rw [HAL.out,hc2,hc3,hc4,hc5,hc9,Bool.true_and]
   have HM:=Lib.hid hm
   clear hc2 hc3 hc4 hc5 hc9 hm
   by_cases z1:vs.length≤8
   rotate_left
   ·have d1:decide ((vs.length:Int)≤8)=false:=by simp;omega
    have d1':decide (vs.length≤8)=false:=decide_eq_false z1
    have HZ1:=Lib.hid d1'
    clear z1
    go_wp2_with (first
     | (go_at_call 15;(first |(with_reducible refine (hva _).mono ?_) |(with_reducible refine (hvr _).mono ?_));rintro e v1 ⟨rfl,hv1⟩;have xv:=HX3.out.call hv1;have lr:=ask_r xv;have dv:=HD3.out.call hv1;have lD4:(Ld 34 (.pointer (some ⟨wr.heap.size,0,none⟩))).run Tryz.prog v1 = .ok (.agg (dcs a.d)) v1:=run_ldDm (range_mid dv [] (dcs a.d).toList [] (by simp));have HD3:=Lib.hid dv;have HX3:=Lib.hid xv;have HB3:=Lib.hid (HB3.out.trans (hv1.mono HB3.out.size));clear dv xv hv1)
     | (go_at_call 31;(with_reducible refine (hrd _).mono ?_);rintro e v1 ⟨rfl,hv1⟩;have xv:=HX3.out.call hv1;have dv:=HD3.out.call hv1;have lD4:(Ld 34 (.pointer (some ⟨wr.heap.size,0,none⟩))).run Tryz.prog v1 = .ok (.agg (dcs a.d)) v1:=run_ldDm (range_mid dv [] (dcs a.d).toList [] (by simp));have HD3:=Lib.hid dv;have HX3:=Lib.hid xv;have HB3:=Lib.hid (HB3.out.trans (hv1.mono HB3.out.size));clear dv xv hv1)
     | (go_at_call 47;(with_reducible refine (hsd _).mono ?_);rintro e v1 ⟨rfl,hv1⟩;have xv:=HX3.out.call hv1;have k0:=aq_0 xv;have k1:=aq_1 xv;have HX3:=Lib.hid xv;have HB3:=Lib.hid (HB3.out.trans (hv1.mono HB3.out.size));clear xv hv1)
     | (go_at_call 35;(with_reducible refine (hrt _).mono ?_);rintro e v1 ⟨rfl,hv1⟩;have HB3:=Lib.hid (HB3.out.trans (hv1.mono HB3.out.size));clear hv1))
    go_ret
    exact ⟨by rw [HM.out];rw [HZ1.out];rfl,HB3.out⟩
   have d1:decide ((vs.length:Int)≤8)=true:=by simp;omega
   have d1':decide (vs.length≤8)=true:=decide_eq_true z1
   have HZ1:=Lib.hid d1'
   clear z1
   cases c2
   ·go_wp2_with (first
     | (go_at_call 15;(first |(with_reducible refine (hva _).mono ?_) |(with_reducible refine (hvr _).mono ?_));rintro e v1 ⟨rfl,hv1⟩;have xv:=HX3.out.call hv1;have lr:=ask_r xv;have dv:=HD3.out.call hv1;have lD4:(Ld 34 (.pointer (some ⟨wr.heap.size,0,none⟩))).run Tryz.prog v1 = .ok (.agg (dcs a.d)) v1:=run_ldDm (range_mid dv [] (dcs a.d).toList [] (by simp));have HD3:=Lib.hid dv;have HX3:=Lib.hid xv;have HB3:=Lib.hid (HB3.out.trans (hv1.mono HB3.out.size));clear dv xv hv1)
     | (go_at_call 31;(with_reducible refine (hrd _).mono ?_);rintro e v1 ⟨rfl,hv1⟩;have xv:=HX3.out.call hv1;have dv:=HD3.out.call hv1;have lD4:(Ld 34 (.pointer (some ⟨wr.heap.size,0,none⟩))).run Tryz.prog v1 = .ok (.agg (dcs a.d)) v1:=run_ldDm (range_mid dv [] (dcs a.d).toList [] (by simp));have HD3:=Lib.hid dv;have HX3:=Lib.hid xv;have HB3:=Lib.hid (HB3.out.trans (hv1.mono HB3.out.size));clear dv xv hv1)
     | (go_at_call 47;(with_reducible refine (hsd _).mono ?_);rintro e v1 ⟨rfl,hv1⟩;have xv:=HX3.out.call hv1;have k0:=aq_0 xv;have k1:=aq_1 xv;have HX3:=Lib.hid xv;have HB3:=Lib.hid (HB3.out.trans (hv1.mono HB3.out.size));clear xv hv1)
     | (go_at_call 35;(with_reducible refine (hrt _).mono ?_);rintro e v1 ⟨rfl,hv1⟩;have HB3:=Lib.hid (HB3.out.trans (hv1.mono HB3.out.size));clear hv1))
    go_ret
    exact ⟨by rw [HM.out];simp,HB3.out⟩
   cases c3
   ·go_wp2_with (first
     | (go_at_call 15;(first |(with_reducible refine (hva _).mono ?_) |(with_reducible refine (hvr _).mono ?_));rintro e v1 ⟨rfl,hv1⟩;have xv:=HX3.out.call hv1;have lr:=ask_r xv;have dv:=HD3.out.call hv1;have lD4:(Ld 34 (.pointer (some ⟨wr.heap.size,0,none⟩))).run Tryz.prog v1 = .ok (.agg (dcs a.d)) v1:=run_ldDm (range_mid dv [] (dcs a.d).toList [] (by simp));have HD3:=Lib.hid dv;have HX3:=Lib.hid xv;have HB3:=Lib.hid (HB3.out.trans (hv1.mono HB3.out.size));clear dv xv hv1)
     | (go_at_call 31;(with_reducible refine (hrd _).mono ?_);rintro e v1 ⟨rfl,hv1⟩;have xv:=HX3.out.call hv1;have dv:=HD3.out.call hv1;have lD4:(Ld 34 (.pointer (some ⟨wr.heap.size,0,none⟩))).run Tryz.prog v1 = .ok (.agg (dcs a.d)) v1:=run_ldDm (range_mid dv [] (dcs a.d).toList [] (by simp));have HD3:=Lib.hid dv;have HX3:=Lib.hid xv;have HB3:=Lib.hid (HB3.out.trans (hv1.mono HB3.out.size));clear dv xv hv1)
     | (go_at_call 47;(with_reducible refine (hsd _).mono ?_);rintro e v1 ⟨rfl,hv1⟩;have xv:=HX3.out.call hv1;have k0:=aq_0 xv;have k1:=aq_1 xv;have HX3:=Lib.hid xv;have HB3:=Lib.hid (HB3.out.trans (hv1.mono HB3.out.size));clear xv hv1)
     | (go_at_call 35;(with_reducible refine (hrt _).mono ?_);rintro e v1 ⟨rfl,hv1⟩;have HB3:=Lib.hid (HB3.out.trans (hv1.mono HB3.out.size));clear hv1))
    go_ret
    exact ⟨by rw [HM.out];simp,HB3.out⟩
   cases c4
   ·go_wp2_with (first
     | (go_at_call 15;(first |(with_reducible refine (hva _).mono ?_) |(with_reducible refine (hvr _).mono ?_));rintro e v1 ⟨rfl,hv1⟩;have xv:=HX3.out.call hv1;have lr:=ask_r xv;have dv:=HD3.out.call hv1;have lD4:(Ld 34 (.pointer (some ⟨wr.heap.size,0,none⟩))).run Tryz.prog v1 = .ok (.agg (dcs a.d)) v1:=run_ldDm (range_mid dv [] (dcs a.d).toList [] (by simp));have HD3:=Lib.hid dv;have HX3:=Lib.hid xv;have HB3:=Lib.hid (HB3.out.trans (hv1.mono HB3.out.size));clear dv xv hv1)
     | (go_at_call 31;(with_reducible refine (hrd _).mono ?_);rintro e v1 ⟨rfl,hv1⟩;have xv:=HX3.out.call hv1;have dv:=HD3.out.call hv1;have lD4:(Ld 34 (.pointer (some ⟨wr.heap.size,0,none⟩))).run Tryz.prog v1 = .ok (.agg (dcs a.d)) v1:=run_ldDm (range_mid dv [] (dcs a.d).toList [] (by simp));have HD3:=Lib.hid dv;have HX3:=Lib.hid xv;have HB3:=Lib.hid (HB3.out.trans (hv1.mono HB3.out.size));clear dv xv hv1)
     | (go_at_call 47;(with_reducible refine (hsd _).mono ?_);rintro e v1 ⟨rfl,hv1⟩;have xv:=HX3.out.call hv1;have k0:=aq_0 xv;have k1:=aq_1 xv;have HX3:=Lib.hid xv;have HB3:=Lib.hid (HB3.out.trans (hv1.mono HB3.out.size));clear xv hv1)
     | (go_at_call 35;(with_reducible refine (hrt _).mono ?_);rintro e v1 ⟨rfl,hv1⟩;have HB3:=Lib.hid (HB3.out.trans (hv1.mono HB3.out.size));clear hv1))
    go_ret
    exact ⟨by rw [HM.out];simp,HB3.out⟩
   cases c5
   ·go_wp2_with (first
     | (go_at_call 15;(first |(with_reducible refine (hva _).mono ?_) |(with_reducible refine (hvr _).mono ?_));rintro e v1 ⟨rfl,hv1⟩;have xv:=HX3.out.call hv1;have lr:=ask_r xv;have dv:=HD3.out.call hv1;have lD4:(Ld 34 (.pointer (some ⟨wr.heap.size,0,none⟩))).run Tryz.prog v1 = .ok (.agg (dcs a.d)) v1:=run_ldDm (range_mid dv [] (dcs a.d).toList [] (by simp));have HD3:=Lib.hid dv;have HX3:=Lib.hid xv;have HB3:=Lib.hid (HB3.out.trans (hv1.mono HB3.out.size));clear dv xv hv1)
     | (go_at_call 31;(with_reducible refine (hrd _).mono ?_);rintro e v1 ⟨rfl,hv1⟩;have xv:=HX3.out.call hv1;have dv:=HD3.out.call hv1;have lD4:(Ld 34 (.pointer (some ⟨wr.heap.size,0,none⟩))).run Tryz.prog v1 = .ok (.agg (dcs a.d)) v1:=run_ldDm (range_mid dv [] (dcs a.d).toList [] (by simp));have HD3:=Lib.hid dv;have HX3:=Lib.hid xv;have HB3:=Lib.hid (HB3.out.trans (hv1.mono HB3.out.size));clear dv xv hv1)
     | (go_at_call 47;(with_reducible refine (hsd _).mono ?_);rintro e v1 ⟨rfl,hv1⟩;have xv:=HX3.out.call hv1;have k0:=aq_0 xv;have k1:=aq_1 xv;have HX3:=Lib.hid xv;have HB3:=Lib.hid (HB3.out.trans (hv1.mono HB3.out.size));clear xv hv1)
     | (go_at_call 35;(with_reducible refine (hrt _).mono ?_);rintro e v1 ⟨rfl,hv1⟩;have HB3:=Lib.hid (HB3.out.trans (hv1.mono HB3.out.size));clear hv1))
    go_ret
    exact ⟨by rw [HM.out];simp,HB3.out⟩
   by_cases z6:0≤a.k.2
   rotate_left
   ·have d6:decide (0≤a.k.2)=false:=decide_eq_false z6
    have d6':decide (a.k.2 ≥ 0)=false:=decide_eq_false z6
    have HZ6:=Lib.hid d6
    clear z6
    go_wp2_with (first
     | (go_at_call 15;(first |(with_reducible refine (hva _).mono ?_) |(with_reducible refine (hvr _).mono ?_));rintro e v1 ⟨rfl,hv1⟩;have xv:=HX3.out.call hv1;have lr:=ask_r xv;have dv:=HD3.out.call hv1;have lD4:(Ld 34 (.pointer (some ⟨wr.heap.size,0,none⟩))).run Tryz.prog v1 = .ok (.agg (dcs a.d)) v1:=run_ldDm (range_mid dv [] (dcs a.d).toList [] (by simp));have HD3:=Lib.hid dv;have HX3:=Lib.hid xv;have HB3:=Lib.hid (HB3.out.trans (hv1.mono HB3.out.size));clear dv xv hv1)
     | (go_at_call 31;(with_reducible refine (hrd _).mono ?_);rintro e v1 ⟨rfl,hv1⟩;have xv:=HX3.out.call hv1;have dv:=HD3.out.call hv1;have lD4:(Ld 34 (.pointer (some ⟨wr.heap.size,0,none⟩))).run Tryz.prog v1 = .ok (.agg (dcs a.d)) v1:=run_ldDm (range_mid dv [] (dcs a.d).toList [] (by simp));have HD3:=Lib.hid dv;have HX3:=Lib.hid xv;have HB3:=Lib.hid (HB3.out.trans (hv1.mono HB3.out.size));clear dv xv hv1)
     | (go_at_call 47;(with_reducible refine (hsd _).mono ?_);rintro e v1 ⟨rfl,hv1⟩;have xv:=HX3.out.call hv1;have k0:=aq_0 xv;have k1:=aq_1 xv;have HX3:=Lib.hid xv;have HB3:=Lib.hid (HB3.out.trans (hv1.mono HB3.out.size));clear xv hv1)
     | (go_at_call 35;(with_reducible refine (hrt _).mono ?_);rintro e v1 ⟨rfl,hv1⟩;have HB3:=Lib.hid (HB3.out.trans (hv1.mono HB3.out.size));clear hv1))
    go_ret
    exact ⟨by rw [HM.out];rw [HZ6.out];simp,HB3.out⟩
   have d6:decide (0≤a.k.2)=true:=decide_eq_true z6
   have d6':decide (a.k.2 ≥ 0)=true:=decide_eq_true z6
   have HZ6:=Lib.hid d6
   clear z6
   obtain ⟨e0,he0⟩:∃ q,(a.k.2 == 0)=q:=⟨_,rfl⟩
   obtain ⟨e1,he1⟩:∃ q,a.k.1.toList.isEmpty=q:=⟨_,rfl⟩
   have HE0:=Lib.hid he0
   have HE1:=Lib.hid he1
   obtain ⟨e2,he2⟩:∃ q,decide ((a.k.1.size:Int)≤100)=q:=⟨_,rfl⟩
   have he3:decide (a.k.1.size≤100)=e2:=by rw [← he2];by_cases h:a.k.1.size≤100 <;> simp [h] <;> omega
   have HE3:=Lib.hid he3
   cases e0
   ·cases e1
    ·go_wp2_with (first
      | (go_at_call 15;(first |(with_reducible refine (hva _).mono ?_) |(with_reducible refine (hvr _).mono ?_));rintro e v1 ⟨rfl,hv1⟩;have xv:=HX3.out.call hv1;have lr:=ask_r xv;have dv:=HD3.out.call hv1;have lD4:(Ld 34 (.pointer (some ⟨wr.heap.size,0,none⟩))).run Tryz.prog v1 = .ok (.agg (dcs a.d)) v1:=run_ldDm (range_mid dv [] (dcs a.d).toList [] (by simp));have HD3:=Lib.hid dv;have HX3:=Lib.hid xv;have HB3:=Lib.hid (HB3.out.trans (hv1.mono HB3.out.size));clear dv xv hv1)
      | (go_at_call 31;(with_reducible refine (hrd _).mono ?_);rintro e v1 ⟨rfl,hv1⟩;have xv:=HX3.out.call hv1;have dv:=HD3.out.call hv1;have lD4:(Ld 34 (.pointer (some ⟨wr.heap.size,0,none⟩))).run Tryz.prog v1 = .ok (.agg (dcs a.d)) v1:=run_ldDm (range_mid dv [] (dcs a.d).toList [] (by simp));have HD3:=Lib.hid dv;have HX3:=Lib.hid xv;have HB3:=Lib.hid (HB3.out.trans (hv1.mono HB3.out.size));clear dv xv hv1)
      | (go_at_call 47;(with_reducible refine (hsd _).mono ?_);rintro e v1 ⟨rfl,hv1⟩;have xv:=HX3.out.call hv1;have k0:=aq_0 xv;have k1:=aq_1 xv;have HX3:=Lib.hid xv;have HB3:=Lib.hid (HB3.out.trans (hv1.mono HB3.out.size));clear xv hv1)
      | (go_at_call 35;(with_reducible refine (hrt _).mono ?_);rintro e v1 ⟨rfl,hv1⟩;have HB3:=Lib.hid (HB3.out.trans (hv1.mono HB3.out.size));clear hv1))
     go_ret
     exact ⟨by rw [HM.out];rw [HE0.out,HE1.out];simp,HB3.out⟩
    ·cases e2
     ·go_wp2_with (first
       | (go_at_call 15;(first |(with_reducible refine (hva _).mono ?_) |(with_reducible refine (hvr _).mono ?_));rintro e v1 ⟨rfl,hv1⟩;have xv:=HX3.out.call hv1;have lr:=ask_r xv;have dv:=HD3.out.call hv1;have lD4:(Ld 34 (.pointer (some ⟨wr.heap.size,0,none⟩))).run Tryz.prog v1 = .ok (.agg (dcs a.d)) v1:=run_ldDm (range_mid dv [] (dcs a.d).toList [] (by simp));have HD3:=Lib.hid dv;have HX3:=Lib.hid xv;have HB3:=Lib.hid (HB3.out.trans (hv1.mono HB3.out.size));clear dv xv hv1)
       | (go_at_call 31;(with_reducible refine (hrd _).mono ?_);rintro e v1 ⟨rfl,hv1⟩;have xv:=HX3.out.call hv1;have dv:=HD3.out.call hv1;have lD4:(Ld 34 (.pointer (some ⟨wr.heap.size,0,none⟩))).run Tryz.prog v1 = .ok (.agg (dcs a.d)) v1:=run_ldDm (range_mid dv [] (dcs a.d).toList [] (by simp));have HD3:=Lib.hid dv;have HX3:=Lib.hid xv;have HB3:=Lib.hid (HB3.out.trans (hv1.mono HB3.out.size));clear dv xv hv1)
       | (go_at_call 47;(with_reducible refine (hsd _).mono ?_);rintro e v1 ⟨rfl,hv1⟩;have xv:=HX3.out.call hv1;have k0:=aq_0 xv;have k1:=aq_1 xv;have HX3:=Lib.hid xv;have HB3:=Lib.hid (HB3.out.trans (hv1.mono HB3.out.size));clear xv hv1)
       | (go_at_call 35;(with_reducible refine (hrt _).mono ?_);rintro e v1 ⟨rfl,hv1⟩;have HB3:=Lib.hid (HB3.out.trans (hv1.mono HB3.out.size));clear hv1))
      go_ret
      exact ⟨by rw [HM.out];rw [HE3.out];simp,HB3.out⟩
     ·go_wp2_with (first
       | (go_at_call 15;(first |(with_reducible refine (hva _).mono ?_) |(with_reducible refine (hvr _).mono ?_));rintro e v1 ⟨rfl,hv1⟩;have xv:=HX3.out.call hv1;have lr:=ask_r xv;have dv:=HD3.out.call hv1;have lD4:(Ld 34 (.pointer (some ⟨wr.heap.size,0,none⟩))).run Tryz.prog v1 = .ok (.agg (dcs a.d)) v1:=run_ldDm (range_mid dv [] (dcs a.d).toList [] (by simp));have HD3:=Lib.hid dv;have HX3:=Lib.hid xv;have HB3:=Lib.hid (HB3.out.trans (hv1.mono HB3.out.size));clear dv xv hv1)
       | (go_at_call 31;(with_reducible refine (hrd _).mono ?_);rintro e v1 ⟨rfl,hv1⟩;have xv:=HX3.out.call hv1;have dv:=HD3.out.call hv1;have lD4:(Ld 34 (.pointer (some ⟨wr.heap.size,0,none⟩))).run Tryz.prog v1 = .ok (.agg (dcs a.d)) v1:=run_ldDm (range_mid dv [] (dcs a.d).toList [] (by simp));have HD3:=Lib.hid dv;have HX3:=Lib.hid xv;have HB3:=Lib.hid (HB3.out.trans (hv1.mono HB3.out.size));clear dv xv hv1)
       | (go_at_call 47;(with_reducible refine (hsd _).mono ?_);rintro e v1 ⟨rfl,hv1⟩;have xv:=HX3.out.call hv1;have k0:=aq_0 xv;have k1:=aq_1 xv;have HX3:=Lib.hid xv;have HB3:=Lib.hid (HB3.out.trans (hv1.mono HB3.out.size));clear xv hv1)
       | (go_at_call 35;(with_reducible refine (hrt _).mono ?_);rintro e v1 ⟨rfl,hv1⟩;have HB3:=Lib.hid (HB3.out.trans (hv1.mono HB3.out.size));clear hv1))
      go_ret
      exact ⟨by rw [HM.out];rw [HE3.out,HZ1.out,HZ6.out,HE0.out,HE1.out];simp,HB3.out⟩
   ·cases e2
    ·go_wp2_with (first
      | (go_at_call 15;(first |(with_reducible refine (hva _).mono ?_) |(with_reducible refine (hvr _).mono ?_));rintro e v1 ⟨rfl,hv1⟩;have xv:=HX3.out.call hv1;have lr:=ask_r xv;have dv:=HD3.out.call hv1;have lD4:(Ld 34 (.pointer (some ⟨wr.heap.size,0,none⟩))).run Tryz.prog v1 = .ok (.agg (dcs a.d)) v1:=run_ldDm (range_mid dv [] (dcs a.d).toList [] (by simp));have HD3:=Lib.hid dv;have HX3:=Lib.hid xv;have HB3:=Lib.hid (HB3.out.trans (hv1.mono HB3.out.size));clear dv xv hv1)
      | (go_at_call 31;(with_reducible refine (hrd _).mono ?_);rintro e v1 ⟨rfl,hv1⟩;have xv:=HX3.out.call hv1;have dv:=HD3.out.call hv1;have lD4:(Ld 34 (.pointer (some ⟨wr.heap.size,0,none⟩))).run Tryz.prog v1 = .ok (.agg (dcs a.d)) v1:=run_ldDm (range_mid dv [] (dcs a.d).toList [] (by simp));have HD3:=Lib.hid dv;have HX3:=Lib.hid xv;have HB3:=Lib.hid (HB3.out.trans (hv1.mono HB3.out.size));clear dv xv hv1)
      | (go_at_call 47;(with_reducible refine (hsd _).mono ?_);rintro e v1 ⟨rfl,hv1⟩;have xv:=HX3.out.call hv1;have k0:=aq_0 xv;have k1:=aq_1 xv;have HX3:=Lib.hid xv;have HB3:=Lib.hid (HB3.out.trans (hv1.mono HB3.out.size));clear xv hv1)
      | (go_at_call 35;(with_reducible refine (hrt _).mono ?_);rintro e v1 ⟨rfl,hv1⟩;have HB3:=Lib.hid (HB3.out.trans (hv1.mono HB3.out.size));clear hv1))
     go_ret
     exact ⟨by rw [HM.out];rw [HE3.out];simp,HB3.out⟩
    ·go_wp2_with (first
      | (go_at_call 15;(first |(with_reducible refine (hva _).mono ?_) |(with_reducible refine (hvr _).mono ?_));rintro e v1 ⟨rfl,hv1⟩;have xv:=HX3.out.call hv1;have lr:=ask_r xv;have dv:=HD3.out.call hv1;have lD4:(Ld 34 (.pointer (some ⟨wr.heap.size,0,none⟩))).run Tryz.prog v1 = .ok (.agg (dcs a.d)) v1:=run_ldDm (range_mid dv [] (dcs a.d).toList [] (by simp));have HD3:=Lib.hid dv;have HX3:=Lib.hid xv;have HB3:=Lib.hid (HB3.out.trans (hv1.mono HB3.out.size));clear dv xv hv1)
      | (go_at_call 31;(with_reducible refine (hrd _).mono ?_);rintro e v1 ⟨rfl,hv1⟩;have xv:=HX3.out.call hv1;have dv:=HD3.out.call hv1;have lD4:(Ld 34 (.pointer (some ⟨wr.heap.size,0,none⟩))).run Tryz.prog v1 = .ok (.agg (dcs a.d)) v1:=run_ldDm (range_mid dv [] (dcs a.d).toList [] (by simp));have HD3:=Lib.hid dv;have HX3:=Lib.hid xv;have HB3:=Lib.hid (HB3.out.trans (hv1.mono HB3.out.size));clear dv xv hv1)
      | (go_at_call 47;(with_reducible refine (hsd _).mono ?_);rintro e v1 ⟨rfl,hv1⟩;have xv:=HX3.out.call hv1;have k0:=aq_0 xv;have k1:=aq_1 xv;have HX3:=Lib.hid xv;have HB3:=Lib.hid (HB3.out.trans (hv1.mono HB3.out.size));clear xv hv1)
      | (go_at_call 35;(with_reducible refine (hrt _).mono ?_);rintro e v1 ⟨rfl,hv1⟩;have HB3:=Lib.hid (HB3.out.trans (hv1.mono HB3.out.size));clear hv1))
     go_ret
     exact ⟨by rw [HM.out];rw [HE3.out,HZ1.out,HZ6.out,HE0.out,HE1.out];simp,HB3.out⟩
end
end Go.Proofs.YtkadkmnolkkhgaaGreatDoor.Mw

/-
 Right at one thing with properties: the walk.
-/
namespace Go.Proofs.YtkadkmnolkkhgaaGreatDoor.Mw
open Go Go.RowKit Go.Maps Go.Shelf Keys Hp Mo
open Des (Vl Ds zeroV zeroD dcs dcs_size dcs_one accF rigF appF eqV whR whr_any)
open Arrs (En ecs ecs_0 ecs_10)
theorem alKy:Instr.alloc 32 true (.tuple #[])=Al 32:=(rfl)
theorem stKy (p v:Value):Instr.storeAt 32 p v=St 32 p v:=(rfl)
def zeroKy:KV:=(⟨#[]⟩,0)
theorem run_alKy (w:World):(Al 32).run Tryz.prog w = .ok (ptr w.heap.size) (w.alloc (.cells (kcs zeroKy) 32)):=run_al (z:=.agg (kcs zeroKy)) (n:=2) (by kernel_rfl) w
attribute [local go_sem ↓] ldR stR alR bxR bdR ldV stV alV bxV bdV ldA stA bxA bdA ldKy bxKy bdKy ldT stT alT ldD stD alD bxDe run_eqKc
attribute [local irreducible] rcs dcs ecs vcs acs kcs xcs tcs
attribute [local go_sem] run_bx run_alR run_stRg run_alT run_alV run_alD
attribute [local go_sem ↓] alKy stKy
attribute [local go_sem] run_alKy
section
end
end Go.Proofs.YtkadkmnolkkhgaaGreatDoor.Mw

/-
 Chains of plain objects with properties: what a look along them gives (plain mathematics).
-/
namespace Go.Proofs.YtkadkmnolkkhgaaGreatDoor.Mw
open Go Go.RowKit Keys Hp
open Des (Vl Ds zeroV zeroD dcs eqV accF rigF appF)
open Arrs (En lenF leftF)
section
variable {X:DoT→DoT} {C:DoT→HandT} {ess:List (List En)}
end
end Go.Proofs.YtkadkmnolkkhgaaGreatDoor.Mw

/-
 first: the first one of a chain that has a key.
-/
namespace Go.Proofs.YtkadkmnolkkhgaaGreatDoor.Mw
open Go Go.RowKit Go.Maps Go.Shelf Keys Hp Mo
open Des (Vl Ds zeroV zeroD dcs dcs_size dcs_one accF rigF appF eqV)
open Arrs (En ecs ecs_0 ecs_10)
theorem two_blk (w:World) (cs ds:Array Value) (T T':TypeId):Blk ((w.alloc (.cells cs T)).alloc (.cells ds T')) (w.heap.size+1) ds T':=by
 have h:=Blk.new (w.alloc (.cells cs T)) ds T'
 have z:(w.alloc (.cells cs T)).heap.size=w.heap.size+1:=by simp
 rw [z] at h
 exact h
attribute [local go_sem ↓] ldV stV alV bxV bdV ldKy bxKy bdKy ldD stD alD bxDe bdD
attribute [local irreducible] dcs vcs kcs ecs
attribute [local go_sem] run_bx run_alD
section
end
end Go.Proofs.YtkadkmnolkkhgaaGreatDoor.Mw

/-
 What came in: values, keys, properties, lists of them, lists of lists.
-/
namespace Go.Proofs.YtkadkmnolkkhgaaGreatDoor.Mw
open Go Go.RowKit Go.ChangeShapes Go.WideShapes Go.Deep Keys Hp Mo
open Des (Vl Ds zeroV zeroD dcs)
open Arrs (En ecs ecs_list)
def I64 (n:Int):Prop:=-9223372036854775808≤n∧n≤9223372036854775807
theorem i64_bds {n:Int} (h:(Lit.int .i64 n).wf=true):I64 n:=by
 unfold I64
 have e1:IntKind.i64.min = -9223372036854775808:=rfl
 have e2:IntKind.i64.max=9223372036854775807:=rfl
 simp [Lit.wf,e1,e2] at h
 omega
section
variable {H:Type} {enc:TypeId × Value→H} {w:World} {base:Nat} {spare:Nat→Bool} {held:Bool}
theorem cellsCV:Tryz.prog.cellsOf 30=3:=by kernel_rfl
theorem cellsCI:Tryz.prog.cellsOf 3=1:=by kernel_rfl
theorem cellsCS:Tryz.prog.cellsOf 9=1:=by kernel_rfl
theorem bk_pos (d:DataW H):1≤Rows.uptoBulk d:=by
 cases d with
 | lit l=>cases l <;> simp [Rows.uptoBulk]
 | _=>simp [Rows.uptoBulk]
theorem bk_mem (l:List (DataW H)) (d:DataW H) (h:d ∈ l):Rows.uptoBulk d≤Rows.uptoBulkAll l:=by
 induction l with
 | nil=>cases h
 | cons x r ih =>
  simp only [Rows.uptoBulkAll]
  cases h with
  | head=>omega
  | tail _ h=>have:=ih h;omega
theorem bk_elem (D:Nat→DataW H) (sp:List (DataW H)) (n i:Nat) (h:i < n):Rows.uptoBulk (D i)≤Rows.uptoBulk (.slice ((List.range n).map D) sp):=by
 have:=bk_mem ((List.range n).map D) (D i) (List.mem_map.2 ⟨i,List.mem_range.2 h,rfl⟩)
 simp only [Rows.uptoBulk]
 omega
theorem bk_str {s:ByteArray} {y:DataW H} (e:y = .lit (.string s.data.toList)):s.size+1≤Rows.uptoBulk y:=by
 rw [e]
 simp only [Rows.uptoBulk]
 have e:s.data.toList.length=s.size:=by rw [Array.length_toList];rfl
 omega
set_option maxRecDepth 100000 in
theorem open_v {m:Nat} {cs:List Value} {y:DataW H × List MemPlace} (h:DataW.trod enc Tryz.prog w base spare held m 30 cs=some y):∃ v:Vl,cs=(vcs v).toList∧v.s.size+4≤Rows.uptoBulk y.1∧I64 v.k∧I64 v.n:=by
 obtain ⟨xs,n,_,hx,hl,hlen,hg⟩:=DataW.trod_struct Tryz.underlying30 h
 rw [cellsCV] at hl
 match cs,hl with
 | [c0,c1,c2],_ =>
  match xs,hlen with
  | [y0,y1,y2],_ =>
   have g0:DataW.trod enc Tryz.prog w base spare held n 3 (([c0,c1,c2].drop 0).take (Tryz.prog.cellsOf 3))=[y0,y1,y2][0]?:=hg 0 _ rfl
   have g1:DataW.trod enc Tryz.prog w base spare held n 3 (([c0,c1,c2].drop 1).take (Tryz.prog.cellsOf 3))=[y0,y1,y2][1]?:=hg 1 _ rfl
   have g2:DataW.trod enc Tryz.prog w base spare held n 9 (([c0,c1,c2].drop 2).take (Tryz.prog.cellsOf 9))=[y0,y1,y2][2]?:=hg 2 _ rfl
   rw [cellsCI] at g0 g1
   rw [cellsCS] at g2
   have g0:DataW.trod enc Tryz.prog w base spare held n 3 [c0]=some y0:=g0
   have g1:DataW.trod enc Tryz.prog w base spare held n 3 [c1]=some y1:=g1
   have g2:DataW.trod enc Tryz.prog w base spare held n 9 [c2]=some y2:=g2
   obtain ⟨k,hk,_,wk⟩:=DataW.trod_int Tryz.underlying3 g0
   obtain ⟨q,hq,_,wq⟩:=DataW.trod_int Tryz.underlying3 g1
   obtain ⟨s,hs,e2,_⟩:=DataW.trod_string Tryz.underlying9 g2
   simp only [List.cons.injEq,and_true] at hk hq hs
   subst hk hq hs
   refine ⟨⟨k,q,s⟩,rfl,?_,i64_bds wk,i64_bds wq⟩
   have hy:y.1 = .agg [y0.1,y1.1,y2.1]:=by simpa using congrArg Prod.fst hx
   rw [hy]
   have h0:=bk_pos y0.1
   have h1:=bk_pos y1.1
   have h2:=bk_str (congrArg Prod.fst e2)
   simp only [Rows.uptoBulk,Rows.uptoBulkAll]
   show s.size+4≤_
   omega
end
theorem list_off {α:Type} {Q:Nat→α→Prop}:∀ n,(∀ i,i < n→∃ x,Q i x)→∃ l:List α,l.length=n∧∀ i x,l[i]? = some x→Q i x:=by
 intro n
 induction n with
 | zero=>intro _;exact ⟨[],rfl,fun i x h=>by simp at h⟩
 | succ n ih =>
  intro h
  obtain ⟨l,hl,hq⟩:=ih fun i hi=>h i (by omega)
  obtain ⟨x,hx⟩:=h n (by omega)
  refine ⟨l++[x],by simp [hl],fun i y hy=>?_⟩
  rcases Nat.lt_or_ge i n with hi |hi
  ·rw [List.getElem?_append_left (by omega)] at hy
   exact hq i y hy
  ·rw [List.getElem?_append_right (by omega)] at hy
   have hi0:i - l.length=0:=by
    have:=(List.getElem?_eq_some_iff.1 hy).1
    simp at this
    omega
   rw [hi0] at hy
   simp at hy
   subst hy
   rw [show i=n by omega]
   exact hx
structure FitE (e:En):Prop where
 key:e.ks.size≤1048576
 kb:I64 e.kn
 v:e.d.v.s.size≤1048576
 g:e.d.g.s.size≤1048576
 s:e.d.s.s.size≤1048576
theorem FitE.fine {e:En} (h:FitE e):Fine (ekey e):=⟨by have:=h.key;show e.ks.size≤_;omega,h.kb⟩
set_option maxRecDepth 100000 in
theorem open_vv {H:Type} {enc:TypeId × Value→H} {W:World} {base b0:Nat} {r:Reach} {spare:Nat→Bool} {held:Bool} {v:Value} {d:DataW H} {p:List MemPlace} (hv:Value.okWide Tryz.prog W r b0 30 v) (h:DataW.Trod enc Tryz.prog W base spare held 30 v d p) :
  ∃ a:Vl,v = .agg (vcs a)∧(Rows.uptoBulk d≤1048576→a.s.size≤1048576):=by
 obtain ⟨cs,rfl,hsz⟩:=okWide_struct Tryz.underlying30 hv
 obtain ⟨fuel,hf⟩:=h
 obtain ⟨a,hk,hs,_⟩:=open_v hf
 refine ⟨a,?_,fun hb=>by have hs2:a.s.size+4≤Rows.uptoBulk d:=hs;omega⟩
 have e:cs.toList=(vcs a).toList:=hk
 rw [Array.toList_inj.1 e]
end Go.Proofs.YtkadkmnolkkhgaaGreatDoor.Mw

/-
 MSet along a chain of plain objects with properties (plain mathematics).
-/
namespace Go.Proofs.YtkadkmnolkkhgaaGreatDoor.Mw
open Go Go.RowKit Keys Hp
open Des (Vl Ds zeroV zeroD dcs eqV eqV_iff eqV_refl accF datF canF rigF appF whF whR rigR badF replF kxF kvF othF eqD addF compF clearF)
open Arrs (En lenF leftF)
section
variable {X:DoT→DoT} {C:DoT→HandT} {ess:List (List En)}
end
end Go.Proofs.YtkadkmnolkkhgaaGreatDoor.Mw

/-
 The law MopChains.
-/
namespace Go.Proofs.YtkadkmnolkkhgaaGreatDoor.Mw
open Go Go.RowKit Go.Maps Go.Shelf Keys Hp Mo
open Des (Vl Ds zeroV zeroD dcs dcs_size dcs_one accF datF rigF appF eqV whR)
open Arrs (En ecs)
theorem run_bdAct (w:World) (q:Aq):(Bd 54 #[(2,.agg (acs q nilS))]).run Tryz.prog w = .ok (.agg (actC q)) w:=run_build w _ _ _ (by kernel_rfl)
theorem run_bdO0 (w:World):(Bd 30 #[(0,.int .i64 6)]).run Tryz.prog w = .ok (.agg (vcs (objV 0))) w:=run_bdV1 w 6
theorem bdAct (ps:Array (Nat × Value)):Instr.build 54 ps=Bd 54 ps:=(rfl)
theorem eqv_same {a b:Vl} (h:a=b) (w:World):(binOp .eql 30 (.agg (vcs a)) (.agg (vcs b))).run Tryz.prog w = .ok (.bool true) w:=by
 subst h
 rw [eqV_run]
 simp
attribute [local go_sem ↓] ldR stR alR bxR bdR ldV stV alV bxV bdV ldA stA bxA bdA ldKy bxKy bdKy ldD stD alD bxDe bdD bxAct bdAct
attribute [local irreducible] rcs dcs ecs vcs acs kcs xcs tcs actC
attribute [local go_sem] run_bx run_alR run_stRg run_bdAk run_bdAkr run_bdAct run_bdO0 run_alV run_stVg run_alD run_stDg
section
end
section
end
end Go.Proofs.YtkadkmnolkkhgaaGreatDoor.Mw

/-
 A step of a region behind a guard that lets it by.
-/
namespace Go.Proofs.YtkadkmnolkkhgaaGreatDoor.Rg
open Go Go.RowKit
section
variable {P:Program} {ops:Array Oper} {Q:Exit→Act→World→Prop}
theorem step_runW {i:Nat} {o:Oper} {K:Act→World→Prop} {a:Act} {w w':World} {v:Value} (hi:ops[i]? = some o) (hg:Region.wanted o (yielded ops a.tmps)=true) (hrun:(execOp a.eval o).run P w = .ok (.value v) w') (hK:K (a.put o.dst v) w'):wpOp P ops Q i K a w:=by
 unfold wpOp
 simp only [hi]
 rw [if_pos hg]
 left
 unfold Oper.wp
 rw [hrun]
 exact hK
theorem step_callW {i:Nat} {o:Oper} {K:Act→World→Prop} {a:Act} {w:World} {f:FuncId} {args:Array Value} {R:Ending→World→Prop} (hi:ops[i]? = some o) (hg:Region.wanted o (yielded ops a.tmps)=true) (hrun:(execOp a.eval o).run P w = .ok (.enter f args) w) (hc:Calls P f args w R) (hR:∀ e w',R e w'→∃ v,e = .returned v∧K (a.put o.dst v) w'):wpOp P ops Q i K a w:=by
 unfold wpOp
 simp only [hi]
 rw [if_pos hg]
 left
 unfold Oper.wp
 rw [hrun]
 refine Calls.mono hc ?_
 intro e w' he
 obtain ⟨v,rfl,hk⟩:=hR e w' he
 exact hk
def At3 (i1 i2 i3:Nat) (w0 w1 w2:World) (L:Array Bool) (W:World):Prop :=
 (L.getD i1 false=false∧L.getD i2 false=false∧L.getD i3 false=false∧W=w0)∨(L.getD i1 false=true∧L.getD i2 false=false∧L.getD i3 false=false∧W=w1)∨(L.getD i1 false=true∧L.getD i2 false=true∧L.getD i3 false=false∧W=w2)∨(L.getD i1 false=true∧L.getD i2 false=true∧L.getD i3 false=true∧Below w2.heap.size w2 W)
theorem At3.keep {i1 i2 i3 i:Nat} {w0 w1 w2 W:World} {L:Array Bool} (h:At3 i1 i2 i3 w0 w1 w2 L W) (h1:i ≠ i1) (h2:i ≠ i2) (h3:i ≠ i3):At3 i1 i2 i3 w0 w1 w2 (L.setIfInBounds i true) W:=by
 unfold At3 at h ⊢
 rw [getD_set h1,getD_set h2,getD_set h3]
 exact h
end
end Go.Proofs.YtkadkmnolkkhgaaGreatDoor.Rg
