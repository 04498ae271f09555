/-
 Texts of this seat in build order: MwMay, MwRightE.
-/
import Derived.Test.YtkadkmnolkkhgaaGreatDoorMg38
import Derived.Test.YtkadkmnolkkhgaaGreatDoorMg06
/-
 May at an act whose list is empty: it answers, and what is old stays.
-/
set_option linter.unusedVariables false
set_option linter.unusedSimpArgs false
namespace Go.Proofs.YtkadkmnolkkhgaaGreatDoor.Mw
open Go Go.RowKit Go.Maps Go.Shelf Keys Hp Mo
open Des (Vl Ds zeroV zeroD dcs dcs_size dcs_one accF rigF appF eqV rigR rigr_any)
open Arrs (En ecs ecs_0 ecs_10)
def actC (a:Aq):Array Value:=#[.int .i64 0,.int .i64 0,.string a.k.1,.int .i64 a.k.2,.int .i64 a.v.k,.int .i64 a.v.n,.string a.v.s,.int .i64 a.r.k,.int .i64 a.r.n,.string a.r.s,.bool a.d.hv,.bool a.d.hg,.bool a.d.hs,.bool a.d.hw,.bool a.d.he,.bool a.d.hc,.int .i64 a.d.v.k,.int .i64 a.d.v.n,.string a.d.v.s,.int .i64 a.d.g.k,.int .i64 a.d.g.n,.string a.d.g.s,.int .i64 a.d.s.k,.int .i64 a.d.s.n,.string a.d.s.s,.bool a.d.w,.bool a.d.e,.bool a.d.c,nilS]
theorem act_a {w:World} {b:Nat} {a:Aq} {T:TypeId} (h:Blk w b (actC a) T):(Ld 52 (.pointer (some ⟨b,2,none⟩))).run Tryz.prog w = .ok (.agg (acs a nilS)) w:=by
 have:=run_loadAt_mid (P:=Tryz.prog) w b 2 52 (acs a nilS).toList _ (range_mid h [.int .i64 0,.int .i64 0] (acs a nilS).toList [] rfl) Tryz.underlying52 rfl sizeA
 simpa [Ld] using this
theorem alAk:Instr.alloc 52 true (.tuple #[])=Al 52:=(rfl)
theorem run_alAk (w:World):(Al 52).run Tryz.prog w = .ok (ptr w.heap.size) (w.alloc (.cells (acs zeroQ nilS) 52)):=run_al (z:=.agg (acs zeroQ nilS)) (n:=27) (by kernel_rfl) w
theorem run_stAk (w:World) (a o:Aq):(St 52 (.pointer (some ⟨w.heap.size,0,none⟩)) (.agg (acs a nilS))).run Tryz.prog (w.alloc (.cells (acs o nilS) 52)) = .ok () (w.alloc (.cells (acs a nilS) 52)):=by
 rw [run_st_row (Blk.new w (acs o nilS) _) (show _=some (acs a nilS).size from sizeA) rfl (by simp [acs,nilS,Value.oneCell']),setRow_new]
theorem aq_26 {w:World} {b:Nat} {a:Aq} {T:TypeId} (h:Blk w b (acs a nilS) T):w.cell? ⟨b,26,none⟩=some nilS:=h.cell 26
theorem aq_0 {w:World} {b:Nat} {a:Aq} {l:Value} {T:TypeId} (h:Blk w b (acs a l) T):w.cell? ⟨b,0,none⟩=some (.string a.k.1):=h.cell 0
theorem aq_1 {w:World} {b:Nat} {a:Aq} {l:Value} {T:TypeId} (h:Blk w b (acs a l) T):w.cell? ⟨b,1,none⟩=some (.int .i64 a.k.2):=h.cell 1
theorem bxAct (v:Value):Instr.box 54 v=Bx 54 v:=(rfl)
attribute [local go_sem ↓] ldV stV alV bxV bdV ldA stA bxA bdA ldD stD alD bxDe alAk bxAct
attribute [local irreducible] dcs vcs acs actC
attribute [local go_sem] run_bx run_alAk run_alD
section
set_option maxRecDepth 100000 in
set_option maxHeartbeats 8000000 in
theorem may_any (a:Aq) (h1:a.k.1.size≤2000000) (h2:a.v.s.size≤2000000) (h3:a.r.s.size≤2000000) (h4:a.d.v.s.size≤2000000) (h5:a.d.g.s.size≤2000000) (h6:a.d.s.s.size≤2000000) (w:World) :
  Calls Tryz.prog 18 #[.agg (actC a),.int .i64 1] w fun e w'=>(∃ B,e = .returned (.bool B))∧Below w.heap.size w w':=by
 have x0:=Blk.new w (actC a) 54
 have la:=act_a x0
 have B0:Below w.heap.size w (w.alloc (.cells (actC a) 54)):=(Below.refl _ w).alloc (Nat.le_refl _) _
 obtain ⟨w2,hw2⟩:∃ w2,(w.alloc (.cells (actC a) 54)).alloc (.cells (acs a nilS) 52)=w2:=⟨_,rfl⟩
 have st2:=run_stAk (w.alloc (.cells (actC a) 54)) a zeroQ
 rw [hw2] at st2
 have z1:(w.alloc (.cells (actC a) 54)).heap.size=w.heap.size+1:=by simp
 rw [z1] at st2
 have B2:Below w.heap.size w w2:=by rw [← hw2];exact B0.alloc B0.size _
 have x2:Blk w2 (w.heap.size+1) (acs a nilS) 52:=by rw [← hw2,← z1];exact Blk.new _ _ _
 have HX:=Lib.hid x2
 have HB:=Lib.hid B2
 have HZ:=Lib.hid (show w2.heap.size=w.heap.size+2 by rw [← hw2];simp)
 have c26:w2.cell? ⟨w.heap.size+1,26,none⟩=some (.slice none 0 0):=aq_26 x2
 have hva:=fun w=>value_any a.v 1 h2 w
 have hvr:=fun w=>value_any a.r 1 h3 w
 have hrd:∀ w,Calls Tryz.prog 31 #[.agg (dcs a.d)] w fun en w'=>en = .returned (.bool (rigR a.d))∧Below w.heap.size w w':=fun w=>rigr_any a.d w
 have hsd:=fun w=>side_any a.d 1 h4 h5 h6 w
 have hrt:=fun w=>Uni.rightText_any a.k.1 w (by omega)
 clear x0 B0 hw2 x2 B2
 go_enter Tryz.func18,Tryz.ntmps18
 go_wp2
 go_loopg [6] 0 (fun g s wr=>g=0∧s = .int .i64 0∧wr=w2)
 case atStart=>exact ⟨rfl,rfl,rfl⟩
 case round =>
  obtain ⟨rfl,rfl,rfl⟩:=hrel
  rename World=>w2
  have ld:=ask_d HX.out
  have st3:=run_stD w2 a.d zeroD
  obtain ⟨w3,hw3⟩:∃ w3,w2.alloc (.cells (dcs a.d) 34)=w3:=⟨_,rfl⟩
  have B3:Below w.heap.size w w3:=by rw [← hw3];exact HB.out.alloc HB.out.size _
  have x3:Blk w3 (w.heap.size+1) (acs a nilS) 52:=by rw [← hw3];exact HX.out.old _
  have d3:Blk w3 w2.heap.size (dcs a.d) 34:=by rw [← hw3];exact Blk.new _ _ _
  rw [hw3] at st3
  have k26:w3.cell? ⟨w.heap.size+1,26,none⟩=some (.slice none 0 0):=aq_26 x3
  have lv:=ask_v x3
  have HX3:=Lib.hid x3
  have HD3:=Lib.hid d3
  have HB3:=Lib.hid B3
  clear hw3 B3 x3 d3 HB HX
  go_wp2_with (first
   | (go_at_call 15;(first |(with_reducible refine (hva _).mono ?_) |(with_reducible refine (hvr _).mono ?_));rintro e v1 ⟨rfl,hv1⟩;have xv:=HX3.out.call hv1;have lr:=ask_r xv;have dv:=HD3.out.call hv1;have lD4:(Ld 34 (.pointer (some ⟨w2.heap.size,0,none⟩))).run Tryz.prog v1 = .ok (.agg (dcs a.d)) v1:=run_ldDm (range_mid dv [] (dcs a.d).toList [] (by simp));have HD3:=Lib.hid dv;have HX3:=Lib.hid xv;have HB3:=Lib.hid (HB3.out.trans (hv1.mono HB3.out.size));clear dv xv hv1)
   | (go_at_call 31;(with_reducible refine (hrd _).mono ?_);rintro e v1 ⟨rfl,hv1⟩;have xv:=HX3.out.call hv1;have dv:=HD3.out.call hv1;have lD4:(Ld 34 (.pointer (some ⟨w2.heap.size,0,none⟩))).run Tryz.prog v1 = .ok (.agg (dcs a.d)) v1:=run_ldDm (range_mid dv [] (dcs a.d).toList [] (by simp));have HD3:=Lib.hid dv;have HX3:=Lib.hid xv;have HB3:=Lib.hid (HB3.out.trans (hv1.mono HB3.out.size));clear dv xv hv1)
   | (go_at_call 47;(with_reducible refine (hsd _).mono ?_);rintro e v1 ⟨rfl,hv1⟩;have xv:=HX3.out.call hv1;have k0:=aq_0 xv;have k1:=aq_1 xv;have HX3:=Lib.hid xv;have HB3:=Lib.hid (HB3.out.trans (hv1.mono HB3.out.size));clear xv hv1)
   | (go_at_call 35;(with_reducible refine (hrt _).mono ?_);rintro e v1 ⟨rfl,hv1⟩;have HB3:=Lib.hid (HB3.out.trans (hv1.mono HB3.out.size));clear hv1))
  all_goals go_ret
  all_goals first |exact ⟨⟨_,rfl⟩,HB3.out⟩ |exact ⟨.inl rfl,HB3.out⟩ |exact ⟨.inr rfl,HB3.out⟩
end
end Go.Proofs.YtkadkmnolkkhgaaGreatDoor.Mw

/-
 Right at one thing with properties: the walk.
-/
namespace Go.Proofs.YtkadkmnolkkhgaaGreatDoor.Mw
open Go Go.RowKit Go.Maps Go.Shelf Keys Hp Mo
open Des (Vl Ds zeroV zeroD dcs dcs_size dcs_one accF rigF appF eqV whR whr_any)
open Arrs (En ecs ecs_0 ecs_10)
theorem alKy:Instr.alloc 32 true (.tuple #[])=Al 32:=(rfl)
theorem stKy (p v:Value):Instr.storeAt 32 p v=St 32 p v:=(rfl)
theorem ky_0 {w:World} {b:Nat} {k:KV} {T:TypeId} (h:Blk w b (kcs k) T):w.cell? ⟨b,0,none⟩=some (.string k.1):=h.cell 0
theorem ky_1 {w:World} {b:Nat} {k:KV} {T:TypeId} (h:Blk w b (kcs k) T):w.cell? ⟨b,1,none⟩=some (.int .i64 k.2):=h.cell 1
theorem key_eqK {a b:KV} {w:World} {q:Bool} (h:eqK a.1 a.2 b.1 b.2=q):(binOp .eql 32 (.agg (kcs a)) (.agg (kcs b))).run Tryz.prog w = .ok (.bool q) w:=by
 subst h
 exact key_run a b w
theorem tl_nil {s:ByteArray} (h:s.toList=[]):s=⟨#[]⟩:=by
 rw [ByteArray.toList_eq] at h
 exact ByteArray.ext (Array.toList_inj.1 (h.trans rfl))
def zeroKy:KV:=(⟨#[]⟩,0)
theorem run_alKy (w:World):(Al 32).run Tryz.prog w = .ok (ptr w.heap.size) (w.alloc (.cells (kcs zeroKy) 32)):=run_al (z:=.agg (kcs zeroKy)) (n:=2) (by kernel_rfl) w
theorem run_stKy (w:World) (e o:KV):(St 32 (.pointer (some ⟨w.heap.size,0,none⟩)) (.agg (kcs e))).run Tryz.prog (w.alloc (.cells (kcs o) 32)) = .ok () (w.alloc (.cells (kcs e) 32)):=by
 rw [run_st_row (Blk.new w (kcs o) _) (show _=some (kcs e).size from sizeK) rfl (by simp [kcs,Value.oneCell']),setRow_new]
attribute [local go_sem ↓] ldR stR alR bxR bdR ldV stV alV bxV bdV ldA stA bxA bdA ldKy bxKy bdKy ldT stT alT ldD stD alD bxDe run_eqKc
attribute [local irreducible] rcs dcs ecs vcs acs kcs xcs tcs
attribute [local go_sem] run_bx run_alR run_stRg run_alT run_alV run_alD
attribute [local go_sem ↓] alKy stKy
attribute [local go_sem] run_alKy
section
theorem right_not {es:List En} {k:Nat} {e:En} (he:es[k]? = some e) (h:entB e=false∨dupB es k e=true):rightB es=false:=by
 unfold rightB
 rw [ents_no he (by rcases h with h |h <;> rw [h] <;> simp),Bool.and_false]
set_option maxRecDepth 100000 in
set_option maxHeartbeats 8000000 in
theorem right_any (es:List En) (a:Option Addr) (c:Nat) (hlen:(es.length:Int)≤9223372036854775807) (hks:∀ e ∈ es,e.ks.size≤100000000∧e.d.v.s.size≤2000000∧e.d.g.s.size≤2000000∧e.d.s.s.size≤2000000):RightIs (rightB es) es a c:=by
 intro w b hb hes
 obtain ⟨B,hB⟩:∃ B,rightB es=B:=⟨_,rfl⟩
 rw [hB]
 have HBB:=Lib.hid hB
 have lt:=run_ldT hb
 have HB:=Lib.hid hb
 have HE:=Lib.hid hes
 have HL:=Lib.hid hlen
 have HK:=Lib.hid hks
 clear hb hes hks hB
 go_enter Tryz.func41,Tryz.ntmps41
 go_wp2
 go_loopg [4] 1 (fun g s wr=>∃ j:Nat,j≤1∧g=1 - j∧s = .int .i64 j∧(j=1→B=true)∧Below w.heap.size w wr)
 case atStart=>exact ⟨0,by omega,rfl,rfl,(fun h=>by omega),Below.refl _ _⟩
 case round =>
  rename World=>wr
  obtain ⟨j,hj,rfl,rfl,hjB,hB⟩:=hrel
  rcases (by omega:j=0∨j=1) with rfl |rfl
  ·clear hjB
   have hbr:=HB.out.call hB
   have ltr:=run_ldT hbr
   have st1:=run_stT wr (rtG a es.length c) zeroT (rtG_ok _ _ _)
   obtain ⟨wT,hwT⟩:∃ wT,wr.alloc (.cells (tcs (rtG a es.length c)) 39)=wT:=⟨_,rfl⟩
   have hN:Blk wT wr.heap.size (tcs (rtG a es.length c)) 39:=by rw [← hwT];exact Blk.new wr _ _
   rw [hwT] at st1
   have F5:=rg_5 hN
   have F0:=rg_0 hN
   have F20:=rg_20 hN
   have FP:=rg_proto hN
   have hbw:Below w.heap.size w wT:=by rw [← hwT];exact hB.alloc hB.size _
   have hbg:=big_any a c es wT w.heap.size hlen (HE.out.below hbw)
   have HN:=Lib.hid hN
   have HW:=Lib.hid hbw
   clear hB hbr hN hbw hwT
   cases hbig:bigB es with
   | true =>
    rw [hbig] at hbg
    have:B=false:=by rw [← HBB.out];unfold rightB;rw [hbig];rfl
    subst this
    clear hbig
    go_wp2_with (go_at_call 85;(with_reducible refine hbg.mono ?_);rintro e w2 ⟨rfl,rfl⟩)
    go_ret
    exact ⟨rfl,HW.out⟩
   | false =>
    rw [hbig] at hbg
    have HBG:=Lib.hid hbig
    clear hbig
    by_cases h12:(es.length:Int)≤12
    ·have hd12:decide (12 < (es.length:Int))=false:=by simp;omega
     go_wp2_with (first
      | (go_at_call 85;(with_reducible refine hbg.mono ?_);rintro e w2 ⟨rfl,rfl⟩)
      | (go_at_call 86;(with_reducible refine (lk_n _ _).mono ?_);rintro e w3 ⟨rfl,hb3⟩;have h3:=HN.out.call hb3;have FV:=rg_v h3;have HN:=Lib.hid h3;have HW:=Lib.hid (HW.out.trans (hb3.mono HW.out.size));clear h3 hb3)
      | (go_at_call 15;(with_reducible refine (va_z _ _).mono ?_);rintro e w4 ⟨rfl,hb4⟩;have h4:=HN.out.call hb4;have FT:=rg_this h4;have F6:=rg_6 h4;have F20:=rg_20 h4;have F5:=rg_5 h4;have F0:=rg_0 h4;have HN:=Lib.hid h4;have HW:=Lib.hid (HW.out.trans (hb4.mono HW.out.size));clear h4 hb4))
     go_loopg [7] 0 (fun g s wx=>g=0∧s = .int .i64 0∧Blk wx wr.heap.size (tcs (rtG a es.length c)) 39∧Below w.heap.size w wx)
     case atStart=>exact ⟨rfl,rfl,HN.out,HW.out⟩
     case round =>
      rename World=>wx
      obtain ⟨rfl,rfl,hx,hB⟩:=hrel
      have F20:=rg_20 hx
      have HX:=Lib.hid hx
      have HBx:=Lib.hid hB
      clear hx hB
      go_wp2
      go_loopg [8] es.length (fun g s wy=>∃ k:Nat,k≤es.length∧g=es.length - k∧s = .int .i64 k∧(∀ (i:Nat) (e:En),i < k→es[i]? = some e→entB e=true∧dupB es i e=false)∧Blk wy wr.heap.size (tcs (rtG a es.length c)) 39∧Below w.heap.size w wy)
      case atStart=>exact ⟨0,by omega,rfl,rfl,(fun i e h=>by omega),HX.out,HBx.out⟩
      case round =>
       rename World=>wy
       obtain ⟨k,hk,rfl,rfl,hall,hx,hB⟩:=hrel
       have F5:=rg_5 hx
       have F0:=rg_0 hx
       have HBy:=Lib.hid hB
       have HAL:=Lib.hid hall
       have HY:=Lib.hid hx
       clear hx hB hall
       by_cases hlt:k < es.length
       ·obtain ⟨e,he⟩:∃ e,es[k]? = some e:=⟨es[k],List.getElem?_eq_getElem hlt⟩
        have hd1:decide ((k:Int) < es.length)=true:=by simp;omega
        have hd2:decide (k < es.length)=true:=by simp;omega
        obtain ⟨eb,off,ea,heb,hat⟩:=(HE.out.below HBy.out) k e he
        subst ea
        have hke:=HK.out e (List.mem_of_getElem? he)
        have hw1':wrap64 ((k:Int)+1)=((k+1:Nat):Int):=by unfold wrap64;omega
        have ld:=en_desc hat
        have st2:=run_stD wy e.d zeroD
        obtain ⟨w2,hw2⟩:∃ w2,wy.alloc (.cells (dcs e.d) 34)=w2:=⟨_,rfl⟩
        have B2:Below w.heap.size w w2:=by rw [← hw2];exact HBy.out.alloc HBy.out.size _
        have D2:Blk w2 wy.heap.size (dcs e.d) 34:=by rw [← hw2];exact Blk.new _ _ _
        have T2:Blk w2 wr.heap.size (tcs (rtG (some ⟨eb,off,none⟩) es.length c)) 39:=by rw [← hw2];exact HY.out.old _
        have z2:w2.heap.size=wy.heap.size+1:=by rw [← hw2];simp
        rw [hw2] at st2
        have G5:=rg_5 T2
        obtain ⟨b2,off2,ea2,heb2,hat2⟩:=(HE.out.below B2) k e he
        obtain ⟨rfl,rfl⟩:eb=b2∧off=off2:=by simpa using ea2
        have lk:=en_key hat2
        have st3:=run_stKy w2 (ekey e) zeroKy
        obtain ⟨w3,hw3⟩:∃ w3,w2.alloc (.cells (kcs (ekey e)) 32)=w3:=⟨_,rfl⟩
        have B3:Below w.heap.size w w3:=by rw [← hw3];exact B2.alloc B2.size _
        have D3:Blk w3 wy.heap.size (dcs e.d) 34:=by rw [← hw3];exact D2.old _
        have T3:Blk w3 wr.heap.size (tcs (rtG (some ⟨eb,off,none⟩) es.length c)) 39:=by rw [← hw3];exact T2.old _
        have K3:Blk w3 w2.heap.size (kcs (ekey e)) 32:=by rw [← hw3];exact Blk.new _ _ _
        rw [hw3,z2] at st3
        rw [z2] at K3
        have lD3:(Ld 34 (.pointer (some ⟨wy.heap.size,0,none⟩))).run Tryz.prog w3 = .ok (.agg (dcs e.d)) w3:=run_ldDm (range_mid D3 [] (dcs e.d).toList [] (by simp))
        have HE0:=Lib.hid he
        have HB3:=Lib.hid B3
        have HD3:=Lib.hid D3
        have HT3:=Lib.hid T3
        have HK3:=Lib.hid K3
        have hwh:∀ w,Calls Tryz.prog 87 #[.agg (dcs e.d)] w fun x w'=>x = .returned (.bool (whR e.d))∧Below w.heap.size w w':=fun w=>whr_any e.d w
        have hsd:=fun w=>side_any e.d 1 hke.2.1 hke.2.2.1 hke.2.2.2 w
        have hrt:=fun w=>Uni.rightText_any e.ks w hke.1
        clear he hat hat2 B2 D2 T2 B3 D3 T3 K3 hke ea2 heb2 hw2 hw3
        cases h1:whR e.d with
        | false =>
         simp only [h1] at hwh
         have:B=false:=by rw [← HBB.out];exact right_not HE0.out (.inl (by unfold entB;rw [h1];rfl))
         subst this
         go_wp2_with (first
          | (go_at_call 87;go_loud (with_reducible refine (hwh _).mono ?_);go_loud (rintro x v1 ⟨rfl,hv1⟩;have dv:=HD3.out.call hv1;have lD4:(Ld 34 (.pointer (some ⟨wy.heap.size,0,none⟩))).run Tryz.prog v1 = .ok (.agg (dcs e.d)) v1:=run_ldDm (range_mid dv [] (dcs e.d).toList [] (by simp));have kv:=HK3.out.call hv1;have kk1:v1.cell? ⟨wy.heap.size+1,1,none⟩=some (.int .i64 e.kn):=ky_1 kv;have kk0:v1.cell? ⟨wy.heap.size+1,0,none⟩=some (.string e.ks):=ky_0 kv;have HK3:=Lib.hid kv;have HT3:=Lib.hid (HT3.out.call hv1);have HB3:=Lib.hid (HB3.out.trans (hv1.mono HB3.out.size));clear dv kv hv1 hwh))
          | (go_at_call 47;(with_reducible refine (hsd _).mono ?_);rintro x v2 ⟨rfl,hv2⟩;have kv:=HK3.out.call hv2;have kk1:v2.cell? ⟨wy.heap.size+1,1,none⟩=some (.int .i64 e.kn):=ky_1 kv;have kk0:v2.cell? ⟨wy.heap.size+1,0,none⟩=some (.string e.ks):=ky_0 kv;have HK3:=Lib.hid kv;have HT3:=Lib.hid (HT3.out.call hv2);have HB3:=Lib.hid (HB3.out.trans (hv2.mono HB3.out.size));clear kv hv2 hsd)
          | (go_at_call 35;(first |(with_reducible refine (hrt _).mono ?_) |(with_reducible refine (hr5 _).mono ?_));rintro x v3 ⟨rfl,hv3⟩;have kv:=HK3.out.call hv3;have HK3:=Lib.hid kv;have HT3:=Lib.hid (HT3.out.call hv3);have HB3:=Lib.hid (HB3.out.trans (hv3.mono HB3.out.size));clear kv hv3 hrt))
         go_ret
         exact ⟨rfl,HB3.out⟩
        | true =>
         simp only [h1] at hwh
         cases h2:sideB e.d 1 with
         | false =>
          simp only [h2] at hsd
          have:B=false:=by rw [← HBB.out];exact right_not HE0.out (.inl (by unfold entB;rw [h2,Bool.and_false];rfl))
          subst this
          go_wp2_with (first
           | (go_at_call 87;go_loud (with_reducible refine (hwh _).mono ?_);go_loud (rintro x v1 ⟨rfl,hv1⟩;have dv:=HD3.out.call hv1;have lD4:(Ld 34 (.pointer (some ⟨wy.heap.size,0,none⟩))).run Tryz.prog v1 = .ok (.agg (dcs e.d)) v1:=run_ldDm (range_mid dv [] (dcs e.d).toList [] (by simp));have kv:=HK3.out.call hv1;have kk1:v1.cell? ⟨wy.heap.size+1,1,none⟩=some (.int .i64 e.kn):=ky_1 kv;have kk0:v1.cell? ⟨wy.heap.size+1,0,none⟩=some (.string e.ks):=ky_0 kv;have HK3:=Lib.hid kv;have HT3:=Lib.hid (HT3.out.call hv1);have HB3:=Lib.hid (HB3.out.trans (hv1.mono HB3.out.size));clear dv kv hv1 hwh))
           | (go_at_call 47;(with_reducible refine (hsd _).mono ?_);rintro x v2 ⟨rfl,hv2⟩;have kv:=HK3.out.call hv2;have kk1:v2.cell? ⟨wy.heap.size+1,1,none⟩=some (.int .i64 e.kn):=ky_1 kv;have kk0:v2.cell? ⟨wy.heap.size+1,0,none⟩=some (.string e.ks):=ky_0 kv;have HK3:=Lib.hid kv;have HT3:=Lib.hid (HT3.out.call hv2);have HB3:=Lib.hid (HB3.out.trans (hv2.mono HB3.out.size));clear kv hv2 hsd)
           | (go_at_call 35;(first |(with_reducible refine (hrt _).mono ?_) |(with_reducible refine (hr5 _).mono ?_));rintro x v3 ⟨rfl,hv3⟩;have kv:=HK3.out.call hv3;have HK3:=Lib.hid kv;have HT3:=Lib.hid (HT3.out.call hv3);have HB3:=Lib.hid (HB3.out.trans (hv3.mono HB3.out.size));clear kv hv3 hrt))
          go_ret
          exact ⟨rfl,HB3.out⟩
         | true =>
          simp only [h2] at hsd
          by_cases h3:e.kn < 0
          ·have:B=false:=by rw [← HBB.out];exact right_not HE0.out (.inl (by unfold entB;rw [decide_eq_false (by omega:¬ 0≤e.kn),Bool.and_false];rfl))
           subst this
           go_wp2_with (first
            | (go_at_call 87;go_loud (with_reducible refine (hwh _).mono ?_);go_loud (rintro x v1 ⟨rfl,hv1⟩;have dv:=HD3.out.call hv1;have lD4:(Ld 34 (.pointer (some ⟨wy.heap.size,0,none⟩))).run Tryz.prog v1 = .ok (.agg (dcs e.d)) v1:=run_ldDm (range_mid dv [] (dcs e.d).toList [] (by simp));have kv:=HK3.out.call hv1;have kk1:v1.cell? ⟨wy.heap.size+1,1,none⟩=some (.int .i64 e.kn):=ky_1 kv;have kk0:v1.cell? ⟨wy.heap.size+1,0,none⟩=some (.string e.ks):=ky_0 kv;have HK3:=Lib.hid kv;have HT3:=Lib.hid (HT3.out.call hv1);have HB3:=Lib.hid (HB3.out.trans (hv1.mono HB3.out.size));clear dv kv hv1 hwh))
            | (go_at_call 47;(with_reducible refine (hsd _).mono ?_);rintro x v2 ⟨rfl,hv2⟩;have kv:=HK3.out.call hv2;have kk1:v2.cell? ⟨wy.heap.size+1,1,none⟩=some (.int .i64 e.kn):=ky_1 kv;have kk0:v2.cell? ⟨wy.heap.size+1,0,none⟩=some (.string e.ks):=ky_0 kv;have HK3:=Lib.hid kv;have HT3:=Lib.hid (HT3.out.call hv2);have HB3:=Lib.hid (HB3.out.trans (hv2.mono HB3.out.size));clear kv hv2 hsd)
            | (go_at_call 35;(first |(with_reducible refine (hrt _).mono ?_) |(with_reducible refine (hr5 _).mono ?_));rintro x v3 ⟨rfl,hv3⟩;have kv:=HK3.out.call hv3;have HK3:=Lib.hid kv;have HT3:=Lib.hid (HT3.out.call hv3);have HB3:=Lib.hid (HB3.out.trans (hv3.mono HB3.out.size));clear kv hv3 hrt))
           go_ret
           exact ⟨rfl,HB3.out⟩
          ·by_cases h0:e.kn=0
           ·have hd0:decide (0 < e.kn)=false:=by simp;omega
            have hd3:decide (e.kn < 0)=false:=by simp;omega
            cases h4:(Uni.pts e.ks).isSome with
            | false =>
             simp only [h4] at hrt
             have hr5:=hrt
             have:B=false:=by rw [← HBB.out];exact right_not HE0.out (.inl (by unfold entB;rw [h4,Bool.and_false]))
             subst this
             go_wp2_with (first
              | (go_at_call 87;go_loud (with_reducible refine (hwh _).mono ?_);go_loud (rintro x v1 ⟨rfl,hv1⟩;have dv:=HD3.out.call hv1;have lD4:(Ld 34 (.pointer (some ⟨wy.heap.size,0,none⟩))).run Tryz.prog v1 = .ok (.agg (dcs e.d)) v1:=run_ldDm (range_mid dv [] (dcs e.d).toList [] (by simp));have kv:=HK3.out.call hv1;have kk1:v1.cell? ⟨wy.heap.size+1,1,none⟩=some (.int .i64 e.kn):=ky_1 kv;have kk0:v1.cell? ⟨wy.heap.size+1,0,none⟩=some (.string e.ks):=ky_0 kv;have HK3:=Lib.hid kv;have HT3:=Lib.hid (HT3.out.call hv1);have HB3:=Lib.hid (HB3.out.trans (hv1.mono HB3.out.size));clear dv kv hv1 hwh))
              | (go_at_call 47;(with_reducible refine (hsd _).mono ?_);rintro x v2 ⟨rfl,hv2⟩;have kv:=HK3.out.call hv2;have kk1:v2.cell? ⟨wy.heap.size+1,1,none⟩=some (.int .i64 e.kn):=ky_1 kv;have kk0:v2.cell? ⟨wy.heap.size+1,0,none⟩=some (.string e.ks):=ky_0 kv;have HK3:=Lib.hid kv;have HT3:=Lib.hid (HT3.out.call hv2);have HB3:=Lib.hid (HB3.out.trans (hv2.mono HB3.out.size));clear kv hv2 hsd)
              | (go_at_call 35;(first |(with_reducible refine (hrt _).mono ?_) |(with_reducible refine (hr5 _).mono ?_));rintro x v3 ⟨rfl,hv3⟩;have kv:=HK3.out.call hv3;have HK3:=Lib.hid kv;have HT3:=Lib.hid (HT3.out.call hv3);have HB3:=Lib.hid (HB3.out.trans (hv3.mono HB3.out.size));clear kv hv3 hrt))
             go_ret
             exact ⟨rfl,HB3.out⟩
            | true =>
             simp only [h4] at hrt
             have hr5:=hrt
             go_wp2_with (first
              | (go_at_call 87;go_loud (with_reducible refine (hwh _).mono ?_);go_loud (rintro x v1 ⟨rfl,hv1⟩;have dv:=HD3.out.call hv1;have lD4:(Ld 34 (.pointer (some ⟨wy.heap.size,0,none⟩))).run Tryz.prog v1 = .ok (.agg (dcs e.d)) v1:=run_ldDm (range_mid dv [] (dcs e.d).toList [] (by simp));have kv:=HK3.out.call hv1;have kk1:v1.cell? ⟨wy.heap.size+1,1,none⟩=some (.int .i64 e.kn):=ky_1 kv;have kk0:v1.cell? ⟨wy.heap.size+1,0,none⟩=some (.string e.ks):=ky_0 kv;have HK3:=Lib.hid kv;have HT3:=Lib.hid (HT3.out.call hv1);have HB3:=Lib.hid (HB3.out.trans (hv1.mono HB3.out.size));clear dv kv hv1 hwh))
              | (go_at_call 47;(with_reducible refine (hsd _).mono ?_);rintro x v2 ⟨rfl,hv2⟩;have kv:=HK3.out.call hv2;have kk1:v2.cell? ⟨wy.heap.size+1,1,none⟩=some (.int .i64 e.kn):=ky_1 kv;have kk0:v2.cell? ⟨wy.heap.size+1,0,none⟩=some (.string e.ks):=ky_0 kv;have HK3:=Lib.hid kv;have HT3:=Lib.hid (HT3.out.call hv2);have HB3:=Lib.hid (HB3.out.trans (hv2.mono HB3.out.size));clear kv hv2 hsd)
              | (go_at_call 35;(first |(with_reducible refine (hrt _).mono ?_) |(with_reducible refine (hr5 _).mono ?_));rintro x v3 ⟨rfl,hv3⟩;have kv:=HK3.out.call hv3;have HK3:=Lib.hid kv;have HT3:=Lib.hid (HT3.out.call hv3);have HB3:=Lib.hid (HB3.out.trans (hv3.mono HB3.out.size));clear kv hv3 hrt))
             have HOK:=Lib.hid (show entB e=true by unfold entB;rw [h1,h2,h4,decide_eq_true (by omega:0≤e.kn),decide_eq_true h0];rfl)
             go_loopg [11] k (fun g s wz=>∃ i:Nat,i≤k∧g=k - i∧s = .int .i64 i∧(∀ x ∈ es.take i,ekey x ≠ ekey e)∧Blk wz wr.heap.size (tcs (rtG (some ⟨eb,off,none⟩) es.length c)) 39∧Blk wz (wy.heap.size+1) (kcs (ekey e)) 32∧Below w.heap.size w wz)
             case atStart=>exact ⟨0,by omega,rfl,rfl,(fun x hx=>by simp at hx),HT3.out,HK3.out,HB3.out⟩
             case round =>
              rename World=>wz
              obtain ⟨i,hi,rfl,rfl,hne,hT,hK,hB⟩:=hrel
              by_cases hik:i < k
              ·have hik2:(i:Int) < k:=by omega
               have hil:(i:Int) < es.length:=by omega
               obtain ⟨x,hx⟩:∃ x,es[i]? = some x:=⟨es[i],List.getElem?_eq_getElem (by omega)⟩
               obtain ⟨b4,off4,ea4,heb4,hat4⟩:=(HE.out.below hB) i x hx
               obtain ⟨rfl,rfl⟩:eb=b4∧off=off4:=by simpa using ea4
               have lx:=en_key hat4
               have le:(Ld 32 (.pointer (some ⟨wy.heap.size+1,0,none⟩))).run Tryz.prog wz = .ok (.agg (kcs (ekey e))) wz:=run_ldKm (range_mid hK [] (kcs (ekey e)).toList [] (by simp))
               have lxd:=en_key (w:=wz.drew) (e:=x) hat4
               have led:(Ld 32 (.pointer (some ⟨wy.heap.size+1,0,none⟩))).run Tryz.prog wz.drew = .ok (.agg (kcs (ekey e))) wz.drew:=run_ldKm (range_mid hK.drew [] (kcs (ekey e)).toList [] (by simp))
               have G5:=rg_5 hT
               have G5d:=rg_5 hT.drew
               have HT:=Lib.hid hT
               have HKz:=Lib.hid hK
               have HBz:=Lib.hid hB
               have HX0:=Lib.hid hx
               have HNE:=Lib.hid hne
               clear hT hK hB hx hat4 ea4 heb4 hne
               cases hq:eqK (ekey x).1 (ekey x).2 (ekey e).1 (ekey e).2 with
               | true =>
                have kr:=fun w=>key_eqK (w:=w) hq
                have:B=false:=by
                 rw [← HBB.out]
                 refine right_not HE0.out (.inr ?_)
                 unfold dupB
                 rw [List.any_eq_true]
                 exact ⟨x,List.mem_take_iff_getElem.2 ⟨i,by have:=(List.getElem?_eq_some_iff.1 HX0.out).1;omega,(List.getElem?_eq_some_iff.1 HX0.out).2⟩,decide_eq_true (eqK_iff.1 hq)⟩
                subst this
                go_wp2
                go_region
                all_goals go_wp2
                all_goals go_ret
                all_goals first |exact ⟨rfl,HBz.out⟩ |exact ⟨rfl,HBz.out.drew⟩
               | false =>
                have kr:=fun w=>key_eqK (w:=w) hq
                go_wp2
                go_region
                go_wp2
                go_roundg (k - (i+1))
                case measure=>omega
                case rel =>
                 (first |refine ⟨i+1,by omega,rfl,by go_num,fun y hy=>?_,HT.out,HKz.out,HBz.out⟩ |refine ⟨i+1,by omega,rfl,by go_num,fun y hy=>?_,HT.out.drew,HKz.out.drew,HBz.out.drew⟩)
                 rw [List.take_add_one,HX0.out] at hy
                 simp at hy
                 rcases hy with hy |rfl
                 ·exact HNE.out y hy
                 ·intro h
                  rw [eqK_iff.2 h] at hq
                  cases hq
              ·obtain rfl:i=k:=by omega
               have HT:=Lib.hid hT
               have HBz:=Lib.hid hB
               have HNE:=Lib.hid hne
               clear hT hK hB hne hik
               go_wp2
               go_roundg (es.length - (i+1))
               case measure=>omega
               case rel =>
                refine ⟨i+1,by omega,rfl,by go_num,fun m y hm hy=>?_,HT.out,HBz.out⟩
                rcases (by omega:m < i∨m=i) with hm |rfl
                ·exact HAL.out m y hm hy
                ·obtain rfl:y=e:=by have:=hy.symm.trans HE0.out;simpa using this
                 refine ⟨HOK.out,?_⟩
                 unfold dupB
                 rw [List.any_eq_false]
                 intro z hz hd
                 exact HNE.out z hz (of_decide_eq_true hd)
           ·have hd0:decide (0 < e.kn)=true:=by simp;omega
            have hd3:decide (e.kn < 0)=false:=by simp;omega
            have h0':0 < e.kn:=by omega
            cases h5:decide (e.ks=⟨#[]⟩) with
            | false =>
             have h5':¬ e.ks.toList=[]:=fun h=>of_decide_eq_false h5 (tl_nil h)
             have:B=false:=by rw [← HBB.out];exact right_not HE0.out (.inl (by unfold entB;rw [h5,decide_eq_false h0];simp))
             subst this
             go_wp2_with (first
              | (go_at_call 87;go_loud (with_reducible refine (hwh _).mono ?_);go_loud (rintro x v1 ⟨rfl,hv1⟩;have dv:=HD3.out.call hv1;have lD4:(Ld 34 (.pointer (some ⟨wy.heap.size,0,none⟩))).run Tryz.prog v1 = .ok (.agg (dcs e.d)) v1:=run_ldDm (range_mid dv [] (dcs e.d).toList [] (by simp));have kv:=HK3.out.call hv1;have kk1:v1.cell? ⟨wy.heap.size+1,1,none⟩=some (.int .i64 e.kn):=ky_1 kv;have kk0:v1.cell? ⟨wy.heap.size+1,0,none⟩=some (.string e.ks):=ky_0 kv;have HK3:=Lib.hid kv;have HT3:=Lib.hid (HT3.out.call hv1);have HB3:=Lib.hid (HB3.out.trans (hv1.mono HB3.out.size));clear dv kv hv1 hwh))
              | (go_at_call 47;(with_reducible refine (hsd _).mono ?_);rintro x v2 ⟨rfl,hv2⟩;have kv:=HK3.out.call hv2;have kk1:v2.cell? ⟨wy.heap.size+1,1,none⟩=some (.int .i64 e.kn):=ky_1 kv;have kk0:v2.cell? ⟨wy.heap.size+1,0,none⟩=some (.string e.ks):=ky_0 kv;have HK3:=Lib.hid kv;have HT3:=Lib.hid (HT3.out.call hv2);have HB3:=Lib.hid (HB3.out.trans (hv2.mono HB3.out.size));clear kv hv2 hsd)
              | (go_at_call 35;(first |(with_reducible refine (hrt _).mono ?_) |(with_reducible refine (hr5 _).mono ?_));rintro x v3 ⟨rfl,hv3⟩;have kv:=HK3.out.call hv3;have HK3:=Lib.hid kv;have HT3:=Lib.hid (HT3.out.call hv3);have HB3:=Lib.hid (HB3.out.trans (hv3.mono HB3.out.size));clear kv hv3 hrt))
             go_ret
             exact ⟨rfl,HB3.out⟩
            | true =>
             have h5':e.ks=⟨#[]⟩:=of_decide_eq_true h5
             cases h4:(Uni.pts e.ks).isSome with
             | false =>
              simp only [h4] at hrt
              have hr5:=hrt
              rw [h5'] at hr5
              have:B=false:=by rw [← HBB.out];exact right_not HE0.out (.inl (by unfold entB;rw [h4,Bool.and_false]))
              subst this
              go_wp2_with (first
               | (go_at_call 87;go_loud (with_reducible refine (hwh _).mono ?_);go_loud (rintro x v1 ⟨rfl,hv1⟩;have dv:=HD3.out.call hv1;have lD4:(Ld 34 (.pointer (some ⟨wy.heap.size,0,none⟩))).run Tryz.prog v1 = .ok (.agg (dcs e.d)) v1:=run_ldDm (range_mid dv [] (dcs e.d).toList [] (by simp));have kv:=HK3.out.call hv1;have kk1:v1.cell? ⟨wy.heap.size+1,1,none⟩=some (.int .i64 e.kn):=ky_1 kv;have kk0:v1.cell? ⟨wy.heap.size+1,0,none⟩=some (.string e.ks):=ky_0 kv;have HK3:=Lib.hid kv;have HT3:=Lib.hid (HT3.out.call hv1);have HB3:=Lib.hid (HB3.out.trans (hv1.mono HB3.out.size));clear dv kv hv1 hwh))
               | (go_at_call 47;(with_reducible refine (hsd _).mono ?_);rintro x v2 ⟨rfl,hv2⟩;have kv:=HK3.out.call hv2;have kk1:v2.cell? ⟨wy.heap.size+1,1,none⟩=some (.int .i64 e.kn):=ky_1 kv;have kk0:v2.cell? ⟨wy.heap.size+1,0,none⟩=some (.string e.ks):=ky_0 kv;have HK3:=Lib.hid kv;have HT3:=Lib.hid (HT3.out.call hv2);have HB3:=Lib.hid (HB3.out.trans (hv2.mono HB3.out.size));clear kv hv2 hsd)
               | (go_at_call 35;(first |(with_reducible refine (hrt _).mono ?_) |(with_reducible refine (hr5 _).mono ?_));rintro x v3 ⟨rfl,hv3⟩;have kv:=HK3.out.call hv3;have HK3:=Lib.hid kv;have HT3:=Lib.hid (HT3.out.call hv3);have HB3:=Lib.hid (HB3.out.trans (hv3.mono HB3.out.size));clear kv hv3 hrt))
              go_ret
              exact ⟨rfl,HB3.out⟩
             | true =>
              simp only [h4] at hrt
              have hr5:=hrt
              rw [h5'] at hr5
              go_wp2_with (first
               | (go_at_call 87;go_loud (with_reducible refine (hwh _).mono ?_);go_loud (rintro x v1 ⟨rfl,hv1⟩;have dv:=HD3.out.call hv1;have lD4:(Ld 34 (.pointer (some ⟨wy.heap.size,0,none⟩))).run Tryz.prog v1 = .ok (.agg (dcs e.d)) v1:=run_ldDm (range_mid dv [] (dcs e.d).toList [] (by simp));have kv:=HK3.out.call hv1;have kk1:v1.cell? ⟨wy.heap.size+1,1,none⟩=some (.int .i64 e.kn):=ky_1 kv;have kk0:v1.cell? ⟨wy.heap.size+1,0,none⟩=some (.string e.ks):=ky_0 kv;have HK3:=Lib.hid kv;have HT3:=Lib.hid (HT3.out.call hv1);have HB3:=Lib.hid (HB3.out.trans (hv1.mono HB3.out.size));clear dv kv hv1 hwh))
               | (go_at_call 47;(with_reducible refine (hsd _).mono ?_);rintro x v2 ⟨rfl,hv2⟩;have kv:=HK3.out.call hv2;have kk1:v2.cell? ⟨wy.heap.size+1,1,none⟩=some (.int .i64 e.kn):=ky_1 kv;have kk0:v2.cell? ⟨wy.heap.size+1,0,none⟩=some (.string e.ks):=ky_0 kv;have HK3:=Lib.hid kv;have HT3:=Lib.hid (HT3.out.call hv2);have HB3:=Lib.hid (HB3.out.trans (hv2.mono HB3.out.size));clear kv hv2 hsd)
               | (go_at_call 35;(first |(with_reducible refine (hrt _).mono ?_) |(with_reducible refine (hr5 _).mono ?_));rintro x v3 ⟨rfl,hv3⟩;have kv:=HK3.out.call hv3;have HK3:=Lib.hid kv;have HT3:=Lib.hid (HT3.out.call hv3);have HB3:=Lib.hid (HB3.out.trans (hv3.mono HB3.out.size));clear kv hv3 hrt))
              have HOK:=Lib.hid (show entB e=true by unfold entB;rw [h1,h2,h4,decide_eq_true (by omega:0≤e.kn),h5,Bool.or_true];rfl)
              go_loopg [11] k (fun g s wz=>∃ i:Nat,i≤k∧g=k - i∧s = .int .i64 i∧(∀ x ∈ es.take i,ekey x ≠ ekey e)∧Blk wz wr.heap.size (tcs (rtG (some ⟨eb,off,none⟩) es.length c)) 39∧Blk wz (wy.heap.size+1) (kcs (ekey e)) 32∧Below w.heap.size w wz)
              case atStart=>exact ⟨0,by omega,rfl,rfl,(fun x hx=>by simp at hx),HT3.out,HK3.out,HB3.out⟩
              case round =>
               rename World=>wz
               obtain ⟨i,hi,rfl,rfl,hne,hT,hK,hB⟩:=hrel
               by_cases hik:i < k
               ·have hik2:(i:Int) < k:=by omega
                have hil:(i:Int) < es.length:=by omega
                obtain ⟨x,hx⟩:∃ x,es[i]? = some x:=⟨es[i],List.getElem?_eq_getElem (by omega)⟩
                obtain ⟨b4,off4,ea4,heb4,hat4⟩:=(HE.out.below hB) i x hx
                obtain ⟨rfl,rfl⟩:eb=b4∧off=off4:=by simpa using ea4
                have lx:=en_key hat4
                have le:(Ld 32 (.pointer (some ⟨wy.heap.size+1,0,none⟩))).run Tryz.prog wz = .ok (.agg (kcs (ekey e))) wz:=run_ldKm (range_mid hK [] (kcs (ekey e)).toList [] (by simp))
                have lxd:=en_key (w:=wz.drew) (e:=x) hat4
                have led:(Ld 32 (.pointer (some ⟨wy.heap.size+1,0,none⟩))).run Tryz.prog wz.drew = .ok (.agg (kcs (ekey e))) wz.drew:=run_ldKm (range_mid hK.drew [] (kcs (ekey e)).toList [] (by simp))
                have G5:=rg_5 hT
                have G5d:=rg_5 hT.drew
                have HT:=Lib.hid hT
                have HKz:=Lib.hid hK
                have HBz:=Lib.hid hB
                have HX0:=Lib.hid hx
                have HNE:=Lib.hid hne
                clear hT hK hB hx hat4 ea4 heb4 hne
                cases hq:eqK (ekey x).1 (ekey x).2 (ekey e).1 (ekey e).2 with
                | true =>
                 have kr:=fun w=>key_eqK (w:=w) hq
                 have:B=false:=by
                  rw [← HBB.out]
                  refine right_not HE0.out (.inr ?_)
                  unfold dupB
                  rw [List.any_eq_true]
                  exact ⟨x,List.mem_take_iff_getElem.2 ⟨i,by have:=(List.getElem?_eq_some_iff.1 HX0.out).1;omega,(List.getElem?_eq_some_iff.1 HX0.out).2⟩,decide_eq_true (eqK_iff.1 hq)⟩
                 subst this
                 go_wp2
                 go_region
                 all_goals go_wp2
                 all_goals go_ret
                 all_goals first |exact ⟨rfl,HBz.out⟩ |exact ⟨rfl,HBz.out.drew⟩
                | false =>
                 have kr:=fun w=>key_eqK (w:=w) hq
                 go_wp2
                 go_region
                 go_wp2
                 go_roundg (k - (i+1))
                 case measure=>omega
                 case rel =>
                  (first |refine ⟨i+1,by omega,rfl,by go_num,fun y hy=>?_,HT.out,HKz.out,HBz.out⟩ |refine ⟨i+1,by omega,rfl,by go_num,fun y hy=>?_,HT.out.drew,HKz.out.drew,HBz.out.drew⟩)
                  rw [List.take_add_one,HX0.out] at hy
                  simp at hy
                  rcases hy with hy |rfl
                  ·exact HNE.out y hy
                  ·intro h
                   rw [eqK_iff.2 h] at hq
                   cases hq
               ·obtain rfl:i=k:=by omega
                have HT:=Lib.hid hT
                have HBz:=Lib.hid hB
                have HNE:=Lib.hid hne
                clear hT hK hB hne hik
                go_wp2
                go_roundg (es.length - (i+1))
                case measure=>omega
                case rel =>
                 refine ⟨i+1,by omega,rfl,by go_num,fun m y hm hy=>?_,HT.out,HBz.out⟩
                 rcases (by omega:m < i∨m=i) with hm |rfl
                 ·exact HAL.out m y hm hy
                 ·obtain rfl:y=e:=by have:=hy.symm.trans HE0.out;simpa using this
                  refine ⟨HOK.out,?_⟩
                  unfold dupB
                  rw [List.any_eq_false]
                  intro z hz hd
                  exact HNE.out z hz (of_decide_eq_true hd)
       ·obtain rfl:k=es.length:=by omega
        have hyes:B=true:=by
         rw [← HBB.out]
         unfold rightB
         rw [HBG.out,ents_yes (fun i e hi=>HAL.out i e (List.getElem?_eq_some_iff.1 hi).1 hi),decide_eq_true (by omega:es.length≤12)]
         rfl
        subst hyes
        clear hk hlt
        go_wp2
        go_roundg 0
        case measure=>omega
        case rel=>exact ⟨1,by omega,rfl,by go_num,(fun _=>rfl),HBy.out⟩
    ·have h12':12 < (es.length:Int):=by omega
     clear h12
     have:B=false:=by rw [← HBB.out];unfold rightB;rw [decide_eq_false (by omega:¬ es.length≤12)];simp
     subst this
     go_wp2_with (go_at_call 85;(with_reducible refine hbg.mono ?_);rintro e w2 ⟨rfl,rfl⟩)
     go_ret
     exact ⟨rfl,HW.out⟩
  ·have hb1:=hjB rfl
   subst hb1
   have HBr:=Lib.hid hB
   clear hB
   go_wp2
   go_ret
   exact ⟨rfl,HBr.out⟩
end
end Go.Proofs.YtkadkmnolkkhgaaGreatDoor.Mw
