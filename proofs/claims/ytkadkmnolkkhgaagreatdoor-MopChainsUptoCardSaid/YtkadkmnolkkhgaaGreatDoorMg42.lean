/-
 Texts of this seat in build order: MwChainL, MwLaid.
-/
import Derived.Test.YtkadkmnolkkhgaaGreatDoorMg39
import Derived.Test.YtkadkmnolkkhgaaGreatDoorMg41
import Derived.Test.YtkadkmnolkkhgaaGreatDoorMg37
import Derived.Test.YtkadkmnolkkhgaaGreatDoorMg36
import Derived.Deep.LoopGhost
import Derived.Test.YtkadkmnolkkhgaaGreatDoorRows
import Derived.Test.YtkadkmnolkkhgaaGreatDoorMg00
import Derived.Stop.LaidErr
import Derived.Lib.LaidTab
import Derived.LaidMore
import Derived.ProofKit
/-
 The law MopChains.
-/
set_option linter.unusedVariables false
set_option linter.unusedSimpArgs false
namespace Go.Proofs.YtkadkmnolkkhgaaGreatDoor.Mw
open Go Go.RowKit Go.Maps Go.Shelf Keys Hp Mo
open Des (Vl Ds zeroV zeroD dcs dcs_size dcs_one accF datF rigF appF eqV whR)
open Arrs (En ecs)
theorem Lists.mono {w:World} {n m:Nat} {a:Option Addr} {ess:List (List En)} (h:Lists w n a ess) (hn:n≤m):Lists w m a ess:=fun j es he=>by
 obtain ⟨h0,b,off,aj,cj,h1,h2,h3,h4⟩:=h j es he
 exact ⟨h0,b,off,aj,cj,h1,by omega,h3,h4.mono hn⟩
theorem lists_arg {w:World} {a:Option Addr} {ess:List (List En)} (h:Lists w w.heap.size a ess) (hn:ess.length≤100) (hf:∀ es ∈ ess,∀ e ∈ es,FitE e):PlArg w a ess rightB:=by
 refine ⟨hn,fun j es hj=>?_,fun es hm=>?_,fun es hm e he=>(hf es hm e he).fine,fun es hm hr=>right_nd hr⟩
 ·obtain ⟨h0,b,off,aj,cj,h1,h2,h3,h4⟩:=h j es hj
  refine ⟨b,off,aj,cj,h1,h2,h3,h4,right_any es aj cj (by omega) fun e he=>?_⟩
  have hq:=hf es (List.mem_of_getElem? hj) e he
  have:=hq.key
  have:=hq.v
  have:=hq.g
  have:=hq.s
  exact ⟨by omega,by omega,by omega,by omega⟩
 ·obtain ⟨j,hj⟩:=List.mem_iff_getElem?.1 hm
  exact (h j es hj).1
def chX (w:World) (wb:Nat):Cx:=⟨w,wb,.nilIface,false,0,min (max 30 0) 1000⟩
def chA (ess:List (List En)):Aw:=plA 1000 60 30 ess ess.length
theorem plain_yes {w:World} (hLw:Nums.Lw w) (a:Option Addr) (cap:Nat) (ess:List (List En)) (hp:PlArg w a ess rightB) (hn:ess.length≤8) (hall:ess.all rightB=true) :
  Calls Tryz.prog 22 #[.slice a ess.length cap,.agg #[.int .i64 1000,.int .i64 60,.int .i64 30]] w fun e w'=>∃ wb M,e = .returned (.tuple #[ptr wb,.bool true])∧WIs (chX w wb) 100000 M w' (chA ess) :=
 (plain_any hLw 1000 60 30 (by omega) a cap ess rightB hp (by omega)).mono fun e w' h=>by
  unfold PlPost at h
  rw [if_pos hall] at h
  exact h
theorem plain_no {w:World} (hLw:Nums.Lw w) (a:Option Addr) (cap:Nat) (ess:List (List En)) (hp:PlArg w a ess rightB) (hn:ess.length≤8) (hall:¬ ess.all rightB=true) :
  Calls Tryz.prog 22 #[.slice a ess.length cap,.agg #[.int .i64 1000,.int .i64 60,.int .i64 30]] w fun e w'=>e = .returned (.tuple #[.pointer none,.bool false])∧Below w.heap.size w w' :=
 (plain_any hLw 1000 60 30 (by omega) a cap ess rightB hp (by omega)).mono fun e w' h=>by
  unfold PlPost at h
  rw [if_neg hall] at h
  exact h
theorem ch_do {w w2:World} {wb:Nat} {M:Wm} {A:Aw} {c:Nat} (Xf:DoT→DoT) (m:Int) (q:Aq) (hq:Fine q.k) (hl:q.l=[]) (h:WIs (chX w wb) (c+1) M w2 A) :
  Calls Tryz.prog 19 #[ptr wb,.int .i64 m,.int .i64 0,.agg (acs q nilS)] w2 (Post (chX w wb) c M w2 (doF Xf (fun _=>none) 30 m 0 q A)) :=
 doIs_plain (X:=chX w wb) (by show min (max (30:Int) 0) 1000≤1000;decide) rfl rfl Xf (k:=30) (by show (0:Int)≤0;decide) (by show (0:Int)+30=min (max 30 0) 1000;decide) c M w2 A m 0 q nilS h hq (by rw [hl];exact VsOut.nil _ _) (by rw [hl];simp)
theorem run_bdAct (w:World) (q:Aq):(Bd 54 #[(2,.agg (acs q nilS))]).run Tryz.prog w = .ok (.agg (actC q)) w:=run_build w _ _ _ (by kernel_rfl)
theorem run_bdO0 (w:World):(Bd 30 #[(0,.int .i64 6)]).run Tryz.prog w = .ok (.agg (vcs (objV 0))) w:=run_bdV1 w 6
theorem ldK0 {w:World} {b:Nat} {k:KV} {T:TypeId} (h:Blk w b (kcs k) T):(Ld 32 (.pointer (some ⟨b,0,none⟩))).run Tryz.prog w = .ok (.agg (kcs k)) w:=run_ldKm (range_mid h [] (kcs k).toList [] (by simp))
theorem bdAct (ps:Array (Nat × Value)):Instr.build 54 ps=Bd 54 ps:=(rfl)
theorem get_zero {es:List En} (h:rightB es=true) {e:En} (he:e ∈ es) (hk:e.d.g.k=6):e.d.g.n=0:=by
 have h2:=right_ent h he
 unfold entB sideB valB at h2
 simp only [Bool.and_eq_true,Bool.or_eq_true,decide_eq_true_eq,bne_iff_ne] at h2
 have h3:Vals.rightF e.d.g.k e.d.g.n e.d.g.s=true:=h2.1.1.1.2.1.2.1.1
 have h4:e.d.g.n < 1:=h2.1.1.1.2.1.2.1.2.resolve_left (fun h=>h hk)
 unfold Vals.rightF at h3
 rw [hk] at h3
 simp [Vals.rnF] at h3
 omega
theorem ent_wh {es:List En} (h:rightB es=true) {e:En} (he:e ∈ es):whR e.d=true:=by
 have h2:=right_ent h he
 unfold entB at h2
 simp only [Bool.and_eq_true] at h2
 exact h2.1.1.1.1
theorem find_mem {es:List En} {q:KV} {d:Ds} (h:find es q=some d):∃ e ∈ es,e.d=d:=by
 unfold find at h
 obtain ⟨e,he,rfl⟩:=Option.map_eq_some_iff.1 h
 exact ⟨e,List.mem_of_find?_eq_some he,rfl⟩
theorem first_wh {q:KV}:∀ {ess:List (List En)},(∀ es ∈ ess,rightB es=true)→∀ {d:Ds},firstF ess q=some d→whR d=true
 | [],_,d,h=>by simp [firstF] at h
 | es :: r,hr,d,h=>by
  unfold firstF at h
  cases hf:find es q with
  | some x =>
   rw [hf] at h
   cases h
   obtain ⟨e,he,rfl⟩:=find_mem hf
   exact ent_wh (hr es List.mem_cons_self) he
  | none =>
   rw [hf] at h
   exact first_wh (fun es' hm=>hr es' (List.mem_cons_of_mem _ hm)) h
theorem wh_dat {d:Ds} (h:whR d=true):datF d = !accF d:=by
 obtain ⟨a1,a2,a3,a4,a5,a6,v,g,s,w,e,c⟩:=d
 cases a1 <;> cases a2 <;> cases a3 <;> cases a4 <;> cases a5 <;> cases a6 <;> simp [whR,Des.rigR,Des.badF,accF,datF] at h ⊢
def ChEnd (o:Option Ds) (R:Rr):Prop :=
 (o=none∧R.flow=0∧R.v=zeroV)∨(∃ d,o=some d∧datF d=true∧R.flow=0∧R.v=d.v)∨(∃ d,o=some d∧datF d=false∧d.g.k=0∧R.flow=0∧R.v=d.v)∨(∃ d,o=some d∧datF d=false∧d.g.k ≠ 0∧R.flow=1)
theorem ch_end {o:Option Ds} {R:Rr} (h:GetR o R) (hw:∀ d,o=some d→whR d=true):ChEnd o R:=by
 cases o with
 | none=>unfold GetR at h;rw [h];exact .inl ⟨rfl,rfl,rfl⟩
 | some d =>
  have h1:=hw d rfl
  have h2:=wh_dat h1
  simp only [GetR] at h
  cases ha:accF d with
  | false =>
   rw [ha] at h h2
   simp only [Bool.false_eq_true,if_false] at h
   rw [h]
   exact .inr (.inl ⟨d,rfl,h2,rfl,rfl⟩)
  | true =>
   rw [ha] at h h2
   simp only [if_true] at h
   by_cases hk:d.g.k=0
   ·rw [if_pos hk] at h
    rw [h]
    exact .inr (.inr (.inl ⟨d,rfl,h2,hk,rfl,(wh_acc h1 ha).1.symm⟩))
   ·rw [if_neg hk] at h
    exact .inr (.inr (.inr ⟨d,rfl,h2,hk,h⟩))
def ChEnd2 (hs:Bool) (D:Ds) (R:Rr):Prop :=
 (hs=false∧R.flow=0∧R.v=D.v)∨(hs=true∧datF D=true∧R.flow=0∧R.v=D.v)∨(hs=true∧datF D=false∧D.g.k=0∧R.flow=0∧R.v=D.v)∨(hs=true∧datF D=false∧D.g.k ≠ 0∧R.flow=1)
theorem ch_end2 {o:Option Ds} {R:Rr} (h:ChEnd o R):ChEnd2 o.isSome (fstD o) R:=by
 rcases h with ⟨rfl,e1,e2⟩ |⟨d,rfl,hd,e1,e2⟩ |⟨d,rfl,hd,hg,e1,e2⟩ |⟨d,rfl,hd,hg,e1⟩
 ·exact .inl ⟨rfl,e1,e2⟩
 ·exact .inr (.inl ⟨rfl,hd,e1,e2⟩)
 ·exact .inr (.inr (.inl ⟨rfl,hd,hg,e1,e2⟩))
 ·exact .inr (.inr (.inr ⟨rfl,hd,hg,e1⟩))
theorem eqv_same {a b:Vl} (h:a=b) (w:World):(binOp .eql 30 (.agg (vcs a)) (.agg (vcs b))).run Tryz.prog w = .ok (.bool true) w:=by
 subst h
 rw [eqV_run]
 simp
theorem ch_all {ess:List (List En)} (h1:1≤ess.length) (h2:ess.length≤8) (hall:ess.all rightB=true) (k:KV) (Xf:DoT→DoT) :
  ∃ B,doF Xf (fun _=>none) 30 7 0 { zeroQ with k:=k } (chA ess)=(ans (firstF ess k).isSome,B)∧ChEnd2 (firstF ess k).isSome (fstD (firstF ess k)) (doF Xf (fun _=>none) 30 8 0 { zeroQ with k:=k,r:=objV 0 } B).1:=by
 have hall2:∀ es ∈ ess,rightB es=true:=fun es hm=>List.all_eq_true.1 hall es hm
 have hA:(chA ess).objs=plL ess ess.length:=rfl
 have hf:(chA ess).fuel=1000:=rfl
 have hd:(chA ess).depth=0:=rfl
 have hD:(chA ess).deep=30:=rfl
 have hr:(chA ess).room=60:=rfl
 obtain ⟨B,e1,s1⟩:=pl_has (X:=Xf) (C:=fun _=>none) k ess.length 0 30 (chA ess) hA (by omega) (by omega) (by rw [hd,hD];decide) (by omega) (by rw [hf];omega)
 rw [List.drop_zero] at e1
 have e2:=pl_mget (X:=Xf) (C:=fun _=>none) (ess:=ess) k (objV 0) (fun es hm e he hk=>get_zero (hall2 es hm) he hk) ess.length 0 30 B (s1.objs.trans hA) (by omega) (by omega) (by rw [s1.depth,s1.deep,hd,hD];decide) (by omega) (by have:=s1.fuel;rw [hf] at this;omega) (by rw [s1.room,hr];omega)
 rw [List.drop_zero] at e2
 exact ⟨B,e1,ch_end2 (ch_end e2 fun d hd2=>first_wh hall2 hd2)⟩
attribute [local go_sem ↓] ldR stR alR bxR bdR ldV stV alV bxV bdV ldA stA bxA bdA ldKy bxKy bdKy ldD stD alD bxDe bdD bxAct bdAct
attribute [local irreducible] rcs dcs ecs vcs acs kcs xcs tcs actC
attribute [local go_sem] run_bx run_alR run_stRg run_bdAk run_bdAkr run_bdAct run_bdO0 run_alV run_stVg run_alD run_stDg
section
set_option maxRecDepth 100000 in
set_option maxHeartbeats 4000000 in
theorem lawChains_out (a:Option Addr) (cap:Nat) (n:Nat) (k:KV) (w:World) (hLw:Nums.Lw w) (h:n < 1∨8 < n):Calls Tryz.prog 4 #[.slice a n cap,.agg (kcs k)] w fun e w'=>e = .returned (.bool true)∧Below w.heap.size w w':=by
 have b1:Below w.heap.size w (w.alloc (.cells (kcs k) 32)):=(Below.refl _ w).alloc (Nat.le_refl _) _
 have hal:=alive_any _ (hLw.below b1)
 have B1:=Lib.hid b1
 clear hLw b1
 by_cases h1:n < 1
 ·clear h
  have d1:decide (n < 1)=true:=by simp;omega
  have d1':decide ((n:Int) < 1)=true:=by simp;omega
  go_enter Tryz.func4,Tryz.ntmps4
  go_wp2_with (go_at_call 13;(with_reducible refine hal.mono ?_);rintro e w2 ⟨rfl,hb⟩)
  go_ret
  exact ⟨rfl,B1.out.trans (hb.mono B1.out.size)⟩
 have d1:decide (n < 1)=false:=by simp;omega
 have d1':decide ((n:Int) < 1)=false:=by simp;omega
 have d2:decide (8 < n)=true:=by simp;omega
 have d2':decide (8 < (n:Int))=true:=by simp;omega
 clear h h1
 go_enter Tryz.func4,Tryz.ntmps4
 go_wp2_with (go_at_call 13;(with_reducible refine hal.mono ?_);rintro e w2 ⟨rfl,hb⟩)
 go_ret
 exact ⟨rfl,B1.out.trans (hb.mono B1.out.size)⟩
end
section
set_option maxRecDepth 100000 in
set_option maxHeartbeats 8000000 in
theorem lawChains_main (a:Option Addr) (cap:Nat) (ess:List (List En)) (k:KV) (w:World) (hLw:Nums.Lw w) (h1:1≤ess.length) (h2:ess.length≤8) (hl:Lists w w.heap.size a ess) (hf:∀ es ∈ ess,∀ e ∈ es,FitE e) (hk:k.1.size≤1048576) (hkf:Fine k):Calls Tryz.prog 4 #[.slice a ess.length cap,.agg (kcs k)] w fun e w'=>e = .returned (.bool true)∧Below w.heap.size w w':=by
 have b1:Below w.heap.size w (w.alloc (.cells (kcs k) 32)):=(Below.refl _ w).alloc (Nat.le_refl _) _
 have x1:=Blk.new w (kcs k) 32
 have hal:=alive_any _ (hLw.below b1)
 have hmay:=fun w=>may_any { zeroQ with k:=k } (by show k.1.size≤2000000;omega) (Nat.zero_le _) (Nat.zero_le _) (Nat.zero_le _) (Nat.zero_le _) (Nat.zero_le _) w
 have d1:decide ((ess.length:Int) < 1)=false:=by simp;omega
 have d1':decide (ess.length < 1)=false:=decide_eq_false (by omega)
 have d2:decide (8 < (ess.length:Int))=false:=by simp;omega
 have d2':decide (8 < ess.length)=false:=by simp;omega
 obtain ⟨Xf,hXf⟩:∃ Xf:DoT→DoT,Xf=fun D=>D:=⟨_,rfl⟩
 clear hXf
 have B1:=Lib.hid b1
 have X1:=Lib.hid x1
 have HLW:=Lib.hid hLw
 have HL:=Lib.hid hl
 have HF:=Lib.hid hf
 have H1:=Lib.hid h1
 have H2:=Lib.hid h2
 have HKF:=Lib.hid hkf
 clear b1 x1 hLw hl hf h1 h2 hk hkf
 go_enter Tryz.func4,Tryz.ntmps4
 go_wp2_with (first
  | (go_at_call 13;(with_reducible refine hal.mono ?_);rintro e w2 ⟨rfl,hb2⟩;have x2:=X1.out.call hb2;have l2:=ldK0 x2;have X2:=Lib.hid x2;have B2:=Lib.hid (B1.out.trans (hb2.mono B1.out.size));clear hb2 x2 hal)
  | (go_at_call 18;(with_reducible refine (hmay _).mono ?_);rintro e w3 ⟨⟨B,rfl⟩,hb3⟩;have x3:=X2.out.call hb3;have l3:=ldK0 x3;have X3:=Lib.hid x3;have B3:=Lib.hid (B2.out.trans (hb3.mono B2.out.size));clear hb3 x3;refine Hid.out ?_))
 refine Lib.hid ?_
 clear hmay
 cases B
 ·go_wp2
  go_ret
  exact ⟨rfl,B3.out⟩
 have hpa:PlArg w3 a ess rightB:=lists_arg ((HL.out.below B3.out).mono B3.out.size) (by have:=H2.out;omega) HF.out
 by_cases hall:ess.all rightB=true
 ·have hpl:=plain_yes (HLW.out.below B3.out) a cap ess hpa H2.out hall
  obtain ⟨A1,e1,hend⟩:=ch_all H1.out H2.out hall k Xf
  obtain ⟨R2,hR2⟩:∃ R2,doF Xf (fun _=>none) 30 8 0 { zeroQ with k:=k,r:=objV 0 } A1=R2:=⟨_,rfl⟩
  obtain ⟨D,hD⟩:∃ D,fstD (firstF ess k)=D:=⟨_,rfl⟩
  obtain ⟨hs,hh⟩:∃ b,(firstF ess k).isSome=b:=⟨_,rfl⟩
  rw [hR2,hD,hh] at hend
  rw [hh] at e1
  have HR2:=Lib.hid hR2
  have HD:=Lib.hid hD
  have HH:=Lib.hid hh
  have E1:=Lib.hid e1
  have HEND:=Lib.hid hend
  clear hpa hall e1 hend hR2 hD hh
  go_wp2_with (first
   | (go_at_call 22;(with_reducible refine hpl.mono ?_);rintro e w4 ⟨wb,M4,rfl,h4⟩;have F4:=(Fm.start h4).new (vcs (objV 0)) 30;have l4:=ldK0 (X3.out.call F4.wis.bel);have hdo:=ch_do (c:=99999) Xf 7 { zeroQ with k:=k } HKF.out rfl F4.wis;rw [E1.out] at hdo;have HF4:=Lib.hid F4;clear h4 F4 hpl)
   | (go_at_call 19;(with_reducible refine hdo.mono ?_);rintro e w5 ⟨M5,kv5,rfl,hks,hM,hn⟩;have hg5:=Rr.good _ hks;have F5:=(((HF4.out.post hks hM hn).ok rfl).new (rcs ((ans hs).mem kv5)) 57);have l5:=ldK0 (X3.out.call F5.wis.bel);have v5:=run_ldVp F5.l1.blk;have hdo2:=ch_do (c:=99999) (A:=A1) Xf 8 { zeroQ with k:=k,r:=objV 0 } HKF.out rfl F5.wis;rw [HR2.out] at hdo2;have HF5:=Lib.hid F5;clear hks hM hn F5 hdo)
   | (go_at_call 19;(with_reducible refine hdo2.mono ?_);rintro e w6 ⟨M6,kv6,rfl,hks,hM,hn⟩;have hg6:=Rr.good _ hks;have F6:=((HF5.out.post hks hM hn).new (rcs (R2.1.mem kv6)) 57);have l6:=ldK0 (X3.out.call F6.wis.bel);have hfi:=first_any a cap ess k (by have:=H2.out;omega) _ ((HL.out.below (B3.out.trans (F6.wis.bel.mono B3.out.size))).mono (Nat.le_trans B3.out.size F6.wis.bel.size));rw [HD.out,HH.out] at hfi;have HF6:=Lib.hid F6;clear hks hM hn F6 hdo2)
   | (go_at_call 23;(with_reducible refine hfi.mono ?_);rintro e w7 ⟨rfl,hb7⟩;have F7:=(HF6.out.call hb7).new (dcs D) 34;have HF7:=Lib.hid F7;clear hb7 hfi F7;refine Hid.out ?_))
  refine Lib.hid ?_
  have hfin:=HF7.out.wis.bel
  have HFI:=Lib.hid (B3.out.trans (hfin.mono B3.out.size))
  clear hfin
  have f5:=rm_f HF7.out.l2.blk
  have f5:(w7.alloc (.cells (dcs D) 34)).cell? ⟨w5.heap.size,0,none⟩=some (.int .i64 0):=f5
  have o5:(w7.alloc (.cells (dcs D) 34)).cell? ⟨w5.heap.size,4,none⟩=some (.bool hs):=rm_ok HF7.out.l2.blk
  have f6:=rm_f HF7.out.l1.blk
  have v6:=rm_v HF7.out.l1.blk
  have d7:=d_all HF7.out.l0.blk
  have v7:=d_v HF7.out.l0.blk
  rcases HEND.out with ⟨rfl,e1,e2⟩ |⟨rfl,hd,e1,e2⟩ |⟨rfl,hd,hg,e1,e2⟩ |⟨rfl,hd,hg,e1⟩
  ·rw [e1] at f6
   have eqv:=eqv_same e2
   clear e1 e2
   go_wp2
   go_ret
   exact ⟨rfl,HFI.out⟩
  ·rw [e1] at f6
   have hdt:=fun w=>Des.rdat_any D w
   rw [hd] at hdt
   have E6:=Lib.hid e1
   have eqv:=eqv_same e2
   clear e1 e2
   go_wp2_with (go_at_call 24;(with_reducible refine (hdt _).mono ?_);rintro e w8 ⟨rfl,hb8⟩;have F8:=HF7.out.call hb8;have f6:=rm_f F8.l1.blk;rw [E6.out] at f6;have v6:=rm_v F8.l1.blk;have v7:=d_v F8.l0.blk;have g7:=d_gk F8.l0.blk;have HFI:=Lib.hid (HFI.out.trans (hb8.mono HFI.out.size));clear hb8 F8)
   go_ret
   exact ⟨rfl,HFI.out⟩
  ·rw [e1] at f6
   have hdt:=fun w=>Des.rdat_any D w
   rw [hd] at hdt
   have E6:=Lib.hid e1
   have HG:=Lib.hid hg
   have eqv:=eqv_same e2
   clear e1 e2 hg
   go_wp2_with (go_at_call 24;(with_reducible refine (hdt _).mono ?_);rintro e w8 ⟨rfl,hb8⟩;have F8:=HF7.out.call hb8;have f6:=rm_f F8.l1.blk;rw [E6.out] at f6;have v6:=rm_v F8.l1.blk;have v7:=d_v F8.l0.blk;have g7:=d_gk F8.l0.blk;rw [HG.out] at g7;have HFI:=Lib.hid (HFI.out.trans (hb8.mono HFI.out.size));clear hb8 F8)
   go_ret
   exact ⟨rfl,HFI.out⟩
  ·rw [e1] at f6
   have hdt:=fun w=>Des.rdat_any D w
   rw [hd] at hdt
   have E6:=Lib.hid e1
   obtain ⟨gk,hgk⟩:∃ gk,D.g.k=gk:=⟨_,rfl⟩
   rw [hgk] at hg
   have HGK:=Lib.hid hgk
   have dg:(gk == 0)=false:=by simpa using hg
   clear hgk
   clear e1 hg
   go_wp2_with (go_at_call 24;(with_reducible refine (hdt _).mono ?_);rintro e w8 ⟨rfl,hb8⟩;have F8:=HF7.out.call hb8;have f6:=rm_f F8.l1.blk;rw [E6.out] at f6;have v6:=rm_v F8.l1.blk;have v7:=d_v F8.l0.blk;have g7:=d_gk F8.l0.blk;rw [HGK.out] at g7;have HFI:=Lib.hid (HFI.out.trans (hb8.mono HFI.out.size));clear hb8 F8)
   go_ret
   exact ⟨rfl,HFI.out⟩
 ·have hpl:=plain_no (HLW.out.below B3.out) a cap ess hpa H2.out hall
  clear hpa hall
  go_wp2_with (go_at_call 22;(with_reducible refine hpl.mono ?_);rintro e w4 ⟨rfl,hb4⟩;have B4:=Lib.hid (B3.out.trans (hb4.mono B3.out.size));clear hb4 hpl)
  go_ret
  exact ⟨rfl,B4.out⟩
theorem lawChains_walk (a:Option Addr) (cap:Nat) (ess:List (List En)) (k:KV) (w:World) (hLw:Nums.Lw w) (hl:Lists w w.heap.size a ess∧∀ es ∈ ess,∀ e ∈ es,FitE e) (hk:k.1.size≤1048576) (hb:I64 k.2):Calls Tryz.prog 4 #[.slice a ess.length cap,.agg (kcs k)] w fun e w'=>e = .returned (.bool true)∧Below w.heap.size w w':=by
 by_cases h:ess.length < 1∨8 < ess.length
 ·exact lawChains_out a cap ess.length k w hLw h
 ·exact lawChains_main a cap ess k w hLw (by omega) (by omega) hl.1 hl.2 hk ⟨by omega,hb.1,hb.2⟩
end
end Go.Proofs.YtkadkmnolkkhgaaGreatDoor.Mw

/-
 What the listed variables give: the tables and the sentinels of the library.
-/
namespace Go.Proofs.YtkadkmnolkkhgaaGreatDoor.Nums
open Go.RowKit
theorem gPow:Tryz.prog.globalNamed "internal/strconv.uint64pow10" = some 0:=by kernel_rfl
theorem gPowType:(Tryz.prog.globals[0]?).map (·.type)=some 317:=by kernel_rfl
theorem cells48:Tryz.prog.cellsOf 284=1:=by kernel_rfl
theorem cells61:Tryz.prog.cellsOf 317=20:=by kernel_rfl
theorem gSyn:Tryz.prog.globalNamed "strconv.ErrSyntax" = some 3:=by kernel_rfl
theorem gSynType:(Tryz.prog.globals[3]?).map (·.type)=some 305:=by kernel_rfl
theorem gRan:Tryz.prog.globalNamed "strconv.ErrRange" = some 4:=by kernel_rfl
theorem gRanType:(Tryz.prog.globals[4]?).map (·.type)=some 305:=by kernel_rfl
theorem cells70:Tryz.prog.cellsOf 358=1:=by kernel_rfl
theorem cells9:Tryz.prog.cellsOf 9=1:=by kernel_rfl
theorem star : "*" ++ "errors.errorString" = "*errors.errorString" := by decide
theorem row68 (u:TypeId) (h:Tryz.prog.typeName? 3 u=some "*errors.errorString"):u=356 :=
 typeName_ptr_named (nm := "errors.errorString") (by rw [star];kernel_rfl) (by kernel_rfl) (by decide) u (by rw [star];exact h)
theorem lw_of_laid {W:World} {row:OpenClaim} (hr:row.laid=[("math/bits.deBruijn32tab",Rows.laid_math_bits_deBruijn32tab),("math/bits.deBruijn64tab",Rows.laid_math_bits_deBruijn64tab),("internal/strconv.uint64pow10",Rows.laid_internal_strconv_uint64pow10),("strconv.ErrRange",Rows.laid_strconv_ErrRange),("strconv.ErrSyntax",Rows.laid_strconv_ErrSyntax)]) (h:laidMetH Tryz.prog row.laid W):Lw W:=by
 rw [hr] at h
 rw [MakeChecks.laidMetH_plain _ _ _ (by kernel_rfl)] at h
 have h3:=h.tail.tail
 have h4:=h3.tail
 obtain ⟨a0,s0,hv0,-,-,-⟩:=laid_sentinel h4 gRan gRanType Tryz.underlying305 row68 Tryz.underlying356 Tryz.underlying358 rfl rfl Tryz.underlying9 cells70 cells9
 obtain ⟨a1,s1,hv1,-,-,-⟩:=laid_sentinel h4.tail gSyn gSynType Tryz.underlying305 row68 Tryz.underlying356 Tryz.underlying358 rfl rfl Tryz.underlying9 cells70 cells9
 exact ⟨Lib.tabIs_of_head gPow gPowType Tryz.underlying317 Tryz.underlying284 cells48 cells61 h3,⟨_,_,hv1⟩,⟨_,_,hv0⟩⟩
end Go.Proofs.YtkadkmnolkkhgaaGreatDoor.Nums
