/-
 Texts of this seat in build order: MwCall, MwCan, MwInv, MwNum.
-/
import Derived.Test.YtkadkmnolkkhgaaGreatDoorMb23
import Derived.Test.YtkadkmnolkkhgaaGreatDoorMb20
import Derived.Deep.DeepCutAuto
import Derived.Test.YtkadkmnolkkhgaaGreatDoorMb19
import Derived.Test.YtkadkmnolkkhgaaGreatDoorMb22
import Derived.Test.YtkadkmnolkkhgaaGreatDoorMb07
import Derived.Test.YtkadkmnolkkhgaaGreatDoorMb01
/-
 call.
-/
set_option linter.unusedVariables false
set_option linter.unusedSimpArgs false
namespace Go.Proofs.YtkadkmnolkkhgaaGreatDoor.Mw
open Go Go.RowKit Go.Maps Go.Shelf Keys Hp Mo
open Des (Vl Ds zeroV zeroD dcs dcs_size dcs_one accF rigF appF eqV)
open Arrs (En ecs)
attribute [local go_sem ↓] ldR stR alR bxR bdR ldV stV alV bxV bdV ldA stA bxA bdA ldKy bxKy bdKy 
attribute [local irreducible] rcs dcs ecs vcs acs kcs xcs tcs
attribute [local go_sem] run_bx run_alR run_stRg run_bdA0 run_bdAk run_bdAkr run_bdAkvr run_bdAr run_bdAkd run_bdRz run_bdRd run_bdRk run_bdRf run_bdRo run_bdRs run_bdRt' run_bdKs 
section
variable {X:Cx} {c:Nat} {M M' M'':Wm} {w w' w'':World} {A A' A'':Aw} {ls:List Lc} {kl:List (Value × List KV)} {ro:List Lc} {D:DoT} {C:HandT}
set_option maxRecDepth 100000 in
set_option maxHeartbeats 4000000 in
theorem call_const (HH:HandIs X C) (h:WIs X (c+2) M w A) (o:Int) {x:Ob} (hat:at? A o=some x) {T:TypeId} {xb:Nat} (hx:Blk w xb (xcs o x.th) T) (hxo:xb ∉ M.bl X.wb) (q:Aq) (ql:Value) (hl:VsOut (M.bl X.wb) w ql q.l) (hlen:q.l.length+100000≤lim X) (hc:x.th.code=2) :
  Calls Tryz.prog 166 #[ptr X.wb,ptr xb,.agg (acs q ql)] w (Post X c M w (done x.th.v,A)):=by
 obtain ⟨ala,alc,rfl,-⟩:=id hl
 obtain ⟨w1,hw1⟩:∃ w1,(w.alloc (.cells (acs q (.slice ala q.l.length alc)) 52)).alloc (.cells (rcs zeroR) 57)=w1:=⟨_,rfl⟩
 have F0:Fm X (c+2) M w M w1 A [⟨w.heap.size+1,rcs zeroR,57⟩,⟨w.heap.size,acs q (.slice ala q.l.length alc),52⟩] [] [⟨xb,xcs o x.th,T⟩]:=by
  rw [← hw1];exact (((Fm.start h).with hx hxo).new _ _).newg _ _ _ (by simp)
 have xc:=x_code F0.r0
 have d2:(x.th.code == 2)=true:=by simp [hc]
 have lv:=x_v F0.r0
 have s1:=run_stRp F0.l0.blk (r:=(done x.th.v).mem nilS) ⟨_,_,_,rfl⟩
 have F4:=F0.put (l:=[]) (rcs ((done x.th.v).mem nilS)) (show 57 ≠ 32 by decide)
 have HF4:=Lib.hid F4
 clear F4
 have HC:=Lib.hid hc
 clear F0 h hat hx hxo hl hlen hc HH
 go_enter Tryz.func166,Tryz.ntmps166
 go_wp2
 refine bodyPost_ret (res_R rfl _ _ (w.heap.size+1) _ rfl HF4.out.l0.blk) rfl ?_
 exact (HF4.out.less (c':=c+1) (by omega)).fin1 rfl
set_option maxRecDepth 100000 in
set_option maxHeartbeats 4000000 in
theorem call_throw (HH:HandIs X C) (h:WIs X (c+2) M w A) (o:Int) {x:Ob} (hat:at? A o=some x) {T:TypeId} {xb:Nat} (hx:Blk w xb (xcs o x.th) T) (hxo:xb ∉ M.bl X.wb) (q:Aq) (ql:Value) (hl:VsOut (M.bl X.wb) w ql q.l) (hlen:q.l.length+100000≤lim X) (hc:x.th.code=3) :
  Calls Tryz.prog 166 #[ptr X.wb,ptr xb,.agg (acs q ql)] w (Post X c M w (thrown x.th.v,A)):=by
 obtain ⟨ala,alc,rfl,-⟩:=id hl
 obtain ⟨w1,hw1⟩:∃ w1,(w.alloc (.cells (acs q (.slice ala q.l.length alc)) 52)).alloc (.cells (rcs zeroR) 57)=w1:=⟨_,rfl⟩
 have F0:Fm X (c+2) M w M w1 A [⟨w.heap.size+1,rcs zeroR,57⟩,⟨w.heap.size,acs q (.slice ala q.l.length alc),52⟩] [] [⟨xb,xcs o x.th,T⟩]:=by
  rw [← hw1];exact (((Fm.start h).with hx hxo).new _ _).newg _ _ _ (by simp)
 have xc:=x_code F0.r0
 have d2:(x.th.code == 2)=false:=by simp [hc]
 have d3:(x.th.code == 3)=true:=by simp [hc]
 have lv:=x_v F0.r0
 have s1:=run_stRp F0.l0.blk (r:=(thrown x.th.v).mem nilS) ⟨_,_,_,rfl⟩
 have F4:=F0.put (l:=[]) (rcs ((thrown x.th.v).mem nilS)) (show 57 ≠ 32 by decide)
 have HF4:=Lib.hid F4
 clear F4
 have HC:=Lib.hid hc
 clear F0 h hat hx hxo hl hlen hc HH
 go_enter Tryz.func166,Tryz.ntmps166
 go_wp2
 refine bodyPost_ret (res_R rfl _ _ (w.heap.size+1) _ rfl HF4.out.l0.blk) rfl ?_
 exact (HF4.out.less (c':=c+1) (by omega)).fin1 rfl
set_option maxRecDepth 100000 in
set_option maxHeartbeats 4000000 in
theorem call_this (HH:HandIs X C) (h:WIs X (c+2) M w A) (o:Int) {x:Ob} (hat:at? A o=some x) {T:TypeId} {xb:Nat} (hx:Blk w xb (xcs o x.th) T) (hxo:xb ∉ M.bl X.wb) (q:Aq) (ql:Value) (hl:VsOut (M.bl X.wb) w ql q.l) (hlen:q.l.length+100000≤lim X) (hc:x.th.code=5) :
  Calls Tryz.prog 166 #[ptr X.wb,ptr xb,.agg (acs q ql)] w (Post X c M w (done q.r,A)):=by
 obtain ⟨ala,alc,rfl,-⟩:=id hl
 obtain ⟨w1,hw1⟩:∃ w1,(w.alloc (.cells (acs q (.slice ala q.l.length alc)) 52)).alloc (.cells (rcs zeroR) 57)=w1:=⟨_,rfl⟩
 have F0:Fm X (c+2) M w M w1 A [⟨w.heap.size+1,rcs zeroR,57⟩,⟨w.heap.size,acs q (.slice ala q.l.length alc),52⟩] [] [⟨xb,xcs o x.th,T⟩]:=by
  rw [← hw1];exact (((Fm.start h).with hx hxo).new _ _).newg _ _ _ (by simp)
 have xc:=x_code F0.r0
 have d2:(x.th.code == 2)=false:=by simp [hc]
 have d3:(x.th.code == 3)=false:=by simp [hc]
 have d4:(x.th.code == 4)=false:=by simp [hc]
 have d5:(x.th.code == 5)=true:=by simp [hc]
 have lv:=ask_r F0.l1.blk
 have s1:=run_stRp F0.l0.blk (r:=(done q.r).mem nilS) ⟨_,_,_,rfl⟩
 have F4:=F0.put (l:=[]) (rcs ((done q.r).mem nilS)) (show 57 ≠ 32 by decide)
 have HF4:=Lib.hid F4
 clear F4
 have HC:=Lib.hid hc
 clear F0 h hat hx hxo hl hlen hc HH
 go_enter Tryz.func166,Tryz.ntmps166
 go_wp2
 refine bodyPost_ret (res_R rfl _ _ (w.heap.size+1) _ rfl HF4.out.l0.blk) rfl ?_
 exact (HF4.out.less (c':=c+1) (by omega)).fin1 rfl
set_option maxRecDepth 100000 in
set_option maxHeartbeats 4000000 in
theorem call_arg (HH:HandIs X C) (h:WIs X (c+2) M w A) (o:Int) {x:Ob} (hat:at? A o=some x) {T:TypeId} {xb:Nat} (hx:Blk w xb (xcs o x.th) T) (hxo:xb ∉ M.bl X.wb) (q:Aq) (ql:Value) (hl:VsOut (M.bl X.wb) w ql q.l) (hlen:q.l.length+100000≤lim X) (hc:x.th.code=4) :
  Calls Tryz.prog 166 #[ptr X.wb,ptr xb,.agg (acs q ql)] w (Post X c M w (done (argF q.l x.th.n),A)):=by
 obtain ⟨ala,alc,rfl,-⟩:=id hl
 obtain ⟨w1,hw1⟩:∃ w1,(w.alloc (.cells (acs q (.slice ala q.l.length alc)) 52)).alloc (.cells (rcs zeroR) 57)=w1:=⟨_,rfl⟩
 have F0:Fm X (c+2) M w M w1 A [⟨w.heap.size+1,rcs zeroR,57⟩,⟨w.heap.size,acs q (.slice ala q.l.length alc),52⟩] [] [⟨xb,xcs o x.th,T⟩]:=by
  rw [← hw1];exact (((Fm.start h).with hx hxo).new _ _).newg _ _ _ (by simp)
 have xc:=x_code F0.r0
 have d2:(x.th.code == 2)=false:=by simp [hc]
 have d3:(x.th.code == 3)=false:=by simp [hc]
 have d4:(x.th.code == 4)=true:=by simp [hc]
 have FD:=F0.drew
 have lc:=ask_l FD.l1.blk
 have xn:=x_n FD.r0
 have hlim:q.l.length≤1000000000:=by
  have:=h.deep;have:=h.dep1;have:=h.dpe
  unfold lim at hlen
  omega
 have ha:=arg_any (hl.nx FD.nx) x.th.n hlim
 have HFD:=Lib.hid FD
 clear FD hlim
 have HC:=Lib.hid hc
 clear F0 h hat hx hxo hl hlen hc HH
 go_enter Tryz.func166,Tryz.ntmps166
 go_upto_region 7 with fail
 go_region_with (go_at_call 195;(with_reducible refine ha.mono ?_);rintro e w3 ⟨rfl,hb⟩;have F3:=HFD.out.call hb;have s3:=run_stRp F3.l0.blk (r:=(done (argF q.l x.th.n)).mem nilS) ⟨_,_,_,rfl⟩;have HF3:=Lib.hid F3;clear hb F3)
 all_goals
  have F4:=HF3.out.put (l:=[]) (rcs ((done (argF q.l x.th.n)).mem nilS)) (show 57 ≠ 32 by decide)
  go_wp2
  refine bodyPost_ret (res_R rfl _ _ (w.heap.size+1) _ rfl F4.l0.blk) rfl ?_
  exact (F4.less (c':=c+1) (by omega)).fin1 (R:=(done (argF q.l x.th.n),A)) rfl
set_option maxRecDepth 100000 in
set_option maxHeartbeats 4000000 in
theorem call_made (HH:HandIs X C) (h:WIs X (c+2) M w A) (o:Int) {x:Ob} (hat:at? A o=some x) {T:TypeId} {xb:Nat} (hx:Blk w xb (xcs o x.th) T) (hxo:xb ∉ M.bl X.wb) (q:Aq) (ql:Value) (hl:VsOut (M.bl X.wb) w ql q.l) (hlen:q.l.length+100000≤lim X) (hc:x.th.code=30) :
  Calls Tryz.prog 166 #[ptr X.wb,ptr xb,.agg (acs q ql)] w (Post X c M w (failF typeErr A)):=by
 obtain ⟨ala,alc,rfl,-⟩:=id hl
 obtain ⟨w1,hw1⟩:∃ w1,(w.alloc (.cells (acs q (.slice ala q.l.length alc)) 52)).alloc (.cells (rcs zeroR) 57)=w1:=⟨_,rfl⟩
 have F0:Fm X (c+2) M w M w1 A [⟨w.heap.size+1,rcs zeroR,57⟩,⟨w.heap.size,acs q (.slice ala q.l.length alc),52⟩] [] [⟨xb,xcs o x.th,T⟩]:=by
  rw [← hw1];exact (((Fm.start h).with hx hxo).new _ _).newg _ _ _ (by simp)
 have xc:=x_code F0.r0
 have d2:(x.th.code == 2)=false:=by simp [hc]
 have d3:(x.th.code == 3)=false:=by simp [hc]
 have d4:(x.th.code == 4)=false:=by simp [hc]
 have d5:(x.th.code == 5)=false:=by simp [hc]
 have d30:(x.th.code == 30)=true:=by simp [hc]
 have hf:=fail_any (F0.less (c':=c+1) (by omega)).wis typeErr
 have HF2:=Lib.hid (F0.less (c':=c+1) (by omega))
 have HC:=Lib.hid hc
 clear F0 h hat hx hxo hl hlen hc HH
 go_enter Tryz.func166,Tryz.ntmps166
 go_wp2_with (go_at_call 50;refine hf.mono ?_;intro e w3 hp;obtain ⟨M3,kv3,rfl,hks,hM,hn⟩:=FailP.post hp;have hg3:=Rr.good _ hks;have F3:=HF2.out.post hks hM hn;have s3:=run_stRp F3.l0.blk hg3;have HF3:=Lib.hid F3;clear hks hM hn hp F3)
 have F4:=HF3.out.put (l:=[]) (rcs ((failF typeErr A).1.mem kv3)) (show 57 ≠ 32 by decide)
 refine bodyPost_ret (res_R rfl _ _ (w.heap.size+1) _ rfl F4.l0.blk) rfl ?_
 exact F4.fin F4.k0
set_option maxRecDepth 100000 in
set_option maxHeartbeats 4000000 in
theorem call_hand (HH:HandIs X C) (h:WIs X (c+2) M w A) (o:Int) {x:Ob} (hat:at? A o=some x) {T:TypeId} {xb:Nat} (hx:Blk w xb (xcs o x.th) T) (hxo:xb ∉ M.bl X.wb) (q:Aq) (ql:Value) (hl:VsOut (M.bl X.wb) w ql q.l) (hlen:q.l.length+100000≤lim X) (hc:x.th.code ≠ 2∧x.th.code ≠ 3∧x.th.code ≠ 4∧x.th.code ≠ 5∧x.th.code ≠ 30) :
  Calls Tryz.prog 166 #[ptr X.wb,ptr xb,.agg (acs q ql)] w (Post X c M w (handF C o q.r q.l A)):=by
 obtain ⟨ala,alc,rfl,-⟩:=id hl
 obtain ⟨w1,hw1⟩:∃ w1,(w.alloc (.cells (acs q (.slice ala q.l.length alc)) 52)).alloc (.cells (rcs zeroR) 57)=w1:=⟨_,rfl⟩
 have F0:Fm X (c+2) M w M w1 A [⟨w.heap.size+1,rcs zeroR,57⟩,⟨w.heap.size,acs q (.slice ala q.l.length alc),52⟩] [] [⟨xb,xcs o x.th,T⟩]:=by
  rw [← hw1];exact (((Fm.start h).with hx hxo).new _ _).newg _ _ _ (by simp)
 have xc:=x_code F0.r0
 have d2:(x.th.code == 2)=false:=by simp;omega
 have d3:(x.th.code == 3)=false:=by simp;omega
 have d4:(x.th.code == 4)=false:=by simp;omega
 have d5:(x.th.code == 5)=false:=by simp;omega
 have d30:(x.th.code == 30)=false:=by simp;omega
 have F1:=F0.less (c':=c+1) (by omega)
 have lc:=ask_l F1.l1.blk
 have lr:=ask_r F1.l1.blk
 have hh:=HH c M w1 A o x.th q.r q.l ala alc xb T F1.wis F1.r0 F1.r0o (hl.nx F1.nx) hlen
 have HF2:=Lib.hid F1
 clear F1
 have HC:=Lib.hid hc
 clear F0 h hat hx hxo hl hlen hc HH
 go_enter Tryz.func166,Tryz.ntmps166
 go_wp2_with (go_at_call 194;(with_reducible refine hh.mono ?_);rintro e w3 ⟨M3,kv3,rfl,hks,hM,hn⟩;have hg3:=Rr.good _ hks;have SZ3:=Lib.hid hn.size;have F3:=HF2.out.post hks hM hn;have s3:=run_stRp F3.l0.blk hg3;have HF3:=Lib.hid F3;clear hks hM hn F3)
 have F4:=HF3.out.put (l:=[]) (rcs ((handF C o q.r q.l A).1.mem kv3)) (show 57 ≠ 32 by decide)
 refine bodyPost_ret (res_R rfl _ _ (w.heap.size+1) _ rfl F4.l0.blk) rfl ?_
 exact F4.fin F4.k0
set_option maxRecDepth 100000 in
set_option maxHeartbeats 4000000 in
theorem call_any (HH:HandIs X C) (h:WIs X (c+2) M w A) (o:Int) {x:Ob} (hat:at? A o=some x) {T:TypeId} {xb:Nat} (hx:Blk w xb (xcs o x.th) T) (hxo:xb ∉ M.bl X.wb) (q:Aq) (ql:Value) (hl:VsOut (M.bl X.wb) w ql q.l) (hlen:q.l.length+100000≤lim X) :
  Calls Tryz.prog 166 #[ptr X.wb,ptr xb,.agg (acs q ql)] w (Post X c M w (callF C o x.th q A)):=by
 unfold callF
 by_cases h2:x.th.code=2
 ·rw [if_pos h2];exact call_const HH h o hat hx hxo q ql hl hlen h2
 rw [if_neg h2]
 by_cases h3:x.th.code=3
 ·rw [if_pos h3];exact call_throw HH h o hat hx hxo q ql hl hlen h3
 rw [if_neg h3]
 by_cases h4:x.th.code=4
 ·rw [if_pos h4];exact call_arg HH h o hat hx hxo q ql hl hlen h4
 rw [if_neg h4]
 by_cases h5:x.th.code=5
 ·rw [if_pos h5];exact call_this HH h o hat hx hxo q ql hl hlen h5
 rw [if_neg h5]
 by_cases h30:x.th.code=30
 ·rw [if_pos h30];exact call_made HH h o hat hx hxo q ql hl hlen h30
 rw [if_neg h30]
 exact call_hand HH h o hat hx hxo q ql hl hlen ⟨h2,h3,h4,h5,h30⟩
end
end Go.Proofs.YtkadkmnolkkhgaaGreatDoor.Mw

/-
 canBeInvoked.
-/
namespace Go.Proofs.YtkadkmnolkkhgaaGreatDoor.Mw
open Go Go.RowKit Go.Maps Go.Shelf Keys Hp Mo
open Des (Vl Ds zeroV zeroD dcs dcs_size dcs_one accF rigF appF eqV)
open Arrs (En ecs)
attribute [local go_sem ↓] ldR stR alR bxR bdR ldV stV alV bxV bdV ldA stA bxA bdA ldKy bxKy bdKy 
attribute [local irreducible] rcs dcs ecs vcs acs kcs xcs tcs
attribute [local go_sem] run_bx run_alR run_stRg run_bdA0 run_bdAk run_bdAkr run_bdAkvr run_bdAr run_bdAkd run_bdRz run_bdRd run_bdRk run_bdRf run_bdRo run_bdRs run_bdRt' run_bdKs 
section
variable {X:Cx} {c:Nat} {M M' M'':Wm} {w w' w'':World} {A A' A'':Aw} {ls:List Lc} {kl:List (Value × List KV)} {ro:List Lc} {D:DoT}
theorem can_array_calls {b:Nat} {o:Int} {t:Th} {T:TypeId} {w:World} (h:Blk w b (xcs o t) T) (m:Int) (hm:m=12):Calls Tryz.prog 155 #[.int .i64 m,.iface 171 (ptr b)] w fun e w'=>e = .returned (.bool false)∧w'=w:=by
 have dm:(m == 12)=true:=by simp [hm]
 have hc:=o_calls_any b w
 have me:=me_array_calls
 clear h hm
 go_enter Tryz.func155,Tryz.ntmps155
 go_wp2_with (go_at_call 304;(with_reducible refine hc.mono ?_);rintro e w2 ⟨rfl,rfl⟩)
 go_ret
 exact ⟨rfl,rfl⟩
theorem can_array_makes {b:Nat} {o:Int} {t:Th} {T:TypeId} {w:World} (h:Blk w b (xcs o t) T) (m:Int) (hm:m ≠ 12):Calls Tryz.prog 155 #[.int .i64 m,.iface 171 (ptr b)] w fun e w'=>e = .returned (.bool false)∧w'=w:=by
 have dm:(m == 12)=false:=by simp [hm]
 have hc:=o_makes_any b w
 have me:=me_array_makes
 clear h hm
 go_enter Tryz.func155,Tryz.ntmps155
 go_wp2_with (go_at_call 305;(with_reducible refine hc.mono ?_);rintro e w2 ⟨rfl,rfl⟩)
 go_ret
 exact ⟨rfl,rfl⟩
theorem can_function_calls {b:Nat} {o:Int} {t:Th} {T:TypeId} {w:World} (h:Blk w b (xcs o t) T) (m:Int) (hm:m=12):Calls Tryz.prog 155 #[.int .i64 m,.iface 174 (ptr b)] w fun e w'=>e = .returned (.bool true)∧w'=w:=by
 have dm:(m == 12)=true:=by simp [hm]
 have hc:=f_calls_any b w
 have me:=me_function_calls
 clear h hm
 go_enter Tryz.func155,Tryz.ntmps155
 go_wp2_with (go_at_call 306;(with_reducible refine hc.mono ?_);rintro e w2 ⟨rfl,rfl⟩)
 go_ret
 exact ⟨rfl,rfl⟩
theorem can_function_makes {b:Nat} {o:Int} {t:Th} {T:TypeId} {w:World} (h:Blk w b (xcs o t) T) (m:Int) (hm:m ≠ 12):Calls Tryz.prog 155 #[.int .i64 m,.iface 174 (ptr b)] w fun e w'=>e = .returned (.bool (t.code == 1 || t.code == 30))∧w'=w:=by
 have dm:(m == 12)=false:=by simp [hm]
 have hc:=f_makes_any h
 have me:=me_function_makes
 clear h hm
 go_enter Tryz.func155,Tryz.ntmps155
 go_wp2_with (go_at_call 307;(with_reducible refine hc.mono ?_);rintro e w2 ⟨rfl,rfl⟩)
 go_ret
 exact ⟨rfl,rfl⟩
theorem can_bound_calls {b:Nat} {o:Int} {t:Th} {T:TypeId} {w:World} (h:Blk w b (xcs o t) T) (m:Int) (hm:m=12):Calls Tryz.prog 155 #[.int .i64 m,.iface 176 (ptr b)] w fun e w'=>e = .returned (.bool t.calls)∧w'=w:=by
 have dm:(m == 12)=true:=by simp [hm]
 have hc:=bound_calls_any h
 have me:=me_bound_calls
 clear h hm
 go_enter Tryz.func155,Tryz.ntmps155
 go_wp2_with (go_at_call 308;(with_reducible refine hc.mono ?_);rintro e w2 ⟨rfl,rfl⟩)
 go_ret
 exact ⟨rfl,rfl⟩
theorem can_bound_makes {b:Nat} {o:Int} {t:Th} {T:TypeId} {w:World} (h:Blk w b (xcs o t) T) (m:Int) (hm:m ≠ 12):Calls Tryz.prog 155 #[.int .i64 m,.iface 176 (ptr b)] w fun e w'=>e = .returned (.bool t.makes)∧w'=w:=by
 have dm:(m == 12)=false:=by simp [hm]
 have hc:=bound_makes_any h
 have me:=me_bound_makes
 clear h hm
 go_enter Tryz.func155,Tryz.ntmps155
 go_wp2_with (go_at_call 309;(with_reducible refine hc.mono ?_);rintro e w2 ⟨rfl,rfl⟩)
 go_ret
 exact ⟨rfl,rfl⟩
theorem can_proxy_calls {b:Nat} {o:Int} {t:Th} {T:TypeId} {w:World} (h:Blk w b (xcs o t) T) (m:Int) (hm:m=12):Calls Tryz.prog 155 #[.int .i64 m,.iface 178 (ptr b)] w fun e w'=>e = .returned (.bool t.calls)∧w'=w:=by
 have dm:(m == 12)=true:=by simp [hm]
 have hc:=proxy_calls_any h
 have me:=me_proxy_calls
 clear h hm
 go_enter Tryz.func155,Tryz.ntmps155
 go_wp2_with (go_at_call 310;(with_reducible refine hc.mono ?_);rintro e w2 ⟨rfl,rfl⟩)
 go_ret
 exact ⟨rfl,rfl⟩
theorem can_proxy_makes {b:Nat} {o:Int} {t:Th} {T:TypeId} {w:World} (h:Blk w b (xcs o t) T) (m:Int) (hm:m ≠ 12):Calls Tryz.prog 155 #[.int .i64 m,.iface 178 (ptr b)] w fun e w'=>e = .returned (.bool t.makes)∧w'=w:=by
 have dm:(m == 12)=false:=by simp [hm]
 have hc:=proxy_makes_any h
 have me:=me_proxy_makes
 clear h hm
 go_enter Tryz.func155,Tryz.ntmps155
 go_wp2_with (go_at_call 311;(with_reducible refine hc.mono ?_);rintro e w2 ⟨rfl,rfl⟩)
 go_ret
 exact ⟨rfl,rfl⟩
theorem can_ordinary_calls {b:Nat} {o:Int} {t:Th} {T:TypeId} {w:World} (h:Blk w b (xcs o t) T) (m:Int) (hm:m=12):Calls Tryz.prog 155 #[.int .i64 m,.iface 180 (ptr b)] w fun e w'=>e = .returned (.bool false)∧w'=w:=by
 have dm:(m == 12)=true:=by simp [hm]
 have hc:=o_calls_any b w
 have me:=me_ordinary_calls
 clear h hm
 go_enter Tryz.func155,Tryz.ntmps155
 go_wp2_with (go_at_call 304;(with_reducible refine hc.mono ?_);rintro e w2 ⟨rfl,rfl⟩)
 go_ret
 exact ⟨rfl,rfl⟩
theorem can_ordinary_makes {b:Nat} {o:Int} {t:Th} {T:TypeId} {w:World} (h:Blk w b (xcs o t) T) (m:Int) (hm:m ≠ 12):Calls Tryz.prog 155 #[.int .i64 m,.iface 180 (ptr b)] w fun e w'=>e = .returned (.bool false)∧w'=w:=by
 have dm:(m == 12)=false:=by simp [hm]
 have hc:=o_makes_any b w
 have me:=me_ordinary_makes
 clear h hm
 go_enter Tryz.func155,Tryz.ntmps155
 go_wp2_with (go_at_call 305;(with_reducible refine hc.mono ?_);rintro e w2 ⟨rfl,rfl⟩)
 go_ret
 exact ⟨rfl,rfl⟩
theorem ifT_1 {k:Int} (h:k=1):ifT k=171:=by subst h;rfl
theorem ifT_2 {k:Int} (h:k=2):ifT k=174:=by subst h;rfl
theorem ifT_3 {k:Int} (h:k=3):ifT k=176:=by subst h;rfl
theorem ifT_4 {k:Int} (h:k=4):ifT k=178:=by subst h;rfl
theorem ifT_0 {k:Int} (h1:k ≠ 1) (h2:k ≠ 2) (h3:k ≠ 3) (h4:k ≠ 4):ifT k=180:=by unfold ifT;rw [if_neg h1,if_neg h2,if_neg h3,if_neg h4]
theorem callsT_1 {t:Th} (h:t.kind=1):callsT t=false:=by unfold callsT;simp [h]
theorem callsT_2 {t:Th} (h:t.kind=2):callsT t=true:=by unfold callsT;simp [h]
theorem callsT_3 {t:Th} (h:t.kind=3):callsT t=t.calls:=by unfold callsT;simp [h]
theorem callsT_4 {t:Th} (h:t.kind=4):callsT t=t.calls:=by unfold callsT;simp [h]
theorem callsT_0 {t:Th} (h2:t.kind ≠ 2) (h3:t.kind ≠ 3) (h4:t.kind ≠ 4):callsT t=false:=by unfold callsT;rw [if_neg h2,if_neg (by omega)]
theorem makesT_1 {t:Th} (h:t.kind=1):makesT t=false:=by unfold makesT;simp [h]
theorem makesT_2 {t:Th} (h:t.kind=2):makesT t=(t.code == 1 || t.code == 30):=by unfold makesT;simp [h]
theorem makesT_3 {t:Th} (h:t.kind=3):makesT t=t.makes:=by unfold makesT;simp [h]
theorem makesT_4 {t:Th} (h:t.kind=4):makesT t=t.makes:=by unfold makesT;simp [h]
theorem makesT_0 {t:Th} (h2:t.kind ≠ 2) (h3:t.kind ≠ 3) (h4:t.kind ≠ 4):makesT t=false:=by unfold makesT;rw [if_neg h2,if_neg (by omega)]
theorem can_any {b:Nat} {o:Int} {t:Th} {T:TypeId} {w:World} (h:Blk w b (xcs o t) T) (m:Int):Calls Tryz.prog 155 #[.int .i64 m,.iface (ifT t.kind) (ptr b)] w fun e w'=>e = .returned (.bool (if m=12 then callsT t else makesT t))∧w'=w:=by
 by_cases hm:m=12
 ·rw [if_pos hm]
  by_cases h1:t.kind=1
  ·rw [ifT_1 h1,callsT_1 h1];exact can_array_calls h m hm
  by_cases h2:t.kind=2
  ·rw [ifT_2 h2,callsT_2 h2];exact can_function_calls h m hm
  by_cases h3:t.kind=3
  ·rw [ifT_3 h3,callsT_3 h3];exact can_bound_calls h m hm
  by_cases h4:t.kind=4
  ·rw [ifT_4 h4,callsT_4 h4];exact can_proxy_calls h m hm
  rw [ifT_0 h1 h2 h3 h4,callsT_0 h2 h3 h4];exact can_ordinary_calls h m hm
 ·rw [if_neg hm]
  by_cases h1:t.kind=1
  ·rw [ifT_1 h1,makesT_1 h1];exact can_array_makes h m hm
  by_cases h2:t.kind=2
  ·rw [ifT_2 h2,makesT_2 h2];exact can_function_makes h m hm
  by_cases h3:t.kind=3
  ·rw [ifT_3 h3,makesT_3 h3];exact can_bound_makes h m hm
  by_cases h4:t.kind=4
  ·rw [ifT_4 h4,makesT_4 h4];exact can_proxy_makes h m hm
  rw [ifT_0 h1 h2 h3 h4,makesT_0 h2 h3 h4];exact can_ordinary_makes h m hm
end
end Go.Proofs.YtkadkmnolkkhgaaGreatDoor.Mw

/-
 invoke.
-/
namespace Go.Proofs.YtkadkmnolkkhgaaGreatDoor.Mw
open Go Go.RowKit Go.Maps Go.Shelf Keys Hp Mo
open Des (Vl Ds zeroV zeroD dcs dcs_size dcs_one accF rigF appF eqV)
open Arrs (En ecs)
attribute [local go_sem ↓] ldR stR alR bxR bdR ldV stV alV bxV bdV ldA stA bxA bdA ldKy bxKy bdKy 
attribute [local irreducible] rcs dcs ecs vcs acs kcs xcs tcs
attribute [local go_sem] run_bx run_alR run_stRg run_bdA0 run_bdAk run_bdAkr run_bdAkvr run_bdAr run_bdAkd run_bdRz run_bdRd run_bdRk run_bdRf run_bdRo run_bdRs run_bdRt' run_bdKs 
section
variable {X:Cx} {c:Nat} {M M' M'':Wm} {w w' w'':World} {A A' A'':Aw} {ls:List Lc} {kl:List (Value × List KV)} {ro:List Lc} {D:DoT} {C:HandT}
theorem tb_bound (b:Nat) (w:World):(Instr.typeAssert (.iface 176 (ptr b)) 110 176 false).run Tryz.prog w = .ok (ptr b) w:=by kernel_rfl
theorem tb_function (b:Nat) (w:World):(Instr.typeAssert (.iface 174 (ptr b)) 110 174 false).run Tryz.prog w = .ok (ptr b) w:=by kernel_rfl
theorem cons_any (HH:HandIs X C) (HD:DoIs X D) (h:WIs X (c+2) M w A) (o:Int) {x:Ob} (hat:at? A o=some x) {T:TypeId} {xb:Nat} (hx:Blk w xb (xcs o x.th) T) (hxo:xb ∉ M.bl X.wb) (q:Aq) (ql:Value) (hl:VsOut (M.bl X.wb) w ql q.l) (hlen:q.l.length+100000≤lim X) :
  Calls Tryz.prog 165 #[ptr X.wb,ptr xb,.agg (acs q ql)] w (Post X c M w (consF C D o x.th q A)):=by
 unfold consF
 by_cases hc:x.th.code=30
 ·rw [if_pos hc];exact cons_made HH HD h o hat hx hxo q ql hl hlen hc
 ·rw [if_neg hc];exact cons_long HH HD h o hat hx hxo q ql hl hlen hc
set_option maxRecDepth 100000 in
set_option maxHeartbeats 4000000 in
theorem inv_no (HH:HandIs X C) (HD:DoIs X D) (h:WIs X (c+4) M w A) (o:Int) {x:Ob} (hat:at? A o=some x) {xb:Nat} (hx:Blk w xb (xcs o x.th) (blT x.th.kind)) (hxo:xb ∉ M.bl X.wb) (q:Aq) (ql:Value) (hk:Fine q.k) (hl:VsOut (M.bl X.wb) w ql q.l) (hlen:q.l.length+100000≤lim X) (hlz:lim X≤1000000000) (m:Int) (hb:(if m=12 then callsT x.th else makesT x.th)=false) :
  Calls Tryz.prog 138 #[ptr X.wb,.int .i64 m,.iface (ifT x.th.kind) (ptr xb),.agg (acs q ql)] w (Post X c M w (failF typeErr A)):=by
 obtain ⟨w1,hw1⟩:∃ w1,(w.alloc (.cells (acs q ql) 52)).alloc (.cells (rcs zeroR) 57)=w1:=⟨_,rfl⟩
 have F0:Fm X (c+4) M w M w1 A [⟨w.heap.size+1,rcs zeroR,57⟩,⟨w.heap.size,acs q ql,52⟩] [] [⟨xb,xcs o x.th,blT x.th.kind⟩]:=by
  rw [← hw1];exact (((Fm.start h).with hx hxo).new _ _).newg _ _ _ (by simp)
 have F0:=F0.less (c':=c+2) (by omega)
 have hc:=can_any F0.r0 m
 rw [hb] at hc
 have F0:=F0.less (c':=c+1) (by omega)
 have hf:=fail_any F0.wis typeErr
 have HF0:=Lib.hid F0
 clear F0 h hx hxo hk hl hat hlen hb HH HD
 go_enter Tryz.func138,Tryz.ntmps138
 go_wp2_with (first |(go_at_call 155;(with_reducible refine hc.mono ?_);rintro e w2 ⟨rfl,rfl⟩) |(go_at_call 50;refine hf.mono ?_;intro e w3 hp;obtain ⟨M3,kv3,rfl,hks,hM,hn⟩:=FailP.post hp;have hg3:=Rr.good _ hks;have F3:=HF0.out.post hks hM hn;have s3:=run_stRp F3.l0.blk hg3;have HF3:=Lib.hid F3;clear hks hM hn hp F3))
 have F4:=HF3.out.put (l:=[]) (rcs ((failF typeErr A).1.mem kv3)) (show 57 ≠ 32 by decide)
 refine bodyPost_ret (res_R rfl _ _ (w.heap.size+1) _ rfl F4.l0.blk) rfl ?_
 exact F4.fin F4.k0
set_option maxRecDepth 100000 in
set_option maxHeartbeats 4000000 in
theorem inv_bound (HH:HandIs X C) (HD:DoIs X D) (h:WIs X (c+4) M w A) (o:Int) {x:Ob} (hat:at? A o=some x) {xb:Nat} (hx:Blk w xb (xcs o x.th) (blT x.th.kind)) (hxo:xb ∉ M.bl X.wb) (q:Aq) (ql:Value) (hk:Fine q.k) (hl:VsOut (M.bl X.wb) w ql q.l) (hlen:q.l.length+100000≤lim X) (hlz:lim X≤1000000000) (m:Int) (hb:(if m=12 then callsT x.th else makesT x.th)=true) (hk2:x.th.kind=3) :
  Calls Tryz.prog 138 #[ptr X.wb,.int .i64 m,.iface (ifT x.th.kind) (ptr xb),.agg (acs q ql)] w (Post X c M w (bindF D m o x.th q A)):=by
 obtain ⟨w1,hw1⟩:∃ w1,(w.alloc (.cells (acs q ql) 52)).alloc (.cells (rcs zeroR) 57)=w1:=⟨_,rfl⟩
 have F0:Fm X (c+4) M w M w1 A [⟨w.heap.size+1,rcs zeroR,57⟩,⟨w.heap.size,acs q ql,52⟩] [] [⟨xb,xcs o x.th,blT x.th.kind⟩]:=by
  rw [← hw1];exact (((Fm.start h).with hx hxo).new _ _).newg _ _ _ (by simp)
 have F0:=F0.less (c':=c+2) (by omega)
 have hc:=can_any F0.r0 m
 rw [hb] at hc
 have xk:=x_kind F0.r0
 rw [hk2] at xk
 rw [show ifT x.th.kind=176 from ifT_3 hk2] at hc ⊢
 have me:=me_bound_self
 have tb:=tb_bound xb
 have hlw:=hl.nx F0.nx
 have FD:=F0.drew
 have la:=run_ldAq FD.l1.blk
 have hcall:=bind_any HD FD.wis o hat FD.r0 FD.r0o q ql (hl.nx FD.nx) hlen hlz m
 have HF:=Lib.hid FD
 clear FD F0 h hx hxo hk hl hat hlen hb HH HD hlw hk2 hlz
 go_enter Tryz.func138,Tryz.ntmps138
 go_upto_region 4 with (first |(go_at_call 155;(with_reducible refine hc.mono ?_);rintro e w2 ⟨rfl,rfl⟩) |(go_at_call 163;(with_reducible refine (self_any xb _).mono ?_);rintro e w9 ⟨rfl,rfl⟩))
 go_region_with (go_at_call 164;(with_reducible refine hcall.mono ?_);rintro e w3 ⟨M3,kv3,rfl,hks,hM,hn⟩;have hg3:=Rr.good _ hks;have F3:=HF.out.next (k2:=[(kv3,(bindF D m o x.th q A).1.ks)]) hM hn (fun k hk=>by rw [List.mem_singleton.1 hk];exact hks);have s3:=run_stRp F3.l0.blk hg3;have HF3:=Lib.hid F3;clear hks hM hn F3)
 all_goals
  go_wp2
  have F4:=HF3.out.put (l:=[]) (rcs ((bindF D m o x.th q A).1.mem kv3)) (show 57 ≠ 32 by decide)
  refine bodyPost_ret (res_R rfl _ _ (w.heap.size+1) _ rfl F4.l0.blk) rfl ?_
  exact F4.fin F4.k0
set_option maxRecDepth 100000 in
set_option maxHeartbeats 4000000 in
theorem inv_cons (HH:HandIs X C) (HD:DoIs X D) (h:WIs X (c+4) M w A) (o:Int) {x:Ob} (hat:at? A o=some x) {xb:Nat} (hx:Blk w xb (xcs o x.th) (blT x.th.kind)) (hxo:xb ∉ M.bl X.wb) (q:Aq) (ql:Value) (hk:Fine q.k) (hl:VsOut (M.bl X.wb) w ql q.l) (hlen:q.l.length+100000≤lim X) (hlz:lim X≤1000000000) (m:Int) (hb:(if m=12 then callsT x.th else makesT x.th)=true) (hk2:x.th.kind=2) (hm:m=13) :
  Calls Tryz.prog 138 #[ptr X.wb,.int .i64 m,.iface (ifT x.th.kind) (ptr xb),.agg (acs q ql)] w (Post X c M w (consF C D o x.th q A)):=by
 obtain ⟨w1,hw1⟩:∃ w1,(w.alloc (.cells (acs q ql) 52)).alloc (.cells (rcs zeroR) 57)=w1:=⟨_,rfl⟩
 have F0:Fm X (c+4) M w M w1 A [⟨w.heap.size+1,rcs zeroR,57⟩,⟨w.heap.size,acs q ql,52⟩] [] [⟨xb,xcs o x.th,blT x.th.kind⟩]:=by
  rw [← hw1];exact (((Fm.start h).with hx hxo).new _ _).newg _ _ _ (by simp)
 have F0:=F0.less (c':=c+2) (by omega)
 have hc:=can_any F0.r0 m
 rw [hb] at hc
 have xk:=x_kind F0.r0
 rw [hk2] at xk
 rw [show ifT x.th.kind=174 from ifT_2 hk2] at hc ⊢
 have me:=me_function_self
 have tb:=tb_function xb
 have hlw:=hl.nx F0.nx
 have dm:(m == 13)=true:=by simp [hm]
 have HM:=Lib.hid hm
 clear hm
 have la:=run_ldAq F0.l1.blk
 have hcall:=cons_any HH HD F0.wis o hat F0.r0 F0.r0o q ql (hl.nx F0.nx) hlen
 have HF:=Lib.hid F0
 clear F0 h hx hxo hk hl hat hlen hb HH HD hlw hk2 hlz
 go_enter Tryz.func138,Tryz.ntmps138
 go_wp2_with (first |(go_at_call 155;(with_reducible refine hc.mono ?_);rintro e w2 ⟨rfl,rfl⟩) |(go_at_call 163;(with_reducible refine (self_any xb _).mono ?_);rintro e w9 ⟨rfl,rfl⟩) |(go_at_call 165;(with_reducible refine hcall.mono ?_);rintro e w3 ⟨M3,kv3,rfl,hks,hM,hn⟩;have hg3:=Rr.good _ hks;have F3:=HF.out.next (k2:=[(kv3,(consF C D o x.th q A).1.ks)]) hM hn (fun k hk=>by rw [List.mem_singleton.1 hk];exact hks);have s3:=run_stRp F3.l0.blk hg3;have HF3:=Lib.hid F3;clear hks hM hn F3))
 have F4:=HF3.out.put (l:=[]) (rcs ((consF C D o x.th q A).1.mem kv3)) (show 57 ≠ 32 by decide)
 refine bodyPost_ret (res_R rfl _ _ (w.heap.size+1) _ rfl F4.l0.blk) rfl ?_
 exact F4.fin F4.k0
set_option maxRecDepth 100000 in
set_option maxHeartbeats 4000000 in
theorem inv_call (HH:HandIs X C) (HD:DoIs X D) (h:WIs X (c+4) M w A) (o:Int) {x:Ob} (hat:at? A o=some x) {xb:Nat} (hx:Blk w xb (xcs o x.th) (blT x.th.kind)) (hxo:xb ∉ M.bl X.wb) (q:Aq) (ql:Value) (hk:Fine q.k) (hl:VsOut (M.bl X.wb) w ql q.l) (hlen:q.l.length+100000≤lim X) (hlz:lim X≤1000000000) (m:Int) (hb:(if m=12 then callsT x.th else makesT x.th)=true) (hk2:x.th.kind=2) (hm:m ≠ 13) :
  Calls Tryz.prog 138 #[ptr X.wb,.int .i64 m,.iface (ifT x.th.kind) (ptr xb),.agg (acs q ql)] w (Post X c M w (callF C o x.th q A)):=by
 obtain ⟨w1,hw1⟩:∃ w1,(w.alloc (.cells (acs q ql) 52)).alloc (.cells (rcs zeroR) 57)=w1:=⟨_,rfl⟩
 have F0:Fm X (c+4) M w M w1 A [⟨w.heap.size+1,rcs zeroR,57⟩,⟨w.heap.size,acs q ql,52⟩] [] [⟨xb,xcs o x.th,blT x.th.kind⟩]:=by
  rw [← hw1];exact (((Fm.start h).with hx hxo).new _ _).newg _ _ _ (by simp)
 have F0:=F0.less (c':=c+2) (by omega)
 have hc:=can_any F0.r0 m
 rw [hb] at hc
 have xk:=x_kind F0.r0
 rw [hk2] at xk
 rw [show ifT x.th.kind=174 from ifT_2 hk2] at hc ⊢
 have me:=me_function_self
 have tb:=tb_function xb
 have hlw:=hl.nx F0.nx
 have dm:(m == 13)=false:=by simp [hm]
 have HM:=Lib.hid hm
 clear hm
 have la:=run_ldAq F0.l1.blk
 have hcall:=call_any HH F0.wis o hat F0.r0 F0.r0o q ql (hl.nx F0.nx) hlen
 have HF:=Lib.hid F0
 clear F0 h hx hxo hk hl hat hlen hb HH HD hlw hk2 hlz
 go_enter Tryz.func138,Tryz.ntmps138
 go_wp2_with (first |(go_at_call 155;(with_reducible refine hc.mono ?_);rintro e w2 ⟨rfl,rfl⟩) |(go_at_call 163;(with_reducible refine (self_any xb _).mono ?_);rintro e w9 ⟨rfl,rfl⟩) |(go_at_call 166;(with_reducible refine hcall.mono ?_);rintro e w3 ⟨M3,kv3,rfl,hks,hM,hn⟩;have hg3:=Rr.good _ hks;have F3:=HF.out.next (k2:=[(kv3,(callF C o x.th q A).1.ks)]) hM hn (fun k hk=>by rw [List.mem_singleton.1 hk];exact hks);have s3:=run_stRp F3.l0.blk hg3;have HF3:=Lib.hid F3;clear hks hM hn F3))
 have F4:=HF3.out.put (l:=[]) (rcs ((callF C o x.th q A).1.mem kv3)) (show 57 ≠ 32 by decide)
 refine bodyPost_ret (res_R rfl _ _ (w.heap.size+1) _ rfl F4.l0.blk) rfl ?_
 exact F4.fin F4.k0
theorem inv_any (HH:HandIs X C) (HD:DoIs X D) (h:WIs X (c+4) M w A) (o:Int) {x:Ob} (hat:at? A o=some x) {xb:Nat} (hx:Blk w xb (xcs o x.th) (blT x.th.kind)) (hxo:xb ∉ M.bl X.wb) (hpx:x.th.kind ≠ 4) (q:Aq) (ql:Value) (hk:Fine q.k) (hl:VsOut (M.bl X.wb) w ql q.l) (hlen:q.l.length+100000≤lim X) (hlz:lim X≤1000000000) (m:Int) :
  Calls Tryz.prog 138 #[ptr X.wb,.int .i64 m,.iface (ifT x.th.kind) (ptr xb),.agg (acs q ql)] w (Post X c M w (invF C D m o x.th q A)):=by
 unfold invF
 by_cases hb:(if m=12 then callsT x.th else makesT x.th)=true
 ·rw [if_neg (by rw [hb];decide)]
  by_cases h3:x.th.kind=3
  ·rw [if_pos h3];exact inv_bound HH HD h o hat hx hxo q ql hk hl hlen hlz m hb h3
  ·rw [if_neg h3]
   have h2:x.th.kind=2:=by
    by_cases h2:x.th.kind=2
    ·exact h2
    ·exfalso
     rw [callsT_0 h2 h3 hpx,makesT_0 h2 h3 hpx] at hb
     simp at hb
   by_cases hm:m=13
   ·rw [if_pos hm];exact inv_cons HH HD h o hat hx hxo q ql hk hl hlen hlz m hb h2 hm
   ·rw [if_neg hm];exact inv_call HH HD h o hat hx hxo q ql hk hl hlen hlz m hb h2 hm
 ·have hb':(if m=12 then callsT x.th else makesT x.th)=false:=by simpa only [Bool.not_eq_true] using hb
  rw [if_pos (by rw [hb'];rfl)]
  exact inv_no HH HD h o hat hx hxo q ql hk hl hlen hlz m hb'
end
end Go.Proofs.YtkadkmnolkkhgaaGreatDoor.Mw

/-
 Numbers as values; the name of a length.
-/
namespace Go.Proofs.YtkadkmnolkkhgaaGreatDoor.Mw
open Go Go.RowKit Go.Maps Go.Shelf Keys Hp Mo
open Des (Vl Ds zeroV zeroD dcs dcs_size dcs_one accF rigF appF eqV)
open Arrs (En ecs lenF)
theorem num_any (n:Int) (w:World):Calls Tryz.prog 191 #[.int .i64 n] w fun e w'=>e = .returned (.agg (vcs (numV n)))∧Below w.heap.size w w':=by
 go_enter Tryz.func191,Tryz.ntmps191
 go_wp2
 refine bodyPost_ret (res_V rfl _ _ _ ⟨3,n,⟨#[]⟩⟩ rfl (Blk.new _ _ _)) rfl ?_
 exact ⟨rfl,(Below.refl _ w).alloc (Nat.le_refl _) _⟩
theorem res_K {fn:Func} {p:Tmp} (h:fn.results=#[.cell p 32]) (tmps:Array Value) (w:World) (g:Nat) (k:KV) (hp:tmps.getD p undef = .pointer (some ⟨g,0,none⟩)) {T:TypeId} (hr:Blk w g (kcs k) T):(results fn tmps).run Tryz.prog w = .ok (.agg (kcs k)) w :=
 results_cell_row h tmps w g T (kcs k) (0,0) _ hp hr Tryz.underlying32 rfl (by exact sizeK)
theorem lenK_any (w:World):Calls Tryz.prog 158 #[] w fun e w'=>e = .returned (.agg (kcs lenK))∧Below w.heap.size w w':=by
 go_enter Tryz.func158,Tryz.ntmps158
 go_wp2
 refine bodyPost_ret (res_K rfl _ _ _ lenK rfl (Blk.new _ _ _)) rfl ?_
 exact ⟨rfl,(Below.refl _ w).alloc (Nat.le_refl _) _⟩
theorem d_vn {w:World} {b:Nat} {d:Ds} {T:TypeId} (h:Blk w b (dcs d) T):w.cell? ⟨b,7,none⟩=some (.int .i64 d.v.n):=h.cell 7
theorem q_hv {w:World} {b:Nat} {a:Aq} {l:Value} {T:TypeId} (h:Blk w b (acs a l) T):w.cell? ⟨b,8,none⟩=some (.bool a.d.hv):=h.cell 8
theorem q_hw {w:World} {b:Nat} {a:Aq} {l:Value} {T:TypeId} (h:Blk w b (acs a l) T):w.cell? ⟨b,11,none⟩=some (.bool a.d.hw):=h.cell 11
theorem q_w {w:World} {b:Nat} {a:Aq} {l:Value} {T:TypeId} (h:Blk w b (acs a l) T):w.cell? ⟨b,23,none⟩=some (.bool a.d.w):=h.cell 23
theorem q_dv {w:World} {b:Nat} {a:Aq} {l:Value} {T:TypeId} (h:Blk w b (acs a l) T):(Ld 30 (.pointer (some ⟨b,14,none⟩))).run Tryz.prog w = .ok (.agg (vcs a.d.v)) w:=run_ldVm (range_mid h ((kcs a.k).toList++((vcs a.v).toList++((vcs a.r).toList++([.bool a.d.hv,.bool a.d.hg,.bool a.d.hs,.bool a.d.hw,.bool a.d.he,.bool a.d.hc]:List Value)))) (vcs a.d.v).toList _ rfl)
theorem len_val (v:Vl) (w:World):Calls Tryz.prog 188 #[.agg (vcs v)] w fun x w'=>x = .returned (.tuple #[.int .i64 (lenF v.k v.n).1,.bool (lenF v.k v.n).2])∧Below w.heap.size w w':=Arrs.len_any v.k v.n v.s w
theorem idx_any (k:KV) (hk:Fine k) (w:World) (hL:Nums.Lw w):Calls Tryz.prog 160 #[.agg (kcs k)] w fun e w'=>e = .returned (.tuple #[.int .i64 ((kidx k).getD 0),.bool (kidx k).isSome])∧Below w.heap.size w w':=by
 obtain ⟨s,n⟩:=k
 unfold kidx
 by_cases h0:n=0
 ·subst h0
  have h:=index_str s hk.1 w hL
  simp only [if_true]
  refine Calls.mono (R:=fun e w'=>e=Nums.two (idxF s.data.toList)∧Below w.heap.size w w') h fun e w' q=>⟨?_,q.2⟩
  rw [q.1]
  cases idxF s.data.toList <;> rfl
 ·have h:=index_sym s n (by simpa using h0) w
  have e1:(if n=0 then idxF s.data.toList else none)=none:=if_neg h0
  simp only [e1]
  exact h.mono fun e w' q=>⟨q.1,by first |exact q.2 |(rw [q.2];exact Below.refl _ _)⟩
end Go.Proofs.YtkadkmnolkkhgaaGreatDoor.Mw
