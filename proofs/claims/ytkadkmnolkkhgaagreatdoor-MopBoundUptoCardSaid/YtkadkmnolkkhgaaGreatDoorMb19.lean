/-
 Texts of this seat in build order: MwObj, MwDoA, MwLogA.
-/
import Derived.Test.YtkadkmnolkkhgaaGreatDoorMb18
import Derived.BigQuiet
import Derived.Deep.DeepCutAuto
import Derived.WideLaws
/-
 object; what an object is as a method sees it.
-/
set_option linter.unusedVariables false
set_option linter.unusedSimpArgs false
namespace Go.Proofs.YtkadkmnolkkhgaaGreatDoor.Mw
open Go Go.RowKit Go.Maps Go.Shelf Keys Hp Mo
open Des (Vl Ds zeroV zeroD dcs dcs_size dcs_one accF rigF appF eqV)
open Arrs (En ecs)
attribute [local go_sem ↓] ldR stR alR bxR bdR ldV stV alV bxV bdV ldA stA bxA bdA ldKy bxKy bdKy 
attribute [local irreducible] rcs dcs ecs vcs acs kcs xcs tcs
attribute [local go_sem] run_bx run_alR run_stRg run_bdA0 run_bdAk run_bdAkr run_bdAkvr run_bdAr run_bdAkd run_bdRz run_bdRd run_bdRk run_bdRf run_bdRo run_bdRs run_bdRt' run_bdKs 
section
variable {X:Cx} {c:Nat} {M M' M'':Wm} {w w' w'':World} {A A' A'':Aw} {ls:List Lc} {kl:List (Value × List KV)} {ro:List Lc} {D:DoT}
theorem self_any (b:Nat) (w:World):Calls Tryz.prog 163 #[ptr b] w fun e w'=>e = .returned (ptr b)∧w'=w:=by
 go_enter Tryz.func163,Tryz.ntmps163
 go_wp2
 go_ret
 exact ⟨rfl,rfl⟩
theorem o_calls_any (b:Nat) (w:World):Calls Tryz.prog 304 #[ptr b] w fun e w'=>e = .returned (.bool false)∧w'=w:=by
 go_enter Tryz.func304,Tryz.ntmps304
 go_wp2
 go_ret
 exact ⟨rfl,rfl⟩
theorem bound_calls_any {b:Nat} {o:Int} {t:Th} {T:TypeId} {w:World} (h:Blk w b (xcs o t) T):Calls Tryz.prog 308 #[ptr b] w fun e w'=>e = .returned (.bool t.calls)∧w'=w:=by
 have hc:=x_calls h
 clear h
 go_enter Tryz.func308,Tryz.ntmps308
 go_wp2
 go_ret
 exact ⟨rfl,rfl⟩
theorem proxy_calls_any {b:Nat} {o:Int} {t:Th} {T:TypeId} {w:World} (h:Blk w b (xcs o t) T):Calls Tryz.prog 310 #[ptr b] w fun e w'=>e = .returned (.bool t.calls)∧w'=w:=by
 have hc:=x_calls h
 clear h
 go_enter Tryz.func310,Tryz.ntmps310
 go_wp2
 go_ret
 exact ⟨rfl,rfl⟩
theorem o_makes_any (b:Nat) (w:World):Calls Tryz.prog 305 #[ptr b] w fun e w'=>e = .returned (.bool false)∧w'=w:=by
 go_enter Tryz.func305,Tryz.ntmps305
 go_wp2
 go_ret
 exact ⟨rfl,rfl⟩
theorem bound_makes_any {b:Nat} {o:Int} {t:Th} {T:TypeId} {w:World} (h:Blk w b (xcs o t) T):Calls Tryz.prog 309 #[ptr b] w fun e w'=>e = .returned (.bool t.makes)∧w'=w:=by
 have hc:=x_makes h
 clear h
 go_enter Tryz.func309,Tryz.ntmps309
 go_wp2
 go_ret
 exact ⟨rfl,rfl⟩
theorem proxy_makes_any {b:Nat} {o:Int} {t:Th} {T:TypeId} {w:World} (h:Blk w b (xcs o t) T):Calls Tryz.prog 311 #[ptr b] w fun e w'=>e = .returned (.bool t.makes)∧w'=w:=by
 have hc:=x_makes h
 clear h
 go_enter Tryz.func311,Tryz.ntmps311
 go_wp2
 go_ret
 exact ⟨rfl,rfl⟩
theorem f_calls_any (b:Nat) (w:World):Calls Tryz.prog 306 #[ptr b] w fun e w'=>e = .returned (.bool true)∧w'=w:=by
 go_enter Tryz.func306,Tryz.ntmps306
 go_wp2
 go_ret
 exact ⟨rfl,rfl⟩
theorem f_makes_any {b:Nat} {o:Int} {t:Th} {T:TypeId} {w:World} (h:Blk w b (xcs o t) T):Calls Tryz.prog 307 #[ptr b] w fun e w'=>e = .returned (.bool (t.code == 1 || t.code == 30))∧w'=w:=by
 have hc:=x_code h
 clear h
 by_cases h1:t.code=1
 ·have d1:(t.code == 1)=true:=by simp [h1]
  rw [d1]
  have H1:=Lib.hid h1
  clear h1
  go_enter Tryz.func307,Tryz.ntmps307
  go_wp2
  go_ret
  exact ⟨rfl,rfl⟩
 ·have d1:(t.code == 1)=false:=by simp [h1]
  rw [d1]
  have H1:=Lib.hid h1
  clear h1
  go_enter Tryz.func307,Tryz.ntmps307
  go_wp2
  go_ret
  exact ⟨by simp,rfl⟩
def ObjP (w:World) (o:Int) (t:Th) (e:Ending) (w':World):Prop:=∃ b,e = .returned (.iface (ifT t.kind) (ptr b))∧w.heap.size≤b∧Blk w' b (xcs o t) (blT t.kind)∧Below w.heap.size w w'
section
attribute [local go_sem ↓] ldT stT alT ld_ordinary st_ordinary al_ordinary bx_ordinary bd_ordinary ld_array st_array al_array bx_array bd_array ld_function st_function al_function bx_function bd_function ld_bound st_bound al_bound bx_bound bd_bound ld_proxy st_proxy al_proxy bx_proxy bd_proxy
attribute [local go_sem] run_alT run_alX
theorem object_no (h:WIs X c M w A) {o:Int} (hx:at? A o=none):Calls Tryz.prog 48 #[ptr X.wb,.int .i64 o] w fun e w'=>e = .returned .nilIface∧Below w.heap.size w w':=by
 have hst:=stW h
 have hh:=wHead_none h hx
 have HZ:Hid (∀ w2,(St 39 (.pointer (some ⟨w2.heap.size,0,none⟩)) (.agg (tcs zeroT))).run Tryz.prog (World.alloc w2 (.cells (tcs zeroT) 39)) = .ok () (w2.alloc (.cells (tcs zeroT) 39))):=Lib.hid fun w2=>run_stT w2 zeroT zeroT zeroT_ok
 clear h hx
 go_enter Tryz.func48,Tryz.ntmps48
 go_wp2_with (first |(go_at_call 100;(with_reducible refine hst.mono ?_);rintro e w5 ⟨rfl,rfl⟩) |(go_at_call 101;(with_reducible refine hh.mono ?_);rintro e w2 ⟨rfl,hb⟩;have sz:=HZ.out w2;have HB:=Lib.hid hb;clear hb))
 go_ret
 exact ⟨rfl,HB.out.alloc HB.out.size _⟩
set_option maxRecDepth 100000 in
set_option maxHeartbeats 4000000 in
theorem object_array (h:WIs X c M w A) {o:Int} {x:Ob} (hx:at? A o=some x) (hk:x.th.kind=1):Calls Tryz.prog 48 #[ptr X.wb,.int .i64 o] w (ObjP w o x.th):=by
 have hst:=stW h
 have hh:=wHead_some h hx
 obtain ⟨f1,f2,-⟩:=h.fit hx
 have tok:x.th.ok:=⟨⟨_,_,_,f1⟩,⟨_,_,_,f2⟩⟩
 have HEND:Hid (∀ b e w',e = .returned (.iface 171 (ptr b))→w.heap.size≤b→Blk w' b (xcs o x.th) 173→Below w.heap.size w w'→ObjP w o x.th e w'):=Lib.hid fun b e w' h1 h2 h3 h4=>⟨b,by rw [h1];simp [ifT,hk],h2,by simpa [blT,hk] using h3,h4⟩
 have d1:(x.th.kind == 1)=true:=by simp [hk]
 obtain ⟨th,hth⟩:∃ th,th=x.th:=⟨_,rfl⟩
 rw [← hth] at hh f1 f2 tok HEND d1 ⊢
 have HZ:=Lib.hid (obj_facts o th f1 f2)
 have bd1:∀ w2,(Bd 170 #[(0,.int .i64 o),(1,.agg (tcs th))]).run Tryz.prog w2 = .ok (.agg (xcs o th)) w2:=fun w2=>run_bdX w2 o th f1 f2
 have bd2:∀ w2,(Bd 173 #[(0,.agg (xcs o th))]).run Tryz.prog w2 = .ok (.agg (xcs o th)) w2:=fun w2=>run_bd_array w2 o th f1 f2
 clear h hx hk f1 f2 tok hth
 go_enter Tryz.func48,Tryz.ntmps48
 go_wp2_with (first |(go_at_call 100;(with_reducible refine hst.mono ?_);rintro e w5 ⟨rfl,rfl⟩) |(go_at_call 101;(with_reducible refine hh.mono ?_);rintro e w2 ⟨rfl,hb⟩;obtain ⟨sz,lt3,sx,k3,lx4⟩:=HZ.out w2;have HB:=Lib.hid hb;clear hb))
 go_ret
 refine HEND.out (w2.heap.size+1+1) _ _ rfl ?_ ?_ ?_
 ·have:=HB.out.size;omega
 ·exact blk_newg (by simp)
 exact below_three HB.out _ _ _
set_option maxRecDepth 100000 in
set_option maxHeartbeats 4000000 in
theorem object_function (h:WIs X c M w A) {o:Int} {x:Ob} (hx:at? A o=some x) (hk:x.th.kind=2):Calls Tryz.prog 48 #[ptr X.wb,.int .i64 o] w (ObjP w o x.th):=by
 have hst:=stW h
 have hh:=wHead_some h hx
 obtain ⟨f1,f2,-⟩:=h.fit hx
 have tok:x.th.ok:=⟨⟨_,_,_,f1⟩,⟨_,_,_,f2⟩⟩
 have HEND:Hid (∀ b e w',e = .returned (.iface 174 (ptr b))→w.heap.size≤b→Blk w' b (xcs o x.th) 175→Below w.heap.size w w'→ObjP w o x.th e w'):=Lib.hid fun b e w' h1 h2 h3 h4=>⟨b,by rw [h1];simp [ifT,hk],h2,by simpa [blT,hk] using h3,h4⟩
 have d1:(x.th.kind == 1)=false:=by simp [hk]
 have d2:(x.th.kind == 2)=true:=by simp [hk]
 obtain ⟨th,hth⟩:∃ th,th=x.th:=⟨_,rfl⟩
 rw [← hth] at hh f1 f2 tok HEND d1 d2 ⊢
 have HZ:=Lib.hid (obj_facts o th f1 f2)
 have bd1:∀ w2,(Bd 170 #[(0,.int .i64 o),(1,.agg (tcs th))]).run Tryz.prog w2 = .ok (.agg (xcs o th)) w2:=fun w2=>run_bdX w2 o th f1 f2
 have bd2:∀ w2,(Bd 175 #[(0,.agg (xcs o th))]).run Tryz.prog w2 = .ok (.agg (xcs o th)) w2:=fun w2=>run_bd_function w2 o th f1 f2
 clear h hx hk f1 f2 tok hth
 go_enter Tryz.func48,Tryz.ntmps48
 go_wp2_with (first |(go_at_call 100;(with_reducible refine hst.mono ?_);rintro e w5 ⟨rfl,rfl⟩) |(go_at_call 101;(with_reducible refine hh.mono ?_);rintro e w2 ⟨rfl,hb⟩;obtain ⟨sz,lt3,sx,k3,lx4⟩:=HZ.out w2;have HB:=Lib.hid hb;clear hb))
 go_ret
 refine HEND.out (w2.heap.size+1+1) _ _ rfl ?_ ?_ ?_
 ·have:=HB.out.size;omega
 ·exact blk_newg (by simp)
 exact below_three HB.out _ _ _
set_option maxRecDepth 100000 in
set_option maxHeartbeats 4000000 in
theorem object_bound (h:WIs X c M w A) {o:Int} {x:Ob} (hx:at? A o=some x) (hk:x.th.kind=3):Calls Tryz.prog 48 #[ptr X.wb,.int .i64 o] w (ObjP w o x.th):=by
 have hst:=stW h
 have hh:=wHead_some h hx
 obtain ⟨f1,f2,-⟩:=h.fit hx
 have tok:x.th.ok:=⟨⟨_,_,_,f1⟩,⟨_,_,_,f2⟩⟩
 have HEND:Hid (∀ b e w',e = .returned (.iface 176 (ptr b))→w.heap.size≤b→Blk w' b (xcs o x.th) 177→Below w.heap.size w w'→ObjP w o x.th e w'):=Lib.hid fun b e w' h1 h2 h3 h4=>⟨b,by rw [h1];simp [ifT,hk],h2,by simpa [blT,hk] using h3,h4⟩
 have d1:(x.th.kind == 1)=false:=by simp [hk]
 have d2:(x.th.kind == 2)=false:=by simp [hk]
 have d3:(x.th.kind == 3)=true:=by simp [hk]
 obtain ⟨th,hth⟩:∃ th,th=x.th:=⟨_,rfl⟩
 rw [← hth] at hh f1 f2 tok HEND d1 d2 d3 ⊢
 have HZ:=Lib.hid (obj_facts o th f1 f2)
 have bd1:∀ w2,(Bd 170 #[(0,.int .i64 o),(1,.agg (tcs th))]).run Tryz.prog w2 = .ok (.agg (xcs o th)) w2:=fun w2=>run_bdX w2 o th f1 f2
 have bd2:∀ w2,(Bd 177 #[(0,.agg (xcs o th))]).run Tryz.prog w2 = .ok (.agg (xcs o th)) w2:=fun w2=>run_bd_bound w2 o th f1 f2
 clear h hx hk f1 f2 tok hth
 go_enter Tryz.func48,Tryz.ntmps48
 go_wp2_with (first |(go_at_call 100;(with_reducible refine hst.mono ?_);rintro e w5 ⟨rfl,rfl⟩) |(go_at_call 101;(with_reducible refine hh.mono ?_);rintro e w2 ⟨rfl,hb⟩;obtain ⟨sz,lt3,sx,k3,lx4⟩:=HZ.out w2;have HB:=Lib.hid hb;clear hb))
 go_ret
 refine HEND.out (w2.heap.size+1+1) _ _ rfl ?_ ?_ ?_
 ·have:=HB.out.size;omega
 ·exact blk_newg (by simp)
 exact below_three HB.out _ _ _
set_option maxRecDepth 100000 in
set_option maxHeartbeats 4000000 in
theorem object_proxy (h:WIs X c M w A) {o:Int} {x:Ob} (hx:at? A o=some x) (hk:x.th.kind=4):Calls Tryz.prog 48 #[ptr X.wb,.int .i64 o] w (ObjP w o x.th):=by
 have hst:=stW h
 have hh:=wHead_some h hx
 obtain ⟨f1,f2,-⟩:=h.fit hx
 have tok:x.th.ok:=⟨⟨_,_,_,f1⟩,⟨_,_,_,f2⟩⟩
 have HEND:Hid (∀ b e w',e = .returned (.iface 178 (ptr b))→w.heap.size≤b→Blk w' b (xcs o x.th) 179→Below w.heap.size w w'→ObjP w o x.th e w'):=Lib.hid fun b e w' h1 h2 h3 h4=>⟨b,by rw [h1];simp [ifT,hk],h2,by simpa [blT,hk] using h3,h4⟩
 have d1:(x.th.kind == 1)=false:=by simp [hk]
 have d2:(x.th.kind == 2)=false:=by simp [hk]
 have d3:(x.th.kind == 3)=false:=by simp [hk]
 have d4:(x.th.kind == 4)=true:=by simp [hk]
 obtain ⟨th,hth⟩:∃ th,th=x.th:=⟨_,rfl⟩
 rw [← hth] at hh f1 f2 tok HEND d1 d2 d3 d4 ⊢
 have HZ:=Lib.hid (obj_facts o th f1 f2)
 have bd1:∀ w2,(Bd 170 #[(0,.int .i64 o),(1,.agg (tcs th))]).run Tryz.prog w2 = .ok (.agg (xcs o th)) w2:=fun w2=>run_bdX w2 o th f1 f2
 have bd2:∀ w2,(Bd 179 #[(0,.agg (xcs o th))]).run Tryz.prog w2 = .ok (.agg (xcs o th)) w2:=fun w2=>run_bd_proxy w2 o th f1 f2
 clear h hx hk f1 f2 tok hth
 go_enter Tryz.func48,Tryz.ntmps48
 go_wp2_with (first |(go_at_call 100;(with_reducible refine hst.mono ?_);rintro e w5 ⟨rfl,rfl⟩) |(go_at_call 101;(with_reducible refine hh.mono ?_);rintro e w2 ⟨rfl,hb⟩;obtain ⟨sz,lt3,sx,k3,lx4⟩:=HZ.out w2;have HB:=Lib.hid hb;clear hb))
 go_ret
 refine HEND.out (w2.heap.size+1+1) _ _ rfl ?_ ?_ ?_
 ·have:=HB.out.size;omega
 ·exact blk_newg (by simp)
 exact below_three HB.out _ _ _
set_option maxRecDepth 100000 in
set_option maxHeartbeats 4000000 in
theorem object_ordinary (h:WIs X c M w A) {o:Int} {x:Ob} (hx:at? A o=some x) (hk:x.th.kind ≠ 1∧x.th.kind ≠ 2∧x.th.kind ≠ 3∧x.th.kind ≠ 4):Calls Tryz.prog 48 #[ptr X.wb,.int .i64 o] w (ObjP w o x.th):=by
 have hst:=stW h
 have hh:=wHead_some h hx
 obtain ⟨f1,f2,-⟩:=h.fit hx
 have tok:x.th.ok:=⟨⟨_,_,_,f1⟩,⟨_,_,_,f2⟩⟩
 have HEND:Hid (∀ b e w',e = .returned (.iface 180 (ptr b))→w.heap.size≤b→Blk w' b (xcs o x.th) 170→Below w.heap.size w w'→ObjP w o x.th e w'):=Lib.hid fun b e w' h1 h2 h3 h4=>⟨b,by rw [h1];simp [ifT,hk],h2,by simpa [blT,hk] using h3,h4⟩
 have d1:(x.th.kind == 1)=false:=by simp;omega
 have d2:(x.th.kind == 2)=false:=by simp;omega
 have d3:(x.th.kind == 3)=false:=by simp;omega
 have d4:(x.th.kind == 4)=false:=by simp;omega
 obtain ⟨th,hth⟩:∃ th,th=x.th:=⟨_,rfl⟩
 rw [← hth] at hh f1 f2 tok HEND d1 d2 d3 d4 ⊢
 have HZ:=Lib.hid (obj_facts o th f1 f2)
 have bd1:∀ w2,(Bd 170 #[(0,.int .i64 o),(1,.agg (tcs th))]).run Tryz.prog w2 = .ok (.agg (xcs o th)) w2:=fun w2=>run_bdX w2 o th f1 f2
 clear h hx hk f1 f2 tok hth
 go_enter Tryz.func48,Tryz.ntmps48
 go_wp2_with (first |(go_at_call 100;(with_reducible refine hst.mono ?_);rintro e w5 ⟨rfl,rfl⟩) |(go_at_call 101;(with_reducible refine hh.mono ?_);rintro e w2 ⟨rfl,hb⟩;obtain ⟨sz,lt3,sx,k3,lx4⟩:=HZ.out w2;have HB:=Lib.hid hb;clear hb))
 go_ret
 refine HEND.out (w2.heap.size+1) _ _ rfl ?_ ?_ ?_
 ·have:=HB.out.size;omega
 ·exact blk_newg (by simp)
 exact below_two HB.out _ _
end
theorem object_any (h:WIs X c M w A) {o:Int} {x:Ob} (hx:at? A o=some x):Calls Tryz.prog 48 #[ptr X.wb,.int .i64 o] w (ObjP w o x.th):=by
 by_cases h1:x.th.kind=1
 ·exact object_array h hx h1
 ·by_cases h2:x.th.kind=2
  ·exact object_function h hx h2
  ·by_cases h3:x.th.kind=3
   ·exact object_bound h hx h3
   ·by_cases h4:x.th.kind=4
    ·exact object_proxy h hx h4
    ·exact object_ordinary h hx ⟨h1,h2,h3,h4⟩
end
end Go.Proofs.YtkadkmnolkkhgaaGreatDoor.Mw

/-
 Do.
-/
namespace Go.Proofs.YtkadkmnolkkhgaaGreatDoor.Mw
open Go Go.RowKit Go.Maps Go.Shelf Keys Hp Mo
open Des (Vl Ds zeroV zeroD dcs dcs_size dcs_one accF rigF appF eqV)
open Arrs (En ecs)
theorem bdSn (ps:Array (Nat × Value)):Instr.build 120 ps=Bd 120 ps:=(rfl)
theorem run_bdSn (w:World) (m o fr:Int) (a:Aq) (r:Rr) (a1:Option Addr) (n1 c1:Nat) (a2:Option Addr) (n2 c2:Nat):(Bd 120 #[(0,.int .i64 m),(1,.int .i64 o),(2,.int .i64 fr),(3,.agg (acs a (.slice a1 n1 c1))),(4,.agg (rcs (r.mem (.slice a2 n2 c2))))]).run Tryz.prog w = .ok (.agg (scs ⟨m,o,fr,a,r⟩ (.slice a1 n1 c1) (.slice a2 n2 c2))) w:=run_build w _ _ _ (by kernel_rfl)
theorem ne_nilE (d:Nat) (T:TypeId) (b:Nat) (w:World):(Op.equalIn (d+1) 110 (.iface T (ptr b)) .nilIface).run Tryz.prog w = .ok false w:=by
 simp [Op.equalIn,run_underlying Tryz.underlying110]
theorem ne_nilI (T:TypeId) (b:Nat) (w:World):(binOp .eql 110 (.iface T (ptr b)) .nilIface).run Tryz.prog w = .ok (.bool false) w:=by
 simp only [binOp]
 simp [Op.equal,Op.maxDepth,ne_nilE 9999]
theorem acs_set26 (a:Aq) (l v:Value):(acs a l).setIfInBounds 26 v=acs a v:=rfl
section
variable {X:Cx} {c:Nat} {M M' M'':Wm} {w w' w'':World} {A A' A'':Aw} {ls:List Lc} {kl:List (Value × List KV)} {ro:List Lc} {D:DoT}
set_option maxRecDepth 100000 in
set_option maxHeartbeats 1000000 in
theorem cloneV (B:List Nat) (aa:Option Addr) (ac:Nat) (vs:List Vl) (h:VsOut B w (.slice aa vs.length ac) vs) (hl:vs.length≤1000000000):Calls Tryz.prog 53 #[.slice aa vs.length ac] w fun e w'=>∃ a c,e = .returned (.slice a vs.length c)∧w'.ownsRow w.heap.size 30 3 (.slice a vs.length c) vs.length (cellsV vs)∧Below w.heap.size w w':=by
 obtain ⟨a,c,e,h⟩:=h
 simp only [Value.slice.injEq,true_and] at e
 obtain ⟨rfl,rfl⟩:=e
 have hv:VsAt w.heap.size aa vs w:=by
  rcases h with h |⟨b,off,h1,h2,h3,h4⟩
  ·exact .inl h
  ·exact .inr ⟨b,off,h1,h2,h4⟩
 obtain ⟨i23,hi23,hz230,hz231,hz232⟩:=info_parts infoV
 have he:=run_eqlS aa vs.length ac w
 cases aa with
 | none =>
  have h0:vs=[]:=by
   rcases hv with h |⟨b,off,ha,_⟩
   ·exact h
   ·cases ha
  subst h0
  simp only [List.length_nil] at he ⊢
  clear h hl hv
  go_enter Tryz.func53,Tryz.ntmps53
  go_wp2
  go_ret
  exact ⟨none,0,rfl,World.ownsRow_nil _ _ _ _,Below.refl _ _⟩
 | some ad =>
  have hrow:=slice_lit w 30 w.heap.size (Nat.le_refl _)
  have hcells:∀ j u,(cellsV vs)[j]? = some u→(w.alloc (.cells #[] 30)).cell? (ad.add j)=some u:=fun j u hu=>by
   rcases hv with h |⟨b,off,ha,hlt,hr⟩
   ·subst h;simp [cellsV] at hu
   ·obtain rfl:ad=⟨b,off,none⟩:=by simpa using ha
    rw [Addr.add_mid,World.cell?_alloc_lt _ _ _ hlt]
    exact hr j u hu
  obtain ⟨al,hal⟩:∃ al,vs.length=al:=⟨_,rfl⟩
  rw [hal] at he hl ⊢
  have hnl:(cellsV vs).length=al*3:=by rw [cellsV_length,hal]
  have HLEN:=Lib.hid hal
  clear hv h hal
  go_enter Tryz.func53,Tryz.ntmps53
  go_wp2_with (at_builtin;refine wpList_append_own _ rfl _ _ 22 rfl w.heap.size 30 i23 (.agg #[.int .i64 0,.int .i64 0,.string ⟨#[]⟩]) 3 32 Tryz.underlying22 hi23 hz230 hz231 hz232 rfl (by decide) _ _ _ rfl hrow ad al ac (cellsV vs) rfl hnl hcells (cellsV_one vs) (by unfold maxLen;omega) (by omega) (by simp) ?_;intro v' w4 hown4 hgrow4 _)
  go_ret
  rw [Nat.zero_add] at hown4
  obtain ⟨a',c',rfl⟩:=Hp.own_shape hown4
  exact ⟨a',c',rfl,by simpa using hown4,((Below.refl _ w).alloc (Nat.le_refl _) _).grown hgrow4 (by simp) (fun k hk=>by cases hk;exact Nat.le_refl _)⟩
theorem Fm.noted (F:Fm X (c+1) M w M' w' A' ls kl ro) {rn:List Nat} {A2:Aw} {M2:Wm} (hw:WIs X c M2 w'' A2) (hn:∀ B w0,Nx B w0 (M'.bl X.wb) w'→(∀ b ∈ rn,w0.heap.size≤b)→Nx B w0 (M2.bl X.wb) w''∧(∀ b ∈ M2.bl X.wb,b ∈ M'.bl X.wb∨b ∈ rn∨w'.heap.size≤b)∧Kp (M'.bl X.wb) w' w'')
  (hr:∀ b ∈ rn,w.heap.size≤b) (hT:∀ b ∈ rn,∃ cs,Blk w' b cs 30) (hls:∀ x ∈ ls,x.t ≠ 30):Fm X c M w M2 w'' A2 ls kl []:=by
 obtain ⟨h1,h2,h3⟩:=hn _ _ F.nx hr
 have hout:∀ {b:Nat} {cs:Array Value} {t:TypeId},Blk w' b cs t→t ≠ 30→b ∉ M'.bl X.wb→b ∉ M2.bl X.wb:=fun hb ht ho hm=>by
  rcases h2 _ hm with h |h |h
  ·exact ho h
  ·obtain ⟨cs',hc⟩:=hT _ h
   exact ne_blk hb hc ht rfl
  ·have:=hb.lt
   omega
 refine ⟨hw,h1,fun x hx=>?_,fun k hk=>?_,F.h0,(fun x hx=>by cases hx),F.nd⟩
 ·have l:=F.lo x hx
  exact ⟨h3.blk l.blk l.out,hout l.blk (hls x hx) l.out,l.low⟩
 ·obtain ⟨a,cc,e,hl,hh⟩:=F.ks k hk
  refine ⟨a,cc,e,hl,hh.imp id ?_⟩
  rintro ⟨b,off,cur,g1,g2,g3,g4⟩
  exact ⟨b,off,cur,g1,h3.blk g2 g3,hout g2 (by decide) g3,h3.range g2.lt g3 g4⟩
attribute [local go_sem ↓] ldR stR alR bxR bdR ldV stV alV bxV bdV ldA stA bxA bdA bdSn
attribute [local irreducible] rcs dcs ecs vcs acs kcs xcs tcs scs
attribute [local go_sem] run_bx run_alR run_stRg run_bdRf run_bdSn
set_option maxRecDepth 100000 in
set_option maxHeartbeats 4000000 in
theorem do_none (h:WIs X (c+1) M w A) (m o:Int) (a:Aq) (al:Value) (hk:Fine a.k) (hl:VsOut (M.bl X.wb) w al a.l) (hlen:a.l.length≤lim X) (hx:at? A o=none) :
  Calls Tryz.prog 19 #[ptr X.wb,.int .i64 m,.int .i64 o,.agg (acs a al)] w (Post X c M w (failF typeErr A)):=by
 obtain ⟨ala,alc,rfl,-⟩:=id hl
 obtain ⟨w1,hw1⟩:∃ w1,(w.alloc (.cells (acs a (.slice ala a.l.length alc)) 52)).alloc (.cells (rcs zeroR) 57)=w1:=⟨_,rfl⟩
 have F0:Fm X (c+1) M w M w1 A [⟨w.heap.size+1,rcs zeroR,57⟩,⟨w.heap.size,acs a (.slice ala a.l.length alc),52⟩] [] []:=by
  rw [← hw1];exact ((Fm.start h).new _ _).newg _ _ _ (by simp)
 have ho:=object_no F0.wis hx
 have HF0:=Lib.hid F0
 clear F0 h hk hl hlen hx
 go_enter Tryz.func19,Tryz.ntmps19
 go_wp2_with (first |(go_at_call 48;(with_reducible refine ho.mono ?_);rintro e w2 ⟨rfl,hb⟩;have F2:=HF0.out.call hb;have hf:=fail_any F2.wis typeErr;have HF2:=Lib.hid F2;clear hb F2) |(go_at_call 50;refine hf.mono ?_;intro e w3 hp;obtain ⟨M3,kv3,rfl,hks,hM,hn⟩:=FailP.post hp;have hg3:=Rr.good _ hks;have F3:=HF2.out.post hks hM hn;have s3:=run_stRp F3.l0.blk hg3;have HF3:=Lib.hid F3;clear hks hM hn hp F3))
 have F4:=HF3.out.put (l:=[]) (rcs ((failF typeErr A).1.mem kv3)) (show 57 ≠ 32 by decide)
 refine bodyPost_ret (res_R rfl _ _ (w.heap.size+1) _ rfl F4.l0.blk) rfl ?_
 exact F4.fin F4.k0
set_option maxRecDepth 100000 in
set_option maxHeartbeats 4000000 in
theorem do_what (h:WIs X (c+1) M w A) (m o:Int) (a:Aq) (al:Value) (hk:Fine a.k) (hl:VsOut (M.bl X.wb) w al a.l) (hlen:a.l.length≤lim X) {x:Ob} (hx:at? A o=some x) (hm:isMethF m=false) :
  Calls Tryz.prog 19 #[ptr X.wb,.int .i64 m,.int .i64 o,.agg (acs a al)] w (Post X c M w (failF typeErr A)):=by
 obtain ⟨ala,alc,rfl,-⟩:=id hl
 obtain ⟨w1,hw1⟩:∃ w1,(w.alloc (.cells (acs a (.slice ala a.l.length alc)) 52)).alloc (.cells (rcs zeroR) 57)=w1:=⟨_,rfl⟩
 have F0:Fm X (c+1) M w M w1 A [⟨w.heap.size+1,rcs zeroR,57⟩,⟨w.heap.size,acs a (.slice ala a.l.length alc),52⟩] [] []:=by
  rw [← hw1];exact ((Fm.start h).new _ _).newg _ _ _ (by simp)
 have ho:=object_any F0.wis hx
 obtain ⟨im,him⟩:∃ im,(decide (1≤m) && decide (m≤13))=im:=⟨_,rfl⟩
 have HIM:Hid (∀ w,Calls Tryz.prog 49 #[.int .i64 m] w fun e w'=>e = .returned (.bool im)∧w'=w):=Lib.hid fun w=>him ▸ isM_any m w
 have neI:=ne_nilI (ifT x.th.kind)
 rw [show (decide (1≤m) && decide (m≤13))=false from hm] at him
 subst him
 have HF0:=Lib.hid F0
 clear F0 h hk hl hlen hx hm
 go_enter Tryz.func19,Tryz.ntmps19
 go_wp2_with (first |(go_at_call 48;(with_reducible refine ho.mono ?_);rintro e w2 ⟨b2,rfl,hlo,hB,hb⟩;have F2:=HF0.out.growW hb hB hlo;have hf:=fail_any F2.wis typeErr;have HF2:=Lib.hid F2;clear hb F2 hlo hB) |(go_at_call 49;(with_reducible refine (HIM.out _).mono ?_);rintro e w9 ⟨rfl,rfl⟩) |(go_at_call 50;refine hf.mono ?_;intro e w3 hp;obtain ⟨M3,kv3,rfl,hks,hM,hn⟩:=FailP.post hp;have hg3:=Rr.good _ hks;have F3:=HF2.out.post hks hM hn;have s3:=run_stRp F3.l1.blk hg3;have HF3:=Lib.hid F3;clear hks hM hn hp F3))
 have F4:=HF3.out.put (l:=[⟨b2,xcs o x.th,blT x.th.kind⟩]) (rcs ((failF typeErr A).1.mem kv3)) (show 57 ≠ 32 by decide)
 refine bodyPost_ret (res_R rfl _ _ (w.heap.size+1) _ rfl F4.l1.blk) rfl ?_
 exact F4.fin F4.k0
set_option maxRecDepth 100000 in
set_option maxHeartbeats 4000000 in
theorem do_fuel (h:WIs X (c+1) M w A) (m o:Int) (a:Aq) (al:Value) (hk:Fine a.k) (hl:VsOut (M.bl X.wb) w al a.l) (hlen:a.l.length≤lim X) {x:Ob} (hx:at? A o=some x) (hm:isMethF m=true) (hf0:A.fuel=0) :
  Calls Tryz.prog 19 #[ptr X.wb,.int .i64 m,.int .i64 o,.agg (acs a al)] w (Post X c M w (flowR 2,A)):=by
 obtain ⟨ala,alc,rfl,-⟩:=id hl
 obtain ⟨w1,hw1⟩:∃ w1,(w.alloc (.cells (acs a (.slice ala a.l.length alc)) 52)).alloc (.cells (rcs zeroR) 57)=w1:=⟨_,rfl⟩
 have F0:Fm X (c+1) M w M w1 A [⟨w.heap.size+1,rcs zeroR,57⟩,⟨w.heap.size,acs a (.slice ala a.l.length alc),52⟩] [] []:=by
  rw [← hw1];exact ((Fm.start h).new _ _).newg _ _ _ (by simp)
 have ho:=object_any F0.wis hx
 obtain ⟨im,him⟩:∃ im,(decide (1≤m) && decide (m≤13))=im:=⟨_,rfl⟩
 have HIM:Hid (∀ w,Calls Tryz.prog 49 #[.int .i64 m] w fun e w'=>e = .returned (.bool im)∧w'=w):=Lib.hid fun w=>him ▸ isM_any m w
 have neI:=ne_nilI (ifT x.th.kind)
 rw [show (decide (1≤m) && decide (m≤13))=true from hm] at him
 subst him
 have HF0:=Lib.hid F0
 clear F0 h hk hl hlen hx hm
 go_enter Tryz.func19,Tryz.ntmps19
 go_wp2_with (first |(go_at_call 48;(with_reducible refine ho.mono ?_);rintro e w2 ⟨b2,rfl,hlo,hB,hb⟩;have F2:=HF0.out.growW hb hB hlo;have hs:=step_no F2.wis hf0;have HF2:=Lib.hid F2;clear hb F2 hlo hB) |(go_at_call 49;(with_reducible refine (HIM.out _).mono ?_);rintro e w9 ⟨rfl,rfl⟩) |(go_at_call 51;(with_reducible refine hs.mono ?_);rintro e w3 ⟨rfl,hb⟩;have hg3:((flowR 2).mem nilS).good:=⟨_,_,_,rfl⟩;have F3:=(HF2.out.call hb).new (rcs ((flowR 2).mem nilS)) 57;have lr:=run_ldRp F3.l0.blk;have HF3:=Lib.hid F3;clear hb F3) |(go_at_call 52;(with_reducible refine (abr_at (r:=flowR 2) (b:=true) rfl nilS _).mono ?_);rintro e w4 ⟨rfl,hb⟩;have F4:=HF3.out.call hb;have lr4:=run_ldRp F4.l0.blk;have s4:=run_stRp F4.l2.blk (r:=(flowR 2).mem nilS) ⟨_,_,_,rfl⟩;have HF4:=Lib.hid F4;clear hb F4))
 have F5:=HF4.out.put (l:=[⟨w3.heap.size,rcs ((flowR 2).mem nilS),57⟩,⟨b2,xcs o x.th,blT x.th.kind⟩]) (rcs ((flowR 2).mem nilS)) (show 57 ≠ 32 by decide)
 refine bodyPost_ret (res_R rfl _ _ (w.heap.size+1) _ rfl F5.l2.blk) rfl ?_
 exact F5.fin1 rfl
set_option maxRecDepth 100000 in
set_option maxHeartbeats 4000000 in
theorem do_deep (h:WIs X (c+1) M w A) (m o:Int) (a:Aq) (al:Value) (hk:Fine a.k) (hl:VsOut (M.bl X.wb) w al a.l) (hlen:a.l.length≤lim X) {x:Ob} (hx:at? A o=some x) (hm:isMethF m=true) (hf0:A.fuel ≠ 0) (hd:A.depth ≥ A.deep) :
  Calls Tryz.prog 19 #[ptr X.wb,.int .i64 m,.int .i64 o,.agg (acs a al)] w (Post X c M w (flowR 4,{ A with fuel:=A.fuel - 1 })):=by
 obtain ⟨ala,alc,rfl,-⟩:=id hl
 obtain ⟨w1,hw1⟩:∃ w1,(w.alloc (.cells (acs a (.slice ala a.l.length alc)) 52)).alloc (.cells (rcs zeroR) 57)=w1:=⟨_,rfl⟩
 have F0:Fm X (c+1) M w M w1 A [⟨w.heap.size+1,rcs zeroR,57⟩,⟨w.heap.size,acs a (.slice ala a.l.length alc),52⟩] [] []:=by
  rw [← hw1];exact ((Fm.start h).new _ _).newg _ _ _ (by simp)
 have ho:=object_any F0.wis hx
 obtain ⟨im,him⟩:∃ im,(decide (1≤m) && decide (m≤13))=im:=⟨_,rfl⟩
 have HIM:Hid (∀ w,Calls Tryz.prog 49 #[.int .i64 m] w fun e w'=>e = .returned (.bool im)∧w'=w):=Lib.hid fun w=>him ▸ isM_any m w
 have neI:=ne_nilI (ifT x.th.kind)
 rw [show (decide (1≤m) && decide (m≤13))=true from hm] at him
 subst him
 have HF0:=Lib.hid F0
 have dd:decide (A.deep≤A.depth)=true:=by simpa using hd
 clear F0 h hk hl hlen hx hm
 go_enter Tryz.func19,Tryz.ntmps19
 go_upto_region 7 with (first |(go_at_call 48;(with_reducible refine ho.mono ?_);rintro e w2 ⟨b2,rfl,hlo,hB,hb⟩;have F2:=HF0.out.growW hb hB hlo;have hs:=step_yes F2.wis hf0;have HF2:=Lib.hid F2;clear hb F2 hlo hB) |(go_at_call 49;(with_reducible refine (HIM.out _).mono ?_);rintro e w9 ⟨rfl,rfl⟩) |(go_at_call 51;(with_reducible refine hs.mono ?_);rintro e w3 ⟨rfl,hM3,hn3⟩;have hg3:(zeroRr.mem nilS).good:=⟨_,_,_,rfl⟩;have F3:=(HF2.out.next (k2:=[]) hM3 hn3 (fun k hk=>by cases hk)).new (rcs (zeroRr.mem nilS)) 57;have lr:=run_ldRp F3.l0.blk;have HF3:=Lib.hid F3;clear hM3 hn3 F3) |(go_at_call 52;(with_reducible refine (abr_at (r:=zeroRr) (b:=false) rfl nilS _).mono ?_);rintro e w4 ⟨rfl,hb⟩;have F4:=HF3.out.call hb;have c3:=F4.wis.w3;have c4:=F4.wis.w4;have HF4:=Lib.hid F4;clear hb F4))
 go_cut [38] from 30 to 38 (fun s wx=>s = .bool true∧Fm X (c+1+8) M w M wx { A with fuel:=A.fuel - 1 } [⟨w3.heap.size,rcs (zeroRr.mem nilS),57⟩,⟨b2,xcs o x.th,blT x.th.kind⟩,⟨w.heap.size+1,rcs zeroR,57⟩,⟨w.heap.size,acs a (.slice ala a.l.length alc),52⟩] [] [])
 case first =>
  go_region
  all_goals (go_wp2_with fail;go_meet)
  all_goals exact ⟨rfl,HF4.out.drew⟩
 case rest =>
 obtain ⟨rfl,F6⟩:=hcut
 have s6:=run_stRp F6.l2.blk (r:=(flowR 4).mem nilS) ⟨_,_,_,rfl⟩
 have F7:=F6.put (l:=[⟨w3.heap.size,rcs (zeroRr.mem nilS),57⟩,⟨b2,xcs o x.th,blT x.th.kind⟩]) (rcs ((flowR 4).mem nilS)) (show 57 ≠ 32 by decide)
 have HF7:=Lib.hid F7
 clear F6 F7
 go_wp2
 refine bodyPost_ret (res_R rfl _ _ (w.heap.size+1) _ rfl HF7.out.l2.blk) rfl ?_
 exact (HF7.out.less (c':=c+1) (by omega)).fin1 (R:=(flowR 4,{ A with fuel:=A.fuel - 1 })) rfl
end
end Go.Proofs.YtkadkmnolkkhgaaGreatDoor.Mw

/-
 A Seen copied.
-/
namespace Go.Proofs.YtkadkmnolkkhgaaGreatDoor.Mw
open Go Go.RowKit Go.Maps Go.Shelf Keys Hp Mo
open Des (Vl Ds zeroV zeroD dcs dcs_size dcs_one)
open Arrs (En ecs ecs_0 ecs_1 ecs_10 ecs_size ecs_list ecs_one ecs_one')
theorem ldSn (v:Value):Instr.loadAt 120 v=Ld 120 v:=(rfl)
theorem stSn (p v:Value):Instr.storeAt 120 p v=St 120 p v:=(rfl)
theorem alSn:Instr.alloc 120 true (.tuple #[])=Al 120:=(rfl)
def zeroS:Sn:=⟨0,0,0,zeroQ,zeroRr⟩
theorem infoSn:(Tryz.prog.info? 120).map (fun i=>(i.zero,i.size))=some (some (.agg (scs zeroS nilS nilS)),55):=by kernel_rfl
theorem sizeSn:(Tryz.prog.info? 120).map (·.size)=some 55:=by kernel_rfl
theorem scs_size (s:Sn) (l k:Value):(scs s l k).size=55:=rfl
theorem scs_29 (s:Sn) (l k:Value):(scs s l k)[29]? = some l:=rfl
theorem scs_set29 (s:Sn) (l k l':Value):(scs s l k).setIfInBounds 29 l'=scs s l' k:=rfl
theorem scs_one (s:Sn) (a b:Option Addr) (n c m d:Nat):(scs s (.slice a n c) (.slice b m d)).all (·.oneCell')=true:=by
 simp [scs,Value.oneCell']
theorem run_alSn (w:World):(Al 120).run Tryz.prog w = .ok (ptr w.heap.size) (w.alloc (.cells (scs zeroS nilS nilS) 120)):=run_al infoSn w
theorem run_ldSn {w:World} {b:Nat} {s:Sn} {l k:Value} {T:TypeId} (h:Blk w b (scs s l k) T):(Ld 120 (.pointer (some ⟨b,0,none⟩))).run Tryz.prog w = .ok (.agg (scs s l k)) w:=by
 have:=run_loadAt_mid (P:=Tryz.prog) w b 0 120 (scs s l k).toList _ (h.range (r:=[]) (by simp)) Tryz.underlying120 rfl sizeSn
 simpa [Ld] using this
theorem run_stSn {w:World} {b:Nat} {o s:Sn} {l k:Value} {a1 a2:Option Addr} {n1 c1 n2 c2:Nat} (h:Blk w b (scs o l k) 120):(St 120 (.pointer (some ⟨b,0,none⟩)) (.agg (scs s (.slice a1 n1 c1) (.slice a2 n2 c2)))).run Tryz.prog w = .ok () (w.setRow b (scs s (.slice a1 n1 c1) (.slice a2 n2 c2))) :=
 run_st_row h (by rw [scs_size];exact sizeSn) (by rw [scs_size,scs_size]) (scs_one _ _ _ _ _ _ _)
theorem res_Sn {fn:Func} {p:Tmp} (h:fn.results=#[.cell p 120]) (tmps:Array Value) (w:World) (g:Nat) (s:Sn) (l k:Value) (hp:tmps.getD p undef = .pointer (some ⟨g,0,none⟩)) {T:TypeId} (hr:Blk w g (scs s l k) T):(results fn tmps).run Tryz.prog w = .ok (.agg (scs s l k)) w :=
 results_cell_row h tmps w g T (scs s l k) (0,0) _ hp hr Tryz.underlying120 rfl (by rw [scs_size];exact sizeSn)
section
attribute [local go_sem ↓] bxSn ldSn stSn alSn
attribute [local irreducible] scs
attribute [local go_sem] run_bx run_alSn
set_option maxRecDepth 100000 in
set_option maxHeartbeats 4000000 in
theorem copied_any (s:Sn) (l k:Value) {B:List Nat} {w:World} (hl:VsOut B w l s.a.l) (hk:KsOut B w k s.r.ks) (hlen:s.a.l.length≤1000000000) :
  Calls Tryz.prog 98 #[.agg (scs s l k)] w fun e w'=>∃ l' k',e = .returned (.agg (scs s l' k'))∧w'.ownsRow w.heap.size 30 3 l' s.a.l.length (cellsV s.a.l)∧w'.ownsRow w.heap.size 32 2 k' s.r.ks.length (cellsK s.r.ks)∧Below w.heap.size w w':=by
 obtain ⟨la,lc,rfl,-⟩:=id hl
 obtain ⟨w1,hw1⟩:∃ w1,(w.alloc (.cells (scs s (.slice la s.a.l.length lc) k) 120)).alloc (.cells (scs zeroS nilS nilS) 120)=w1:=⟨_,rfl⟩
 have b1:Below w.heap.size w w1:=by rw [← hw1];exact ((Below.refl _ w).alloc (Nat.le_refl _) _).alloc (by simp) _
 have x1:Blk w1 w.heap.size (scs s (.slice la s.a.l.length lc) k) 120:=by rw [← hw1];exact (Blk.new w _ _).old _
 have z1:Blk w1 (w.heap.size+1) (scs zeroS nilS nilS) 120:=by rw [← hw1];exact blk_newg (by simp)
 have k29:w1.cell? ⟨w.heap.size,29,none⟩=some (.slice la s.a.l.length lc):=(x1.cell 29).trans (scs_29 _ _ _)
 have hcv:=cloneV (w:=w1) B la lc s.a.l (hl.nx (Nx.of_below b1)) hlen
 have s1:w1.heap.size=w.heap.size+2:=by rw [← hw1];simp
 have HS1:=Lib.hid s1
 have HB1:=Lib.hid b1
 have HX1:=Lib.hid x1
 have HZ1:=Lib.hid z1
 have HK:=Lib.hid hk
 clear hl b1 x1 z1 hk s1
 go_enter Tryz.func98,Tryz.ntmps98
 go_wp2_with (first
  | (go_at_call 53
     (with_reducible refine hcv.mono ?_)
     rintro e w3 ⟨a3,c3,rfl,hown,hb3⟩
     have y3:=HX1.out.call hb3
     have z3:=HZ1.out.call hb3
     have f29:=y3.frozen 29
     have k29':=(y3.cell 29).trans (scs_29 _ _ _)
     have e4:=row_cell y3 (.slice a3 s.a.l.length c3) (scs_set29 s (.slice la s.a.l.length lc) k (.slice a3 s.a.l.length c3))
     obtain ⟨w4,hw4⟩:∃ w4,w3.setCell ⟨w.heap.size,29,none⟩ (.slice a3 s.a.l.length c3)=w4:=⟨_,rfl⟩
     have h4:w4=w3.setRow w.heap.size (scs s (.slice a3 s.a.l.length c3) k):=by rw [← hw4,e4]
     have y4:Blk w4 w.heap.size (scs s (.slice a3 s.a.l.length c3) k) 120:=by rw [h4];exact y3.row _
     have z4:Blk w4 (w.heap.size+1) (scs zeroS nilS nilS) 120:=by rw [h4];exact (setRow_other w3 _ _ _ (by omega)).trans z3
     have b4:Below w.heap.size w w4:=by rw [h4];exact below_rowW (HB1.out.trans (hb3.mono HB1.out.size)) _ (Nat.le_refl _)
     have o4:w4.ownsRow w1.heap.size 30 3 (.slice a3 s.a.l.length c3) s.a.l.length (cellsV s.a.l):=by rw [h4];exact own_row hown y3 (by decide)
     have hk4:=HK.out.nx (Nx.of_below b4)
     obtain ⟨ka,kc,rfl,hkl,hkat⟩:=hk4.at_
     have k54:=(y4.cell 54).trans (scs_54 _ _ _)
     have hck:=cloneK_any ka _ kc s.r.ks w4 rfl hkl hkat
     have HY4:=Lib.hid y4
     have HZ4:=Lib.hid z4
     have HB4:=Lib.hid b4
     have HO4:=Lib.hid o4
     have HB3:=Lib.hid hb3
     have S4:=Lib.hid (show w1.heap.size≤w4.heap.size by rw [h4,size_setRow];exact hb3.size)
     clear y3 z3 hown hb3 e4 h4 y4 z4 b4 o4 hk4 hkl hkat hcv)
  | (go_at_call 104
     (with_reducible refine hck.mono ?_)
     rintro e w5 ⟨v5,rfl,hown5,hb5⟩
     obtain ⟨a5,c5,rfl⟩:=Hp.own_shape hown5
     have y5:=HY4.out.call hb5
     have z5:=HZ4.out.call hb5
     have f54:=y5.frozen 54
     have k54':=(y5.cell 54).trans (scs_54 _ _ _)
     have e6:=row_cell y5 (.slice a5 s.r.ks.length c5) (scs_set54 s (.slice a3 s.a.l.length c3) (.slice ka s.r.ks.length kc) (.slice a5 s.r.ks.length c5))
     obtain ⟨w6,hw6⟩:∃ w6,w5.setCell ⟨w.heap.size,54,none⟩ (.slice a5 s.r.ks.length c5)=w6:=⟨_,rfl⟩
     have h6:w6=w5.setRow w.heap.size (scs s (.slice a3 s.a.l.length c3) (.slice a5 s.r.ks.length c5)):=by rw [← hw6,e6]
     have y6:Blk w6 w.heap.size (scs s (.slice a3 s.a.l.length c3) (.slice a5 s.r.ks.length c5)) 120:=by rw [h6];exact y5.row _
     have z6:Blk w6 (w.heap.size+1) (scs zeroS nilS nilS) 120:=by rw [h6];exact (setRow_other w5 _ _ _ (by omega)).trans z5
     have b6:Below w.heap.size w w6:=by rw [h6];exact below_rowW (HB4.out.trans (hb5.mono HB4.out.size)) _ (Nat.le_refl _)
     have o6:w6.ownsRow w1.heap.size 30 3 (.slice a3 s.a.l.length c3) s.a.l.length (cellsV s.a.l):=by rw [h6];exact own_row (Hp.own_below HO4.out hb5) y5 (by decide)
     have p6:w6.ownsRow w4.heap.size 32 2 (.slice a5 s.r.ks.length c5) s.r.ks.length (cellsK s.r.ks):=by rw [h6];exact own_row hown5 y5 (by decide)
     have lw6:=run_ldSn y6
     have sw6:=run_stSn (s:=s) (a1:=a3) (n1:=s.a.l.length) (c1:=c3) (a2:=a5) (n2:=s.r.ks.length) (c2:=c5) z6
     have HALL:=Lib.hid (show ∃ l' k',Ending.returned (.agg (scs s (.slice a3 s.a.l.length c3) (.slice a5 s.r.ks.length c5))) = .returned (.agg (scs s l' k'))∧(w6.setRow (w.heap.size+1) (scs s (.slice a3 s.a.l.length c3) (.slice a5 s.r.ks.length c5))).ownsRow w.heap.size 30 3 l' s.a.l.length (cellsV s.a.l)∧(w6.setRow (w.heap.size+1) (scs s (.slice a3 s.a.l.length c3) (.slice a5 s.r.ks.length c5))).ownsRow w.heap.size 32 2 k' s.r.ks.length (cellsK s.r.ks)∧Below w.heap.size w (w6.setRow (w.heap.size+1) (scs s (.slice a3 s.a.l.length c3) (.slice a5 s.r.ks.length c5))) from ⟨_,_,rfl,(own_row o6 z6 (by decide)).mono (by have:=HS1.out;omega),(own_row p6 z6 (by decide)).mono (by have:=HS1.out;have:=S4.out;omega),below_rowW b6 _ (by omega)⟩)
     have HZ6:=Lib.hid z6
     clear y5 z5 hown5 hb5 e6 h6 y6 z6 b6 o6 p6 hck))
 refine bodyPost_ret (res_Sn rfl _ _ (w.heap.size+1) s _ _ rfl (HZ6.out.row _)) rfl ?_
 exact HALL.out
end
end Go.Proofs.YtkadkmnolkkhgaaGreatDoor.Mw
