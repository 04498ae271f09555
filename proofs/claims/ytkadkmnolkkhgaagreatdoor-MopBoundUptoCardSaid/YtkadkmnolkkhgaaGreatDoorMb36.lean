/-
 Texts of this seat in build order: MwPerf, MwDoB, MwDoC, MwInd.
-/
import Derived.Test.YtkadkmnolkkhgaaGreatDoorMb24
import Derived.Test.YtkadkmnolkkhgaaGreatDoorMb30
import Derived.Test.YtkadkmnolkkhgaaGreatDoorMb35
import Derived.Test.YtkadkmnolkkhgaaGreatDoorMb18
import Derived.Deep.DeepCutAuto
import Derived.Test.YtkadkmnolkkhgaaGreatDoorMb19
/-
 perform.
-/
set_option linter.unusedVariables false
set_option linter.unusedSimpArgs false
namespace Go.Proofs.YtkadkmnolkkhgaaGreatDoor.Mw
open Go Go.RowKit Go.Maps Go.Shelf Keys Hp Mo
open Des (Vl Ds zeroV zeroD dcs dcs_size dcs_one accF rigF appF eqV)
open Arrs (En ecs)
attribute [local go_sem ↓] ldR stR alR bxR bdR ldV stV alV bxV bdV ldA stA bxA bdA ldKy bxKy bdKy 
attribute [local irreducible] rcs dcs ecs vcs acs kcs xcs tcs
attribute [local go_sem] run_bx run_alR run_stRg run_bdA0 run_bdAk run_bdAkr run_bdAkvr run_bdAr run_bdAkd run_bdRz run_bdRd run_bdRk run_bdRf run_bdRo run_bdRs run_bdRt' run_bdKs 
section
variable {X:Cx} {c:Nat} {M M' M'':Wm} {w w' w'':World} {A A' A'':Aw} {ls:List Lc} {kl:List (Value × List KV)} {ro:List Lc} {D:DoT} {C:HandT} {Xf:DoT}
theorem ta_array_proxy (b:Nat) (w:World):(Instr.typeAssert (.iface 171 (ptr b)) 110 178 true).run Tryz.prog w = .ok (.tuple #[.pointer none,.bool false]) w:=by kernel_rfl
theorem ta_array_array (b:Nat) (w:World):(Instr.typeAssert (.iface 171 (ptr b)) 110 171 true).run Tryz.prog w = .ok (.tuple #[ptr b,.bool true]) w:=by kernel_rfl
theorem ta_function_proxy (b:Nat) (w:World):(Instr.typeAssert (.iface 174 (ptr b)) 110 178 true).run Tryz.prog w = .ok (.tuple #[.pointer none,.bool false]) w:=by kernel_rfl
theorem ta_function_array (b:Nat) (w:World):(Instr.typeAssert (.iface 174 (ptr b)) 110 171 true).run Tryz.prog w = .ok (.tuple #[.pointer none,.bool false]) w:=by kernel_rfl
theorem ta_bound_proxy (b:Nat) (w:World):(Instr.typeAssert (.iface 176 (ptr b)) 110 178 true).run Tryz.prog w = .ok (.tuple #[.pointer none,.bool false]) w:=by kernel_rfl
theorem ta_bound_array (b:Nat) (w:World):(Instr.typeAssert (.iface 176 (ptr b)) 110 171 true).run Tryz.prog w = .ok (.tuple #[.pointer none,.bool false]) w:=by kernel_rfl
theorem ta_proxy_proxy (b:Nat) (w:World):(Instr.typeAssert (.iface 178 (ptr b)) 110 178 true).run Tryz.prog w = .ok (.tuple #[ptr b,.bool true]) w:=by kernel_rfl
theorem ta_proxy_array (b:Nat) (w:World):(Instr.typeAssert (.iface 178 (ptr b)) 110 171 true).run Tryz.prog w = .ok (.tuple #[.pointer none,.bool false]) w:=by kernel_rfl
theorem ta_ordinary_proxy (b:Nat) (w:World):(Instr.typeAssert (.iface 180 (ptr b)) 110 178 true).run Tryz.prog w = .ok (.tuple #[.pointer none,.bool false]) w:=by kernel_rfl
theorem ta_ordinary_array (b:Nat) (w:World):(Instr.typeAssert (.iface 180 (ptr b)) 110 171 true).run Tryz.prog w = .ok (.tuple #[.pointer none,.bool false]) w:=by kernel_rfl
theorem isInv_any (m:Int) (w:World):Calls Tryz.prog 137 #[.int .i64 m] w fun e w'=>e = .returned (.bool (m == 12 || m == 13))∧w'=w:=by
 by_cases h:m=12
 ·have d:(m == 12)=true:=by simp [h]
  rw [d]
  have H:=Lib.hid h
  clear h
  go_enter Tryz.func137,Tryz.ntmps137
  go_wp2
  go_ret
  exact ⟨rfl,rfl⟩
 ·have d:(m == 12)=false:=by simp [h]
  rw [d]
  have H:=Lib.hid h
  clear h
  go_enter Tryz.func137,Tryz.ntmps137
  go_wp2
  go_ret
  exact ⟨by simp,rfl⟩
def DelIs (X:Cx) (Xf:DoT):Prop:=X.px=true→∀ (c:Nat) (M:Wm) (w:World) (A:Aw) (m o:Int) (x:Ob) (a:Aq) (al:Value) (xb:Nat),WIs X (c+4) M w A→at? A o=some x→x.th.kind=4→Blk w xb (xcs o x.th) (blT x.th.kind)→xb ∉ M.bl X.wb→Fine a.k→VsOut (M.bl X.wb) w al a.l→a.l.length+100000≤lim X →
 Calls Tryz.prog 135 #[ptr X.wb,.int .i64 m,ptr xb,.agg (acs a al)] w (Post X c M w (Xf m o a A))
set_option maxRecDepth 100000 in
set_option maxHeartbeats 4000000 in
theorem perf_proxy (HH:HandIs X C) (HD:DoIs X D) (HX:DelIs X Xf) (hlz:lim X≤1000000000) (h:WIs X (c+4) M w A) (o:Int) {x:Ob} (hat:at? A o=some x) {xb:Nat} (hx:Blk w xb (xcs o x.th) (blT x.th.kind)) (hxo:xb ∉ M.bl X.wb) (a:Aq) (al:Value) (hk:Fine a.k) (hl:VsOut (M.bl X.wb) w al a.l) (hlen:a.l.length+100000≤lim X) (m:Int) (hk2:x.th.kind=4) :
  Calls Tryz.prog 103 #[ptr X.wb,.int .i64 m,.iface (ifT x.th.kind) (ptr xb),.agg (acs a al)] w (Post X c M w (Xf m o a A)):=by
 obtain ⟨w1,hw1⟩:∃ w1,(w.alloc (.cells (acs a al) 52)).alloc (.cells (rcs zeroR) 57)=w1:=⟨_,rfl⟩
 have F0:Fm X (c+4) M w M w1 A [⟨w.heap.size+1,rcs zeroR,57⟩,⟨w.heap.size,acs a al,52⟩] [] [⟨xb,xcs o x.th,blT x.th.kind⟩]:=by
  rw [← hw1];exact (((Fm.start h).with hx hxo).new _ _).newg _ _ _ (by simp)
 have la:=run_ldAq F0.l1.blk
 have hlw:=hl.nx F0.nx
 have hpx:X.px=true:=by
  cases hp:X.px
  ·exact absurd hk2 (h.nopx hp x (by obtain ⟨i,rfl,hi⟩:=at_some hat;exact List.mem_of_getElem? hi))
  ·rfl
 have hcall:=HX hpx c M w1 A m o x a al xb F0.wis hat hk2 F0.r0 F0.r0o hk hlw hlen
 rw [show ifT x.th.kind=178 from ifT_4 hk2]
 have tap:=ta_proxy_proxy
 have taa:=ta_proxy_array
 have HF:=Lib.hid F0
 clear F0 h hx hxo hk hl hat hlen HH HD HX hlw hlz hpx hk2
 go_enter Tryz.func103,Tryz.ntmps103
 go_wp2_with (go_at_call 135;(with_reducible refine hcall.mono ?_);rintro e w3 ⟨M3,kv3,rfl,hks,hM,hn⟩;have hg3:=Rr.good _ hks;have F3:=HF.out.next (k2:=[(kv3,(Xf m o a A).1.ks)]) hM hn (fun k hk=>by rw [List.mem_singleton.1 hk];exact hks);have s3:=run_stRp F3.l0.blk hg3;have HF3:=Lib.hid F3;clear hks hM hn F3)
 have F4:=HF3.out.put (l:=[]) (rcs ((Xf m o a A).1.mem kv3)) (show 57 ≠ 32 by decide)
 refine bodyPost_ret (res_R rfl _ _ (w.heap.size+1) _ rfl F4.l0.blk) rfl ?_
 exact F4.fin F4.k0
set_option maxRecDepth 100000 in
set_option maxHeartbeats 4000000 in
theorem perf_define (HH:HandIs X C) (HD:DoIs X D) (HX:DelIs X Xf) (hlz:lim X≤1000000000) (h:WIs X (c+4) M w A) (o:Int) {x:Ob} (hat:at? A o=some x) {xb:Nat} (hx:Blk w xb (xcs o x.th) (blT x.th.kind)) (hxo:xb ∉ M.bl X.wb) (a:Aq) (al:Value) (hk:Fine a.k) (hl:VsOut (M.bl X.wb) w al a.l) (hlen:a.l.length+100000≤lim X) (m:Int) (hk2:x.th.kind=1) (hm:m=6) :
  Calls Tryz.prog 103 #[ptr X.wb,.int .i64 m,.iface (ifT x.th.kind) (ptr xb),.agg (acs a al)] w (Post X c M w (defArrF o x.th a A)):=by
 obtain ⟨w1,hw1⟩:∃ w1,(w.alloc (.cells (acs a al) 52)).alloc (.cells (rcs zeroR) 57)=w1:=⟨_,rfl⟩
 have F0:Fm X (c+4) M w M w1 A [⟨w.heap.size+1,rcs zeroR,57⟩,⟨w.heap.size,acs a al,52⟩] [] [⟨xb,xcs o x.th,blT x.th.kind⟩]:=by
  rw [← hw1];exact (((Fm.start h).with hx hxo).new _ _).newg _ _ _ (by simp)
 have la:=run_ldAq F0.l1.blk
 have hlw:=hl.nx F0.nx
 have hcall:=defArr_any F0.wis o F0.r0 F0.r0o hat a al hk
 have d6:(m == 6)=true:=by simp [hm]
 rw [show ifT x.th.kind=171 from ifT_1 hk2]
 have tap:=ta_array_proxy
 have taa:=ta_array_array
 have HF:=Lib.hid F0
 have HM:=Lib.hid hm
 clear F0 h hx hxo hk hl hat hlen HH HD HX hlw hlz hk2 hm
 go_enter Tryz.func103,Tryz.ntmps103
 go_wp2_with (go_at_call 136;(with_reducible refine hcall.mono ?_);rintro e w3 ⟨M3,kv3,rfl,hks,hM,hn⟩;have hg3:=Rr.good _ hks;have F3:=HF.out.next (k2:=[(kv3,(defArrF o x.th a A).1.ks)]) hM hn (fun k hk=>by rw [List.mem_singleton.1 hk];exact hks);have s3:=run_stRp F3.l0.blk hg3;have HF3:=Lib.hid F3;clear hks hM hn F3)
 have F4:=HF3.out.put (l:=[]) (rcs ((defArrF o x.th a A).1.mem kv3)) (show 57 ≠ 32 by decide)
 refine bodyPost_ret (res_R rfl _ _ (w.heap.size+1) _ rfl F4.l0.blk) rfl ?_
 exact F4.fin F4.k0
set_option maxRecDepth 100000 in
set_option maxHeartbeats 4000000 in
theorem perf_inv_array (HH:HandIs X C) (HD:DoIs X D) (HX:DelIs X Xf) (hlz:lim X≤1000000000) (h:WIs X (c+4) M w A) (o:Int) {x:Ob} (hat:at? A o=some x) {xb:Nat} (hx:Blk w xb (xcs o x.th) (blT x.th.kind)) (hxo:xb ∉ M.bl X.wb) (a:Aq) (al:Value) (hk:Fine a.k) (hl:VsOut (M.bl X.wb) w al a.l) (hlen:a.l.length+100000≤lim X) (m:Int) (hk2:x.th.kind=1) (hi:(m == 12 || m == 13)=true) (hm6:m ≠ 6) :
  Calls Tryz.prog 103 #[ptr X.wb,.int .i64 m,.iface (ifT x.th.kind) (ptr xb),.agg (acs a al)] w (Post X c M w (invF C D m o x.th a A)):=by
 obtain ⟨w1,hw1⟩:∃ w1,(w.alloc (.cells (acs a al) 52)).alloc (.cells (rcs zeroR) 57)=w1:=⟨_,rfl⟩
 have F0:Fm X (c+4) M w M w1 A [⟨w.heap.size+1,rcs zeroR,57⟩,⟨w.heap.size,acs a al,52⟩] [] [⟨xb,xcs o x.th,blT x.th.kind⟩]:=by
  rw [← hw1];exact (((Fm.start h).with hx hxo).new _ _).newg _ _ _ (by simp)
 have la:=run_ldAq F0.l1.blk
 have hlw:=hl.nx F0.nx
 have d6:(m == 6)=false:=by simp [hm6]
 have hcall:=inv_any HH HD F0.wis o hat F0.r0 F0.r0o (by omega) a al hk hlw hlen hlz m
 have hisi:=isInv_any m w1
 rw [hi] at hisi
 rw [show ifT x.th.kind=171 from ifT_1 hk2] at hcall
 rw [show ifT x.th.kind=171 from ifT_1 hk2]
 have tap:=ta_array_proxy
 have taa:=ta_array_array
 have HF:=Lib.hid F0
 have HM:=Lib.hid hm6
 clear F0 h hx hxo hk hl hat hlen HH HD HX hlw hlz hk2 hi hm6
 go_enter Tryz.func103,Tryz.ntmps103
 go_wp2_with (first |(go_at_call 137;(with_reducible refine hisi.mono ?_);rintro e w2 ⟨rfl,rfl⟩) |(go_at_call 138;(with_reducible refine hcall.mono ?_);rintro e w3 ⟨M3,kv3,rfl,hks,hM,hn⟩;have hg3:=Rr.good _ hks;have F3:=HF.out.next (k2:=[(kv3,(invF C D m o x.th a A).1.ks)]) hM hn (fun k hk=>by rw [List.mem_singleton.1 hk];exact hks);have s3:=run_stRp F3.l0.blk hg3;have HF3:=Lib.hid F3;clear hks hM hn F3))
 have F4:=HF3.out.put (l:=[]) (rcs ((invF C D m o x.th a A).1.mem kv3)) (show 57 ≠ 32 by decide)
 refine bodyPost_ret (res_R rfl _ _ (w.heap.size+1) _ rfl F4.l0.blk) rfl ?_
 exact F4.fin F4.k0
set_option maxRecDepth 100000 in
set_option maxHeartbeats 4000000 in
theorem perf_ordi_array (HH:HandIs X C) (HD:DoIs X D) (HX:DelIs X Xf) (hlz:lim X≤1000000000) (h:WIs X (c+4) M w A) (o:Int) {x:Ob} (hat:at? A o=some x) {xb:Nat} (hx:Blk w xb (xcs o x.th) (blT x.th.kind)) (hxo:xb ∉ M.bl X.wb) (a:Aq) (al:Value) (hk:Fine a.k) (hl:VsOut (M.bl X.wb) w al a.l) (hlen:a.l.length+100000≤lim X) (m:Int) (hk2:x.th.kind=1) (hi:(m == 12 || m == 13)=false) (hm6:m ≠ 6) :
  Calls Tryz.prog 103 #[ptr X.wb,.int .i64 m,.iface (ifT x.th.kind) (ptr xb),.agg (acs a al)] w (Post X c M w (ordiF D m o x.th a A)):=by
 obtain ⟨w1,hw1⟩:∃ w1,(w.alloc (.cells (acs a al) 52)).alloc (.cells (rcs zeroR) 57)=w1:=⟨_,rfl⟩
 have F0:Fm X (c+4) M w M w1 A [⟨w.heap.size+1,rcs zeroR,57⟩,⟨w.heap.size,acs a al,52⟩] [] [⟨xb,xcs o x.th,blT x.th.kind⟩]:=by
  rw [← hw1];exact (((Fm.start h).with hx hxo).new _ _).newg _ _ _ (by simp)
 have la:=run_ldAq F0.l1.blk
 have hlw:=hl.nx F0.nx
 have d6:(m == 6)=false:=by simp [hm6]
 have F1:=F0.less (c':=c+2) (by omega)
 have FD:=F1.drew
 have lad:=run_ldAq FD.l1.blk
 have hcall:=ordi_any HD FD.wis o FD.r0 FD.r0o hat a al hk m
 have hisi:=isInv_any m w1
 rw [hi] at hisi
 have me:=me_array_self
 rw [show ifT x.th.kind=171 from ifT_1 hk2]
 have tap:=ta_array_proxy
 have taa:=ta_array_array
 have HF:=Lib.hid FD
 have HM:=Lib.hid hm6
 clear F0 h hx hxo hk hl hat hlen HH HD HX hlw hlz hk2 hi F1 FD hm6
 go_enter Tryz.func103,Tryz.ntmps103
 go_upto_region 11 with (go_at_call 137;(with_reducible refine hisi.mono ?_);rintro e w2 ⟨rfl,rfl⟩)
 go_region_with (first |(go_at_call 163;(with_reducible refine (self_any xb _).mono ?_);rintro e w9 ⟨rfl,rfl⟩) |(go_at_call 139;(with_reducible refine hcall.mono ?_);rintro e w3 ⟨M3,kv3,rfl,hks,hM,hn⟩;have hg3:=Rr.good _ hks;have F3:=HF.out.next (k2:=[(kv3,(ordiF D m o x.th a A).1.ks)]) hM hn (fun k hk=>by rw [List.mem_singleton.1 hk];exact hks);have s3:=run_stRp F3.l0.blk hg3;have HF3:=Lib.hid F3;clear hks hM hn F3))
 all_goals
  go_wp2
  have F4:=HF3.out.put (l:=[]) (rcs ((ordiF D m o x.th a A).1.mem kv3)) (show 57 ≠ 32 by decide)
  refine bodyPost_ret (res_R rfl _ _ (w.heap.size+1) _ rfl F4.l0.blk) rfl ?_
  exact F4.fin F4.k0
set_option maxRecDepth 100000 in
set_option maxHeartbeats 4000000 in
theorem perf_inv_function (HH:HandIs X C) (HD:DoIs X D) (HX:DelIs X Xf) (hlz:lim X≤1000000000) (h:WIs X (c+4) M w A) (o:Int) {x:Ob} (hat:at? A o=some x) {xb:Nat} (hx:Blk w xb (xcs o x.th) (blT x.th.kind)) (hxo:xb ∉ M.bl X.wb) (a:Aq) (al:Value) (hk:Fine a.k) (hl:VsOut (M.bl X.wb) w al a.l) (hlen:a.l.length+100000≤lim X) (m:Int) (hk2:x.th.kind=2) (hi:(m == 12 || m == 13)=true) :
  Calls Tryz.prog 103 #[ptr X.wb,.int .i64 m,.iface (ifT x.th.kind) (ptr xb),.agg (acs a al)] w (Post X c M w (invF C D m o x.th a A)):=by
 obtain ⟨w1,hw1⟩:∃ w1,(w.alloc (.cells (acs a al) 52)).alloc (.cells (rcs zeroR) 57)=w1:=⟨_,rfl⟩
 have F0:Fm X (c+4) M w M w1 A [⟨w.heap.size+1,rcs zeroR,57⟩,⟨w.heap.size,acs a al,52⟩] [] [⟨xb,xcs o x.th,blT x.th.kind⟩]:=by
  rw [← hw1];exact (((Fm.start h).with hx hxo).new _ _).newg _ _ _ (by simp)
 have la:=run_ldAq F0.l1.blk
 have hlw:=hl.nx F0.nx
 have hcall:=inv_any HH HD F0.wis o hat F0.r0 F0.r0o (by omega) a al hk hlw hlen hlz m
 have hisi:=isInv_any m w1
 rw [hi] at hisi
 rw [show ifT x.th.kind=174 from ifT_2 hk2] at hcall
 rw [show ifT x.th.kind=174 from ifT_2 hk2]
 have tap:=ta_function_proxy
 have taa:=ta_function_array
 have HF:=Lib.hid F0
 clear F0 h hx hxo hk hl hat hlen HH HD HX hlw hlz hk2 hi
 go_enter Tryz.func103,Tryz.ntmps103
 go_wp2_with (first |(go_at_call 137;(with_reducible refine hisi.mono ?_);rintro e w2 ⟨rfl,rfl⟩) |(go_at_call 138;(with_reducible refine hcall.mono ?_);rintro e w3 ⟨M3,kv3,rfl,hks,hM,hn⟩;have hg3:=Rr.good _ hks;have F3:=HF.out.next (k2:=[(kv3,(invF C D m o x.th a A).1.ks)]) hM hn (fun k hk=>by rw [List.mem_singleton.1 hk];exact hks);have s3:=run_stRp F3.l0.blk hg3;have HF3:=Lib.hid F3;clear hks hM hn F3))
 have F4:=HF3.out.put (l:=[]) (rcs ((invF C D m o x.th a A).1.mem kv3)) (show 57 ≠ 32 by decide)
 refine bodyPost_ret (res_R rfl _ _ (w.heap.size+1) _ rfl F4.l0.blk) rfl ?_
 exact F4.fin F4.k0
set_option maxRecDepth 100000 in
set_option maxHeartbeats 4000000 in
theorem perf_ordi_function (HH:HandIs X C) (HD:DoIs X D) (HX:DelIs X Xf) (hlz:lim X≤1000000000) (h:WIs X (c+4) M w A) (o:Int) {x:Ob} (hat:at? A o=some x) {xb:Nat} (hx:Blk w xb (xcs o x.th) (blT x.th.kind)) (hxo:xb ∉ M.bl X.wb) (a:Aq) (al:Value) (hk:Fine a.k) (hl:VsOut (M.bl X.wb) w al a.l) (hlen:a.l.length+100000≤lim X) (m:Int) (hk2:x.th.kind=2) (hi:(m == 12 || m == 13)=false) :
  Calls Tryz.prog 103 #[ptr X.wb,.int .i64 m,.iface (ifT x.th.kind) (ptr xb),.agg (acs a al)] w (Post X c M w (ordiF D m o x.th a A)):=by
 obtain ⟨w1,hw1⟩:∃ w1,(w.alloc (.cells (acs a al) 52)).alloc (.cells (rcs zeroR) 57)=w1:=⟨_,rfl⟩
 have F0:Fm X (c+4) M w M w1 A [⟨w.heap.size+1,rcs zeroR,57⟩,⟨w.heap.size,acs a al,52⟩] [] [⟨xb,xcs o x.th,blT x.th.kind⟩]:=by
  rw [← hw1];exact (((Fm.start h).with hx hxo).new _ _).newg _ _ _ (by simp)
 have la:=run_ldAq F0.l1.blk
 have hlw:=hl.nx F0.nx
 have F1:=F0.less (c':=c+2) (by omega)
 have FD:=F1.drew
 have lad:=run_ldAq FD.l1.blk
 have hcall:=ordi_any HD FD.wis o FD.r0 FD.r0o hat a al hk m
 have hisi:=isInv_any m w1
 rw [hi] at hisi
 have me:=me_function_self
 rw [show ifT x.th.kind=174 from ifT_2 hk2]
 have tap:=ta_function_proxy
 have taa:=ta_function_array
 have HF:=Lib.hid FD
 clear F0 h hx hxo hk hl hat hlen HH HD HX hlw hlz hk2 hi F1 FD
 go_enter Tryz.func103,Tryz.ntmps103
 go_upto_region 11 with (go_at_call 137;(with_reducible refine hisi.mono ?_);rintro e w2 ⟨rfl,rfl⟩)
 go_region_with (first |(go_at_call 163;(with_reducible refine (self_any xb _).mono ?_);rintro e w9 ⟨rfl,rfl⟩) |(go_at_call 139;(with_reducible refine hcall.mono ?_);rintro e w3 ⟨M3,kv3,rfl,hks,hM,hn⟩;have hg3:=Rr.good _ hks;have F3:=HF.out.next (k2:=[(kv3,(ordiF D m o x.th a A).1.ks)]) hM hn (fun k hk=>by rw [List.mem_singleton.1 hk];exact hks);have s3:=run_stRp F3.l0.blk hg3;have HF3:=Lib.hid F3;clear hks hM hn F3))
 all_goals
  go_wp2
  have F4:=HF3.out.put (l:=[]) (rcs ((ordiF D m o x.th a A).1.mem kv3)) (show 57 ≠ 32 by decide)
  refine bodyPost_ret (res_R rfl _ _ (w.heap.size+1) _ rfl F4.l0.blk) rfl ?_
  exact F4.fin F4.k0
set_option maxRecDepth 100000 in
set_option maxHeartbeats 4000000 in
theorem perf_inv_bound (HH:HandIs X C) (HD:DoIs X D) (HX:DelIs X Xf) (hlz:lim X≤1000000000) (h:WIs X (c+4) M w A) (o:Int) {x:Ob} (hat:at? A o=some x) {xb:Nat} (hx:Blk w xb (xcs o x.th) (blT x.th.kind)) (hxo:xb ∉ M.bl X.wb) (a:Aq) (al:Value) (hk:Fine a.k) (hl:VsOut (M.bl X.wb) w al a.l) (hlen:a.l.length+100000≤lim X) (m:Int) (hk2:x.th.kind=3) (hi:(m == 12 || m == 13)=true) :
  Calls Tryz.prog 103 #[ptr X.wb,.int .i64 m,.iface (ifT x.th.kind) (ptr xb),.agg (acs a al)] w (Post X c M w (invF C D m o x.th a A)):=by
 obtain ⟨w1,hw1⟩:∃ w1,(w.alloc (.cells (acs a al) 52)).alloc (.cells (rcs zeroR) 57)=w1:=⟨_,rfl⟩
 have F0:Fm X (c+4) M w M w1 A [⟨w.heap.size+1,rcs zeroR,57⟩,⟨w.heap.size,acs a al,52⟩] [] [⟨xb,xcs o x.th,blT x.th.kind⟩]:=by
  rw [← hw1];exact (((Fm.start h).with hx hxo).new _ _).newg _ _ _ (by simp)
 have la:=run_ldAq F0.l1.blk
 have hlw:=hl.nx F0.nx
 have hcall:=inv_any HH HD F0.wis o hat F0.r0 F0.r0o (by omega) a al hk hlw hlen hlz m
 have hisi:=isInv_any m w1
 rw [hi] at hisi
 rw [show ifT x.th.kind=176 from ifT_3 hk2] at hcall
 rw [show ifT x.th.kind=176 from ifT_3 hk2]
 have tap:=ta_bound_proxy
 have taa:=ta_bound_array
 have HF:=Lib.hid F0
 clear F0 h hx hxo hk hl hat hlen HH HD HX hlw hlz hk2 hi
 go_enter Tryz.func103,Tryz.ntmps103
 go_wp2_with (first |(go_at_call 137;(with_reducible refine hisi.mono ?_);rintro e w2 ⟨rfl,rfl⟩) |(go_at_call 138;(with_reducible refine hcall.mono ?_);rintro e w3 ⟨M3,kv3,rfl,hks,hM,hn⟩;have hg3:=Rr.good _ hks;have F3:=HF.out.next (k2:=[(kv3,(invF C D m o x.th a A).1.ks)]) hM hn (fun k hk=>by rw [List.mem_singleton.1 hk];exact hks);have s3:=run_stRp F3.l0.blk hg3;have HF3:=Lib.hid F3;clear hks hM hn F3))
 have F4:=HF3.out.put (l:=[]) (rcs ((invF C D m o x.th a A).1.mem kv3)) (show 57 ≠ 32 by decide)
 refine bodyPost_ret (res_R rfl _ _ (w.heap.size+1) _ rfl F4.l0.blk) rfl ?_
 exact F4.fin F4.k0
set_option maxRecDepth 100000 in
set_option maxHeartbeats 4000000 in
theorem perf_ordi_bound (HH:HandIs X C) (HD:DoIs X D) (HX:DelIs X Xf) (hlz:lim X≤1000000000) (h:WIs X (c+4) M w A) (o:Int) {x:Ob} (hat:at? A o=some x) {xb:Nat} (hx:Blk w xb (xcs o x.th) (blT x.th.kind)) (hxo:xb ∉ M.bl X.wb) (a:Aq) (al:Value) (hk:Fine a.k) (hl:VsOut (M.bl X.wb) w al a.l) (hlen:a.l.length+100000≤lim X) (m:Int) (hk2:x.th.kind=3) (hi:(m == 12 || m == 13)=false) :
  Calls Tryz.prog 103 #[ptr X.wb,.int .i64 m,.iface (ifT x.th.kind) (ptr xb),.agg (acs a al)] w (Post X c M w (ordiF D m o x.th a A)):=by
 obtain ⟨w1,hw1⟩:∃ w1,(w.alloc (.cells (acs a al) 52)).alloc (.cells (rcs zeroR) 57)=w1:=⟨_,rfl⟩
 have F0:Fm X (c+4) M w M w1 A [⟨w.heap.size+1,rcs zeroR,57⟩,⟨w.heap.size,acs a al,52⟩] [] [⟨xb,xcs o x.th,blT x.th.kind⟩]:=by
  rw [← hw1];exact (((Fm.start h).with hx hxo).new _ _).newg _ _ _ (by simp)
 have la:=run_ldAq F0.l1.blk
 have hlw:=hl.nx F0.nx
 have F1:=F0.less (c':=c+2) (by omega)
 have FD:=F1.drew
 have lad:=run_ldAq FD.l1.blk
 have hcall:=ordi_any HD FD.wis o FD.r0 FD.r0o hat a al hk m
 have hisi:=isInv_any m w1
 rw [hi] at hisi
 have me:=me_bound_self
 rw [show ifT x.th.kind=176 from ifT_3 hk2]
 have tap:=ta_bound_proxy
 have taa:=ta_bound_array
 have HF:=Lib.hid FD
 clear F0 h hx hxo hk hl hat hlen HH HD HX hlw hlz hk2 hi F1 FD
 go_enter Tryz.func103,Tryz.ntmps103
 go_upto_region 11 with (go_at_call 137;(with_reducible refine hisi.mono ?_);rintro e w2 ⟨rfl,rfl⟩)
 go_region_with (first |(go_at_call 163;(with_reducible refine (self_any xb _).mono ?_);rintro e w9 ⟨rfl,rfl⟩) |(go_at_call 139;(with_reducible refine hcall.mono ?_);rintro e w3 ⟨M3,kv3,rfl,hks,hM,hn⟩;have hg3:=Rr.good _ hks;have F3:=HF.out.next (k2:=[(kv3,(ordiF D m o x.th a A).1.ks)]) hM hn (fun k hk=>by rw [List.mem_singleton.1 hk];exact hks);have s3:=run_stRp F3.l0.blk hg3;have HF3:=Lib.hid F3;clear hks hM hn F3))
 all_goals
  go_wp2
  have F4:=HF3.out.put (l:=[]) (rcs ((ordiF D m o x.th a A).1.mem kv3)) (show 57 ≠ 32 by decide)
  refine bodyPost_ret (res_R rfl _ _ (w.heap.size+1) _ rfl F4.l0.blk) rfl ?_
  exact F4.fin F4.k0
set_option maxRecDepth 100000 in
set_option maxHeartbeats 4000000 in
theorem perf_inv_ordinary (HH:HandIs X C) (HD:DoIs X D) (HX:DelIs X Xf) (hlz:lim X≤1000000000) (h:WIs X (c+4) M w A) (o:Int) {x:Ob} (hat:at? A o=some x) {xb:Nat} (hx:Blk w xb (xcs o x.th) (blT x.th.kind)) (hxo:xb ∉ M.bl X.wb) (a:Aq) (al:Value) (hk:Fine a.k) (hl:VsOut (M.bl X.wb) w al a.l) (hlen:a.l.length+100000≤lim X) (m:Int) (hk2:x.th.kind ≠ 1∧x.th.kind ≠ 2∧x.th.kind ≠ 3∧x.th.kind ≠ 4) (hi:(m == 12 || m == 13)=true) :
  Calls Tryz.prog 103 #[ptr X.wb,.int .i64 m,.iface (ifT x.th.kind) (ptr xb),.agg (acs a al)] w (Post X c M w (invF C D m o x.th a A)):=by
 obtain ⟨w1,hw1⟩:∃ w1,(w.alloc (.cells (acs a al) 52)).alloc (.cells (rcs zeroR) 57)=w1:=⟨_,rfl⟩
 have F0:Fm X (c+4) M w M w1 A [⟨w.heap.size+1,rcs zeroR,57⟩,⟨w.heap.size,acs a al,52⟩] [] [⟨xb,xcs o x.th,blT x.th.kind⟩]:=by
  rw [← hw1];exact (((Fm.start h).with hx hxo).new _ _).newg _ _ _ (by simp)
 have la:=run_ldAq F0.l1.blk
 have hlw:=hl.nx F0.nx
 have hcall:=inv_any HH HD F0.wis o hat F0.r0 F0.r0o (by omega) a al hk hlw hlen hlz m
 have hisi:=isInv_any m w1
 rw [hi] at hisi
 rw [show ifT x.th.kind=180 from ifT_0 hk2.1 hk2.2.1 hk2.2.2.1 hk2.2.2.2] at hcall
 rw [show ifT x.th.kind=180 from ifT_0 hk2.1 hk2.2.1 hk2.2.2.1 hk2.2.2.2]
 have tap:=ta_ordinary_proxy
 have taa:=ta_ordinary_array
 have HF:=Lib.hid F0
 clear F0 h hx hxo hk hl hat hlen HH HD HX hlw hlz hk2 hi
 go_enter Tryz.func103,Tryz.ntmps103
 go_wp2_with (first |(go_at_call 137;(with_reducible refine hisi.mono ?_);rintro e w2 ⟨rfl,rfl⟩) |(go_at_call 138;(with_reducible refine hcall.mono ?_);rintro e w3 ⟨M3,kv3,rfl,hks,hM,hn⟩;have hg3:=Rr.good _ hks;have F3:=HF.out.next (k2:=[(kv3,(invF C D m o x.th a A).1.ks)]) hM hn (fun k hk=>by rw [List.mem_singleton.1 hk];exact hks);have s3:=run_stRp F3.l0.blk hg3;have HF3:=Lib.hid F3;clear hks hM hn F3))
 have F4:=HF3.out.put (l:=[]) (rcs ((invF C D m o x.th a A).1.mem kv3)) (show 57 ≠ 32 by decide)
 refine bodyPost_ret (res_R rfl _ _ (w.heap.size+1) _ rfl F4.l0.blk) rfl ?_
 exact F4.fin F4.k0
set_option maxRecDepth 100000 in
set_option maxHeartbeats 4000000 in
theorem perf_ordi_ordinary (HH:HandIs X C) (HD:DoIs X D) (HX:DelIs X Xf) (hlz:lim X≤1000000000) (h:WIs X (c+4) M w A) (o:Int) {x:Ob} (hat:at? A o=some x) {xb:Nat} (hx:Blk w xb (xcs o x.th) (blT x.th.kind)) (hxo:xb ∉ M.bl X.wb) (a:Aq) (al:Value) (hk:Fine a.k) (hl:VsOut (M.bl X.wb) w al a.l) (hlen:a.l.length+100000≤lim X) (m:Int) (hk2:x.th.kind ≠ 1∧x.th.kind ≠ 2∧x.th.kind ≠ 3∧x.th.kind ≠ 4) (hi:(m == 12 || m == 13)=false) :
  Calls Tryz.prog 103 #[ptr X.wb,.int .i64 m,.iface (ifT x.th.kind) (ptr xb),.agg (acs a al)] w (Post X c M w (ordiF D m o x.th a A)):=by
 obtain ⟨w1,hw1⟩:∃ w1,(w.alloc (.cells (acs a al) 52)).alloc (.cells (rcs zeroR) 57)=w1:=⟨_,rfl⟩
 have F0:Fm X (c+4) M w M w1 A [⟨w.heap.size+1,rcs zeroR,57⟩,⟨w.heap.size,acs a al,52⟩] [] [⟨xb,xcs o x.th,blT x.th.kind⟩]:=by
  rw [← hw1];exact (((Fm.start h).with hx hxo).new _ _).newg _ _ _ (by simp)
 have la:=run_ldAq F0.l1.blk
 have hlw:=hl.nx F0.nx
 have F1:=F0.less (c':=c+2) (by omega)
 have FD:=F1.drew
 have lad:=run_ldAq FD.l1.blk
 have hcall:=ordi_any HD FD.wis o FD.r0 FD.r0o hat a al hk m
 have hisi:=isInv_any m w1
 rw [hi] at hisi
 have me:=me_ordinary_self
 rw [show ifT x.th.kind=180 from ifT_0 hk2.1 hk2.2.1 hk2.2.2.1 hk2.2.2.2]
 have tap:=ta_ordinary_proxy
 have taa:=ta_ordinary_array
 have HF:=Lib.hid FD
 clear F0 h hx hxo hk hl hat hlen HH HD HX hlw hlz hk2 hi F1 FD
 go_enter Tryz.func103,Tryz.ntmps103
 go_upto_region 11 with (go_at_call 137;(with_reducible refine hisi.mono ?_);rintro e w2 ⟨rfl,rfl⟩)
 go_region_with (first |(go_at_call 163;(with_reducible refine (self_any xb _).mono ?_);rintro e w9 ⟨rfl,rfl⟩) |(go_at_call 139;(with_reducible refine hcall.mono ?_);rintro e w3 ⟨M3,kv3,rfl,hks,hM,hn⟩;have hg3:=Rr.good _ hks;have F3:=HF.out.next (k2:=[(kv3,(ordiF D m o x.th a A).1.ks)]) hM hn (fun k hk=>by rw [List.mem_singleton.1 hk];exact hks);have s3:=run_stRp F3.l0.blk hg3;have HF3:=Lib.hid F3;clear hks hM hn F3))
 all_goals
  go_wp2
  have F4:=HF3.out.put (l:=[]) (rcs ((ordiF D m o x.th a A).1.mem kv3)) (show 57 ≠ 32 by decide)
  refine bodyPost_ret (res_R rfl _ _ (w.heap.size+1) _ rfl F4.l0.blk) rfl ?_
  exact F4.fin F4.k0
theorem perf_any (HH:HandIs X C) (HD:DoIs X D) (HX:DelIs X Xf) (hlz:lim X≤1000000000):PerfIs X (perfF Xf C D):=fun c M w A m o x a al xb h hat hx hxo hk hl hlen=>by
 unfold perfF
 by_cases h4:x.th.kind=4
 ·rw [if_pos h4];exact perf_proxy HH HD HX hlz h o hat hx hxo a al hk hl hlen m h4
 rw [if_neg h4]
 by_cases h1:x.th.kind=1
 ·by_cases hm:m=6
  ·rw [if_pos ⟨h1,hm⟩];exact perf_define HH HD HX hlz h o hat hx hxo a al hk hl hlen m h1 hm
  ·rw [if_neg (fun q=>hm q.2)]
   by_cases hi:m=12∨m=13
   ·rw [if_pos hi];exact perf_inv_array HH HD HX hlz h o hat hx hxo a al hk hl hlen m h1 (by rcases hi with rfl |rfl <;> rfl) hm
   ·rw [if_neg hi];exact perf_ordi_array HH HD HX hlz h o hat hx hxo a al hk hl hlen m h1 (by simpa using hi) hm
 rw [if_neg (fun q=>h1 q.1)]
 by_cases hi:m=12∨m=13
 ·have hi':(m == 12 || m == 13)=true:=by rcases hi with rfl |rfl <;> rfl
  rw [if_pos hi]
  by_cases h2:x.th.kind=2
  ·exact perf_inv_function HH HD HX hlz h o hat hx hxo a al hk hl hlen m h2 hi'
  by_cases h3:x.th.kind=3
  ·exact perf_inv_bound HH HD HX hlz h o hat hx hxo a al hk hl hlen m h3 hi'
  exact perf_inv_ordinary HH HD HX hlz h o hat hx hxo a al hk hl hlen m ⟨h1,h2,h3,h4⟩ hi'
 ·have hi':(m == 12 || m == 13)=false:=by simpa using hi
  rw [if_neg hi]
  by_cases h2:x.th.kind=2
  ·exact perf_ordi_function HH HD HX hlz h o hat hx hxo a al hk hl hlen m h2 hi'
  by_cases h3:x.th.kind=3
  ·exact perf_ordi_bound HH HD HX hlz h o hat hx hxo a al hk hl hlen m h3 hi'
  exact perf_ordi_ordinary HH HD HX hlz h o hat hx hxo a al hk hl hlen m ⟨h1,h2,h3,h4⟩ hi'
end
end Go.Proofs.YtkadkmnolkkhgaaGreatDoor.Mw

/-
 Do, where a method is performed.
-/
namespace Go.Proofs.YtkadkmnolkkhgaaGreatDoor.Mw
open Go Go.RowKit Go.Maps Go.Shelf Keys Hp Mo
open Des (Vl Ds zeroV zeroD dcs dcs_size dcs_one accF rigF appF eqV)
open Arrs (En ecs)
section
variable {X:Cx} {c:Nat} {M M' M'':Wm} {w w' w'':World} {A A' A'':Aw} {ls:List Lc} {kl:List (Value × List KV)} {ro:List Lc} {D:DoT}
theorem blT_ne (k:Int):blT k ≠ 30:=by
 unfold blT
 split
 ·decide
 ·split
  ·decide
  ·split
   ·decide
   ·split <;> decide
attribute [local go_sem ↓] ldR stR alR bxR bdR ldV stV alV bxV bdV ldA stA bxA bdA bdSn
attribute [local irreducible] rcs dcs ecs vcs acs kcs xcs tcs scs
attribute [local go_sem] run_bx run_alR run_stRg run_bdRf run_bdSn
set_option maxRecDepth 100000 in
set_option maxHeartbeats 4000000 in
theorem do_ok {P:Int→Int→Th→Aq→Aw→Rr × Aw} (HP:PerfIs (X.at_ (X.dp+1)) P) (h:WIs X (c+1) M w A) (m o:Int) (a:Aq) (al:Value) (hk:Fine a.k) (hl:VsOut (M.bl X.wb) w al a.l) (hlen:a.l.length≤lim X) {x:Ob} (hx:at? A o=some x) (hm:isMethF m=true) (hf0:A.fuel ≠ 0) (hd:¬ A.depth ≥ A.deep) (B1:Rr) (B2:Aw) (hP:P m o x.th a (deepA { A with fuel:=A.fuel - 1 })=(B1,B2)) :
  Calls Tryz.prog 19 #[ptr X.wb,.int .i64 m,.int .i64 o,.agg (acs a al)] w (Post X c M w (if abr B1 then (B1,backA B2) else (B1,{ backA B2 with log:=B2.log++[⟨m,o,A.log.length,a,B1⟩] }))):=by
 obtain ⟨ala,alc,rfl,-⟩:=id hl
 obtain ⟨w1,hw1⟩:∃ w1,(w.alloc (.cells (acs a (.slice ala a.l.length alc)) 52)).alloc (.cells (rcs zeroR) 57)=w1:=⟨_,rfl⟩
 have F0:Fm X (c+1) M w M w1 A [⟨w.heap.size+1,rcs zeroR,57⟩,⟨w.heap.size,acs a (.slice ala a.l.length alc),52⟩] [] []:=by
  rw [← hw1];exact ((Fm.start h).new _ _).newg _ _ _ (by simp)
 have ho:=object_any F0.wis hx
 obtain ⟨im,him⟩:∃ im,(decide (1≤m) && decide (m≤13))=im:=⟨_,rfl⟩
 have HIM:Hid (∀ w,Calls Tryz.prog 49 #[.int .i64 m] w fun e w'=>e = .returned (.bool im)∧w'=w):=Lib.hid fun w=>him ▸ isM_any m w
 have neI:=ne_nilI (ifT x.th.kind)
 rw [show (decide (1≤m) && decide (m≤13))=true from hm] at him
 subst him
 have HF0:=Lib.hid F0
 have dd:decide (A.deep≤A.depth)=false:=by simpa using hd
 obtain ⟨la0,lc0,hls⟩:=Hp.own_shape h.lrow
 obtain ⟨RR,hRR⟩:∃ RR,RR=(if abr B1 then (B1,backA B2) else (B1,{ backA B2 with log:=B2.log++[⟨m,o,A.log.length,a,B1⟩] })):=⟨_,rfl⟩
 rw [← hRR]
 have HRR:=Lib.hid hRR
 have HL:=Lib.hid hl
 have hlim:a.l.length≤1000000000:=by
  have:=h.deep;have:=h.dep1;have:=h.dpe
  unfold lim at hlen
  omega
 have HX:=Lib.hid (show _∧_∧_∧_∧_ from ⟨HP,hx,hk,hlen,hP⟩)
 have HDD:=Lib.hid (show A.depth < A.deep by omega)
 have HLIM:=Lib.hid hlim
 clear F0 h hk hl hlen hx hm hRR hd hlim hP HP
 go_enter Tryz.func19,Tryz.ntmps19
 go_upto_region 7 with (first |(go_at_call 48;(with_reducible refine ho.mono ?_);rintro e w2 ⟨b2,rfl,hlo,hB,hb⟩;have F2:=HF0.out.growW hb hB hlo;have hs:=step_yes F2.wis hf0;have HF2:=Lib.hid F2;clear hb F2 hlo hB) |(go_at_call 49;(with_reducible refine (HIM.out _).mono ?_);rintro e w9 ⟨rfl,rfl⟩) |(go_at_call 51;(with_reducible refine hs.mono ?_);rintro e w3 ⟨rfl,hM3,hn3⟩;have hg3:(zeroRr.mem nilS).good:=⟨_,_,_,rfl⟩;have F3:=(HF2.out.next (k2:=[]) hM3 hn3 (fun k hk=>by cases hk)).new (rcs (zeroRr.mem nilS)) 57;have lr:=run_ldRp F3.l0.blk;have HF3:=Lib.hid F3;clear hM3 hn3 F3) |(go_at_call 52;(with_reducible refine (abr_at (r:=zeroRr) (b:=false) rfl nilS _).mono ?_);rintro e w4 ⟨rfl,hb⟩;have F4:=HF3.out.call hb;have c3:=F4.wis.w3;have c4:=F4.wis.w4;have HF4:=Lib.hid F4;clear hb F4))
 go_cut [38] from 30 to 38 (fun s wx=>s = .bool false∧Fm X (c+1+8) M w M wx { A with fuel:=A.fuel - 1 } [⟨w3.heap.size,rcs (zeroRr.mem nilS),57⟩,⟨b2,xcs o x.th,blT x.th.kind⟩,⟨w.heap.size+1,rcs zeroR,57⟩,⟨w.heap.size,acs a (.slice ala a.l.length alc),52⟩] [] [])
 case first =>
  go_region
  all_goals (go_wp2_with fail;go_meet)
  all_goals exact ⟨rfl,HF4.out.drew⟩
 case rest =>
 obtain ⟨rfl,F6⟩:=hcut
 have c26:=ask_l F6.l3.blk
 have f26:=F6.l3.blk.frozen 26
 have hcl:=cloneV (M.bl X.wb) ala alc a.l (HL.out.nx F6.nx) HLIM.out
 have HF6:=Lib.hid F6
 clear F6 c3 c4 HF0 HF2 HF3 HF4
 have HQ:Hid (∀ w7 va vc,w7.ownsRow wc.heap.size 30 3 (.slice va a.l.length vc) a.l.length (cellsV a.l)→Below wc.heap.size wc w7 →
   w7.cell? ⟨w.heap.size,26,none⟩=some (.slice ala a.l.length alc)∧w7.frozen? ⟨w.heap.size,26,none⟩=false∧∃ w8,w7.setCell ⟨w.heap.size,26,none⟩ (.slice va a.l.length vc)=w8∧w8.cell? ⟨X.wb,6,none⟩=some (.slice la0 A.log.length lc0)∧w8.ownsRow w.heap.size 30 3 (.slice va a.l.length vc) a.l.length (cellsV a.l) ∧
   Fm X (c+1+8) M w M w8 { A with fuel:=A.fuel - 1 } [⟨w3.heap.size,rcs (zeroRr.mem nilS),57⟩,⟨b2,xcs o x.th,blT x.th.kind⟩,⟨w.heap.size+1,rcs zeroR,57⟩,⟨w.heap.size,acs a (.slice va a.l.length vc),52⟩] [] []∧VsOut (M.bl X.wb) w8 (.slice va a.l.length vc) a.l∧(∀ b ∈ obl (.slice va a.l.length vc),b ∉ M.bl X.wb∧b < w8.heap.size∧w.heap.size≤b)):=Lib.hid fun w7 va vc hown hb=>by
  have F7:=HF6.out.call hb
  have hB:=F7.l3.blk
  have hrw:=row_cell (w:=w7) hB (.slice va a.l.length vc) (acs_set26 a _ _)
  have F8:=F7.put (l:=[⟨w3.heap.size,rcs (zeroRr.mem nilS),57⟩,⟨b2,xcs o x.th,blT x.th.kind⟩,⟨w.heap.size+1,rcs zeroR,57⟩]) (acs a (.slice va a.l.length vc)) (show 52 ≠ 32 by decide)
  have hsz:=HF6.out.nx.size
  have hown8:=own_row (ds:=acs a (.slice va a.l.length vc)) hown hB (show 52 ≠ 30 by decide)
  have hlow:∀ b ∈ obl (.slice va a.l.length vc),wc.heap.size≤b:=own_low hown
  have hnew:∀ b ∈ obl (.slice va a.l.length vc),b ∉ M.bl X.wb:=fun b hb=>HF6.out.wis.new (hlow b hb)
  refine ⟨ask_l hB,hB.frozen 26,_,hrw,?_,hown8.mono hsz,F8,vs_own hown8 fun b hb=>HF6.out.wis.new hb,fun b hb=>⟨hnew b hb,?_,Nat.le_trans hsz (hlow b hb)⟩⟩
  ·rw [← hls];exact F8.wis.w6
  ·rw [size_setRow]
   obtain ⟨cs,hc⟩:=own_typ hown hb
   exact hc.lt
 go_upto_region 11 with (go_at_call 53;(with_reducible refine hcl.mono ?_);rintro e w7 ⟨va,vc,rfl,hown,hb⟩;obtain ⟨q1,q2,w8,q3,q4,q6,F8,q7,q8⟩:=HQ.out w7 va vc hown hb;have HQ8:=Lib.hid (show _∧_∧_ from ⟨q6,q7,q8⟩);have la8:=run_ldAq F8.l3.blk;have HF8:=Lib.hid F8;clear hown hb F8 q6 q7 q8 HQ)
 have hdp8:=deeper_any (c:=c+5) HX.out.1 HF8.out.wis HDD.out m o (x:=x) HX.out.2.1 HF8.out.l1.blk HF8.out.l1.out a _ HX.out.2.2.1 HQ8.out.2.1 HX.out.2.2.2.1
 rw [HX.out.2.2.2.2] at hdp8
 go_upto_region 12 with (go_at_call 54;(with_reducible refine hdp8.mono ?_);rintro e w9 ⟨M9,kv9,rfl,hks,hM,hn⟩;have hg9:=Rr.good _ hks;have F9:=(HF8.out.next (k2:=[(kv9,B1.ks)]) hM hn (fun k hk=>by rw [List.mem_singleton.1 hk];exact hks)).new (rcs (B1.mem kv9)) 57;have lr9:=run_ldRp F9.l0.blk;have HN9:=Lib.hid hn;have HF9:=Lib.hid F9;clear hks hM hn F9)
 have HSB:Hid (∀ w9 w10:World,Below (w9.alloc (.cells (rcs (B1.mem kv9)) 57)).heap.size (w9.alloc (.cells (rcs (B1.mem kv9)) 57)) w10→∀ b,b < w9.heap.size→w10.heap[b]? = w9.heap[b]?):=Lib.hid fun w9 w10 hb b hlt=>(hb.block b (by simp;omega)).trans (((Below.refl w9.heap.size w9).alloc (Nat.le_refl _) _).block b hlt)
 have HSZ:Hid (∀ w9 w10:World,Below (w9.alloc (.cells (rcs (B1.mem kv9)) 57)).heap.size (w9.alloc (.cells (rcs (B1.mem kv9)) 57)) w10→w9.heap.size≤w10.heap.size):=Lib.hid fun w9 w10 hb=>Nat.le_trans (by simp) hb.size
 have HTY:Hid (∀ w10:World,(∀ b ∈ obl (.slice va a.l.length vc),w10.heap[b]? = w8.heap[b]?)→∀ b ∈ obl (.slice va a.l.length vc),∃ cs,Blk w10 b cs 30):=Lib.hid fun w10 hs b hb=>by
  obtain ⟨cs,hc⟩:=own_typ HQ8.out.1 hb
  exact ⟨cs,(hs b hb).trans hc⟩
 cases hab:abr B1
 ·have HAB:=Lib.hid hab
  have key:RR=(B1,{ backA B2 with log:=B2.log++[⟨m,o,A.log.length,a,B1⟩] }):=by rw [HRR.out,hab];rfl
  have hcr:cr B1 (c+5)=c+5+1:=by unfold cr;rw [hab];rfl
  have KEY:=Lib.hid key
  clear hab key HRR
  have F9:=HF9.out
  rw [hcr] at F9
  obtain ⟨ka,kc,hkv,-⟩:=id F9.k0
  simp only at hkv
  subst hkv
  have HF9b:=Lib.hid F9
  clear HF9 F9 hcr
  have HV8:Hid (VsIn (obl (.slice va a.l.length vc)) w8 (.slice va a.l.length vc) a.l):=Lib.hid (vs_in HQ8.out.1 fun b hb=>hb)
  go_upto_region 14 with (first |(go_at_call 52;(with_reducible refine (abr_at HAB.out (.slice ka B1.ks.length kc) _).mono ?_);rintro e w10 ⟨rfl,hb⟩;have F10:=HF9b.out.call hb;have la10:=run_ldAq F10.l4.blk;have lr10:=run_ldRp F10.l0.blk;have hvl:∀ b ∈ obl (.slice va a.l.length vc),b ∉ M9.bl X.wb∧b < w9.heap.size:=(fun b hb=>⟨HN9.out.out (HQ8.out.2.2 b hb).2.1 (HQ8.out.2.2 b hb).1,Nat.lt_of_lt_of_le (HQ8.out.2.2 b hb).2.1 HN9.out.size⟩);have hsm:∀ b ∈ obl (.slice va a.l.length vc),w10.heap[b]? = w8.heap[b]?:=(fun b hb2=>(HSB.out w9 w10 hb b (hvl b hb2).2).trans (HN9.out.kp.same b (HQ8.out.2.2 b hb2).2.1 (HQ8.out.2.2 b hb2).1));have hnt:=note_any (c:=c+5) F10.wis ⟨m,o,A.log.length,a,B1⟩ (.slice va a.l.length vc) (.slice ka B1.ks.length kc) F10.k0 (rn:=obl (.slice va a.l.length vc)) (HV8.out.same (fun b cs hb _=>hsm b hb) (fun _ h=>h)) (fun b hb2=>⟨(hvl b hb2).1,Nat.lt_of_lt_of_le (hvl b hb2).2 (HSZ.out w9 w10 hb),Nat.le_trans F10.h0 (HQ8.out.2.2 b hb2).2.2⟩);have HSM:=Lib.hid hsm;have HF10:=Lib.hid F10;clear hb F10 hvl hsm) |(go_at_call 55;(with_reducible refine hnt.mono ?_);rintro e w11 ⟨rfl,M11,hw11,hn11⟩;have F11:=HF10.out.noted hw11 hn11 (fun b hb=>(HQ8.out.2.2 b hb).2.2) (fun b hb=>HTY.out _ HSM.out b hb) (by intro y hy;simp only [List.mem_cons,List.not_mem_nil,or_false] at hy;rcases hy with rfl |rfl |rfl |rfl |rfl <;> first |exact (show 57 ≠ 30 by decide) |exact (show 52 ≠ 30 by decide) |exact blT_ne _);have lr11:=run_ldRp F11.l0.blk;have s11:=run_stRp F11.l3.blk hg9;have HF11:=Lib.hid F11;clear hw11 hn11 F11))
  go_wp2
  have F12:=HF11.out.put (l:=[⟨w9.heap.size,rcs (B1.mem (.slice ka B1.ks.length kc)),57⟩,⟨w3.heap.size,rcs (zeroRr.mem nilS),57⟩,⟨b2,xcs o x.th,blT x.th.kind⟩]) (rcs (B1.mem (.slice ka B1.ks.length kc))) (show 57 ≠ 32 by decide)
  refine bodyPost_ret (res_R rfl _ _ (w.heap.size+1) _ rfl F12.l3.blk) rfl ?_
  rw [KEY.out]
  exact (F12.less (c':=cr B1 c) (by unfold cr;split <;> omega)).fin (R:=(B1,{ backA B2 with log:=B2.log++[⟨m,o,A.log.length,a,B1⟩] })) F12.k0
 ·have HAB:=Lib.hid hab
  have key:RR=(B1,backA B2):=by rw [HRR.out,hab];rfl
  have KEY:=Lib.hid key
  clear hab key HRR
  go_wp2_with (go_at_call 52;(with_reducible refine (abr_at HAB.out kv9 _).mono ?_);rintro e w10 ⟨rfl,hb⟩;have F10:=HF9.out.call hb;have lr10:=run_ldRp F10.l0.blk;have s10:=run_stRp F10.l3.blk hg9;have HF10:=Lib.hid F10;clear hb F10)
  have F12:=HF10.out.put (l:=[⟨w9.heap.size,rcs (B1.mem kv9),57⟩,⟨w3.heap.size,rcs (zeroRr.mem nilS),57⟩,⟨b2,xcs o x.th,blT x.th.kind⟩]) (rcs (B1.mem kv9)) (show 57 ≠ 32 by decide)
  refine bodyPost_ret (res_R rfl _ _ (w.heap.size+1) _ rfl F12.l3.blk) rfl ?_
  rw [KEY.out]
  exact (F12.less (c':=cr B1 c) (by unfold cr;split <;> omega)).fin (R:=(B1,backA B2)) F12.k0
end
end Go.Proofs.YtkadkmnolkkhgaaGreatDoor.Mw

/-
 Do: whatever is asked.
-/
namespace Go.Proofs.YtkadkmnolkkhgaaGreatDoor.Mw
open Go Go.RowKit Go.Maps Go.Shelf Keys Hp Mo
open Des (Vl Ds zeroV zeroD dcs dcs_size dcs_one accF rigF appF eqV)
open Arrs (En ecs)
attribute [local go_sem ↓] ldR stR alR bxR bdR ldV stV alV bxV bdV ldA stA bxA bdA ldKy bxKy bdKy 
attribute [local irreducible] rcs dcs ecs vcs acs kcs xcs tcs
attribute [local go_sem] run_bx run_alR run_stRg run_bdA0 run_bdAk run_bdAkr run_bdAkvr run_bdAr run_bdAkd run_bdRz run_bdRd run_bdRk run_bdRf run_bdRo run_bdRs run_bdRt' run_bdKs 
section
variable {X:Cx} {c:Nat} {M M' M'':Wm} {w w' w'':World} {A A' A'':Aw} {ls:List Lc} {kl:List (Value × List KV)} {ro:List Lc} {D:DoT}
theorem do_any {Xf:DoT} {C:HandT} (HP:X.dp < X.dl→PerfIs (X.at_ (X.dp+1)) (perfF Xf C D)):DoIs X (bodyF Xf C D):=fun c M w A m o a al h hk hl hlen=>by
 unfold bodyF
 cases hx:at? A o with
 | none=>exact do_none h m o a al hk hl hlen hx
 | some x =>
  simp only
  cases hm:isMethF m
  ·simp only [Bool.not_false,if_true]
   exact do_what h m o a al hk hl hlen hx hm
  ·simp only [Bool.not_true,Bool.false_eq_true,if_false]
   by_cases hf:A.fuel=0
   ·rw [if_pos hf]
    exact do_fuel h m o a al hk hl hlen hx hm hf
   ·rw [if_neg hf]
    by_cases hd:A.depth ≥ A.deep
    ·rw [if_pos hd]
     exact do_deep h m o a al hk hl hlen hx hm hf hd
    ·rw [if_neg hd]
     have h1:=h.dpe
     have h2:=h.dle
     obtain ⟨R,hR⟩:∃ R,perfF Xf C D m o x.th a { A with fuel:=A.fuel - 1,depth:=A.depth+1,deepest:=max A.deepest (A.depth+1) }=R:=⟨_,rfl⟩
     obtain ⟨B1,B2⟩:=R
     rw [hR]
     exact do_ok (HP (by omega)) h m o a al hk hl hlen hx hm hf hd B1 B2 hR
end
end Go.Proofs.YtkadkmnolkkhgaaGreatDoor.Mw

/-
 Do as the world's methods say, whatever its depth.
-/
namespace Go.Proofs.YtkadkmnolkkhgaaGreatDoor.Mw
open Go Go.RowKit Go.Maps Go.Shelf Keys Hp Mo
theorem doIs_doF {X:Cx} {Xf:DoT→DoT} {C:DoT→HandT} (hdl:X.dl≤1000) (hC:∀ (d:Int) (D:DoT),DoIs (X.at_ d) D→HandIs (X.at_ d) (C D)) (hX:∀ (d:Int) (D:DoT),DoIs (X.at_ d) D→DelIs (X.at_ d) (Xf D)) :
  ∀ (k:Nat) (d:Int),0≤d→d+k=X.dl→DoIs (X.at_ d) (doF Xf C k):=by
 intro k
 induction k with
 | zero =>
  intro d h0 hd
  show DoIs (X.at_ d) (bodyF _ _ _)
  refine do_any (X:=X.at_ d) (fun h=>?_)
  have h':d < X.dl:=h
  omega
 | succ n ih =>
  intro d h0 hd
  have hD:=ih (d+1) (by omega) (by omega)
  show DoIs (X.at_ d) (bodyF _ _ _)
  refine do_any (X:=X.at_ d) (fun h=>?_)
  exact perf_any (X:=X.at_ (d+1)) (hC (d+1) _ hD) hD (hX (d+1) _ hD) (by show 1000000+100000*(d+1).toNat≤1000000000;omega)
theorem doIs_plain {X:Cx} (hdl:X.dl≤1000) (hcl:X.cl = .nilIface) (hpx:X.px=false) (Xf:DoT→DoT) {k:Nat} (h0:0≤X.dp) (hd:X.dp+k=X.dl):DoIs X (doF Xf (fun _=>none) k) :=
 doIs_doF (X:=X) hdl (fun d D _=>hand_nil hcl) (fun d D _ h=>by rw [show (X.at_ d).px=X.px from rfl,hpx] at h;cases h) k X.dp h0 hd
end Go.Proofs.YtkadkmnolkkhgaaGreatDoor.Mw
