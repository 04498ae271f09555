/-
 Texts of this seat in build order: MoSmall, MwAsk, MwCreate.
-/
import Derived.Test.YtkadkmnolkkhgaaGreatDoorMb10
import Derived.Deep.RegionWith
import Derived.Handy
import Derived.Test.YtkadkmnolkkhgaaGreatDoorMb14
/-
 Small functions of the worlds.
-/
set_option linter.unusedVariables false
set_option linter.unusedSimpArgs false
namespace Go.Proofs.YtkadkmnolkkhgaaGreatDoor.Mo
open Go Go.RowKit Go.Maps Go.Shelf Keys Hp
open Des (Vl Ds zeroV zeroD dcs dcs_size dcs_one)
open Arrs (En ecs ecs_0 ecs_1 ecs_10 ecs_size ecs_list ecs_one ecs_one')
attribute [local go_sem ↓] ldR stR alR bxR bdR bdD bdE ldD stD alD
attribute [local irreducible] rcs dcs ecs
set_option maxRecDepth 10000
attribute [local go_sem] run_bx run_alR run_stRg run_bdR0 run_bdR1 run_bdR2 run_bdData run_bdEn run_alD run_stDg rcs_0
theorem null_any (w:World):Calls Tryz.prog 75 #[] w fun e w'=>e = .returned (.agg (vcs ⟨1,0,⟨#[]⟩⟩))∧Below w.heap.size w w':=by
 go_enter Tryz.func75,Tryz.ntmps75
 go_wp2
 refine bodyPost_ret (res_V rfl _ _ _ ⟨1,0,⟨#[]⟩⟩ rfl (Blk.new _ _ _)) rfl ?_
 exact ⟨rfl,(Below.refl _ w).alloc (Nat.le_refl _) _⟩
theorem objv_any (n:Int) (w:World):Calls Tryz.prog 117 #[.int .i64 n] w fun e w'=>e = .returned (.agg (vcs ⟨6,n,⟨#[]⟩⟩))∧Below w.heap.size w w':=by
 go_enter Tryz.func117,Tryz.ntmps117
 go_wp2
 refine bodyPost_ret (res_V rfl _ _ _ ⟨6,n,⟨#[]⟩⟩ rfl (Blk.new _ _ _)) rfl ?_
 exact ⟨rfl,(Below.refl _ w).alloc (Nat.le_refl _) _⟩
theorem isM_any (n:Int) (w:World):Calls Tryz.prog 49 #[.int .i64 n] w fun e w'=>e = .returned (.bool (decide (1≤n) && decide (n≤13)))∧w'=w:=by
 by_cases h:1≤n
 ·have h1:decide (1≤n)=true:=by simpa using h
  rw [h1]
  go_enter Tryz.func49,Tryz.ntmps49
  go_wp2
  go_ret
  exact ⟨by simp,rfl⟩
 ·have h1:decide (1≤n)=false:=by simpa using h
  rw [h1]
  clear h
  go_enter Tryz.func49,Tryz.ntmps49
  go_wp2
  go_ret
  exact ⟨by simp,rfl⟩
theorem abrupt_any (r:Rp) (b:Bool) (hb:(r.flow != 0)=b) (w:World):Calls Tryz.prog 52 #[.agg (rcs r)] w fun e w'=>e = .returned (.bool b)∧Below w.heap.size w w':=by
 have c0:(w.alloc (.cells (rcs r) 57)).cell? ⟨w.heap.size,0,none⟩=some (.int .i64 r.flow):=((Blk.new w (rcs r) 57).cell 0).trans (rcs_0 r)
 go_enter Tryz.func52,Tryz.ntmps52
 go_wp2
 go_ret
 exact ⟨rfl,(Below.refl _ w).alloc (Nat.le_refl _) _⟩
theorem data_any (v:Vl) (a b c:Bool) (w:World):Calls Tryz.prog 72 #[.agg #[.int .i64 v.k,.int .i64 v.n,.string v.s],.bool a,.bool b,.bool c] w fun e w'=>e = .returned (.agg (dcs (dataD v a b c)))∧Below w.heap.size w w':=by
 go_enter Tryz.func72,Tryz.ntmps72
 go_wp2
 refine bodyPost_ret (res_D rfl _ _ (w.heap.size+1) (dataD v a b c) rfl (blk_newg (by simp))) rfl ?_
 exact ⟨rfl,((Below.refl _ w).alloc (Nat.le_refl _) _).alloc (by simp) _⟩
theorem store_world (wb hb:Nat) (cl:Value) (f d p q:Int) (lg:Value) (w:World) (h:Blk w wb (wcs hb cl f d p q lg) 48):Calls Tryz.prog 100 #[ptr wb] w fun e w'=>e = .returned (ptr hb)∧w'=w:=by
 have c0:w.cell? ⟨wb,0,none⟩=some (ptr hb):=(h.cell 0).trans rfl
 go_enter Tryz.func100,Tryz.ntmps100
 go_wp2
 go_ret
 exact ⟨rfl,rfl⟩
end Go.Proofs.YtkadkmnolkkhgaaGreatDoor.Mo

/-
 What is asked and seen, read and built in memory; small functions of the worlds.
-/
namespace Go.Proofs.YtkadkmnolkkhgaaGreatDoor.Mw
open Go Go.RowKit Go.Maps Go.Shelf Keys Hp Mo
open Des (Vl Ds zeroV zeroD dcs dcs_size dcs_one accF rigF appF eqV)
open Arrs (En ecs)
theorem ldA (v:Value):Instr.loadAt 52 v=Ld 52 v:=(rfl)
theorem stA (p v:Value):Instr.storeAt 52 p v=St 52 p v:=(rfl)
theorem bxA (v:Value):Instr.box 52 v=Bx 52 v:=(rfl)
theorem bdA (ps:Array (Nat × Value)):Instr.build 52 ps=Bd 52 ps:=(rfl)
theorem ldKy (v:Value):Instr.loadAt 32 v=Ld 32 v:=(rfl)
theorem bxKy (v:Value):Instr.box 32 v=Bx 32 v:=(rfl)
theorem bdKy (ps:Array (Nat × Value)):Instr.build 32 ps=Bd 32 ps:=(rfl)
theorem sizeA:(Tryz.prog.info? 52).map (·.size)=some 27:=by kernel_rfl
theorem sizeK:(Tryz.prog.info? 32).map (·.size)=some 2:=by kernel_rfl
theorem run_ldAq {w:World} {b:Nat} {a:Aq} {l:Value} {T:TypeId} (h:Blk w b (acs a l) T):(Ld 52 (.pointer (some ⟨b,0,none⟩))).run Tryz.prog w = .ok (.agg (acs a l)) w:=by
 have:=run_loadAt_mid (P:=Tryz.prog) w b 0 52 (acs a l).toList _ (h.range (r:=[]) (by simp)) Tryz.underlying52 rfl sizeA
 simpa [Ld] using this
theorem range_mid {w:World} {b:Nat} {cs:Array Value} {t:TypeId} (h:Blk w b cs t) (p l r:List Value) (e:cs.toList=p++(l++r)):w.rangeAt b p.length l:=fun j v hv=>by
 have hj:j < l.length:=(List.getElem?_eq_some_iff.1 hv).1
 rw [h.cell,← Array.getElem?_toList,e,List.getElem?_append_right (by omega),List.getElem?_append_left (by omega),show p.length+j - p.length=j by omega]
 exact hv
theorem run_ldKm {w:World} {b o:Nat} {k:KV} (h:w.rangeAt b o (kcs k).toList):(Ld 32 (.pointer (some ⟨b,o,none⟩))).run Tryz.prog w = .ok (.agg (kcs k)) w:=by
 have:=run_loadAt_mid (P:=Tryz.prog) w b o 32 (kcs k).toList _ h Tryz.underlying32 rfl sizeK
 simpa [Ld] using this
theorem run_ldVm {w:World} {b o:Nat} {v:Vl} (h:w.rangeAt b o (vcs v).toList):(Ld 30 (.pointer (some ⟨b,o,none⟩))).run Tryz.prog w = .ok (.agg (vcs v)) w:=by
 have:=run_loadAt_mid (P:=Tryz.prog) w b o 30 (vcs v).toList _ h Tryz.underlying30 rfl sizeV
 simpa [Ld] using this
theorem run_ldDm {w:World} {b o:Nat} {d:Ds} (h:w.rangeAt b o (dcs d).toList):(Ld 34 (.pointer (some ⟨b,o,none⟩))).run Tryz.prog w = .ok (.agg (dcs d)) w:=run_ldMid h
section
variable {w:World} {b:Nat} {a:Aq} {l:Value} {T:TypeId}
theorem ask_k (h:Blk w b (acs a l) T):(Ld 32 (.pointer (some ⟨b,0,none⟩))).run Tryz.prog w = .ok (.agg (kcs a.k)) w:=run_ldKm (range_mid h [] (kcs a.k).toList _ rfl)
theorem ask_v (h:Blk w b (acs a l) T):(Ld 30 (.pointer (some ⟨b,2,none⟩))).run Tryz.prog w = .ok (.agg (vcs a.v)) w:=run_ldVm (range_mid h (kcs a.k).toList (vcs a.v).toList _ rfl)
theorem ask_r (h:Blk w b (acs a l) T):(Ld 30 (.pointer (some ⟨b,5,none⟩))).run Tryz.prog w = .ok (.agg (vcs a.r)) w:=run_ldVm (range_mid h ((kcs a.k).toList++(vcs a.v).toList) (vcs a.r).toList _ rfl)
theorem ask_d (h:Blk w b (acs a l) T):(Ld 34 (.pointer (some ⟨b,8,none⟩))).run Tryz.prog w = .ok (.agg (dcs a.d)) w:=run_ldDm (range_mid h ((kcs a.k).toList++((vcs a.v).toList++(vcs a.r).toList)) (dcs a.d).toList [l] rfl)
theorem ask_l (h:Blk w b (acs a l) T):w.cell? ⟨b,26,none⟩=some l:=h.cell 26
theorem ask_rk (h:Blk w b (acs a l) T):w.cell? ⟨b,5,none⟩=some (.int .i64 a.r.k):=h.cell 5
end
theorem run_bdA0 (w:World):(Bd 52 #[]).run Tryz.prog w = .ok (.agg (acs zeroQ nilS)) w:=run_build w _ _ _ (by kernel_rfl)
theorem run_bdAk (w:World) (k:KV):(Bd 52 #[(0,.agg (kcs k))]).run Tryz.prog w = .ok (.agg (acs { zeroQ with k:=k } nilS)) w:=run_build w _ _ _ (by kernel_rfl)
theorem run_bdAkr (w:World) (k:KV) (r:Vl):(Bd 52 #[(0,.agg (kcs k)),(2,.agg (vcs r))]).run Tryz.prog w = .ok (.agg (acs { zeroQ with k:=k,r:=r } nilS)) w:=run_build w _ _ _ (by kernel_rfl)
theorem run_bdAkvr (w:World) (k:KV) (v r:Vl):(Bd 52 #[(0,.agg (kcs k)),(1,.agg (vcs v)),(2,.agg (vcs r))]).run Tryz.prog w = .ok (.agg (acs { zeroQ with k:=k,v:=v,r:=r } nilS)) w:=run_build w _ _ _ (by kernel_rfl)
theorem run_bdAr (w:World) (r:Vl):(Bd 52 #[(2,.agg (vcs r))]).run Tryz.prog w = .ok (.agg (acs { zeroQ with r:=r } nilS)) w:=run_build w _ _ _ (by kernel_rfl)
theorem run_bdArl (w:World) (r:Vl) (a:Option Addr) (n c:Nat):(Bd 52 #[(2,.agg (vcs r)),(4,.slice a n c)]).run Tryz.prog w = .ok (.agg (acs { zeroQ with r:=r } (.slice a n c))) w:=run_build w _ _ _ (by kernel_rfl)
theorem run_bdAkd (w:World) (k:KV) (d:Ds):(Bd 52 #[(0,.agg (kcs k)),(3,.agg (dcs d))]).run Tryz.prog w = .ok (.agg (acs { zeroQ with k:=k,d:=d } nilS)) w:=run_build w _ _ _ (by kernel_rfl)
theorem run_bdKs (w:World) (s:ByteArray):(Bd 32 #[(0,.string s)]).run Tryz.prog w = .ok (.agg (kcs (s,0))) w:=run_build w _ _ _ (by kernel_rfl)
theorem run_bdRd (w:World) (v:Vl):(Bd 57 #[(1,.agg (vcs v))]).run Tryz.prog w = .ok (.agg (rcs ((done v).mem nilS))) w:=run_build w _ _ _ (by kernel_rfl)
theorem run_bdRk (w:World) (b:Bool):(Bd 57 #[(2,.bool b)]).run Tryz.prog w = .ok (.agg (rcs ((ans b).mem nilS))) w:=run_build w _ _ _ (by kernel_rfl)
theorem run_bdRf (w:World) (f:Int):(Bd 57 #[(0,.int .i64 f)]).run Tryz.prog w = .ok (.agg (rcs ((flowR f).mem nilS))) w:=run_build w _ _ _ (by kernel_rfl)
theorem run_bdRt' (w:World) (v:Vl):(Bd 57 #[(0,.int .i64 1),(1,.agg (vcs v))]).run Tryz.prog w = .ok (.agg (rcs ((thrown v).mem nilS))) w:=run_build w _ _ _ (by kernel_rfl)
theorem run_bdRz (w:World):(Bd 57 #[]).run Tryz.prog w = .ok (.agg (rcs (zeroRr.mem nilS))) w:=run_build w _ _ _ (by kernel_rfl)
theorem run_bdRo (w:World) (h:Bool) (d:Ds):(Bd 57 #[(3,.bool h),(4,.agg (dcs d))]).run Tryz.prog w = .ok (.agg (rcs (({ zeroRr with has:=h,d:=d }:Rr).mem nilS))) w:=run_build w _ _ _ (by kernel_rfl)
theorem run_bdRs (w:World) (a:Option Addr) (n c:Nat):(Bd 57 #[(5,.slice a n c)]).run Tryz.prog w = .ok (.agg (rcs (zeroRr.mem (.slice a n c)))) w:=run_build w _ _ _ (by kernel_rfl)
section
variable {w:World} {b:Nat} {r:Rp} {T:TypeId}
theorem rep_v (h:Blk w b (rcs r) T):(Ld 30 (.pointer (some ⟨b,1,none⟩))).run Tryz.prog w = .ok (.agg (vcs r.v)) w:=run_ldVm (range_mid h [.int .i64 r.flow] (vcs r.v).toList _ rfl)
theorem rep_d (h:Blk w b (rcs r) T):(Ld 34 (.pointer (some ⟨b,6,none⟩))).run Tryz.prog w = .ok (.agg (dcs r.d)) w:=run_ldDm (range_mid h [.int .i64 r.flow,.int .i64 r.v.k,.int .i64 r.v.n,.string r.v.s,.bool r.ok,.bool r.has] (dcs r.d).toList [r.keys] rfl)
end
structure Lo (B:List Nat) (w0 w:World) (b:Nat) (cs:Array Value) (t:TypeId):Prop where
 blk:Blk w b cs t
 out:b ∉ B
 low:w0.heap.size≤b
section
variable {B B':List Nat} {w0 w w':World} {b:Nat} {cs:Array Value} {t:TypeId}
theorem Lo.nx (h:Lo B w0 w b cs t) (k:Nx B w B' w'):Lo B' w0 w' b cs t:=⟨k.blk h.blk h.out,k.out h.blk.lt h.out,h.low⟩
theorem Lo.call (h:Lo B w0 w b cs t) (k:Below w.heap.size w w'):Lo B w0 w' b cs t:=⟨h.blk.call k,h.out,h.low⟩
theorem Lo.drew (h:Lo B w0 w b cs t):Lo B w0 w.drew b cs t:=⟨h.blk,h.out,h.low⟩
theorem Lo.row (h:Lo B w0 w b cs t) (ds:Array Value):Lo B w0 (w.setRow b ds) b ds t:=⟨h.blk.row ds,h.out,h.low⟩
theorem Lo.row_other {c:Nat} (h:Lo B w0 w b cs t) (ds:Array Value) (hne:b ≠ c):Lo B w0 (w.setRow c ds) b cs t:=⟨h.blk.row_other ds hne,h.out,h.low⟩
end
theorem Nx.row {B B':List Nat} {w w':World} (h:Nx B w B' w') {b:Nat} (cs:Array Value) (hb:w.heap.size≤b):Nx B w B' (w'.setRow b cs) :=
 ⟨⟨h.kp.fr.trans ⟨rfl,rfl,rfl,by rw [size_setRow];exact Nat.le_refl _⟩,fun k hk hn=>(setRow_other w' b k cs (by omega)).trans (h.kp.same k hk hn)⟩,h.sub⟩
section
variable {X:Cx} {c:Nat} {M:Wm} {w w':World} {A:Aw}
theorem WIs.lo (h:WIs X c M w A) {w0:World} (hw:w0.heap.size≤w.heap.size) (cs:Array Value) (t:TypeId):Lo (M.bl X.wb) w0 (w.alloc (.cells cs t)) w.heap.size cs t:=⟨Blk.new w cs t,h.new (Nat.le_refl _),hw⟩
theorem WIs.rowL (h:WIs X c M w A) {w0:World} {b:Nat} {cs:Array Value} {t:TypeId} (hl:Lo (M.bl X.wb) w0 w b cs t) (ds:Array Value) (h0:X.W0.heap.size≤w0.heap.size):WIs X c M (w.setRow b ds) A:=h.row ds hl.out (Nat.le_trans h0 hl.low)
end
section
attribute [local go_sem ↓] ldR stR alR bxR bdR bdD bdE ldD stD alD
attribute [local irreducible] rcs dcs ecs
set_option maxRecDepth 10000
attribute [local go_sem] run_bx run_alR run_stRg run_bdRk
theorem answer_any (b:Bool) (w:World):Calls Tryz.prog 168 #[.bool b] w fun e w'=>e = .returned (.agg (rcs ((ans b).mem nilS)))∧Below w.heap.size w w':=by
 have hg:((ans b).mem nilS).good:=⟨_,_,_,rfl⟩
 have hst:=run_stRn w ((ans b).mem nilS) zeroR hg
 go_enter Tryz.func168,Tryz.ntmps168
 go_wp2
 refine bodyPost_ret (res_R rfl _ _ _ _ rfl (Blk.new _ _ _)) rfl ?_
 exact ⟨rfl,(Below.refl _ w).alloc (Nat.le_refl _) _⟩
end
theorem abr_any (r:Rr) (k:Value) (w:World):Calls Tryz.prog 52 #[.agg (rcs (r.mem k))] w fun e w'=>e = .returned (.bool (abr r))∧Below w.heap.size w w':=abrupt_any (r.mem k) (abr r) rfl w
end Go.Proofs.YtkadkmnolkkhgaaGreatDoor.Mw

/-
 create: a new object of a world.
-/
namespace Go.Proofs.YtkadkmnolkkhgaaGreatDoor.Mw
open Go Go.RowKit Go.Maps Go.Shelf Keys Hp Mo
open Des (Vl Ds zeroV zeroD dcs dcs_size dcs_one accF rigF appF eqV)
open Arrs (En ecs)
attribute [local go_sem ↓] ldR stR alR bxR bdR ldV stV alV bxV bdV bdT
attribute [local irreducible] rcs dcs ecs vcs tcs
attribute [local go_sem] run_bx run_alR run_alV run_bdR0 run_bdR1 run_bdV0 run_bdTn
section
variable {X:Cx} {c:Nat} {M:Wm} {w w':World} {A:Aw}
def CreP (X:Cx) (c:Nat) (M:Wm) (w:World) (R:(Vl × Rr) × Aw) (e:Ending) (w':World):Prop :=
 ∃ M',e = .returned (.tuple #[.agg (vcs R.1.1),.agg (rcs (R.1.2.mem nilS))])∧WIs X c M' w' R.2∧Nx (M.bl X.wb) w (M'.bl X.wb) w'
theorem give_new {kd:Int} {pv:Vl} {pa:Option Addr} {pc:Nat} {es:List En} (hes:Hp.EsAt w.heap.size pa es w) (hf:∀ e ∈ es,Fine (ekey e)) (hl:es.length≤900000):Give w (newT kd pv (.slice pa es.length pc)) es [] :=
 ⟨⟨pa,pc,rfl,hes⟩,⟨none,0,rfl,.inl rfl⟩,hf,hl,by simp⟩
set_option maxRecDepth 100000 in
set_option maxHeartbeats 2000000 in
theorem create_room (h:WIs X (c+1) M w A) (kd:Int) (pv:Vl) (pa:Option Addr) (pc:Nat) (es:List En) (hes:Hp.EsAt w.heap.size pa es w) (hf:∀ e ∈ es,Fine (ekey e)) (hn:(es.map ekey).Nodup) (hc:es.length+8*A.fuel.toNat+c≤900000) (hk:X.px=false→kd ≠ 4) (hr:(A.objs.length:Int) < A.room) :
  Calls Tryz.prog 74 #[ptr X.wb,.int .i64 kd,.agg (vcs pv),.slice pa es.length pc] w (CreP X c M w ((objV A.objs.length,zeroRr),makeF (freshT kd pv) es [] A)):=by
 obtain ⟨w1,hw1⟩:∃ w1,((w.alloc (.cells (vcs pv) 30)).alloc (.cells (vcs zeroV) 30)).alloc (.cells (rcs zeroR) 57)=w1:=⟨_,rfl⟩
 have k1:w1.heap.size=w.heap.size+3:=by rw [← hw1];simp
 have b1:Below w.heap.size w w1:=by rw [← hw1];exact (((Below.refl _ w).alloc (Nat.le_refl _) _).alloc (by simp) _).alloc (by simp;omega) _
 have x0:Blk w1 w.heap.size (vcs pv) 30:=by rw [← hw1];exact ((Blk.new w _ _).old _).old _
 have x1:Lo (M.bl X.wb) w w1 (w.heap.size+1) (vcs zeroV) 30:=by rw [← hw1];exact ⟨(blk_newg (by simp)).old _,h.new (by omega),by omega⟩
 have x2:Lo (M.bl X.wb) w w1 (w.heap.size+2) (rcs zeroR) 57:=by rw [← hw1];exact ⟨blk_newg (by simp),h.new (by omega),by omega⟩
 have lv:=run_ldVp x0.drew
 have h1:=(h.call b1).drew
 have hst:=store_world X.wb M.hb X.cl A.fuel A.deep A.depth A.deepest M.ls w1.drew h1.wblk
 have hg:Give w1.drew (newT kd pv (.slice pa es.length pc)) es []:=(give_new (kd:=kd) (pv:=pv) (pc:=pc) hes hf (by omega)).call b1.drew
 have hmk:=wMake h1 hg hn hc hk
 unfold MakeP at hmk
 simp only [if_pos hr] at hmk
 have hbd:∀ w':World,(Bd 39 #[(0,.int .i64 kd),(1,.agg (vcs pv)),(2,.bool true),(3,.slice pa es.length pc)]).run Tryz.prog w' = .ok (.agg (tcs (newT kd pv (.slice pa es.length pc)))) w':=fun w'=>run_bdTn w' kd pv true pa es.length pc
 have X1:=Lib.hid x1.drew
 have X2:=Lib.hid x2.drew
 have B1:=Lib.hid (show Below w.heap.size w w1.drew from b1.drew)
 have H0:=Lib.hid (show X.W0.heap.size≤w.heap.size from h.bel.size)
 clear h hes hf hn hc hk hr x0 x1 x2 b1 h1 hg
 go_enter Tryz.func74,Tryz.ntmps74
 go_wp2
 go_region_with (first |(go_at_call 100;refine hst.mono ?_;rintro e w2 ⟨rfl,rfl⟩) |(go_at_call 17;refine hmk.mono ?_;rintro e w4 ⟨rfl,M',hM,h4,n4⟩))
 all_goals
  have y1:=X1.out.nx n4
  have y2:=X2.out.nx n4
  have N4:=Lib.hid (Nx.from B1.out n4)
  have H4:=Lib.hid h4
  clear h4 n4 hst hmk lv hbd hw1 hM
  go_wp2_with (go_at_call 117;refine (objv_any _ _).mono ?_;rintro e w5 ⟨rfl,hb5⟩;have z1:=y1.call hb5;have z2:=y2.call hb5;have s1:=run_stVp (v:=⟨6,A.objs.length,⟨#[]⟩⟩) z1.blk;have z3:=z1.row (vcs ⟨6,A.objs.length,⟨#[]⟩⟩);have z4:=z2.row_other (vcs ⟨6,A.objs.length,⟨#[]⟩⟩) (by omega:w.heap.size+2 ≠ w.heap.size+1);have s2:=run_stRp z4.blk zeroR_good;have HB5:=Lib.hid hb5;have Z1:=Lib.hid z1;have Z4:=Lib.hid z4;clear hb5 z1 z2 y1 y2)
  have z5:=z3.row_other (rcs zeroR) (by omega:w.heap.size+1 ≠ w.heap.size+2)
  refine bodyPost_ret (res_VR rfl _ _ (w.heap.size+1) (w.heap.size+2) ⟨6,A.objs.length,⟨#[]⟩⟩ zeroR rfl rfl z5.blk (Z4.out.blk.row (rcs zeroR))) rfl ⟨M',rfl,?_,?_⟩
  ·exact ((H4.out.call HB5.out).rowL Z1.out _ H0.out).rowL Z4.out _ H0.out
  ·exact ((N4.out.call HB5.out).row _ (by omega)).row _ (by omega)
end
end Go.Proofs.YtkadkmnolkkhgaaGreatDoor.Mw
