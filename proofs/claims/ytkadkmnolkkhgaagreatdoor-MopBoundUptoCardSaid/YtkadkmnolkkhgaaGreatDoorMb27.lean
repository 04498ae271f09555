/-
 truncate.
-/
import Derived.Test.YtkadkmnolkkhgaaGreatDoorMb17
import Derived.Test.YtkadkmnolkkhgaaGreatDoorMb10
import Derived.Test.YtkadkmnolkkhgaaGreatDoorMb07
import Derived.Deep.DeepCutAuto
set_option linter.unusedVariables false
set_option linter.unusedSimpArgs false
namespace Go.Proofs.YtkadkmnolkkhgaaGreatDoor.Mw
open Go Go.RowKit Go.Maps Go.Shelf Keys Hp Mo
open Des (Vl Ds zeroV zeroD dcs dcs_size dcs_one accF rigF appF eqV)
open Arrs (En ecs leftF)
open Rg
section
variable {X:Cx} {c:Nat} {M M' M'':Wm} {w w' w'':World} {A A' A'':Aw}
theorem tcs_set5' (t:Th) (v:Value):(tcs t).setIfInBounds 5 v=tcs { t with props:=v }:=rfl
theorem arr_hp {ao:Option Addr} {es:List En} {w:World} (h:Arrs.EsAt ao es w):Hp.EsAt w.heap.size ao es w:=fun j e he=>by
 obtain ⟨b,off,h1,h2,h3⟩:=h j e he
 exact ⟨b,off,h1,h2,fun k v hk=>by have:=h3 k v hk;rwa [Addr.add_mid] at this⟩
theorem hp_arr {n0:Nat} {ao:Option Addr} {es:List En} {w:World} (h:Hp.EsAt n0 ao es w) (hn:n0≤w.heap.size):Arrs.EsAt ao es w:=fun j e he=>by
 obtain ⟨b,off,h1,h2,h3⟩:=h j e he
 exact ⟨b,off,h1,Nat.lt_of_lt_of_le h2 hn,fun k v hk=>by rw [Addr.add_mid];exact h3 k v hk⟩
theorem en_not {w:World} {N off:Nat} {G:Th} {T:TypeId} {e:En} (hB:Blk w N (tcs G) T) (h:Hp.enAt w N off e):False:=by
 have h0:=h 0 (.string e.ks) rfl
 have h1:=h 1 (.int .i64 e.kn) rfl
 have h2:=h 19 (.bool e.d.c) rfl
 rw [hB.cell] at h0 h1 h2
 have hlt:off+19 < 24:=(Array.getElem?_eq_some_iff.1 h2).1
 rcases (by omega:off=0∨off=1∨off=2∨off=3∨off=4) with rfl |rfl |rfl |rfl |rfl <;> simp [tcs] at h0 h1
theorem es_kept (w4 w5:World) (ra:Option Addr) (es:List En) (N:Nat) (G:Th) (v:Value) (hw:w4.setCell ⟨N,5,none⟩ v=w5) (hB:Blk w4 N (tcs G) 39) (h:Arrs.EsAt ra es w4):Hp.EsAt w5.drew.heap.size ra es w5.drew:=fun j e he=>by
 obtain ⟨b,off,h1,h2,h3⟩:=arr_hp h j e he
 have hne:b ≠ N:=fun e'=>by subst e';exact en_not hB h3
 refine ⟨b,off,h1,?_,?_⟩
 ·show b < w5.heap.size
  rw [← hw]
  simpa using h2
 ·have e2:w5.heap[b]? = w4.heap[b]?:=by rw [← hw];exact heap_setCell_other w4 ⟨N,5,none⟩ b v hne
  exact range_same (w:=w4) (w':=w5.drew) e2 h3
theorem left_sub (es:List En) (n:Int):(leftF es n).length≤es.length:=List.length_filter_le _ _
theorem wSetL (h:WIs X c M w A) {o:Int} {x:Ob} (hx:at? A o=some x) {G:Th} {a:Option Addr} {cp:Nat} {es:List En} (hes:Hp.EsAt w.heap.size a es w) {lo:Nat} (hr2:w.ownsRow lo 30 3 G.args x.vs.length (cellsV x.vs)) (hG:bare G=x.th) (hf:∀ e ∈ es,Fine (ekey e)) (hn:(es.map ekey).Nodup) (hl:es.length≤x.es.length) :
  Calls Tryz.prog 199 #[ptr M.hb,.int .i64 o,.agg (tcs { G with props:=.slice a es.length cp })] w (LeftB X c M w (setOb A o { x with es:=es })):=by
 obtain ⟨f1,f2,f3,f5,f6,f7,f8⟩:=h.fit hx
 obtain ⟨a',c',e'⟩:=Hp.own_shape hr2
 rw [e'] at hr2
 have hg:Give w { G with props:=.slice a es.length cp } es x.vs:=⟨⟨a,cp,rfl,hes⟩,⟨a',c',e',vsAt_own hr2⟩,hf,by omega,f7⟩
 have:=wSet h hx hg hn (by omega) (fun hp=>by have:=f8 hp;rw [← hG] at this;exact this)
 have e:(⟨bare { G with props:=.slice a es.length cp },es,x.vs⟩:Ob)={ x with es:=es }:=by rw [← hG];rfl
 rw [e] at this
 exact this
end
attribute [local go_sem ↓] ldR stR alR bxR bdR ldV stV alV bxV bdV ldA stA bxA bdA ldKy bxKy bdKy ldT stT alT
attribute [local irreducible] rcs dcs ecs vcs acs kcs xcs tcs
attribute [local go_sem] run_bx run_alR run_stRg run_bdA0 run_bdAk run_bdAkr run_bdAkvr run_bdAr run_bdAkd run_bdRz run_bdRd run_bdRk run_bdRf run_bdRo run_bdRs run_bdRt' run_bdKs run_alT
section
variable {X:Cx} {c:Nat} {M M' M'':Wm} {w w' w'':World} {A A' A'':Aw} {ls:List Lc} {kl:List (Value × List KV)} {ro:List Lc} {D:DoT}
structure TrI (X:Cx) (M:Wm) (xb:Nat) (o:Int) (x:Ob) (n:Int) (w1:World) (L:Array Bool) (x7 x8 x11 x12 x13 x14 x15 x16 x17 x18 x19 x20 x21:Value) (W:World):Prop where
 m1:Below w1.heap.size w1 W
 h0:L.getD 0 false=true→x12=ptr X.wb
 h1:L.getD 1 false=true→x13=ptr M.hb
 h2:L.getD 2 false=true→x14=ptr xb
 h3:L.getD 3 false=true→x15=ptr xb
 h4:L.getD 4 false=true→x16 = .pointer (some ⟨xb,0,none⟩)
 h5:L.getD 5 false=true→x17 = .pointer (some ⟨xb,0,none⟩)
 h6:L.getD 6 false=true→x18 = .int .i64 o
 h7:L.getD 7 false=true→∃ G,x19 = .tuple #[.agg (tcs G),.bool true]∧GetOk w1.heap.size W x G
 h8:L.getD 8 false=true→∃ G,x11 = .tuple #[.agg (tcs G),.bool true]∧GetOk w1.heap.size W x G
 h9:L.getD 9 false=true→∃ G,x20 = .agg (tcs G)∧GetOk w1.heap.size W x G
 h10:L.getD 10 false=true→x21 = .bool true
 h11:L.getD 11 false=true→∃ b,x7=ptr b∧w1.heap.size≤b∧∃ o,Blk W b (tcs o) 39
 h12:L.getD 12 false=true→∃ b G,x7=ptr b∧w1.heap.size≤b∧Blk W b (tcs G) 39∧GetOk w1.heap.size W x G
 h13:L.getD 13 false=true→x8 = .bool true
set_option maxRecDepth 100000 in
set_option maxHeartbeats 4000000 in
theorem trunc_any (h:WIs X c M w A) (o:Int) {t:Th} {T:TypeId} {xb:Nat} (hx:Blk w xb (xcs o t) T) (hxo:xb ∉ M.bl X.wb) {x:Ob} (hat:at? A o=some x) (n:Int) (h0:0≤n) (h1:n≤4294967295) :
  Calls Tryz.prog 190 #[ptr X.wb,ptr xb,.int .i64 n] w fun e w'=>e = .returned (.int .i64 (truncF o n A).1)∧∃ M',Left X c M w (truncF o n A).2 w' M':=by
 have F0:Fm X c M w M w A [] [] [⟨xb,xcs o t,T⟩]:=(Fm.start h).with hx hxo
 have hfit:=h.fit hat
 have HAT:=Lib.hid hat
 have HFIT:=Lib.hid hfit
 have HGET:Hid (∀ {w':World},WIs X c M w' A→Calls Tryz.prog 20 #[ptr M.hb,.int .i64 o] w' fun e w2=>∃ G,e = .returned (.tuple #[.agg (tcs G),.bool true])∧GetOk w'.heap.size w2 x G∧Below w'.heap.size w' w2):=Lib.hid fun h'=>wGetR h' hat
 have HF0:=Lib.hid F0
 have HR0:=Lib.hid (show 0≤n∧n≤4294967295 from ⟨h0,h1⟩)
 have hsp:truncF o n A=(Arrs.reachF x.es n,setOb A o { x with es:=leftF x.es n }):=by unfold truncF;rw [hat]
 rw [hsp]
 obtain ⟨rn,hrn⟩:∃ rn,Arrs.reachF x.es n=rn:=⟨_,rfl⟩
 rw [hrn]
 have HRN:=Lib.hid hrn
 clear F0 h hx hxo hat hfit h0 h1 hsp hrn
 go_enter Tryz.func190,Tryz.ntmps190
 go_upto_region 1 with fail
 go_cut [7,8] from 11 to 21 (fun s1 s2 wx=>ThAt X c M w M A x w.drew.heap.size [] [] [⟨xb,xcs o t,T⟩] s1 s2 wx)
 case first =>
  have hwis:=HF0.out.drew.wis
  have hxb:=HF0.out.drew.r0
  refine region_inv (by kernel_rfl) (fun L a W=>∃ x7 x8 x11 x12 x13 x14 x15 x16 x17 x18 x19 x20 x21:Value,a={ tmps:=#[ptr X.wb,ptr xb,.int .i64 n,undef,undef,undef,.int .i64 0,x7,x8,undef,undef,x11,x12,x13,x14,x15,x16,x17,x18,x19,x20,x21,undef,undef,undef,undef,undef,undef,undef,undef,undef,undef,undef,undef,undef,undef,undef,undef,undef,undef,undef],defers:=[] }∧TrI X M xb o x n w.drew L x7 x8 x11 x12 x13 x14 x15 x16 x17 x18 x19 x20 x21 W) (by kernel_rfl) ?start ?step ?done
  case start=>exact ⟨_,_,_,_,_,_,_,_,_,_,_,_,_,rfl,⟨Below.refl _ _,fun h=>by simp [Array.getD_eq_getD_getElem?] at h,fun h=>by simp [Array.getD_eq_getD_getElem?] at h,fun h=>by simp [Array.getD_eq_getD_getElem?] at h,fun h=>by simp [Array.getD_eq_getD_getElem?] at h,fun h=>by simp [Array.getD_eq_getD_getElem?] at h,fun h=>by simp [Array.getD_eq_getD_getElem?] at h,fun h=>by simp [Array.getD_eq_getD_getElem?] at h,fun h=>by simp [Array.getD_eq_getD_getElem?] at h,fun h=>by simp [Array.getD_eq_getD_getElem?] at h,fun h=>by simp [Array.getD_eq_getD_getElem?] at h,fun h=>by simp [Array.getD_eq_getD_getElem?] at h,fun h=>by simp [Array.getD_eq_getD_getElem?] at h,fun h=>by simp [Array.getD_eq_getD_getElem?] at h,fun h=>by simp [Array.getD_eq_getD_getElem?] at h⟩⟩
  case step =>
   intro i L a W hi hdep hL hs hcl hI
   have hi2:i < 14:=by simpa using hi
   obtain ⟨x7,x8,x11,x12,x13,x14,x15,x16,x17,x18,x19,x20,x21,rfl,H⟩:=hI
   have ol:∀ j,i ≠ j→(L.setIfInBounds i true).getD j false=true→L.getD j false=true:=fun j hj h=>by rwa [getD_set hj] at h
   rcases (by omega:i=0∨i=1∨i=2∨i=3∨i=4∨i=5∨i=6∨i=7∨i=8∨i=9∨i=10∨i=11∨i=12∨i=13) with rfl |rfl |rfl |rfl |rfl |rfl |rfl |rfl |rfl |rfl |rfl |rfl |rfl |rfl
   ·clear hi hi2
    exact step_run (i:=0) (w':=W) (v:=ptr X.wb) rfl rfl (by simp [execOp,Act.eval,go_sem]) ⟨_,_,_,_,_,_,_,_,_,_,_,_,_,rfl,⟨(H.m1),(fun _=>rfl),(H.h1∘ol 1 nofun),(H.h2∘ol 2 nofun),(H.h3∘ol 3 nofun),(H.h4∘ol 4 nofun),(H.h5∘ol 5 nofun),(H.h6∘ol 6 nofun),(H.h7∘ol 7 nofun),(H.h8∘ol 8 nofun),(H.h9∘ol 9 nofun),(H.h10∘ol 10 nofun),(H.h11∘ol 11 nofun),(H.h12∘ol 12 nofun),(H.h13∘ol 13 nofun)⟩⟩
   ·clear hi hi2
    have e12:=H.h0 (hdep 0 (memOf (by kernel_rfl)))
    subst e12
    refine step_call (i:=1) (f:=100) (args:=#[ptr X.wb]) rfl rfl (by simp [execOp,Act.eval,go_sem]) (stW (hwis.call H.m1)) ?_
    rintro e W2 ⟨rfl,hq⟩
    subst hq
    exact ⟨_,rfl,⟨_,_,_,_,_,_,_,_,_,_,_,_,_,rfl,⟨(H.m1),(H.h0∘ol 0 nofun),(fun _=>rfl),(H.h2∘ol 2 nofun),(H.h3∘ol 3 nofun),(H.h4∘ol 4 nofun),(H.h5∘ol 5 nofun),(H.h6∘ol 6 nofun),(H.h7∘ol 7 nofun),(H.h8∘ol 8 nofun),(H.h9∘ol 9 nofun),(H.h10∘ol 10 nofun),(H.h11∘ol 11 nofun),(H.h12∘ol 12 nofun),(H.h13∘ol 13 nofun)⟩⟩⟩
   ·clear hi hi2
    exact step_run (i:=2) (w':=W) (v:=ptr xb) rfl rfl (by simp [execOp,Act.eval,go_sem]) ⟨_,_,_,_,_,_,_,_,_,_,_,_,_,rfl,⟨(H.m1),(H.h0∘ol 0 nofun),(H.h1∘ol 1 nofun),(fun _=>rfl),(H.h3∘ol 3 nofun),(H.h4∘ol 4 nofun),(H.h5∘ol 5 nofun),(H.h6∘ol 6 nofun),(H.h7∘ol 7 nofun),(H.h8∘ol 8 nofun),(H.h9∘ol 9 nofun),(H.h10∘ol 10 nofun),(H.h11∘ol 11 nofun),(H.h12∘ol 12 nofun),(H.h13∘ol 13 nofun)⟩⟩
   ·clear hi hi2
    have e14:=H.h2 (hdep 2 (memOf (by kernel_rfl)))
    subst e14
    exact step_run (i:=3) (w':=W) (v:=ptr xb) rfl rfl (by simp [execOp,Act.eval,go_sem]) ⟨_,_,_,_,_,_,_,_,_,_,_,_,_,rfl,⟨(H.m1),(H.h0∘ol 0 nofun),(H.h1∘ol 1 nofun),(H.h2∘ol 2 nofun),(fun _=>rfl),(H.h4∘ol 4 nofun),(H.h5∘ol 5 nofun),(H.h6∘ol 6 nofun),(H.h7∘ol 7 nofun),(H.h8∘ol 8 nofun),(H.h9∘ol 9 nofun),(H.h10∘ol 10 nofun),(H.h11∘ol 11 nofun),(H.h12∘ol 12 nofun),(H.h13∘ol 13 nofun)⟩⟩
   ·clear hi hi2
    have e15:=H.h3 (hdep 3 (memOf (by kernel_rfl)))
    subst e15
    exact step_run (i:=4) (w':=W) (v:=.pointer (some ⟨xb,0,none⟩)) rfl rfl (by simp [execOp,Act.eval,go_sem]) ⟨_,_,_,_,_,_,_,_,_,_,_,_,_,rfl,⟨(H.m1),(H.h0∘ol 0 nofun),(H.h1∘ol 1 nofun),(H.h2∘ol 2 nofun),(H.h3∘ol 3 nofun),(fun _=>rfl),(H.h5∘ol 5 nofun),(H.h6∘ol 6 nofun),(H.h7∘ol 7 nofun),(H.h8∘ol 8 nofun),(H.h9∘ol 9 nofun),(H.h10∘ol 10 nofun),(H.h11∘ol 11 nofun),(H.h12∘ol 12 nofun),(H.h13∘ol 13 nofun)⟩⟩
   ·clear hi hi2
    have e16:=H.h4 (hdep 4 (memOf (by kernel_rfl)))
    subst e16
    exact step_run (i:=5) (w':=W) (v:=.pointer (some ⟨xb,0,none⟩)) rfl rfl (by simp [execOp,Act.eval,go_sem]) ⟨_,_,_,_,_,_,_,_,_,_,_,_,_,rfl,⟨(H.m1),(H.h0∘ol 0 nofun),(H.h1∘ol 1 nofun),(H.h2∘ol 2 nofun),(H.h3∘ol 3 nofun),(H.h4∘ol 4 nofun),(fun _=>rfl),(H.h6∘ol 6 nofun),(H.h7∘ol 7 nofun),(H.h8∘ol 8 nofun),(H.h9∘ol 9 nofun),(H.h10∘ol 10 nofun),(H.h11∘ol 11 nofun),(H.h12∘ol 12 nofun),(H.h13∘ol 13 nofun)⟩⟩
   ·clear hi hi2
    have e17:=H.h5 (hdep 5 (memOf (by kernel_rfl)))
    subst e17
    have cq:=x_num (hxb.call H.m1)
    exact step_run (i:=6) (w':=W) (v:=.int .i64 o) rfl rfl (by simp [execOp,Act.eval,go_sem,cq]) ⟨_,_,_,_,_,_,_,_,_,_,_,_,_,rfl,⟨(H.m1),(H.h0∘ol 0 nofun),(H.h1∘ol 1 nofun),(H.h2∘ol 2 nofun),(H.h3∘ol 3 nofun),(H.h4∘ol 4 nofun),(H.h5∘ol 5 nofun),(fun _=>rfl),(H.h7∘ol 7 nofun),(H.h8∘ol 8 nofun),(H.h9∘ol 9 nofun),(H.h10∘ol 10 nofun),(H.h11∘ol 11 nofun),(H.h12∘ol 12 nofun),(H.h13∘ol 13 nofun)⟩⟩
   ·clear hi hi2
    have e13:=H.h1 (hdep 1 (memOf (by kernel_rfl)))
    have e18:=H.h6 (hdep 6 (memOf (by kernel_rfl)))
    subst e13
    subst e18
    refine step_call (i:=7) (f:=20) (args:=#[ptr M.hb,.int .i64 o]) rfl rfl (by simp [execOp,Act.eval,go_sem]) (HGET.out (hwis.call H.m1)) ?_
    rintro e W2 ⟨G,rfl,hG,hb⟩
    exact ⟨_,rfl,⟨_,_,_,_,_,_,_,_,_,_,_,_,_,rfl,⟨(H.m1.trans (hb.mono H.m1.size)),(H.h0∘ol 0 nofun),(H.h1∘ol 1 nofun),(H.h2∘ol 2 nofun),(H.h3∘ol 3 nofun),(H.h4∘ol 4 nofun),(H.h5∘ol 5 nofun),(H.h6∘ol 6 nofun),(fun _=>⟨G,rfl,hG.mono H.m1.size⟩),(fun h=>let ⟨G,q1,q2⟩:=H.h8 (ol 8 (by decide) h);⟨G,q1,q2.call hb⟩),(fun h=>let ⟨G,q1,q2⟩:=H.h9 (ol 9 (by decide) h);⟨G,q1,q2.call hb⟩),(H.h10∘ol 10 nofun),(fun h=>let ⟨g,q1,q2,o,q3⟩:=H.h11 (ol 11 (by decide) h);⟨g,q1,q2,o,q3.call hb⟩),(fun h=>let ⟨g,G,q1,q2,q3,q4⟩:=H.h12 (ol 12 (by decide) h);⟨g,G,q1,q2,q3.call hb,q4.call hb⟩),(H.h13∘ol 13 nofun)⟩⟩⟩
   ·clear hi hi2
    have e19:=H.h7 (hdep 7 (memOf (by kernel_rfl)))
    obtain ⟨G,rfl,hG⟩:=e19
    exact step_run (i:=8) (w':=W) (v:=.tuple #[.agg (tcs G),.bool true]) rfl rfl (by simp [execOp,Act.eval,go_sem]) ⟨_,_,_,_,_,_,_,_,_,_,_,_,_,rfl,⟨(H.m1),(H.h0∘ol 0 nofun),(H.h1∘ol 1 nofun),(H.h2∘ol 2 nofun),(H.h3∘ol 3 nofun),(H.h4∘ol 4 nofun),(H.h5∘ol 5 nofun),(H.h6∘ol 6 nofun),(H.h7∘ol 7 nofun),(fun _=>⟨G,rfl,hG⟩),(H.h9∘ol 9 nofun),(H.h10∘ol 10 nofun),(H.h11∘ol 11 nofun),(H.h12∘ol 12 nofun),(H.h13∘ol 13 nofun)⟩⟩
   ·clear hi hi2
    have e11:=H.h8 (hdep 8 (memOf (by kernel_rfl)))
    obtain ⟨G,rfl,hG⟩:=e11
    exact step_run (i:=9) (w':=W) (v:=.agg (tcs G)) rfl rfl (by simp [execOp,Act.eval,go_sem]) ⟨_,_,_,_,_,_,_,_,_,_,_,_,_,rfl,⟨(H.m1),(H.h0∘ol 0 nofun),(H.h1∘ol 1 nofun),(H.h2∘ol 2 nofun),(H.h3∘ol 3 nofun),(H.h4∘ol 4 nofun),(H.h5∘ol 5 nofun),(H.h6∘ol 6 nofun),(H.h7∘ol 7 nofun),(H.h8∘ol 8 nofun),(fun _=>⟨G,rfl,hG⟩),(H.h10∘ol 10 nofun),(H.h11∘ol 11 nofun),(H.h12∘ol 12 nofun),(H.h13∘ol 13 nofun)⟩⟩
   ·clear hi hi2
    have e11:=H.h8 (hdep 8 (memOf (by kernel_rfl)))
    obtain ⟨G,rfl,hG⟩:=e11
    exact step_run (i:=10) (w':=W) (v:=.bool true) rfl rfl (by simp [execOp,Act.eval,go_sem]) ⟨_,_,_,_,_,_,_,_,_,_,_,_,_,rfl,⟨(H.m1),(H.h0∘ol 0 nofun),(H.h1∘ol 1 nofun),(H.h2∘ol 2 nofun),(H.h3∘ol 3 nofun),(H.h4∘ol 4 nofun),(H.h5∘ol 5 nofun),(H.h6∘ol 6 nofun),(H.h7∘ol 7 nofun),(H.h8∘ol 8 nofun),(H.h9∘ol 9 nofun),(fun _=>rfl),(H.h11∘ol 11 nofun),(H.h12∘ol 12 nofun),(H.h13∘ol 13 nofun)⟩⟩
   ·clear hi hi2
    have hb:Below W.heap.size W (W.alloc (.cells (tcs zeroT) 39)):=(Below.refl _ W).alloc (Nat.le_refl _) _
    exact step_run (i:=11) (w':=(W.alloc (.cells (tcs zeroT) 39))) (v:=ptr W.heap.size) rfl rfl (by simp [execOp,Act.eval,go_sem]) ⟨_,_,_,_,_,_,_,_,_,_,_,_,_,rfl,⟨(H.m1.trans (hb.mono H.m1.size)),(H.h0∘ol 0 nofun),(H.h1∘ol 1 nofun),(H.h2∘ol 2 nofun),(H.h3∘ol 3 nofun),(H.h4∘ol 4 nofun),(H.h5∘ol 5 nofun),(H.h6∘ol 6 nofun),(fun h=>let ⟨G,q1,q2⟩:=H.h7 (ol 7 (by decide) h);⟨G,q1,q2.call hb⟩),(fun h=>let ⟨G,q1,q2⟩:=H.h8 (ol 8 (by decide) h);⟨G,q1,q2.call hb⟩),(fun h=>let ⟨G,q1,q2⟩:=H.h9 (ol 9 (by decide) h);⟨G,q1,q2.call hb⟩),(H.h10∘ol 10 nofun),(fun _=>⟨_,rfl,H.m1.size,_,Blk.new W _ _⟩),(fun h=>(not_yet hL (hcl 12 (by simp) (ol 12 (by decide) h) 11 (memOf (by kernel_rfl)))).elim),(H.h13∘ol 13 nofun)⟩⟩
   ·clear hi hi2
    have e20:=H.h9 (hdep 9 (memOf (by kernel_rfl)))
    have e7:=H.h11 (hdep 11 (memOf (by kernel_rfl)))
    obtain ⟨G,rfl,hG⟩:=e20
    obtain ⟨b,rfl,hb1,o2,hb2⟩:=e7
    have sv:=run_stTk hb2 hG.ok
    exact step_sk (i:=12) (w':=(W.setRow b (tcs G))) rfl rfl (by simp [execOp,Act.eval,go_sem,sv]) ⟨_,_,_,_,_,_,_,_,_,_,_,_,_,rfl,⟨(below_rowW H.m1 _ hb1),(H.h0∘ol 0 nofun),(H.h1∘ol 1 nofun),(H.h2∘ol 2 nofun),(H.h3∘ol 3 nofun),(H.h4∘ol 4 nofun),(H.h5∘ol 5 nofun),(H.h6∘ol 6 nofun),(fun h=>let ⟨G,q1,q2⟩:=H.h7 (ol 7 (by decide) h);⟨G,q1,q2.row hb2 (by decide) (by decide) _⟩),(fun h=>let ⟨G,q1,q2⟩:=H.h8 (ol 8 (by decide) h);⟨G,q1,q2.row hb2 (by decide) (by decide) _⟩),(fun h=>let ⟨G,q1,q2⟩:=H.h9 (ol 9 (by decide) h);⟨G,q1,q2.row hb2 (by decide) (by decide) _⟩),(H.h10∘ol 10 nofun),(fun _=>⟨b,rfl,hb1,_,hb2.row _⟩),(fun _=>⟨b,G,rfl,hb1,hb2.row _,hG.row hb2 (by decide) (by decide) _⟩),(H.h13∘ol 13 nofun)⟩⟩
   ·clear hi hi2
    have e21:=H.h10 (hdep 10 (memOf (by kernel_rfl)))
    subst e21
    exact step_run (i:=13) (w':=W) (v:=.bool true) rfl rfl (by simp [execOp,Act.eval,go_sem]) ⟨_,_,_,_,_,_,_,_,_,_,_,_,_,rfl,⟨(H.m1),(H.h0∘ol 0 nofun),(H.h1∘ol 1 nofun),(H.h2∘ol 2 nofun),(H.h3∘ol 3 nofun),(H.h4∘ol 4 nofun),(H.h5∘ol 5 nofun),(H.h6∘ol 6 nofun),(H.h7∘ol 7 nofun),(H.h8∘ol 8 nofun),(H.h9∘ol 9 nofun),(H.h10∘ol 10 nofun),(H.h11∘ol 11 nofun),(H.h12∘ol 12 nofun),(fun _=>rfl)⟩⟩
  case done =>
   rintro L a W hall ⟨x7,x8,x11,x12,x13,x14,x15,x16,x17,x18,x19,x20,x21,rfl,H⟩
   obtain ⟨bL,G,eL,hbL,BL,hG⟩:=H.h12 (hall 12 (by simp))
   have eM:=H.h13 (hall 13 (by simp))
   subst eL eM
   have HQ:=Lib.hid (show ThAt X c M w M A x w.drew.heap.size [] [] [⟨xb,xcs o t,T⟩] (ptr bL) (.bool true) W from ⟨bL,G,rfl,rfl,hG,HF0.out.drew.growW H.m1 BL hbL⟩)
   clear H hwis hxb BL hbL hall hG
   go_wp2_with fail
   go_meet
   exact HQ.out
 case rest =>
 obtain ⟨N,G,rfl,rfl,hG,F3⟩:=hcut
 have hB3:Blk wc N (tcs G) 39:=F3.l0.blk
 obtain ⟨pa,pc,hpr⟩:=Hp.own_shape hG.r1
 have c5:wc.cell? ⟨N,5,none⟩=some (.slice pa x.es.length pc):=by rw [← hpr];exact t_props hB3
 have hr1:=hG.r1
 rw [hpr] at hr1
 have hcut:=Arrs.cut_any pa pc x.es wc n F3.wis.lwAt (by have:=HFIT.out;omega) (hp_arr (Hp.esAt_own hr1) (Nat.le_refl _)) (fun e he=>(HFIT.out.2.2.2.1 e he).1) (by have:=HR0.out;omega) HR0.out.1
 unfold Arrs.CutPost at hcut
 rw [HRN.out] at hcut
 have HG:=Lib.hid hG
 have HF3:=Lib.hid F3
 have HES:=Lib.hid es_kept
 clear hG F3 hr1 hB3 HF0
 go_upto_region 4 with (go_at_call 233;(with_reducible refine hcut.mono ?_);rintro e w4 ⟨ra,rc,rfl,hra,hb⟩;have F4:=HF3.out.call hb;have hG4:=HG.out.call hb;have hB4:Blk w4 N (tcs G) 39:=F4.l0.blk;have q5:=t_props hB4;have q6:=hB4.frozen 5;have e5:=row_cell hB4 (.slice ra (leftF x.es n).length rc) (tcs_set5' G _);have F5:=F4.put (l:=[]) (tcs { G with props:=.slice ra (leftF x.es n).length rc }) (show 39 ≠ 32 by decide);have hG5:=hG4.row hB4 (by decide) (by decide) (tcs { G with props:=.slice ra (leftF x.es n).length rc });obtain ⟨w5,hw5⟩:∃ w5,w4.setCell ⟨N,5,none⟩ (.slice ra (leftF x.es n).length rc)=w5:=⟨_,rfl⟩;rw [← e5,hw5] at F5 hG5;have hes5:=HES.out w4 w5 ra (leftF x.es n) N G _ hw5 hB4 hra;have HG5:=Lib.hid hG5;have HF5:=Lib.hid F5;have HE5:=Lib.hid hes5;clear hra hb F4 hG4 hB4 e5 F5 hG5 hes5)
 have FD:=HF5.out.drew
 have hset:=wSetL FD.wis HAT.out (cp:=rc) (HE5.out) (Hp.own_below HG5.out.r2 (Below.refl _ _).drew) HG.out.eq (fun e he=>HFIT.out.2.2.2.1 e (List.mem_filter.1 he).1) (List.Nodup.sublist (List.Sublist.map _ List.filter_sublist) HFIT.out.2.2.1) (left_sub _ _)
 have xn:=x_num FD.r0
 have lt:=run_ldT FD.l0.blk
 have hst:=stW FD.wis
 have HFD:=Lib.hid FD
 clear FD
 go_cut [] from 31 to 39 (fun wx=>∃ M6,Fm X c M w M6 wx (setOb A o { x with es:=leftF x.es n }) [⟨N,tcs { G with props:=.slice ra (leftF x.es n).length rc },39⟩] [] [⟨xb,xcs o t,T⟩])
 case first =>
  go_region_with (first |(go_at_call 100;(with_reducible refine hst.mono ?_);rintro e w7 ⟨rfl,rfl⟩) |(go_at_call 199;(with_reducible refine hset.mono ?_);rintro e w8 ⟨⟨b6,rfl⟩,M6,hM6,h6,n6⟩;have HF6:=Lib.hid (HFD.out.leftW ⟨h6,n6⟩);clear h6 n6 hM6))
  all_goals (go_wp2_with fail;go_meet;exact ⟨_,HF6.out⟩)
 case rest =>
 obtain ⟨M6,F6⟩:=hcut
 have HF6:=Lib.hid F6
 clear F6
 go_wp2
 go_ret
 exact ⟨rfl,M6,HF6.out.wis,HF6.out.nx⟩
end
end Go.Proofs.YtkadkmnolkkhgaaGreatDoor.Mw
