/-
 The law MopBound.
-/
import Derived.Test.YtkadkmnolkkhgaaGreatDoorMb38
import Derived.Test.YtkadkmnolkkhgaaGreatDoorMb37
set_option linter.unusedVariables false
set_option linter.unusedSimpArgs false
namespace Go.Proofs.YtkadkmnolkkhgaaGreatDoor.Mw
open Go Go.RowKit Go.Maps Go.Shelf Keys Hp Mo
open Des (Vl Ds zeroV zeroD dcs dcs_size dcs_one accF rigF appF eqV rigR rigr_any)
open Arrs (En ecs ecs_0 ecs_10)
open Rg
theorem app_two {w:World} {a1 a2:Option Addr} {c1 c2:Nat} {xs ys:List Vl} (h1:VsAt w.heap.size a1 xs w) (h2:VsAt w.heap.size a2 ys w) (hl:xs.length+ys.length≤1000000) :
  ∃ v1 W1 a c W2,(Builtin.append_ #[22,22] 22 #[.slice none 0 0,.slice a1 xs.length c1]).run Tryz.prog w = .ok v1 W1∧(Builtin.append_ #[22,22] 22 #[v1,.slice a2 ys.length c2]).run Tryz.prog W1 = .ok (.slice a (xs++ys).length c) W2∧VsAt W2.heap.size a (xs++ys) W2∧Below w.heap.size w W1∧Below w.heap.size w W2:=by
 have out:∀ {a:Option Addr} {c:Nat} {vs:List Vl} {w:World},VsAt w.heap.size a vs w→VsOut [] w (.slice a vs.length c) vs:=fun {a c vs w} h=>⟨a,c,rfl,h.imp id fun ⟨b,off,e1,e2,e3⟩=>⟨b,off,e1,e2,by simp,e3⟩⟩
 obtain ⟨v1,W1,r1,o1,g1⟩:=app_vs (lo:=w.heap.size) (v:=.slice none 0 0) (xs:=[]) (c:=c1) (World.ownsRow_nil _ _ _ _) (out h1) (by simp only [List.length_nil];omega) (Nat.le_refl _)
 have b1:Below w.heap.size w W1:=⟨g1.os,g1.tape,g1.output,g1.size,fun k hk=>g1.block k hk (by simp [Value.ownBlock])⟩
 rw [List.nil_append] at o1
 obtain ⟨v2,W2,r2,o2,g2⟩:=app_vs (c:=c2) o1 (out ((h2.below b1).mono b1.size)) (by omega) b1.size
 obtain ⟨a,c,rfl⟩:=own_vs o2
 refine ⟨v1,W1,a,c,W2,r1,r2,vsAt_own o2,b1,⟨g2.os.trans b1.os,g2.tape.trans b1.tape,g2.output.trans b1.output,Nat.le_trans b1.size g2.size,fun k hk=>?_⟩⟩
 rw [g2.block k (Nat.lt_of_lt_of_le hk b1.size) (Keys.own_low o1 hk),b1.block k hk]
def bouO (args:List Vl) (this:Vl) (n:Int):List Ob:=[⟨freshT 0 nullV,[],[]⟩,⟨{ freshT 2 nullV with code:=4,n:=n },[],[]⟩,⟨{ freshT 2 nullV with code:=5 },[],[]⟩,⟨{ freshT 3 nullV with tg:=objV 1,ths:=this,calls:=true },[],args⟩,⟨{ freshT 3 nullV with tg:=objV 2,ths:=this,calls:=true },[],args⟩]
def bouA (args:List Vl) (this:Vl) (n:Int) (k:Nat):Aw:={ newA 50 20 10 with objs:=(bouO args this n).take k }
theorem bd_x (Xf:DoT→DoT) (args list:List Vl) (this recv:Vl) (n:Int):(doF Xf (fun _=>none) 10 12 3 { zeroQ with r:=recv,l:=list } (bouA args this n 5)).1=done (argF (args++list) n):=by kernel_rfl
theorem bd_y (Xf:DoT→DoT) (args list:List Vl) (this recv:Vl) (n:Int):(doF Xf (fun _=>none) 10 12 4 { zeroQ with r:=recv,l:=list } (doF Xf (fun _=>none) 10 12 3 { zeroQ with r:=recv,l:=list } (bouA args this n 5)).2).1=done this:=by kernel_rfl
theorem run_bdAvrl (w:World) (v r:Vl) (aa:Option Addr) (m c:Nat):(Bd 52 #[(1,.agg (vcs v)),(2,.agg (vcs r)),(4,.slice aa m c)]).run Tryz.prog w = .ok (.agg (acs { zeroQ with v:=v,r:=r } (.slice aa m c))) w:=run_build w _ _ _ (by kernel_rfl)
theorem run_bdF4 (w:World) (n:Int):(Bd 39 #[(0,.int .i64 2),(1,.agg (vcs nullV)),(2,.bool true),(4,.int .i64 4),(5,.int .i64 n)]).run Tryz.prog w = .ok (.agg (tcs { freshT 2 nullV with code:=4,n:=n })) w:=run_build w _ _ _ (by kernel_rfl)
theorem run_bdF5 (w:World):(Bd 39 #[(0,.int .i64 2),(1,.agg (vcs nullV)),(2,.bool true),(4,.int .i64 5)]).run Tryz.prog w = .ok (.agg (tcs { freshT 2 nullV with code:=5 })) w:=run_build w _ _ _ (by kernel_rfl)
theorem run_bdF0 (w:World):(Bd 39 #[(1,.agg (vcs nullV)),(2,.bool true)]).run Tryz.prog w = .ok (.agg (tcs (freshT 0 nullV))) w:=run_build w _ _ _ (by kernel_rfl)
theorem run_bdB (w:World) (tg this:Vl) (a:Option Addr) (m c:Nat):(Bd 39 #[(0,.int .i64 3),(1,.agg (vcs nullV)),(2,.bool true),(7,.agg (vcs tg)),(9,.agg (vcs this)),(10,.slice a m c),(11,.bool true)]).run Tryz.prog w = .ok (.agg (tcs { freshT 3 nullV with tg:=tg,ths:=this,calls:=true,args:=.slice a m c })) w:=run_build w _ _ _ (by kernel_rfl)
theorem bo_make {X:Cx} {c:Nat} {M:Wm} {w:World} {A A2:Aw} (h:WIs X (c+1) M w A) {th:Th} {vs:List Vl} {m:Int} (hg:Give w th [] vs) (hk:th.kind ≠ 4) (hroom:(A.objs.length:Int) < A.room) (hcr:8*A.fuel.toNat+c≤900000) (hA:makeF (bare th) [] vs A=A2) (hm:(A.objs.length:Int)=m) :
  Calls Tryz.prog 17 #[ptr M.hb,.agg (tcs th)] w fun e w'=>e = .returned (.tuple #[.int .i64 m,.bool true])∧∃ M5,WIs X c M5 w' A2∧Nx (M.bl X.wb) w (M5.bl X.wb) w':=by
 refine (wMake h hg (by simp) (by simp only [List.length_nil];omega) (fun _=>hk)).mono fun e w' hp=>?_
 unfold MakeP at hp
 rw [if_pos hroom,hm] at hp
 obtain ⟨e1,M5,-,hl⟩:=hp
 have e3:makeF (⟨bare th,[],vs⟩:Ob).th (⟨bare th,[],vs⟩:Ob).es (⟨bare th,[],vs⟩:Ob).vs A=A2:=hA
 rw [e3] at hl
 exact ⟨e1,M5,hl⟩
def boX (w:World) (wb:Nat):Cx:=⟨w,wb,.nilIface,false,0,min (max 10 0) 1000⟩
theorem bo_do {w w2:World} {wb:Nat} {M:Wm} {A:Aw} {c:Nat} (Xf:DoT→DoT) (o:Int) (q:Aq) (ql:Value) (hq:Fine q.k) (hl:VsOut (M.bl wb) w2 ql q.l) (hn:q.l.length≤100) (h:WIs (boX w wb) (c+1) M w2 A) :
  Calls Tryz.prog 19 #[ptr wb,.int .i64 12,.int .i64 o,.agg (acs q ql)] w2 (Post (boX w wb) c M w2 (doF Xf (fun _=>none) 10 12 o q A)) :=
 doIs_plain (X:=boX w wb) (by show min (max (10:Int) 0) 1000≤1000;decide) rfl rfl Xf (k:=10) (by show (0:Int)≤0;decide) (by show (0:Int)+10=min (max 10 0) 1000;decide) c M w2 A 12 o q ql h hq hl (by unfold lim;omega)
theorem vs_old {X:Cx} {c:Nat} {M:Wm} {w:World} {A:Aw} (h:WIs X c M w A) {a:Option Addr} {cp:Nat} {vs:List Vl} (hv:VsAt X.W0.heap.size a vs X.W0):VsOut (M.bl X.wb) w (.slice a vs.length cp) vs:=by
 refine ⟨a,cp,rfl,?_⟩
 rcases hv.below h.bel with hv |⟨b,off,e1,e2,e3⟩
 ·exact .inl hv
 ·exact .inr ⟨b,off,e1,Nat.lt_of_lt_of_le e2 h.bel.size,fun hm=>by have:=h.low b hm;omega,e3⟩
theorem fineZ:Fine zeroK:=⟨by decide,by decide,by decide⟩
theorem ld_at {w:World} {a:Option Addr} {vs:List Vl} {n₀:Nat} (h:VsAt n₀ a vs w) {k:Nat} {v:Vl} (hv:vs[k]? = some v):∃ b off,a=some ⟨b,off,none⟩∧b < n₀∧(Ld 30 (.pointer (some ⟨b,off+k*3,none⟩))).run Tryz.prog w = .ok (.agg (vcs v)) w:=by
 rcases h with h |⟨b,off,e1,e2,e3⟩
 ·subst h;simp at hv
 ·refine ⟨b,off,e1,e2,run_ldVm fun j u hj=>?_⟩
  have hc:=e3 (k*3+j) u (cellsV_at hv hj)
  rw [show off+k*3+j=off+(k*3+j) by omega];exact hc
structure BdQ (this recv:Vl) (a1 a2 aq:Option Addr) (c1 c2 cq:Nat) (xs ys:List Vl) (n:Int) (v1:Value) (Bm:Bool) (w0 w1 w2:World) (L:Array Bool) (x23 x24 x25 x26 x27 x28 x29 x30 x31 x32 x33 x34 x35 x36 x37 x38 x39 x40 x41 x42 x43 x44 x45 x46 x47 x48 x49 x50 x51 x52 x53 x54:Value) (W:World):Prop where
 m:At3 24 26 29 w0 w1 w2 L W
 h0:L.getD 0 false=true→x23 = .bool true
 h1:L.getD 1 false=true→x24 = .bool false
 h2:L.getD 2 false=true→x25 = .bool false
 h3:L.getD 3 false=true→x26 = .slice a1 xs.length c1
 h4:L.getD 4 false=true→x27 = .int .i64 (xs.length:Int)
 h5:L.getD 5 false=true→x28 = .bool false
 h6:L.getD 6 false=true→x29 = .bool false
 h7:L.getD 7 false=true→x30 = .bool false
 h8:L.getD 8 false=true→x31 = .slice a2 ys.length c2
 h9:L.getD 9 false=true→x32 = .int .i64 (ys.length:Int)
 h10:L.getD 10 false=true→x33 = .bool false
 h11:L.getD 11 false=true→x34 = .bool false
 h12:L.getD 12 false=true→x35 = .bool false
 h13:L.getD 13 false=true→x36 = .int .i64 n
 h14:L.getD 14 false=true→x37 = .bool false
 h15:L.getD 15 false=true→x38 = .bool false
 h16:L.getD 16 false=true→x39 = .bool false
 h17:L.getD 17 false=true→x40 = .int .i64 n
 h18:L.getD 18 false=true→x41 = .bool false
 h19:L.getD 19 false=true→x42 = .bool false
 h20:L.getD 20 false=true→x43 = .bool false
 h21:L.getD 21 false=true→x44 = .agg (vcs this)
 h22:L.getD 22 false=true→x45 = .agg (vcs recv)
 h23:L.getD 23 false=true→x46 = .slice a1 xs.length c1
 h24:L.getD 24 false=true→x47=v1
 h25:L.getD 25 false=true→x48 = .slice a2 ys.length c2
 h26:L.getD 26 false=true→x49 = .slice aq (xs++ys).length cq
 h27:L.getD 27 false=true→x50 = .agg (acs { zeroQ with v:=this,r:=recv } (.slice aq (xs++ys).length cq))
 h28:L.getD 28 false=true→x51 = .agg (actL 0 0 { zeroQ with v:=this,r:=recv } (.slice aq (xs++ys).length cq))
 h29:L.getD 29 false=true→x52 = .bool Bm
 h30:L.getD 30 false=true→x53 = .bool (!Bm)
 h31:L.getD 31 false=true→x54 = .bool (!Bm)
attribute [local go_sem ↓] ldR stR alR bxR bdR ldV stV alV bxV bdV ldA stA bxA bdA ldKy bxKy bdKy ldD stD alD bxDe bdD bxAct bdAct ldT stT alT bdT
attribute [local irreducible] rcs dcs ecs vcs acs kcs xcs tcs actL
attribute [local go_sem] run_bx run_alR run_stRg run_bdAvrl run_bdActL run_alV run_stVg run_bdN1 run_bdO6 run_bdF0 run_bdF4 run_bdF5 run_bdB run_bdV0
section
set_option maxRecDepth 100000 in
set_option maxHeartbeats 8000000 in
theorem lawBound_main (this recv:Vl) (a1 a2:Option Addr) (c1 c2:Nat) (xs ys:List Vl) (n:Int) (w:World) (hLw:Nums.Lw w) (h1:xs.length≤5) (h2:ys.length≤5) (h3:0≤n) (h4:n≤12) (hx:VsAt w.heap.size a1 xs w) (hy:VsAt w.heap.size a2 ys w) (hs:∀ v ∈ xs++ys,v.s.size≤2000000) (ht:this.s.size≤2000000) (hr:recv.s.size≤2000000) :
  Calls Tryz.prog 6 #[.agg (vcs this),.agg (vcs recv),.slice a1 xs.length c1,.slice a2 ys.length c2,.int .i64 n] w fun e w'=>e = .returned (.bool true)∧Below w.heap.size w w':=by
 have b1:Below w.heap.size w ((w.alloc (.cells (vcs this) 30)).alloc (.cells (vcs recv) 30)):=((Below.refl _ w).alloc (Nat.le_refl _) _).alloc (by simp) _
 have x1:Blk ((w.alloc (.cells (vcs this) 30)).alloc (.cells (vcs recv) 30)) w.heap.size (vcs this) 30:=(Blk.new w (vcs this) 30).old _
 have y1:Blk ((w.alloc (.cells (vcs this) 30)).alloc (.cells (vcs recv) 30)) (w.heap.size+1) (vcs recv) 30:=two_blk _ _ _ _ _
 have hal:=alive_any _ (hLw.below b1)
 have d1:decide (5 < (xs.length:Int))=false:=by simp;omega
 have d1':decide (5 < xs.length)=false:=decide_eq_false (by omega)
 have d2:decide (5 < (ys.length:Int))=false:=by simp;omega
 have d2':decide (5 < ys.length)=false:=decide_eq_false (by omega)
 have d3:decide (n < 0)=false:=decide_eq_false (by omega)
 have d4:decide (12 < n)=false:=decide_eq_false (by omega)
 have hmay:=fun (a:Option Addr) (c:Nat) (w:World) (h:VsAt w.heap.size a (xs++ys) w)=>may_list 0 0 { zeroQ with v:=this,r:=recv } a c (xs++ys) (by rw [List.length_append];omega) hs (Nat.zero_le _) ht hr (Nat.zero_le _) (Nat.zero_le _) (Nat.zero_le _) w h
 obtain ⟨Bm,hBm⟩:∃ b,mayB { zeroQ with v:=this,r:=recv } (xs++ys)=b:=⟨_,rfl⟩
 rw [hBm] at hmay
 have HMAY:=Lib.hid hmay
 have B1:=Lib.hid b1
 have X1:=Lib.hid x1
 have Y1:=Lib.hid y1
 have HLW:=Lib.hid hLw
 have HX:=Lib.hid hx
 have HY:=Lib.hid hy
 have H1:=Lib.hid h1
 have H2:=Lib.hid h2
 have H3:=Lib.hid h3
 have H4:=Lib.hid h4
 clear b1 x1 y1 hLw hx hy hs ht hr h1 h2 h3 h4 hmay hBm
 go_enter Tryz.func6,Tryz.ntmps6
 go_upto_region 2 with (go_at_call 13;(with_reducible refine hal.mono ?_);rintro e w2 ⟨rfl,hb2⟩;have x2:=X1.out.call hb2;have y2:=Y1.out.call hb2;have X2:=Lib.hid x2;have Y2:=Lib.hid y2;have B2:=Lib.hid (B1.out.trans (hb2.mono B1.out.size));clear hb2 x2 y2 hal)
 have B2d:Below w.heap.size w w2.drew:=B2.out.drew
 obtain ⟨v1,W1,aq,cq,W2,r1,r2,hq,bw1,bw2⟩:=app_two (c1:=c1) (c2:=c2) ((HX.out.below B2d).mono B2d.size) ((HY.out.below B2d).mono B2d.size) (by have:=H1.out;have:=H2.out;omega)
 have t0:=run_ldVp X2.out.drew
 have t1:=run_ldVp (X2.out.drew.call bw1)
 have t2:=run_ldVp (X2.out.drew.call bw2)
 have u0:=run_ldVp Y2.out.drew
 have u1:=run_ldVp (Y2.out.drew.call bw1)
 have u2:=run_ldVp (Y2.out.drew.call bw2)
 have hm:=HMAY.out aq cq W2 hq
 have BW2:=Lib.hid (B2d.trans (bw2.mono B2d.size))
 have HBW:=Lib.hid bw2
 clear hq bw1 bw2 B2d
 refine region_inv (by kernel_rfl) (fun L a W=>∃ x23 x24 x25 x26 x27 x28 x29 x30 x31 x32 x33 x34 x35 x36 x37 x38 x39 x40 x41 x42 x43 x44 x45 x46 x47 x48 x49 x50 x51 x52 x53 x54:Value,a={ tmps:=#[.agg (vcs this),.agg (vcs recv),.slice a1 xs.length c1,.slice a2 ys.length c2,.int .i64 n,ptr w.heap.size,ptr (w.heap.size+1),undef,undef,undef,.bool false,.bool true,undef,undef,undef,undef,undef,undef,undef,undef,undef,undef,.bool true,x23,x24,x25,x26,x27,x28,x29,x30,x31,x32,x33,x34,x35,x36,x37,x38,x39,x40,x41,x42,x43,x44,x45,x46,x47,x48,x49,x50,x51,x52,x53,x54,undef,undef,undef,undef,undef,undef,undef,undef,undef,undef,undef,undef,undef,undef,undef,undef,undef,undef,undef,undef,undef,undef,undef,undef,undef,undef,undef,undef,undef,undef,undef,undef,undef,undef,undef,undef,undef,undef,undef,undef,undef,undef,undef,undef,undef,undef,undef,undef,undef,undef,undef,undef,undef,undef,undef,undef,undef,undef,undef,undef,undef,undef,undef,undef,undef,undef,undef,undef,undef,undef,undef,undef,undef,undef,undef,undef,undef,undef,undef,undef,undef,undef,undef,undef,undef,undef,undef,undef,undef,undef,undef,undef,undef,undef,undef,undef,undef],defers:=[] }∧BdQ this recv a1 a2 aq c1 c2 cq xs ys n v1 Bm w2.drew W1 W2 L x23 x24 x25 x26 x27 x28 x29 x30 x31 x32 x33 x34 x35 x36 x37 x38 x39 x40 x41 x42 x43 x44 x45 x46 x47 x48 x49 x50 x51 x52 x53 x54 W) (by kernel_rfl) ?start ?step ?done
 case start=>exact ⟨_,_,_,_,_,_,_,_,_,_,_,_,_,_,_,_,_,_,_,_,_,_,_,_,_,_,_,_,_,_,_,_,rfl,⟨.inl ⟨by simp [Array.getD_eq_getD_getElem?],by simp [Array.getD_eq_getD_getElem?],by simp [Array.getD_eq_getD_getElem?],rfl⟩,fun h=>by simp [Array.getD_eq_getD_getElem?] at h,fun h=>by simp [Array.getD_eq_getD_getElem?] at h,fun h=>by simp [Array.getD_eq_getD_getElem?] at h,fun h=>by simp [Array.getD_eq_getD_getElem?] at h,fun h=>by simp [Array.getD_eq_getD_getElem?] at h,fun h=>by simp [Array.getD_eq_getD_getElem?] at h,fun h=>by simp [Array.getD_eq_getD_getElem?] at h,fun h=>by simp [Array.getD_eq_getD_getElem?] at h,fun h=>by simp [Array.getD_eq_getD_getElem?] at h,fun h=>by simp [Array.getD_eq_getD_getElem?] at h,fun h=>by simp [Array.getD_eq_getD_getElem?] at h,fun h=>by simp [Array.getD_eq_getD_getElem?] at h,fun h=>by simp [Array.getD_eq_getD_getElem?] at h,fun h=>by simp [Array.getD_eq_getD_getElem?] at h,fun h=>by simp [Array.getD_eq_getD_getElem?] at h,fun h=>by simp [Array.getD_eq_getD_getElem?] at h,fun h=>by simp [Array.getD_eq_getD_getElem?] at h,fun h=>by simp [Array.getD_eq_getD_getElem?] at h,fun h=>by simp [Array.getD_eq_getD_getElem?] at h,fun h=>by simp [Array.getD_eq_getD_getElem?] at h,fun h=>by simp [Array.getD_eq_getD_getElem?] at h,fun h=>by simp [Array.getD_eq_getD_getElem?] at h,fun h=>by simp [Array.getD_eq_getD_getElem?] at h,fun h=>by simp [Array.getD_eq_getD_getElem?] at h,fun h=>by simp [Array.getD_eq_getD_getElem?] at h,fun h=>by simp [Array.getD_eq_getD_getElem?] at h,fun h=>by simp [Array.getD_eq_getD_getElem?] at h,fun h=>by simp [Array.getD_eq_getD_getElem?] at h,fun h=>by simp [Array.getD_eq_getD_getElem?] at h,fun h=>by simp [Array.getD_eq_getD_getElem?] at h,fun h=>by simp [Array.getD_eq_getD_getElem?] at h,fun h=>by simp [Array.getD_eq_getD_getElem?] at h⟩⟩
 case step =>
  intro i L a W hi hdep hL hs hcl hI
  have hi2:i < 32:=by simpa using hi
  obtain ⟨x23,x24,x25,x26,x27,x28,x29,x30,x31,x32,x33,x34,x35,x36,x37,x38,x39,x40,x41,x42,x43,x44,x45,x46,x47,x48,x49,x50,x51,x52,x53,x54,rfl,H⟩:=hI
  have ol:∀ j,i ≠ j→(L.setIfInBounds i true).getD j false=true→L.getD j false=true:=fun j hj h=>by rwa [getD_set hj] at h
  have dn:∀ j d,j < 32→(depsOf .any _ j).contains d=true→L.getD j false=true→L.getD d false=true:=fun j d hj hd h=>hcl j (by simpa using hj) h d (memOf hd)
  rcases (by omega:i=0∨i=1∨i=2∨i=3∨i=4∨i=5∨i=6∨i=7∨i=8∨i=9∨i=10∨i=11∨i=12∨i=13∨i=14∨i=15∨i=16∨i=17∨i=18∨i=19∨i=20∨i=21∨i=22∨i=23∨i=24∨i=25∨i=26∨i=27∨i=28∨i=29∨i=30∨i=31) with rfl |rfl |rfl |rfl |rfl |rfl |rfl |rfl |rfl |rfl |rfl |rfl |rfl |rfl |rfl |rfl |rfl |rfl |rfl |rfl |rfl |rfl |rfl |rfl |rfl |rfl |rfl |rfl |rfl |rfl |rfl |rfl
  ·clear hi hi2
   exact step_run (i:=0) (w':=W) (v:=.bool true) rfl rfl (by simp [execOp,Act.eval,go_sem]) ⟨_,_,_,_,_,_,_,_,_,_,_,_,_,_,_,_,_,_,_,_,_,_,_,_,_,_,_,_,_,_,_,_,rfl,⟨(H.m.keep (by decide) (by decide) (by decide)),(fun _=>rfl),(H.h1 ∘ ol 1 nofun),(H.h2 ∘ ol 2 nofun),(H.h3 ∘ ol 3 nofun),(H.h4 ∘ ol 4 nofun),(H.h5 ∘ ol 5 nofun),(H.h6 ∘ ol 6 nofun),(H.h7 ∘ ol 7 nofun),(H.h8 ∘ ol 8 nofun),(H.h9 ∘ ol 9 nofun),(H.h10 ∘ ol 10 nofun),(H.h11 ∘ ol 11 nofun),(H.h12 ∘ ol 12 nofun),(H.h13 ∘ ol 13 nofun),(H.h14 ∘ ol 14 nofun),(H.h15 ∘ ol 15 nofun),(H.h16 ∘ ol 16 nofun),(H.h17 ∘ ol 17 nofun),(H.h18 ∘ ol 18 nofun),(H.h19 ∘ ol 19 nofun),(H.h20 ∘ ol 20 nofun),(H.h21 ∘ ol 21 nofun),(H.h22 ∘ ol 22 nofun),(H.h23 ∘ ol 23 nofun),(H.h24 ∘ ol 24 nofun),(H.h25 ∘ ol 25 nofun),(H.h26 ∘ ol 26 nofun),(H.h27 ∘ ol 27 nofun),(H.h28 ∘ ol 28 nofun),(H.h29 ∘ ol 29 nofun),(H.h30 ∘ ol 30 nofun),(H.h31 ∘ ol 31 nofun)⟩⟩
  ·clear hi hi2
   have e0:=H.h0 (hdep 0 (memOf (by kernel_rfl)))
   subst e0
   exact step_run (i:=1) (w':=W) (v:=.bool false) rfl rfl (by simp [execOp,Act.eval,go_sem]) ⟨_,_,_,_,_,_,_,_,_,_,_,_,_,_,_,_,_,_,_,_,_,_,_,_,_,_,_,_,_,_,_,_,rfl,⟨(H.m.keep (by decide) (by decide) (by decide)),(H.h0 ∘ ol 0 nofun),(fun _=>rfl),(H.h2 ∘ ol 2 nofun),(H.h3 ∘ ol 3 nofun),(H.h4 ∘ ol 4 nofun),(H.h5 ∘ ol 5 nofun),(H.h6 ∘ ol 6 nofun),(H.h7 ∘ ol 7 nofun),(H.h8 ∘ ol 8 nofun),(H.h9 ∘ ol 9 nofun),(H.h10 ∘ ol 10 nofun),(H.h11 ∘ ol 11 nofun),(H.h12 ∘ ol 12 nofun),(H.h13 ∘ ol 13 nofun),(H.h14 ∘ ol 14 nofun),(H.h15 ∘ ol 15 nofun),(H.h16 ∘ ol 16 nofun),(H.h17 ∘ ol 17 nofun),(H.h18 ∘ ol 18 nofun),(H.h19 ∘ ol 19 nofun),(H.h20 ∘ ol 20 nofun),(H.h21 ∘ ol 21 nofun),(H.h22 ∘ ol 22 nofun),(H.h23 ∘ ol 23 nofun),(H.h24 ∘ ol 24 nofun),(H.h25 ∘ ol 25 nofun),(H.h26 ∘ ol 26 nofun),(H.h27 ∘ ol 27 nofun),(H.h28 ∘ ol 28 nofun),(H.h29 ∘ ol 29 nofun),(H.h30 ∘ ol 30 nofun),(H.h31 ∘ ol 31 nofun)⟩⟩
  ·clear hi hi2
   have e1:=H.h1 (hdep 1 (memOf (by kernel_rfl)))
   subst e1
   exact step_run (i:=2) (w':=W) (v:=.bool false) rfl rfl (by simp [execOp,Act.eval,go_sem]) ⟨_,_,_,_,_,_,_,_,_,_,_,_,_,_,_,_,_,_,_,_,_,_,_,_,_,_,_,_,_,_,_,_,rfl,⟨(H.m.keep (by decide) (by decide) (by decide)),(H.h0 ∘ ol 0 nofun),(H.h1 ∘ ol 1 nofun),(fun _=>rfl),(H.h3 ∘ ol 3 nofun),(H.h4 ∘ ol 4 nofun),(H.h5 ∘ ol 5 nofun),(H.h6 ∘ ol 6 nofun),(H.h7 ∘ ol 7 nofun),(H.h8 ∘ ol 8 nofun),(H.h9 ∘ ol 9 nofun),(H.h10 ∘ ol 10 nofun),(H.h11 ∘ ol 11 nofun),(H.h12 ∘ ol 12 nofun),(H.h13 ∘ ol 13 nofun),(H.h14 ∘ ol 14 nofun),(H.h15 ∘ ol 15 nofun),(H.h16 ∘ ol 16 nofun),(H.h17 ∘ ol 17 nofun),(H.h18 ∘ ol 18 nofun),(H.h19 ∘ ol 19 nofun),(H.h20 ∘ ol 20 nofun),(H.h21 ∘ ol 21 nofun),(H.h22 ∘ ol 22 nofun),(H.h23 ∘ ol 23 nofun),(H.h24 ∘ ol 24 nofun),(H.h25 ∘ ol 25 nofun),(H.h26 ∘ ol 26 nofun),(H.h27 ∘ ol 27 nofun),(H.h28 ∘ ol 28 nofun),(H.h29 ∘ ol 29 nofun),(H.h30 ∘ ol 30 nofun),(H.h31 ∘ ol 31 nofun)⟩⟩
  ·clear hi hi2
   have e2:=H.h2 (hdep 2 (memOf (by kernel_rfl)))
   subst e2
   exact step_runW (i:=3) (w':=W) (v:=.slice a1 xs.length c1) rfl (by simp [Region.wanted,yielded]) (by simp [execOp,Act.eval,go_sem]) ⟨_,_,_,_,_,_,_,_,_,_,_,_,_,_,_,_,_,_,_,_,_,_,_,_,_,_,_,_,_,_,_,_,rfl,⟨(H.m.keep (by decide) (by decide) (by decide)),(H.h0 ∘ ol 0 nofun),(H.h1 ∘ ol 1 nofun),(H.h2 ∘ ol 2 nofun),(fun _=>rfl),(H.h4 ∘ ol 4 nofun),(H.h5 ∘ ol 5 nofun),(H.h6 ∘ ol 6 nofun),(H.h7 ∘ ol 7 nofun),(H.h8 ∘ ol 8 nofun),(H.h9 ∘ ol 9 nofun),(H.h10 ∘ ol 10 nofun),(H.h11 ∘ ol 11 nofun),(H.h12 ∘ ol 12 nofun),(H.h13 ∘ ol 13 nofun),(H.h14 ∘ ol 14 nofun),(H.h15 ∘ ol 15 nofun),(H.h16 ∘ ol 16 nofun),(H.h17 ∘ ol 17 nofun),(H.h18 ∘ ol 18 nofun),(H.h19 ∘ ol 19 nofun),(H.h20 ∘ ol 20 nofun),(H.h21 ∘ ol 21 nofun),(H.h22 ∘ ol 22 nofun),(H.h23 ∘ ol 23 nofun),(H.h24 ∘ ol 24 nofun),(H.h25 ∘ ol 25 nofun),(H.h26 ∘ ol 26 nofun),(H.h27 ∘ ol 27 nofun),(H.h28 ∘ ol 28 nofun),(H.h29 ∘ ol 29 nofun),(H.h30 ∘ ol 30 nofun),(H.h31 ∘ ol 31 nofun)⟩⟩
  ·clear hi hi2
   have e2:=H.h2 (hdep 2 (memOf (by kernel_rfl)))
   have e3:=H.h3 (hdep 3 (memOf (by kernel_rfl)))
   subst e2 e3
   exact step_runW (i:=4) (w':=W) (v:=.int .i64 (xs.length:Int)) rfl (by simp [Region.wanted,yielded]) (by simp [execOp,Act.eval,go_sem]) ⟨_,_,_,_,_,_,_,_,_,_,_,_,_,_,_,_,_,_,_,_,_,_,_,_,_,_,_,_,_,_,_,_,rfl,⟨(H.m.keep (by decide) (by decide) (by decide)),(H.h0 ∘ ol 0 nofun),(H.h1 ∘ ol 1 nofun),(H.h2 ∘ ol 2 nofun),(H.h3 ∘ ol 3 nofun),(fun _=>rfl),(H.h5 ∘ ol 5 nofun),(H.h6 ∘ ol 6 nofun),(H.h7 ∘ ol 7 nofun),(H.h8 ∘ ol 8 nofun),(H.h9 ∘ ol 9 nofun),(H.h10 ∘ ol 10 nofun),(H.h11 ∘ ol 11 nofun),(H.h12 ∘ ol 12 nofun),(H.h13 ∘ ol 13 nofun),(H.h14 ∘ ol 14 nofun),(H.h15 ∘ ol 15 nofun),(H.h16 ∘ ol 16 nofun),(H.h17 ∘ ol 17 nofun),(H.h18 ∘ ol 18 nofun),(H.h19 ∘ ol 19 nofun),(H.h20 ∘ ol 20 nofun),(H.h21 ∘ ol 21 nofun),(H.h22 ∘ ol 22 nofun),(H.h23 ∘ ol 23 nofun),(H.h24 ∘ ol 24 nofun),(H.h25 ∘ ol 25 nofun),(H.h26 ∘ ol 26 nofun),(H.h27 ∘ ol 27 nofun),(H.h28 ∘ ol 28 nofun),(H.h29 ∘ ol 29 nofun),(H.h30 ∘ ol 30 nofun),(H.h31 ∘ ol 31 nofun)⟩⟩
  ·clear hi hi2
   have e2:=H.h2 (hdep 2 (memOf (by kernel_rfl)))
   have e4:=H.h4 (hdep 4 (memOf (by kernel_rfl)))
   subst e2 e4
   exact step_runW (i:=5) (w':=W) (v:=.bool false) rfl (by simp [Region.wanted,yielded]) (by simp [execOp,Act.eval,go_sem];have:=H1.out;omega) ⟨_,_,_,_,_,_,_,_,_,_,_,_,_,_,_,_,_,_,_,_,_,_,_,_,_,_,_,_,_,_,_,_,rfl,⟨(H.m.keep (by decide) (by decide) (by decide)),(H.h0 ∘ ol 0 nofun),(H.h1 ∘ ol 1 nofun),(H.h2 ∘ ol 2 nofun),(H.h3 ∘ ol 3 nofun),(H.h4 ∘ ol 4 nofun),(fun _=>rfl),(H.h6 ∘ ol 6 nofun),(H.h7 ∘ ol 7 nofun),(H.h8 ∘ ol 8 nofun),(H.h9 ∘ ol 9 nofun),(H.h10 ∘ ol 10 nofun),(H.h11 ∘ ol 11 nofun),(H.h12 ∘ ol 12 nofun),(H.h13 ∘ ol 13 nofun),(H.h14 ∘ ol 14 nofun),(H.h15 ∘ ol 15 nofun),(H.h16 ∘ ol 16 nofun),(H.h17 ∘ ol 17 nofun),(H.h18 ∘ ol 18 nofun),(H.h19 ∘ ol 19 nofun),(H.h20 ∘ ol 20 nofun),(H.h21 ∘ ol 21 nofun),(H.h22 ∘ ol 22 nofun),(H.h23 ∘ ol 23 nofun),(H.h24 ∘ ol 24 nofun),(H.h25 ∘ ol 25 nofun),(H.h26 ∘ ol 26 nofun),(H.h27 ∘ ol 27 nofun),(H.h28 ∘ ol 28 nofun),(H.h29 ∘ ol 29 nofun),(H.h30 ∘ ol 30 nofun),(H.h31 ∘ ol 31 nofun)⟩⟩
  ·clear hi hi2
   have e2:=H.h2 (hdep 2 (memOf (by kernel_rfl)))
   have e5:=H.h5 (hdep 5 (memOf (by kernel_rfl)))
   subst e2 e5
   exact step_run (i:=6) (w':=W) (v:=.bool false) rfl rfl (by simp [execOp,Act.eval,go_sem]) ⟨_,_,_,_,_,_,_,_,_,_,_,_,_,_,_,_,_,_,_,_,_,_,_,_,_,_,_,_,_,_,_,_,rfl,⟨(H.m.keep (by decide) (by decide) (by decide)),(H.h0 ∘ ol 0 nofun),(H.h1 ∘ ol 1 nofun),(H.h2 ∘ ol 2 nofun),(H.h3 ∘ ol 3 nofun),(H.h4 ∘ ol 4 nofun),(H.h5 ∘ ol 5 nofun),(fun _=>rfl),(H.h7 ∘ ol 7 nofun),(H.h8 ∘ ol 8 nofun),(H.h9 ∘ ol 9 nofun),(H.h10 ∘ ol 10 nofun),(H.h11 ∘ ol 11 nofun),(H.h12 ∘ ol 12 nofun),(H.h13 ∘ ol 13 nofun),(H.h14 ∘ ol 14 nofun),(H.h15 ∘ ol 15 nofun),(H.h16 ∘ ol 16 nofun),(H.h17 ∘ ol 17 nofun),(H.h18 ∘ ol 18 nofun),(H.h19 ∘ ol 19 nofun),(H.h20 ∘ ol 20 nofun),(H.h21 ∘ ol 21 nofun),(H.h22 ∘ ol 22 nofun),(H.h23 ∘ ol 23 nofun),(H.h24 ∘ ol 24 nofun),(H.h25 ∘ ol 25 nofun),(H.h26 ∘ ol 26 nofun),(H.h27 ∘ ol 27 nofun),(H.h28 ∘ ol 28 nofun),(H.h29 ∘ ol 29 nofun),(H.h30 ∘ ol 30 nofun),(H.h31 ∘ ol 31 nofun)⟩⟩
  ·clear hi hi2
   have e6:=H.h6 (hdep 6 (memOf (by kernel_rfl)))
   subst e6
   exact step_run (i:=7) (w':=W) (v:=.bool false) rfl rfl (by simp [execOp,Act.eval,go_sem]) ⟨_,_,_,_,_,_,_,_,_,_,_,_,_,_,_,_,_,_,_,_,_,_,_,_,_,_,_,_,_,_,_,_,rfl,⟨(H.m.keep (by decide) (by decide) (by decide)),(H.h0 ∘ ol 0 nofun),(H.h1 ∘ ol 1 nofun),(H.h2 ∘ ol 2 nofun),(H.h3 ∘ ol 3 nofun),(H.h4 ∘ ol 4 nofun),(H.h5 ∘ ol 5 nofun),(H.h6 ∘ ol 6 nofun),(fun _=>rfl),(H.h8 ∘ ol 8 nofun),(H.h9 ∘ ol 9 nofun),(H.h10 ∘ ol 10 nofun),(H.h11 ∘ ol 11 nofun),(H.h12 ∘ ol 12 nofun),(H.h13 ∘ ol 13 nofun),(H.h14 ∘ ol 14 nofun),(H.h15 ∘ ol 15 nofun),(H.h16 ∘ ol 16 nofun),(H.h17 ∘ ol 17 nofun),(H.h18 ∘ ol 18 nofun),(H.h19 ∘ ol 19 nofun),(H.h20 ∘ ol 20 nofun),(H.h21 ∘ ol 21 nofun),(H.h22 ∘ ol 22 nofun),(H.h23 ∘ ol 23 nofun),(H.h24 ∘ ol 24 nofun),(H.h25 ∘ ol 25 nofun),(H.h26 ∘ ol 26 nofun),(H.h27 ∘ ol 27 nofun),(H.h28 ∘ ol 28 nofun),(H.h29 ∘ ol 29 nofun),(H.h30 ∘ ol 30 nofun),(H.h31 ∘ ol 31 nofun)⟩⟩
  ·clear hi hi2
   have e7:=H.h7 (hdep 7 (memOf (by kernel_rfl)))
   subst e7
   exact step_runW (i:=8) (w':=W) (v:=.slice a2 ys.length c2) rfl (by simp [Region.wanted,yielded]) (by simp [execOp,Act.eval,go_sem]) ⟨_,_,_,_,_,_,_,_,_,_,_,_,_,_,_,_,_,_,_,_,_,_,_,_,_,_,_,_,_,_,_,_,rfl,⟨(H.m.keep (by decide) (by decide) (by decide)),(H.h0 ∘ ol 0 nofun),(H.h1 ∘ ol 1 nofun),(H.h2 ∘ ol 2 nofun),(H.h3 ∘ ol 3 nofun),(H.h4 ∘ ol 4 nofun),(H.h5 ∘ ol 5 nofun),(H.h6 ∘ ol 6 nofun),(H.h7 ∘ ol 7 nofun),(fun _=>rfl),(H.h9 ∘ ol 9 nofun),(H.h10 ∘ ol 10 nofun),(H.h11 ∘ ol 11 nofun),(H.h12 ∘ ol 12 nofun),(H.h13 ∘ ol 13 nofun),(H.h14 ∘ ol 14 nofun),(H.h15 ∘ ol 15 nofun),(H.h16 ∘ ol 16 nofun),(H.h17 ∘ ol 17 nofun),(H.h18 ∘ ol 18 nofun),(H.h19 ∘ ol 19 nofun),(H.h20 ∘ ol 20 nofun),(H.h21 ∘ ol 21 nofun),(H.h22 ∘ ol 22 nofun),(H.h23 ∘ ol 23 nofun),(H.h24 ∘ ol 24 nofun),(H.h25 ∘ ol 25 nofun),(H.h26 ∘ ol 26 nofun),(H.h27 ∘ ol 27 nofun),(H.h28 ∘ ol 28 nofun),(H.h29 ∘ ol 29 nofun),(H.h30 ∘ ol 30 nofun),(H.h31 ∘ ol 31 nofun)⟩⟩
  ·clear hi hi2
   have e7:=H.h7 (hdep 7 (memOf (by kernel_rfl)))
   have e8:=H.h8 (hdep 8 (memOf (by kernel_rfl)))
   subst e7 e8
   exact step_runW (i:=9) (w':=W) (v:=.int .i64 (ys.length:Int)) rfl (by simp [Region.wanted,yielded]) (by simp [execOp,Act.eval,go_sem]) ⟨_,_,_,_,_,_,_,_,_,_,_,_,_,_,_,_,_,_,_,_,_,_,_,_,_,_,_,_,_,_,_,_,rfl,⟨(H.m.keep (by decide) (by decide) (by decide)),(H.h0 ∘ ol 0 nofun),(H.h1 ∘ ol 1 nofun),(H.h2 ∘ ol 2 nofun),(H.h3 ∘ ol 3 nofun),(H.h4 ∘ ol 4 nofun),(H.h5 ∘ ol 5 nofun),(H.h6 ∘ ol 6 nofun),(H.h7 ∘ ol 7 nofun),(H.h8 ∘ ol 8 nofun),(fun _=>rfl),(H.h10 ∘ ol 10 nofun),(H.h11 ∘ ol 11 nofun),(H.h12 ∘ ol 12 nofun),(H.h13 ∘ ol 13 nofun),(H.h14 ∘ ol 14 nofun),(H.h15 ∘ ol 15 nofun),(H.h16 ∘ ol 16 nofun),(H.h17 ∘ ol 17 nofun),(H.h18 ∘ ol 18 nofun),(H.h19 ∘ ol 19 nofun),(H.h20 ∘ ol 20 nofun),(H.h21 ∘ ol 21 nofun),(H.h22 ∘ ol 22 nofun),(H.h23 ∘ ol 23 nofun),(H.h24 ∘ ol 24 nofun),(H.h25 ∘ ol 25 nofun),(H.h26 ∘ ol 26 nofun),(H.h27 ∘ ol 27 nofun),(H.h28 ∘ ol 28 nofun),(H.h29 ∘ ol 29 nofun),(H.h30 ∘ ol 30 nofun),(H.h31 ∘ ol 31 nofun)⟩⟩
  ·clear hi hi2
   have e7:=H.h7 (hdep 7 (memOf (by kernel_rfl)))
   have e9:=H.h9 (hdep 9 (memOf (by kernel_rfl)))
   subst e7 e9
   exact step_runW (i:=10) (w':=W) (v:=.bool false) rfl (by simp [Region.wanted,yielded]) (by simp [execOp,Act.eval,go_sem];have:=H2.out;omega) ⟨_,_,_,_,_,_,_,_,_,_,_,_,_,_,_,_,_,_,_,_,_,_,_,_,_,_,_,_,_,_,_,_,rfl,⟨(H.m.keep (by decide) (by decide) (by decide)),(H.h0 ∘ ol 0 nofun),(H.h1 ∘ ol 1 nofun),(H.h2 ∘ ol 2 nofun),(H.h3 ∘ ol 3 nofun),(H.h4 ∘ ol 4 nofun),(H.h5 ∘ ol 5 nofun),(H.h6 ∘ ol 6 nofun),(H.h7 ∘ ol 7 nofun),(H.h8 ∘ ol 8 nofun),(H.h9 ∘ ol 9 nofun),(fun _=>rfl),(H.h11 ∘ ol 11 nofun),(H.h12 ∘ ol 12 nofun),(H.h13 ∘ ol 13 nofun),(H.h14 ∘ ol 14 nofun),(H.h15 ∘ ol 15 nofun),(H.h16 ∘ ol 16 nofun),(H.h17 ∘ ol 17 nofun),(H.h18 ∘ ol 18 nofun),(H.h19 ∘ ol 19 nofun),(H.h20 ∘ ol 20 nofun),(H.h21 ∘ ol 21 nofun),(H.h22 ∘ ol 22 nofun),(H.h23 ∘ ol 23 nofun),(H.h24 ∘ ol 24 nofun),(H.h25 ∘ ol 25 nofun),(H.h26 ∘ ol 26 nofun),(H.h27 ∘ ol 27 nofun),(H.h28 ∘ ol 28 nofun),(H.h29 ∘ ol 29 nofun),(H.h30 ∘ ol 30 nofun),(H.h31 ∘ ol 31 nofun)⟩⟩
  ·clear hi hi2
   have e7:=H.h7 (hdep 7 (memOf (by kernel_rfl)))
   have e10:=H.h10 (hdep 10 (memOf (by kernel_rfl)))
   subst e7 e10
   exact step_run (i:=11) (w':=W) (v:=.bool false) rfl rfl (by simp [execOp,Act.eval,go_sem]) ⟨_,_,_,_,_,_,_,_,_,_,_,_,_,_,_,_,_,_,_,_,_,_,_,_,_,_,_,_,_,_,_,_,rfl,⟨(H.m.keep (by decide) (by decide) (by decide)),(H.h0 ∘ ol 0 nofun),(H.h1 ∘ ol 1 nofun),(H.h2 ∘ ol 2 nofun),(H.h3 ∘ ol 3 nofun),(H.h4 ∘ ol 4 nofun),(H.h5 ∘ ol 5 nofun),(H.h6 ∘ ol 6 nofun),(H.h7 ∘ ol 7 nofun),(H.h8 ∘ ol 8 nofun),(H.h9 ∘ ol 9 nofun),(H.h10 ∘ ol 10 nofun),(fun _=>rfl),(H.h12 ∘ ol 12 nofun),(H.h13 ∘ ol 13 nofun),(H.h14 ∘ ol 14 nofun),(H.h15 ∘ ol 15 nofun),(H.h16 ∘ ol 16 nofun),(H.h17 ∘ ol 17 nofun),(H.h18 ∘ ol 18 nofun),(H.h19 ∘ ol 19 nofun),(H.h20 ∘ ol 20 nofun),(H.h21 ∘ ol 21 nofun),(H.h22 ∘ ol 22 nofun),(H.h23 ∘ ol 23 nofun),(H.h24 ∘ ol 24 nofun),(H.h25 ∘ ol 25 nofun),(H.h26 ∘ ol 26 nofun),(H.h27 ∘ ol 27 nofun),(H.h28 ∘ ol 28 nofun),(H.h29 ∘ ol 29 nofun),(H.h30 ∘ ol 30 nofun),(H.h31 ∘ ol 31 nofun)⟩⟩
  ·clear hi hi2
   have e11:=H.h11 (hdep 11 (memOf (by kernel_rfl)))
   subst e11
   exact step_run (i:=12) (w':=W) (v:=.bool false) rfl rfl (by simp [execOp,Act.eval,go_sem]) ⟨_,_,_,_,_,_,_,_,_,_,_,_,_,_,_,_,_,_,_,_,_,_,_,_,_,_,_,_,_,_,_,_,rfl,⟨(H.m.keep (by decide) (by decide) (by decide)),(H.h0 ∘ ol 0 nofun),(H.h1 ∘ ol 1 nofun),(H.h2 ∘ ol 2 nofun),(H.h3 ∘ ol 3 nofun),(H.h4 ∘ ol 4 nofun),(H.h5 ∘ ol 5 nofun),(H.h6 ∘ ol 6 nofun),(H.h7 ∘ ol 7 nofun),(H.h8 ∘ ol 8 nofun),(H.h9 ∘ ol 9 nofun),(H.h10 ∘ ol 10 nofun),(H.h11 ∘ ol 11 nofun),(fun _=>rfl),(H.h13 ∘ ol 13 nofun),(H.h14 ∘ ol 14 nofun),(H.h15 ∘ ol 15 nofun),(H.h16 ∘ ol 16 nofun),(H.h17 ∘ ol 17 nofun),(H.h18 ∘ ol 18 nofun),(H.h19 ∘ ol 19 nofun),(H.h20 ∘ ol 20 nofun),(H.h21 ∘ ol 21 nofun),(H.h22 ∘ ol 22 nofun),(H.h23 ∘ ol 23 nofun),(H.h24 ∘ ol 24 nofun),(H.h25 ∘ ol 25 nofun),(H.h26 ∘ ol 26 nofun),(H.h27 ∘ ol 27 nofun),(H.h28 ∘ ol 28 nofun),(H.h29 ∘ ol 29 nofun),(H.h30 ∘ ol 30 nofun),(H.h31 ∘ ol 31 nofun)⟩⟩
  ·clear hi hi2
   have e12:=H.h12 (hdep 12 (memOf (by kernel_rfl)))
   subst e12
   exact step_runW (i:=13) (w':=W) (v:=.int .i64 n) rfl (by simp [Region.wanted,yielded]) (by simp [execOp,Act.eval,go_sem]) ⟨_,_,_,_,_,_,_,_,_,_,_,_,_,_,_,_,_,_,_,_,_,_,_,_,_,_,_,_,_,_,_,_,rfl,⟨(H.m.keep (by decide) (by decide) (by decide)),(H.h0 ∘ ol 0 nofun),(H.h1 ∘ ol 1 nofun),(H.h2 ∘ ol 2 nofun),(H.h3 ∘ ol 3 nofun),(H.h4 ∘ ol 4 nofun),(H.h5 ∘ ol 5 nofun),(H.h6 ∘ ol 6 nofun),(H.h7 ∘ ol 7 nofun),(H.h8 ∘ ol 8 nofun),(H.h9 ∘ ol 9 nofun),(H.h10 ∘ ol 10 nofun),(H.h11 ∘ ol 11 nofun),(H.h12 ∘ ol 12 nofun),(fun _=>rfl),(H.h14 ∘ ol 14 nofun),(H.h15 ∘ ol 15 nofun),(H.h16 ∘ ol 16 nofun),(H.h17 ∘ ol 17 nofun),(H.h18 ∘ ol 18 nofun),(H.h19 ∘ ol 19 nofun),(H.h20 ∘ ol 20 nofun),(H.h21 ∘ ol 21 nofun),(H.h22 ∘ ol 22 nofun),(H.h23 ∘ ol 23 nofun),(H.h24 ∘ ol 24 nofun),(H.h25 ∘ ol 25 nofun),(H.h26 ∘ ol 26 nofun),(H.h27 ∘ ol 27 nofun),(H.h28 ∘ ol 28 nofun),(H.h29 ∘ ol 29 nofun),(H.h30 ∘ ol 30 nofun),(H.h31 ∘ ol 31 nofun)⟩⟩
  ·clear hi hi2
   have e12:=H.h12 (hdep 12 (memOf (by kernel_rfl)))
   have e13:=H.h13 (hdep 13 (memOf (by kernel_rfl)))
   subst e12 e13
   exact step_runW (i:=14) (w':=W) (v:=.bool false) rfl (by simp [Region.wanted,yielded]) (by simp [execOp,Act.eval,go_sem];exact H3.out) ⟨_,_,_,_,_,_,_,_,_,_,_,_,_,_,_,_,_,_,_,_,_,_,_,_,_,_,_,_,_,_,_,_,rfl,⟨(H.m.keep (by decide) (by decide) (by decide)),(H.h0 ∘ ol 0 nofun),(H.h1 ∘ ol 1 nofun),(H.h2 ∘ ol 2 nofun),(H.h3 ∘ ol 3 nofun),(H.h4 ∘ ol 4 nofun),(H.h5 ∘ ol 5 nofun),(H.h6 ∘ ol 6 nofun),(H.h7 ∘ ol 7 nofun),(H.h8 ∘ ol 8 nofun),(H.h9 ∘ ol 9 nofun),(H.h10 ∘ ol 10 nofun),(H.h11 ∘ ol 11 nofun),(H.h12 ∘ ol 12 nofun),(H.h13 ∘ ol 13 nofun),(fun _=>rfl),(H.h15 ∘ ol 15 nofun),(H.h16 ∘ ol 16 nofun),(H.h17 ∘ ol 17 nofun),(H.h18 ∘ ol 18 nofun),(H.h19 ∘ ol 19 nofun),(H.h20 ∘ ol 20 nofun),(H.h21 ∘ ol 21 nofun),(H.h22 ∘ ol 22 nofun),(H.h23 ∘ ol 23 nofun),(H.h24 ∘ ol 24 nofun),(H.h25 ∘ ol 25 nofun),(H.h26 ∘ ol 26 nofun),(H.h27 ∘ ol 27 nofun),(H.h28 ∘ ol 28 nofun),(H.h29 ∘ ol 29 nofun),(H.h30 ∘ ol 30 nofun),(H.h31 ∘ ol 31 nofun)⟩⟩
  ·clear hi hi2
   have e12:=H.h12 (hdep 12 (memOf (by kernel_rfl)))
   have e14:=H.h14 (hdep 14 (memOf (by kernel_rfl)))
   subst e12 e14
   exact step_run (i:=15) (w':=W) (v:=.bool false) rfl rfl (by simp [execOp,Act.eval,go_sem]) ⟨_,_,_,_,_,_,_,_,_,_,_,_,_,_,_,_,_,_,_,_,_,_,_,_,_,_,_,_,_,_,_,_,rfl,⟨(H.m.keep (by decide) (by decide) (by decide)),(H.h0 ∘ ol 0 nofun),(H.h1 ∘ ol 1 nofun),(H.h2 ∘ ol 2 nofun),(H.h3 ∘ ol 3 nofun),(H.h4 ∘ ol 4 nofun),(H.h5 ∘ ol 5 nofun),(H.h6 ∘ ol 6 nofun),(H.h7 ∘ ol 7 nofun),(H.h8 ∘ ol 8 nofun),(H.h9 ∘ ol 9 nofun),(H.h10 ∘ ol 10 nofun),(H.h11 ∘ ol 11 nofun),(H.h12 ∘ ol 12 nofun),(H.h13 ∘ ol 13 nofun),(H.h14 ∘ ol 14 nofun),(fun _=>rfl),(H.h16 ∘ ol 16 nofun),(H.h17 ∘ ol 17 nofun),(H.h18 ∘ ol 18 nofun),(H.h19 ∘ ol 19 nofun),(H.h20 ∘ ol 20 nofun),(H.h21 ∘ ol 21 nofun),(H.h22 ∘ ol 22 nofun),(H.h23 ∘ ol 23 nofun),(H.h24 ∘ ol 24 nofun),(H.h25 ∘ ol 25 nofun),(H.h26 ∘ ol 26 nofun),(H.h27 ∘ ol 27 nofun),(H.h28 ∘ ol 28 nofun),(H.h29 ∘ ol 29 nofun),(H.h30 ∘ ol 30 nofun),(H.h31 ∘ ol 31 nofun)⟩⟩
  ·clear hi hi2
   have e15:=H.h15 (hdep 15 (memOf (by kernel_rfl)))
   subst e15
   exact step_run (i:=16) (w':=W) (v:=.bool false) rfl rfl (by simp [execOp,Act.eval,go_sem]) ⟨_,_,_,_,_,_,_,_,_,_,_,_,_,_,_,_,_,_,_,_,_,_,_,_,_,_,_,_,_,_,_,_,rfl,⟨(H.m.keep (by decide) (by decide) (by decide)),(H.h0 ∘ ol 0 nofun),(H.h1 ∘ ol 1 nofun),(H.h2 ∘ ol 2 nofun),(H.h3 ∘ ol 3 nofun),(H.h4 ∘ ol 4 nofun),(H.h5 ∘ ol 5 nofun),(H.h6 ∘ ol 6 nofun),(H.h7 ∘ ol 7 nofun),(H.h8 ∘ ol 8 nofun),(H.h9 ∘ ol 9 nofun),(H.h10 ∘ ol 10 nofun),(H.h11 ∘ ol 11 nofun),(H.h12 ∘ ol 12 nofun),(H.h13 ∘ ol 13 nofun),(H.h14 ∘ ol 14 nofun),(H.h15 ∘ ol 15 nofun),(fun _=>rfl),(H.h17 ∘ ol 17 nofun),(H.h18 ∘ ol 18 nofun),(H.h19 ∘ ol 19 nofun),(H.h20 ∘ ol 20 nofun),(H.h21 ∘ ol 21 nofun),(H.h22 ∘ ol 22 nofun),(H.h23 ∘ ol 23 nofun),(H.h24 ∘ ol 24 nofun),(H.h25 ∘ ol 25 nofun),(H.h26 ∘ ol 26 nofun),(H.h27 ∘ ol 27 nofun),(H.h28 ∘ ol 28 nofun),(H.h29 ∘ ol 29 nofun),(H.h30 ∘ ol 30 nofun),(H.h31 ∘ ol 31 nofun)⟩⟩
  ·clear hi hi2
   have e16:=H.h16 (hdep 16 (memOf (by kernel_rfl)))
   subst e16
   exact step_runW (i:=17) (w':=W) (v:=.int .i64 n) rfl (by simp [Region.wanted,yielded]) (by simp [execOp,Act.eval,go_sem]) ⟨_,_,_,_,_,_,_,_,_,_,_,_,_,_,_,_,_,_,_,_,_,_,_,_,_,_,_,_,_,_,_,_,rfl,⟨(H.m.keep (by decide) (by decide) (by decide)),(H.h0 ∘ ol 0 nofun),(H.h1 ∘ ol 1 nofun),(H.h2 ∘ ol 2 nofun),(H.h3 ∘ ol 3 nofun),(H.h4 ∘ ol 4 nofun),(H.h5 ∘ ol 5 nofun),(H.h6 ∘ ol 6 nofun),(H.h7 ∘ ol 7 nofun),(H.h8 ∘ ol 8 nofun),(H.h9 ∘ ol 9 nofun),(H.h10 ∘ ol 10 nofun),(H.h11 ∘ ol 11 nofun),(H.h12 ∘ ol 12 nofun),(H.h13 ∘ ol 13 nofun),(H.h14 ∘ ol 14 nofun),(H.h15 ∘ ol 15 nofun),(H.h16 ∘ ol 16 nofun),(fun _=>rfl),(H.h18 ∘ ol 18 nofun),(H.h19 ∘ ol 19 nofun),(H.h20 ∘ ol 20 nofun),(H.h21 ∘ ol 21 nofun),(H.h22 ∘ ol 22 nofun),(H.h23 ∘ ol 23 nofun),(H.h24 ∘ ol 24 nofun),(H.h25 ∘ ol 25 nofun),(H.h26 ∘ ol 26 nofun),(H.h27 ∘ ol 27 nofun),(H.h28 ∘ ol 28 nofun),(H.h29 ∘ ol 29 nofun),(H.h30 ∘ ol 30 nofun),(H.h31 ∘ ol 31 nofun)⟩⟩
  ·clear hi hi2
   have e16:=H.h16 (hdep 16 (memOf (by kernel_rfl)))
   have e17:=H.h17 (hdep 17 (memOf (by kernel_rfl)))
   subst e16 e17
   exact step_runW (i:=18) (w':=W) (v:=.bool false) rfl (by simp [Region.wanted,yielded]) (by simp [execOp,Act.eval,go_sem];exact H4.out) ⟨_,_,_,_,_,_,_,_,_,_,_,_,_,_,_,_,_,_,_,_,_,_,_,_,_,_,_,_,_,_,_,_,rfl,⟨(H.m.keep (by decide) (by decide) (by decide)),(H.h0 ∘ ol 0 nofun),(H.h1 ∘ ol 1 nofun),(H.h2 ∘ ol 2 nofun),(H.h3 ∘ ol 3 nofun),(H.h4 ∘ ol 4 nofun),(H.h5 ∘ ol 5 nofun),(H.h6 ∘ ol 6 nofun),(H.h7 ∘ ol 7 nofun),(H.h8 ∘ ol 8 nofun),(H.h9 ∘ ol 9 nofun),(H.h10 ∘ ol 10 nofun),(H.h11 ∘ ol 11 nofun),(H.h12 ∘ ol 12 nofun),(H.h13 ∘ ol 13 nofun),(H.h14 ∘ ol 14 nofun),(H.h15 ∘ ol 15 nofun),(H.h16 ∘ ol 16 nofun),(H.h17 ∘ ol 17 nofun),(fun _=>rfl),(H.h19 ∘ ol 19 nofun),(H.h20 ∘ ol 20 nofun),(H.h21 ∘ ol 21 nofun),(H.h22 ∘ ol 22 nofun),(H.h23 ∘ ol 23 nofun),(H.h24 ∘ ol 24 nofun),(H.h25 ∘ ol 25 nofun),(H.h26 ∘ ol 26 nofun),(H.h27 ∘ ol 27 nofun),(H.h28 ∘ ol 28 nofun),(H.h29 ∘ ol 29 nofun),(H.h30 ∘ ol 30 nofun),(H.h31 ∘ ol 31 nofun)⟩⟩
  ·clear hi hi2
   have e16:=H.h16 (hdep 16 (memOf (by kernel_rfl)))
   have e18:=H.h18 (hdep 18 (memOf (by kernel_rfl)))
   subst e16 e18
   exact step_run (i:=19) (w':=W) (v:=.bool false) rfl rfl (by simp [execOp,Act.eval,go_sem]) ⟨_,_,_,_,_,_,_,_,_,_,_,_,_,_,_,_,_,_,_,_,_,_,_,_,_,_,_,_,_,_,_,_,rfl,⟨(H.m.keep (by decide) (by decide) (by decide)),(H.h0 ∘ ol 0 nofun),(H.h1 ∘ ol 1 nofun),(H.h2 ∘ ol 2 nofun),(H.h3 ∘ ol 3 nofun),(H.h4 ∘ ol 4 nofun),(H.h5 ∘ ol 5 nofun),(H.h6 ∘ ol 6 nofun),(H.h7 ∘ ol 7 nofun),(H.h8 ∘ ol 8 nofun),(H.h9 ∘ ol 9 nofun),(H.h10 ∘ ol 10 nofun),(H.h11 ∘ ol 11 nofun),(H.h12 ∘ ol 12 nofun),(H.h13 ∘ ol 13 nofun),(H.h14 ∘ ol 14 nofun),(H.h15 ∘ ol 15 nofun),(H.h16 ∘ ol 16 nofun),(H.h17 ∘ ol 17 nofun),(H.h18 ∘ ol 18 nofun),(fun _=>rfl),(H.h20 ∘ ol 20 nofun),(H.h21 ∘ ol 21 nofun),(H.h22 ∘ ol 22 nofun),(H.h23 ∘ ol 23 nofun),(H.h24 ∘ ol 24 nofun),(H.h25 ∘ ol 25 nofun),(H.h26 ∘ ol 26 nofun),(H.h27 ∘ ol 27 nofun),(H.h28 ∘ ol 28 nofun),(H.h29 ∘ ol 29 nofun),(H.h30 ∘ ol 30 nofun),(H.h31 ∘ ol 31 nofun)⟩⟩
  ·clear hi hi2
   have e19:=H.h19 (hdep 19 (memOf (by kernel_rfl)))
   subst e19
   exact step_run (i:=20) (w':=W) (v:=.bool false) rfl rfl (by simp [execOp,Act.eval,go_sem]) ⟨_,_,_,_,_,_,_,_,_,_,_,_,_,_,_,_,_,_,_,_,_,_,_,_,_,_,_,_,_,_,_,_,rfl,⟨(H.m.keep (by decide) (by decide) (by decide)),(H.h0 ∘ ol 0 nofun),(H.h1 ∘ ol 1 nofun),(H.h2 ∘ ol 2 nofun),(H.h3 ∘ ol 3 nofun),(H.h4 ∘ ol 4 nofun),(H.h5 ∘ ol 5 nofun),(H.h6 ∘ ol 6 nofun),(H.h7 ∘ ol 7 nofun),(H.h8 ∘ ol 8 nofun),(H.h9 ∘ ol 9 nofun),(H.h10 ∘ ol 10 nofun),(H.h11 ∘ ol 11 nofun),(H.h12 ∘ ol 12 nofun),(H.h13 ∘ ol 13 nofun),(H.h14 ∘ ol 14 nofun),(H.h15 ∘ ol 15 nofun),(H.h16 ∘ ol 16 nofun),(H.h17 ∘ ol 17 nofun),(H.h18 ∘ ol 18 nofun),(H.h19 ∘ ol 19 nofun),(fun _=>rfl),(H.h21 ∘ ol 21 nofun),(H.h22 ∘ ol 22 nofun),(H.h23 ∘ ol 23 nofun),(H.h24 ∘ ol 24 nofun),(H.h25 ∘ ol 25 nofun),(H.h26 ∘ ol 26 nofun),(H.h27 ∘ ol 27 nofun),(H.h28 ∘ ol 28 nofun),(H.h29 ∘ ol 29 nofun),(H.h30 ∘ ol 30 nofun),(H.h31 ∘ ol 31 nofun)⟩⟩
  ·clear hi hi2
   have e20:=H.h20 (hdep 20 (memOf (by kernel_rfl)))
   subst e20
   have n29:L.getD 29 false=false:=by
    cases hh:L.getD 29 false
    ·rfl
    ·have q28:=dn 29 28 (by decide) (by kernel_rfl) hh
     have q27:=dn 28 27 (by decide) (by kernel_rfl) q28
     exact (not_yet hL (dn 27 21 (by decide) (by kernel_rfl) q27)).elim
   have cq:(Ld 30 (.pointer (some ⟨w.heap.size,0,none⟩))).run Tryz.prog W = .ok (.agg (vcs this)) W:=by
    rcases H.m with ⟨-,-,-,rfl⟩ |⟨-,-,-,rfl⟩ |⟨-,-,-,rfl⟩ |⟨-,-,h,-⟩
    ·exact t0
    ·exact t1
    ·exact t2
    ·rw [n29] at h;cases h
   exact step_runW (i:=21) (w':=W) (v:=.agg (vcs this)) rfl (by simp [Region.wanted,yielded]) (by simp [execOp,Act.eval,go_sem,cq]) ⟨_,_,_,_,_,_,_,_,_,_,_,_,_,_,_,_,_,_,_,_,_,_,_,_,_,_,_,_,_,_,_,_,rfl,⟨(H.m.keep (by decide) (by decide) (by decide)),(H.h0 ∘ ol 0 nofun),(H.h1 ∘ ol 1 nofun),(H.h2 ∘ ol 2 nofun),(H.h3 ∘ ol 3 nofun),(H.h4 ∘ ol 4 nofun),(H.h5 ∘ ol 5 nofun),(H.h6 ∘ ol 6 nofun),(H.h7 ∘ ol 7 nofun),(H.h8 ∘ ol 8 nofun),(H.h9 ∘ ol 9 nofun),(H.h10 ∘ ol 10 nofun),(H.h11 ∘ ol 11 nofun),(H.h12 ∘ ol 12 nofun),(H.h13 ∘ ol 13 nofun),(H.h14 ∘ ol 14 nofun),(H.h15 ∘ ol 15 nofun),(H.h16 ∘ ol 16 nofun),(H.h17 ∘ ol 17 nofun),(H.h18 ∘ ol 18 nofun),(H.h19 ∘ ol 19 nofun),(H.h20 ∘ ol 20 nofun),(fun _=>rfl),(H.h22 ∘ ol 22 nofun),(H.h23 ∘ ol 23 nofun),(H.h24 ∘ ol 24 nofun),(H.h25 ∘ ol 25 nofun),(H.h26 ∘ ol 26 nofun),(H.h27 ∘ ol 27 nofun),(H.h28 ∘ ol 28 nofun),(H.h29 ∘ ol 29 nofun),(H.h30 ∘ ol 30 nofun),(H.h31 ∘ ol 31 nofun)⟩⟩
  ·clear hi hi2
   have e20:=H.h20 (hdep 20 (memOf (by kernel_rfl)))
   subst e20
   have n29:L.getD 29 false=false:=by
    cases hh:L.getD 29 false
    ·rfl
    ·have q28:=dn 29 28 (by decide) (by kernel_rfl) hh
     have q27:=dn 28 27 (by decide) (by kernel_rfl) q28
     exact (not_yet hL (dn 27 22 (by decide) (by kernel_rfl) q27)).elim
   have cq:(Ld 30 (.pointer (some ⟨w.heap.size+1,0,none⟩))).run Tryz.prog W = .ok (.agg (vcs recv)) W:=by
    rcases H.m with ⟨-,-,-,rfl⟩ |⟨-,-,-,rfl⟩ |⟨-,-,-,rfl⟩ |⟨-,-,h,-⟩
    ·exact u0
    ·exact u1
    ·exact u2
    ·rw [n29] at h;cases h
   exact step_runW (i:=22) (w':=W) (v:=.agg (vcs recv)) rfl (by simp [Region.wanted,yielded]) (by simp [execOp,Act.eval,go_sem,cq]) ⟨_,_,_,_,_,_,_,_,_,_,_,_,_,_,_,_,_,_,_,_,_,_,_,_,_,_,_,_,_,_,_,_,rfl,⟨(H.m.keep (by decide) (by decide) (by decide)),(H.h0 ∘ ol 0 nofun),(H.h1 ∘ ol 1 nofun),(H.h2 ∘ ol 2 nofun),(H.h3 ∘ ol 3 nofun),(H.h4 ∘ ol 4 nofun),(H.h5 ∘ ol 5 nofun),(H.h6 ∘ ol 6 nofun),(H.h7 ∘ ol 7 nofun),(H.h8 ∘ ol 8 nofun),(H.h9 ∘ ol 9 nofun),(H.h10 ∘ ol 10 nofun),(H.h11 ∘ ol 11 nofun),(H.h12 ∘ ol 12 nofun),(H.h13 ∘ ol 13 nofun),(H.h14 ∘ ol 14 nofun),(H.h15 ∘ ol 15 nofun),(H.h16 ∘ ol 16 nofun),(H.h17 ∘ ol 17 nofun),(H.h18 ∘ ol 18 nofun),(H.h19 ∘ ol 19 nofun),(H.h20 ∘ ol 20 nofun),(H.h21 ∘ ol 21 nofun),(fun _=>rfl),(H.h23 ∘ ol 23 nofun),(H.h24 ∘ ol 24 nofun),(H.h25 ∘ ol 25 nofun),(H.h26 ∘ ol 26 nofun),(H.h27 ∘ ol 27 nofun),(H.h28 ∘ ol 28 nofun),(H.h29 ∘ ol 29 nofun),(H.h30 ∘ ol 30 nofun),(H.h31 ∘ ol 31 nofun)⟩⟩
  ·clear hi hi2
   have e20:=H.h20 (hdep 20 (memOf (by kernel_rfl)))
   subst e20
   exact step_runW (i:=23) (w':=W) (v:=.slice a1 xs.length c1) rfl (by simp [Region.wanted,yielded]) (by simp [execOp,Act.eval,go_sem]) ⟨_,_,_,_,_,_,_,_,_,_,_,_,_,_,_,_,_,_,_,_,_,_,_,_,_,_,_,_,_,_,_,_,rfl,⟨(H.m.keep (by decide) (by decide) (by decide)),(H.h0 ∘ ol 0 nofun),(H.h1 ∘ ol 1 nofun),(H.h2 ∘ ol 2 nofun),(H.h3 ∘ ol 3 nofun),(H.h4 ∘ ol 4 nofun),(H.h5 ∘ ol 5 nofun),(H.h6 ∘ ol 6 nofun),(H.h7 ∘ ol 7 nofun),(H.h8 ∘ ol 8 nofun),(H.h9 ∘ ol 9 nofun),(H.h10 ∘ ol 10 nofun),(H.h11 ∘ ol 11 nofun),(H.h12 ∘ ol 12 nofun),(H.h13 ∘ ol 13 nofun),(H.h14 ∘ ol 14 nofun),(H.h15 ∘ ol 15 nofun),(H.h16 ∘ ol 16 nofun),(H.h17 ∘ ol 17 nofun),(H.h18 ∘ ol 18 nofun),(H.h19 ∘ ol 19 nofun),(H.h20 ∘ ol 20 nofun),(H.h21 ∘ ol 21 nofun),(H.h22 ∘ ol 22 nofun),(fun _=>rfl),(H.h24 ∘ ol 24 nofun),(H.h25 ∘ ol 25 nofun),(H.h26 ∘ ol 26 nofun),(H.h27 ∘ ol 27 nofun),(H.h28 ∘ ol 28 nofun),(H.h29 ∘ ol 29 nofun),(H.h30 ∘ ol 30 nofun),(H.h31 ∘ ol 31 nofun)⟩⟩
  ·clear hi hi2
   have e20:=H.h20 (hdep 20 (memOf (by kernel_rfl)))
   have e23:=H.h23 (hdep 23 (memOf (by kernel_rfl)))
   subst e20 e23
   have n29:L.getD 29 false=false:=by
    cases hh:L.getD 29 false
    ·rfl
    ·have q28:=dn 29 28 (by decide) (by kernel_rfl) hh
     have q27:=dn 28 27 (by decide) (by kernel_rfl) q28
     exact (not_yet hL (dn 26 24 (by decide) (by kernel_rfl) (dn 27 26 (by decide) (by kernel_rfl) q27))).elim
   have n24:L.getD 24 false=false:=getD_no hL
   obtain ⟨n26,rfl⟩:L.getD 26 false=false∧W=w2.drew:=by
    rcases H.m with ⟨-,h,-,rfl⟩ |⟨h,-⟩ |⟨h,-⟩ |⟨h,-⟩
    ·exact ⟨h,rfl⟩
    all_goals (rw [n24] at h;cases h)
   exact step_runW (i:=24) (w':=W1) (v:=v1) rfl (by simp [Region.wanted,yielded]) (by simp [execOp,Act.eval,resolve,invoke,builtin,r1,Result.andThen]) ⟨_,_,_,_,_,_,_,_,_,_,_,_,_,_,_,_,_,_,_,_,_,_,_,_,_,_,_,_,_,_,_,_,rfl,⟨(.inr (.inl ⟨getD_same (by rw [hs];simp),by rw [getD_set (by decide)];exact n26,by rw [getD_set (by decide)];exact n29,rfl⟩)),(H.h0 ∘ ol 0 nofun),(H.h1 ∘ ol 1 nofun),(H.h2 ∘ ol 2 nofun),(H.h3 ∘ ol 3 nofun),(H.h4 ∘ ol 4 nofun),(H.h5 ∘ ol 5 nofun),(H.h6 ∘ ol 6 nofun),(H.h7 ∘ ol 7 nofun),(H.h8 ∘ ol 8 nofun),(H.h9 ∘ ol 9 nofun),(H.h10 ∘ ol 10 nofun),(H.h11 ∘ ol 11 nofun),(H.h12 ∘ ol 12 nofun),(H.h13 ∘ ol 13 nofun),(H.h14 ∘ ol 14 nofun),(H.h15 ∘ ol 15 nofun),(H.h16 ∘ ol 16 nofun),(H.h17 ∘ ol 17 nofun),(H.h18 ∘ ol 18 nofun),(H.h19 ∘ ol 19 nofun),(H.h20 ∘ ol 20 nofun),(H.h21 ∘ ol 21 nofun),(H.h22 ∘ ol 22 nofun),(H.h23 ∘ ol 23 nofun),(fun _=>rfl),(H.h25 ∘ ol 25 nofun),(H.h26 ∘ ol 26 nofun),(H.h27 ∘ ol 27 nofun),(H.h28 ∘ ol 28 nofun),(H.h29 ∘ ol 29 nofun),(H.h30 ∘ ol 30 nofun),(H.h31 ∘ ol 31 nofun)⟩⟩
  ·clear hi hi2
   have e20:=H.h20 (hdep 20 (memOf (by kernel_rfl)))
   subst e20
   exact step_runW (i:=25) (w':=W) (v:=.slice a2 ys.length c2) rfl (by simp [Region.wanted,yielded]) (by simp [execOp,Act.eval,go_sem]) ⟨_,_,_,_,_,_,_,_,_,_,_,_,_,_,_,_,_,_,_,_,_,_,_,_,_,_,_,_,_,_,_,_,rfl,⟨(H.m.keep (by decide) (by decide) (by decide)),(H.h0 ∘ ol 0 nofun),(H.h1 ∘ ol 1 nofun),(H.h2 ∘ ol 2 nofun),(H.h3 ∘ ol 3 nofun),(H.h4 ∘ ol 4 nofun),(H.h5 ∘ ol 5 nofun),(H.h6 ∘ ol 6 nofun),(H.h7 ∘ ol 7 nofun),(H.h8 ∘ ol 8 nofun),(H.h9 ∘ ol 9 nofun),(H.h10 ∘ ol 10 nofun),(H.h11 ∘ ol 11 nofun),(H.h12 ∘ ol 12 nofun),(H.h13 ∘ ol 13 nofun),(H.h14 ∘ ol 14 nofun),(H.h15 ∘ ol 15 nofun),(H.h16 ∘ ol 16 nofun),(H.h17 ∘ ol 17 nofun),(H.h18 ∘ ol 18 nofun),(H.h19 ∘ ol 19 nofun),(H.h20 ∘ ol 20 nofun),(H.h21 ∘ ol 21 nofun),(H.h22 ∘ ol 22 nofun),(H.h23 ∘ ol 23 nofun),(H.h24 ∘ ol 24 nofun),(fun _=>rfl),(H.h26 ∘ ol 26 nofun),(H.h27 ∘ ol 27 nofun),(H.h28 ∘ ol 28 nofun),(H.h29 ∘ ol 29 nofun),(H.h30 ∘ ol 30 nofun),(H.h31 ∘ ol 31 nofun)⟩⟩
  ·clear hi hi2
   have e20:=H.h20 (hdep 20 (memOf (by kernel_rfl)))
   have e24:=H.h24 (hdep 24 (memOf (by kernel_rfl)))
   have e25:=H.h25 (hdep 25 (memOf (by kernel_rfl)))
   subst e20 e24 e25
   have n29:L.getD 29 false=false:=by
    cases hh:L.getD 29 false
    ·rfl
    ·have q28:=dn 29 28 (by decide) (by kernel_rfl) hh
     have q27:=dn 28 27 (by decide) (by kernel_rfl) q28
     exact (not_yet hL (dn 27 26 (by decide) (by kernel_rfl) q27)).elim
   have n26:L.getD 26 false=false:=getD_no hL
   have q24:=hdep 24 (memOf (by kernel_rfl))
   obtain rfl:W=W1:=by
    rcases H.m with ⟨h,-⟩ |⟨-,-,-,rfl⟩ |⟨-,h,-⟩ |⟨-,h,-⟩
    ·rw [q24] at h;cases h
    ·rfl
    all_goals (rw [n26] at h;cases h)
   exact step_runW (i:=26) (w':=W2) (v:=.slice aq (xs++ys).length cq) rfl (by simp [Region.wanted,yielded]) (by simp [execOp,Act.eval,resolve,invoke,builtin,r2,Result.andThen]) ⟨_,_,_,_,_,_,_,_,_,_,_,_,_,_,_,_,_,_,_,_,_,_,_,_,_,_,_,_,_,_,_,_,rfl,⟨(.inr (.inr (.inl ⟨by rw [getD_set (by decide)];exact q24,getD_same (by rw [hs];simp),by rw [getD_set (by decide)];exact n29,rfl⟩))),(H.h0 ∘ ol 0 nofun),(H.h1 ∘ ol 1 nofun),(H.h2 ∘ ol 2 nofun),(H.h3 ∘ ol 3 nofun),(H.h4 ∘ ol 4 nofun),(H.h5 ∘ ol 5 nofun),(H.h6 ∘ ol 6 nofun),(H.h7 ∘ ol 7 nofun),(H.h8 ∘ ol 8 nofun),(H.h9 ∘ ol 9 nofun),(H.h10 ∘ ol 10 nofun),(H.h11 ∘ ol 11 nofun),(H.h12 ∘ ol 12 nofun),(H.h13 ∘ ol 13 nofun),(H.h14 ∘ ol 14 nofun),(H.h15 ∘ ol 15 nofun),(H.h16 ∘ ol 16 nofun),(H.h17 ∘ ol 17 nofun),(H.h18 ∘ ol 18 nofun),(H.h19 ∘ ol 19 nofun),(H.h20 ∘ ol 20 nofun),(H.h21 ∘ ol 21 nofun),(H.h22 ∘ ol 22 nofun),(H.h23 ∘ ol 23 nofun),(H.h24 ∘ ol 24 nofun),(H.h25 ∘ ol 25 nofun),(fun _=>rfl),(H.h27 ∘ ol 27 nofun),(H.h28 ∘ ol 28 nofun),(H.h29 ∘ ol 29 nofun),(H.h30 ∘ ol 30 nofun),(H.h31 ∘ ol 31 nofun)⟩⟩
  ·clear hi hi2
   have e20:=H.h20 (hdep 20 (memOf (by kernel_rfl)))
   have e21:=H.h21 (hdep 21 (memOf (by kernel_rfl)))
   have e22:=H.h22 (hdep 22 (memOf (by kernel_rfl)))
   have e26:=H.h26 (hdep 26 (memOf (by kernel_rfl)))
   subst e20 e21 e22 e26
   exact step_runW (i:=27) (w':=W) (v:=.agg (acs { zeroQ with v:=this,r:=recv } (.slice aq (xs++ys).length cq))) rfl (by simp [Region.wanted,yielded]) (by simp [execOp,Act.eval,go_sem]) ⟨_,_,_,_,_,_,_,_,_,_,_,_,_,_,_,_,_,_,_,_,_,_,_,_,_,_,_,_,_,_,_,_,rfl,⟨(H.m.keep (by decide) (by decide) (by decide)),(H.h0 ∘ ol 0 nofun),(H.h1 ∘ ol 1 nofun),(H.h2 ∘ ol 2 nofun),(H.h3 ∘ ol 3 nofun),(H.h4 ∘ ol 4 nofun),(H.h5 ∘ ol 5 nofun),(H.h6 ∘ ol 6 nofun),(H.h7 ∘ ol 7 nofun),(H.h8 ∘ ol 8 nofun),(H.h9 ∘ ol 9 nofun),(H.h10 ∘ ol 10 nofun),(H.h11 ∘ ol 11 nofun),(H.h12 ∘ ol 12 nofun),(H.h13 ∘ ol 13 nofun),(H.h14 ∘ ol 14 nofun),(H.h15 ∘ ol 15 nofun),(H.h16 ∘ ol 16 nofun),(H.h17 ∘ ol 17 nofun),(H.h18 ∘ ol 18 nofun),(H.h19 ∘ ol 19 nofun),(H.h20 ∘ ol 20 nofun),(H.h21 ∘ ol 21 nofun),(H.h22 ∘ ol 22 nofun),(H.h23 ∘ ol 23 nofun),(H.h24 ∘ ol 24 nofun),(H.h25 ∘ ol 25 nofun),(H.h26 ∘ ol 26 nofun),(fun _=>rfl),(H.h28 ∘ ol 28 nofun),(H.h29 ∘ ol 29 nofun),(H.h30 ∘ ol 30 nofun),(H.h31 ∘ ol 31 nofun)⟩⟩
  ·clear hi hi2
   have e20:=H.h20 (hdep 20 (memOf (by kernel_rfl)))
   have e27:=H.h27 (hdep 27 (memOf (by kernel_rfl)))
   subst e20 e27
   exact step_runW (i:=28) (w':=W) (v:=.agg (actL 0 0 { zeroQ with v:=this,r:=recv } (.slice aq (xs++ys).length cq))) rfl (by simp [Region.wanted,yielded]) (by simp [execOp,Act.eval,go_sem]) ⟨_,_,_,_,_,_,_,_,_,_,_,_,_,_,_,_,_,_,_,_,_,_,_,_,_,_,_,_,_,_,_,_,rfl,⟨(H.m.keep (by decide) (by decide) (by decide)),(H.h0 ∘ ol 0 nofun),(H.h1 ∘ ol 1 nofun),(H.h2 ∘ ol 2 nofun),(H.h3 ∘ ol 3 nofun),(H.h4 ∘ ol 4 nofun),(H.h5 ∘ ol 5 nofun),(H.h6 ∘ ol 6 nofun),(H.h7 ∘ ol 7 nofun),(H.h8 ∘ ol 8 nofun),(H.h9 ∘ ol 9 nofun),(H.h10 ∘ ol 10 nofun),(H.h11 ∘ ol 11 nofun),(H.h12 ∘ ol 12 nofun),(H.h13 ∘ ol 13 nofun),(H.h14 ∘ ol 14 nofun),(H.h15 ∘ ol 15 nofun),(H.h16 ∘ ol 16 nofun),(H.h17 ∘ ol 17 nofun),(H.h18 ∘ ol 18 nofun),(H.h19 ∘ ol 19 nofun),(H.h20 ∘ ol 20 nofun),(H.h21 ∘ ol 21 nofun),(H.h22 ∘ ol 22 nofun),(H.h23 ∘ ol 23 nofun),(H.h24 ∘ ol 24 nofun),(H.h25 ∘ ol 25 nofun),(H.h26 ∘ ol 26 nofun),(H.h27 ∘ ol 27 nofun),(fun _=>rfl),(H.h29 ∘ ol 29 nofun),(H.h30 ∘ ol 30 nofun),(H.h31 ∘ ol 31 nofun)⟩⟩
  ·clear hi hi2
   have e20:=H.h20 (hdep 20 (memOf (by kernel_rfl)))
   have e28:=H.h28 (hdep 28 (memOf (by kernel_rfl)))
   subst e20 e28
   have n29:L.getD 29 false=false:=getD_no hL
   have q26:=dn 27 26 (by decide) (by kernel_rfl) (dn 28 27 (by decide) (by kernel_rfl) (hdep 28 (memOf (by kernel_rfl))))
   have q24:=dn 26 24 (by decide) (by kernel_rfl) q26
   obtain rfl:W=W2:=by
    rcases H.m with ⟨h,-⟩ |⟨-,h,-⟩ |⟨-,-,-,rfl⟩ |⟨-,-,h,-⟩
    ·rw [q24] at h;cases h
    ·rw [q26] at h;cases h
    ·rfl
    ·rw [n29] at h;cases h
   refine step_callW (i:=29) (f:=18) (args:=#[.agg (actL 0 0 { zeroQ with v:=this,r:=recv } (.slice aq (xs++ys).length cq)),.int .i64 1]) rfl (by simp [Region.wanted,yielded]) (by simp [execOp,Act.eval,go_sem]) hm ?_
   rintro e W3 ⟨rfl,hb⟩
   exact ⟨_,rfl,⟨_,_,_,_,_,_,_,_,_,_,_,_,_,_,_,_,_,_,_,_,_,_,_,_,_,_,_,_,_,_,_,_,rfl,⟨(.inr (.inr (.inr ⟨by rw [getD_set (by decide)];exact q24,by rw [getD_set (by decide)];exact q26,getD_same (by rw [hs];simp),hb⟩))),(H.h0 ∘ ol 0 nofun),(H.h1 ∘ ol 1 nofun),(H.h2 ∘ ol 2 nofun),(H.h3 ∘ ol 3 nofun),(H.h4 ∘ ol 4 nofun),(H.h5 ∘ ol 5 nofun),(H.h6 ∘ ol 6 nofun),(H.h7 ∘ ol 7 nofun),(H.h8 ∘ ol 8 nofun),(H.h9 ∘ ol 9 nofun),(H.h10 ∘ ol 10 nofun),(H.h11 ∘ ol 11 nofun),(H.h12 ∘ ol 12 nofun),(H.h13 ∘ ol 13 nofun),(H.h14 ∘ ol 14 nofun),(H.h15 ∘ ol 15 nofun),(H.h16 ∘ ol 16 nofun),(H.h17 ∘ ol 17 nofun),(H.h18 ∘ ol 18 nofun),(H.h19 ∘ ol 19 nofun),(H.h20 ∘ ol 20 nofun),(H.h21 ∘ ol 21 nofun),(H.h22 ∘ ol 22 nofun),(H.h23 ∘ ol 23 nofun),(H.h24 ∘ ol 24 nofun),(H.h25 ∘ ol 25 nofun),(H.h26 ∘ ol 26 nofun),(H.h27 ∘ ol 27 nofun),(H.h28 ∘ ol 28 nofun),(fun _=>rfl),(H.h30 ∘ ol 30 nofun),(H.h31 ∘ ol 31 nofun)⟩⟩⟩
  ·clear hi hi2
   have e20:=H.h20 (hdep 20 (memOf (by kernel_rfl)))
   have e29:=H.h29 (hdep 29 (memOf (by kernel_rfl)))
   subst e20 e29
   exact step_runW (i:=30) (w':=W) (v:=.bool (!Bm)) rfl (by simp [Region.wanted,yielded]) (by simp [execOp,Act.eval,go_sem]) ⟨_,_,_,_,_,_,_,_,_,_,_,_,_,_,_,_,_,_,_,_,_,_,_,_,_,_,_,_,_,_,_,_,rfl,⟨(H.m.keep (by decide) (by decide) (by decide)),(H.h0 ∘ ol 0 nofun),(H.h1 ∘ ol 1 nofun),(H.h2 ∘ ol 2 nofun),(H.h3 ∘ ol 3 nofun),(H.h4 ∘ ol 4 nofun),(H.h5 ∘ ol 5 nofun),(H.h6 ∘ ol 6 nofun),(H.h7 ∘ ol 7 nofun),(H.h8 ∘ ol 8 nofun),(H.h9 ∘ ol 9 nofun),(H.h10 ∘ ol 10 nofun),(H.h11 ∘ ol 11 nofun),(H.h12 ∘ ol 12 nofun),(H.h13 ∘ ol 13 nofun),(H.h14 ∘ ol 14 nofun),(H.h15 ∘ ol 15 nofun),(H.h16 ∘ ol 16 nofun),(H.h17 ∘ ol 17 nofun),(H.h18 ∘ ol 18 nofun),(H.h19 ∘ ol 19 nofun),(H.h20 ∘ ol 20 nofun),(H.h21 ∘ ol 21 nofun),(H.h22 ∘ ol 22 nofun),(H.h23 ∘ ol 23 nofun),(H.h24 ∘ ol 24 nofun),(H.h25 ∘ ol 25 nofun),(H.h26 ∘ ol 26 nofun),(H.h27 ∘ ol 27 nofun),(H.h28 ∘ ol 28 nofun),(H.h29 ∘ ol 29 nofun),(fun _=>rfl),(H.h31 ∘ ol 31 nofun)⟩⟩
  ·clear hi hi2
   have e20:=H.h20 (hdep 20 (memOf (by kernel_rfl)))
   have e30:=H.h30 (hdep 30 (memOf (by kernel_rfl)))
   subst e20 e30
   exact step_run (i:=31) (w':=W) (v:=.bool (!Bm)) rfl rfl (by simp [execOp,Act.eval,go_sem]) ⟨_,_,_,_,_,_,_,_,_,_,_,_,_,_,_,_,_,_,_,_,_,_,_,_,_,_,_,_,_,_,_,_,rfl,⟨(H.m.keep (by decide) (by decide) (by decide)),(H.h0 ∘ ol 0 nofun),(H.h1 ∘ ol 1 nofun),(H.h2 ∘ ol 2 nofun),(H.h3 ∘ ol 3 nofun),(H.h4 ∘ ol 4 nofun),(H.h5 ∘ ol 5 nofun),(H.h6 ∘ ol 6 nofun),(H.h7 ∘ ol 7 nofun),(H.h8 ∘ ol 8 nofun),(H.h9 ∘ ol 9 nofun),(H.h10 ∘ ol 10 nofun),(H.h11 ∘ ol 11 nofun),(H.h12 ∘ ol 12 nofun),(H.h13 ∘ ol 13 nofun),(H.h14 ∘ ol 14 nofun),(H.h15 ∘ ol 15 nofun),(H.h16 ∘ ol 16 nofun),(H.h17 ∘ ol 17 nofun),(H.h18 ∘ ol 18 nofun),(H.h19 ∘ ol 19 nofun),(H.h20 ∘ ol 20 nofun),(H.h21 ∘ ol 21 nofun),(H.h22 ∘ ol 22 nofun),(H.h23 ∘ ol 23 nofun),(H.h24 ∘ ol 24 nofun),(H.h25 ∘ ol 25 nofun),(H.h26 ∘ ol 26 nofun),(H.h27 ∘ ol 27 nofun),(H.h28 ∘ ol 28 nofun),(H.h29 ∘ ol 29 nofun),(H.h30 ∘ ol 30 nofun),(fun _=>rfl)⟩⟩
 case done =>
  rintro L a W hall ⟨x23,x24,x25,x26,x27,x28,x29,x30,x31,x32,x33,x34,x35,x36,x37,x38,x39,x40,x41,x42,x43,x44,x45,x46,x47,x48,x49,x50,x51,x52,x53,x54,rfl,H⟩
  have e0:=H.h0 (hall 0 (by simp))
  have e1:=H.h1 (hall 1 (by simp))
  have e2:=H.h2 (hall 2 (by simp))
  have e3:=H.h3 (hall 3 (by simp))
  have e4:=H.h4 (hall 4 (by simp))
  have e5:=H.h5 (hall 5 (by simp))
  have e6:=H.h6 (hall 6 (by simp))
  have e7:=H.h7 (hall 7 (by simp))
  have e8:=H.h8 (hall 8 (by simp))
  have e9:=H.h9 (hall 9 (by simp))
  have e10:=H.h10 (hall 10 (by simp))
  have e11:=H.h11 (hall 11 (by simp))
  have e12:=H.h12 (hall 12 (by simp))
  have e13:=H.h13 (hall 13 (by simp))
  have e14:=H.h14 (hall 14 (by simp))
  have e15:=H.h15 (hall 15 (by simp))
  have e16:=H.h16 (hall 16 (by simp))
  have e17:=H.h17 (hall 17 (by simp))
  have e18:=H.h18 (hall 18 (by simp))
  have e19:=H.h19 (hall 19 (by simp))
  have e20:=H.h20 (hall 20 (by simp))
  have e21:=H.h21 (hall 21 (by simp))
  have e22:=H.h22 (hall 22 (by simp))
  have e23:=H.h23 (hall 23 (by simp))
  have e24:=H.h24 (hall 24 (by simp))
  have e25:=H.h25 (hall 25 (by simp))
  have e26:=H.h26 (hall 26 (by simp))
  have e27:=H.h27 (hall 27 (by simp))
  have e28:=H.h28 (hall 28 (by simp))
  have e29:=H.h29 (hall 29 (by simp))
  have e30:=H.h30 (hall 30 (by simp))
  have e31:=H.h31 (hall 31 (by simp))
  obtain ⟨-,-,-,b3⟩:=(H.m.resolve_left (fun h=>by have:=hall 24 (by simp);rw [h.1] at this;cases this)).resolve_left (fun h=>by have:=hall 26 (by simp);rw [h.2.1] at this;cases this) |>.resolve_left (fun h=>by have:=hall 29 (by simp);rw [h.2.2.1] at this;cases this)
  clear H hall
  subst e0 e1 e2 e3 e4 e5 e6 e7 e8 e9 e10 e11 e12 e13 e14 e15 e16 e17 e18 e19 e20 e21 e22 e23 e24 e25 e26 e27 e28 e29 e30 e31
  obtain ⟨w3,hw3⟩:∃ u,u=W:=⟨_,rfl⟩
  subst hw3
  have B3:=Lib.hid (BW2.out.trans (b3.mono BW2.out.size))
  have X3:=Lib.hid ((X2.out.drew.call HBW.out).call b3)
  have Y3:=Lib.hid ((Y2.out.drew.call HBW.out).call b3)
  clear b3 t0 t1 t2 u0 u1 u2 r1 r2 hm BW2 HBW X2 Y2 X1 Y1
  cases Bm
  ·go_wp2
   go_ret
   exact ⟨rfl,B3.out⟩
  have HXL:=Lib.hid ((HX.out.below B3.out).mono B3.out.size)
  have HYL:=Lib.hid ((HY.out.below B3.out).mono B3.out.size)
  have hnew:=new_any w3 (HLW.out.below B3.out) 50 20 10 100005 (by decide) false (Below.refl _ w3)
  obtain ⟨Xf,hXf⟩:∃ Xf:DoT→DoT,Xf=fun D=>D:=⟨_,rfl⟩
  clear hXf
  clear HMAY HX HY
  go_upto_region 6 with (go_at_call 14;(with_reducible refine hnew.mono ?_);rintro e w4 ⟨wb,M0,rfl,hW,-,-,-⟩;have F0:Fm (boX w3 wb) 100005 M0 w4 M0 (w4.alloc (.cells (vcs nullV) 30)) (bouA xs this n 0) [⟨w4.heap.size,vcs nullV,30⟩] [] []:=(Fm.start hW).new (vcs nullV) 30;have HF0:=Lib.hid F0;clear hW hnew F0)
  go_upto_region 6 with fail
  go_cut [] from 59 to 65 (fun wx=>∃ M1,Fm (boX w3 wb) 100004 M0 w4 M1 wx (bouA xs this n 1) [⟨w4.heap.size,vcs nullV,30⟩] [] [])
  case first =>
   have G:=HF0.out.drew
   have c0:(w4.alloc (.cells (vcs nullV) 30)).drew.cell? ⟨wb,0,none⟩=some (ptr M0.hb):=G.wis.wblk.cell 0
   have l0:=run_ldVp G.l0.blk
   have s0:=run_ldVp (X3.out.call G.wis.bel)
   have hmk:=bo_make (c:=100004) (A2:=(bouA xs this n 1)) (th:=(freshT 0 nullV)) (vs:=[]) (m:=0) G.wis ⟨⟨none,0,rfl,fun j e he=>by simp at he⟩,⟨none,0,rfl,.inl rfl⟩,(fun e he=>by cases he),by decide,by decide⟩ (by show (0:Int) ≠ 4;decide) (by show ((0:Nat):Int) < 20;decide) (by show 8*(50:Int).toNat+100004≤900000;decide) rfl rfl
   have HG:=Lib.hid G
   clear G
   go_region_with (go_at_call 17;(with_reducible refine hmk.mono ?_);rintro e w5 ⟨rfl,M1,h5,n5⟩;have HF1:=Lib.hid (HG.out.next (k2:=[]) h5 n5 (fun k h=>by cases h));clear h5 n5 hmk c0 l0 s0 HG)
   all_goals (go_wp2_with fail;go_meet;exact ⟨M1,HF1.out⟩)
  case rest =>
  obtain ⟨M1,F1⟩:=hcut
  obtain ⟨w5,hw5⟩:∃ u,u=wc:=⟨_,rfl⟩
  subst hw5
  have HF1:=Lib.hid F1
  clear F1
  go_upto_region 7 with fail
  go_cut [] from 66 to 73 (fun wx=>∃ M2,Fm (boX w3 wb) 100003 M0 w4 M2 wx (bouA xs this n 2) [⟨w4.heap.size,vcs nullV,30⟩] [] [])
  case first =>
   have G:=HF1.out.drew
   have c0:w5.drew.cell? ⟨wb,0,none⟩=some (ptr M1.hb):=G.wis.wblk.cell 0
   have l0:=run_ldVp G.l0.blk
   have s0:=run_ldVp (X3.out.call G.wis.bel)
   have hmk:=bo_make (c:=100003) (A2:=(bouA xs this n 2)) (th:={ freshT 2 nullV with code:=4,n:=n }) (vs:=[]) (m:=1) G.wis ⟨⟨none,0,rfl,fun j e he=>by simp at he⟩,⟨none,0,rfl,.inl rfl⟩,(fun e he=>by cases he),by decide,by decide⟩ (by show (2:Int) ≠ 4;decide) (by show ((1:Nat):Int) < 20;decide) (by show 8*(50:Int).toNat+100003≤900000;decide) rfl rfl
   have HG:=Lib.hid G
   clear G
   go_region_with (go_at_call 17;(with_reducible refine hmk.mono ?_);rintro e w6 ⟨rfl,M2,h5,n5⟩;have HF2:=Lib.hid (HG.out.next (k2:=[]) h5 n5 (fun k h=>by cases h));clear h5 n5 hmk c0 l0 s0 HG)
   all_goals (go_wp2_with fail;go_meet;exact ⟨M2,HF2.out⟩)
  case rest =>
  obtain ⟨M2,F2⟩:=hcut
  obtain ⟨w6,hw6⟩:∃ u,u=wc:=⟨_,rfl⟩
  subst hw6
  have HF2:=Lib.hid F2
  clear F2
  go_upto_region 8 with fail
  go_cut [] from 74 to 80 (fun wx=>∃ M3,Fm (boX w3 wb) 100002 M0 w4 M3 wx (bouA xs this n 3) [⟨w4.heap.size,vcs nullV,30⟩] [] [])
  case first =>
   have G:=HF2.out.drew
   have c0:w6.drew.cell? ⟨wb,0,none⟩=some (ptr M2.hb):=G.wis.wblk.cell 0
   have l0:=run_ldVp G.l0.blk
   have s0:=run_ldVp (X3.out.call G.wis.bel)
   have hmk:=bo_make (c:=100002) (A2:=(bouA xs this n 3)) (th:={ freshT 2 nullV with code:=5 }) (vs:=[]) (m:=2) G.wis ⟨⟨none,0,rfl,fun j e he=>by simp at he⟩,⟨none,0,rfl,.inl rfl⟩,(fun e he=>by cases he),by decide,by decide⟩ (by show (2:Int) ≠ 4;decide) (by show ((2:Nat):Int) < 20;decide) (by show 8*(50:Int).toNat+100002≤900000;decide) rfl rfl
   have HG:=Lib.hid G
   clear G
   go_region_with (go_at_call 17;(with_reducible refine hmk.mono ?_);rintro e w7 ⟨rfl,M3,h5,n5⟩;have HF3:=Lib.hid (HG.out.next (k2:=[]) h5 n5 (fun k h=>by cases h));clear h5 n5 hmk c0 l0 s0 HG)
   all_goals (go_wp2_with fail;go_meet;exact ⟨M3,HF3.out⟩)
  case rest =>
  obtain ⟨M3,F3⟩:=hcut
  obtain ⟨w7,hw7⟩:∃ u,u=wc:=⟨_,rfl⟩
  subst hw7
  have HF3:=Lib.hid F3
  clear F3
  go_upto_region 9 with fail
  go_cut [14,15] from 81 to 93 (fun s1 s2 wx=>s1 = .int .i64 3∧s2 = .bool true∧∃ M4,Fm (boX w3 wb) 100001 M0 w4 M4 wx (bouA xs this n 4) [⟨w4.heap.size,vcs nullV,30⟩] [] [])
  case first =>
   have G:=HF3.out.drew
   have c0:w7.drew.cell? ⟨wb,0,none⟩=some (ptr M3.hb):=G.wis.wblk.cell 0
   have l0:=run_ldVp G.l0.blk
   have s0:=run_ldVp (X3.out.call G.wis.bel)
   have hmk:=bo_make (c:=100001) (A2:=(bouA xs this n 4)) (th:={ freshT 3 nullV with tg:=objV 1,ths:=this,calls:=true,args:=.slice a1 xs.length c1 }) (vs:=xs) (m:=3) G.wis ⟨⟨none,0,rfl,fun j e he=>by simp at he⟩,⟨a1,c1,rfl,(HXL.out.below G.wis.bel).mono G.wis.bel.size⟩,(fun e he=>by cases he),by decide,by have:=H1.out;omega⟩ (by show (3:Int) ≠ 4;decide) (by show ((3:Nat):Int) < 20;decide) (by show 8*(50:Int).toNat+100001≤900000;decide) rfl rfl
   have HG:=Lib.hid G
   clear G
   go_region_with (go_at_call 17;(with_reducible refine hmk.mono ?_);rintro e w8 ⟨rfl,M4,h5,n5⟩;have HF4:=Lib.hid (HG.out.next (k2:=[]) h5 n5 (fun k h=>by cases h));clear h5 n5 hmk c0 l0 s0 HG)
   all_goals (go_wp2_with fail;go_meet;exact ⟨rfl,rfl,M4,HF4.out⟩)
  case rest =>
  obtain ⟨rfl,rfl,M4,F4⟩:=hcut
  obtain ⟨w8,hw8⟩:∃ u,u=wc:=⟨_,rfl⟩
  subst hw8
  have HF4:=Lib.hid F4
  clear F4
  go_upto_region 10 with fail
  go_cut [16,17] from 94 to 106 (fun s1 s2 wx=>s1 = .int .i64 4∧s2 = .bool true∧∃ M5,Fm (boX w3 wb) 100000 M0 w4 M5 wx (bouA xs this n 5) [⟨w4.heap.size,vcs nullV,30⟩] [] [])
  case first =>
   have G:=HF4.out.drew
   have c0:w8.drew.cell? ⟨wb,0,none⟩=some (ptr M4.hb):=G.wis.wblk.cell 0
   have l0:=run_ldVp G.l0.blk
   have s0:=run_ldVp (X3.out.call G.wis.bel)
   have hmk:=bo_make (c:=100000) (A2:=(bouA xs this n 5)) (th:={ freshT 3 nullV with tg:=objV 2,ths:=this,calls:=true,args:=.slice a1 xs.length c1 }) (vs:=xs) (m:=4) G.wis ⟨⟨none,0,rfl,fun j e he=>by simp at he⟩,⟨a1,c1,rfl,(HXL.out.below G.wis.bel).mono G.wis.bel.size⟩,(fun e he=>by cases he),by decide,by have:=H1.out;omega⟩ (by show (3:Int) ≠ 4;decide) (by show ((4:Nat):Int) < 20;decide) (by show 8*(50:Int).toNat+100000≤900000;decide) rfl rfl
   have HG:=Lib.hid G
   clear G
   go_region_with (go_at_call 17;(with_reducible refine hmk.mono ?_);rintro e w9 ⟨rfl,M5,h5,n5⟩;have HF5:=Lib.hid (HG.out.next (k2:=[]) h5 n5 (fun k h=>by cases h));clear h5 n5 hmk c0 l0 s0 HG)
   all_goals (go_wp2_with fail;go_meet;exact ⟨rfl,rfl,M5,HF5.out⟩)
  case rest =>
  obtain ⟨rfl,rfl,M5,F5⟩:=hcut
  obtain ⟨w9,hw9⟩:∃ u,u=wc:=⟨_,rfl⟩
  subst hw9
  have HF5:=Lib.hid F5
  clear F5
  have G:=HF5.out
  have bdq:∀ w,(Bd 52 #[(2,.agg (vcs recv)),(4,.slice a2 ys.length c2)]).run Tryz.prog w = .ok (.agg (acs { zeroQ with r:=recv,l:=ys } (.slice a2 ys.length c2))) w:=fun w=>run_build w _ _ _ (by kernel_rfl)
  have s9:=run_ldVp (Y3.out.call G.wis.bel)
  have hdo:=bo_do (w:=w3) (wb:=wb) (c:=99999) Xf 3 { zeroQ with r:=recv,l:=ys } (.slice a2 ys.length c2) fineZ (vs_old G.wis HYL.out) (by have:=H2.out;show ys.length≤100;omega) G.wis
  obtain ⟨R1,hR1⟩:∃ R,doF Xf (fun _=>none) 10 12 3 { zeroQ with r:=recv,l:=ys } (bouA xs this n 5)=R:=⟨_,rfl⟩
  have q1:=bd_x Xf xs ys this recv n
  have q2:=bd_y Xf xs ys this recv n
  rw [hR1] at hdo q1 q2
  obtain ⟨R2,hR2⟩:∃ R,doF Xf (fun _=>none) 10 12 4 { zeroQ with r:=recv,l:=ys } R1.2=R:=⟨_,rfl⟩
  rw [hR2] at q2
  have HR2:=Lib.hid hR2
  have Q1:=Lib.hid q1
  have Q2:=Lib.hid q2
  obtain ⟨zs,hzs⟩:∃ zs,xs++ys=zs:=⟨_,rfl⟩
  have HZS:=Lib.hid hzs
  clear hR1 hR2 q1 q2 G hzs
  go_wp2_with (first
   | (go_at_call 19;(with_reducible refine hdo.mono ?_);rintro e w10 ⟨M10,kv10,rfl,hks,hM,hn⟩;have hg10:=Rr.good _ hks;have F10:=(((HF5.out.post hks hM hn).ok (by rw [Q1.out];rfl)).new (rcs (R1.1.mem kv10)) 57);have s10:=run_ldVp (Y3.out.call F10.wis.bel);have hdo2:=bo_do (w:=w3) (wb:=wb) (c:=99999) (A:=R1.2) Xf 4 { zeroQ with r:=recv,l:=ys } (.slice a2 ys.length c2) fineZ (vs_old F10.wis HYL.out) (by have:=H2.out;show ys.length≤100;omega) F10.wis;rw [HR2.out] at hdo2;have HF10:=Lib.hid F10;clear hks hM hn F10 hdo)
   | (go_at_call 19;(with_reducible refine hdo2.mono ?_);rintro e w11 ⟨M11,kv11,rfl,hks,hM,hn⟩;have hg11:=Rr.good _ hks;have F11:=((HF10.out.post hks hM hn).new (rcs (R2.1.mem kv11)) 57);obtain ⟨v1,W1,aq,cq,W2,r1,r2,hq,bw1,bw2⟩:=app_two (c1:=c1) (c2:=c2) ((HXL.out.below F11.wis.bel).mono F11.wis.bel.size) ((HYL.out.below F11.wis.bel).mono F11.wis.bel.size) (by have:=H1.out;have:=H2.out;omega);rw [HZS.out] at r2 hq;have F11b:=F11.call bw2;have F12:=F11b.new (vcs zeroV) 30;have HF11:=Lib.hid F11b;have HF12:=Lib.hid F12;have HQ:=Lib.hid hq;clear hks hM hn F11 F11b hdo2 bw1 bw2 F12 hq;refine Hid.out ?_))
  refine Lib.hid ?_
  go_upto_region 14 with (first |(at_builtin;refine Lib.wpList_append_run _ rfl _ _ _ _ rfl _ _ rfl rfl _ _ r1 ?_) |(at_builtin;refine Lib.wpList_append_run _ rfl _ _ _ _ rfl _ _ rfl rfl _ _ r2 ?_))
  obtain ⟨N,rfl⟩:=Int.eq_ofNat_of_zero_le H3.out
  have ag:argF (xs++ys) N=((xs++ys)[N]?).getD zeroV:=by
   unfold argF
   rw [if_neg (by omega)]
   rfl
  have e1:R1.1.flow=0:=by rw [Q1.out];rfl
  have e2:R1.1.v=((xs++ys)[N]?).getD zeroV:=by rw [← ag,Q1.out];rfl
  have e3:R2.1.flow=0:=by rw [Q2.out];rfl
  have e4:R2.1.v=this:=by rw [Q2.out];rfl
  rw [HZS.out] at e2
  have G:=HF12.out
  have HFI:=Lib.hid (B3.out.trans (G.wis.bel.mono B3.out.size))
  have f1:=rm_f G.l2.blk
  have g1:=rm_v G.l2.blk
  have f2:=rm_f G.l1.blk
  have g2:=rm_v G.l1.blk
  have tt:=run_ldVp (X3.out.call G.wis.bel)
  rw [e1] at f1
  rw [e3] at f2
  have eqy:=eqv_same e4
  have E2:=Lib.hid e2
  have E10:=Lib.hid e1
  have E11:=Lib.hid e3
  clear e1 e2 e3 e4 ag
  by_cases hlt:N < zs.length
  ·obtain ⟨v,hv⟩:∃ v,zs[N]? = some v:=⟨zs[N],List.getElem?_eq_getElem hlt⟩
   have hlt2:(N:Int) < zs.length:=by omega
   obtain ⟨b,off,rfl,hlb,lv⟩:=ld_at (HQ.out.below ((Below.refl _ W2).alloc (Nat.le_refl _) (.cells (vcs zeroV) 30))) hv
   have eqx:=eqv_same (show R1.1.v=v by rw [E2.out,hv];rfl)
   have G2:=HF11.out.new (vcs v) 30
   have lw:=run_ldVp G2.l0.blk
   have f1:=rm_f G2.l2.blk
   have g1:=rm_v G2.l2.blk
   have f2:=rm_f G2.l1.blk
   have g2:=rm_v G2.l1.blk
   have tt:=run_ldVp (X3.out.call G2.wis.bel)
   rw [E10.out] at f1
   rw [E11.out] at f2
   have HFJ:=Lib.hid (B3.out.trans (G2.wis.bel.mono B3.out.size))
   clear hv hlb G2 G
   go_wp2
   go_ret
   exact ⟨rfl,HFJ.out⟩
  ·have hz:zs[N]? = none:=List.getElem?_eq_none_iff.2 (by omega)
   have hnl:decide ((N:Int) < zs.length)=false:=decide_eq_false (by omega)
   have hnl':decide (N < zs.length)=false:=decide_eq_false hlt
   have eqx:=eqv_same (show R1.1.v=zeroV by rw [E2.out,hz];rfl)
   have lw:=run_ldVp G.l0.blk
   clear hlt hz
   go_wp2
   go_ret
   exact ⟨rfl,HFI.out⟩
set_option maxRecDepth 100000 in
set_option maxHeartbeats 4000000 in
theorem lawBound_out (this recv:Vl) (a1 a2:Option Addr) (l1 c1 l2 c2:Nat) (n:Int) (w:World) (hLw:Nums.Lw w) (h:5 < l1∨5 < l2∨n < 0∨12 < n):Calls Tryz.prog 6 #[.agg (vcs this),.agg (vcs recv),.slice a1 l1 c1,.slice a2 l2 c2,.int .i64 n] w fun e w'=>e = .returned (.bool true)∧Below w.heap.size w w':=by
 have b1:Below w.heap.size w ((w.alloc (.cells (vcs this) 30)).alloc (.cells (vcs recv) 30)):=((Below.refl _ w).alloc (Nat.le_refl _) _).alloc (by simp) _
 have hal:=alive_any _ (hLw.below b1)
 have B1:=Lib.hid b1
 have hS:∀ W W',Below w.heap.size w W→Below W.heap.size W W'→Below w.heap.size w W':=fun W W' h1 h2=>h1.trans (h2.mono h1.size)
 clear hLw b1
 by_cases h0:5 < l1
 ·clear h
  have d0:decide (5 < (l1:Int))=true:=decide_eq_true (by omega)
  have d0':decide (5 < l1)=true:=decide_eq_true (by omega)
  clear h0
  go_enter Tryz.func6,Tryz.ntmps6
  go_upto_region 2 with (go_at_call 13;(with_reducible refine hal.mono ?_);rintro e w2 ⟨rfl,hb2⟩;have B2:=Lib.hid (B1.out.trans (hb2.mono B1.out.size));clear hb2 hal)
  refine region_inS (S:=fun W=>Below w.heap.size w W) (by kernel_rfl) (by kernel_rfl) B2.out.drew (fun hne=>?_)
  repeat (go_big_quiet_step (fail))
  refine wpQuiet_nil ?_
  intro w5 hw5
  have HB5:=Lib.hid (Des.in_out hw5)
  clear hw5
  go_wp2
  go_ret
  exact ⟨rfl,HB5.out⟩
 have d0:decide (5 < (l1:Int))=false:=decide_eq_false (by omega)
 have d0':decide (5 < l1)=false:=decide_eq_false (by omega)
 by_cases h1:5 < l2
 ·clear h
  have d1:decide (5 < (l2:Int))=true:=decide_eq_true (by omega)
  have d1':decide (5 < l2)=true:=decide_eq_true (by omega)
  clear h1
  go_enter Tryz.func6,Tryz.ntmps6
  go_upto_region 2 with (go_at_call 13;(with_reducible refine hal.mono ?_);rintro e w2 ⟨rfl,hb2⟩;have B2:=Lib.hid (B1.out.trans (hb2.mono B1.out.size));clear hb2 hal)
  refine region_inS (S:=fun W=>Below w.heap.size w W) (by kernel_rfl) (by kernel_rfl) B2.out.drew (fun hne=>?_)
  repeat (go_big_quiet_step (fail))
  refine wpQuiet_nil ?_
  intro w5 hw5
  have HB5:=Lib.hid (Des.in_out hw5)
  clear hw5
  go_wp2
  go_ret
  exact ⟨rfl,HB5.out⟩
 have d1:decide (5 < (l2:Int))=false:=decide_eq_false (by omega)
 have d1':decide (5 < l2)=false:=decide_eq_false (by omega)
 by_cases h2:n < 0
 ·clear h
  have d2:decide (n < 0)=true:=decide_eq_true (by omega)
  clear h2
  go_enter Tryz.func6,Tryz.ntmps6
  go_upto_region 2 with (go_at_call 13;(with_reducible refine hal.mono ?_);rintro e w2 ⟨rfl,hb2⟩;have B2:=Lib.hid (B1.out.trans (hb2.mono B1.out.size));clear hb2 hal)
  refine region_inS (S:=fun W=>Below w.heap.size w W) (by kernel_rfl) (by kernel_rfl) B2.out.drew (fun hne=>?_)
  repeat (go_big_quiet_step (fail))
  refine wpQuiet_nil ?_
  intro w5 hw5
  have HB5:=Lib.hid (Des.in_out hw5)
  clear hw5
  go_wp2
  go_ret
  exact ⟨rfl,HB5.out⟩
 have d2:decide (n < 0)=false:=decide_eq_false (by omega)
 by_cases h3:12 < n
 ·clear h
  have d3:decide (12 < n)=true:=decide_eq_true (by omega)
  clear h3
  go_enter Tryz.func6,Tryz.ntmps6
  go_upto_region 2 with (go_at_call 13;(with_reducible refine hal.mono ?_);rintro e w2 ⟨rfl,hb2⟩;have B2:=Lib.hid (B1.out.trans (hb2.mono B1.out.size));clear hb2 hal)
  refine region_inS (S:=fun W=>Below w.heap.size w W) (by kernel_rfl) (by kernel_rfl) B2.out.drew (fun hne=>?_)
  repeat (go_big_quiet_step (fail))
  refine wpQuiet_nil ?_
  intro w5 hw5
  have HB5:=Lib.hid (Des.in_out hw5)
  clear hw5
  go_wp2
  go_ret
  exact ⟨rfl,HB5.out⟩
 exfalso
 omega
theorem lawBound_walk (this recv:Vl) (a1 a2:Option Addr) (c1 c2:Nat) (xs ys:List Vl) (n:Int) (w:World) (hLw:Nums.Lw w) (hx:VsAt w.heap.size a1 xs w) (hy:VsAt w.heap.size a2 ys w) (hsx:∀ v ∈ xs,v.s.size≤1048576) (hsy:∀ v ∈ ys,v.s.size≤1048576) (ht:this.s.size≤1048576) (hr:recv.s.size≤1048576):Calls Tryz.prog 6 #[.agg (vcs this),.agg (vcs recv),.slice a1 xs.length c1,.slice a2 ys.length c2,.int .i64 n] w fun e w'=>e = .returned (.bool true)∧Below w.heap.size w w':=by
 by_cases h:5 < xs.length∨5 < ys.length∨n < 0∨12 < n
 ·exact lawBound_out this recv a1 a2 xs.length c1 ys.length c2 n w hLw h
 ·exact lawBound_main this recv a1 a2 c1 c2 xs ys n w hLw (by omega) (by omega) (by omega) (by omega) hx hy (fun v hv=>by rcases List.mem_append.1 hv with h |h;exact Nat.le_trans (hsx v h) (by decide);exact Nat.le_trans (hsy v h) (by decide)) (by omega) (by omega)
end
end Go.Proofs.YtkadkmnolkkhgaaGreatDoor.Mw
