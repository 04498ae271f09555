/-
 Texts of this seat in build order: MwNote, MwObj0, MwDeep.
-/
import Derived.Test.YtkadkmnolkkhgaaGreatDoorMb17
import Derived.Stop.Asserts
/-
 note; a list of keys cloned.
-/
set_option linter.unusedVariables false
set_option linter.unusedSimpArgs false
namespace Go.Proofs.YtkadkmnolkkhgaaGreatDoor.Mw
open Go Go.RowKit Go.Maps Go.Shelf Keys Hp Mo
open Des (Vl Ds zeroV zeroD dcs dcs_size dcs_one accF rigF appF eqV)
open Arrs (En ecs)
theorem wpApp {P:Program} {ops:Array Oper} {rest:List Oper} {o:Oper} {a:Act} {w w':World} {Q:Exit→Act→World→Prop} (hgd:o.guard=none) (s x:Operand) (t:TypeId) (ho:o.op=Op.call { callee:=Callee.builtin Builtin.append,args:=#[s,x],argTypes:=#[t,t] }) (ht:o.type=t)
  (v1 v2 v':Value) (hs:a.eval s=v1) (hx:a.eval x=v2) (hrun:(Builtin.append_ #[t,t] t #[v1,v2]).run P w = .ok v' w') (h:wpList P ops Q rest (a.put o.dst v') w'):wpList P ops Q (o :: rest) a w:=by
 refine wpList_plain hgd fun K hK=>?_
 subst ht
 unfold Oper.wp
 simp [execOp,ho,resolve,invoke,builtin,hs,hx,hrun,Result.andThen]
 exact hK _ _ h
theorem infoKy:(Tryz.prog.info? 32).map (fun i=>(i.zero,i.size,i.bytes))=some (some (.agg #[.string ⟨#[]⟩,.int .i64 0]),2,24):=by kernel_rfl
theorem infoPs:(Tryz.prog.info? 165).map (fun i=>(i.zero,i.size,i.bytes))=some (some (.pointer none),1,8):=by kernel_rfl
theorem run_eqKs (d:Nat) (a:Option Addr) (n c:Nat) (w:World):(Op.equalIn (d+1) 55 (.slice a n c) (.slice none 0 0)).run Tryz.prog w = .ok a.isNone w:=by
 cases a <;> simp [Op.equalIn,run_underlying Tryz.underlying55]
theorem run_eqlKs (a:Option Addr) (n c:Nat) (w:World):(binOp .eql 55 (.slice a n c) (.slice none 0 0)).run Tryz.prog w = .ok (.bool a.isNone) w:=by
 simp only [binOp]
 simp [Op.equal,Op.maxDepth,run_eqKs 9999]
theorem slice_litK (w:World) (base:Nat) (hb:base≤w.heap.size):(w.alloc (.cells #[] 32)).ownsRow base 32 2 (.slice (some ⟨w.heap.size,0,none⟩) 0 0) 0 []:=World.ownsRow_made w #[] 0 hb (by unfold maxLen;omega) rfl
def KsAt (n₀:Nat) (aa:Option Addr) (ks:List KV) (w:World):Prop:=ks=[]∨∃ b off,aa=some ⟨b,off,none⟩∧b < n₀∧w.rangeAt b off (cellsK ks)
theorem KsOut.at_ {B:List Nat} {w:World} {s:Value} {ks:List KV} (h:KsOut B w s ks):∃ a c,s = .slice a ks.length c∧ks.length≤10000000∧KsAt w.heap.size a ks w:=by
 obtain ⟨a,c,h1,h2,h3⟩:=h
 refine ⟨a,c,h1,h2,h3.imp id ?_⟩
 rintro ⟨b,off,cur,k1,k2,k3,k4⟩
 exact ⟨b,off,k1,k2.lt,k4⟩
set_option maxRecDepth 100000 in
set_option maxHeartbeats 1000000 in
theorem cloneK_any (aa:Option Addr) (al ac:Nat) (vs:List KV) (w:World) (hlen:vs.length=al) (h100:al≤10000000) (hv:KsAt w.heap.size aa vs w) :
  Calls Tryz.prog 104 #[.slice aa al ac] w fun e w'=>∃ v',e = .returned v'∧w'.ownsRow w.heap.size 32 2 v' vs.length (cellsK vs)∧Below w.heap.size w w':=by
 obtain ⟨i23,hi23,hz230,hz231,hz232⟩:=info_parts infoKy
 have he:=run_eqlKs aa al ac w
 cases aa with
 | none =>
  have h0:vs=[]:=by
   rcases hv with h |⟨b,off,ha,_⟩
   ·exact h
   ·cases ha
  subst h0
  have hal:al=0:=by simpa using hlen.symm
  subst hal
  go_enter Tryz.func104,Tryz.ntmps104
  go_wp2
  go_ret
  exact ⟨_,rfl,World.ownsRow_nil _ _ _ _,Below.refl _ _⟩
 | some ad =>
  have hrow:=slice_litK w w.heap.size (Nat.le_refl _)
  have hcells:∀ j u,(cellsK vs)[j]? = some u→(w.alloc (.cells #[] 32)).cell? (ad.add j)=some u:=fun j u hu=>by
   rcases hv with h |⟨b,off,ha,hlt,hr⟩
   ·subst h;simp [cellsK] at hu
   ·obtain rfl:ad=⟨b,off,none⟩:=by simpa using ha
    rw [Addr.add_mid,World.cell?_alloc_lt _ _ _ hlt]
    exact hr j u hu
  have hnl:(cellsK vs).length=al*2:=by rw [cellsK_length,hlen]
  have HLEN:=Lib.hid hlen
  clear hv hlen
  go_enter Tryz.func104,Tryz.ntmps104
  go_wp2_with (at_builtin;refine wpList_append_own _ rfl _ _ 55 rfl w.heap.size 32 i23 (.agg #[.string ⟨#[]⟩,.int .i64 0]) 2 24 Tryz.underlying55 hi23 hz230 hz231 hz232 rfl (by decide) _ _ _ rfl hrow ad al ac (cellsK vs) rfl hnl hcells (cellsK_one' vs) (by unfold maxLen;omega) (by omega) (by simp) ?_;intro v' w4 hown4 hgrow4 _)
  go_ret
  rw [Nat.zero_add] at hown4
  exact ⟨_,rfl,by rw [HLEN.out];simpa using hown4,((Below.refl _ w).alloc (Nat.le_refl _) _).grown hgrow4 (by simp) (fun k hk=>by cases hk;exact Nat.le_refl _)⟩
theorem bxSn (v:Value):Instr.box 120 v=Bx 120 v:=(rfl)
theorem scs_54 (s:Sn) (l k:Value):(scs s l k)[54]? = some k:=rfl
theorem scs_set54 (s:Sn) (l k k':Value):(scs s l k).setIfInBounds 54 k'=scs s l k':=rfl
theorem wcs_log {hb:Nat} {cl ls v:Value} {f dl d de:Int}:(wcs hb cl f dl d de ls).setIfInBounds 6 v=wcs hb cl f dl d de v:=rfl
theorem wcs_6 {hb:Nat} {cl ls:Value} {f dl d de:Int}:(wcs hb cl f dl d de ls)[6]? = some ls:=rfl
theorem ks_in {R:List Nat} {b0:Nat} {w:World} {v:Value} {ks:List KV} (h:w.ownsRow b0 32 2 v ks.length (cellsK ks)) (hR:∀ b ∈ obl v,b ∈ R):KsIn R w v ks:=by
 rcases h.2 with ⟨rfl,h0⟩ |⟨g,cap,cur,rfl,hg,hb,hle,hcap,hsz,htk⟩
 ·exact ⟨none,0,by rw [h0],.inl (List.eq_nil_of_length_eq_zero h0)⟩
 ·refine ⟨_,cap,rfl,.inr ⟨g,0,cur,rfl,hR g (by simp [obl,Value.ownBlock]),hb,fun j u hj=>?_⟩⟩
  have hlt:=(List.getElem?_eq_some_iff.1 hj).1
  rw [h.1] at hlt
  rw [Nat.zero_add,h.cellAt j hlt]
  exact hj
theorem vs_in {R:List Nat} {b0:Nat} {w:World} {v:Value} {vs:List Vl} (h:w.ownsRow b0 30 3 v vs.length (cellsV vs)) (hR:∀ b ∈ obl v,b ∈ R):VsIn R w v vs:=by
 rcases h.2 with ⟨rfl,h0⟩ |⟨g,cap,cur,rfl,hg,hb,hle,hcap,hsz,htk⟩
 ·exact ⟨none,0,by rw [h0],.inl (List.eq_nil_of_length_eq_zero h0)⟩
 ·refine ⟨_,cap,rfl,.inr ⟨g,0,cur,rfl,hR g (by simp [obl,Value.ownBlock]),hb,fun j u hj=>?_⟩⟩
  have hlt:=(List.getElem?_eq_some_iff.1 hj).1
  rw [h.1] at hlt
  rw [Nat.zero_add,h.cellAt j hlt]
  exact hj
theorem own_low {w:World} {b0 sz n:Nat} {t:TypeId} {v:Value} {xs:List Value} (h:w.ownsRow b0 t sz v n xs):∀ b ∈ obl v,b0≤b:=fun b hb=>by
 rcases h.2 with ⟨rfl,h0⟩ |⟨g,cap,cur,rfl,hg,-⟩
 ·simp [obl,Value.ownBlock] at hb
 ·simp [obl,Value.ownBlock] at hb
  omega
attribute [local go_sem ↓] bxSn
attribute [local irreducible] scs wcs
attribute [local go_sem] run_bx
section
variable {X:Cx} {c:Nat} {M M' M'':Wm} {w w' w'':World} {A A' A'':Aw} {ls:List Lc} {kl:List (Value × List KV)} {ro:List Lc} {D:DoT}
theorem app_log (h:WIs X (c+1) M w A) {b:Nat} {w2:World} (hb:WIs X (c+1) M w2 A) (hl:A.log.length≤900000) :
  ∃ v' w',(Builtin.append_ #[46,46] 46 #[M.ls,.slice (some ⟨w2.heap.size,0,none⟩) 1 1]).run Tryz.prog (w2.alloc (.cells #[ptr b] 165)) = .ok v' w'∧w'.ownsRow 0 165 1 v' (A.log.length+1) (M.sb.map ptr++[ptr b])∧(w2.alloc (.cells #[ptr b] 165)).grownBy w' M.ls.ownBlock∧(v'.ownBlock=M.ls.ownBlock∨v'.ownBlock=some (w2.heap.size+1)):=by
 obtain ⟨i50,hi50,hz500,hz501,hz502⟩:=info_parts infoPs
 obtain ⟨v',w4,hrun,hown4,hgrow4,_,hgo⟩:=run_append_own_at (P:=Tryz.prog) (w2.alloc (.cells #[ptr b] 165)) 0 46 46 165 i50 (.pointer none) 1 8 Tryz.underlying46 hi50 hz500 hz501 hz502 rfl (by decide) M.ls A.log.length (M.sb.map ptr) (hb.lrow.alloc _) ⟨w2.heap.size,0,none⟩ 1 1 [ptr b] rfl (cell_one w2 (ptr b) 165) (by simp [Value.oneCell']) (by unfold maxLen;omega) (by omega) (Nat.zero_le _)
 exact ⟨v',w4,hrun,hown4,hgrow4,by simpa using hgo⟩
set_option maxRecDepth 100000 in
set_option maxHeartbeats 4000000 in
theorem note_any (h:WIs X (c+1) M w A) (s:Sn) (l k:Value) {B:List Nat} (hk:KsOut B w k s.r.ks) {rn:List Nat} (hl:VsIn rn w l s.a.l) (hrn:∀ b ∈ rn,b ∉ M.bl X.wb∧b < w.heap.size∧X.W0.heap.size≤b) :
  Calls Tryz.prog 55 #[ptr X.wb,.agg (scs s l k)] w fun e w'=>e = .returned (.tuple #[])∧∃ M',WIs X c M' w' { A with log:=A.log++[s] }∧∀ B w0,Nx B w0 (M.bl X.wb) w→(∀ b ∈ rn,w0.heap.size≤b)→Nx B w0 (M'.bl X.wb) w'∧(∀ b ∈ M'.bl X.wb,b ∈ M.bl X.wb∨b ∈ rn∨w.heap.size≤b)∧Kp (M.bl X.wb) w w':=by
 obtain ⟨ka,kc,rfl,hkl,hkat⟩:=hk.at_
 obtain ⟨w1,hw1⟩:∃ w1,w.alloc (.cells (scs s l (.slice ka s.r.ks.length kc)) 120)=w1:=⟨_,rfl⟩
 have b1:Below w.heap.size w w1:=by rw [← hw1];exact (Below.refl _ w).alloc (Nat.le_refl _) _
 have x1:Blk w1 w.heap.size (scs s l (.slice ka s.r.ks.length kc)) 120:=by rw [← hw1];exact Blk.new w _ _
 have k54:w1.cell? ⟨w.heap.size,54,none⟩=some (.slice ka s.r.ks.length kc):=(x1.cell 54).trans (scs_54 _ _ _)
 have hck:=cloneK_any ka _ kc s.r.ks w1 rfl hkl (by
  rcases hkat with h |⟨b,off,h1,h2,h3⟩
  ·exact .inl h
  ·exact .inr ⟨b,off,h1,Nat.lt_of_lt_of_le h2 b1.size,fun j v hv=>by rw [b1.cell (p:=⟨b,off+j,none⟩) h2];exact h3 j v hv⟩)
 have hlog:=h.logn
 have HALL:Hid (∀ w2 v',w2.ownsRow w1.heap.size 32 2 v' s.r.ks.length (cellsK s.r.ks)→Below w1.heap.size w1 w2 →
   w2.cell? ⟨w.heap.size,54,none⟩=some (.slice ka s.r.ks.length kc)∧w2.frozen? ⟨w.heap.size,54,none⟩=false∧∃ w3,w2.setCell ⟨w.heap.size,54,none⟩ v'=w3∧w3.cell? ⟨X.wb,6,none⟩=some M.ls∧∃ a5 c5 w5,(Builtin.append_ #[46,46] 46 #[M.ls,.slice (some ⟨w3.heap.size,0,none⟩) 1 1]).run Tryz.prog (w3.alloc (.cells #[ptr w.heap.size] 165)) = .ok (.slice a5 (A.log.length+1) c5) w5∧w5.cell? ⟨X.wb,6,none⟩=some M.ls∧w5.frozen? ⟨X.wb,6,none⟩=false ∧
   ∃ M',WIs X c M' (w5.setCell ⟨X.wb,6,none⟩ (.slice a5 (A.log.length+1) c5)) { A with log:=A.log++[s] }∧∀ B w0,Nx B w0 (M.bl X.wb) w→(∀ b ∈ rn,w0.heap.size≤b)→Nx B w0 (M'.bl X.wb) (w5.setCell ⟨X.wb,6,none⟩ (.slice a5 (A.log.length+1) c5))∧(∀ b ∈ M'.bl X.wb,b ∈ M.bl X.wb∨b ∈ rn∨w.heap.size≤b)∧Kp (M.bl X.wb) w (w5.setCell ⟨X.wb,6,none⟩ (.slice a5 (A.log.length+1) c5))):=Lib.hid fun w2 v' hown hb2=>by
  have y2:=x1.call hb2
  have e3:=row_cell y2 v' (scs_set54 s l (.slice ka s.r.ks.length kc) v')
  have h2:=(h.call b1).call hb2
  have hne:w.heap.size ∉ M.bl X.wb:=h.new (Nat.le_refl _)
  have h3:=h2.row (b:=w.heap.size) (scs s l v') hne h.bel.size
  refine ⟨(y2.cell 54).trans (scs_54 _ _ _),y2.frozen 54,w2.setRow w.heap.size (scs s l v'),e3,h3.w6,?_⟩
  obtain ⟨v5,w5,hrun,hown5,hgrow5,hgo⟩:=app_log h (b:=w.heap.size) h3 (by omega)
  obtain ⟨a5,c5,rfl⟩:=Hp.own_shape hown5
  obtain ⟨w3,hw3⟩:∃ w3,w2.setRow w.heap.size (scs s l v')=w3:=⟨_,rfl⟩
  obtain ⟨v5,hv5⟩:∃ v5,v5=Value.slice a5 (A.log.length+1) c5:=⟨_,rfl⟩
  rw [← hv5] at hown5 hrun hgo
  have hsz3:w3.heap.size=w2.heap.size:=by rw [← hw3,size_setRow]
  have hs1:w.heap.size+1≤w1.heap.size:=by rw [← hw1];simp
  have hs2:=hb2.size
  rw [hw3] at h3 hrun hgrow5 hgo
  have hwn:some X.wb ≠ M.ls.ownBlock:=fun e=>by
   obtain ⟨cs,hc⟩:=own_typ h.lrow (obl_mem e)
   exact ne_blk hc h.wblk (by decide) rfl
  have hB5:Blk w5 X.wb (wcs M.hb X.cl A.fuel A.deep A.depth A.deepest M.ls) 48:=(h3.wblk.old _).grown hgrow5 hwn
  refine ⟨a5,c5,w5,by rw [hw3,← hv5];exact hrun,(hB5.cell 6).trans wcs_6,hB5.frozen 6,{ M with ls:=v5,sb:=M.sb++[w.heap.size],rl:=M.rl++(rn++obl v') },?_⟩
  rw [← hv5]
  have e6:=row_cell hB5 v5 (ds:=wcs M.hb X.cl A.fuel A.deep A.depth A.deepest v5) wcs_log
  rw [e6]
  have hg5:∀ b,b < w3.heap.size+1→some b ≠ M.ls.ownBlock→w5.heap[b]? = (w3.alloc (.cells #[ptr w.heap.size] 165)).heap[b]?:=fun b hb hn=>hgrow5.block b (by simpa using hb) hn
  have hsame:∀ b,b < w3.heap.size→b ≠ X.wb→some b ≠ M.ls.ownBlock→(w5.setRow X.wb (wcs M.hb X.cl A.fuel A.deep A.depth A.deepest v5)).heap[b]? = w3.heap[b]?:=fun b hb h1 h2=>by
   rw [setRow_other _ _ _ _ h1,hg5 b (by omega) h2,((Below.refl w3.heap.size w3).alloc (Nat.le_refl _) _).block b hb]
  have hold:∀ b,b < w.heap.size→w3.heap[b]? = w.heap[b]?:=fun b hb=>by
   rw [← hw3,setRow_other _ _ _ _ (by omega),hb2.block b (by omega),b1.block b hb]
  have hall:∀ b,b < w.heap.size→b ≠ X.wb→some b ≠ M.ls.ownBlock→(w5.setRow X.wb (wcs M.hb X.cl A.fuel A.deep A.depth A.deepest v5)).heap[b]? = w.heap[b]?:=fun b hb h1 h2=>(hsame b (by omega) h1 h2).trans (hold b hb)
  have hf:Fr w (w5.setRow X.wb (wcs M.hb X.cl A.fuel A.deep A.depth A.deepest v5)):=by
   have f1:Fr w w2:=⟨hb2.os.trans b1.os,hb2.tape.trans b1.tape,hb2.output.trans b1.output,Nat.le_trans b1.size hb2.size⟩
   have f2:Fr w2 w3:=by rw [← hw3];exact ⟨rfl,rfl,rfl,by rw [size_setRow];exact Nat.le_refl _⟩
   have f3:Fr w3 w5:=(Fr.refl w3).trans ⟨hgrow5.os,hgrow5.tape,hgrow5.output,Nat.le_trans (by simp) hgrow5.size⟩
   exact (f1.trans (f2.trans f3)).trans ⟨rfl,rfl,rfl,by rw [size_setRow];exact Nat.le_refl _⟩
  have hsz5:w3.heap.size+1≤w5.heap.size:=Nat.le_trans (by simp) hgrow5.size
  have hls:∀ b ∈ obl v5,some b=M.ls.ownBlock∨w.heap.size≤b:=fun b hb=>by
   unfold obl at hb
   rcases hgo with e |e
   ·rw [e] at hb
    left
    exact (show M.ls.ownBlock=some b by simpa using hb).symm
   ·rw [e] at hb
    simp at hb
    right
    omega
  have hlv:∀ b ∈ obl v',w.heap.size≤b:=fun b hb=>Nat.le_trans (by omega) (own_low hown b hb)
  have hlv2:∀ b ∈ obl v',b < w2.heap.size:=fun b hb=>by
   obtain ⟨cs,hc⟩:=own_typ hown hb
   exact hc.lt
  have hw0:=h.bel.size
  have hwl:∀ b ∈ obl v',b ≠ X.wb∧some b ≠ M.ls.ownBlock:=fun b hb=>⟨fun e=>by have:=hlv b hb;have:=h.wblk.lt;omega,fun e=>by
   obtain ⟨cs,hc⟩:=own_typ h.lrow (obl_mem e)
   have:=hlv b hb
   have:=hc.lt
   omega⟩
  have hsb:Blk (w5.setRow X.wb (wcs M.hb X.cl A.fuel A.deep A.depth A.deepest v5)) w.heap.size (scs s l v') 120:=by
   have hb3:Blk w3 w.heap.size (scs s l v') 120:=by rw [← hw3];exact y2.row _
   refine (hsame w.heap.size (by omega) (fun e=>by have:=h.wblk.lt;omega) fun e=>?_).trans hb3
   obtain ⟨cs,hc⟩:=own_typ h.lrow (obl_mem e)
   have:=hc.lt
   omega
  have hsn:SnIs (M.rl++(rn++obl v')) (w5.setRow X.wb (wcs M.hb X.cl A.fuel A.deep A.depth A.deepest v5)) w.heap.size s:=by
   refine ⟨l,v',hsb,hl.same (fun b cs hb _=>hall b (hrn b hb).2.1 (fun e=>(hrn b hb).1 (e ▸ mem_wb M _)) fun e=>(hrn b hb).1 (mem_ls (obl_mem e))) (fun b hb=>List.mem_append_right _ (List.mem_append_left _ hb)),?_⟩
   have hkin:KsIn (obl v') w2 v' s.r.ks:=ks_in hown fun b hb=>hb
   refine hkin.same (fun b cs hb hbk=>?_) fun b hb=>List.mem_append_right _ (List.mem_append_right _ hb)
   have hbl:=hlv b hb
   rw [hsame b (by rw [hsz3];exact hlv2 b hb) (hwl b hb).1 (hwl b hb).2,← hw3,setRow_other _ _ _ _ fun e=>ne_blk hbk y2 (by decide) e]
  refine ⟨h.logged (hB5.row _) (own_row hown5 hB5 (by decide)) hall (fun b hb=>(hls b hb).imp id fun h'=>Nat.le_trans hw0 h') hsn hw0 (fun b hb=>?_) hf,fun B w0 hn hr0=>⟨Nx.logged h hn hall (fun b hb=>(hls b hb).imp id fun h'=>Nat.le_trans hn.size h') hn.size (fun b hb=>?_) hf,fun b hb=>?_,hf,fun b hb hn=>hall b hb (fun e=>hn (e ▸ mem_wb M _)) fun e=>hn (mem_ls (obl_mem e))⟩⟩
  ·rcases List.mem_append.1 hb with hb |hb
   ·exact ⟨(hrn b hb).2.2,Nat.lt_of_lt_of_le (hrn b hb).2.1 hf.size⟩
   ·exact ⟨Nat.le_trans hw0 (hlv b hb),by rw [size_setRow];have:=hlv2 b hb;omega⟩
  ·rcases List.mem_append.1 hb with hb |hb
   ·exact hr0 b hb
   ·exact Nat.le_trans hn.size (hlv b hb)
  ·simp only [Wm.bl,List.mem_cons,List.mem_append,List.mem_flatMap] at hb ⊢
   rcases hb with hb |hb |hb |hb |(hb |hb) |(hb |hb |hb) |hb
   ·exact .inl (.inl hb)
   ·exact .inl (.inr (.inl hb))
   ·exact .inl (.inr (.inr (.inl hb)))
   ·rcases hls b hb with e |e
    ·exact .inl (.inr (.inr (.inr (.inl (obl_mem e)))))
    ·exact .inr (.inr e)
   ·exact .inl (.inr (.inr (.inr (.inr (.inl hb)))))
   ·rcases hb with rfl |hb
    ·exact .inr (.inr (Nat.le_refl _))
    ·cases hb
   ·exact .inl (.inr (.inr (.inr (.inr (.inr (.inl hb))))))
   ·exact .inr (.inl hb)
   ·exact .inr (.inr (hlv b hb))
   ·exact .inl (.inr (.inr (.inr (.inr (.inr (.inr hb))))))
 clear h hk hl hrn hkl hkat x1 hlog b1
 go_enter Tryz.func55,Tryz.ntmps55
 go_wp2_with (first |(go_at_call 104;(with_reducible refine hck.mono ?_);rintro e w2 ⟨v',rfl,hown,hb2⟩;obtain ⟨va,vc,rfl⟩:=Hp.own_shape hown;obtain ⟨q1,q2,w3,hw3,q4,a5,c5,w5,hrun,q5,q6,M',hM',hN'⟩:=HALL.out w2 _ hown hb2;have HM:=Lib.hid hM';have HN:=Lib.hid hN';clear hown hb2 hM' hN' HALL) |(at_builtin;refine wpApp rfl (.tmp 14) (.tmp 15) 46 rfl rfl _ _ _ rfl rfl hrun ?_))
 go_end0
 exact ⟨rfl,M',HM.out,HN.out⟩
end
end Go.Proofs.YtkadkmnolkkhgaaGreatDoor.Mw

/-
 What an object is as a method sees it: plain facts.
-/
namespace Go.Proofs.YtkadkmnolkkhgaaGreatDoor.Mw
open Go Go.RowKit Go.Maps Go.Shelf Keys Hp Mo
open Des (Vl Ds zeroV zeroD dcs dcs_size dcs_one accF rigF appF eqV)
open Arrs (En ecs)
def ifT (k:Int):TypeId:=if k=1 then 171 else if k=2 then 174 else if k=3 then 176 else if k=4 then 178 else 180
def blT (k:Int):TypeId:=if k=1 then 173 else if k=2 then 175 else if k=3 then 177 else if k=4 then 179 else 170
theorem xcs_size (o:Int) (t:Th):(xcs o t).size=25:=rfl
theorem xcs_one {o:Int} {t:Th} (h1:t.props=nilS) (h2:t.args=nilS):(xcs o t).all (·.oneCell')=true:=by
 unfold xcs
 rw [h1,h2]
 simp [nilS,Value.oneCell']
theorem ld_ordinary (v:Value):Instr.loadAt 170 v=Ld 170 v:=(rfl)
theorem st_ordinary (p v:Value):Instr.storeAt 170 p v=St 170 p v:=(rfl)
theorem al_ordinary:Instr.alloc 170 true (.tuple #[])=Al 170:=(rfl)
theorem bx_ordinary (v:Value):Instr.box 170 v=Bx 170 v:=(rfl)
theorem bd_ordinary (ps:Array (Nat × Value)):Instr.build 170 ps=Bd 170 ps:=(rfl)
theorem ld_array (v:Value):Instr.loadAt 173 v=Ld 173 v:=(rfl)
theorem st_array (p v:Value):Instr.storeAt 173 p v=St 173 p v:=(rfl)
theorem al_array:Instr.alloc 173 true (.tuple #[])=Al 173:=(rfl)
theorem bx_array (v:Value):Instr.box 173 v=Bx 173 v:=(rfl)
theorem bd_array (ps:Array (Nat × Value)):Instr.build 173 ps=Bd 173 ps:=(rfl)
theorem ld_function (v:Value):Instr.loadAt 175 v=Ld 175 v:=(rfl)
theorem st_function (p v:Value):Instr.storeAt 175 p v=St 175 p v:=(rfl)
theorem al_function:Instr.alloc 175 true (.tuple #[])=Al 175:=(rfl)
theorem bx_function (v:Value):Instr.box 175 v=Bx 175 v:=(rfl)
theorem bd_function (ps:Array (Nat × Value)):Instr.build 175 ps=Bd 175 ps:=(rfl)
theorem ld_bound (v:Value):Instr.loadAt 177 v=Ld 177 v:=(rfl)
theorem st_bound (p v:Value):Instr.storeAt 177 p v=St 177 p v:=(rfl)
theorem al_bound:Instr.alloc 177 true (.tuple #[])=Al 177:=(rfl)
theorem bx_bound (v:Value):Instr.box 177 v=Bx 177 v:=(rfl)
theorem bd_bound (ps:Array (Nat × Value)):Instr.build 177 ps=Bd 177 ps:=(rfl)
theorem ld_proxy (v:Value):Instr.loadAt 179 v=Ld 179 v:=(rfl)
theorem st_proxy (p v:Value):Instr.storeAt 179 p v=St 179 p v:=(rfl)
theorem al_proxy:Instr.alloc 179 true (.tuple #[])=Al 179:=(rfl)
theorem bx_proxy (v:Value):Instr.box 179 v=Bx 179 v:=(rfl)
theorem bd_proxy (ps:Array (Nat × Value)):Instr.build 179 ps=Bd 179 ps:=(rfl)
theorem info_x:(Tryz.prog.info? 170).map (fun i=>(i.zero,i.size))=some (some (.agg (xcs 0 zeroT)),25):=by kernel_rfl
theorem size_x:(Tryz.prog.info? 170).map (·.size)=some 25:=by kernel_rfl
theorem run_alX (w:World):(Al 170).run Tryz.prog w = .ok (ptr w.heap.size) (w.alloc (.cells (xcs 0 zeroT) 170)):=run_al info_x w
theorem run_ldX {w:World} {b:Nat} {o:Int} {t:Th} {T:TypeId} (h:Blk w b (xcs o t) T):(Ld 170 (.pointer (some ⟨b,0,none⟩))).run Tryz.prog w = .ok (.agg (xcs o t)) w:=by
 have:=run_loadAt_mid (P:=Tryz.prog) w b 0 170 (xcs o t).toList _ (h.range (r:=[]) (by simp)) Tryz.underlying170 rfl size_x
 simpa [Ld] using this
theorem run_stX (w:World) (o:Int) (t:Th) (h1:t.props=nilS) (h2:t.args=nilS):(St 170 (.pointer (some ⟨w.heap.size,0,none⟩)) (.agg (xcs o t))).run Tryz.prog (w.alloc (.cells (xcs 0 zeroT) 170)) = .ok () (w.alloc (.cells (xcs o t) 170)):=by
 have hb:=Blk.new w (xcs 0 zeroT) 170
 have h:=run_st_row hb (T:=170) (cs:=xcs o t) (by rw [xcs_size];exact size_x) (by rw [xcs_size,xcs_size]) (xcs_one h1 h2)
 rw [h,setRow_new]
theorem run_bdX (w:World) (o:Int) (t:Th) (h1:t.props=nilS) (h2:t.args=nilS):(Bd 170 #[(0,.int .i64 o),(1,.agg (tcs t))]).run Tryz.prog w = .ok (.agg (xcs o t)) w:=by
 cases t
 simp only at h1 h2
 subst h1 h2
 exact run_build w _ _ _ (by kernel_rfl)
theorem run_bd_array (w:World) (o:Int) (t:Th) (h1:t.props=nilS) (h2:t.args=nilS):(Bd 173 #[(0,.agg (xcs o t))]).run Tryz.prog w = .ok (.agg (xcs o t)) w:=by
 cases t
 simp only at h1 h2
 subst h1 h2
 exact run_build w _ _ _ (by kernel_rfl)
theorem run_bd_function (w:World) (o:Int) (t:Th) (h1:t.props=nilS) (h2:t.args=nilS):(Bd 175 #[(0,.agg (xcs o t))]).run Tryz.prog w = .ok (.agg (xcs o t)) w:=by
 cases t
 simp only at h1 h2
 subst h1 h2
 exact run_build w _ _ _ (by kernel_rfl)
theorem run_bd_bound (w:World) (o:Int) (t:Th) (h1:t.props=nilS) (h2:t.args=nilS):(Bd 177 #[(0,.agg (xcs o t))]).run Tryz.prog w = .ok (.agg (xcs o t)) w:=by
 cases t
 simp only at h1 h2
 subst h1 h2
 exact run_build w _ _ _ (by kernel_rfl)
theorem run_bd_proxy (w:World) (o:Int) (t:Th) (h1:t.props=nilS) (h2:t.args=nilS):(Bd 179 #[(0,.agg (xcs o t))]).run Tryz.prog w = .ok (.agg (xcs o t)) w:=by
 cases t
 simp only at h1 h2
 subst h1 h2
 exact run_build w _ _ _ (by kernel_rfl)
theorem me_ordinary_self (d b:Nat) (w:World):(method (d+1) 180 (ptr b) "understudy/mop.self").run Tryz.prog w = .ok (163,ptr b) w:=by kernel_rfl
theorem me_ordinary_calls (d b:Nat) (w:World):(method (d+1) 180 (ptr b) "understudy/mop.calls").run Tryz.prog w = .ok (304,ptr b) w:=by kernel_rfl
theorem me_ordinary_makes (d b:Nat) (w:World):(method (d+1) 180 (ptr b) "understudy/mop.makes").run Tryz.prog w = .ok (305,ptr b) w:=by kernel_rfl
theorem me_array_self (d b:Nat) (w:World):(method (d+1) 171 (ptr b) "understudy/mop.self").run Tryz.prog w = .ok (163,ptr b) w:=by kernel_rfl
theorem me_array_calls (d b:Nat) (w:World):(method (d+1) 171 (ptr b) "understudy/mop.calls").run Tryz.prog w = .ok (304,ptr b) w:=by kernel_rfl
theorem me_array_makes (d b:Nat) (w:World):(method (d+1) 171 (ptr b) "understudy/mop.makes").run Tryz.prog w = .ok (305,ptr b) w:=by kernel_rfl
theorem me_function_self (d b:Nat) (w:World):(method (d+1) 174 (ptr b) "understudy/mop.self").run Tryz.prog w = .ok (163,ptr b) w:=by kernel_rfl
theorem me_function_calls (d b:Nat) (w:World):(method (d+1) 174 (ptr b) "understudy/mop.calls").run Tryz.prog w = .ok (306,ptr b) w:=by kernel_rfl
theorem me_function_makes (d b:Nat) (w:World):(method (d+1) 174 (ptr b) "understudy/mop.makes").run Tryz.prog w = .ok (307,ptr b) w:=by kernel_rfl
theorem me_bound_self (d b:Nat) (w:World):(method (d+1) 176 (ptr b) "understudy/mop.self").run Tryz.prog w = .ok (163,ptr b) w:=by kernel_rfl
theorem me_bound_calls (d b:Nat) (w:World):(method (d+1) 176 (ptr b) "understudy/mop.calls").run Tryz.prog w = .ok (308,ptr b) w:=by kernel_rfl
theorem me_bound_makes (d b:Nat) (w:World):(method (d+1) 176 (ptr b) "understudy/mop.makes").run Tryz.prog w = .ok (309,ptr b) w:=by kernel_rfl
theorem me_proxy_calls (d b:Nat) (w:World):(method (d+1) 178 (ptr b) "understudy/mop.calls").run Tryz.prog w = .ok (310,ptr b) w:=by kernel_rfl
theorem me_proxy_makes (d b:Nat) (w:World):(method (d+1) 178 (ptr b) "understudy/mop.makes").run Tryz.prog w = .ok (311,ptr b) w:=by kernel_rfl
theorem below_two {w w2:World} (hb:Below w.heap.size w w2) (a b:Obj):Below w.heap.size w ((w2.alloc a).alloc b):=(hb.alloc hb.size a).alloc (by have:=hb.size;simp;omega) b
theorem below_three {w w2:World} (hb:Below w.heap.size w w2) (a b c:Obj):Below w.heap.size w (((w2.alloc a).alloc b).alloc c):=(below_two hb a b).alloc (by have:=hb.size;simp;omega) c
theorem obj_facts (o:Int) (th:Th) (h1:th.props=nilS) (h2:th.args=nilS) (w2:World) :
  (St 39 (.pointer (some ⟨w2.heap.size,0,none⟩)) (.agg (tcs th))).run Tryz.prog (w2.alloc (.cells (tcs zeroT) 39)) = .ok () (w2.alloc (.cells (tcs th) 39)) ∧
  (Ld 39 (.pointer (some ⟨w2.heap.size,0,none⟩))).run Tryz.prog (w2.alloc (.cells (tcs th) 39)) = .ok (.agg (tcs th)) (w2.alloc (.cells (tcs th) 39)) ∧
  (St 170 (.pointer (some ⟨w2.heap.size+1,0,none⟩)) (.agg (xcs o th))).run Tryz.prog ((w2.alloc (.cells (tcs th) 39)).alloc (.cells (xcs 0 zeroT) 170)) = .ok () ((w2.alloc (.cells (tcs th) 39)).alloc (.cells (xcs o th) 170)) ∧
  ((w2.alloc (.cells (tcs th) 39)).alloc (.cells (xcs o th) 170)).cell? ⟨w2.heap.size,0,none⟩=some (.int .i64 th.kind) ∧
  (Ld 170 (.pointer (some ⟨w2.heap.size+1,0,none⟩))).run Tryz.prog ((w2.alloc (.cells (tcs th) 39)).alloc (.cells (xcs o th) 170)) = .ok (.agg (xcs o th)) ((w2.alloc (.cells (tcs th) 39)).alloc (.cells (xcs o th) 170)):=by
 have e:(w2.alloc (.cells (tcs th) 39)).heap.size=w2.heap.size+1:=by simp
 have B3:=Blk.new w2 (tcs th) 39
 have B4:=Blk.new (w2.alloc (.cells (tcs th) 39)) (xcs o th) 170
 have sx:=run_stX (w2.alloc (.cells (tcs th) 39)) o th h1 h2
 rw [e] at B4 sx
 exact ⟨run_stT w2 th zeroT ⟨⟨_,_,_,h1⟩,⟨_,_,_,h2⟩⟩,run_ldT B3,sx,t_kind (B3.old _),run_ldX B4⟩
end Go.Proofs.YtkadkmnolkkhgaaGreatDoor.Mw

/-
 deeper.
-/
namespace Go.Proofs.YtkadkmnolkkhgaaGreatDoor.Mw
open Go Go.RowKit Go.Maps Go.Shelf Keys Hp Mo
open Des (Vl Ds zeroV zeroD dcs dcs_size dcs_one accF rigF appF eqV)
open Arrs (En ecs)
attribute [local go_sem ↓] ldR stR alR bxR bdR ldV stV alV bxV bdV ldA stA bxA bdA ldKy bxKy bdKy 
attribute [local irreducible] rcs dcs ecs vcs acs kcs xcs tcs
attribute [local go_sem] run_bx run_alR run_stRg run_bdA0 run_bdAk run_bdAkr run_bdAkvr run_bdAr run_bdAkd run_bdRz run_bdRd run_bdRk run_bdRf run_bdRo run_bdRs run_bdRt' run_bdKs 
section
variable {X:Cx} {c:Nat} {M M' M'':Wm} {w w' w'':World} {A A' A'':Aw} {ls:List Lc} {kl:List (Value × List KV)} {ro:List Lc} {D:DoT}
def bodyPostF (P:Program) (fn:Func) (R:Ending→World→Prop):Exit→Act→World→Prop
 | .normal,a,w |.ret,a,w=>Leaves P fn a.tmps R a.defers .returning w
 | .outgrown,_,w=>R .outgrown w
 | _,_,_=>False
theorem calls_of_wp_doorsF {P:Program} {f:FuncId} {fn:Func} {c:Code} {args:Array Value} {w:World} {R:Ending→World→Prop}
  (hf:P.funcs[f]? = some fn) (hb:fn.body=some c)
  (h:c.wp P (bodyPostF P fn R) { tmps:=args++Array.replicate (fn.ntmps - args.size) undef,defers:=[] } w):Calls P f args w R :=
 calls_of_wp_defers hf hb (Code.wp_mono (fun e a w q=>by cases e <;> first |exact q |exact q.elim) h)
abbrev Cx.at_ (X:Cx) (d:Int):Cx:={ X with dp:=d }
theorem Cx.near_at (X:Cx) (d:Int):X.near (X.at_ d):=⟨rfl,rfl,rfl,rfl⟩
theorem Fm.lvl (F:Fm X c M w M' w' A' ls kl ro) {d:Int} {c2:Nat} {A2:Aw} (hM:WIs (X.at_ d) c2 M' w'' A2) (hn:Nx (M'.bl X.wb) w' (M'.bl X.wb) w''):Fm (X.at_ d) c2 M w M' w'' A2 ls kl ro :=
 ⟨hM,F.nx.trans hn,fun x hx=>(F.lo x hx).nx hn,fun k hk=>(F.ks k hk).nx hn,F.h0,fun x hx=>let ⟨h1,h2,h3⟩:=F.rd x hx;⟨hn.blk h1 h2,hn.out h1.lt h2,h3⟩,F.nd⟩
def PerfIs (X:Cx) (P:Int→Int→Th→Aq→Aw→Rr × Aw):Prop:=∀ (c:Nat) (M:Wm) (w:World) (A:Aw) (m o:Int) (x:Ob) (a:Aq) (al:Value) (xb:Nat),WIs X (c+4) M w A→at? A o=some x→Blk w xb (xcs o x.th) (blT x.th.kind)→xb ∉ M.bl X.wb→Fine a.k→VsOut (M.bl X.wb) w al a.l→a.l.length+100000≤lim X →
 Calls Tryz.prog 103 #[ptr X.wb,.int .i64 m,.iface (ifT x.th.kind) (ptr xb),.agg (acs a al)] w (Post X c M w (P m o x.th a A))
def deepA (A:Aw):Aw:={ A with depth:=A.depth+1,deepest:=max A.deepest (A.depth+1) }
def backA (A:Aw):Aw:={ A with depth:=A.depth - 1 }
theorem leave_any (h:WIs X c M w A) {n0:Nat} (hb:Blk w n0 #[ptr X.wb] 25) (hd:1≤A.depth) (u:FrameMode):CallsD Tryz.prog 102 #[ptr n0] u w fun e u' w'=>u'=u∧e = .returned (.tuple #[])∧WIs (X.at_ (X.dp - 1)) c M w' (backA A)∧Nx (M.bl X.wb) w (M.bl X.wb) w':=by
 have cb:w.cell? ⟨n0,0,none⟩=some (ptr X.wb):=hb.cell 0
 have c4:=h.w4
 have f4:=h.wblk.frozen 4
 have h2:=h.deep
 have h3:=h.dep1
 have hw64:wrap64 (A.depth - 1)=A.depth - 1:=by unfold wrap64;omega
 have hdp:=h.dpe
 have e4:w.setCell ⟨X.wb,4,none⟩ (.int .i64 (A.depth - 1))=w.setRow X.wb (wcs M.hb X.cl A.fuel A.deep (A.depth - 1) A.deepest M.ls):=row_cell h.wblk _ wcs_depth
 have hw:=h.wset (c':=c) (A':=backA A) (X.near_at (X.dp - 1)) ⟨rfl,rfl,rfl,rfl⟩ h.fuel (Nat.le_refl _) (by show 0≤A.depth - 1;omega) (by show A.depth - 1≤A.deep;omega) h.deep (by show A.depth - 1=X.dp - 1;omega) h.dle
 have HN:=Nx.wset M X.wb w (wcs M.hb X.cl A.fuel A.deep (A.depth - 1) A.deepest M.ls)
 have HW:=Lib.hid (show WIs (X.at_ (X.dp - 1)) c M (w.setCell ⟨X.wb,4,none⟩ (.int .i64 (A.depth - 1))) (backA A) by rw [e4];exact hw)
 have HN2:=Lib.hid (show Nx (M.bl X.wb) w (M.bl X.wb) (w.setCell ⟨X.wb,4,none⟩ (.int .i64 (A.depth - 1))) by rw [e4];exact HN)
 clear h hb hd h2 h3 hdp e4 hw HN
 go_enter_d Tryz.func102,Tryz.ntmps102
 go_wp2
 go_end0
 exact ⟨rfl,HW.out,HN2.out⟩
set_option maxRecDepth 100000 in
set_option maxHeartbeats 4000000 in
theorem deeper_any {P:Int→Int→Th→Aq→Aw→Rr × Aw} (HP:PerfIs (X.at_ (X.dp+1)) P) (h:WIs X (c+4) M w A) (hd:A.depth < A.deep) (m o:Int) {x:Ob} (hx:at? A o=some x) {xb:Nat} (hb:Blk w xb (xcs o x.th) (blT x.th.kind)) (hxo:xb ∉ M.bl X.wb) (a:Aq) (al:Value) (hk:Fine a.k) (hl:VsOut (M.bl X.wb) w al a.l) (hlen:a.l.length≤lim X) :
  Calls Tryz.prog 54 #[ptr X.wb,.int .i64 m,.iface (ifT x.th.kind) (ptr xb),.agg (acs a al)] w (Post X c M w ((P m o x.th a (deepA A)).1,backA (P m o x.th a (deepA A)).2)):=by
 obtain ⟨w1,hw1⟩:∃ w1,((w.alloc (.cells #[ptr X.wb] 25)).alloc (.cells (acs a al) 52)).alloc (.cells (rcs zeroR) 57)=w1:=⟨_,rfl⟩
 have F0:Fm X (c+4) M w M w1 A [⟨w.heap.size+2,rcs zeroR,57⟩,⟨w.heap.size+1,acs a al,52⟩,⟨w.heap.size,#[ptr X.wb],25⟩] [] [⟨xb,xcs o x.th,blT x.th.kind⟩]:=by
  rw [← hw1];exact ((((Fm.start h).with hb hxo).new _ _).newg _ _ _ (by simp)).newg _ _ _ (by simp)
 have h1:=F0.wis
 have cb:w1.cell? ⟨w.heap.size,0,none⟩=some (ptr X.wb):=F0.l2.blk.cell 0
 have c4:=h1.w4
 have f4:=h1.wblk.frozen 4
 have hdeep:=h.deep
 have hd0:=h.dep0
 have hdp:=h.dpe
 have hdl:=h.dle
 have hw64:wrap64 (A.depth+1)=A.depth+1:=by unfold wrap64;omega
 -- the depth
 have e4:w1.setCell ⟨X.wb,4,none⟩ (.int .i64 (A.depth+1))=w1.setRow X.wb (wcs M.hb X.cl A.fuel A.deep (A.depth+1) A.deepest M.ls):=row_cell h1.wblk _ wcs_depth
 have h2:=h1.wset (c':=c+4) (A':={ A with depth:=A.depth+1 }) (X.near_at (X.dp+1)) ⟨rfl,rfl,rfl,rfl⟩ h1.fuel (Nat.le_refl _) (by show 0≤A.depth+1;omega) (by show A.depth+1≤A.deep;omega) hdeep (by show A.depth+1=X.dp+1;omega) hdl
 have F2:=F0.lvl h2 (Nx.wset M X.wb w1 _)
 rw [← e4] at F2
 obtain ⟨w2,hw2⟩:∃ w2,w1.setCell ⟨X.wb,4,none⟩ (.int .i64 (A.depth+1))=w2:=⟨_,rfl⟩
 rw [hw2] at F2
 have cb2:w2.cell? ⟨w.heap.size,0,none⟩=some (ptr X.wb):=F2.l2.blk.cell 0
 have c42:=F2.wis.w4
 have c52:=F2.wis.w5
 have f5:=F2.wis.wblk.frozen 5
 -- the greatest depth
 have e5:w2.setCell ⟨X.wb,5,none⟩ (.int .i64 (max A.deepest (A.depth+1)))=w2.setRow X.wb (wcs M.hb X.cl A.fuel A.deep (A.depth+1) (max A.deepest (A.depth+1)) M.ls):=row_cell F2.wis.wblk _ wcs_deepest
 have h3:=F2.wis.wset (c':=c+4) (X':=X.at_ (X.dp+1)) (A':=deepA A) (Cx.near_refl (X.at_ (X.dp+1))) ⟨rfl,rfl,rfl,rfl⟩ F2.wis.fuel (Nat.le_refl _) F2.wis.dep0 F2.wis.dep1 F2.wis.deep F2.wis.dpe F2.wis.dle
 have F3:=F2.next (k2:=[]) h3 (Nx.wset M X.wb w2 _) (fun k hk=>by cases hk)
 rw [show wcs M.hb (X.at_ (X.dp+1)).cl (deepA A).fuel (deepA A).deep (deepA A).depth (deepA A).deepest M.ls=wcs M.hb X.cl A.fuel A.deep (A.depth+1) (max A.deepest (A.depth+1)) M.ls from rfl,← e5] at F3
 obtain ⟨w3,hw3⟩:∃ w3,w2.setCell ⟨X.wb,5,none⟩ (.int .i64 (max A.deepest (A.depth+1)))=w3:=⟨_,rfl⟩
 rw [hw3] at F3
 have hw3d:∀ n,(w2.drewN n).setCell ⟨X.wb,5,none⟩ (.int .i64 (max A.deepest (A.depth+1)))=w3.drewN n:=fun n=>by rw [← hw3];rfl
 have FD:=F3.drew
 have hpf:=HP c M w3.drew (deepA A) m o x a al xb FD.wis hx (FD.r0) (FD.r0o) hk (hl.nx FD.nx) (by show a.l.length+100000≤1000000+100000*(X.dp+1).toNat;unfold lim at hlen;omega)
 have la:=run_ldAq FD.l1.blk
 have HFD:=Lib.hid FD
 have c42d:w2.drew.cell? ⟨X.wb,4,none⟩=some (.int .i64 (A.depth+1)):=c42
 have c52d:w2.drew.cell? ⟨X.wb,5,none⟩=some (.int .i64 A.deepest):=c52
 have hw3e:w2.drew.setCell ⟨X.wb,5,none⟩ (.int .i64 (max A.deepest (A.depth+1)))=w3.drew:=by rw [← hw3];rfl
 have HD:=Lib.hid (show A.depth+1≤A.deep by omega)
 have HD0:=Lib.hid (show 0≤A.depth∧A.depth=X.dp from ⟨hd0,hdp⟩)
 have cb3:w3.drew.cell? ⟨w.heap.size,0,none⟩=some (ptr X.wb):=FD.l2.blk.cell 0
 clear F0 F2 F3 FD h h1 h2 h3 hx hb hxo hk hl hlen e4 e5 hd hdeep hd0 hdp hdl HP
 refine calls_of_wp_doorsF Tryz.func54 rfl ?_
 simp only [Tryz.ntmps54,List.size_toArray,List.length_cons,List.length_nil,Nat.reduceAdd,Nat.reduceSub,Array.replicate_succ,Array.replicate_zero,List.push_toArray,List.append_toArray,List.nil_append,List.cons_append]
 go_upto_region 3 with fail
 go_cut [] from 17 to 28 (fun wx=>wx=w3.drew)
 case first =>
  go_region
  all_goals (go_wp2_with fail;go_meet)
  all_goals rfl
 case rest =>
 subst hcut
 go_wp2_with (go_at_call 103;(with_reducible refine hpf.mono ?_);rintro e w5 ⟨M5,kv5,rfl,hks,hM,hn⟩;have hg5:=Rr.good _ hks;have F5:=HFD.out.next (k2:=[(kv5,(P m o x.th a (deepA A)).1.ks)]) hM hn (fun k hk=>by rw [List.mem_singleton.1 hk];exact hks);have s5:=run_stRp F5.l0.blk hg5;have HF5:=Lib.hid F5;clear hks hM hn F5)
 refine leaves_cons (f:=102) (args:=#[ptr w.heap.size]) (by simp) (by simp [go_sem]) ?_
 have F6:=HF5.out.put (l:=[]) (rcs ((P m o x.th a (deepA A)).1.mem kv5)) (show 57 ≠ 32 by decide)
 have hdl:=F6.wis.dpe
 have hlv:=leave_any F6.wis F6.l2.blk (by have hdl':(P m o x.th a (deepA A)).2.depth=X.dp+1:=hdl;have:=HD0.out;omega) .returning
 refine hlv.mono ?_
 rintro e u' w6 ⟨rfl,rfl,h6,n6⟩
 have e1:X.dp+1 - 1=X.dp:=by omega
 rw [show ((X.at_ (X.dp+1)).at_ ((X.at_ (X.dp+1)).dp - 1))=X by show { X with dp:=X.dp+1 - 1 }=X;rw [e1]] at h6
 have hl6:=F6.l0.nx n6
 exact ⟨_,res_R rfl _ _ (w.heap.size+2) _ rfl hl6.blk,M5,kv5,rfl,F6.k0.nx n6,h6,F6.nx.trans n6⟩
end
end Go.Proofs.YtkadkmnolkkhgaaGreatDoor.Mw
