/-
  The walk of the law HeapOwn.
-/
import Derived.Test.YtlhgiihooalanaaHpCopy
import Derived.Test.YtlhgiihooalanaaHpColl
import Derived.Test.YtlhgiihooalanaaHpAlive
namespace Go.Proofs.Ytlhgiihooalanaa.Hp
open Go Go.RowKit Go.Maps Go.Shelf Go.Proofs.Ytlhgiihooalanaa.Keys
set_option linter.unusedVariables false
set_option linter.unusedSimpArgs false
theorem stV (p v : Value) : Instr.storeAt 23 p v = St 23 p v := (rfl)
theorem stK (p v : Value) : Instr.storeAt 29 p v = St 29 p v := (rfl)
theorem bdD (ps : Array (Nat × Value)) : Instr.build 38 ps = Bd 38 ps := (rfl)
theorem run_bdD0 (w : World) : (Bd 38 #[]).run Try.prog w = .ok (.agg (dcs zeroD)) w := run_build w _ _ _ (by kernel_rfl)
theorem sizeV : (Try.prog.info? 23).map (·.size) = some 3 := by kernel_rfl
theorem sizeK : (Try.prog.info? 29).map (·.size) = some 2 := by kernel_rfl
theorem run_stMid {w : World} {b o : Nat} {T : TypeId} {cs : Array Value} (ht : w.there b o cs.size) (hi : (Try.prog.info? T).map (·.size) = some cs.size) (h1 : cs.all (·.oneCell') = true) : (St T (.pointer (some ⟨b, o, none⟩)) (.agg cs)).run Try.prog w = .ok () (w.setCells b o cs.toList) :=
  run_storeAt_mid (P := Try.prog) w b o T cs ht hi h1
theorem there_sub {w : World} {b n o k : Nat} (h : w.there b 0 n) (hk : o + k ≤ n) : w.there b o k := fun j hj => by
  have := h (o + j) (by omega)
  rwa [Nat.zero_add] at this
theorem own_there {w : World} {base : Nat} {e : TypeId} {size n g c : Nat} {xs : List Value} (h : w.ownsRow base e size (.slice (some ⟨g, 0, none⟩) n c) n xs) : w.there g 0 (n * size) := fun j hj => by
  rw [Nat.zero_add]
  refine ⟨?_, h.frozenAt j⟩
  rw [h.cellAt j hj]
  simp
  rw [h.1]
  exact hj
theorem setCells_block (b : Nat) : ∀ (vs : List Value) (o : Nat) (w : World) (k : Nat), k ≠ b → (w.setCells b o vs).heap[k]? = w.heap[k]?
  | [], _, _, _, _ => rfl
  | v :: r, o, w, k, h => by
    rw [World.setCells, setCells_block b r (o + 1) _ k h]
    exact heap_setCell_other w ⟨b, o, none⟩ k v h
theorem setCells_fr (b : Nat) : ∀ (vs : List Value) (o : Nat) (w : World), Fr w (w.setCells b o vs) ∧ (w.setCells b o vs).heap.size = w.heap.size
  | [], _, w => ⟨Fr.refl w, rfl⟩
  | v :: r, o, w => by
    obtain ⟨h1, h2⟩ := setCells_fr b r (o + 1) (w.setCell ⟨b, o, none⟩ v)
    rw [World.setCells]
    exact ⟨((Fr.refl w).set _ _).trans h1, h2.trans (by simp [World.setCell])⟩
theorem setCells_below {B b : Nat} {w0 w : World} (h : Below B w0 w) (hb : B ≤ b) (o : Nat) (vs : List Value) : Below B w0 (w.setCells b o vs) := by
  obtain ⟨h1, h2⟩ := setCells_fr b vs o w
  exact h.trans ⟨h1.os, h1.tape, h1.output, h1.size, fun k hk => setCells_block b vs o w k (by omega)⟩
/-- Every block but one stays. -/
structure But (g : Nat) (w w' : World) : Prop where
  fr : Fr w w'
  same : ∀ k, k ≠ g → w'.heap[k]? = w.heap[k]?
theorem But.refl (g : Nat) (w : World) : But g w w := ⟨Fr.refl w, fun _ _ => rfl⟩
theorem But.cells {g : Nat} {w w' : World} (h : But g w w') (o : Nat) (vs : List Value) : But g w (w'.setCells g o vs) := ⟨h.fr.trans (setCells_fr g vs o w').1, fun k hk => (setCells_block g vs o w' k hk).trans (h.same k hk)⟩
theorem But.obj {g : Nat} {w w' : World} {cs : Array Value} (h : But g w w') (hg : Blk w g cs 40) {base ob pb mb n : Nat} {th : Th} {es : List En} {vs : List Vl} {ns : List Nd} (ho : ObjAt w base ob pb mb n th es vs ns) : ObjAt w' base ob pb mb n th es vs ns := by
  refine ⟨(h.same ob (ne_blk ho.blk hg (by decide))).trans ho.blk, ho.props, ho.args, ⟨ho.obj.ring.same fun b hb => h.same b ?_, ho.obj.map.same (h.same mb ?_)⟩, ho.es, ?_, ho.low, ho.lowm, ho.lowo⟩
  · obtain ⟨cs', t, hbl, ht⟩ := ho.obj.ring.cells b hb
    exact ne_blk hbl hg (by rcases ht with rfl | rfl <;> decide)
  · intro e
    obtain ⟨es', c, hm⟩ := ho.obj.map.obj
    rw [e, show w.heap[g]? = _ from hg] at hm
    cases hm
  · refine ho.row.kept (row := some g) ⟨h.fr.os, h.fr.tape, h.fr.output, h.fr.size, fun k _ hk => h.same k (fun e => hk (by rw [e]))⟩ (.inr (own_ne ho.row hg (by decide)))

/-- A list of the call's own that may be written. -/
def Wr (wr : World) (lo n size : Nat) (e : TypeId) (a : Option Addr) : Prop := n = 0 ∨ ∃ g, a = some ⟨g, 0, none⟩ ∧ lo ≤ g ∧ wr.there g 0 (n * size) ∧ ∃ cs, Blk wr g cs e
theorem blk_setCells {b : Nat} {t : TypeId} : ∀ (vs : List Value) (o : Nat) (w : World) (cs : Array Value), Blk w b cs t → ∃ cs', Blk (w.setCells b o vs) b cs' t
  | [], _, _, cs, h => ⟨cs, h⟩
  | v :: r, o, w, cs, h => blk_setCells r (o + 1) _ _ (h.set o v)
theorem Wr.cells {wr : World} {lo n size : Nat} {e : TypeId} {a : Option Addr} (h : Wr wr lo n size e a) (b o : Nat) (vs : List Value) : Wr (wr.setCells b o vs) lo n size e a := by
  rcases h with h | ⟨g, ha, hl, ht, cs, hb⟩
  · exact .inl h
  · refine .inr ⟨g, ha, hl, World.there_setCells ht _ _ _, ?_⟩
    by_cases hg : g = b
    · subst hg
      exact blk_setCells vs o wr cs hb
    · exact ⟨cs, (setCells_block b vs o wr g hg).trans hb⟩
theorem Wr.call {w w' : World} {lo n size : Nat} {e : TypeId} {a : Option Addr} (h : Wr w lo n size e a) (hb : Below w.heap.size w w') : Wr w' lo n size e a := by
  rcases h with h | ⟨g, ha, hl, ht, cs, hbl⟩
  · exact .inl h
  · refine .inr ⟨g, ha, hl, fun j hj => ?_, cs, hbl.call hb⟩
    rw [hb.cell (p := ⟨g, 0 + j, none⟩) hbl.lt, hb.frozen (p := ⟨g, 0 + j, none⟩) hbl.lt]
    exact ht j hj
theorem wr_own {w : World} {base n size : Nat} {e : TypeId} {a : Option Addr} {c : Nat} {xs : List Value} (h : w.ownsRow base e size (.slice a n c) n xs) : Wr w base n size e a := by
  rcases h.2 with ⟨_, hn⟩ | ⟨g, cap, cur, hv, hb, hg, _⟩
  · exact .inl hn
  · simp only [Value.slice.injEq] at hv
    obtain ⟨rfl, -, rfl⟩ := hv
    exact .inr ⟨g, rfl, hb, own_there h, cur, hg⟩
/-- What holds while the own copy's keys are written. -/
structure OwnSt (w : World) (hb g cc bo ob pb mb base lo : Nat) (t t' th : Th) (ks : ByteArray) (kn : Int) (es : List En) (vs : List Vl) (ns : List Nd) (a : Option Addr) (wr : World) : Prop where
  hp : Blk wr hb (hp 2 (.slice (some ⟨g, 0, none⟩) 1 cc) 0) 49
  rowc : wr.cell? ⟨g, 0, none⟩ = some (ptr ob)
  rowt : ∃ cs, Blk wr g cs 50
  obj : ObjAt wr base ob pb mb es.length th es vs ns
  own : Blk wr bo (tcs t') 27
  org : Blk wr w.heap.size (tcs t) 27
  key : Blk wr (w.heap.size + 1) #[.string ks, .int .i64 kn] 29
  below : Below w.heap.size w wr
  wr : Wr wr lo es.length 20 40 a
theorem OwnSt.cells {w wr : World} {hb g cc bo ob pb mb base lo ga : Nat} {t t' th : Th} {ks : ByteArray} {kn : Int} {es : List En} {vs : List Vl} {ns : List Nd} {a : Option Addr} {cs : Array Value} (h : OwnSt w hb g cc bo ob pb mb base lo t t' th ks kn es vs ns a wr) (hg : Blk wr ga cs 40) (hlo : w.heap.size ≤ ga) (o : Nat) (xs : List Value) : OwnSt w hb g cc bo ob pb mb base lo t t' th ks kn es vs ns a (wr.setCells ga o xs) := by
  have keep : ∀ {b : Nat} {ds : Array Value} {s : TypeId}, Blk wr b ds s → s ≠ 40 → Blk (wr.setCells ga o xs) b ds s := fun hb hs => (setCells_block ga xs o wr _ (ne_blk hb hg hs)).trans hb
  obtain ⟨cs0, hr⟩ := h.rowt
  refine ⟨keep h.hp (by decide), ?_, ⟨cs0, keep hr (by decide)⟩, ((But.refl ga wr).cells o xs).obj hg h.obj, keep h.own (by decide), keep h.org (by decide), keep h.key (by decide), setCells_below h.below hlo o xs, h.wr.cells _ _ _⟩
  rw [(keep hr (by decide)).cell, ← hr.cell]
  exact h.rowc
theorem OwnSt.call {w wr wx : World} {hb g cc bo ob pb mb base lo : Nat} {t t' th : Th} {ks : ByteArray} {kn : Int} {es : List En} {vs : List Vl} {ns : List Nd} {a : Option Addr} (h : OwnSt w hb g cc bo ob pb mb base lo t t' th ks kn es vs ns a wr) (hbl : Below wr.heap.size wr wx) : OwnSt w hb g cc bo ob pb mb base lo t t' th ks kn es vs ns a wx := by
  obtain ⟨cs0, hr⟩ := h.rowt
  exact ⟨h.hp.call hbl, (hbl.cell (World.block_lt_of_cell? wr _ h.rowc)).trans h.rowc, ⟨cs0, hr.call hbl⟩, h.obj.below hbl, h.own.call hbl, h.org.call hbl, h.key.call hbl, h.below.trans (hbl.mono h.below.size), h.wr.call hbl⟩
/-- What holds while the answer is spoilt. -/
structure Spoil (v0 : World) (bx n m : Nat) (ta : Th) (a a' : Option Addr) (wx : World) : Prop where
  below : Below v0.heap.size v0 wx
  box : Blk wx bx (tcs ta) 27
  w1 : Wr wx v0.heap.size n 20 40 a
  w2 : Wr wx v0.heap.size m 3 23 a'
theorem Spoil.cells {v0 wx : World} {bx n m ga o : Nat} {ta : Th} {a a' : Option Addr} {cs : Array Value} {e : TypeId} (h : Spoil v0 bx n m ta a a' wx) (hg : Blk wx ga cs e) (he : 27 ≠ e) (hlo : v0.heap.size ≤ ga) (xs : List Value) : Spoil v0 bx n m ta a a' (wx.setCells ga o xs) :=
  ⟨setCells_below h.below hlo o xs, (setCells_block ga xs o wx _ (ne_blk h.box hg he)).trans h.box, h.w1.cells _ _ _, h.w2.cells _ _ _⟩

section
attribute [local go_sem ↓] ldE ldT bxT bxO bdO bdT bdD alE alT stE stT stD stV stK
attribute [local irreducible] ecs tcs ocs dcs
attribute [local go_sem] run_bx run_alE run_alT run_bdO run_bdT0 run_bdD0 ecs_0 ecs_1 ecs_10 tcs_0 tcs_5 tcs_20 tcs_set5 tcs_set20 ocs_24
/-- What is known of the object that came in. -/
structure OwnIn (t : Th) (pa aa : Option Addr) (pc ac : Nat) (es : List En) (vs : List Vl) (w : World) : Prop where
  props : t.props = .slice pa es.length pc
  args : t.args = .slice aa vs.length ac
  esAt : EsAt w.heap.size pa es w
  srcE : es.length ≤ 100 → Src pa es.length pc w.heap.size (cellsE es) w
  srcV : vs.length ≤ 100 → Src aa vs.length ac w.heap.size (cellsV vs) w
  vsAt : VsAt w.heap.size aa vs w
  sym : ∀ e ∈ es, -9223372036854775808 ≤ e.kn ∧ e.kn ≤ 9223372036854775807
  le : (es.length : Int) ≤ 9223372036854775807
  lv : (vs.length : Int) ≤ 9223372036854775807
theorem Src.moved {ao : Option Addr} {n c n₀ : Nat} {xs : List Value} {w w' : World} (h : Src ao n c n₀ xs w) (hb : Below n₀ w w') (hs : n₀ ≤ w'.heap.size) : Src ao n c w'.heap.size xs w' := by
  rcases h with h | ⟨ad, ha, hc⟩
  · exact .inl h
  · exact .inr ⟨ad, ha, fun j u hu => ⟨by have := (hc j u hu).1; omega, by rw [hb.cell (by rw [blk_add]; exact (hc j u hu).1)]; exact (hc j u hu).2⟩⟩
set_option maxRecDepth 100000 in
set_option maxHeartbeats 8000000 in
theorem lawOwn_walk (t : Th) (ks : ByteArray) (kn : Int) (pa aa : Option Addr) (pc ac : Nat) (es : List En) (vs : List Vl) (w : World) (hin : OwnIn t pa aa pc ac es vs w) :
    Calls Try.prog 3 #[.agg (tcs t), .agg #[.string ks, .int .i64 kn]] w fun e w' => e = .returned (.bool true) ∧ Below w.heap.size w w' := by
  obtain ⟨w0, hw0⟩ : ∃ w0, (w.alloc (.cells (tcs t) 27)).alloc (.cells #[.string ks, .int .i64 kn] 29) = w0 := ⟨_, rfl⟩
  have k0 : w0.heap.size = w.heap.size + 2 := by rw [← hw0]; simp
  have b0 : Below w.heap.size w w0 := by rw [← hw0]; exact ((Below.refl _ w).alloc (Nat.le_refl _) _).alloc (by simp) _
  have x0 : Blk w0 w.heap.size (tcs t) 27 := by rw [← hw0]; exact (Blk.new w _ _).old _
  have y0 : Blk w0 (w.heap.size + 1) #[.string ks, .int .i64 kn] 29 := by
    have := Blk.new (w.alloc (.cells (tcs t) 27)) #[.string ks, .int .i64 kn] 29
    rw [hw0, World.size_alloc] at this
    exact this
  have HIN := Lib.hid hin
  have B0 := Lib.hid b0
  have X0 := Lib.hid x0
  have Y0 := Lib.hid y0
  clear hin b0 x0 y0
  go_enter Try.func3, Try.ntmps3
  go_wp2_with (go_at_call 5; refine (alive_any _).mono ?_; rintro e w1 ⟨rfl, hb1⟩; refine Hid.out ?_)
  refine Lib.hid ?_
  have b1 := B0.out.trans (hb1.mono (by omega))
  have x1 := X0.out.call hb1
  have y1 := Y0.out.call hb1
  have s1 : w.heap.size + 2 ≤ w1.heap.size := by have := hb1.size; omega
  have c5 : w1.cell? ⟨w.heap.size, 5, none⟩ = some (.slice pa es.length pc) := by rw [x1.cell, tcs_5]; exact congrArg some HIN.out.props
  have hbig := big_any pa pc es w1 HIN.out.le ((HIN.out.esAt.below b1).mono (by omega))
  have B1 := Lib.hid b1
  have X1 := Lib.hid x1
  have Y1 := Lib.hid y1
  clear hb1 b1 x1 y1 hw0
  go_wp2_with (go_at_call 6; refine hbig.mono ?_; rintro e w1' ⟨big, rfl, hsmall, rfl⟩; refine Hid.out ?_)
  refine Lib.hid ?_
  have c20 : w1.cell? ⟨w.heap.size, 20, none⟩ = some (.slice aa vs.length ac) := by rw [X1.out.cell, tcs_20]; exact congrArg some HIN.out.args
  have HSM := Lib.hid hsmall
  clear hsmall hbig
  cases big
  case true =>
    go_wp2
    go_ret
    exact ⟨rfl, B1.out⟩
  case false =>
    obtain ⟨hle, hks⟩ := HSM.out rfl
    by_cases h30 : 30 < (vs.length : Int)
    · go_wp2
      go_ret
      exact ⟨rfl, B1.out⟩
    · have hlv : vs.length ≤ 30 := by omega
      have hd30 : decide (30 < (vs.length : Int)) = false := by simp; omega
      have lt1 := run_ldT X1.out
      obtain ⟨w2, hw2⟩ : ∃ w2, w1.alloc (.cells (hp 2 nilS 0) 49) = w2 := ⟨_, rfl⟩
      have k2 : w2.heap.size = w1.heap.size + 1 := by rw [← hw2]; simp
      have b12 : Below w1.heap.size w1 w2 := by rw [← hw2]; exact (Below.refl _ w1).alloc (Nat.le_refl _) _
      have b2 := B1.out.trans (b12.mono (by omega))
      have x2 := X1.out.call b12
      have lt2 := run_ldT x2
      have hcp := copy_any t pa aa pc ac es vs w2 HIN.out.props HIN.out.args (by omega) (by omega) ((HIN.out.srcE (by omega)).moved b2 (by omega)) ((HIN.out.srcV (by omega)).moved b2 (by omega))
      have z2 : Blk w2 w1.heap.size (hp 2 nilS 0) 49 := by rw [← hw2]; exact Blk.new w1 _ _
      have hfine : ∀ e ∈ es, Fine (ekey e) := fun e he => by
        have h1 := hks e he
        have h2 := HIN.out.sym e he
        exact ⟨by show e.ks.size ≤ _; omega, h2.1, h2.2⟩
      have HF := Lib.hid hfine
      have B2 := Lib.hid b2
      have X2 := Lib.hid x2
      have Z2 := Lib.hid z2
      have Y2 := Lib.hid (Y1.out.call b12)
      clear b12 b2 x2 z2 hfine hks lt1 h30
      go_wp2_with (first | (go_at_call 7; refine (new_any _ _).mono ?_; rintro e wz ⟨rfl, rfl⟩) | (go_at_call 8; refine hcp.mono ?_; rintro e w3 ⟨a, c, a', c', rfl, hr3, hv3, hb3⟩; refine Hid.out ?_))
      refine Lib.hid ?_
      obtain ⟨t', ht'⟩ : ∃ t' : Th, t' = { t with props := .slice a es.length c, args := .slice a' vs.length c' } := ⟨_, rfl⟩
      rw [← ht']
      have tok' : t'.ok := by rw [ht']; exact ⟨⟨_, _, _, rfl⟩, ⟨_, _, _, rfl⟩⟩
      have hst3 := run_stT w3 t' zeroT tok'
      obtain ⟨w4, hw4⟩ : ∃ w4, w3.alloc (.cells (tcs t') 27) = w4 := ⟨_, rfl⟩
      rw [hw4] at hst3
      have k4 : w4.heap.size = w3.heap.size + 1 := by rw [← hw4]; simp
      have s3 : w2.heap.size ≤ w3.heap.size := hb3.size
      have b34 : Below w3.heap.size w3 w4 := by rw [← hw4]; exact (Below.refl _ w3).alloc (Nat.le_refl _) _
      have b24 : Below w2.heap.size w2 w4 := hb3.trans (b34.mono s3)
      have b4 := B2.out.trans (b24.mono (by omega))
      have o4 : Blk w4 w3.heap.size (tcs t') 27 := by rw [← hw4]; exact Blk.new w3 _ _
      have lt4 := run_ldT o4
      have r4 := own_below hr3 b34
      have v4 := own_below hv3 b34
      have z4 := Z2.out.call b24
      have hmk := make_any w1.heap.size w1.heap.size 2 none 0 0 0 [] t' es vs w4 z4 (Nat.le_refl _) (World.ownsRow_nil _ _ _ _) (by omega) (by simp)
        (fun w' hb' => store_any t' a es.length c a' vs.length c' es vs w' (by rw [ht']) (by rw [ht']) (fun w'' hb'' => collect_any a c es w'' (by omega) (esAt_own (own_below r4 (hb'.trans (hb''.mono hb'.size)))) HF.out) (fun w'' hb'' => clone_any a' vs.length c' vs w'' rfl (by omega) (vsAt_own (own_below v4 (hb'.trans (hb''.mono hb'.size))))))
      have B4 := Lib.hid b4
      have O4 := Lib.hid o4
      have R4 := Lib.hid r4
      have X4 := Lib.hid (X2.out.call b24)
      have Y4 := Lib.hid (Y2.out.call b24)
      have HT := Lib.hid ht'
      clear b34 b24 b4 o4 r4 v4 z4 ht' hb3 hr3 hv3 hcp lt2 hw2
      go_wp2_with (go_at_call 9; refine hmk.mono ?_; rintro e w5 ⟨rfl, g, cc, hbk, ob, pb, mb, ns, a5, m5, c5', hrow5, hat, hb5, hkeep⟩; refine Hid.out ?_)
      refine Lib.hid ?_
      have s5 := hb5.size
      have keep : ∀ {b : Nat}, b < w4.heap.size → b ≠ w1.heap.size → w5.heap[b]? = w4.heap[b]? := fun h1 h2 => hkeep _ h1 h2 (by simp [Value.ownBlock])
      have o5 : Blk w5 w3.heap.size (tcs t') 27 := (keep (by omega) (by omega)).trans O4.out
      have x5 : Blk w5 w.heap.size (tcs t) 27 := (keep (by omega) (by omega)).trans X4.out
      have y5 : Blk w5 (w.heap.size + 1) #[.string ks, .int .i64 kn] 29 := (keep (by omega) (by omega)).trans Y4.out
      have r5 : w5.ownsRow w2.heap.size 40 20 (.slice a es.length c) es.length (cellsE es) := by
        have hlt := R4.out.lt
        obtain ⟨h1, h2⟩ := R4.out
        refine ⟨h1, h2.imp id ?_⟩
        rintro ⟨g', cap', cur, e1, e2, e3, e4⟩
        exact ⟨g', cap', cur, e1, e2, (keep (Array.getElem?_eq_some_iff.1 e3).1 (by omega)).trans e3, e4⟩
      have b5 := B4.out.trans (hb5.mono (by omega))
      obtain ⟨th, hth⟩ : ∃ th : Th, th = { t' with props := .slice none 0 0, args := .slice a5 m5 c5' } := ⟨_, rfl⟩
      have hat' : ObjAt w5 w4.heap.size ob pb mb es.length th es vs ns := by rw [hth]; exact hat
      have hst5 : OwnSt w w1.heap.size g cc w3.heap.size ob pb mb w4.heap.size w2.heap.size t t' th ks kn es vs ns a w5 :=
        ⟨hbk, by rw [hrow5.cellAt 0 (by omega)]; rfl, by
          rcases hrow5.2 with ⟨h1, _⟩ | ⟨g', cap', cur, e1, e2, e3, e4⟩
          · simp at h1
          · simp only [Value.slice.injEq, Option.some.injEq, Addr.mk.injEq] at e1
            obtain ⟨⟨rfl, -⟩, -⟩ := e1
            exact ⟨cur, e3⟩, hat', o5, x5, y5, b5, wr_own r5⟩
      have hm5 : m5 = vs.length := by
        have h1 := hat.row
        obtain ⟨q, q', h2⟩ := own_shape h1
        simp at h2
        exact h2.2.1
      have HST := Lib.hid hst5
      have HTH := Lib.hid hth
      have HM5 := Lib.hid hm5
      have HLE := Lib.hid hle
      have HLV := Lib.hid hlv
      clear hst5 hth hm5 hat hat' o5 x5 y5 r5 b5 hbk hrow5 hb5 hkeep keep hmk lt4 hst3 s5
      go_wp2
      go_loopw [9] (fun i wr => ∃ j : Nat, j ≤ es.length ∧ i = .int .i64 j ∧ Hid (OwnSt w w1.heap.size g cc w3.heap.size ob pb mb w4.heap.size w2.heap.size t t' th ks kn es vs ns a wr)) (fun i _ => es.length - (intOf i).toNat)
      case atStart => exact ⟨0, Nat.zero_le _, rfl, HST⟩
      case round =>
        obtain ⟨j, hj, rfl, HO⟩ := hrel
        have c5 := HO.out.own.cell 5
        rw [tcs_5, HT.out] at c5
        have ky := HO.out.key
        have l1 := ky.cell 0
        have l2 := ky.cell 1
        by_cases hlt : j < es.length
        · have hlt2 : (j : Int) < es.length := by omega
          obtain ⟨ga, rfl, hlo, hth2, csx, hgx⟩ : ∃ ga, a = some ⟨ga, 0, none⟩ ∧ w2.heap.size ≤ ga ∧ _ := HO.out.wr.resolve_left (by omega)
          have hstk : (St 29 (.pointer (some ⟨ga, j * 20, none⟩)) (.agg #[.string ks, .int .i64 kn])).run Try.prog wr = .ok () (wr.setCells ga (j * 20) [.string ks, .int .i64 kn]) :=
            run_stMid (cs := #[.string ks, .int .i64 kn]) (there_sub hth2 (by show j * 20 + 2 ≤ es.length * 20; omega)) sizeK (by simp [Value.oneCell'])
          have hnext := Lib.hid (HO.out.cells hgx (by omega) (j * 20) [.string ks, .int .i64 kn])
          clear hth2 hgx ky
          go_wp2
          all_goals go_roundw
          all_goals first
            | (case rel => exact ⟨j + 1, by omega, by go_num, hnext⟩)
            | (case measure => exact measS rfl hlt2)
        · obtain rfl : j = es.length := by omega
          clear hlt hj l1 l2 ky HST
          rename World => v0
          have hat := HO.out.obj
          have hrow := hat.row
          rw [HTH.out] at hrow
          have e5 : m5 = vs.length := HM5.out
          subst e5
          have hvs := vsAt_own hrow
          have hcl : ∀ w', Below v0.heap.size v0 w' → Calls Try.prog 17 #[.slice a5 vs.length c5'] w' (ClonePost w' vs) := fun w' hb => clone_any a5 vs.length c5' vs w' rfl (by have := HLV.out; omega) ((hvs.below hb).mono hb.size)
          have hget := get_some w1.heap.size g ob pb mb es.length 1 cc 0 w4.heap.size 2 0 th es vs ns v0 HO.out.hp (by omega) HO.out.rowc hat (by have := HLE.out; omega) (by have := HLE.out; omega) a5 vs.length c5' (by rw [HTH.out]) hcl
          clear hat hrow hvs hcl
          go_wp2_with (go_at_call 10; refine hget.mono ?_; rintro e w6 ⟨a6, c6, a7, c7, rfl, hr6, hv6, hb6⟩; refine Hid.out ?_)
          refine Lib.hid ?_
          obtain ⟨ta, hta⟩ : ∃ ta : Th, ta = { t with props := .slice a6 es.length c6, args := .slice a7 vs.length c7 } := ⟨_, rfl⟩
          have eta : ({ th with props := .slice a6 es.length c6, args := .slice a7 vs.length c7 } : Th) = ta := by rw [hta, HTH.out, HT.out]
          rw [eta]
          have toka : ta.ok := by rw [hta]; exact ⟨⟨_, _, _, rfl⟩, ⟨_, _, _, rfl⟩⟩
          have hsta := run_stT w6 ta zeroT toka
          obtain ⟨w7, hw7⟩ : ∃ w7, w6.alloc (.cells (tcs ta) 27) = w7 := ⟨_, rfl⟩
          rw [hw7] at hsta
          have s6 := hb6.size
          have b67 : Below w6.heap.size w6 w7 := by rw [← hw7]; exact (Below.refl _ w6).alloc (Nat.le_refl _) _
          have z7 : Blk w7 w6.heap.size (tcs ta) 27 := by rw [← hw7]; exact Blk.new w6 _ _
          have hsp : Spoil v0 w6.heap.size es.length vs.length ta a6 a7 w7 := ⟨hb6.trans (b67.mono s6), z7, wr_own (own_below hr6 b67), wr_own (own_below hv6 b67)⟩
          have HSP := Lib.hid hsp
          have HTA := Lib.hid hta
          clear hsp hta eta b67 z7 hr6 hv6 hb6 hget toka hw7
          go_wp2
          go_loopw [12] (fun i wx => ∃ j : Nat, j ≤ es.length ∧ i = .int .i64 j ∧ Hid (Spoil v0 w6.heap.size es.length vs.length ta a6 a7 wx)) (fun i _ => es.length - (intOf i).toNat)
          case atStart => exact ⟨0, Nat.zero_le _, rfl, HSP⟩
          case round =>
            obtain ⟨j, hj, rfl, HS⟩ := hrel
            have d5 := HS.out.box.cell 5
            rw [tcs_5, HTA.out] at d5
            by_cases hlt : j < es.length
            · have hlt2 : (j : Int) < es.length := by omega
              obtain ⟨ga, rfl, hlo, hth2, csx, hgx⟩ : ∃ ga, a6 = some ⟨ga, 0, none⟩ ∧ v0.heap.size ≤ ga ∧ _ := HS.out.w1.resolve_left (by omega)
              have hstk : (St 38 (.pointer (some ⟨ga, j * 20 + 2, none⟩)) (.agg (dcs zeroD))).run Try.prog wr = .ok () (wr.setCells ga (j * 20 + 2) (dcs zeroD).toList) :=
                run_stMid (there_sub hth2 (by rw [dcs_size]; omega)) (by rw [dcs_size]; exact sizeD) (dcs_one _)
              have hnext := Lib.hid (HS.out.cells hgx (by decide) (by omega) (o := j * 20 + 2) (dcs zeroD).toList)
              clear hth2 hgx
              go_wp2
              all_goals go_roundw
              all_goals first
                | (case rel => exact ⟨j + 1, by omega, by go_num, hnext⟩)
                | (case measure => exact measS rfl hlt2)
            · obtain rfl : j = es.length := by omega
              clear hlt hj HSP
              go_wp2
              rename World => v1
              go_loopw [13] (fun i wx => ∃ j : Nat, j ≤ vs.length ∧ i = .int .i64 j ∧ Hid (Spoil v0 w6.heap.size es.length vs.length ta a6 a7 wx)) (fun i _ => vs.length - (intOf i).toNat)
              case atStart => exact ⟨0, Nat.zero_le _, rfl, HS⟩
              case round =>
                clear d5 HS
                obtain ⟨j, hj, rfl, HS⟩ := hrel
                have d20 := HS.out.box.cell 20
                rw [tcs_20, HTA.out] at d20
                by_cases hlt : j < vs.length
                · have hlt2 : (j : Int) < vs.length := by omega
                  obtain ⟨ga, rfl, hlo, hth2, csx, hgx⟩ : ∃ ga, a7 = some ⟨ga, 0, none⟩ ∧ v0.heap.size ≤ ga ∧ _ := HS.out.w2.resolve_left (by omega)
                  have hstk : (St 23 (.pointer (some ⟨ga, j * 3, none⟩)) (.agg #[.int .i64 77, .int .i64 0, .string ⟨#[]⟩])).run Try.prog wr = .ok () (wr.setCells ga (j * 3) [.int .i64 77, .int .i64 0, .string ⟨#[]⟩]) :=
                    run_stMid (cs := #[.int .i64 77, .int .i64 0, .string ⟨#[]⟩]) (there_sub hth2 (by show j * 3 + 3 ≤ vs.length * 3; omega)) sizeV (by simp [Value.oneCell'])
                  have hnext := Lib.hid (HS.out.cells hgx (by decide) (by omega) (o := j * 3) [.int .i64 77, .int .i64 0, .string ⟨#[]⟩])
                  clear hth2 hgx
                  go_wp2
                  all_goals go_roundw
                  all_goals first
                    | (case rel => exact ⟨j + 1, by omega, by go_num, hnext⟩)
                    | (case measure => exact measS rfl hlt2)
                · obtain rfl : j = vs.length := by omega
                  clear hlt hj
                  rename World => v2
                  have ho2 := HO.out.call HS.out.below
                  have hat := ho2.obj
                  have hrow := hat.row
                  rw [HTH.out] at hrow
                  have hvs := vsAt_own hrow
                  have hcl : ∀ w', Below v2.heap.size v2 w' → Calls Try.prog 17 #[.slice a5 vs.length c5'] w' (ClonePost w' vs) := fun w' hb => clone_any a5 vs.length c5' vs w' rfl (by have := HLV.out; omega) ((hvs.below hb).mono hb.size)
                  have hget := get_some w1.heap.size g ob pb mb es.length 1 cc 0 w4.heap.size 2 0 th es vs ns v2 ho2.hp (by omega) ho2.rowc hat (by have := HLE.out; omega) (by have := HLE.out; omega) a5 vs.length c5' (by rw [HTH.out]) hcl
                  have OX := Lib.hid ho2.org
                  have BX := Lib.hid ho2.below
                  clear hat hrow hvs hcl ho2
                  go_wp2_with (go_at_call 10; refine hget.mono ?_; rintro e w8 ⟨a8, c8, a9, c9, rfl, hr8, hv8, hb8⟩; refine Hid.out ?_)
                  refine Lib.hid ?_
                  obtain ⟨tb, htb⟩ : ∃ tb : Th, tb = { t with props := .slice a8 es.length c8, args := .slice a9 vs.length c9 } := ⟨_, rfl⟩
                  have etb : ({ th with props := .slice a8 es.length c8, args := .slice a9 vs.length c9 } : Th) = tb := by rw [htb, HTH.out, HT.out]
                  rw [etb]
                  have tokb : tb.ok := by rw [htb]; exact ⟨⟨_, _, _, rfl⟩, ⟨_, _, _, rfl⟩⟩
                  have hstb := run_stT w8 tb zeroT tokb
                  obtain ⟨w9, hw9⟩ : ∃ w9, w8.alloc (.cells (tcs tb) 27) = w9 := ⟨_, rfl⟩
                  rw [hw9] at hstb
                  have s8 := hb8.size
                  have b89 : Below w8.heap.size w8 w9 := by rw [← hw9]; exact (Below.refl _ w8).alloc (Nat.le_refl _) _
                  have z9 : Blk w9 w8.heap.size (tcs tb) 27 := by rw [← hw9]; exact Blk.new w8 _ _
                  have b29 : Below v2.heap.size v2 w9 := hb8.trans (b89.mono s8)
                  have lt14 := run_ldT z9
                  have lt2 := run_ldT (OX.out.call b29)
                  have b9 : Below w.heap.size w w9 := BX.out.trans (b29.mono BX.out.size)
                  have htin : ({ t with props := .slice pa es.length pc, args := .slice aa vs.length ac } : Th) = t := by
                    have h1 := HIN.out.props
                    have h2 := HIN.out.args
                    rw [← h1, ← h2]
                  have hsame := sameT_any t a8 pa a9 aa c8 pc c9 ac es vs w9 (by have := HLE.out; omega) (by have := HLV.out; omega)
                    (esAt_own (own_below hr8 b89)) ((HIN.out.esAt.below b9).mono b9.size) (vsAt_own (own_below hv8 b89)) ((HIN.out.vsAt.below b9).mono b9.size)
                  rw [htin, ← htb] at hsame
                  have B9 := Lib.hid b9
                  clear htb etb b89 z9 hr8 hv8 hb8 hget tokb hw9 htin b29 b9
                  go_wp2_with (go_at_call 11; refine hsame.mono ?_; rintro e w10 ⟨rfl, hb10⟩; refine Hid.out ?_)
                  refine Lib.hid ?_
                  have B10 := B9.out.trans (hb10.mono B9.out.size)
                  go_wp2
                  go_ret
                  exact ⟨rfl, B10⟩
end
end Go.Proofs.Ytlhgiihooalanaa.Hp
