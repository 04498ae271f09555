/-
  Texts of this seat in build order: LxNumb, UnBuild, UnWrite.
-/
import Derived.Test.YtkknglmpdmhhjaaGreatDoorMg12
import Derived.Test.YtkknglmpdmhhjaaGreatDoorMg06
import Derived.Lib.AppendStr
import Derived.Test.YtkknglmpdmhhjaaGreatDoorMg01
/-
  reader.number.
-/
namespace Go.Proofs.YtkknglmpdmhhjaaGreatDoor.Lx
open Go Go.RowKit Go.Proofs.YtkknglmpdmhhjaaGreatDoor.Uni
set_option linter.unusedVariables false
set_option linter.unusedSimpArgs false
attribute [local go_sem ↓] ldK stK alK bdK
attribute [local irreducible] kcs
attribute [local go_sem] run_alK run_bdK0 run_bdKs run_bdKn run_bdKe

/-- What is known of the world behind some calls: the result's cell, the reader, the old blocks. -/
structure Mid (g : Nat) (t : ByteArray) (a : Nat) (w W : World) : Prop where
  bel : Below w.heap.size w W
  res : Blk W w.heap.size (kcs zeroK) 79
  rd : Rd W g t a
  ne : g ≠ w.heap.size
theorem mid_start {g : Nat} {t : ByteArray} {a : Nat} {w : World} (hr : Rd w g t a) : Mid g t a w (w.alloc (.cells (kcs zeroK) 79)) := ⟨bel1, Blk.new w _ _, hr.below bel1, by have := hr.lt; omega⟩
theorem Mid.call {g : Nat} {t : ByteArray} {a : Nat} {w W W2 : World} (h : Mid g t a w W) (hb : Below W.heap.size W W2) : Mid g t a w W2 := ⟨h.bel.trans (hb.mono h.bel.size), h.res.call hb, h.rd.below hb, h.ne⟩
theorem Mid.drewN {g : Nat} {t : ByteArray} {a : Nat} {w W : World} (h : Mid g t a w W) (n : Nat) : Mid g t a w (W.drewN n) := h.call (below_drewN (Below.refl _ _) n)
theorem Mid.drew {g : Nat} {t : ByteArray} {a : Nat} {w W : World} (h : Mid g t a w W) : Mid g t a w W.drew := h.call (Below.refl _ _).drew
/-- The token is none. -/
theorem Mid.bad {g : Nat} {t : ByteArray} {a : Nat} {w W : World} (h : Mid g t a w W) {l : By} (hl : t.data.toList.drop a = l) (ha : a ≤ t.size) {fn : Func} {p q : Tmp} (hf : fn.results = #[.cell p 79, .tmp q]) {tmps : Array Value} (hp : tmps.getD p undef = .pointer (some ⟨w.heap.size, 0, none⟩)) (hq : tmps.getD q undef = .bool false) : bodyPost Tryz.prog fn (GotP g t a w (.bad l)) .ret ⟨tmps, []⟩ (W.setRow w.heap.size (kcs zeroK)) :=
  bodyPost_ret (res_K hf _ _ w.heap.size zeroK _ hp hq (h.res.row _)) rfl ⟨rfl, a, hl.symm, ha, h.rd.row _ h.ne, (GB.of h.bel).row _ (Nat.le_refl _)⟩
/-- The token has been made and the reader has gone on. -/
theorem Mid.good {g : Nat} {t : ByteArray} {a b : Nat} {w W : World} (h : Mid g t a w W) {l : By} (tk : Tk) {v : Int} (hv : v = (b : Int)) (hl : l = t.data.toList.drop b) (hb : b ≤ t.size) {o : Obj} {fn : Func} {p q : Tmp} (hf : fn.results = #[.cell p 79, .tmp q]) {tmps : Array Value} (hp : tmps.getD p undef = .pointer (some ⟨w.heap.size, 0, none⟩)) (hq : tmps.getD q undef = .bool true) : bodyPost Tryz.prog fn (GotP g t a w (.ok tk l)) .ret ⟨tmps, []⟩ (((W.setCell ⟨g, 1, none⟩ (.int .i64 v)).alloc o).setRow w.heap.size (kcs ⟨tk.kind, a, tk.num, tk.text⟩)) :=
  bodyPost_ret (res_K hf _ _ w.heap.size ⟨tk.kind, a, tk.num, tk.text⟩ _ hp hq (((h.res.other _ _ (by simpa using h.ne.symm)).old _).row _)) rfl ⟨rfl, b, hl, hb, ((h.rd.set hv).below bel1).row _ h.ne, (((GB.of h.bel).trans (GB.set _ _ _)).trans (GB.of bel1)).row _ (Nat.le_refl _)⟩
theorem lw_mid {w W : World} (h : Nums.Lw w) (hb : Below w.heap.size w W) : Nums.Lw W := h.below hb

set_option maxRecDepth 100000 in
set_option maxHeartbeats 4000000 in
theorem numb_no (g : Nat) (t : ByteArray) (a : Nat) (w : World) (hr : Rd w g t a) (ha : a ≤ t.size) (ht : t.size ≤ 1000000) (hF : Nums.Lw w) (l : By) (hl : t.data.toList.drop a = l) (hrd : Nums.readF (lead digitN l) = none) :
    Calls Tryz.prog 79 #[.pointer (some ⟨g, 0, none⟩)] w (GotP g t a w (numbF l)) := by
  have hlen : a + l.length = t.size := by rw [← hl, List.length_drop, lsz]; omega
  have hrest := fun (w' : World) (hb : Below w.heap.size w w') => rest_any g t a w' (hr.below hb) ha ht
  have hlead := fun w => leading_digit (bs l) w (by rw [bs_size]; omega)
  rw [bs_list] at hlead
  rw [hl] at hrest
  obtain ⟨d, hd⟩ : ∃ d, bs (lead digitN l) = d := ⟨_, rfl⟩
  have hdl : d.data.toList = lead digitN l := by rw [← hd, bs_list]
  have hdz : d.size = (lead digitN l).length := by rw [← hd, bs_size]
  have hdb : a + d.size ≤ t.size := by have := lead_len digitN l; omega
  rw [hd] at hlead
  have hread := fun (w' : World) (hb : Below w.heap.size w w') => Nums.read_any d (by omega) w' (hF.below hb)
  rw [hdl] at hread
  have hM : Mid g t a w (w.alloc (.cells (kcs zeroK) 79)) := mid_start hr
  have hai : (a : Int) ≤ 1000000 := by omega
  have hsi : (d.size : Int) ≤ 1000000 := by omega
  have hsum : (a : Int) + d.size ≤ t.size := by omega
  have he : numbF l = .bad l := by unfold numbF; rw [hrd]
  have HE := Lib.hid he
  rw [hrd] at hread
  clear he hrd
  have HL := Lib.hid hl
  have HD := Lib.hid hdb
  have HZ := Lib.hid hdz
  have HM := Lib.hid hM
  clear hl hd hdl hdb hdz hF hM hr
  go_enter Tryz.func79, Tryz.ntmps79
  go_wp2_with (first | (go_at_call 75; refine (hrest _ (by repeat (first | (with_reducible exact Below.refl _ _) | (with_reducible assumption) | with_reducible apply bl_alloc | with_reducible apply bl_drew | with_reducible apply bl_drewN))).mono ?_; rintro e w1 ⟨rfl, n1, rfl⟩; have hm1 := HM.out.drewN n1) | (go_at_call 127; refine (hlead _).mono ?_; rintro e w2 ⟨rfl, hb2⟩; have hm2 := hm1.call hb2; have bel2 := hm2.bel) | (go_at_call 129; refine (hread _ bel2).mono ?_; rintro e w3 ⟨rfl, hb3⟩; unfold Nums.two; refine Hid.out ?_))
  refine Lib.hid ?_
  have hm3 := hm2.call hb3
  have c0 := hm3.rd.c0
  have c1 := hm3.rd.c1
  have HM3 := Lib.hid hm3
  clear hrest hlead hread hm1 hb2 hm2 bel2 hb3 HM hm3
  have sv := fun n => run_stK (t := zeroK) (HM3.out.res.drewN n)
  go_wp2
  go_quiet (fail)
  go_wp2
  rw [HE.out]
  exact (HM3.out.drewN _).bad HL.out ha rfl rfl rfl

set_option maxRecDepth 100000 in
set_option maxHeartbeats 4000000 in
theorem numb_yes (g : Nat) (t : ByteArray) (a : Nat) (w : World) (hr : Rd w g t a) (ha : a ≤ t.size) (ht : t.size ≤ 1000000) (hF : Nums.Lw w) (l : By) (hl : t.data.toList.drop a = l) (n : Int) (hrd : Nums.readF (lead digitN l) = some n) (hz : lead leadN (l.drop (lead digitN l).length) = []) :
    Calls Tryz.prog 79 #[.pointer (some ⟨g, 0, none⟩)] w (GotP g t a w (numbF l)) := by
  have hlen : a + l.length = t.size := by rw [← hl, List.length_drop, lsz]; omega
  have hrest := fun (w' : World) (hb : Below w.heap.size w w') => rest_any g t a w' (hr.below hb) ha ht
  have hlead := fun w => leading_digit (bs l) w (by rw [bs_size]; omega)
  rw [bs_list] at hlead
  rw [hl] at hrest
  obtain ⟨d, hd⟩ : ∃ d, bs (lead digitN l) = d := ⟨_, rfl⟩
  have hdl : d.data.toList = lead digitN l := by rw [← hd, bs_list]
  have hdz : d.size = (lead digitN l).length := by rw [← hd, bs_size]
  have hdb : a + d.size ≤ t.size := by have := lead_len digitN l; omega
  rw [hd] at hlead
  have hread := fun (w' : World) (hb : Below w.heap.size w w') => Nums.read_any d (by omega) w' (hF.below hb)
  rw [hdl] at hread
  have hM : Mid g t a w (w.alloc (.cells (kcs zeroK) 79)) := mid_start hr
  have hai : (a : Int) ≤ 1000000 := by omega
  have hsi : (d.size : Int) ≤ 1000000 := by omega
  have hsum : (a : Int) + d.size ≤ t.size := by omega
  have hst := fun w => leading_start (t.extract (a + d.size) t.size) w (by simp; omega)
  have hld : lead leadN (t.extract (a + d.size) t.size).data.toList = lead leadN (l.drop (lead digitN l).length) := by rw [ext_drop, ← hl, List.drop_drop, hl, hdz]
  rw [hld] at hst
  have he : numbF l = .ok ⟨3, n, ⟨#[]⟩⟩ (l.drop (lead digitN l).length) := by unfold numbF; rw [hrd]; exact if_pos hz
  have HE := Lib.hid he
  rw [hrd] at hread
  rw [hz] at hst
  clear he hrd hz hld
  have HL := Lib.hid hl
  have HD := Lib.hid hdb
  have HZ := Lib.hid hdz
  have HM := Lib.hid hM
  clear hl hd hdl hdb hdz hF hM hr
  go_enter Tryz.func79, Tryz.ntmps79
  go_wp2_with (first | (go_at_call 75; refine (hrest _ (by repeat (first | (with_reducible exact Below.refl _ _) | (with_reducible assumption) | with_reducible apply bl_alloc | with_reducible apply bl_drew | with_reducible apply bl_drewN))).mono ?_; rintro e w1 ⟨rfl, n1, rfl⟩; have hm1 := HM.out.drewN n1) | (go_at_call 127; refine (hlead _).mono ?_; rintro e w2 ⟨rfl, hb2⟩; have hm2 := hm1.call hb2; have bel2 := hm2.bel) | (go_at_call 129; refine (hread _ bel2).mono ?_; rintro e w3 ⟨rfl, hb3⟩; unfold Nums.two; refine Hid.out ?_))
  refine Lib.hid ?_
  have hm3 := hm2.call hb3
  have c0 := hm3.rd.c0
  have c1 := hm3.rd.c1
  have HM3 := Lib.hid hm3
  clear hrest hlead hread hm1 hb2 hm2 bel2 hb3 HM hm3
  go_wp2
  go_quiet (fail)
  have e0 : (bs ([] : By)).toList.isEmpty = true := by rw [ByteArray.toList_eq, bs_list]; rfl
  have e1 : (bs ([] : By)).toList = [] := by rw [ByteArray.toList_eq, bs_list]
  clear c0 c1
  go_wp2_with (go_at_call 127; refine (hst _).mono ?_; rintro e w4 ⟨rfl, hb4⟩; have hm4 := (HM3.out.drewN _).call hb4; have c1' := hm4.rd.c1; have c1a : ∀ o, (w4.alloc o).cell? ⟨g, 1, none⟩ = some (.int .i64 (a : Int)) := (fun o => (hm4.rd.below bel1).c1); have f1a : ∀ o, (w4.alloc o).frozen? ⟨g, 1, none⟩ = false := (fun o => (hm4.rd.below bel1).f1); have sn := run_stKg w4 w4.heap.size ⟨3, a, n, ⟨#[]⟩⟩ zeroK rfl; have lv := run_ldK (blk_newg (w := w4.setCell ⟨g, 1, none⟩ (.int .i64 ((a : Int) + d.size))) (g := w4.heap.size) (cs := kcs ⟨3, a, n, ⟨#[]⟩⟩) (t := 79) (by simp [World.setCell])); have sv := run_stK (t := ⟨3, a, n, ⟨#[]⟩⟩) (((hm4.res.other ⟨g, 1, none⟩ (.int .i64 ((a : Int) + d.size)) (by simpa using hm4.ne.symm)).old (.cells (kcs ⟨3, a, n, ⟨#[]⟩⟩) 79))); have HM4 := Lib.hid hm4; have hg4 := hm4.rd.lt; clear hb4 hm4)
  rw [HE.out]
  exact HM4.out.good ⟨3, n, ⟨#[]⟩⟩ (by omega) (by rw [← HL.out, List.drop_drop, HL.out, HZ.out]) HD.out rfl rfl rfl

set_option maxRecDepth 100000 in
set_option maxHeartbeats 4000000 in
theorem numb_bad (g : Nat) (t : ByteArray) (a : Nat) (w : World) (hr : Rd w g t a) (ha : a ≤ t.size) (ht : t.size ≤ 1000000) (hF : Nums.Lw w) (l : By) (hl : t.data.toList.drop a = l) (n : Int) (hrd : Nums.readF (lead digitN l) = some n) (hz : lead leadN (l.drop (lead digitN l).length) ≠ []) :
    Calls Tryz.prog 79 #[.pointer (some ⟨g, 0, none⟩)] w (GotP g t a w (numbF l)) := by
  have hlen : a + l.length = t.size := by rw [← hl, List.length_drop, lsz]; omega
  have hrest := fun (w' : World) (hb : Below w.heap.size w w') => rest_any g t a w' (hr.below hb) ha ht
  have hlead := fun w => leading_digit (bs l) w (by rw [bs_size]; omega)
  rw [bs_list] at hlead
  rw [hl] at hrest
  obtain ⟨d, hd⟩ : ∃ d, bs (lead digitN l) = d := ⟨_, rfl⟩
  have hdl : d.data.toList = lead digitN l := by rw [← hd, bs_list]
  have hdz : d.size = (lead digitN l).length := by rw [← hd, bs_size]
  have hdb : a + d.size ≤ t.size := by have := lead_len digitN l; omega
  rw [hd] at hlead
  have hread := fun (w' : World) (hb : Below w.heap.size w w') => Nums.read_any d (by omega) w' (hF.below hb)
  rw [hdl] at hread
  have hM : Mid g t a w (w.alloc (.cells (kcs zeroK) 79)) := mid_start hr
  have hai : (a : Int) ≤ 1000000 := by omega
  have hsi : (d.size : Int) ≤ 1000000 := by omega
  have hsum : (a : Int) + d.size ≤ t.size := by omega
  have hst := fun w => leading_start (t.extract (a + d.size) t.size) w (by simp; omega)
  have hld : lead leadN (t.extract (a + d.size) t.size).data.toList = lead leadN (l.drop (lead digitN l).length) := by rw [ext_drop, ← hl, List.drop_drop, hl, hdz]
  rw [hld] at hst
  have he : numbF l = .bad l := by unfold numbF; rw [hrd]; exact if_neg hz
  have HE := Lib.hid he
  rw [hrd] at hread
  obtain ⟨x, hx⟩ : ∃ x, bs (lead leadN (l.drop (lead digitN l).length)) = x := ⟨_, rfl⟩
  have hxe : x.toList.isEmpty = false := by
    rw [ByteArray.toList_eq, ← hx, bs_list]
    cases hq : lead leadN (l.drop (lead digitN l).length) with
    | nil => exact absurd hq hz
    | cons _ _ => rfl
  have hxn : x.toList ≠ [] := fun h => by rw [h] at hxe; cases hxe
  rw [hx] at hst
  clear he hrd hz hx hld
  have HL := Lib.hid hl
  have HD := Lib.hid hdb
  have HZ := Lib.hid hdz
  have HM := Lib.hid hM
  clear hl hd hdl hdb hdz hF hM hr
  go_enter Tryz.func79, Tryz.ntmps79
  go_wp2_with (first | (go_at_call 75; refine (hrest _ (by repeat (first | (with_reducible exact Below.refl _ _) | (with_reducible assumption) | with_reducible apply bl_alloc | with_reducible apply bl_drew | with_reducible apply bl_drewN))).mono ?_; rintro e w1 ⟨rfl, n1, rfl⟩; have hm1 := HM.out.drewN n1) | (go_at_call 127; refine (hlead _).mono ?_; rintro e w2 ⟨rfl, hb2⟩; have hm2 := hm1.call hb2; have bel2 := hm2.bel) | (go_at_call 129; refine (hread _ bel2).mono ?_; rintro e w3 ⟨rfl, hb3⟩; unfold Nums.two; refine Hid.out ?_))
  refine Lib.hid ?_
  have hm3 := hm2.call hb3
  have c0 := hm3.rd.c0
  have c1 := hm3.rd.c1
  have HM3 := Lib.hid hm3
  clear hrest hlead hread hm1 hb2 hm2 bel2 hb3 HM hm3
  go_wp2
  go_quiet (fail)
  go_wp2_with (go_at_call 127; refine (hst _).mono ?_; rintro e w4 ⟨rfl, hb4⟩; have hm4 := (HM3.out.drewN _).call hb4; have sv := run_stK (t := zeroK) hm4.res; have HM4 := Lib.hid hm4; clear hm4 hb4)
  rw [HE.out]
  exact HM4.out.bad HL.out ha rfl rfl rfl

theorem numb_any (g : Nat) (t : ByteArray) (a : Nat) (w : World) (hr : Rd w g t a) (ha : a ≤ t.size) (ht : t.size ≤ 1000000) (hF : Nums.Lw w) :
    Calls Tryz.prog 79 #[.pointer (some ⟨g, 0, none⟩)] w (GotP g t a w (numbF (t.data.toList.drop a))) := by
  cases hrd : Nums.readF (lead digitN (t.data.toList.drop a)) with
  | none => exact numb_no g t a w hr ha ht hF _ rfl hrd
  | some n =>
    by_cases hz : lead leadN ((t.data.toList.drop a).drop (lead digitN (t.data.toList.drop a)).length) = []
    · exact numb_yes g t a w hr ha ht hF _ rfl n hrd hz
    · exact numb_bad g t a w hr ha ht hF _ rfl n hrd hz
end Go.Proofs.YtkknglmpdmhhjaaGreatDoor.Lx

/-
  strings.Builder's writers, at a builder that has been grown.
-/
namespace Go.Proofs.YtkknglmpdmhhjaaGreatDoor.Uni
open Go.RowKit
set_option linter.unusedVariables false

theorem size46 : (Tryz.prog.info? 60).map (·.size) = some 2 := by kernel_rfl
theorem info5 : (Tryz.prog.info? 5).map (fun i => (i.zero, i.size, i.bytes)) = some (some (.int .u8 0), 1, 1) := by kernel_rfl

/-- A builder in block b that has been used and holds the bytes bs. -/
def Bd (base b : Nat) (bs : List Value) (w : World) : Prop := Lib.BuilderAt 60 5 base b (.pointer (some ⟨b, 0, none⟩)) bs w

/-- Every block but b that is no row of bytes stays as it is. -/
def KeepW (b : Nat) (w w' : World) : Prop := ∀ (k : Nat) (o : Obj), w.heap[k]? = some o → k ≠ b → (∀ cs fz, o ≠ .cells cs 5 fz) → w'.heap[k]? = some o
theorem KeepW.refl (b : Nat) (w : World) : KeepW b w w := fun _ _ h _ _ => h
theorem KeepW.trans {b : Nat} {w w1 w2 : World} (h1 : KeepW b w w1) (h2 : KeepW b w1 w2) : KeepW b w w2 := fun k o h hk ho => h2 k o (h1 k o h hk ho) hk ho
theorem KeepW.of_below {b : Nat} {w w' : World} (h : Below w.heap.size w w') : KeepW b w w' := fun k o hk _ _ => (h.block k (Array.getElem?_eq_some_iff.1 hk).1).trans hk

set_option maxHeartbeats 400000 in
theorem copyCheck_used (b : Nat) (w : World) (h0 : w.cell? ⟨b, 0, none⟩ = some (.pointer (some ⟨b, 0, none⟩))) :
    Calls Tryz.prog 106 #[.pointer (some ⟨b, 0, none⟩)] w fun e w' => e = .returned (.tuple #[]) ∧ w = w' := by
  obtain ⟨j, hj, _⟩ := Option.map_eq_some_iff.1 size46
  have hne := fun w => Lib.run_neq_ptr_same (P := Tryz.prog) w (⟨b, 0, none⟩ : Addr) Tryz.underlying58 hj
  go_enter Tryz.func106, Tryz.ntmps106
  go_wp2
  go_end0
  exact ⟨rfl, rfl⟩

theorem bd_parts {base b : Nat} {bs : List Value} {w : World} (h : Bd base b bs w) : base ≤ b ∧ ∃ ao cp, w.heap[b]? = some (.cells #[.pointer (some ⟨b, 0, none⟩), .slice ao bs.length cp] 60 (0, 0)) ∧ w.ownsRow base 5 1 (.slice ao bs.length cp) bs.length bs := by
  obtain ⟨hB, v, hb, hown, _⟩ := h
  obtain ⟨ao, cp, rfl⟩ := own_shape hown
  exact ⟨hB, ao, cp, hb, hown⟩

theorem bd_put {base b n m : Nat} {bs bs' : List Value} {ao ao' : Option Addr} {cp cp' : Nat} {w w2 : World} (hB : base ≤ b) (hb : w.heap[b]? = some (.cells #[.pointer (some ⟨b, 0, none⟩), .slice ao n cp] 60 (0, 0)))
    (hown : w.ownsRow base 5 1 (.slice ao n cp) n bs) (hown' : w2.ownsRow base 5 1 (.slice ao' m cp') m bs') (hm : bs'.length = m) (hbw : base ≤ w.heap.size) (hgrow : ∃ w1, Below w.heap.size w w1 ∧ w1.grownBy w2 (Value.slice ao n cp).ownBlock) :
    Bd base b bs' (w2.setCell ⟨b, 1, none⟩ (.slice ao' m cp')) ∧ Below base w (w2.setCell ⟨b, 1, none⟩ (.slice ao' m cp')) ∧ KeepW b w (w2.setCell ⟨b, 1, none⟩ (.slice ao' m cp')) := by
  obtain ⟨w1, hbelw, hg⟩ := hgrow
  have hbel : Below base w w1 := hbelw.mono hbw
  have hbs : base ≤ w1.heap.size := Nat.le_trans hbw hbelw.size
  have hbb := hbelw.block b (lt_of_block hb)
  have hlt : b < w1.heap.size := Nat.lt_of_lt_of_le (lt_of_block hb) hbelw.size
  have hne := own_ne hown hb (by decide)
  have hb2 : w2.heap[b]? = some (.cells #[.pointer (some ⟨b, 0, none⟩), .slice ao n cp] 60 (0, 0)) := by
    rw [hg.block b hlt (fun e => hne e.symm), hbb]
    exact hb
  subst hm
  refine ⟨Lib.BuilderAt.put hB hb2 hown' (by decide), ?_, ?_⟩
  · refine Below.setCell ?_ hB _
    exact hbel.grown hg hbs (fun k hk => (hown.lt k hk).1)
  · intro k o hk hkb ho
    have hkl := (Array.getElem?_eq_some_iff.1 hk).1
    have hk1 := (hbelw.block k hkl).trans hk
    have hkr : some k ≠ (Value.slice ao n cp).ownBlock := by
      intro e
      rcases hown.2 with ⟨h, _⟩ | ⟨g, _, cur, h, _, hg2, _⟩
      · rw [h] at e; simp [Value.ownBlock] at e
      · rw [h] at e
        simp [Value.ownBlock] at e
        subst e
        rw [hg2] at hk
        exact ho cur (0, 0) (by simpa using hk.symm)
    rw [Below.heap_setCell _ _ _ _ (fun e => hkb e)]
    exact (hg.block k (Nat.lt_of_lt_of_le hkl hbelw.size) hkr).trans hk1

set_option maxRecDepth 100000 in
set_option maxHeartbeats 400000 in
theorem writeByte_keep (base b : Nat) (bs : List Value) (c : Int) (w : World) (h : Bd base b bs w) (hl : bs.length ≤ 1000000000) (hb : base ≤ w.heap.size) :
    Calls Tryz.prog 160 #[.pointer (some ⟨b, 0, none⟩), .int .u8 c] w fun e w' => e = .returned .nilIface ∧ Bd base b (bs ++ [.int .u8 c]) w' ∧ Below base w w' ∧ KeepW b w w' := by
  obtain ⟨i0, hi, hz0, hz1, hz2⟩ := info_parts info5
  obtain ⟨hB, ao, cp, hbk, hown⟩ := bd_parts h
  obtain ⟨n, hn⟩ : ∃ n, bs.length = n := ⟨_, rfl⟩
  rw [hn] at hbk hown hl
  have HN := Lib.hid hn
  have c0 : w.cell? ⟨b, 0, none⟩ = some (.pointer (some ⟨b, 0, none⟩)) := by rw [Lib.cell_of_heap hbk]; rfl
  have c1 : w.cell? ⟨b, 1, none⟩ = some (.slice ao n cp) := by rw [Lib.cell_of_heap hbk]; rfl
  have HK := Lib.hid hbk
  have hlt := lt_of_block hbk
  have hne := own_ne hown hbk (by decide)
  clear hn hbk h
  go_enter Tryz.func160, Tryz.ntmps160
  go_wp2_with (first | (go_at_call 106; refine (copyCheck_used b w c0).mono ?_; rintro e w' ⟨rfl, rfl⟩) | (at_builtin; refine wpList_append_own _ rfl _ _ 22 rfl base 5 i0 (.int .u8 0) 1 1 Tryz.underlying22 hi hz0 hz1 hz2 rfl (by decide) _ _ _ rfl (hown.alloc _) ⟨w.heap.size, 0, none⟩ 1 1 [.int .u8 c] rfl rfl (cell_one_new _ _ _) (one_cells _ _) (by unfold maxLen; omega) (by omega) (size_alloc_le _ hb) ?_))
  intro v' w2 hown' hgrow _
  have hb2 : w2.heap[b]? = some (.cells #[.pointer (some ⟨b, 0, none⟩), .slice ao n cp] 60 (0, 0)) := by
    rw [hgrow.block b (by simp; omega) (fun e => hne e.symm), heap_alloc_old w _ hlt]
    exact HK.out
  have d0 : w2.cell? ⟨b, 0, none⟩ = some (.pointer (some ⟨b, 0, none⟩)) := by rw [Lib.cell_of_heap hb2]; rfl
  have d1 : w2.cell? ⟨b, 1, none⟩ = some (.slice ao n cp) := by rw [Lib.cell_of_heap hb2]; rfl
  have f1 : w2.frozen? ⟨b, 1, none⟩ = false := Lib.frozen_of_heap hb2 1
  obtain ⟨ao', cp', rfl⟩ := own_shape hown'
  have R := bd_put hB HK.out hown hown' (by rw [List.length_append, HN.out]; rfl) hb ⟨_, (Below.refl _ w).alloc (Nat.le_refl _) _, hgrow⟩
  clear hb2 hown' hgrow hown hne
  go_wp2
  go_ret
  exact ⟨rfl, R⟩

set_option maxRecDepth 100000 in
set_option maxHeartbeats 400000 in
theorem writeString_keep (base b : Nat) (bs : List Value) (s : ByteArray) (w : World) (h : Bd base b bs w) (hl : bs.length ≤ 1000000000) (hs : s.size ≤ 1000000000) (hb : base ≤ w.heap.size) :
    Calls Tryz.prog 60 #[.pointer (some ⟨b, 0, none⟩), .string s] w fun e w' => e = .returned (.tuple #[.int .i64 s.size, .nilIface]) ∧ Bd base b (bs ++ Lib.strCells s) w' ∧ Below base w w' ∧ KeepW b w w' := by
  obtain ⟨i0, hi, hz0, hz1, hz2⟩ := info_parts info5
  obtain ⟨hB, ao, cp, hbk, hown⟩ := bd_parts h
  obtain ⟨n, hn⟩ : ∃ n, bs.length = n := ⟨_, rfl⟩
  rw [hn] at hbk hown hl
  have HN := Lib.hid hn
  have c0 : w.cell? ⟨b, 0, none⟩ = some (.pointer (some ⟨b, 0, none⟩)) := by rw [Lib.cell_of_heap hbk]; rfl
  have c1 : w.cell? ⟨b, 1, none⟩ = some (.slice ao n cp) := by rw [Lib.cell_of_heap hbk]; rfl
  have HK := Lib.hid hbk
  have hlt := lt_of_block hbk
  have hne := own_ne hown hbk (by decide)
  clear hn hbk h
  go_enter Tryz.func60, Tryz.ntmps60
  go_wp2_with (first | (go_at_call 106; refine (copyCheck_used b w c0).mono ?_; rintro e w' ⟨rfl, rfl⟩) | (at_builtin; refine Lib.wpList_append_own_string _ rfl _ _ 22 9 rfl base 5 i0 Tryz.underlying22 Tryz.underlying9 hi hz0 hz1 hz2 _ _ _ rfl hown s rfl (by unfold maxLen; omega) (by omega) hb ?_))
  intro v' w2 hown' hgrow _
  have hb2 : w2.heap[b]? = some (.cells #[.pointer (some ⟨b, 0, none⟩), .slice ao n cp] 60 (0, 0)) := by
    rw [hgrow.block b hlt (fun e => hne e.symm)]
    exact HK.out
  have d0 : w2.cell? ⟨b, 0, none⟩ = some (.pointer (some ⟨b, 0, none⟩)) := by rw [Lib.cell_of_heap hb2]; rfl
  have d1 : w2.cell? ⟨b, 1, none⟩ = some (.slice ao n cp) := by rw [Lib.cell_of_heap hb2]; rfl
  have f1 : w2.frozen? ⟨b, 1, none⟩ = false := Lib.frozen_of_heap hb2 1
  obtain ⟨ao', cp', rfl⟩ := own_shape hown'
  have R := bd_put hB HK.out hown hown' (by rw [List.length_append, HN.out, Lib.strCells_length]) hb ⟨_, Below.refl _ w, hgrow⟩
  clear hb2 hown' hgrow hown hne
  go_wp2
  go_ret2
  exact ⟨rfl, R⟩

set_option maxRecDepth 100000 in
set_option maxHeartbeats 400000 in
theorem writeRune_keep (base b : Nat) (bs : List Value) (r : Int) (w : World) (h : Bd base b bs w) (hr0 : 0 ≤ r) (hr1 : r ≤ 1114111) (hl : bs.length ≤ 1000000000) (hb : base ≤ w.heap.size) :
    Calls Tryz.prog 63 #[.pointer (some ⟨b, 0, none⟩), .int .i32 r] w fun e w' => (∃ v, e = .returned v) ∧ Bd base b (bs ++ Lib.runeCells r) w' ∧ Below base w w' ∧ KeepW b w w' := by
  obtain ⟨hB, ao, cp, hbk, hown⟩ := bd_parts h
  obtain ⟨n, hn⟩ : ∃ n, bs.length = n := ⟨_, rfl⟩
  rw [hn] at hbk hown hl
  have HN := Lib.hid hn
  have c0 : w.cell? ⟨b, 0, none⟩ = some (.pointer (some ⟨b, 0, none⟩)) := by rw [Lib.cell_of_heap hbk]; rfl
  have c1 : w.cell? ⟨b, 1, none⟩ = some (.slice ao n cp) := by rw [Lib.cell_of_heap hbk]; rfl
  have HK := Lib.hid hbk
  have hlt := lt_of_block hbk
  have hne := own_ne hown hbk (by decide)
  have hk4 := Lib.runeCells_le r
  clear hn hbk h
  go_enter Tryz.func63, Tryz.ntmps63
  go_wp2_with (first | (go_at_call 106; refine (copyCheck_used b w c0).mono ?_; rintro e w' ⟨rfl, rfl⟩) | (go_at_call 111; refine (Tryz.utf8_AppendRune_plain base _ n bs r (by omega) (by omega) w hown (by omega) hb).mono ?_))
  rintro e w2 ⟨v', rfl, hown', o, hgrow⟩
  have hb2 : w2.heap[b]? = some (.cells #[.pointer (some ⟨b, 0, none⟩), .slice ao n cp] 60 (0, 0)) := by
    rw [hgrow.block b (by simp; omega) (fun e => hne e.symm), heap_alloc_old w _ hlt]
    exact HK.out
  obtain ⟨ao', cp', rfl⟩ := own_shape hown'
  obtain ⟨m, hm⟩ : ∃ m, n + (Lib.runeCells r).length = m := ⟨_, rfl⟩
  rw [hm] at hown'
  have hm2 : m ≤ 2000000000 := by omega
  have d0 : w2.cell? ⟨b, 0, none⟩ = some (.pointer (some ⟨b, 0, none⟩)) := by rw [Lib.cell_of_heap hb2]; rfl
  have d1 : w2.cell? ⟨b, 1, none⟩ = some (.slice ao n cp) := by rw [Lib.cell_of_heap hb2]; rfl
  have f1 : w2.frozen? ⟨b, 1, none⟩ = false := Lib.frozen_of_heap hb2 1
  have R := bd_put hB HK.out hown hown' (by rw [List.length_append, HN.out]; exact hm) hb ⟨_, (Below.refl _ w).alloc (Nat.le_refl _) o, hgrow⟩
  have e1 : (w2.setCell ⟨b, 1, none⟩ (.slice ao' m cp')).cell? ⟨b, 1, none⟩ = some (.slice ao' m cp') := by
    have := World.cell?_setCell_same w2 ⟨b, 1, none⟩ (.slice ao' m cp') d1
    exact this
  rw [hm]
  clear hb2 hown' hgrow hown hne hm hk4
  go_wp2
  go_ret2
  exact ⟨⟨_, rfl⟩, R⟩

theorem writeByte_any (base b : Nat) (bs : List Value) (c : Int) (w : World) (h : Bd base b bs w) (hl : bs.length ≤ 1000000000) (hb : base ≤ w.heap.size) :
    Calls Tryz.prog 160 #[.pointer (some ⟨b, 0, none⟩), .int .u8 c] w fun e w' => e = .returned .nilIface ∧ Bd base b (bs ++ [.int .u8 c]) w' ∧ Below base w w' :=
  (writeByte_keep base b bs c w h hl hb).mono fun _ _ h => ⟨h.1, h.2.1, h.2.2.1⟩
theorem writeString_any (base b : Nat) (bs : List Value) (s : ByteArray) (w : World) (h : Bd base b bs w) (hl : bs.length ≤ 1000000000) (hs : s.size ≤ 1000000000) (hb : base ≤ w.heap.size) :
    Calls Tryz.prog 60 #[.pointer (some ⟨b, 0, none⟩), .string s] w fun e w' => e = .returned (.tuple #[.int .i64 s.size, .nilIface]) ∧ Bd base b (bs ++ Lib.strCells s) w' ∧ Below base w w' :=
  (writeString_keep base b bs s w h hl hs hb).mono fun _ _ h => ⟨h.1, h.2.1, h.2.2.1⟩
theorem writeRune_any (base b : Nat) (bs : List Value) (r : Int) (w : World) (h : Bd base b bs w) (hr0 : 0 ≤ r) (hr1 : r ≤ 1114111) (hl : bs.length ≤ 1000000000) (hb : base ≤ w.heap.size) :
    Calls Tryz.prog 63 #[.pointer (some ⟨b, 0, none⟩), .int .i32 r] w fun e w' => (∃ v, e = .returned v) ∧ Bd base b (bs ++ Lib.runeCells r) w' ∧ Below base w w' :=
  (writeRune_keep base b bs r w h hr0 hr1 hl hb).mono fun _ _ h => ⟨h.1, h.2.1, h.2.2.1⟩
end Go.Proofs.YtkknglmpdmhhjaaGreatDoor.Uni

/-
  units.paired, units.writePoint and understudyref1.put.
-/
namespace Go.Proofs.YtkknglmpdmhhjaaGreatDoor.Uni
open Go.RowKit
set_option linter.unusedVariables false

theorem paired_any (h l : Nat) (w : World) (hh : isHi h = true) (hl : isLo l = true) :
    Calls Tryz.prog 189 #[.int .i32 h, .int .i32 l] w fun e w' => e = .returned (.int .i32 ((65536 + (h - 55296) * 1024 + (l - 56320) : Nat) : Int)) ∧ w = w' := by
  have b1 := isHi_iff.1 hh
  have b2 := isLo_iff.1 hl
  have i1 : (55296 : Int) ≤ h := by omega
  have i2 : (h : Int) < 56320 := by omega
  have i3 : (56320 : Int) ≤ l := by omega
  have i4 : (l : Int) ≤ 57343 := by omega
  have e : ((65536 + (h - 55296) * 1024 + (l - 56320) : Nat) : Int) = 65536 + ((h : Int) - 55296) * 1024 + ((l : Int) - 56320) := by omega
  have E := Lib.hid e
  clear hh hl b1 b2 e
  go_enter Tryz.func189, Tryz.ntmps189
  go_wp2
  go_ret
  exact ⟨by rw [E.out]; rfl, rfl⟩

theorem enc_cells {c : Nat} (hc : c ≤ 1114111) : Lib.byteCells (enc c) = (encN c).map fun n : Nat => Value.int .u8 (n : Int) := by
  unfold enc Lib.byteCells
  rw [List.map_map]
  apply List.map_congr_left
  intro x hx
  have := encN_byte hc x hx
  simp
  omega

theorem enc_rune {c : Nat} (hc : c ≤ 1114111) (hs : ¬ (55296 ≤ c ∧ c ≤ 57343)) : Lib.runeCells (c : Int) = Lib.byteCells (enc c) := by
  rw [enc_cells hc]
  unfold Lib.runeCells
  by_cases h1 : c < 128
  · rw [Lib.encodeRuneZ_one (by omega) (by omega), encN_1 h1]; rfl
  · by_cases h2 : c < 2048
    · rw [Lib.encodeRuneZ_two (by omega) (by omega), encN_2 (by omega) h2]; simp
    · by_cases h3 : c < 65536
      · rw [Lib.encodeRuneZ_three (by omega), encN_3 (by omega) h3]; simp
      · rw [Lib.encodeRuneZ_four (by omega) (by omega), encN_4 (by omega)]; simp

def WrPost (base b : Nat) (l : List UInt8) (c : Nat) (w : World) (e : Ending) (w' : World) : Prop :=
  e = .returned (.tuple #[]) ∧ Bd base b (Lib.byteCells (l ++ enc c)) w' ∧ Below base w w'

theorem mask6i (x : Int) (h0 : 0 ≤ x) (h1 : x < 2147483648) : bits .and .i32 x 63 = x % 64 :=
  bits_mask .i32 31 (by decide) wraps_i32 6 (by decide) x h0 h1

theorem or128 (x : Int) (h0 : 0 ≤ x) (h1 : x ≤ 63) : bits .or .u8 128 x = 128 + x :=
  bits_join .u8 8 (by decide) wraps_u8 6 128 x (by omega) (by decide) (by decide) h0 (by omega) (by omega)

set_option maxRecDepth 100000 in
set_option maxHeartbeats 400000 in
theorem writePoint_sur (base b : Nat) (bs : List Value) (c : Nat) (w : World) (h1 : 55296 ≤ c) (h2 : c ≤ 57343) (hI : Bd base b bs w) (hl : bs.length ≤ 100000000) (hb : base ≤ w.heap.size) :
    Calls Tryz.prog 190 #[.pointer (some ⟨b, 0, none⟩), .int .i32 c] w fun e w' => e = .returned (.tuple #[]) ∧ Bd base b (bs ++ [.int .u8 237] ++ [.int .u8 (128 + (c : Int) / 64 % 64)] ++ [.int .u8 (128 + (c : Int) % 64)]) w' ∧ Below base w w' := by
  have i1 : (55296 : Int) ≤ c := by omega
  have i2 : (c : Int) ≤ 57343 := by omega
  have l1 : (bs ++ [Value.int .u8 237]).length ≤ 200000000 := by simp; omega
  have l2 : (bs ++ [Value.int .u8 237] ++ [Value.int .u8 (128 + (c : Int) / 64 % 64)]).length ≤ 300000000 := by simp; omega
  have L1 := Lib.hid l1
  have L2 := Lib.hid l2
  have hor : (isHi c = true ∧ isLo c = false) ∨ (isHi c = false ∧ isLo c = true) := by
    by_cases h : c < 56320
    · left
      refine ⟨isHi_iff.2 ⟨h1, h⟩, ?_⟩
      cases x : isLo c with
      | false => rfl
      | true => have := isLo_iff.1 x; omega
    · right
      refine ⟨?_, isLo_iff.2 ⟨by omega, h2⟩⟩
      cases x : isHi c with
      | false => rfl
      | true => have := isHi_iff.1 x; omega
  obtain ⟨x1, hx1⟩ : ∃ x1, x1 = (c : Int) / 64 % 64 := ⟨_, rfl⟩
  obtain ⟨x2, hx2⟩ : ∃ x2, x2 = (c : Int) % 64 := ⟨_, rfl⟩
  have q1 : bits .and .i32 ((c : Int) / 64) 63 = x1 := by rw [hx1]; exact mask6i _ (by omega) (by omega)
  have q2 : bits .and .i32 (c : Int) 63 = x2 := by rw [hx2]; exact mask6i _ (by omega) (by omega)
  have x1a : 0 ≤ x1 := by omega
  have x1b : x1 ≤ 63 := by omega
  have x2a : 0 ≤ x2 := by omega
  have x2b : x2 ≤ 63 := by omega
  have o1 := or128 x1 x1a x1b
  have o2 := or128 x2 x2a x2b
  rw [← hx1] at L2
  rw [← hx1, ← hx2]
  clear h1 h2 l1 l2 hx1 hx2
  rcases hor with ⟨hh, hlo⟩ | ⟨hh, hlo⟩
  all_goals
    go_enter Tryz.func190, Tryz.ntmps190
    go_wp2_with (first | (go_at_call 187; refine (isHigh_any _ _).mono ?_; rintro e w' ⟨rfl, rfl⟩) | (go_at_call 188; refine (isLow_any _ _).mono ?_; rintro e w' ⟨rfl, rfl⟩) | (go_at_call 160; refine (writeByte_any base b _ 237 w hI (by omega) hb).mono ?_))
    rintro e W1 ⟨rfl, hb1, bel1⟩
    have hs1 := Nat.le_trans hb bel1.size
    go_wp2_with (go_at_call 160; refine (writeByte_any base b _ (128 + x1) W1 hb1 (by have := L1.out; omega) hs1).mono ?_)
    rintro e W2 ⟨rfl, hb2, bel2⟩
    have hs2 := Nat.le_trans hs1 bel2.size
    go_wp2_with (go_at_call 160; refine (writeByte_any base b _ (128 + x2) W2 hb2 (by have := L2.out; omega) hs2).mono ?_)
    rintro e W3 ⟨rfl, hb3, bel3⟩
    go_wp2
    go_end0
    exact ⟨rfl, hb3, (bel1.trans bel2).trans bel3⟩

theorem writePoint_any (base b : Nat) (l : List UInt8) (c : Nat) (w : World) (hc : c ≤ 1114111) (hI : Bd base b (Lib.byteCells l) w) (hl : l.length ≤ 100000000) (hb : base ≤ w.heap.size) :
    Calls Tryz.prog 190 #[.pointer (some ⟨b, 0, none⟩), .int .i32 c] w (WrPost base b l c w) := by
  have hl4 : (Lib.byteCells l).length ≤ 100000000 := by rw [Lib.byteCells_length]; omega
  have hc0 : (0 : Int) ≤ c := by omega
  have hc1 : (c : Int) ≤ 1114111 := by omega
  by_cases hs : 55296 ≤ c ∧ c ≤ 57343
  · refine (writePoint_sur base b _ c w hs.1 hs.2 hI hl4 hb).mono ?_
    rintro e w' ⟨rfl, h, k⟩
    refine ⟨rfl, ?_, k⟩
    rw [Lib.byteCells_append, enc_cells hc, encN_3 (by omega) (by omega)]
    have e1 : 224 + c / 4096 = 237 := by omega
    rw [e1]
    simpa using h
  · have h1 : isHi c = false := by cases x : isHi c with
      | false => rfl
      | true => have := isHi_iff.1 x; omega
    have h2 : isLo c = false := by cases x : isLo c with
      | false => rfl
      | true => have := isLo_iff.1 x; omega
    have hr := enc_rune hc hs
    have HR := Lib.hid hr
    clear hr
    go_enter Tryz.func190, Tryz.ntmps190
    go_wp2_with (first | (go_at_call 187; refine (isHigh_any _ _).mono ?_; rintro e w' ⟨rfl, rfl⟩) | (go_at_call 188; refine (isLow_any _ _).mono ?_; rintro e w' ⟨rfl, rfl⟩) | (go_at_call 63; refine (writeRune_any base b _ c w hI hc0 hc1 (by omega) hb).mono ?_))
    rintro e W1 ⟨⟨v, rfl⟩, hb1, bel1⟩
    go_wp2
    go_end0
    refine ⟨rfl, ?_, bel1⟩
    rw [Lib.byteCells_append, ← HR.out]
    exact hb1
end Go.Proofs.YtkknglmpdmhhjaaGreatDoor.Uni
