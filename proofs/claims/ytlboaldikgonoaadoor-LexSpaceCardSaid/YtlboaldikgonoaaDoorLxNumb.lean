/-
  reader.number.
-/
import Derived.Test.YtlboaldikgonoaaDoorLxSgn
namespace Go.Proofs.YtlboaldikgonoaaDoor.Lx
open Go Go.RowKit Go.Proofs.YtlboaldikgonoaaDoor.Uni
set_option linter.unusedVariables false
set_option linter.unusedSimpArgs false
attribute [local go_sem ↓] ldK stK alK bdK
attribute [local irreducible] kcs
attribute [local go_sem] run_alK run_bdK0 run_bdKs run_bdKn run_bdKe

/-- What is known of the world behind some calls: the result's cell, the reader, the old blocks. -/
structure Mid (g : Nat) (t : ByteArray) (a : Nat) (w W : World) : Prop where
  bel : Below w.heap.size w W
  res : Blk W w.heap.size (kcs zeroK) 33
  rd : Rd W g t a
  ne : g ≠ w.heap.size
theorem mid_start {g : Nat} {t : ByteArray} {a : Nat} {w : World} (hr : Rd w g t a) : Mid g t a w (w.alloc (.cells (kcs zeroK) 33)) := ⟨bel1, Blk.new w _ _, hr.below bel1, by have := hr.lt; omega⟩
theorem Mid.call {g : Nat} {t : ByteArray} {a : Nat} {w W W2 : World} (h : Mid g t a w W) (hb : Below W.heap.size W W2) : Mid g t a w W2 := ⟨h.bel.trans (hb.mono h.bel.size), h.res.call hb, h.rd.below hb, h.ne⟩
theorem Mid.drewN {g : Nat} {t : ByteArray} {a : Nat} {w W : World} (h : Mid g t a w W) (n : Nat) : Mid g t a w (W.drewN n) := h.call (below_drewN (Below.refl _ _) n)
theorem Mid.drew {g : Nat} {t : ByteArray} {a : Nat} {w W : World} (h : Mid g t a w W) : Mid g t a w W.drew := h.call (Below.refl _ _).drew
/-- The token is none. -/
theorem Mid.bad {g : Nat} {t : ByteArray} {a : Nat} {w W : World} (h : Mid g t a w W) {l : By} (hl : t.data.toList.drop a = l) (ha : a ≤ t.size) {fn : Func} {p q : Tmp} (hf : fn.results = #[.cell p 33, .tmp q]) {tmps : Array Value} (hp : tmps.getD p undef = .pointer (some ⟨w.heap.size, 0, none⟩)) (hq : tmps.getD q undef = .bool false) : bodyPost Tryd.prog fn (GotP g t a w (.bad l)) .ret ⟨tmps, []⟩ (W.setRow w.heap.size (kcs zeroK)) :=
  bodyPost_ret (res_K hf _ _ w.heap.size zeroK _ hp hq (h.res.row _)) rfl ⟨rfl, a, hl.symm, ha, h.rd.row _ h.ne, (GB.of h.bel).row _ (Nat.le_refl _)⟩
/-- The token has been made and the reader has gone on. -/
theorem Mid.good {g : Nat} {t : ByteArray} {a b : Nat} {w W : World} (h : Mid g t a w W) {l : By} (tk : Tk) {v : Int} (hv : v = (b : Int)) (hl : l = t.data.toList.drop b) (hb : b ≤ t.size) {o : Obj} {fn : Func} {p q : Tmp} (hf : fn.results = #[.cell p 33, .tmp q]) {tmps : Array Value} (hp : tmps.getD p undef = .pointer (some ⟨w.heap.size, 0, none⟩)) (hq : tmps.getD q undef = .bool true) : bodyPost Tryd.prog fn (GotP g t a w (.ok tk l)) .ret ⟨tmps, []⟩ (((W.setCell ⟨g, 1, none⟩ (.int .i64 v)).alloc o).setRow w.heap.size (kcs ⟨tk.kind, a, tk.num, tk.text⟩)) :=
  bodyPost_ret (res_K hf _ _ w.heap.size ⟨tk.kind, a, tk.num, tk.text⟩ _ hp hq (((h.res.other _ _ (by simpa using h.ne.symm)).old _).row _)) rfl ⟨rfl, b, hl, hb, ((h.rd.set hv).below bel1).row _ h.ne, (((GB.of h.bel).trans (GB.set _ _ _)).trans (GB.of bel1)).row _ (Nat.le_refl _)⟩
theorem lw_mid {w W : World} (h : Nums.Lw w) (hb : Below w.heap.size w W) : Nums.Lw W := h.below hb

set_option maxRecDepth 100000 in
set_option maxHeartbeats 4000000 in
theorem numb_no (g : Nat) (t : ByteArray) (a : Nat) (w : World) (hr : Rd w g t a) (ha : a ≤ t.size) (ht : t.size ≤ 1000000) (hF : Nums.Lw w) (l : By) (hl : t.data.toList.drop a = l) (hrd : Nums.readF (lead digitN l) = none) :
    Calls Tryd.prog 31 #[.pointer (some ⟨g, 0, none⟩)] w (GotP g t a w (numbF l)) := by
  have hlen : a + l.length = t.size := by rw [← hl, List.length_drop, lsz]; omega
  have hrest := fun (w' : World) (hb : Below w.heap.size w w') => rest_any g t a w' (hr.below hb) ha ht
  have hlead := fun w => leading_digit (bs l) w (by rw [bs_size]; omega)
  rw [bs_list] at hlead
  rw [hl] at hrest
  obtain ⟨d, hd⟩ : ∃ d, bs (lead digitN l) = d := ⟨_, rfl⟩
  have hdl : d.data.toList = lead digitN l := by rw [← hd, bs_list]
  have hdz : d.size = (lead digitN l).length := by rw [← hd, bs_size]
  have hdb : a + d.size ≤ t.size := by have := lead_len digitN l; omega
  rw [hd] at hlead
  have hread := fun (w' : World) (hb : Below w.heap.size w w') => Nums.read_any d (by omega) w' (hF.below hb)
  rw [hdl] at hread
  have hM : Mid g t a w (w.alloc (.cells (kcs zeroK) 33)) := mid_start hr
  have hai : (a : Int) ≤ 1000000 := by omega
  have hsi : (d.size : Int) ≤ 1000000 := by omega
  have hsum : (a : Int) + d.size ≤ t.size := by omega
  have he : numbF l = .bad l := by unfold numbF; rw [hrd]
  have HE := Lib.hid he
  rw [hrd] at hread
  clear he hrd
  have HL := Lib.hid hl
  have HD := Lib.hid hdb
  have HZ := Lib.hid hdz
  have HM := Lib.hid hM
  clear hl hd hdl hdb hdz hF hM hr
  go_enter Tryd.func31, Tryd.ntmps31
  go_wp2_with (first | (go_at_call 27; refine (hrest _ (by repeat (first | (with_reducible exact Below.refl _ _) | (with_reducible assumption) | with_reducible apply bl_alloc | with_reducible apply bl_drew | with_reducible apply bl_drewN))).mono ?_; rintro e w1 ⟨rfl, n1, rfl⟩; have hm1 := HM.out.drewN n1) | (go_at_call 37; refine (hlead _).mono ?_; rintro e w2 ⟨rfl, hb2⟩; have hm2 := hm1.call hb2; have bel2 := hm2.bel) | (go_at_call 39; refine (hread _ bel2).mono ?_; rintro e w3 ⟨rfl, hb3⟩; unfold Nums.two; refine Hid.out ?_))
  refine Lib.hid ?_
  have hm3 := hm2.call hb3
  have c0 := hm3.rd.c0
  have c1 := hm3.rd.c1
  have HM3 := Lib.hid hm3
  clear hrest hlead hread hm1 hb2 hm2 bel2 hb3 HM hm3
  have sv := fun n => run_stK (t := zeroK) (HM3.out.res.drewN n)
  go_wp2
  go_quiet (fail)
  go_wp2
  rw [HE.out]
  exact (HM3.out.drewN _).bad HL.out ha rfl rfl rfl

set_option maxRecDepth 100000 in
set_option maxHeartbeats 4000000 in
theorem numb_yes (g : Nat) (t : ByteArray) (a : Nat) (w : World) (hr : Rd w g t a) (ha : a ≤ t.size) (ht : t.size ≤ 1000000) (hF : Nums.Lw w) (l : By) (hl : t.data.toList.drop a = l) (n : Int) (hrd : Nums.readF (lead digitN l) = some n) (hz : lead leadN (l.drop (lead digitN l).length) = []) :
    Calls Tryd.prog 31 #[.pointer (some ⟨g, 0, none⟩)] w (GotP g t a w (numbF l)) := by
  have hlen : a + l.length = t.size := by rw [← hl, List.length_drop, lsz]; omega
  have hrest := fun (w' : World) (hb : Below w.heap.size w w') => rest_any g t a w' (hr.below hb) ha ht
  have hlead := fun w => leading_digit (bs l) w (by rw [bs_size]; omega)
  rw [bs_list] at hlead
  rw [hl] at hrest
  obtain ⟨d, hd⟩ : ∃ d, bs (lead digitN l) = d := ⟨_, rfl⟩
  have hdl : d.data.toList = lead digitN l := by rw [← hd, bs_list]
  have hdz : d.size = (lead digitN l).length := by rw [← hd, bs_size]
  have hdb : a + d.size ≤ t.size := by have := lead_len digitN l; omega
  rw [hd] at hlead
  have hread := fun (w' : World) (hb : Below w.heap.size w w') => Nums.read_any d (by omega) w' (hF.below hb)
  rw [hdl] at hread
  have hM : Mid g t a w (w.alloc (.cells (kcs zeroK) 33)) := mid_start hr
  have hai : (a : Int) ≤ 1000000 := by omega
  have hsi : (d.size : Int) ≤ 1000000 := by omega
  have hsum : (a : Int) + d.size ≤ t.size := by omega
  have hst := fun w => leading_start (t.extract (a + d.size) t.size) w (by simp; omega)
  have hld : lead leadN (t.extract (a + d.size) t.size).data.toList = lead leadN (l.drop (lead digitN l).length) := by rw [ext_drop, ← hl, List.drop_drop, hl, hdz]
  rw [hld] at hst
  have he : numbF l = .ok ⟨3, n, ⟨#[]⟩⟩ (l.drop (lead digitN l).length) := by unfold numbF; rw [hrd]; exact if_pos hz
  have HE := Lib.hid he
  rw [hrd] at hread
  rw [hz] at hst
  clear he hrd hz hld
  have HL := Lib.hid hl
  have HD := Lib.hid hdb
  have HZ := Lib.hid hdz
  have HM := Lib.hid hM
  clear hl hd hdl hdb hdz hF hM hr
  go_enter Tryd.func31, Tryd.ntmps31
  go_wp2_with (first | (go_at_call 27; refine (hrest _ (by repeat (first | (with_reducible exact Below.refl _ _) | (with_reducible assumption) | with_reducible apply bl_alloc | with_reducible apply bl_drew | with_reducible apply bl_drewN))).mono ?_; rintro e w1 ⟨rfl, n1, rfl⟩; have hm1 := HM.out.drewN n1) | (go_at_call 37; refine (hlead _).mono ?_; rintro e w2 ⟨rfl, hb2⟩; have hm2 := hm1.call hb2; have bel2 := hm2.bel) | (go_at_call 39; refine (hread _ bel2).mono ?_; rintro e w3 ⟨rfl, hb3⟩; unfold Nums.two; refine Hid.out ?_))
  refine Lib.hid ?_
  have hm3 := hm2.call hb3
  have c0 := hm3.rd.c0
  have c1 := hm3.rd.c1
  have HM3 := Lib.hid hm3
  clear hrest hlead hread hm1 hb2 hm2 bel2 hb3 HM hm3
  go_wp2
  go_quiet (fail)
  have e0 : (bs ([] : By)).toList.isEmpty = true := by rw [ByteArray.toList_eq, bs_list]; rfl
  have e1 : (bs ([] : By)).toList = [] := by rw [ByteArray.toList_eq, bs_list]
  clear c0 c1
  go_wp2_with (go_at_call 37; refine (hst _).mono ?_; rintro e w4 ⟨rfl, hb4⟩; have hm4 := (HM3.out.drewN _).call hb4; have c1' := hm4.rd.c1; have c1a : ∀ o, (w4.alloc o).cell? ⟨g, 1, none⟩ = some (.int .i64 (a : Int)) := (fun o => (hm4.rd.below bel1).c1); have f1a : ∀ o, (w4.alloc o).frozen? ⟨g, 1, none⟩ = false := (fun o => (hm4.rd.below bel1).f1); have sn := run_stKg w4 w4.heap.size ⟨3, a, n, ⟨#[]⟩⟩ zeroK rfl; have lv := run_ldK (blk_newg (w := w4.setCell ⟨g, 1, none⟩ (.int .i64 ((a : Int) + d.size))) (g := w4.heap.size) (cs := kcs ⟨3, a, n, ⟨#[]⟩⟩) (t := 33) (by simp [World.setCell])); have sv := run_stK (t := ⟨3, a, n, ⟨#[]⟩⟩) (((hm4.res.other ⟨g, 1, none⟩ (.int .i64 ((a : Int) + d.size)) (by simpa using hm4.ne.symm)).old (.cells (kcs ⟨3, a, n, ⟨#[]⟩⟩) 33))); have HM4 := Lib.hid hm4; have hg4 := hm4.rd.lt; clear hb4 hm4)
  rw [HE.out]
  exact HM4.out.good ⟨3, n, ⟨#[]⟩⟩ (by omega) (by rw [← HL.out, List.drop_drop, HL.out, HZ.out]) HD.out rfl rfl rfl

set_option maxRecDepth 100000 in
set_option maxHeartbeats 4000000 in
theorem numb_bad (g : Nat) (t : ByteArray) (a : Nat) (w : World) (hr : Rd w g t a) (ha : a ≤ t.size) (ht : t.size ≤ 1000000) (hF : Nums.Lw w) (l : By) (hl : t.data.toList.drop a = l) (n : Int) (hrd : Nums.readF (lead digitN l) = some n) (hz : lead leadN (l.drop (lead digitN l).length) ≠ []) :
    Calls Tryd.prog 31 #[.pointer (some ⟨g, 0, none⟩)] w (GotP g t a w (numbF l)) := by
  have hlen : a + l.length = t.size := by rw [← hl, List.length_drop, lsz]; omega
  have hrest := fun (w' : World) (hb : Below w.heap.size w w') => rest_any g t a w' (hr.below hb) ha ht
  have hlead := fun w => leading_digit (bs l) w (by rw [bs_size]; omega)
  rw [bs_list] at hlead
  rw [hl] at hrest
  obtain ⟨d, hd⟩ : ∃ d, bs (lead digitN l) = d := ⟨_, rfl⟩
  have hdl : d.data.toList = lead digitN l := by rw [← hd, bs_list]
  have hdz : d.size = (lead digitN l).length := by rw [← hd, bs_size]
  have hdb : a + d.size ≤ t.size := by have := lead_len digitN l; omega
  rw [hd] at hlead
  have hread := fun (w' : World) (hb : Below w.heap.size w w') => Nums.read_any d (by omega) w' (hF.below hb)
  rw [hdl] at hread
  have hM : Mid g t a w (w.alloc (.cells (kcs zeroK) 33)) := mid_start hr
  have hai : (a : Int) ≤ 1000000 := by omega
  have hsi : (d.size : Int) ≤ 1000000 := by omega
  have hsum : (a : Int) + d.size ≤ t.size := by omega
  have hst := fun w => leading_start (t.extract (a + d.size) t.size) w (by simp; omega)
  have hld : lead leadN (t.extract (a + d.size) t.size).data.toList = lead leadN (l.drop (lead digitN l).length) := by rw [ext_drop, ← hl, List.drop_drop, hl, hdz]
  rw [hld] at hst
  have he : numbF l = .bad l := by unfold numbF; rw [hrd]; exact if_neg hz
  have HE := Lib.hid he
  rw [hrd] at hread
  obtain ⟨x, hx⟩ : ∃ x, bs (lead leadN (l.drop (lead digitN l).length)) = x := ⟨_, rfl⟩
  have hxe : x.toList.isEmpty = false := by
    rw [ByteArray.toList_eq, ← hx, bs_list]
    cases hq : lead leadN (l.drop (lead digitN l).length) with
    | nil => exact absurd hq hz
    | cons _ _ => rfl
  have hxn : x.toList ≠ [] := fun h => by rw [h] at hxe; cases hxe
  rw [hx] at hst
  clear he hrd hz hx hld
  have HL := Lib.hid hl
  have HD := Lib.hid hdb
  have HZ := Lib.hid hdz
  have HM := Lib.hid hM
  clear hl hd hdl hdb hdz hF hM hr
  go_enter Tryd.func31, Tryd.ntmps31
  go_wp2_with (first | (go_at_call 27; refine (hrest _ (by repeat (first | (with_reducible exact Below.refl _ _) | (with_reducible assumption) | with_reducible apply bl_alloc | with_reducible apply bl_drew | with_reducible apply bl_drewN))).mono ?_; rintro e w1 ⟨rfl, n1, rfl⟩; have hm1 := HM.out.drewN n1) | (go_at_call 37; refine (hlead _).mono ?_; rintro e w2 ⟨rfl, hb2⟩; have hm2 := hm1.call hb2; have bel2 := hm2.bel) | (go_at_call 39; refine (hread _ bel2).mono ?_; rintro e w3 ⟨rfl, hb3⟩; unfold Nums.two; refine Hid.out ?_))
  refine Lib.hid ?_
  have hm3 := hm2.call hb3
  have c0 := hm3.rd.c0
  have c1 := hm3.rd.c1
  have HM3 := Lib.hid hm3
  clear hrest hlead hread hm1 hb2 hm2 bel2 hb3 HM hm3
  go_wp2
  go_quiet (fail)
  go_wp2_with (go_at_call 37; refine (hst _).mono ?_; rintro e w4 ⟨rfl, hb4⟩; have hm4 := (HM3.out.drewN _).call hb4; have sv := run_stK (t := zeroK) hm4.res; have HM4 := Lib.hid hm4; clear hm4 hb4)
  rw [HE.out]
  exact HM4.out.bad HL.out ha rfl rfl rfl

theorem numb_any (g : Nat) (t : ByteArray) (a : Nat) (w : World) (hr : Rd w g t a) (ha : a ≤ t.size) (ht : t.size ≤ 1000000) (hF : Nums.Lw w) :
    Calls Tryd.prog 31 #[.pointer (some ⟨g, 0, none⟩)] w (GotP g t a w (numbF (t.data.toList.drop a))) := by
  cases hrd : Nums.readF (lead digitN (t.data.toList.drop a)) with
  | none => exact numb_no g t a w hr ha ht hF _ rfl hrd
  | some n =>
    by_cases hz : lead leadN ((t.data.toList.drop a).drop (lead digitN (t.data.toList.drop a)).length) = []
    · exact numb_yes g t a w hr ha ht hF _ rfl n hrd hz
    · exact numb_bad g t a w hr ha ht hF _ rfl n hrd hz
end Go.Proofs.YtlboaldikgonoaaDoor.Lx
