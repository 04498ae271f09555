/-
  Texts of this seat in build order: MwCreate, MwFail.
-/
import Derived.Test.YtphaefkaeinngaaGreatDoorMy14
import Derived.Test.YtphaefkaeinngaaGreatDoorMy09
/-
  create: a new object of a world.
-/
namespace Go.Proofs.YtphaefkaeinngaaGreatDoor.Mw
open Go Go.RowKit Go.Maps Go.Shelf Go.Proofs.YtphaefkaeinngaaGreatDoor.Keys Go.Proofs.YtphaefkaeinngaaGreatDoor.Hp Go.Proofs.YtphaefkaeinngaaGreatDoor.Mo
open Go.Proofs.YtphaefkaeinngaaGreatDoor.Des (Vl Ds zeroV zeroD dcs dcs_size dcs_one accF rigF appF eqV)
open Go.Proofs.YtphaefkaeinngaaGreatDoor.Arrs (En ecs)
set_option linter.unusedVariables false
set_option linter.unusedSimpArgs false
attribute [local go_sem ↓] ldR stR alR bxR bdR ldV stV alV bxV bdV bdT
attribute [local irreducible] rcs dcs ecs vcs tcs
attribute [local go_sem] run_bx run_alR run_alV run_bdR0 run_bdR1 run_bdV0 run_bdTn
section
variable {X : Cx} {c : Nat} {M : Wm} {w w' : World} {A : Aw}
def CreP (X : Cx) (c : Nat) (M : Wm) (w : World) (R : (Vl × Rr) × Aw) (e : Ending) (w' : World) : Prop :=
  ∃ M', e = .returned (.tuple #[.agg (vcs R.1.1), .agg (rcs (R.1.2.mem nilS))]) ∧ WIs X c M' w' R.2 ∧ Nx (M.bl X.wb) w (M'.bl X.wb) w'
theorem give_new {kd : Int} {pv : Vl} {pa : Option Addr} {pc : Nat} {es : List En} (hes : Hp.EsAt w.heap.size pa es w) (hf : ∀ e ∈ es, Fine (ekey e)) (hl : es.length ≤ 900000) : Give w (newT kd pv (.slice pa es.length pc)) es [] :=
  ⟨⟨pa, pc, rfl, hes⟩, ⟨none, 0, rfl, .inl rfl⟩, hf, hl, by simp⟩
set_option maxRecDepth 100000 in
set_option maxHeartbeats 2000000 in
theorem create_room (h : WIs X (c + 1) M w A) (kd : Int) (pv : Vl) (pa : Option Addr) (pc : Nat) (es : List En) (hes : Hp.EsAt w.heap.size pa es w) (hf : ∀ e ∈ es, Fine (ekey e)) (hn : (es.map ekey).Nodup) (hc : es.length + 8 * A.fuel.toNat + c ≤ 900000) (hk : X.px = false → kd ≠ 4) (hr : (A.objs.length : Int) < A.room) :
    Calls Tryz.prog 54 #[ptr X.wb, .int .i64 kd, .agg (vcs pv), .slice pa es.length pc] w (CreP X c M w ((objV A.objs.length, zeroRr), makeF (freshT kd pv) es [] A)) := by
  obtain ⟨w1, hw1⟩ : ∃ w1, ((w.alloc (.cells (vcs pv) 30)).alloc (.cells (vcs zeroV) 30)).alloc (.cells (rcs zeroR) 57) = w1 := ⟨_, rfl⟩
  have k1 : w1.heap.size = w.heap.size + 3 := by rw [← hw1]; simp
  have b1 : Below w.heap.size w w1 := by rw [← hw1]; exact (((Below.refl _ w).alloc (Nat.le_refl _) _).alloc (by simp) _).alloc (by simp; omega) _
  have x0 : Blk w1 w.heap.size (vcs pv) 30 := by rw [← hw1]; exact ((Blk.new w _ _).old _).old _
  have x1 : Lo (M.bl X.wb) w w1 (w.heap.size + 1) (vcs zeroV) 30 := by rw [← hw1]; exact ⟨(blk_newg (by simp)).old _, h.new (by omega), by omega⟩
  have x2 : Lo (M.bl X.wb) w w1 (w.heap.size + 2) (rcs zeroR) 57 := by rw [← hw1]; exact ⟨blk_newg (by simp), h.new (by omega), by omega⟩
  have lv := run_ldVp x0.drew
  have h1 := (h.call b1).drew
  have hst := store_world X.wb M.hb X.cl A.fuel A.deep A.depth A.deepest M.ls w1.drew h1.wblk
  have hg : Give w1.drew (newT kd pv (.slice pa es.length pc)) es [] := (give_new (kd := kd) (pv := pv) (pc := pc) hes hf (by omega)).call b1.drew
  have hmk := wMake h1 hg hn hc hk
  unfold MakeP at hmk
  simp only [if_pos hr] at hmk
  have hbd : ∀ w' : World, (Bd 39 #[(0, .int .i64 kd), (1, .agg (vcs pv)), (2, .bool true), (3, .slice pa es.length pc)]).run Tryz.prog w' = .ok (.agg (tcs (newT kd pv (.slice pa es.length pc)))) w' := fun w' => run_bdTn w' kd pv true pa es.length pc
  have X1 := Lib.hid x1.drew
  have X2 := Lib.hid x2.drew
  have B1 := Lib.hid (show Below w.heap.size w w1.drew from b1.drew)
  have H0 := Lib.hid (show X.W0.heap.size ≤ w.heap.size from h.bel.size)
  clear h hes hf hn hc hk hr x0 x1 x2 b1 h1 hg
  go_enter Tryz.func54, Tryz.ntmps54
  go_wp2
  go_region_with (first | (go_at_call 52; refine hst.mono ?_; rintro e w2 ⟨rfl, rfl⟩) | (go_at_call 14; refine hmk.mono ?_; rintro e w4 ⟨rfl, M', hM, h4, n4⟩))
  all_goals
    have y1 := X1.out.nx n4
    have y2 := X2.out.nx n4
    have N4 := Lib.hid (Nx.from B1.out n4)
    have H4 := Lib.hid h4
    clear h4 n4 hst hmk lv hbd hw1 hM
    go_wp2_with (go_at_call 69; refine (objv_any _ _).mono ?_; rintro e w5 ⟨rfl, hb5⟩; have z1 := y1.call hb5; have z2 := y2.call hb5; have s1 := run_stVp (v := ⟨6, A.objs.length, ⟨#[]⟩⟩) z1.blk; have z3 := z1.row (vcs ⟨6, A.objs.length, ⟨#[]⟩⟩); have z4 := z2.row_other (vcs ⟨6, A.objs.length, ⟨#[]⟩⟩) (by omega : w.heap.size + 2 ≠ w.heap.size + 1); have s2 := run_stRp z4.blk zeroR_good; have HB5 := Lib.hid hb5; have Z1 := Lib.hid z1; have Z4 := Lib.hid z4; clear hb5 z1 z2 y1 y2)
    have z5 := z3.row_other (rcs zeroR) (by omega : w.heap.size + 1 ≠ w.heap.size + 2)
    refine bodyPost_ret (res_VR rfl _ _ (w.heap.size + 1) (w.heap.size + 2) ⟨6, A.objs.length, ⟨#[]⟩⟩ zeroR rfl rfl z5.blk (Z4.out.blk.row (rcs zeroR))) rfl ⟨M', rfl, ?_, ?_⟩
    · exact ((H4.out.call HB5.out).rowL Z1.out _ H0.out).rowL Z4.out _ H0.out
    · exact ((N4.out.call HB5.out).row _ (by omega)).row _ (by omega)
end
end Go.Proofs.YtphaefkaeinngaaGreatDoor.Mw

/-
  Fail: a new error is thrown, or there is no room.
-/
namespace Go.Proofs.YtphaefkaeinngaaGreatDoor.Mw
open Go Go.RowKit Go.Maps Go.Shelf Go.Proofs.YtphaefkaeinngaaGreatDoor.Keys Go.Proofs.YtphaefkaeinngaaGreatDoor.Hp Go.Proofs.YtphaefkaeinngaaGreatDoor.Mo Go.Proofs.YtphaefkaeinngaaGreatDoor.Rg
open Go.Proofs.YtphaefkaeinngaaGreatDoor.Des (Vl Ds zeroV zeroD dcs dcs_size dcs_one accF rigF appF eqV)
open Go.Proofs.YtphaefkaeinngaaGreatDoor.Arrs (En ecs)
set_option linter.unusedVariables false
set_option linter.unusedSimpArgs false
attribute [local go_sem ↓] ldR stR alR bxR bdR ldV stV alV bxV bdV bdT bdE bdD Mo.bsE
attribute [local irreducible] rcs dcs ecs vcs tcs
attribute [local go_sem] run_bx run_alR run_alV run_bdR0 run_bdR1 run_bdV0 run_bdV3 run_bdTn run_bdRt' run_stVg run_stRg
def FailP (X : Cx) (c : Nat) (M : Wm) (w : World) (r : Rr) (A' : Aw) (e : Ending) (w' : World) : Prop := ∃ M', e = .returned (.agg (rcs (r.mem nilS))) ∧ WIs X c M' w' A' ∧ Nx (M.bl X.wb) w (M'.bl X.wb) w'
theorem ptr_inj {a b : Nat} (h : ptr a = ptr b) : a = b := by
  injection h with h
  injection h with h
  injection h
theorem data_anyv (v : Vl) (a b c : Bool) (w : World) : Calls Tryz.prog 56 #[.agg (vcs v), .bool a, .bool b, .bool c] w fun e w' => e = .returned (.agg (dcs (dataD v a b c))) ∧ Below w.heap.size w w' := by
  have h := data_any v a b c w
  unfold vcs
  exact h
theorem Kp.trans {B : List Nat} {w w' w'' : World} (h : Kp B w w') (k : Kp B w' w'') : Kp B w w'' := ⟨h.fr.trans k.fr, fun b hb hn => (k.same b (Nat.lt_of_lt_of_le hb h.fr.size) hn).trans (h.same b hb hn)⟩
theorem Kp.row {B : List Nat} {w w' : World} (h : Kp B w w') {b : Nat} (cs : Array Value) (hb : w.heap.size ≤ b) : Kp B w (w'.setRow b cs) := ⟨h.fr.trans ⟨rfl, rfl, rfl, by rw [size_setRow]; exact Nat.le_refl _⟩, fun k hk hn => (setRow_other w' b k cs (by omega)).trans (h.same k hk hn)⟩
structure FailI (X : Cx) (c : Nat) (M : Wm) (A' : Aw) (N : Nat) (w1 : World) (tv ov : Vl) (rr : Rp) (dd : Ds) (ee : En) (L : Array Bool) (x0 x1 x2 x3 x4 x5 x6 x7 x8 x9 x10 x11 x12 x13 x14 x15 x16 x17 x18 x19 x20 x21 x22 x23 x24 x25 : Value) (W : World) : Prop where
  k0 : x0 = ptr X.wb
  k4 : x4 = ptr N
  k5 : x5 = ptr (N + 1)
  m1 : Kp (M.bl X.wb) w1 W
  m3 : L.getD 7 false = false → Below w1.heap.size w1 W
  m4 : L.getD 7 false = true → ∃ M', WIs X c M' W A' ∧ Nx (M.bl X.wb) w1 (M'.bl X.wb) W ∧ ∀ b, x6 = ptr b ∨ x7 = ptr b → b ∉ M'.bl X.wb
  m6 : ∀ b, x6 = ptr b ∨ x7 = ptr b → w1.heap.size ≤ b ∧ b < W.heap.size
  h0 : L.getD 0 false = true → x11 = ptr X.wb
  h1 : L.getD 1 false = true → x12 = .agg (vcs ⟨1, 0, ⟨#[]⟩⟩)
  h2 : L.getD 2 false = true → x13 = .agg #[.string ⟨#[110, 97, 109, 101]⟩, .int .i64 0]
  h3 : L.getD 3 false = true → x14 = .agg (vcs tv)
  h4 : L.getD 4 false = true → x15 = .agg (dcs dd)
  h5 : L.getD 5 false = true → x16 = .agg (ecs ee)
  h6 : L.getD 6 false = true → ∃ g, x17 = .slice (some ⟨g, 0, none⟩) 1 1 ∧ w1.heap.size ≤ g ∧ Blk W g (ecs ee) 36
  h7 : L.getD 7 false = true → x18 = .tuple #[.agg (vcs ov), .agg (rcs rr)]
  h8 : L.getD 8 false = true → x10 = .tuple #[.agg (vcs ov), .agg (rcs rr)]
  h9 : L.getD 9 false = true → x19 = .agg (vcs ov)
  h10 : L.getD 10 false = true → x20 = .agg (rcs rr)
  h11 : L.getD 11 false = true → ∃ b, x6 = ptr b ∧ w1.heap.size ≤ b ∧ ∃ o, Blk W b (vcs o) 30
  h12 : L.getD 12 false = true → ∃ b, x7 = ptr b ∧ w1.heap.size ≤ b ∧ ∃ o, Blk W b (rcs o) 57
  h13 : L.getD 13 false = true → ∃ b, x6 = ptr b ∧ w1.heap.size ≤ b ∧ Blk W b (vcs ov) 30
  h14 : L.getD 14 false = true → ∃ b, x7 = ptr b ∧ w1.heap.size ≤ b ∧ Blk W b (rcs rr) 57
set_option maxRecDepth 100000 in
set_option maxHeartbeats 4000000 in
theorem fail_run {X : Cx} {c c0 : Nat} {M : Wm} {w : World} {A A' : Aw} (h : WIs X c0 M w A) (nm : ByteArray) (ov : Vl) (rr : Rr)
    (hcr : ∀ W g, Below (w.heap.size + 2) (((w.alloc (.cells (rcs zeroR) 57)).alloc (.cells (vcs ⟨4, 0, nm⟩) 30)).drew) W → Blk W g (ecs ⟨⟨#[110, 97, 109, 101]⟩, 0, dataD ⟨4, 0, nm⟩ true false true⟩) 36 → w.heap.size + 2 ≤ g →
      Calls Tryz.prog 54 #[ptr X.wb, .int .i64 5, .agg (vcs ⟨1, 0, ⟨#[]⟩⟩), .slice (some ⟨g, 0, none⟩) 1 1] W (CreP X c M W ((ov, rr), A'))) :
    Calls Tryz.prog 34 #[ptr X.wb, .string nm] w (FailP X c M w (if abr rr then rr else thrown ov) A') := by
  obtain ⟨w1, hw1⟩ : ∃ w1, ((w.alloc (.cells (rcs zeroR) 57)).alloc (.cells (vcs ⟨4, 0, nm⟩) 30)) = w1 := ⟨_, rfl⟩
  have k1 : w1.heap.size = w.heap.size + 2 := by rw [← hw1]; simp
  have b1 : Below w.heap.size w w1 := by rw [← hw1]; exact ((Below.refl _ w).alloc (Nat.le_refl _) _).alloc (by simp) _
  have htN : Blk w1.drew w.heap.size (rcs zeroR) 57 := by rw [← hw1]; exact (Blk.new w _ _).old _
  have htv : Blk w1.drew (w.heap.size + 1) (vcs ⟨4, 0, nm⟩) 30 := by rw [← hw1]; exact blk_newg (by simp)
  rw [hw1] at hcr
  obtain ⟨tv, htve⟩ : ∃ tv : Vl, tv = ⟨4, 0, nm⟩ := ⟨_, rfl⟩
  obtain ⟨dd, hdd⟩ : ∃ dd, dd = dataD tv true false true := ⟨_, rfl⟩
  obtain ⟨ee, hee⟩ : ∃ ee : En, ee = ⟨⟨#[110, 97, 109, 101]⟩, 0, dd⟩ := ⟨_, rfl⟩
  rw [← htve, ← hdd, ← hee, ← k1] at hcr
  rw [← htve] at htv
  have hrr : (rr.mem nilS).good := ⟨_, _, _, rfl⟩
  have hX1 : ∀ b, w1.drew.heap.size ≤ b → b ∉ M.bl X.wb := fun b hb => h.new (by have : w1.heap.size ≤ b := hb; omega)
  have hN : w.heap.size ∉ M.bl X.wb := h.new (Nat.le_refl _)
  have hNv : w.heap.size + 1 ∉ M.bl X.wb := h.new (by omega)
  have hW0 : X.W0.heap.size ≤ w1.drew.heap.size := Nat.le_trans h.bel.size b1.size
  have hW1 := h.bel.size
  have hd1 : Below w.heap.size w w1.drew := b1.drew
  clear h
  obtain ⟨fr, hfr⟩ : ∃ fr, fr = (if abr rr then rr else thrown ov) := ⟨_, rfl⟩
  rw [← hfr]
  have HFR := Lib.hid hfr
  clear hfr
  obtain ⟨rq, hrq⟩ : ∃ rq, rq = rr.mem nilS := ⟨_, rfl⟩
  rw [← hrq] at hrr
  replace hcr : ∀ W g, Below w1.drew.heap.size w1.drew W → Blk W g (ecs ee) 36 → w1.drew.heap.size ≤ g → Calls Tryz.prog 54 #[ptr X.wb, .int .i64 5, .agg (vcs ⟨1, 0, ⟨#[]⟩⟩), .slice (some ⟨g, 0, none⟩) 1 1] W fun e w' => ∃ M', e = .returned (.tuple #[.agg (vcs ov), .agg (rcs rq)]) ∧ WIs X c M' w' A' ∧ Nx (M.bl X.wb) W (M'.bl X.wb) w' := by
    rw [hrq]
    exact hcr
  go_enter Tryz.func34, Tryz.ntmps34
  go_wp2
  refine region_inv (by kernel_rfl) (fun L a W => ∃ x0 x1 x2 x3 x4 x5 x6 x7 x8 x9 x10 x11 x12 x13 x14 x15 x16 x17 x18 x19 x20 x21 x22 x23 x24 x25 : Value, a = { tmps := #[x0, x1, x2, x3, x4, x5, x6, x7, x8, x9, x10, x11, x12, x13, x14, x15, x16, x17, x18, x19, x20, x21, x22, x23, x24, x25], defers := [] } ∧ FailI X c M A' w.heap.size w1.drew tv ov rq dd ee L x0 x1 x2 x3 x4 x5 x6 x7 x8 x9 x10 x11 x12 x13 x14 x15 x16 x17 x18 x19 x20 x21 x22 x23 x24 x25 W) (by kernel_rfl) ?start ?step ?done
  case start => exact ⟨_, _, _, _, _, _, _, _, _, _, _, _, _, _, _, _, _, _, _, _, _, _, _, _, _, _, rfl, ⟨rfl, rfl, rfl, Kp.refl _ _, fun _ => Below.refl _ _, fun h => by simp [Array.getD_eq_getD_getElem?] at h, (fun b h => by rcases h with h | h <;> cases h), fun h => by simp [Array.getD_eq_getD_getElem?] at h, fun h => by simp [Array.getD_eq_getD_getElem?] at h, fun h => by simp [Array.getD_eq_getD_getElem?] at h, fun h => by simp [Array.getD_eq_getD_getElem?] at h, fun h => by simp [Array.getD_eq_getD_getElem?] at h, fun h => by simp [Array.getD_eq_getD_getElem?] at h, fun h => by simp [Array.getD_eq_getD_getElem?] at h, fun h => by simp [Array.getD_eq_getD_getElem?] at h, fun h => by simp [Array.getD_eq_getD_getElem?] at h, fun h => by simp [Array.getD_eq_getD_getElem?] at h, fun h => by simp [Array.getD_eq_getD_getElem?] at h, fun h => by simp [Array.getD_eq_getD_getElem?] at h, fun h => by simp [Array.getD_eq_getD_getElem?] at h, fun h => by simp [Array.getD_eq_getD_getElem?] at h, fun h => by simp [Array.getD_eq_getD_getElem?] at h⟩⟩
  case step =>
    intro i L a W hi hdep hL hs hcl hI
    have hi2 : i < 15 := by simpa using hi
    obtain ⟨x0, x1, x2, x3, x4, x5, x6, x7, x8, x9, x10, x11, x12, x13, x14, x15, x16, x17, x18, x19, x20, x21, x22, x23, x24, x25, rfl, H⟩ := hI
    have ol : ∀ j, i ≠ j → (L.setIfInBounds i true).getD j false = true → L.getD j false = true := fun j hj h => by rwa [getD_set hj] at h
    rcases (by omega : i = 0 ∨ i = 1 ∨ i = 2 ∨ i = 3 ∨ i = 4 ∨ i = 5 ∨ i = 6 ∨ i = 7 ∨ i = 8 ∨ i = 9 ∨ i = 10 ∨ i = 11 ∨ i = 12 ∨ i = 13 ∨ i = 14) with rfl | rfl | rfl | rfl | rfl | rfl | rfl | rfl | rfl | rfl | rfl | rfl | rfl | rfl | rfl
    · clear hi hi2
      have e := H.k0
      subst e
      have ol7 : (L.setIfInBounds 0 true).getD 7 false = false → L.getD 7 false = false := fun h => by rwa [getD_set (by decide)] at h
      have on7 : (L.setIfInBounds 0 true).getD 7 false = true → L.getD 7 false = true := fun h => by rwa [getD_set (by decide)] at h
      exact step_run (i := 0) (w' := W) (v := ptr X.wb) rfl rfl (by simp [execOp, Act.eval, go_sem]) ⟨_, _, _, _, _, _, _, _, _, _, _, _, _, _, _, _, _, _, _, _, _, _, _, _, _, _, rfl, ⟨(H.k0), (H.k4), (H.k5), (H.m1), (fun h => H.m3 (ol7 h)), (fun h => H.m4 (on7 h)), (H.m6), (fun _ => rfl), (fun h => H.h1 (ol 1 (by decide) h)), (fun h => H.h2 (ol 2 (by decide) h)), (fun h => H.h3 (ol 3 (by decide) h)), (fun h => H.h4 (ol 4 (by decide) h)), (fun h => H.h5 (ol 5 (by decide) h)), (fun h => H.h6 (ol 6 (by decide) h)), (fun h => H.h7 (ol 7 (by decide) h)), (fun h => H.h8 (ol 8 (by decide) h)), (fun h => H.h9 (ol 9 (by decide) h)), (fun h => H.h10 (ol 10 (by decide) h)), (fun h => H.h11 (ol 11 (by decide) h)), (fun h => H.h12 (ol 12 (by decide) h)), (fun h => H.h13 (ol 13 (by decide) h)), (fun h => H.h14 (ol 14 (by decide) h))⟩⟩
    · clear hi hi2
      have ol7 : (L.setIfInBounds 1 true).getD 7 false = false → L.getD 7 false = false := fun h => by rwa [getD_set (by decide)] at h
      have on7 : (L.setIfInBounds 1 true).getD 7 false = true → L.getD 7 false = true := fun h => by rwa [getD_set (by decide)] at h
      refine step_call (i := 1) (f := 55) (args := #[]) rfl rfl (by simp [execOp, Act.eval, go_sem]) (null_any W) ?_
      rintro e W2 ⟨rfl, hb⟩
      exact ⟨_, rfl, ⟨_, _, _, _, _, _, _, _, _, _, _, _, _, _, _, _, _, _, _, _, _, _, _, _, _, _, rfl, ⟨(H.k0), (H.k4), (H.k5), (H.m1.trans (Kp.of_below hb)), (fun h => (H.m3 (ol7 h)).trans (hb.mono H.m1.fr.size)), (fun h => let ⟨M', q1, q2, q3⟩ := H.m4 (on7 h); ⟨M', q1.call hb, q2.call hb, q3⟩), (fun b h => let ⟨q1, q2⟩ := H.m6 b h; ⟨q1, Nat.lt_of_lt_of_le q2 hb.size⟩), (fun h => H.h0 (ol 0 (by decide) h)), (fun _ => rfl), (fun h => H.h2 (ol 2 (by decide) h)), (fun h => H.h3 (ol 3 (by decide) h)), (fun h => H.h4 (ol 4 (by decide) h)), (fun h => H.h5 (ol 5 (by decide) h)), (fun h => let ⟨g, q1, q2, q3⟩ := H.h6 (ol 6 (by decide) h); ⟨g, q1, q2, q3.call hb⟩), (fun h => H.h7 (ol 7 (by decide) h)), (fun h => H.h8 (ol 8 (by decide) h)), (fun h => H.h9 (ol 9 (by decide) h)), (fun h => H.h10 (ol 10 (by decide) h)), (fun h => let ⟨g, q1, q2, o, q3⟩ := H.h11 (ol 11 (by decide) h); ⟨g, q1, q2, o, q3.call hb⟩), (fun h => let ⟨g, q1, q2, o, q3⟩ := H.h12 (ol 12 (by decide) h); ⟨g, q1, q2, o, q3.call hb⟩), (fun h => let ⟨g, q1, q2, q3⟩ := H.h13 (ol 13 (by decide) h); ⟨g, q1, q2, q3.call hb⟩), (fun h => let ⟨g, q1, q2, q3⟩ := H.h14 (ol 14 (by decide) h); ⟨g, q1, q2, q3.call hb⟩)⟩⟩⟩
    · clear hi hi2
      have ol7 : (L.setIfInBounds 2 true).getD 7 false = false → L.getD 7 false = false := fun h => by rwa [getD_set (by decide)] at h
      have on7 : (L.setIfInBounds 2 true).getD 7 false = true → L.getD 7 false = true := fun h => by rwa [getD_set (by decide)] at h
      exact step_run (i := 2) (w' := W) (v := .agg #[.string ⟨#[110, 97, 109, 101]⟩, .int .i64 0]) rfl rfl (by simp [execOp, Act.eval, go_sem]) ⟨_, _, _, _, _, _, _, _, _, _, _, _, _, _, _, _, _, _, _, _, _, _, _, _, _, _, rfl, ⟨(H.k0), (H.k4), (H.k5), (H.m1), (fun h => H.m3 (ol7 h)), (fun h => H.m4 (on7 h)), (H.m6), (fun h => H.h0 (ol 0 (by decide) h)), (fun h => H.h1 (ol 1 (by decide) h)), (fun _ => rfl), (fun h => H.h3 (ol 3 (by decide) h)), (fun h => H.h4 (ol 4 (by decide) h)), (fun h => H.h5 (ol 5 (by decide) h)), (fun h => H.h6 (ol 6 (by decide) h)), (fun h => H.h7 (ol 7 (by decide) h)), (fun h => H.h8 (ol 8 (by decide) h)), (fun h => H.h9 (ol 9 (by decide) h)), (fun h => H.h10 (ol 10 (by decide) h)), (fun h => H.h11 (ol 11 (by decide) h)), (fun h => H.h12 (ol 12 (by decide) h)), (fun h => H.h13 (ol 13 (by decide) h)), (fun h => H.h14 (ol 14 (by decide) h))⟩⟩
    · clear hi hi2
      have e := H.k5
      subst e
      have ol7 : (L.setIfInBounds 3 true).getD 7 false = false → L.getD 7 false = false := fun h => by rwa [getD_set (by decide)] at h
      have on7 : (L.setIfInBounds 3 true).getD 7 false = true → L.getD 7 false = true := fun h => by rwa [getD_set (by decide)] at h
      have lv := run_ldVp (H.m1.blk htv hNv)
      exact step_run (i := 3) (w' := W) (v := .agg (vcs tv)) rfl rfl (by simp [execOp, Act.eval, go_sem, lv]) ⟨_, _, _, _, _, _, _, _, _, _, _, _, _, _, _, _, _, _, _, _, _, _, _, _, _, _, rfl, ⟨(H.k0), (H.k4), (H.k5), (H.m1), (fun h => H.m3 (ol7 h)), (fun h => H.m4 (on7 h)), (H.m6), (fun h => H.h0 (ol 0 (by decide) h)), (fun h => H.h1 (ol 1 (by decide) h)), (fun h => H.h2 (ol 2 (by decide) h)), (fun _ => rfl), (fun h => H.h4 (ol 4 (by decide) h)), (fun h => H.h5 (ol 5 (by decide) h)), (fun h => H.h6 (ol 6 (by decide) h)), (fun h => H.h7 (ol 7 (by decide) h)), (fun h => H.h8 (ol 8 (by decide) h)), (fun h => H.h9 (ol 9 (by decide) h)), (fun h => H.h10 (ol 10 (by decide) h)), (fun h => H.h11 (ol 11 (by decide) h)), (fun h => H.h12 (ol 12 (by decide) h)), (fun h => H.h13 (ol 13 (by decide) h)), (fun h => H.h14 (ol 14 (by decide) h))⟩⟩
    · clear hi hi2
      have e14 := H.h3 (hdep 3 (memOf (by kernel_rfl)))
      subst e14
      have ol7 : (L.setIfInBounds 4 true).getD 7 false = false → L.getD 7 false = false := fun h => by rwa [getD_set (by decide)] at h
      have on7 : (L.setIfInBounds 4 true).getD 7 false = true → L.getD 7 false = true := fun h => by rwa [getD_set (by decide)] at h
      refine step_call (i := 4) (f := 56) (args := #[.agg (vcs tv), .bool true, .bool false, .bool true]) rfl rfl (by simp [execOp, Act.eval, go_sem]) (data_anyv tv true false true W) ?_
      rintro e W2 ⟨rfl, hb⟩
      exact ⟨_, rfl, ⟨_, _, _, _, _, _, _, _, _, _, _, _, _, _, _, _, _, _, _, _, _, _, _, _, _, _, rfl, ⟨(H.k0), (H.k4), (H.k5), (H.m1.trans (Kp.of_below hb)), (fun h => (H.m3 (ol7 h)).trans (hb.mono H.m1.fr.size)), (fun h => let ⟨M', q1, q2, q3⟩ := H.m4 (on7 h); ⟨M', q1.call hb, q2.call hb, q3⟩), (fun b h => let ⟨q1, q2⟩ := H.m6 b h; ⟨q1, Nat.lt_of_lt_of_le q2 hb.size⟩), (fun h => H.h0 (ol 0 (by decide) h)), (fun h => H.h1 (ol 1 (by decide) h)), (fun h => H.h2 (ol 2 (by decide) h)), (fun h => H.h3 (ol 3 (by decide) h)), (fun _ => by rw [hdd]), (fun h => H.h5 (ol 5 (by decide) h)), (fun h => let ⟨g, q1, q2, q3⟩ := H.h6 (ol 6 (by decide) h); ⟨g, q1, q2, q3.call hb⟩), (fun h => H.h7 (ol 7 (by decide) h)), (fun h => H.h8 (ol 8 (by decide) h)), (fun h => H.h9 (ol 9 (by decide) h)), (fun h => H.h10 (ol 10 (by decide) h)), (fun h => let ⟨g, q1, q2, o, q3⟩ := H.h11 (ol 11 (by decide) h); ⟨g, q1, q2, o, q3.call hb⟩), (fun h => let ⟨g, q1, q2, o, q3⟩ := H.h12 (ol 12 (by decide) h); ⟨g, q1, q2, o, q3.call hb⟩), (fun h => let ⟨g, q1, q2, q3⟩ := H.h13 (ol 13 (by decide) h); ⟨g, q1, q2, q3.call hb⟩), (fun h => let ⟨g, q1, q2, q3⟩ := H.h14 (ol 14 (by decide) h); ⟨g, q1, q2, q3.call hb⟩)⟩⟩⟩
    · clear hi hi2
      have e13 := H.h2 (hdep 2 (memOf (by kernel_rfl)))
      have e15 := H.h4 (hdep 4 (memOf (by kernel_rfl)))
      subst e13
      subst e15
      have ol7 : (L.setIfInBounds 5 true).getD 7 false = false → L.getD 7 false = false := fun h => by rwa [getD_set (by decide)] at h
      have on7 : (L.setIfInBounds 5 true).getD 7 false = true → L.getD 7 false = true := fun h => by rwa [getD_set (by decide)] at h
      have hbd := run_bdEn W ⟨#[110, 97, 109, 101]⟩ 0 dd
      rw [← hee] at hbd
      exact step_run (i := 5) (w' := W) (v := .agg (ecs ee)) rfl rfl (by simp [execOp, Act.eval, go_sem, hbd]) ⟨_, _, _, _, _, _, _, _, _, _, _, _, _, _, _, _, _, _, _, _, _, _, _, _, _, _, rfl, ⟨(H.k0), (H.k4), (H.k5), (H.m1), (fun h => H.m3 (ol7 h)), (fun h => H.m4 (on7 h)), (H.m6), (fun h => H.h0 (ol 0 (by decide) h)), (fun h => H.h1 (ol 1 (by decide) h)), (fun h => H.h2 (ol 2 (by decide) h)), (fun h => H.h3 (ol 3 (by decide) h)), (fun h => H.h4 (ol 4 (by decide) h)), (fun _ => rfl), (fun h => H.h6 (ol 6 (by decide) h)), (fun h => H.h7 (ol 7 (by decide) h)), (fun h => H.h8 (ol 8 (by decide) h)), (fun h => H.h9 (ol 9 (by decide) h)), (fun h => H.h10 (ol 10 (by decide) h)), (fun h => H.h11 (ol 11 (by decide) h)), (fun h => H.h12 (ol 12 (by decide) h)), (fun h => H.h13 (ol 13 (by decide) h)), (fun h => H.h14 (ol 14 (by decide) h))⟩⟩
    · clear hi hi2
      have e16 := H.h5 (hdep 5 (memOf (by kernel_rfl)))
      subst e16
      have ol7 : (L.setIfInBounds 6 true).getD 7 false = false → L.getD 7 false = false := fun h => by rwa [getD_set (by decide)] at h
      have on7 : (L.setIfInBounds 6 true).getD 7 false = true → L.getD 7 false = true := fun h => by rwa [getD_set (by decide)] at h
      have hb : Below W.heap.size W (W.alloc (.cells (ecs ee) 36)) := (Below.refl _ W).alloc (Nat.le_refl _) _
      have hbs := Mo.run_bsE W ee
      exact step_run (i := 6) (w' := (W.alloc (.cells (ecs ee) 36))) (v := .slice (some ⟨W.heap.size, 0, none⟩) 1 1) rfl rfl (by simp [execOp, Act.eval, go_sem, hbs]) ⟨_, _, _, _, _, _, _, _, _, _, _, _, _, _, _, _, _, _, _, _, _, _, _, _, _, _, rfl, ⟨(H.k0), (H.k4), (H.k5), (H.m1.trans (Kp.of_below hb)), (fun h => (H.m3 (ol7 h)).trans (hb.mono H.m1.fr.size)), (fun h => let ⟨M', q1, q2, q3⟩ := H.m4 (on7 h); ⟨M', q1.call hb, q2.call hb, q3⟩), (fun b h => let ⟨q1, q2⟩ := H.m6 b h; ⟨q1, Nat.lt_of_lt_of_le q2 hb.size⟩), (fun h => H.h0 (ol 0 (by decide) h)), (fun h => H.h1 (ol 1 (by decide) h)), (fun h => H.h2 (ol 2 (by decide) h)), (fun h => H.h3 (ol 3 (by decide) h)), (fun h => H.h4 (ol 4 (by decide) h)), (fun h => H.h5 (ol 5 (by decide) h)), (fun _ => ⟨_, rfl, H.m1.fr.size, Blk.new W _ _⟩), (fun h => H.h7 (ol 7 (by decide) h)), (fun h => H.h8 (ol 8 (by decide) h)), (fun h => H.h9 (ol 9 (by decide) h)), (fun h => H.h10 (ol 10 (by decide) h)), (fun h => let ⟨g, q1, q2, o, q3⟩ := H.h11 (ol 11 (by decide) h); ⟨g, q1, q2, o, q3.call hb⟩), (fun h => let ⟨g, q1, q2, o, q3⟩ := H.h12 (ol 12 (by decide) h); ⟨g, q1, q2, o, q3.call hb⟩), (fun h => let ⟨g, q1, q2, q3⟩ := H.h13 (ol 13 (by decide) h); ⟨g, q1, q2, q3.call hb⟩), (fun h => let ⟨g, q1, q2, q3⟩ := H.h14 (ol 14 (by decide) h); ⟨g, q1, q2, q3.call hb⟩)⟩⟩
    · clear hi hi2
      have e11 := H.h0 (hdep 0 (memOf (by kernel_rfl)))
      have e12 := H.h1 (hdep 1 (memOf (by kernel_rfl)))
      have e17 := H.h6 (hdep 6 (memOf (by kernel_rfl)))
      subst e11
      subst e12
      obtain ⟨g, rfl, hg1, hg2⟩ := e17
      have h7 := getD_no hL
      refine step_call (i := 7) (f := 54) (args := #[ptr X.wb, .int .i64 5, .agg (vcs ⟨1, 0, ⟨#[]⟩⟩), .slice (some ⟨g, 0, none⟩) 1 1]) rfl rfl (by simp [execOp, Act.eval, go_sem]) (hcr W g (H.m3 h7) hg2 hg1) ?_
      rintro e W2 ⟨M', rfl, h4, n⟩
      exact ⟨_, rfl, ⟨_, _, _, _, _, _, _, _, _, _, _, _, _, _, _, _, _, _, _, _, _, _, _, _, _, _, rfl, ⟨(H.k0), (H.k4), (H.k5), (H.m1.trans n.kp), (fun h => by rw [getD_same (by rw [hs]; simp)] at h; cases h), (fun _ => ⟨M', h4, Nx.from (H.m3 h7) n, fun b hb => let ⟨q1, q2⟩ := H.m6 b hb; n.out q2 (hX1 _ q1)⟩), (fun b h => let ⟨q1, q2⟩ := H.m6 b h; ⟨q1, Nat.lt_of_lt_of_le q2 n.size⟩), (fun h => H.h0 (ol 0 (by decide) h)), (fun h => H.h1 (ol 1 (by decide) h)), (fun h => H.h2 (ol 2 (by decide) h)), (fun h => H.h3 (ol 3 (by decide) h)), (fun h => H.h4 (ol 4 (by decide) h)), (fun h => H.h5 (ol 5 (by decide) h)), (fun h => let ⟨g, q1, q2, q3⟩ := H.h6 (ol 6 (by decide) h); ⟨g, q1, q2, n.blk q3 (hX1 _ q2)⟩), (fun _ => rfl), (fun h => H.h8 (ol 8 (by decide) h)), (fun h => H.h9 (ol 9 (by decide) h)), (fun h => H.h10 (ol 10 (by decide) h)), (fun h => let ⟨g, q1, q2, o, q3⟩ := H.h11 (ol 11 (by decide) h); ⟨g, q1, q2, o, n.blk q3 (hX1 _ q2)⟩), (fun h => let ⟨g, q1, q2, o, q3⟩ := H.h12 (ol 12 (by decide) h); ⟨g, q1, q2, o, n.blk q3 (hX1 _ q2)⟩), (fun h => let ⟨g, q1, q2, q3⟩ := H.h13 (ol 13 (by decide) h); ⟨g, q1, q2, n.blk q3 (hX1 _ q2)⟩), (fun h => let ⟨g, q1, q2, q3⟩ := H.h14 (ol 14 (by decide) h); ⟨g, q1, q2, n.blk q3 (hX1 _ q2)⟩)⟩⟩⟩
    · clear hi hi2
      have e18 := H.h7 (hdep 7 (memOf (by kernel_rfl)))
      subst e18
      have ol7 : (L.setIfInBounds 8 true).getD 7 false = false → L.getD 7 false = false := fun h => by rwa [getD_set (by decide)] at h
      have on7 : (L.setIfInBounds 8 true).getD 7 false = true → L.getD 7 false = true := fun h => by rwa [getD_set (by decide)] at h
      exact step_run (i := 8) (w' := W) (v := .tuple #[.agg (vcs ov), .agg (rcs rq)]) rfl rfl (by simp [execOp, Act.eval, go_sem]) ⟨_, _, _, _, _, _, _, _, _, _, _, _, _, _, _, _, _, _, _, _, _, _, _, _, _, _, rfl, ⟨(H.k0), (H.k4), (H.k5), (H.m1), (fun h => H.m3 (ol7 h)), (fun h => H.m4 (on7 h)), (H.m6), (fun h => H.h0 (ol 0 (by decide) h)), (fun h => H.h1 (ol 1 (by decide) h)), (fun h => H.h2 (ol 2 (by decide) h)), (fun h => H.h3 (ol 3 (by decide) h)), (fun h => H.h4 (ol 4 (by decide) h)), (fun h => H.h5 (ol 5 (by decide) h)), (fun h => H.h6 (ol 6 (by decide) h)), (fun h => H.h7 (ol 7 (by decide) h)), (fun _ => rfl), (fun h => H.h9 (ol 9 (by decide) h)), (fun h => H.h10 (ol 10 (by decide) h)), (fun h => H.h11 (ol 11 (by decide) h)), (fun h => H.h12 (ol 12 (by decide) h)), (fun h => H.h13 (ol 13 (by decide) h)), (fun h => H.h14 (ol 14 (by decide) h))⟩⟩
    · clear hi hi2
      have e10 := H.h8 (hdep 8 (memOf (by kernel_rfl)))
      subst e10
      have ol7 : (L.setIfInBounds 9 true).getD 7 false = false → L.getD 7 false = false := fun h => by rwa [getD_set (by decide)] at h
      have on7 : (L.setIfInBounds 9 true).getD 7 false = true → L.getD 7 false = true := fun h => by rwa [getD_set (by decide)] at h
      exact step_run (i := 9) (w' := W) (v := .agg (vcs ov)) rfl rfl (by simp [execOp, Act.eval, go_sem]) ⟨_, _, _, _, _, _, _, _, _, _, _, _, _, _, _, _, _, _, _, _, _, _, _, _, _, _, rfl, ⟨(H.k0), (H.k4), (H.k5), (H.m1), (fun h => H.m3 (ol7 h)), (fun h => H.m4 (on7 h)), (H.m6), (fun h => H.h0 (ol 0 (by decide) h)), (fun h => H.h1 (ol 1 (by decide) h)), (fun h => H.h2 (ol 2 (by decide) h)), (fun h => H.h3 (ol 3 (by decide) h)), (fun h => H.h4 (ol 4 (by decide) h)), (fun h => H.h5 (ol 5 (by decide) h)), (fun h => H.h6 (ol 6 (by decide) h)), (fun h => H.h7 (ol 7 (by decide) h)), (fun h => H.h8 (ol 8 (by decide) h)), (fun _ => rfl), (fun h => H.h10 (ol 10 (by decide) h)), (fun h => H.h11 (ol 11 (by decide) h)), (fun h => H.h12 (ol 12 (by decide) h)), (fun h => H.h13 (ol 13 (by decide) h)), (fun h => H.h14 (ol 14 (by decide) h))⟩⟩
    · clear hi hi2
      have e10 := H.h8 (hdep 8 (memOf (by kernel_rfl)))
      subst e10
      have ol7 : (L.setIfInBounds 10 true).getD 7 false = false → L.getD 7 false = false := fun h => by rwa [getD_set (by decide)] at h
      have on7 : (L.setIfInBounds 10 true).getD 7 false = true → L.getD 7 false = true := fun h => by rwa [getD_set (by decide)] at h
      exact step_run (i := 10) (w' := W) (v := .agg (rcs rq)) rfl rfl (by simp [execOp, Act.eval, go_sem]) ⟨_, _, _, _, _, _, _, _, _, _, _, _, _, _, _, _, _, _, _, _, _, _, _, _, _, _, rfl, ⟨(H.k0), (H.k4), (H.k5), (H.m1), (fun h => H.m3 (ol7 h)), (fun h => H.m4 (on7 h)), (H.m6), (fun h => H.h0 (ol 0 (by decide) h)), (fun h => H.h1 (ol 1 (by decide) h)), (fun h => H.h2 (ol 2 (by decide) h)), (fun h => H.h3 (ol 3 (by decide) h)), (fun h => H.h4 (ol 4 (by decide) h)), (fun h => H.h5 (ol 5 (by decide) h)), (fun h => H.h6 (ol 6 (by decide) h)), (fun h => H.h7 (ol 7 (by decide) h)), (fun h => H.h8 (ol 8 (by decide) h)), (fun h => H.h9 (ol 9 (by decide) h)), (fun _ => rfl), (fun h => H.h11 (ol 11 (by decide) h)), (fun h => H.h12 (ol 12 (by decide) h)), (fun h => H.h13 (ol 13 (by decide) h)), (fun h => H.h14 (ol 14 (by decide) h))⟩⟩
    · clear hi hi2
      have ol7 : (L.setIfInBounds 11 true).getD 7 false = false → L.getD 7 false = false := fun h => by rwa [getD_set (by decide)] at h
      have on7 : (L.setIfInBounds 11 true).getD 7 false = true → L.getD 7 false = true := fun h => by rwa [getD_set (by decide)] at h
      have hb : Below W.heap.size W (W.alloc (.cells (vcs zeroV) 30)) := (Below.refl _ W).alloc (Nat.le_refl _) _
      exact step_run (i := 11) (w' := (W.alloc (.cells (vcs zeroV) 30))) (v := ptr W.heap.size) rfl rfl (by simp [execOp, Act.eval, go_sem]) ⟨_, _, _, _, _, _, _, _, _, _, _, _, _, _, _, _, _, _, _, _, _, _, _, _, _, _, rfl, ⟨(H.k0), (H.k4), (H.k5), (H.m1.trans (Kp.of_below hb)), (fun h => (H.m3 (ol7 h)).trans (hb.mono H.m1.fr.size)), (fun h => let ⟨M', q1, q2, q3⟩ := H.m4 (on7 h); ⟨M', q1.call hb, q2.call hb, fun b h' => by rcases h' with h' | h' <;> first | exact q3 b (.inr h') | (have e := ptr_inj h'; subst e; exact q1.new (Nat.le_refl _))⟩), (fun b h' => by rcases h' with h' | h' <;> first | exact let ⟨q1, q2⟩ := H.m6 b (.inr h'); ⟨q1, Nat.lt_of_lt_of_le q2 hb.size⟩ | (have e := ptr_inj h'; subst e; exact ⟨H.m1.fr.size, by simp⟩)), (fun h => H.h0 (ol 0 (by decide) h)), (fun h => H.h1 (ol 1 (by decide) h)), (fun h => H.h2 (ol 2 (by decide) h)), (fun h => H.h3 (ol 3 (by decide) h)), (fun h => H.h4 (ol 4 (by decide) h)), (fun h => H.h5 (ol 5 (by decide) h)), (fun h => let ⟨g, q1, q2, q3⟩ := H.h6 (ol 6 (by decide) h); ⟨g, q1, q2, q3.call hb⟩), (fun h => H.h7 (ol 7 (by decide) h)), (fun h => H.h8 (ol 8 (by decide) h)), (fun h => H.h9 (ol 9 (by decide) h)), (fun h => H.h10 (ol 10 (by decide) h)), (fun _ => ⟨_, rfl, H.m1.fr.size, _, Blk.new W _ _⟩), (fun h => let ⟨g, q1, q2, o, q3⟩ := H.h12 (ol 12 (by decide) h); ⟨g, q1, q2, o, q3.call hb⟩), (fun h => (not_yet hL (hcl 13 (by simp) (ol 13 (by decide) h) 11 (memOf (by kernel_rfl)))).elim), (fun h => let ⟨g, q1, q2, q3⟩ := H.h14 (ol 14 (by decide) h); ⟨g, q1, q2, q3.call hb⟩)⟩⟩
    · clear hi hi2
      have ol7 : (L.setIfInBounds 12 true).getD 7 false = false → L.getD 7 false = false := fun h => by rwa [getD_set (by decide)] at h
      have on7 : (L.setIfInBounds 12 true).getD 7 false = true → L.getD 7 false = true := fun h => by rwa [getD_set (by decide)] at h
      have hb : Below W.heap.size W (W.alloc (.cells (rcs zeroR) 57)) := (Below.refl _ W).alloc (Nat.le_refl _) _
      exact step_run (i := 12) (w' := (W.alloc (.cells (rcs zeroR) 57))) (v := ptr W.heap.size) rfl rfl (by simp [execOp, Act.eval, go_sem]) ⟨_, _, _, _, _, _, _, _, _, _, _, _, _, _, _, _, _, _, _, _, _, _, _, _, _, _, rfl, ⟨(H.k0), (H.k4), (H.k5), (H.m1.trans (Kp.of_below hb)), (fun h => (H.m3 (ol7 h)).trans (hb.mono H.m1.fr.size)), (fun h => let ⟨M', q1, q2, q3⟩ := H.m4 (on7 h); ⟨M', q1.call hb, q2.call hb, fun b h' => by rcases h' with h' | h' <;> first | exact q3 b (.inl h') | (have e := ptr_inj h'; subst e; exact q1.new (Nat.le_refl _))⟩), (fun b h' => by rcases h' with h' | h' <;> first | exact let ⟨q1, q2⟩ := H.m6 b (.inl h'); ⟨q1, Nat.lt_of_lt_of_le q2 hb.size⟩ | (have e := ptr_inj h'; subst e; exact ⟨H.m1.fr.size, by simp⟩)), (fun h => H.h0 (ol 0 (by decide) h)), (fun h => H.h1 (ol 1 (by decide) h)), (fun h => H.h2 (ol 2 (by decide) h)), (fun h => H.h3 (ol 3 (by decide) h)), (fun h => H.h4 (ol 4 (by decide) h)), (fun h => H.h5 (ol 5 (by decide) h)), (fun h => let ⟨g, q1, q2, q3⟩ := H.h6 (ol 6 (by decide) h); ⟨g, q1, q2, q3.call hb⟩), (fun h => H.h7 (ol 7 (by decide) h)), (fun h => H.h8 (ol 8 (by decide) h)), (fun h => H.h9 (ol 9 (by decide) h)), (fun h => H.h10 (ol 10 (by decide) h)), (fun h => let ⟨g, q1, q2, o, q3⟩ := H.h11 (ol 11 (by decide) h); ⟨g, q1, q2, o, q3.call hb⟩), (fun _ => ⟨_, rfl, H.m1.fr.size, _, Blk.new W _ _⟩), (fun h => let ⟨g, q1, q2, q3⟩ := H.h13 (ol 13 (by decide) h); ⟨g, q1, q2, q3.call hb⟩), (fun h => (not_yet hL (hcl 14 (by simp) (ol 14 (by decide) h) 12 (memOf (by kernel_rfl)))).elim)⟩⟩
    · clear hi hi2
      have e19 := H.h9 (hdep 9 (memOf (by kernel_rfl)))
      have e6 := H.h11 (hdep 11 (memOf (by kernel_rfl)))
      subst e19
      obtain ⟨b, rfl, hb1, o, hb2⟩ := e6
      have n7 : (L.setIfInBounds 13 true).getD 7 false = false → False := fun h => by rw [getD_set (by decide), hdep 7 (memOf (by kernel_rfl))] at h; cases h
      have on7 : L.getD 7 false = true := hdep 7 (memOf (by kernel_rfl))
      have sv := run_stVp (v := ov) hb2
      exact step_sk (i := 13) (w' := (W.setRow b (vcs ov))) rfl rfl (by simp [execOp, Act.eval, go_sem, sv]) ⟨_, _, _, _, _, _, _, _, _, _, _, _, _, _, _, _, _, _, _, _, _, _, _, _, _, _, rfl, ⟨(H.k0), (H.k4), (H.k5), (H.m1.row _ hb1), (fun h => (n7 h).elim), (fun _ => let ⟨M', q1, q2, q3⟩ := H.m4 on7; ⟨M', q1.row _ (q3 b (.inl rfl)) (Nat.le_trans hW0 hb1), q2.row _ hb1, q3⟩), (fun b' h => let ⟨q1, q2⟩ := H.m6 b' h; ⟨q1, by rw [size_setRow]; exact q2⟩), (fun h => H.h0 (ol 0 (by decide) h)), (fun h => H.h1 (ol 1 (by decide) h)), (fun h => H.h2 (ol 2 (by decide) h)), (fun h => H.h3 (ol 3 (by decide) h)), (fun h => H.h4 (ol 4 (by decide) h)), (fun h => H.h5 (ol 5 (by decide) h)), (fun h => let ⟨g, q1, q2, q3⟩ := H.h6 (ol 6 (by decide) h); ⟨g, q1, q2, q3.row_other _ (ne_blk q3 hb2 (by decide))⟩), (fun h => H.h7 (ol 7 (by decide) h)), (fun h => H.h8 (ol 8 (by decide) h)), (fun h => H.h9 (ol 9 (by decide) h)), (fun h => H.h10 (ol 10 (by decide) h)), (fun _ => ⟨b, rfl, hb1, ov, hb2.row _⟩), (fun h => let ⟨g, q1, q2, o, q3⟩ := H.h12 (ol 12 (by decide) h); ⟨g, q1, q2, o, q3.row_other _ (ne_blk q3 hb2 (by decide))⟩), (fun _ => ⟨b, rfl, hb1, hb2.row _⟩), (fun h => let ⟨g, q1, q2, q3⟩ := H.h14 (ol 14 (by decide) h); ⟨g, q1, q2, q3.row_other _ (ne_blk q3 hb2 (by decide))⟩)⟩⟩
    · clear hi hi2
      have e20 := H.h10 (hdep 10 (memOf (by kernel_rfl)))
      have e7 := H.h12 (hdep 12 (memOf (by kernel_rfl)))
      subst e20
      obtain ⟨b, rfl, hb1, o, hb2⟩ := e7
      have n7 : (L.setIfInBounds 14 true).getD 7 false = false → False := fun h => by rw [getD_set (by decide), hdep 7 (memOf (by kernel_rfl))] at h; cases h
      have on7 : L.getD 7 false = true := hdep 7 (memOf (by kernel_rfl))
      have sv := run_stRp hb2 hrr
      exact step_sk (i := 14) (w' := (W.setRow b (rcs rq))) rfl rfl (by simp [execOp, Act.eval, go_sem, sv]) ⟨_, _, _, _, _, _, _, _, _, _, _, _, _, _, _, _, _, _, _, _, _, _, _, _, _, _, rfl, ⟨(H.k0), (H.k4), (H.k5), (H.m1.row _ hb1), (fun h => (n7 h).elim), (fun _ => let ⟨M', q1, q2, q3⟩ := H.m4 on7; ⟨M', q1.row _ (q3 b (.inr rfl)) (Nat.le_trans hW0 hb1), q2.row _ hb1, q3⟩), (fun b' h => let ⟨q1, q2⟩ := H.m6 b' h; ⟨q1, by rw [size_setRow]; exact q2⟩), (fun h => H.h0 (ol 0 (by decide) h)), (fun h => H.h1 (ol 1 (by decide) h)), (fun h => H.h2 (ol 2 (by decide) h)), (fun h => H.h3 (ol 3 (by decide) h)), (fun h => H.h4 (ol 4 (by decide) h)), (fun h => H.h5 (ol 5 (by decide) h)), (fun h => let ⟨g, q1, q2, q3⟩ := H.h6 (ol 6 (by decide) h); ⟨g, q1, q2, q3.row_other _ (ne_blk q3 hb2 (by decide))⟩), (fun h => H.h7 (ol 7 (by decide) h)), (fun h => H.h8 (ol 8 (by decide) h)), (fun h => H.h9 (ol 9 (by decide) h)), (fun h => H.h10 (ol 10 (by decide) h)), (fun h => let ⟨g, q1, q2, o, q3⟩ := H.h11 (ol 11 (by decide) h); ⟨g, q1, q2, o, q3.row_other _ (ne_blk q3 hb2 (by decide))⟩), (fun _ => ⟨b, rfl, hb1, rq, hb2.row _⟩), (fun h => let ⟨g, q1, q2, q3⟩ := H.h13 (ol 13 (by decide) h); ⟨g, q1, q2, q3.row_other _ (ne_blk q3 hb2 (by decide))⟩), (fun _ => ⟨b, rfl, hb1, hb2.row _⟩)⟩⟩
  case done =>
    rintro L a W hall ⟨x0, x1, x2, x3, x4, x5, x6, x7, x8, x9, x10, x11, x12, x13, x14, x15, x16, x17, x18, x19, x20, x21, x22, x23, x24, x25, rfl, H⟩
    obtain ⟨b6, e6, hb6, B6⟩ := H.h13 (hall 13 (by simp))
    obtain ⟨b7, e7, hb7, B7⟩ := H.h14 (hall 14 (by simp))
    obtain ⟨M', hM, nM, -⟩ := H.m4 (hall 7 (by simp))
    have e0 := H.k0
    have e4 := H.k4
    have e5 := H.k5
    subst e6 e7 e0 e4 e5
    have BN : Lo (M'.bl X.wb) w W w.heap.size (rcs zeroR) 57 := ⟨nM.blk htN hN, nM.out htN.lt hN, Nat.le_refl _⟩
    have HBN := Lib.hid BN
    have HM := Lib.hid hM
    have HN := Lib.hid (Nx.from hd1 nM)
    have HB6 := Lib.hid B6
    have lr := run_ldRp B7
    have HB7 := Lib.hid B7
    have HRQ := Lib.hid hrq
    have HRR := Lib.hid hrr
    have HW1 := Lib.hid hW1
    clear H B6 B7 htN htv hcr b1 hb6 hb7 hall hX1 hN hNv hW0 hd1 hw1 hM nM BN hrq hrr hW1 htve hdd hee k1
    have HAB : ∀ b, Hid (abr rr = b) → Hid (abr rr = b) := fun _ h => h
    rcases (by cases abr rr <;> simp : abr rr = false ∨ abr rr = true) with hab | hab
    · have hf : (rq.flow != 0) = false := by rw [HRQ.out]; exact hab
      have HF := Lib.hid hf
      have HH := Lib.hid hab
      clear hf hab HAB
      go_wp2_with (go_at_call 36; refine (abrupt_any rq false HF.out _).mono ?_; rintro e w2 ⟨rfl, hb⟩; have lv := run_ldVp (HB6.out.call hb); have sv := run_stRp (HBN.out.blk.call hb) (r := (thrown ov).mem nilS) ⟨_, _, _, rfl⟩; have HB := Lib.hid hb; clear hb)
      refine bodyPost_ret (res_R rfl _ _ w.heap.size _ rfl ((HBN.out.blk.call HB.out).row _)) rfl ⟨M', by rw [HFR.out, if_neg (by rw [HH.out]; simp)], ?_, ?_⟩
      · exact (HM.out.call HB.out).rowL (HBN.out.call HB.out) _ HW1.out
      · exact (HN.out.call HB.out).row _ (Nat.le_refl _)
    · have hf : (rq.flow != 0) = true := by rw [HRQ.out]; exact hab
      have HF := Lib.hid hf
      have HH := Lib.hid hab
      clear hf hab HAB
      go_wp2_with (go_at_call 36; refine (abrupt_any rq true HF.out _).mono ?_; rintro e w2 ⟨rfl, hb⟩; have lv := run_ldRp (HB7.out.call hb); have sv := run_stRp (HBN.out.blk.call hb) HRR.out; have HB := Lib.hid hb; clear hb)
      refine bodyPost_ret (res_R rfl _ _ w.heap.size _ rfl ((HBN.out.blk.call HB.out).row _)) rfl ⟨M', by rw [HFR.out, if_pos HH.out, ← HRQ.out], ?_, ?_⟩
      · exact (HM.out.call HB.out).rowL (HBN.out.call HB.out) _ HW1.out
      · exact (HN.out.call HB.out).row _ (Nat.le_refl _)
end Go.Proofs.YtphaefkaeinngaaGreatDoor.Mw
