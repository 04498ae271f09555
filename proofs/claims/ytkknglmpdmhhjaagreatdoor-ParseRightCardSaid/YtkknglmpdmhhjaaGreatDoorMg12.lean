/-
  Texts of this seat in build order: LxName, LxSgn.
-/
import Derived.Test.YtkknglmpdmhhjaaGreatDoorMg11
/-
  reader.name.
-/
namespace Go.Proofs.YtkknglmpdmhhjaaGreatDoor.Lx
open Go Go.RowKit Go.Proofs.YtkknglmpdmhhjaaGreatDoor.Uni Go.Proofs.YtkknglmpdmhhjaaGreatDoor.Rg
set_option linter.unusedVariables false
set_option linter.unusedSimpArgs false
attribute [local go_sem ↓] ldK stK alK bdK
attribute [local irreducible] kcs
attribute [local go_sem] run_alK run_bdK0 run_bdKs run_bdKn run_bdKe

structure NameI (g a N : Nat) (l : By) (s : ByteArray) (w1 : World) (L : Array Bool) (x0 x1 x2 x3 x4 x5 x6 x7 x8 x9 x10 x11 x12 x13 x14 x15 x16 x17 x18 x19 x20 x21 x22 x23 x24 x25 x26 x27 x28 x29 x30 x31 x32 : Value) (W : World) : Prop where
  k0 : x0 = ptr g
  k2 : x2 = ptr N
  k3 : x3 = .bool false
  m1 : Below w1.heap.size w1 W
  h0 : L.getD 0 false = true → x5 = ptr g
  h1 : L.getD 1 false = true → x6 = ptr g
  h2 : L.getD 2 false = true → x7 = .pointer (some ⟨g, 1, none⟩)
  h3 : L.getD 3 false = true → x8 = .int .i64 (a : Int)
  h4 : L.getD 4 false = true → x9 = ptr g
  h5 : L.getD 5 false = true → x10 = .string (bs l)
  h6 : L.getD 6 false = true → x11 = .string s
  h7 : L.getD 7 false = true → x12 = .agg (kcs ⟨1, a, 0, s⟩)
  h8 : L.getD 8 false = true → ∃ b, x4 = ptr b ∧ w1.heap.size ≤ b ∧ ∃ o, Blk W b (kcs o) 79
  h9 : L.getD 9 false = true → ∃ b, x4 = ptr b ∧ w1.heap.size ≤ b ∧ Blk W b (kcs ⟨1, a, 0, s⟩) 79

theorem below_undrew {w W : World} (h : Below w.drew.heap.size w.drew W) : Below w.heap.size w W := (Below.refl _ w).drew.trans h
/-- What the call leaves where a name has been read. -/
theorem on_end {g a b k : Nat} {t : ByteArray} {w W W2 : World} (hr : Rd w g t a) (h1 : Below w.heap.size w W) (h2 : Rd W2 g t b) (hb : b ≤ t.size) (h3 : GB g W W2) : On g t b w W2 := ⟨hb, h2, (GB.of h1).trans h3⟩
theorem GB.row {g b : Nat} {w W : World} (h : GB g w W) (cs : Array Value) (hb : w.heap.size ≤ b) : GB g w (W.setRow b cs) := ⟨h.os, h.tape, h.output, by rw [size_setRow]; exact h.size, fun k hk hn => (setRow_other W b k cs (by omega)).trans (h.block k hk hn)⟩
theorem GB.cell {g b o : Nat} {w W : World} (h : GB g w W) (v : Value) (hb : w.heap.size ≤ b) : GB g w (W.setCell ⟨b, o, none⟩ v) := ⟨h.os, h.tape, h.output, by simp [World.setCell]; exact h.size, fun k hk hn => (Below.heap_setCell _ _ _ _ (by simp; omega)).trans (h.block k hk hn)⟩
theorem Rd.row {w : World} {g b a : Nat} {t : ByteArray} (h : Rd w g t a) (cs : Array Value) (hne : g ≠ b) : Rd (w.setRow b cs) g t a := (setRow_other w b g cs hne).trans h
theorem Rd.cell {w : World} {g b o a : Nat} {t : ByteArray} (h : Rd w g t a) (v : Value) (hne : g ≠ b) : Rd (w.setCell ⟨b, o, none⟩ v) g t a := (Below.heap_setCell _ _ _ _ hne).trans h
set_option maxRecDepth 100000 in
set_option maxHeartbeats 4000000 in
theorem name_any (g : Nat) (t : ByteArray) (a : Nat) (w : World) (hr : Rd w g t a) (ha : a ≤ t.size) (ht : t.size ≤ 1000000) :
    Calls Tryz.prog 77 #[.pointer (some ⟨g, 0, none⟩)] w (GotP g t a w (nameF (t.data.toList.drop a))) := by
  obtain ⟨l, hl⟩ : ∃ l, t.data.toList.drop a = l := ⟨_, rfl⟩
  have hlen : a + l.length = t.size := by rw [← hl, List.length_drop, lsz]; omega
  obtain ⟨s, hs⟩ : ∃ s, bs (lead contN l) = s := ⟨_, rfl⟩
  have hsz : a + s.size ≤ t.size := by rw [← hs, bs_size]; have := lead_len contN l; omega
  obtain ⟨w1, hw1⟩ : ∃ w1, w.alloc (.cells (kcs zeroK) 79) = w1 := ⟨_, rfl⟩
  have k1 : w1.heap.size = w.heap.size + 1 := by rw [← hw1]; simp
  have b1 : Below w.heap.size w w1 := by rw [← hw1]; exact (Below.refl _ w).alloc (Nat.le_refl _) _
  have tN : Blk w1.drew w.heap.size (kcs zeroK) 79 := by rw [← hw1]; exact Blk.new w _ _
  have hr1 : Rd w1.drew g t a := hr.below b1.drew
  have hc1 : ∀ W, Below w1.drew.heap.size w1.drew W → W.cell? ⟨g, 1, none⟩ = some (.int .i64 (a : Int)) := fun W hb => (hr1.below hb).c1
  have hrest := fun (W : World) (hb : Below w1.drew.heap.size w1.drew W) => rest_any g t a W (hr1.below hb) ha ht
  have hlead := fun w => leading_cont (bs l) w (by rw [bs_size]; omega)
  rw [bs_list] at hlead
  rw [hl] at hrest ⊢
  rw [hs] at hlead
  have hword := fun w => word_any s w
  obtain ⟨k, hk⟩ : ∃ k, wordF s.toList = k := ⟨_, rfl⟩
  rw [hk] at hword
  have hk3 : k ≤ 2 := by rw [← hk]; unfold wordF; split <;> (try split) <;> omega
  have HL := Lib.hid hl
  have HS := Lib.hid hs
  have HK := Lib.hid hk
  clear hs hl hk
  go_enter Tryz.func77, Tryz.ntmps77
  go_wp2
  refine region_inv (by kernel_rfl) (fun L act W => ∃ x0 x1 x2 x3 x4 x5 x6 x7 x8 x9 x10 x11 x12 x13 x14 x15 x16 x17 x18 x19 x20 x21 x22 x23 x24 x25 x26 x27 x28 x29 x30 x31 x32 : Value, act = { tmps := #[x0, x1, x2, x3, x4, x5, x6, x7, x8, x9, x10, x11, x12, x13, x14, x15, x16, x17, x18, x19, x20, x21, x22, x23, x24, x25, x26, x27, x28, x29, x30, x31, x32], defers := [] } ∧ NameI g a w.heap.size l s w1.drew L x0 x1 x2 x3 x4 x5 x6 x7 x8 x9 x10 x11 x12 x13 x14 x15 x16 x17 x18 x19 x20 x21 x22 x23 x24 x25 x26 x27 x28 x29 x30 x31 x32 W) (by kernel_rfl) ?start ?step ?done
  case start => exact ⟨_, _, _, _, _, _, _, _, _, _, _, _, _, _, _, _, _, _, _, _, _, _, _, _, _, _, _, _, _, _, _, _, _, rfl, ⟨rfl, rfl, rfl, Below.refl _ _, fun h => by simp [Array.getD_eq_getD_getElem?] at h, fun h => by simp [Array.getD_eq_getD_getElem?] at h, fun h => by simp [Array.getD_eq_getD_getElem?] at h, fun h => by simp [Array.getD_eq_getD_getElem?] at h, fun h => by simp [Array.getD_eq_getD_getElem?] at h, fun h => by simp [Array.getD_eq_getD_getElem?] at h, fun h => by simp [Array.getD_eq_getD_getElem?] at h, fun h => by simp [Array.getD_eq_getD_getElem?] at h, fun h => by simp [Array.getD_eq_getD_getElem?] at h, fun h => by simp [Array.getD_eq_getD_getElem?] at h⟩⟩
  case step =>
    intro i L act W hi hdep hL hs hcl hI
    have hi2 : i < 10 := by simpa using hi
    obtain ⟨x0, x1, x2, x3, x4, x5, x6, x7, x8, x9, x10, x11, x12, x13, x14, x15, x16, x17, x18, x19, x20, x21, x22, x23, x24, x25, x26, x27, x28, x29, x30, x31, x32, rfl, H⟩ := hI
    have ol : ∀ j, i ≠ j → (L.setIfInBounds i true).getD j false = true → L.getD j false = true := fun j hj h => by rwa [getD_set hj] at h
    rcases (by omega : i = 0 ∨ i = 1 ∨ i = 2 ∨ i = 3 ∨ i = 4 ∨ i = 5 ∨ i = 6 ∨ i = 7 ∨ i = 8 ∨ i = 9) with rfl | rfl | rfl | rfl | rfl | rfl | rfl | rfl | rfl | rfl
    · clear hi hi2
      have e := H.k0
      subst e
      exact step_run (i := 0) (w' := W) (v := ptr g) rfl rfl (by simp [execOp, Act.eval, go_sem]) ⟨_, _, _, _, _, _, _, _, _, _, _, _, _, _, _, _, _, _, _, _, _, _, _, _, _, _, _, _, _, _, _, _, _, rfl, ⟨(H.k0), (H.k2), (H.k3), (H.m1), (fun _ => rfl), (fun h => H.h1 (ol 1 (by decide) h)), (fun h => H.h2 (ol 2 (by decide) h)), (fun h => H.h3 (ol 3 (by decide) h)), (fun h => H.h4 (ol 4 (by decide) h)), (fun h => H.h5 (ol 5 (by decide) h)), (fun h => H.h6 (ol 6 (by decide) h)), (fun h => H.h7 (ol 7 (by decide) h)), (fun h => H.h8 (ol 8 (by decide) h)), (fun h => H.h9 (ol 9 (by decide) h))⟩⟩
    · clear hi hi2
      have e5 := H.h0 (hdep 0 (memOf (by kernel_rfl)))
      subst e5
      exact step_run (i := 1) (w' := W) (v := ptr g) rfl rfl (by simp [execOp, Act.eval, go_sem]) ⟨_, _, _, _, _, _, _, _, _, _, _, _, _, _, _, _, _, _, _, _, _, _, _, _, _, _, _, _, _, _, _, _, _, rfl, ⟨(H.k0), (H.k2), (H.k3), (H.m1), (fun h => H.h0 (ol 0 (by decide) h)), (fun _ => rfl), (fun h => H.h2 (ol 2 (by decide) h)), (fun h => H.h3 (ol 3 (by decide) h)), (fun h => H.h4 (ol 4 (by decide) h)), (fun h => H.h5 (ol 5 (by decide) h)), (fun h => H.h6 (ol 6 (by decide) h)), (fun h => H.h7 (ol 7 (by decide) h)), (fun h => H.h8 (ol 8 (by decide) h)), (fun h => H.h9 (ol 9 (by decide) h))⟩⟩
    · clear hi hi2
      have e6 := H.h1 (hdep 1 (memOf (by kernel_rfl)))
      subst e6
      exact step_run (i := 2) (w' := W) (v := .pointer (some ⟨g, 1, none⟩)) rfl rfl (by simp [execOp, Act.eval, go_sem]) ⟨_, _, _, _, _, _, _, _, _, _, _, _, _, _, _, _, _, _, _, _, _, _, _, _, _, _, _, _, _, _, _, _, _, rfl, ⟨(H.k0), (H.k2), (H.k3), (H.m1), (fun h => H.h0 (ol 0 (by decide) h)), (fun h => H.h1 (ol 1 (by decide) h)), (fun _ => rfl), (fun h => H.h3 (ol 3 (by decide) h)), (fun h => H.h4 (ol 4 (by decide) h)), (fun h => H.h5 (ol 5 (by decide) h)), (fun h => H.h6 (ol 6 (by decide) h)), (fun h => H.h7 (ol 7 (by decide) h)), (fun h => H.h8 (ol 8 (by decide) h)), (fun h => H.h9 (ol 9 (by decide) h))⟩⟩
    · clear hi hi2
      have e7 := H.h2 (hdep 2 (memOf (by kernel_rfl)))
      subst e7
      have c1 := hc1 W H.m1
      exact step_run (i := 3) (w' := W) (v := .int .i64 (a : Int)) rfl rfl (by simp [execOp, Act.eval, go_sem, c1]) ⟨_, _, _, _, _, _, _, _, _, _, _, _, _, _, _, _, _, _, _, _, _, _, _, _, _, _, _, _, _, _, _, _, _, rfl, ⟨(H.k0), (H.k2), (H.k3), (H.m1), (fun h => H.h0 (ol 0 (by decide) h)), (fun h => H.h1 (ol 1 (by decide) h)), (fun h => H.h2 (ol 2 (by decide) h)), (fun _ => rfl), (fun h => H.h4 (ol 4 (by decide) h)), (fun h => H.h5 (ol 5 (by decide) h)), (fun h => H.h6 (ol 6 (by decide) h)), (fun h => H.h7 (ol 7 (by decide) h)), (fun h => H.h8 (ol 8 (by decide) h)), (fun h => H.h9 (ol 9 (by decide) h))⟩⟩
    · clear hi hi2
      have e := H.k0
      subst e
      exact step_run (i := 4) (w' := W) (v := ptr g) rfl rfl (by simp [execOp, Act.eval, go_sem]) ⟨_, _, _, _, _, _, _, _, _, _, _, _, _, _, _, _, _, _, _, _, _, _, _, _, _, _, _, _, _, _, _, _, _, rfl, ⟨(H.k0), (H.k2), (H.k3), (H.m1), (fun h => H.h0 (ol 0 (by decide) h)), (fun h => H.h1 (ol 1 (by decide) h)), (fun h => H.h2 (ol 2 (by decide) h)), (fun h => H.h3 (ol 3 (by decide) h)), (fun _ => rfl), (fun h => H.h5 (ol 5 (by decide) h)), (fun h => H.h6 (ol 6 (by decide) h)), (fun h => H.h7 (ol 7 (by decide) h)), (fun h => H.h8 (ol 8 (by decide) h)), (fun h => H.h9 (ol 9 (by decide) h))⟩⟩
    · clear hi hi2
      have e9 := H.h4 (hdep 4 (memOf (by kernel_rfl)))
      subst e9
      refine step_call (i := 5) (f := 75) (args := #[ptr g]) rfl rfl (by simp [execOp, Act.eval, go_sem]) (hrest W H.m1) ?_
      rintro e W2 ⟨rfl, n1, rfl⟩
      have hb : Below W.heap.size W (W.drewN n1) := below_drewN (Below.refl _ _) n1
      exact ⟨_, rfl, ⟨_, _, _, _, _, _, _, _, _, _, _, _, _, _, _, _, _, _, _, _, _, _, _, _, _, _, _, _, _, _, _, _, _, rfl, ⟨(H.k0), (H.k2), (H.k3), (H.m1.trans (hb.mono H.m1.size)), (fun h => H.h0 (ol 0 (by decide) h)), (fun h => H.h1 (ol 1 (by decide) h)), (fun h => H.h2 (ol 2 (by decide) h)), (fun h => H.h3 (ol 3 (by decide) h)), (fun h => H.h4 (ol 4 (by decide) h)), (fun _ => rfl), (fun h => H.h6 (ol 6 (by decide) h)), (fun h => H.h7 (ol 7 (by decide) h)), (fun h => let ⟨b, q1, q2, o, q3⟩ := H.h8 (ol 8 (by decide) h); ⟨b, q1, q2, o, q3.call hb⟩), (fun h => let ⟨b, q1, q2, q3⟩ := H.h9 (ol 9 (by decide) h); ⟨b, q1, q2, q3.call hb⟩)⟩⟩⟩
    · clear hi hi2
      have e10 := H.h5 (hdep 5 (memOf (by kernel_rfl)))
      subst e10
      refine step_call (i := 6) (f := 127) (args := #[.string (bs l), .func (.func 128) #[] #[]]) rfl rfl (by simp [execOp, Act.eval, go_sem]) (hlead W) ?_
      rintro e W2 ⟨rfl, hb⟩
      exact ⟨_, rfl, ⟨_, _, _, _, _, _, _, _, _, _, _, _, _, _, _, _, _, _, _, _, _, _, _, _, _, _, _, _, _, _, _, _, _, rfl, ⟨(H.k0), (H.k2), (H.k3), (H.m1.trans (hb.mono H.m1.size)), (fun h => H.h0 (ol 0 (by decide) h)), (fun h => H.h1 (ol 1 (by decide) h)), (fun h => H.h2 (ol 2 (by decide) h)), (fun h => H.h3 (ol 3 (by decide) h)), (fun h => H.h4 (ol 4 (by decide) h)), (fun h => H.h5 (ol 5 (by decide) h)), (fun _ => rfl), (fun h => H.h7 (ol 7 (by decide) h)), (fun h => let ⟨b, q1, q2, o, q3⟩ := H.h8 (ol 8 (by decide) h); ⟨b, q1, q2, o, q3.call hb⟩), (fun h => let ⟨b, q1, q2, q3⟩ := H.h9 (ol 9 (by decide) h); ⟨b, q1, q2, q3.call hb⟩)⟩⟩⟩
    · clear hi hi2
      have e8 := H.h3 (hdep 3 (memOf (by kernel_rfl)))
      have e11 := H.h6 (hdep 6 (memOf (by kernel_rfl)))
      subst e8
      subst e11
      have hbd := run_bdKs W 1 a s
      exact step_run (i := 7) (w' := W) (v := .agg (kcs ⟨1, a, 0, s⟩)) rfl rfl (by simp [execOp, Act.eval, go_sem, hbd]) ⟨_, _, _, _, _, _, _, _, _, _, _, _, _, _, _, _, _, _, _, _, _, _, _, _, _, _, _, _, _, _, _, _, _, rfl, ⟨(H.k0), (H.k2), (H.k3), (H.m1), (fun h => H.h0 (ol 0 (by decide) h)), (fun h => H.h1 (ol 1 (by decide) h)), (fun h => H.h2 (ol 2 (by decide) h)), (fun h => H.h3 (ol 3 (by decide) h)), (fun h => H.h4 (ol 4 (by decide) h)), (fun h => H.h5 (ol 5 (by decide) h)), (fun h => H.h6 (ol 6 (by decide) h)), (fun _ => rfl), (fun h => H.h8 (ol 8 (by decide) h)), (fun h => H.h9 (ol 9 (by decide) h))⟩⟩
    · clear hi hi2
      have hb : Below W.heap.size W (W.alloc (.cells (kcs zeroK) 79)) := (Below.refl _ W).alloc (Nat.le_refl _) _
      exact step_run (i := 8) (w' := (W.alloc (.cells (kcs zeroK) 79))) (v := ptr W.heap.size) rfl rfl (by simp [execOp, Act.eval, go_sem]) ⟨_, _, _, _, _, _, _, _, _, _, _, _, _, _, _, _, _, _, _, _, _, _, _, _, _, _, _, _, _, _, _, _, _, rfl, ⟨(H.k0), (H.k2), (H.k3), (H.m1.trans (hb.mono H.m1.size)), (fun h => H.h0 (ol 0 (by decide) h)), (fun h => H.h1 (ol 1 (by decide) h)), (fun h => H.h2 (ol 2 (by decide) h)), (fun h => H.h3 (ol 3 (by decide) h)), (fun h => H.h4 (ol 4 (by decide) h)), (fun h => H.h5 (ol 5 (by decide) h)), (fun h => H.h6 (ol 6 (by decide) h)), (fun h => H.h7 (ol 7 (by decide) h)), (fun _ => ⟨_, rfl, H.m1.size, _, Blk.new W _ _⟩), (fun h => (not_yet hL (hcl 9 (by simp) (ol 9 (by decide) h) 8 (memOf (by kernel_rfl)))).elim)⟩⟩
    · clear hi hi2
      have e12 := H.h7 (hdep 7 (memOf (by kernel_rfl)))
      have e4 := H.h8 (hdep 8 (memOf (by kernel_rfl)))
      subst e12
      obtain ⟨b, rfl, hb1, o, hb2⟩ := e4
      have sv := run_stK (t := ⟨1, a, 0, s⟩) hb2
      exact step_sk (i := 9) (w' := (W.setRow b (kcs ⟨1, a, 0, s⟩))) rfl rfl (by simp [execOp, Act.eval, go_sem, sv]) ⟨_, _, _, _, _, _, _, _, _, _, _, _, _, _, _, _, _, _, _, _, _, _, _, _, _, _, _, _, _, _, _, _, _, rfl, ⟨(H.k0), (H.k2), (H.k3), (below_row H.m1 _ hb1), (fun h => H.h0 (ol 0 (by decide) h)), (fun h => H.h1 (ol 1 (by decide) h)), (fun h => H.h2 (ol 2 (by decide) h)), (fun h => H.h3 (ol 3 (by decide) h)), (fun h => H.h4 (ol 4 (by decide) h)), (fun h => H.h5 (ol 5 (by decide) h)), (fun h => H.h6 (ol 6 (by decide) h)), (fun h => H.h7 (ol 7 (by decide) h)), (fun _ => ⟨b, rfl, hb1, _, hb2.row _⟩), (fun _ => ⟨b, rfl, hb1, hb2.row _⟩)⟩⟩
  case done =>
    rintro L a1 W hall ⟨x0, x1, x2, x3, x4, x5, x6, x7, x8, x9, x10, x11, x12, x13, x14, x15, x16, x17, x18, x19, x20, x21, x22, x23, x24, x25, x26, x27, x28, x29, x30, x31, x32, rfl, H⟩
    obtain ⟨b, e4, hb4, B4⟩ := H.h9 (hall 9 (by simp))
    have e0 := H.k0
    have e2 := H.k2
    have e3 := H.k3
    subst e4 e0 e2 e3
    have hm1 := H.m1
    have hrW : Rd W g t a := hr1.below hm1
    have tW := tN.call hm1
    have cs := (B4.cell 3).trans (kcs_3 _)
    have cr := hrW.c1
    have fr := hrW.f1
    have f0 := B4.frozen 0
    have hbs : w.heap.size + 1 ≤ b := by rw [← k1]; exact hb4
    have hbel : Below w.heap.size w W := b1.trans ((below_undrew hm1).mono (by omega))
    have hgl := hr.lt
    have BB := Lib.hid B4
    have BT := Lib.hid tW
    have BR := Lib.hid hrW
    have BL := Lib.hid hbel
    have HB := Lib.hid hbs
    have HG := Lib.hid hgl
    have HRW := Lib.hid hr
    have HSZ := Lib.hid hsz
    clear H B4 hb4 hall tN hr1 hc1 hrest hlead hm1 hrW tW hbel hr b1 hbs hgl hsz
    rcases (by omega : k = 0 ∨ k = 1 ∨ k = 2) with rfl | rfl | rfl
    · have e : nameF l = .ok ⟨1, 0, s⟩ (l.drop (lead contN l).length) := by
        have h2 := HK.out
        rw [← HS.out, ByteArray.toList_eq, bs_list] at h2
        unfold nameF
        rw [if_neg (by omega), if_neg (by omega), ← HS.out]
        rfl
      have HE := Lib.hid e
      clear e
      have hne : g ≠ b := by have := HG.out; have := HB.out; omega
      have hneT : g ≠ w.heap.size := by have := HG.out; omega
      have hbT : b ≠ w.heap.size := by have := HB.out; omega
      have hai : (a : Int) ≤ 1000000 := by omega
      have hsi : (s.size : Int) ≤ 1000000 := by have := HSZ.out; omega
      have lv := run_ldK ((BB.out.other ⟨g, 1, none⟩ (.int .i64 ((a : Int) + s.size)) (by simpa using hne.symm)).drew)
      have sv := run_stK (t := ⟨1, a, 0, s⟩) ((BT.out.other ⟨g, 1, none⟩ (.int .i64 ((a : Int) + s.size)) (by simpa using hneT.symm)).drew)
      go_wp2_with (go_at_call 54; refine (hword _).mono ?_; rintro e w' ⟨rfl, rfl⟩)
      go_region_with (fail)
      all_goals go_wp2
      all_goals simp only [lv]
      all_goals go_wp2
      all_goals
        refine bodyPost_ret (res_K rfl _ _ w.heap.size ⟨1, a, 0, s⟩ _ rfl rfl (((BT.out.other ⟨g, 1, none⟩ (.int .i64 ((a : Int) + s.size)) (by simpa using hneT.symm)).drew).row _)) rfl ?_
        rw [HE.out]
        refine ⟨rfl, a + s.size, ?_, HSZ.out, (BR.out.set (by omega)).row _ hneT, (((GB.of BL.out).trans (GB.set _ _ _)).drew 1).row _ (Nat.le_refl _)⟩
        rw [← HL.out, List.drop_drop, ← HS.out, bs_size, HL.out]
    · have e : nameF l = .ok ⟨2, 0, s⟩ (l.drop (lead contN l).length) := by
        have h2 := HK.out
        rw [← HS.out, ByteArray.toList_eq, bs_list] at h2
        unfold nameF
        rw [if_neg (by omega), if_pos h2, ← HS.out]
        rfl
      have HE := Lib.hid e
      clear e
      have hne : g ≠ b := by have := HG.out; have := HB.out; omega
      have hneT : g ≠ w.heap.size := by have := HG.out; omega
      have hbT : b ≠ w.heap.size := by have := HB.out; omega
      have hai : (a : Int) ≤ 1000000 := by omega
      have hsi : (s.size : Int) ≤ 1000000 := by have := HSZ.out; omega
      have B2 : Blk (W.setCell ⟨b, 0, none⟩ (.int .i64 2)) b (kcs ⟨2, a, 0, s⟩) 79 := by
        have := BB.out.set 0 (.int .i64 2)
        rwa [kcs_set0] at this
      have T2 : Blk (W.setCell ⟨b, 0, none⟩ (.int .i64 2)) w.heap.size (kcs zeroK) 79 := BT.out.other _ _ (by simpa using hbT.symm)
      have R2 : Rd (W.setCell ⟨b, 0, none⟩ (.int .i64 2)) g t a := BR.out.cell _ hne
      have cs2 := (B2.cell 3).trans (kcs_3 _)
      have cr2 := R2.c1
      have fr2 := R2.f1
      have c0 := (BB.out.cell 0).trans (kcs_0 _)
      have lv := run_ldK ((B2.other ⟨g, 1, none⟩ (.int .i64 ((a : Int) + s.size)) (by simpa using hne.symm)).drew)
      have sv := run_stK (t := ⟨2, a, 0, s⟩) ((T2.other ⟨g, 1, none⟩ (.int .i64 ((a : Int) + s.size)) (by simpa using hneT.symm)).drew)
      have HT2 := Lib.hid T2
      have HR2 := Lib.hid R2
      clear B2 T2 R2
      go_wp2_with (go_at_call 54; refine (hword _).mono ?_; rintro e w' ⟨rfl, rfl⟩)
      go_region_with (fail)
      all_goals go_wp2
      all_goals simp only [lv]
      all_goals go_wp2
      all_goals
        refine bodyPost_ret (res_K rfl _ _ w.heap.size ⟨2, a, 0, s⟩ _ rfl rfl (((HT2.out.other ⟨g, 1, none⟩ (.int .i64 ((a : Int) + s.size)) (by simpa using hneT.symm)).drew).row _)) rfl ?_
        rw [HE.out]
        refine ⟨rfl, a + s.size, ?_, HSZ.out, (HR2.out.set (by omega)).row _ hneT, ((((GB.of BL.out).cell (o := 0) (b := b) _ (by have := HB.out; omega)).trans (GB.set _ _ _)).drew 1).row _ (Nat.le_refl _)⟩
        rw [← HL.out, List.drop_drop, ← HS.out, bs_size, HL.out]
    · have sv := run_stK (t := zeroK) BT.out
      have e : nameF l = .bad l := by
        unfold nameF
        rw [if_pos]
        have h2 := HK.out
        rw [← HS.out, ByteArray.toList_eq, bs_list] at h2
        exact h2
      have HE := Lib.hid e
      clear e
      go_wp2_with (go_at_call 54; refine (hword _).mono ?_; rintro e w' ⟨rfl, rfl⟩)
      refine bodyPost_ret (res_K rfl _ _ w.heap.size zeroK _ rfl rfl (BT.out.row _)) rfl ?_
      rw [HE.out]
      exact ⟨rfl, a, HL.out.symm, ha, BR.out.row _ (by have := HG.out; omega), (GB.of BL.out).row _ (Nat.le_refl _)⟩
end Go.Proofs.YtkknglmpdmhhjaaGreatDoor.Lx

/-
  reader.sign.
-/
namespace Go.Proofs.YtkknglmpdmhhjaaGreatDoor.Lx
open Go Go.RowKit Go.Proofs.YtkknglmpdmhhjaaGreatDoor.Uni
set_option linter.unusedVariables false
set_option linter.unusedSimpArgs false
attribute [local go_sem ↓] ldK stK alK bdK
attribute [local irreducible] kcs
attribute [local go_sem] run_alK run_bdK0 run_bdKs run_bdKn run_bdKe

theorem rng_keep {w w' : World} {b : Nat} {cs : List Value} (h : w.rangeAt b 0 cs) (hb : Below w.heap.size w w') : w'.rangeAt b 0 cs := fun j v hj => cell_keep (h j v hj) (fun hl => hb.block _ hl)
theorem blk_newg {w : World} {g : Nat} {cs : Array Value} {t : TypeId} (hg : g = w.heap.size) : Blk (w.alloc (.cells cs t)) g cs t := by
  subst hg
  exact Blk.new w cs t

set_option maxRecDepth 100000 in
set_option maxHeartbeats 4000000 in
theorem sgn_any (g : Nat) (t : ByteArray) (a : Nat) (w : World) (hr : Rd w g t a) (ha : a ≤ t.size) (ht : t.size ≤ 1000000) (hF : w.rangeAt 0 0 sgL) :
    Calls Tryz.prog 81 #[.pointer (some ⟨g, 0, none⟩)] w (GotP g t a w (signT (t.data.toList.drop a))) := by
  obtain ⟨l, hl⟩ : ∃ l, t.data.toList.drop a = l := ⟨_, rfl⟩
  have hlen : a + l.length = t.size := by rw [← hl, List.length_drop, lsz]; omega
  have hrest := fun (w' : World) (hb : Below w.heap.size w w') => rest_any g t a w' (hr.below hb) ha ht
  have hsign := fun (w' : World) (hb : Below w.heap.size w w') => sign_any (bs l) w' (rng_keep hF hb)
  rw [bs_list] at hsign
  rw [hl] at hrest ⊢
  have hgl := hr.lt
  have hneT : g ≠ w.heap.size := by omega
  have tN : ∀ n, Blk ((w.alloc (.cells (kcs zeroK) 79)).drewN n) w.heap.size (kcs zeroK) 79 := fun n => Blk.drewN (Blk.new w _ _) n
  have bN : ∀ n, Below w.heap.size w ((w.alloc (.cells (kcs zeroK) 79)).drewN n) := fun n => bl_drewN bel1
  have kN : ∀ n, ((w.alloc (.cells (kcs zeroK) 79)).drewN n).heap.size = w.heap.size + 1 := fun n => by show (w.alloc _).heap.size = _; simp
  have HL := Lib.hid hl
  have HR := Lib.hid hr
  clear hl hr hF
  unfold signT
  cases hsf : signF l with
  | none =>
    rw [hsf] at hsign
    clear hsf
    go_enter Tryz.func81, Tryz.ntmps81
    go_wp2_with (first | (go_at_call 75; refine (hrest _ (by repeat (first | (with_reducible exact Below.refl _ _) | (with_reducible assumption) | with_reducible apply bl_alloc | with_reducible apply bl_drew | with_reducible apply bl_drewN))).mono ?_; rintro e w1 ⟨rfl, n1, rfl⟩) | (go_at_call 135; refine (hsign _ (by repeat (first | (with_reducible exact Below.refl _ _) | (with_reducible assumption) | with_reducible apply bl_alloc | with_reducible apply bl_drew | with_reducible apply bl_drewN))).mono ?_; rintro e w2 ⟨rfl, rfl⟩; rw [Option.getD_none, Option.isSome_none]; refine Hid.out ?_))
    refine Lib.hid ?_
    have bW := bN n1
    have tW := tN n1
    generalize ((w.alloc (.cells (kcs zeroK) 79)).drewN n1) = W at bW tW ⊢
    have sv := run_stK (t := zeroK) tW
    have BW := Lib.hid bW
    have TW := Lib.hid tW
    clear bW tW bN tN kN hrest hsign
    go_wp2
    refine bodyPost_ret (res_K rfl _ _ w.heap.size zeroK _ rfl rfl (TW.out.row _)) rfl ?_
    exact ⟨rfl, a, HL.out.symm, ha, (HR.out.below BW.out).row _ hneT, (GB.of BW.out).row _ (Nat.le_refl _)⟩
  | some s =>
    have hsl : s.length ≤ l.length := by
      unfold signF at hsf
      have := List.find?_some hsf
      unfold Lib.hasPrefix at this
      exact (List.isPrefixOf_iff_prefix.1 this).length_le
    rw [hsf] at hsign
    obtain ⟨u, hu⟩ : ∃ u, bs s = u := ⟨_, rfl⟩
    have huz : u.size = s.length := by rw [← hu, bs_size]
    rw [Option.getD_some, Option.isSome_some, hu] at hsign
    have HU := Lib.hid hu
    have HZ := Lib.hid huz
    have hai : (a : Int) ≤ 1000000 := by omega
    have hsi : (u.size : Int) ≤ 1000000 := by omega
    clear hsf hu huz
    go_enter Tryz.func81, Tryz.ntmps81
    go_wp2_with (first | (go_at_call 75; refine (hrest _ (by repeat (first | (with_reducible exact Below.refl _ _) | (with_reducible assumption) | with_reducible apply bl_alloc | with_reducible apply bl_drew | with_reducible apply bl_drewN))).mono ?_; rintro e w1 ⟨rfl, n1, rfl⟩) | (go_at_call 135; refine (hsign _ (by repeat (first | (with_reducible exact Below.refl _ _) | (with_reducible assumption) | with_reducible apply bl_alloc | with_reducible apply bl_drew | with_reducible apply bl_drewN))).mono ?_; rintro e w2 ⟨rfl, rfl⟩; refine Hid.out ?_))
    refine Lib.hid ?_
    have bW := bN n1
    have tW := tN n1
    have kW := kN n1
    generalize ((w.alloc (.cells (kcs zeroK) 79)).drewN n1) = W at bW tW kW ⊢
    have rW := HR.out.below bW
    have c1 := rW.c1
    have f1 := rW.f1
    have hgW := rW.lt
    have c1a : ∀ o, (W.alloc o).cell? ⟨g, 1, none⟩ = some (.int .i64 (a : Int)) := fun o => (rW.below bel1).c1
    have f1a : ∀ o, (W.alloc o).frozen? ⟨g, 1, none⟩ = false := fun o => (rW.below bel1).f1
    have sn := run_stKg W W.heap.size ⟨5, a, 0, u⟩ zeroK rfl
    have lv := run_ldK (blk_newg (w := W.setCell ⟨g, 1, none⟩ (.int .i64 ((a : Int) + u.size))) (g := W.heap.size) (cs := kcs ⟨5, a, 0, u⟩) (t := 79) (by simp [World.setCell]))
    have tX : Blk ((W.setCell ⟨g, 1, none⟩ (.int .i64 ((a : Int) + u.size))).alloc (.cells (kcs ⟨5, a, 0, u⟩) 79)) w.heap.size (kcs zeroK) 79 := (tW.other _ _ (by simpa using hneT.symm)).old _
    have sv := run_stK (t := ⟨5, a, 0, u⟩) tX
    rw [kW] at sn lv
    have BW := Lib.hid bW
    have TX := Lib.hid tX
    have RW := Lib.hid rW
    clear bW tW bN tN kN hrest hsign tX rW
    go_wp2
    refine bodyPost_ret (res_K rfl _ _ w.heap.size ⟨5, a, 0, u⟩ _ rfl rfl (TX.out.row _)) rfl ?_
    refine ⟨by rw [← HU.out]; rfl, a + u.size, ?_, by have := HZ.out; omega, ?_, ?_⟩
    · rw [← HL.out, List.drop_drop, HZ.out]
    · exact (((RW.out.set (by omega)).below bel1)).row _ hneT
    · exact (((GB.of BW.out).trans (GB.set _ _ _)).trans (GB.of bel1)).row _ (Nat.le_refl _)
end Go.Proofs.YtkknglmpdmhhjaaGreatDoor.Lx
