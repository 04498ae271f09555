/-
  Fail: a new error is thrown.
-/
import Derived.Test.YtoakiejpmcgdjaaGreatDoorMoCreate
namespace Go.Proofs.YtoakiejpmcgdjaaGreatDoor.Mo
open Go Go.RowKit Go.Maps Go.Shelf Go.Proofs.YtoakiejpmcgdjaaGreatDoor.Keys Go.Proofs.YtoakiejpmcgdjaaGreatDoor.Hp Go.Proofs.YtoakiejpmcgdjaaGreatDoor.Rg
set_option linter.unusedVariables false
set_option linter.unusedSimpArgs false
attribute [local go_sem ↓] ldR stR alR bxR bdR ldV stV alV bxV bdV bdT bdE bdD bsE
attribute [local irreducible] rcs dcs ecs vcs tcs
attribute [local go_sem] run_bx run_alR run_alV run_bdR0 run_bdR1 run_bdV0 run_bdV3 run_bdTn run_bdRt run_stVg run_stRg
structure FailI (X : Nat → Prop) (base wb N : Nat) (w w1 : World) (tv ov : Vl) (dd : Ds) (ee : En) (L : Array Bool) (x0 x1 x2 x3 x4 x5 x6 x7 x8 x9 x10 x11 x12 x13 x14 x15 x16 x17 x18 x19 x20 x21 x22 x23 x24 x25 : Value) (W : World) : Prop where
  k0 : x0 = ptr wb
  k4 : x4 = ptr N
  k5 : x5 = ptr (N + 1)
  m1 : Stay X w1 W
  m2 : Below base w W
  m3 : L.getD 7 false = false → Below w1.heap.size w1 W
  h0 : L.getD 0 false = true → x11 = ptr wb
  h1 : L.getD 1 false = true → x12 = .agg (vcs ⟨1, 0, ⟨#[]⟩⟩)
  h2 : L.getD 2 false = true → x13 = .agg #[.string ⟨#[110, 97, 109, 101]⟩, .int .i64 0]
  h3 : L.getD 3 false = true → x14 = .agg (vcs tv)
  h4 : L.getD 4 false = true → x15 = .agg (dcs dd)
  h5 : L.getD 5 false = true → x16 = .agg (ecs ee)
  h6 : L.getD 6 false = true → ∃ g, x17 = .slice (some ⟨g, 0, none⟩) 1 1 ∧ w1.heap.size ≤ g ∧ Blk W g (ecs ee) 83
  h7 : L.getD 7 false = true → x18 = .tuple #[.agg (vcs ov), .agg (rcs zeroR)]
  h8 : L.getD 8 false = true → x10 = .tuple #[.agg (vcs ov), .agg (rcs zeroR)]
  h9 : L.getD 9 false = true → x19 = .agg (vcs ov)
  h10 : L.getD 10 false = true → x20 = .agg (rcs zeroR)
  h11 : L.getD 11 false = true → ∃ b, x6 = ptr b ∧ w1.heap.size ≤ b ∧ ∃ o, Blk W b (vcs o) 30
  h12 : L.getD 12 false = true → ∃ b, x7 = ptr b ∧ w1.heap.size ≤ b ∧ ∃ o, Blk W b (rcs o) 35
  h13 : L.getD 13 false = true → ∃ b, x6 = ptr b ∧ w1.heap.size ≤ b ∧ Blk W b (vcs ov) 30
  h14 : L.getD 14 false = true → ∃ b, x7 = ptr b ∧ w1.heap.size ≤ b ∧ Blk W b (rcs zeroR) 35
set_option maxRecDepth 100000 in
set_option maxHeartbeats 4000000 in
theorem fail_run (X : Nat → Prop) (base wb : Nat) (k : Int) (nm : ByteArray) (w : World) (hX : ∀ b, w.heap.size ≤ b → ¬ X b) (hbase : base ≤ w.heap.size)
    (hcr : ∀ W g, Below (w.heap.size + 2) (((w.alloc (.cells (rcs zeroR) 35)).alloc (.cells (vcs ⟨4, 0, nm⟩) 30)).drew) W → Blk W g (ecs ⟨⟨#[110, 97, 109, 101]⟩, 0, dataD ⟨4, 0, nm⟩ true false true⟩) 83 → w.heap.size + 2 ≤ g →
      Calls Tryz.prog 29 #[ptr wb, .int .i64 5, .agg (vcs ⟨1, 0, ⟨#[]⟩⟩), .slice (some ⟨g, 0, none⟩) 1 1] W fun e W' => e = .returned (.tuple #[.agg (vcs ⟨6, k, ⟨#[]⟩⟩), .agg (rcs zeroR)]) ∧ Below base W W' ∧ Stay X W W') :
    Calls Tryz.prog 20 #[ptr wb, .string nm] w fun e w' => e = .returned (.agg (rcs (thrownR ⟨6, k, ⟨#[]⟩⟩))) ∧ Below base w w' ∧ Stay X w w' := by
  obtain ⟨w1, hw1⟩ : ∃ w1, ((w.alloc (.cells (rcs zeroR) 35)).alloc (.cells (vcs ⟨4, 0, nm⟩) 30)) = w1 := ⟨_, rfl⟩
  have k1 : w1.heap.size = w.heap.size + 2 := by rw [← hw1]; simp
  have b1 : Below w.heap.size w w1 := by rw [← hw1]; exact ((Below.refl _ w).alloc (Nat.le_refl _) _).alloc (by simp) _
  have htN : Blk w1.drew w.heap.size (rcs zeroR) 35 := by rw [← hw1]; exact (Blk.new w _ _).old _
  have htv : Blk w1.drew (w.heap.size + 1) (vcs ⟨4, 0, nm⟩) 30 := by rw [← hw1]; exact blk_newg (by simp)
  rw [hw1] at hcr
  obtain ⟨tv, htve⟩ : ∃ tv : Vl, tv = ⟨4, 0, nm⟩ := ⟨_, rfl⟩
  obtain ⟨dd, hdd⟩ : ∃ dd, dd = dataD tv true false true := ⟨_, rfl⟩
  obtain ⟨ee, hee⟩ : ∃ ee : En, ee = ⟨⟨#[110, 97, 109, 101]⟩, 0, dd⟩ := ⟨_, rfl⟩
  obtain ⟨ov, hov⟩ : ∃ ov : Vl, ov = ⟨6, k, ⟨#[]⟩⟩ := ⟨_, rfl⟩
  rw [← hov, ← htve, ← hdd, ← hee, ← k1] at hcr
  rw [← htve] at htv
  rw [← hov]
  clear hov
  have hbase1 : base ≤ w1.heap.size := by omega
  have hX1 : ∀ b, w1.heap.size ≤ b → ¬ X b := fun b hb => hX b (by omega)
  go_enter Tryz.func20, Tryz.ntmps20
  go_wp2
  refine region_inv (by kernel_rfl) (fun L a W => ∃ x0 x1 x2 x3 x4 x5 x6 x7 x8 x9 x10 x11 x12 x13 x14 x15 x16 x17 x18 x19 x20 x21 x22 x23 x24 x25 : Value, a = { tmps := #[x0, x1, x2, x3, x4, x5, x6, x7, x8, x9, x10, x11, x12, x13, x14, x15, x16, x17, x18, x19, x20, x21, x22, x23, x24, x25], defers := [] } ∧ FailI X base wb w.heap.size w w1.drew tv ov dd ee L x0 x1 x2 x3 x4 x5 x6 x7 x8 x9 x10 x11 x12 x13 x14 x15 x16 x17 x18 x19 x20 x21 x22 x23 x24 x25 W) (by kernel_rfl) ?start ?step ?done
  case start => exact ⟨_, _, _, _, _, _, _, _, _, _, _, _, _, _, _, _, _, _, _, _, _, _, _, _, _, _, rfl, ⟨rfl, rfl, rfl, Stay.refl _ _, b1.drew.mono hbase, fun _ => Below.refl _ _, fun h => by simp [Array.getD_eq_getD_getElem?] at h, fun h => by simp [Array.getD_eq_getD_getElem?] at h, fun h => by simp [Array.getD_eq_getD_getElem?] at h, fun h => by simp [Array.getD_eq_getD_getElem?] at h, fun h => by simp [Array.getD_eq_getD_getElem?] at h, fun h => by simp [Array.getD_eq_getD_getElem?] at h, fun h => by simp [Array.getD_eq_getD_getElem?] at h, fun h => by simp [Array.getD_eq_getD_getElem?] at h, fun h => by simp [Array.getD_eq_getD_getElem?] at h, fun h => by simp [Array.getD_eq_getD_getElem?] at h, fun h => by simp [Array.getD_eq_getD_getElem?] at h, fun h => by simp [Array.getD_eq_getD_getElem?] at h, fun h => by simp [Array.getD_eq_getD_getElem?] at h, fun h => by simp [Array.getD_eq_getD_getElem?] at h, fun h => by simp [Array.getD_eq_getD_getElem?] at h⟩⟩
  case step =>
    intro i L a W hi hdep hL hs hcl hI
    have hi2 : i < 15 := by simpa using hi
    obtain ⟨x0, x1, x2, x3, x4, x5, x6, x7, x8, x9, x10, x11, x12, x13, x14, x15, x16, x17, x18, x19, x20, x21, x22, x23, x24, x25, rfl, H⟩ := hI
    have ol : ∀ j, i ≠ j → (L.setIfInBounds i true).getD j false = true → L.getD j false = true := fun j hj h => by rwa [getD_set hj] at h
    rcases (by omega : i = 0 ∨ i = 1 ∨ i = 2 ∨ i = 3 ∨ i = 4 ∨ i = 5 ∨ i = 6 ∨ i = 7 ∨ i = 8 ∨ i = 9 ∨ i = 10 ∨ i = 11 ∨ i = 12 ∨ i = 13 ∨ i = 14) with rfl | rfl | rfl | rfl | rfl | rfl | rfl | rfl | rfl | rfl | rfl | rfl | rfl | rfl | rfl
    · clear hi hi2
      have e := H.k0
      subst e
      have ol7 : (L.setIfInBounds 0 true).getD 7 false = false → L.getD 7 false = false := fun h => by rwa [getD_set (by decide)] at h
      exact step_run (i := 0) (w' := W) (v := ptr wb) rfl rfl (by simp [execOp, Act.eval, go_sem]) ⟨_, _, _, _, _, _, _, _, _, _, _, _, _, _, _, _, _, _, _, _, _, _, _, _, _, _, rfl, ⟨(H.k0), (H.k4), (H.k5), (H.m1), (H.m2), (fun h => H.m3 (ol7 h)), (fun _ => rfl), (fun h => H.h1 (ol 1 (by decide) h)), (fun h => H.h2 (ol 2 (by decide) h)), (fun h => H.h3 (ol 3 (by decide) h)), (fun h => H.h4 (ol 4 (by decide) h)), (fun h => H.h5 (ol 5 (by decide) h)), (fun h => H.h6 (ol 6 (by decide) h)), (fun h => H.h7 (ol 7 (by decide) h)), (fun h => H.h8 (ol 8 (by decide) h)), (fun h => H.h9 (ol 9 (by decide) h)), (fun h => H.h10 (ol 10 (by decide) h)), (fun h => H.h11 (ol 11 (by decide) h)), (fun h => H.h12 (ol 12 (by decide) h)), (fun h => H.h13 (ol 13 (by decide) h)), (fun h => H.h14 (ol 14 (by decide) h))⟩⟩
    · clear hi hi2
      have ol7 : (L.setIfInBounds 1 true).getD 7 false = false → L.getD 7 false = false := fun h => by rwa [getD_set (by decide)] at h
      have hsz : base ≤ W.heap.size := Nat.le_trans hbase1 H.m1.size
      refine step_call (i := 1) (f := 30) (args := #[]) rfl rfl (by simp [execOp, Act.eval, go_sem]) (null_any W) ?_
      rintro e W2 ⟨rfl, hb⟩
      exact ⟨_, rfl, ⟨_, _, _, _, _, _, _, _, _, _, _, _, _, _, _, _, _, _, _, _, _, _, _, _, _, _, rfl, ⟨(H.k0), (H.k4), (H.k5), (H.m1.call hb), (H.m2.trans (hb.mono hsz)), (fun h => (H.m3 (ol7 h)).trans (hb.mono H.m1.size)), (fun h => H.h0 (ol 0 (by decide) h)), (fun _ => rfl), (fun h => H.h2 (ol 2 (by decide) h)), (fun h => H.h3 (ol 3 (by decide) h)), (fun h => H.h4 (ol 4 (by decide) h)), (fun h => H.h5 (ol 5 (by decide) h)), (fun h => let ⟨g, q1, q2, q3⟩ := H.h6 (ol 6 (by decide) h); ⟨g, q1, q2, q3.call hb⟩), (fun h => H.h7 (ol 7 (by decide) h)), (fun h => H.h8 (ol 8 (by decide) h)), (fun h => H.h9 (ol 9 (by decide) h)), (fun h => H.h10 (ol 10 (by decide) h)), (fun h => let ⟨g, q1, q2, o, q3⟩ := H.h11 (ol 11 (by decide) h); ⟨g, q1, q2, o, q3.call hb⟩), (fun h => let ⟨g, q1, q2, o, q3⟩ := H.h12 (ol 12 (by decide) h); ⟨g, q1, q2, o, q3.call hb⟩), (fun h => let ⟨g, q1, q2, q3⟩ := H.h13 (ol 13 (by decide) h); ⟨g, q1, q2, q3.call hb⟩), (fun h => let ⟨g, q1, q2, q3⟩ := H.h14 (ol 14 (by decide) h); ⟨g, q1, q2, q3.call hb⟩)⟩⟩⟩
    · clear hi hi2
      have ol7 : (L.setIfInBounds 2 true).getD 7 false = false → L.getD 7 false = false := fun h => by rwa [getD_set (by decide)] at h
      exact step_run (i := 2) (w' := W) (v := .agg #[.string ⟨#[110, 97, 109, 101]⟩, .int .i64 0]) rfl rfl (by simp [execOp, Act.eval, go_sem]) ⟨_, _, _, _, _, _, _, _, _, _, _, _, _, _, _, _, _, _, _, _, _, _, _, _, _, _, rfl, ⟨(H.k0), (H.k4), (H.k5), (H.m1), (H.m2), (fun h => H.m3 (ol7 h)), (fun h => H.h0 (ol 0 (by decide) h)), (fun h => H.h1 (ol 1 (by decide) h)), (fun _ => rfl), (fun h => H.h3 (ol 3 (by decide) h)), (fun h => H.h4 (ol 4 (by decide) h)), (fun h => H.h5 (ol 5 (by decide) h)), (fun h => H.h6 (ol 6 (by decide) h)), (fun h => H.h7 (ol 7 (by decide) h)), (fun h => H.h8 (ol 8 (by decide) h)), (fun h => H.h9 (ol 9 (by decide) h)), (fun h => H.h10 (ol 10 (by decide) h)), (fun h => H.h11 (ol 11 (by decide) h)), (fun h => H.h12 (ol 12 (by decide) h)), (fun h => H.h13 (ol 13 (by decide) h)), (fun h => H.h14 (ol 14 (by decide) h))⟩⟩
    · clear hi hi2
      have e := H.k5
      subst e
      have ol7 : (L.setIfInBounds 3 true).getD 7 false = false → L.getD 7 false = false := fun h => by rwa [getD_set (by decide)] at h
      have lv := run_ldVp (H.m1.blk htv (hX _ (by omega)))
      exact step_run (i := 3) (w' := W) (v := .agg (vcs tv)) rfl rfl (by simp [execOp, Act.eval, go_sem, lv]) ⟨_, _, _, _, _, _, _, _, _, _, _, _, _, _, _, _, _, _, _, _, _, _, _, _, _, _, rfl, ⟨(H.k0), (H.k4), (H.k5), (H.m1), (H.m2), (fun h => H.m3 (ol7 h)), (fun h => H.h0 (ol 0 (by decide) h)), (fun h => H.h1 (ol 1 (by decide) h)), (fun h => H.h2 (ol 2 (by decide) h)), (fun _ => rfl), (fun h => H.h4 (ol 4 (by decide) h)), (fun h => H.h5 (ol 5 (by decide) h)), (fun h => H.h6 (ol 6 (by decide) h)), (fun h => H.h7 (ol 7 (by decide) h)), (fun h => H.h8 (ol 8 (by decide) h)), (fun h => H.h9 (ol 9 (by decide) h)), (fun h => H.h10 (ol 10 (by decide) h)), (fun h => H.h11 (ol 11 (by decide) h)), (fun h => H.h12 (ol 12 (by decide) h)), (fun h => H.h13 (ol 13 (by decide) h)), (fun h => H.h14 (ol 14 (by decide) h))⟩⟩
    · clear hi hi2
      have e14 := H.h3 (hdep 3 (memOf (by kernel_rfl)))
      subst e14
      have ol7 : (L.setIfInBounds 4 true).getD 7 false = false → L.getD 7 false = false := fun h => by rwa [getD_set (by decide)] at h
      have hsz : base ≤ W.heap.size := Nat.le_trans hbase1 H.m1.size
      refine step_call (i := 4) (f := 31) (args := #[.agg (vcs tv), .bool true, .bool false, .bool true]) rfl rfl (by simp [execOp, Act.eval, go_sem]) (data_anyv tv true false true W) ?_
      rintro e W2 ⟨rfl, hb⟩
      exact ⟨_, rfl, ⟨_, _, _, _, _, _, _, _, _, _, _, _, _, _, _, _, _, _, _, _, _, _, _, _, _, _, rfl, ⟨(H.k0), (H.k4), (H.k5), (H.m1.call hb), (H.m2.trans (hb.mono hsz)), (fun h => (H.m3 (ol7 h)).trans (hb.mono H.m1.size)), (fun h => H.h0 (ol 0 (by decide) h)), (fun h => H.h1 (ol 1 (by decide) h)), (fun h => H.h2 (ol 2 (by decide) h)), (fun h => H.h3 (ol 3 (by decide) h)), (fun _ => by rw [hdd]), (fun h => H.h5 (ol 5 (by decide) h)), (fun h => let ⟨g, q1, q2, q3⟩ := H.h6 (ol 6 (by decide) h); ⟨g, q1, q2, q3.call hb⟩), (fun h => H.h7 (ol 7 (by decide) h)), (fun h => H.h8 (ol 8 (by decide) h)), (fun h => H.h9 (ol 9 (by decide) h)), (fun h => H.h10 (ol 10 (by decide) h)), (fun h => let ⟨g, q1, q2, o, q3⟩ := H.h11 (ol 11 (by decide) h); ⟨g, q1, q2, o, q3.call hb⟩), (fun h => let ⟨g, q1, q2, o, q3⟩ := H.h12 (ol 12 (by decide) h); ⟨g, q1, q2, o, q3.call hb⟩), (fun h => let ⟨g, q1, q2, q3⟩ := H.h13 (ol 13 (by decide) h); ⟨g, q1, q2, q3.call hb⟩), (fun h => let ⟨g, q1, q2, q3⟩ := H.h14 (ol 14 (by decide) h); ⟨g, q1, q2, q3.call hb⟩)⟩⟩⟩
    · clear hi hi2
      have e13 := H.h2 (hdep 2 (memOf (by kernel_rfl)))
      have e15 := H.h4 (hdep 4 (memOf (by kernel_rfl)))
      subst e13
      subst e15
      have ol7 : (L.setIfInBounds 5 true).getD 7 false = false → L.getD 7 false = false := fun h => by rwa [getD_set (by decide)] at h
      have hbd := run_bdEn W ⟨#[110, 97, 109, 101]⟩ 0 dd
      rw [← hee] at hbd
      exact step_run (i := 5) (w' := W) (v := .agg (ecs ee)) rfl rfl (by simp [execOp, Act.eval, go_sem, hbd]) ⟨_, _, _, _, _, _, _, _, _, _, _, _, _, _, _, _, _, _, _, _, _, _, _, _, _, _, rfl, ⟨(H.k0), (H.k4), (H.k5), (H.m1), (H.m2), (fun h => H.m3 (ol7 h)), (fun h => H.h0 (ol 0 (by decide) h)), (fun h => H.h1 (ol 1 (by decide) h)), (fun h => H.h2 (ol 2 (by decide) h)), (fun h => H.h3 (ol 3 (by decide) h)), (fun h => H.h4 (ol 4 (by decide) h)), (fun _ => rfl), (fun h => H.h6 (ol 6 (by decide) h)), (fun h => H.h7 (ol 7 (by decide) h)), (fun h => H.h8 (ol 8 (by decide) h)), (fun h => H.h9 (ol 9 (by decide) h)), (fun h => H.h10 (ol 10 (by decide) h)), (fun h => H.h11 (ol 11 (by decide) h)), (fun h => H.h12 (ol 12 (by decide) h)), (fun h => H.h13 (ol 13 (by decide) h)), (fun h => H.h14 (ol 14 (by decide) h))⟩⟩
    · clear hi hi2
      have e16 := H.h5 (hdep 5 (memOf (by kernel_rfl)))
      subst e16
      have ol7 : (L.setIfInBounds 6 true).getD 7 false = false → L.getD 7 false = false := fun h => by rwa [getD_set (by decide)] at h
      have hsz : base ≤ W.heap.size := Nat.le_trans hbase1 H.m1.size
      have hb : Below W.heap.size W (W.alloc (.cells (ecs ee) 83)) := (Below.refl _ W).alloc (Nat.le_refl _) _
      have hbs := run_bsE W ee
      exact step_run (i := 6) (w' := (W.alloc (.cells (ecs ee) 83))) (v := .slice (some ⟨W.heap.size, 0, none⟩) 1 1) rfl rfl (by simp [execOp, Act.eval, go_sem, hbs]) ⟨_, _, _, _, _, _, _, _, _, _, _, _, _, _, _, _, _, _, _, _, _, _, _, _, _, _, rfl, ⟨(H.k0), (H.k4), (H.k5), (H.m1.call hb), (H.m2.trans (hb.mono hsz)), (fun h => (H.m3 (ol7 h)).trans (hb.mono H.m1.size)), (fun h => H.h0 (ol 0 (by decide) h)), (fun h => H.h1 (ol 1 (by decide) h)), (fun h => H.h2 (ol 2 (by decide) h)), (fun h => H.h3 (ol 3 (by decide) h)), (fun h => H.h4 (ol 4 (by decide) h)), (fun h => H.h5 (ol 5 (by decide) h)), (fun _ => ⟨_, rfl, H.m1.size, Blk.new W _ _⟩), (fun h => H.h7 (ol 7 (by decide) h)), (fun h => H.h8 (ol 8 (by decide) h)), (fun h => H.h9 (ol 9 (by decide) h)), (fun h => H.h10 (ol 10 (by decide) h)), (fun h => let ⟨g, q1, q2, o, q3⟩ := H.h11 (ol 11 (by decide) h); ⟨g, q1, q2, o, q3.call hb⟩), (fun h => let ⟨g, q1, q2, o, q3⟩ := H.h12 (ol 12 (by decide) h); ⟨g, q1, q2, o, q3.call hb⟩), (fun h => let ⟨g, q1, q2, q3⟩ := H.h13 (ol 13 (by decide) h); ⟨g, q1, q2, q3.call hb⟩), (fun h => let ⟨g, q1, q2, q3⟩ := H.h14 (ol 14 (by decide) h); ⟨g, q1, q2, q3.call hb⟩)⟩⟩
    · clear hi hi2
      have e11 := H.h0 (hdep 0 (memOf (by kernel_rfl)))
      have e12 := H.h1 (hdep 1 (memOf (by kernel_rfl)))
      have e17 := H.h6 (hdep 6 (memOf (by kernel_rfl)))
      subst e11
      subst e12
      obtain ⟨g, rfl, hg1, hg2⟩ := e17
      have hsz : base ≤ W.heap.size := Nat.le_trans hbase1 H.m1.size
      have h7 := getD_no hL
      refine step_call (i := 7) (f := 29) (args := #[ptr wb, .int .i64 5, .agg (vcs ⟨1, 0, ⟨#[]⟩⟩), .slice (some ⟨g, 0, none⟩) 1 1]) rfl rfl (by simp [execOp, Act.eval, go_sem]) (hcr W g (H.m3 h7) hg2 hg1) ?_
      rintro e W2 ⟨rfl, hb, hst⟩
      exact ⟨_, rfl, ⟨_, _, _, _, _, _, _, _, _, _, _, _, _, _, _, _, _, _, _, _, _, _, _, _, _, _, rfl, ⟨(H.k0), (H.k4), (H.k5), (H.m1.trans hst), (H.m2.trans hb), (fun h => by rw [getD_same (by rw [hs]; simp)] at h; cases h), (fun h => H.h0 (ol 0 (by decide) h)), (fun h => H.h1 (ol 1 (by decide) h)), (fun h => H.h2 (ol 2 (by decide) h)), (fun h => H.h3 (ol 3 (by decide) h)), (fun h => H.h4 (ol 4 (by decide) h)), (fun h => H.h5 (ol 5 (by decide) h)), (fun h => let ⟨g, q1, q2, q3⟩ := H.h6 (ol 6 (by decide) h); ⟨g, q1, q2, hst.blk q3 (hX1 _ q2)⟩), (fun _ => rfl), (fun h => H.h8 (ol 8 (by decide) h)), (fun h => H.h9 (ol 9 (by decide) h)), (fun h => H.h10 (ol 10 (by decide) h)), (fun h => let ⟨g, q1, q2, o, q3⟩ := H.h11 (ol 11 (by decide) h); ⟨g, q1, q2, o, hst.blk q3 (hX1 _ q2)⟩), (fun h => let ⟨g, q1, q2, o, q3⟩ := H.h12 (ol 12 (by decide) h); ⟨g, q1, q2, o, hst.blk q3 (hX1 _ q2)⟩), (fun h => let ⟨g, q1, q2, q3⟩ := H.h13 (ol 13 (by decide) h); ⟨g, q1, q2, hst.blk q3 (hX1 _ q2)⟩), (fun h => let ⟨g, q1, q2, q3⟩ := H.h14 (ol 14 (by decide) h); ⟨g, q1, q2, hst.blk q3 (hX1 _ q2)⟩)⟩⟩⟩
    · clear hi hi2
      have e18 := H.h7 (hdep 7 (memOf (by kernel_rfl)))
      subst e18
      have ol7 : (L.setIfInBounds 8 true).getD 7 false = false → L.getD 7 false = false := fun h => by rwa [getD_set (by decide)] at h
      exact step_run (i := 8) (w' := W) (v := .tuple #[.agg (vcs ov), .agg (rcs zeroR)]) rfl rfl (by simp [execOp, Act.eval, go_sem]) ⟨_, _, _, _, _, _, _, _, _, _, _, _, _, _, _, _, _, _, _, _, _, _, _, _, _, _, rfl, ⟨(H.k0), (H.k4), (H.k5), (H.m1), (H.m2), (fun h => H.m3 (ol7 h)), (fun h => H.h0 (ol 0 (by decide) h)), (fun h => H.h1 (ol 1 (by decide) h)), (fun h => H.h2 (ol 2 (by decide) h)), (fun h => H.h3 (ol 3 (by decide) h)), (fun h => H.h4 (ol 4 (by decide) h)), (fun h => H.h5 (ol 5 (by decide) h)), (fun h => H.h6 (ol 6 (by decide) h)), (fun h => H.h7 (ol 7 (by decide) h)), (fun _ => rfl), (fun h => H.h9 (ol 9 (by decide) h)), (fun h => H.h10 (ol 10 (by decide) h)), (fun h => H.h11 (ol 11 (by decide) h)), (fun h => H.h12 (ol 12 (by decide) h)), (fun h => H.h13 (ol 13 (by decide) h)), (fun h => H.h14 (ol 14 (by decide) h))⟩⟩
    · clear hi hi2
      have e10 := H.h8 (hdep 8 (memOf (by kernel_rfl)))
      subst e10
      have ol7 : (L.setIfInBounds 9 true).getD 7 false = false → L.getD 7 false = false := fun h => by rwa [getD_set (by decide)] at h
      exact step_run (i := 9) (w' := W) (v := .agg (vcs ov)) rfl rfl (by simp [execOp, Act.eval, go_sem]) ⟨_, _, _, _, _, _, _, _, _, _, _, _, _, _, _, _, _, _, _, _, _, _, _, _, _, _, rfl, ⟨(H.k0), (H.k4), (H.k5), (H.m1), (H.m2), (fun h => H.m3 (ol7 h)), (fun h => H.h0 (ol 0 (by decide) h)), (fun h => H.h1 (ol 1 (by decide) h)), (fun h => H.h2 (ol 2 (by decide) h)), (fun h => H.h3 (ol 3 (by decide) h)), (fun h => H.h4 (ol 4 (by decide) h)), (fun h => H.h5 (ol 5 (by decide) h)), (fun h => H.h6 (ol 6 (by decide) h)), (fun h => H.h7 (ol 7 (by decide) h)), (fun h => H.h8 (ol 8 (by decide) h)), (fun _ => rfl), (fun h => H.h10 (ol 10 (by decide) h)), (fun h => H.h11 (ol 11 (by decide) h)), (fun h => H.h12 (ol 12 (by decide) h)), (fun h => H.h13 (ol 13 (by decide) h)), (fun h => H.h14 (ol 14 (by decide) h))⟩⟩
    · clear hi hi2
      have e10 := H.h8 (hdep 8 (memOf (by kernel_rfl)))
      subst e10
      have ol7 : (L.setIfInBounds 10 true).getD 7 false = false → L.getD 7 false = false := fun h => by rwa [getD_set (by decide)] at h
      exact step_run (i := 10) (w' := W) (v := .agg (rcs zeroR)) rfl rfl (by simp [execOp, Act.eval, go_sem]) ⟨_, _, _, _, _, _, _, _, _, _, _, _, _, _, _, _, _, _, _, _, _, _, _, _, _, _, rfl, ⟨(H.k0), (H.k4), (H.k5), (H.m1), (H.m2), (fun h => H.m3 (ol7 h)), (fun h => H.h0 (ol 0 (by decide) h)), (fun h => H.h1 (ol 1 (by decide) h)), (fun h => H.h2 (ol 2 (by decide) h)), (fun h => H.h3 (ol 3 (by decide) h)), (fun h => H.h4 (ol 4 (by decide) h)), (fun h => H.h5 (ol 5 (by decide) h)), (fun h => H.h6 (ol 6 (by decide) h)), (fun h => H.h7 (ol 7 (by decide) h)), (fun h => H.h8 (ol 8 (by decide) h)), (fun h => H.h9 (ol 9 (by decide) h)), (fun _ => rfl), (fun h => H.h11 (ol 11 (by decide) h)), (fun h => H.h12 (ol 12 (by decide) h)), (fun h => H.h13 (ol 13 (by decide) h)), (fun h => H.h14 (ol 14 (by decide) h))⟩⟩
    · clear hi hi2
      have ol7 : (L.setIfInBounds 11 true).getD 7 false = false → L.getD 7 false = false := fun h => by rwa [getD_set (by decide)] at h
      have hsz : base ≤ W.heap.size := Nat.le_trans hbase1 H.m1.size
      have hb : Below W.heap.size W (W.alloc (.cells (vcs zeroV) 30)) := (Below.refl _ W).alloc (Nat.le_refl _) _
      exact step_run (i := 11) (w' := (W.alloc (.cells (vcs zeroV) 30))) (v := ptr W.heap.size) rfl rfl (by simp [execOp, Act.eval, go_sem]) ⟨_, _, _, _, _, _, _, _, _, _, _, _, _, _, _, _, _, _, _, _, _, _, _, _, _, _, rfl, ⟨(H.k0), (H.k4), (H.k5), (H.m1.call hb), (H.m2.trans (hb.mono hsz)), (fun h => (H.m3 (ol7 h)).trans (hb.mono H.m1.size)), (fun h => H.h0 (ol 0 (by decide) h)), (fun h => H.h1 (ol 1 (by decide) h)), (fun h => H.h2 (ol 2 (by decide) h)), (fun h => H.h3 (ol 3 (by decide) h)), (fun h => H.h4 (ol 4 (by decide) h)), (fun h => H.h5 (ol 5 (by decide) h)), (fun h => let ⟨g, q1, q2, q3⟩ := H.h6 (ol 6 (by decide) h); ⟨g, q1, q2, q3.call hb⟩), (fun h => H.h7 (ol 7 (by decide) h)), (fun h => H.h8 (ol 8 (by decide) h)), (fun h => H.h9 (ol 9 (by decide) h)), (fun h => H.h10 (ol 10 (by decide) h)), (fun _ => ⟨_, rfl, H.m1.size, _, Blk.new W _ _⟩), (fun h => let ⟨g, q1, q2, o, q3⟩ := H.h12 (ol 12 (by decide) h); ⟨g, q1, q2, o, q3.call hb⟩), (fun h => (not_yet hL (hcl 13 (by simp) (ol 13 (by decide) h) 11 (memOf (by kernel_rfl)))).elim), (fun h => let ⟨g, q1, q2, q3⟩ := H.h14 (ol 14 (by decide) h); ⟨g, q1, q2, q3.call hb⟩)⟩⟩
    · clear hi hi2
      have ol7 : (L.setIfInBounds 12 true).getD 7 false = false → L.getD 7 false = false := fun h => by rwa [getD_set (by decide)] at h
      have hsz : base ≤ W.heap.size := Nat.le_trans hbase1 H.m1.size
      have hb : Below W.heap.size W (W.alloc (.cells (rcs zeroR) 35)) := (Below.refl _ W).alloc (Nat.le_refl _) _
      exact step_run (i := 12) (w' := (W.alloc (.cells (rcs zeroR) 35))) (v := ptr W.heap.size) rfl rfl (by simp [execOp, Act.eval, go_sem]) ⟨_, _, _, _, _, _, _, _, _, _, _, _, _, _, _, _, _, _, _, _, _, _, _, _, _, _, rfl, ⟨(H.k0), (H.k4), (H.k5), (H.m1.call hb), (H.m2.trans (hb.mono hsz)), (fun h => (H.m3 (ol7 h)).trans (hb.mono H.m1.size)), (fun h => H.h0 (ol 0 (by decide) h)), (fun h => H.h1 (ol 1 (by decide) h)), (fun h => H.h2 (ol 2 (by decide) h)), (fun h => H.h3 (ol 3 (by decide) h)), (fun h => H.h4 (ol 4 (by decide) h)), (fun h => H.h5 (ol 5 (by decide) h)), (fun h => let ⟨g, q1, q2, q3⟩ := H.h6 (ol 6 (by decide) h); ⟨g, q1, q2, q3.call hb⟩), (fun h => H.h7 (ol 7 (by decide) h)), (fun h => H.h8 (ol 8 (by decide) h)), (fun h => H.h9 (ol 9 (by decide) h)), (fun h => H.h10 (ol 10 (by decide) h)), (fun h => let ⟨g, q1, q2, o, q3⟩ := H.h11 (ol 11 (by decide) h); ⟨g, q1, q2, o, q3.call hb⟩), (fun _ => ⟨_, rfl, H.m1.size, _, Blk.new W _ _⟩), (fun h => let ⟨g, q1, q2, q3⟩ := H.h13 (ol 13 (by decide) h); ⟨g, q1, q2, q3.call hb⟩), (fun h => (not_yet hL (hcl 14 (by simp) (ol 14 (by decide) h) 12 (memOf (by kernel_rfl)))).elim)⟩⟩
    · clear hi hi2
      have e19 := H.h9 (hdep 9 (memOf (by kernel_rfl)))
      have e6 := H.h11 (hdep 11 (memOf (by kernel_rfl)))
      subst e19
      obtain ⟨b, rfl, hb1, o, hb2⟩ := e6
      have n7 : (L.setIfInBounds 13 true).getD 7 false = false → False := fun h => by rw [getD_set (by decide), hdep 7 (memOf (by kernel_rfl))] at h; cases h
      have sv := run_stVp (v := ov) hb2
      exact step_sk (i := 13) (w' := (W.setRow b (vcs ov))) rfl rfl (by simp [execOp, Act.eval, go_sem, sv]) ⟨_, _, _, _, _, _, _, _, _, _, _, _, _, _, _, _, _, _, _, _, _, _, _, _, _, _, rfl, ⟨(H.k0), (H.k4), (H.k5), (H.m1.row _ hb1), (below_row H.m2 _ (Nat.le_trans hbase1 hb1)), (fun h => (n7 h).elim), (fun h => H.h0 (ol 0 (by decide) h)), (fun h => H.h1 (ol 1 (by decide) h)), (fun h => H.h2 (ol 2 (by decide) h)), (fun h => H.h3 (ol 3 (by decide) h)), (fun h => H.h4 (ol 4 (by decide) h)), (fun h => H.h5 (ol 5 (by decide) h)), (fun h => let ⟨g, q1, q2, q3⟩ := H.h6 (ol 6 (by decide) h); ⟨g, q1, q2, q3.row_other _ (ne_blk q3 hb2 (by decide))⟩), (fun h => H.h7 (ol 7 (by decide) h)), (fun h => H.h8 (ol 8 (by decide) h)), (fun h => H.h9 (ol 9 (by decide) h)), (fun h => H.h10 (ol 10 (by decide) h)), (fun _ => ⟨b, rfl, hb1, ov, hb2.row _⟩), (fun h => let ⟨g, q1, q2, o, q3⟩ := H.h12 (ol 12 (by decide) h); ⟨g, q1, q2, o, q3.row_other _ (ne_blk q3 hb2 (by decide))⟩), (fun _ => ⟨b, rfl, hb1, hb2.row _⟩), (fun h => let ⟨g, q1, q2, q3⟩ := H.h14 (ol 14 (by decide) h); ⟨g, q1, q2, q3.row_other _ (ne_blk q3 hb2 (by decide))⟩)⟩⟩
    · clear hi hi2
      have e20 := H.h10 (hdep 10 (memOf (by kernel_rfl)))
      have e7 := H.h12 (hdep 12 (memOf (by kernel_rfl)))
      subst e20
      obtain ⟨b, rfl, hb1, o, hb2⟩ := e7
      have n7 : (L.setIfInBounds 14 true).getD 7 false = false → False := fun h => by rw [getD_set (by decide), hdep 7 (memOf (by kernel_rfl))] at h; cases h
      have sv := run_stRp hb2 zeroR_good
      exact step_sk (i := 14) (w' := (W.setRow b (rcs zeroR))) rfl rfl (by simp [execOp, Act.eval, go_sem, sv]) ⟨_, _, _, _, _, _, _, _, _, _, _, _, _, _, _, _, _, _, _, _, _, _, _, _, _, _, rfl, ⟨(H.k0), (H.k4), (H.k5), (H.m1.row _ hb1), (below_row H.m2 _ (Nat.le_trans hbase1 hb1)), (fun h => (n7 h).elim), (fun h => H.h0 (ol 0 (by decide) h)), (fun h => H.h1 (ol 1 (by decide) h)), (fun h => H.h2 (ol 2 (by decide) h)), (fun h => H.h3 (ol 3 (by decide) h)), (fun h => H.h4 (ol 4 (by decide) h)), (fun h => H.h5 (ol 5 (by decide) h)), (fun h => let ⟨g, q1, q2, q3⟩ := H.h6 (ol 6 (by decide) h); ⟨g, q1, q2, q3.row_other _ (ne_blk q3 hb2 (by decide))⟩), (fun h => H.h7 (ol 7 (by decide) h)), (fun h => H.h8 (ol 8 (by decide) h)), (fun h => H.h9 (ol 9 (by decide) h)), (fun h => H.h10 (ol 10 (by decide) h)), (fun h => let ⟨g, q1, q2, o, q3⟩ := H.h11 (ol 11 (by decide) h); ⟨g, q1, q2, o, q3.row_other _ (ne_blk q3 hb2 (by decide))⟩), (fun _ => ⟨b, rfl, hb1, _, hb2.row _⟩), (fun h => let ⟨g, q1, q2, q3⟩ := H.h13 (ol 13 (by decide) h); ⟨g, q1, q2, q3.row_other _ (ne_blk q3 hb2 (by decide))⟩), (fun _ => ⟨b, rfl, hb1, hb2.row _⟩)⟩⟩
  case done =>
    rintro L a W hall ⟨x0, x1, x2, x3, x4, x5, x6, x7, x8, x9, x10, x11, x12, x13, x14, x15, x16, x17, x18, x19, x20, x21, x22, x23, x24, x25, rfl, H⟩
    obtain ⟨b6, e6, hb6, B6⟩ := H.h13 (hall 13 (by simp))
    obtain ⟨b7, e7, hb7, B7⟩ := H.h14 (hall 14 (by simp))
    have e0 := H.k0
    have e4 := H.k4
    have e5 := H.k5
    subst e6 e7 e0 e4 e5
    have BN := Lib.hid (H.m1.blk htN (hX _ (Nat.le_refl _)))
    have HM1 := Lib.hid H.m1
    have HM2 := Lib.hid H.m2
    have HB6 := Lib.hid B6
    have lr := run_ldRp B7
    have HB1 := Lib.hid b1
    have HBASE := Lib.hid hbase
    clear H B6 B7 htN htv hcr b1 hb6 hb7 hall hX hX1 hbase hbase1 hw1
    go_wp2_with (go_at_call 32; refine (abrupt_any zeroR false rfl _).mono ?_; rintro e w2 ⟨rfl, hb⟩; have lv := run_ldVp (HB6.out.call hb); have sv := run_stRp (BN.out.call hb) (thrownR_good ov); have HB := Lib.hid hb; clear hb)
    have hs1 := HM1.out.size
    refine bodyPost_ret (res_R rfl _ _ w.heap.size _ rfl ((BN.out.call HB.out).row _)) rfl ⟨rfl, ?_, ?_⟩
    · exact below_row (HM2.out.trans (HB.out.mono (Nat.le_trans HBASE.out HM2.out.size))) _ HBASE.out
    · exact (((show Stay X w w1.drew from ⟨HB1.out.size, fun b hb _ => HB1.out.block b hb⟩).trans HM1.out).call HB.out).row _ (Nat.le_refl _)
end Go.Proofs.YtoakiejpmcgdjaaGreatDoor.Mo
