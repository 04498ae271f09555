/-
  Has without arguments throws; alive.
-/
import Derived.Test.YtoakiejpmcgdjaaGreatDoorRfCall
namespace Go.Proofs.YtoakiejpmcgdjaaGreatDoor.Mo
open Go Go.RowKit Go.Maps Go.Shelf Go.Proofs.YtoakiejpmcgdjaaGreatDoor.Keys Go.Proofs.YtoakiejpmcgdjaaGreatDoor.Hp
set_option linter.unusedVariables false
set_option linter.unusedSimpArgs false
set_option maxRecDepth 100000
attribute [local go_sem ↓] ldR stR alR bxR bdR ldV stV alV bxV bdV ldC stC alC bxC bdC
attribute [local irreducible] rcs dcs ecs vcs tcs ccs zeroC
attribute [local go_sem] run_bx run_alR run_alV run_bdR0 run_bdR1 run_bdV0 run_stVg run_stRg run_alC run_bdC run_stCg
set_option maxHeartbeats 4000000 in
theorem call_none (base wb hb : Nat) (cl : Value) (f d p q : Int) (lg : Value) (R : Int) (w : World) (hw : Blk w wb (wcs hb cl f d p q lg) 44) (hh : Blk w hb (hp R nilS 0) 57) (hR : 0 < R) (hbase : base ≤ hb) :
    Calls Tryz.prog 9 #[ptr wb, .int .i64 7, .slice none 0 0] w fun e w' => e = .returned (.agg (rcs (thrownR ⟨6, 0, ⟨#[]⟩⟩))) ∧ Below base w w' := by
  obtain ⟨w1, hw1⟩ : ∃ w1, (w.alloc (.cells (rcs zeroR) 35)).alloc (.cells (ccs wb 7 .nilIface) 49) = w1 := ⟨_, rfl⟩
  have k1 : w1.heap.size = w.heap.size + 2 := by rw [← hw1]; simp
  have b1 : Below w.heap.size w w1 := by rw [← hw1]; exact ((Below.refl _ w).alloc (Nat.le_refl _) _).alloc (by simp) _
  have x0 : Blk w1 w.heap.size (rcs zeroR) 35 := by rw [← hw1]; exact (Blk.new w _ _).old _
  have x1 : Blk w1 (w.heap.size + 1) (ccs wb 7 .nilIface) 49 := by rw [← hw1]; exact blk_newg (by simp)
  have hlt := hh.lt
  have lc := run_ldCp x1
  have HW := Lib.hid (hw.call b1)
  have HH := Lib.hid (hh.call b1)
  have B1 := Lib.hid b1
  have X0 := Lib.hid x0
  have X1 := Lib.hid x1
  clear hw hh b1 x0 x1
  go_enter Tryz.func9, Tryz.ntmps9
  go_wp2_with (first | (go_at_call 13; refine (arg_none wb 7 .nilIface 0 w1).mono ?_; rintro e w2 ⟨rfl, hb2⟩; have HB2 := Lib.hid hb2; clear hb2) | (go_at_call 12; refine (objectOf_none wb zeroV rfl w2).mono ?_; rintro e w3 ⟨rfl, hb3⟩; refine Hid.out ?_))
  refine Lib.hid ?_
  have b23 : Below w1.heap.size w1 w3 := HB2.out.trans (hb3.mono HB2.out.size)
  have x3 := X1.out.call b23
  obtain ⟨w4, hw4⟩ : ∃ w4, w3.setCell ⟨w.heap.size + 1, 2, none⟩ .nilIface = w4 := ⟨_, rfl⟩
  have x4 : Blk w4 (w.heap.size + 1) (ccs wb 7 .nilIface) 49 := by rw [← hw4, ← ccs_set2 wb 7 .nilIface .nilIface]; exact x3.set 2 .nilIface
  have c3 : w3.cell? ⟨w.heap.size + 1, 2, none⟩ = some .nilIface := (x3.cell 2).trans (ccs_2 _ _ _)
  have f3 := x3.frozen 2
  have hne : wb ≠ w.heap.size + 1 := ne_blk (HW.out.call b23) x3 (by decide)
  have HW4 := Lib.hid (show Blk w4 wb (wcs hb cl f d p q lg) 44 from by rw [← hw4]; exact (HW.out.call b23).other ⟨w.heap.size + 1, 2, none⟩ .nilIface hne)
  have HH4 := Lib.hid (show Blk w4 hb (hp R nilS 0) 57 from by rw [← hw4]; exact (HH.out.call b23).other ⟨w.heap.size + 1, 2, none⟩ .nilIface (by show hb ≠ w.heap.size + 1; omega))
  have X04 := Lib.hid (show Blk w4 w.heap.size (rcs zeroR) 35 from by rw [← hw4]; exact (X0.out.call b23).other ⟨w.heap.size + 1, 2, none⟩ .nilIface (by show w.heap.size ≠ w.heap.size + 1; omega))
  have X4 := Lib.hid x4
  have B4 := Lib.hid (show Below w.heap.size w w4 from by rw [← hw4]; exact (B1.out.trans (b23.mono B1.out.size)).setCell (p := ⟨w.heap.size + 1, 2, none⟩) (by show w.heap.size ≤ w.heap.size + 1; omega) _)
  have ht := rtrap_any 7 w4
  rw [trapS_7] at ht
  clear b23 x3 x4 hb3 lc
  go_wp2_with (first | (go_at_call 5; refine ht.mono ?_; rintro e w5 ⟨rfl, hb5⟩; have HB5 := Lib.hid hb5; have x5 := X4.out.call hb5; have lc := run_ldCp x5; have c5 : w5.cell? ⟨w.heap.size + 1, 2, none⟩ = some .nilIface := (x5.cell 2).trans (ccs_2 _ _ _); have hcf := cfail_new base wb hb 7 .nilIface cl f d p q lg R w5 (HW4.out.call hb5) (HH4.out.call hb5) hR hbase; clear hb5 x5) | (go_at_call 14; refine (can_none 7 w5).mono ?_; rintro e w6 ⟨rfl, rfl⟩) | (go_at_call 15; refine hcf.mono ?_; rintro e w7 ⟨rfl, hb7, hs7⟩; have y7 := hs7.blk (X04.out.call HB5.out) (by omega); have sv := run_stRp y7 (thrownR_good ⟨6, 0, ⟨#[]⟩⟩); have Y7 := Lib.hid y7; have HB7 := Lib.hid hb7; have HS7 := Lib.hid hs7; clear y7 hb7 hs7))
  have hs4 := B4.out.size
  refine bodyPost_ret (res_R rfl _ _ w.heap.size _ rfl (Y7.out.row _)) rfl ⟨rfl, ?_⟩
  exact below_row (((B4.out.mono (by omega)).trans (HB5.out.mono (by omega))).trans HB7.out) _ (by omega)
set_option maxHeartbeats 4000000 in
theorem alive_any (w : World) : Calls Tryz.prog 4 #[] w fun e w' => e = .returned (.bool true) ∧ Below w.heap.size w w' := by
  have ht := fun w => rtrap_any 7 w
  rw [trapS_7] at ht
  go_enter Tryz.func4, Tryz.ntmps4
  go_wp2_with (go_at_call 8; refine (newW_any 10 10 10 w).mono ?_; rintro e w1 ⟨wb, hb, rfl, hw, hh, q1, q2, hb1⟩; refine Hid.out ?_)
  refine Lib.hid ?_
  have hc := call_none w.heap.size wb hb .nilIface (max 10 0) (min (max 10 0) 1000) 0 0 nilS 10 w1 hw hh (by omega) q2
  have HB1 := Lib.hid hb1
  clear hw hh hb1
  go_wp2_with (go_at_call 9; refine hc.mono ?_; rintro e w2 ⟨rfl, hb2⟩; refine Hid.out ?_)
  refine Lib.hid ?_
  obtain ⟨r, hr⟩ : ∃ r, r = thrownR ⟨6, 0, ⟨#[]⟩⟩ := ⟨_, rfl⟩
  have hfl : r.flow = 1 := by rw [hr]; rfl
  have hgd : r.good := by rw [hr]; exact thrownR_good _
  rw [← hr]
  have sv := run_stRn w2 r zeroR hgd
  have c0 : (w2.alloc (.cells (rcs r) 35)).cell? ⟨w2.heap.size, 0, none⟩ = some (.int .i64 1) := by rw [← hfl]; exact ((Blk.new w2 (rcs r) 35).cell 0).trans (rcs_0 r)
  have B2 := Lib.hid (HB1.out.trans hb2)
  clear hr hc hb2 hgd hfl
  go_wp2_with (go_at_call 5; refine (ht _).mono ?_; rintro e w3 ⟨rfl, hb3⟩; have HB3 := Lib.hid hb3; clear hb3)
  go_ret
  exact ⟨rfl, (B2.out.alloc B2.out.size _).trans (HB3.out.mono (by have := B2.out.size; simp; omega))⟩
set_option maxHeartbeats 4000000 in
theorem lawNames_walk (m : Int) (w : World) : Calls Tryz.prog 3 #[.int .i64 m] w fun e w' => e = .returned (.bool true) ∧ Below w.heap.size w w' := by
  obtain ⟨s, hs⟩ : ∃ s, s = trapS m := ⟨_, rfl⟩
  have h1 := fun w => rtrap_any m w
  have h2 := fun w => ref_any m w
  have h3 := fun w => rname_any m w
  rw [← hs] at h1 h2 h3
  clear hs
  have he : (s.toList == s.toList) = true := by simp
  go_enter Tryz.func3, Tryz.ntmps3
  go_wp2_with (go_at_call 4; refine (alive_any w).mono ?_; rintro e w1 ⟨rfl, hb1⟩; refine Hid.out ?_)
  refine Lib.hid ?_
  have B1 := Lib.hid hb1
  clear hb1
  go_wp2_with (go_at_call 5; refine (h1 _).mono ?_; rintro e w2 ⟨rfl, hb2⟩; have B2 := Lib.hid (B1.out.trans (hb2.mono B1.out.size)); clear hb2; refine Hid.out ?_)
  refine Lib.hid ?_
  go_wp2_with (go_at_call 6; refine (h2 _).mono ?_; rintro e w3 ⟨rfl, hb3⟩; have B3 := Lib.hid (B2.out.trans (hb3.mono B2.out.size)); clear hb3; refine Hid.out ?_)
  refine Lib.hid ?_
  go_wp2_with (go_at_call 7; refine (h3 _).mono ?_; rintro e w4 ⟨rfl, hb4⟩; have B4 := Lib.hid (B3.out.trans (hb4.mono B3.out.size)); clear hb4; refine Hid.out ?_)
  refine Lib.hid ?_
  go_wp2_with (go_at_call 6; refine (h2 _).mono ?_; rintro e w5 ⟨rfl, hb5⟩; have B5 := Lib.hid (B4.out.trans (hb5.mono B4.out.size)); clear hb5)
  go_ret
  exact ⟨rfl, B5.out⟩
end Go.Proofs.YtoakiejpmcgdjaaGreatDoor.Mo
