/-
  The walk of the law ScopeNear.
-/
import Derived.Test.YtglnihecgjfkiaaScNear
namespace Go.Proofs.Ytglnihecgjfkiaa.Sc
open Go Go.RowKit Go.Maps
set_option linter.unusedVariables false
set_option linter.unusedSimpArgs false
attribute [local go_sem ↓] ldV stV alV bxV bxP bdV bdP run_eqVV
attribute [local irreducible] vcs pcs
attribute [local go_sem] run_bx run_alV run_bd0 run_bd1 run_stN

/-- The two boxes that a law with two values lays. -/
theorem two_box (w : World) (v x : Vl) {W : World} (hW : (w.alloc (.cells (vcs v) 29)).alloc (.cells (vcs x) 29) = W) : Below w.heap.size w W ∧ Has [(w.heap.size + 1, x), (w.heap.size, v)] W := by
  subst hW
  have q1 := Blk.new w (vcs v) 29
  have q2 := Blk.new (w.alloc (.cells (vcs v) 29)) (vcs x) 29
  have k1 : (w.alloc (.cells (vcs v) 29)).heap.size = w.heap.size + 1 := by simp
  rw [k1] at q2
  exact ⟨((Below.refl _ w).alloc (Nat.le_refl _) _).alloc (by simp) _, ((has_nil _).cons (q1.old _)).cons q2⟩
set_option maxRecDepth 100000 in
set_option maxHeartbeats 4000000 in
theorem lawNear_out (deep at_ : Int) (v x : Vl) (w : World) (h : deep < 1 ∨ 50 < deep ∨ at_ < 0 ∨ deep < at_) : Calls Try.prog 4 #[.int .i64 deep, .int .i64 at_, .agg (vcs v), .agg (vcs x)] w fun e w' => e = .returned (.bool true) ∧ Below w.heap.size w w' := by
  obtain ⟨W, hW⟩ : ∃ W, (w.alloc (.cells (vcs v) 29)).alloc (.cells (vcs x) 29) = W := ⟨_, rfl⟩
  have B0 := Lib.hid (two_box w v x hW).1
  have hal := alive_any W
  by_cases h1 : deep < 1
  · clear h
    go_enter Try.func4, Try.ntmps4
    go_wp2_with (go_at_call 6; refine hal.mono ?_; rintro e w0 ⟨rfl, hb0⟩)
    go_ret
    exact ⟨rfl, B0.out.trans (hb0.mono B0.out.size)⟩
  have d1 : decide (deep < 1) = false := by simp; omega
  by_cases h2 : 50 < deep
  · clear h h1
    go_enter Try.func4, Try.ntmps4
    go_wp2_with (go_at_call 6; refine hal.mono ?_; rintro e w0 ⟨rfl, hb0⟩)
    go_ret
    exact ⟨rfl, B0.out.trans (hb0.mono B0.out.size)⟩
  have d2 : decide (50 < deep) = false := by simp; omega
  by_cases h3 : at_ < 0
  · clear h h1 h2
    go_enter Try.func4, Try.ntmps4
    go_wp2_with (go_at_call 6; refine hal.mono ?_; rintro e w0 ⟨rfl, hb0⟩)
    go_ret
    exact ⟨rfl, B0.out.trans (hb0.mono B0.out.size)⟩
  have d3 : decide (at_ < 0) = false := by simp; omega
  have h4 : deep < at_ := by omega
  clear h h1 h2 h3
  go_enter Try.func4, Try.ntmps4
  go_wp2_with (go_at_call 6; refine hal.mono ?_; rintro e w0 ⟨rfl, hb0⟩)
  go_ret
  exact ⟨rfl, B0.out.trans (hb0.mono B0.out.size)⟩
theorem near_meas {n k deep : Nat} (hk : n + 1 = k) (h : n < deep) : deep - (intOf (.int .i64 (k : Int))).toNat < deep - (intOf (.int .i64 (n : Int))).toNat := by
  show deep - ((k : Int)).toNat < deep - ((n : Int)).toNat
  omega
theorem near_rel {n k k2 deep : Nat} {P : Nat → Prop} (hk : n + 1 = k) (hk2 : n + 2 = k2) (h : n < deep) (hq : wrap64 ((k : Int) + 1) = (k2 : Int)) (hP : P k) : ∃ m : Nat, m ≤ deep ∧ Value.int .i64 (k : Int) = .int .i64 (m : Int) ∧ Value.int .i64 (wrap64 ((k : Int) + 1)) = .int .i64 ((m + 1 : Nat) : Int) ∧ P m :=
  ⟨k, by omega, rfl, by rw [hq]; congr 1; omega, hP⟩
set_option maxRecDepth 100000 in
set_option maxHeartbeats 4000000 in
theorem lawNear_main (deep at_ : Nat) (v x : Vl) (w : World) (h1 : 1 ≤ deep) (h2 : deep ≤ 50) (h4 : at_ ≤ deep) : Calls Try.prog 4 #[.int .i64 deep, .int .i64 at_, .agg (vcs v), .agg (vcs x)] w fun e w' => e = .returned (.bool true) ∧ Below w.heap.size w w' := by
  obtain ⟨W, hW⟩ : ∃ W, (w.alloc (.cells (vcs v) 29)).alloc (.cells (vcs x) 29) = W := ⟨_, rfl⟩
  have B0 := Lib.hid (two_box w v x hW).1
  have X0 := Lib.hid (two_box w v x hW).2
  have hal := alive_any W
  have d1 : decide ((deep : Int) < 1) = false := by simp; omega
  have d2 : decide (50 < (deep : Int)) = false := by simp; omega
  have d3 : decide ((at_ : Int) < 0) = false := by simp
  have d4 : decide ((deep : Int) < at_) = false := by simp; omega
  have d5 : decide (deep < at_) = false := by simp; omega
  have H1 := Lib.hid h1
  have H2 := Lib.hid h2
  have H4 := Lib.hid h4
  clear h1 h2 h4
  go_enter Try.func4, Try.ntmps4
  go_wp2_with (go_at_call 6; refine hal.mono ?_; rintro e w0 ⟨rfl, hb0⟩; refine Hid.out ?_)
  refine Lib.hid ?_
  have x1 := X0.out.call hb0
  have HB := Lib.hid (B0.out.trans (hb0.mono B0.out.size))
  have hnew := g_new x1
  clear hal hb0 hW x1
  go_wp2_with (go_at_call 7; refine hnew.mono ?_; rintro e w1 ⟨hb, rfl, g1⟩; refine Hid.out ?_)
  refine Lib.hid ?_
  have e1 : letF S0 0 sa false = (true, [⟨-1, [⟨sa, false, false, zeroV⟩]⟩]) := rfl
  have c1 := g1.let 0 fine_a false lim0 (by omega)
  rw [e1] at c1
  clear g1 hnew e1
  go_wp2_with (go_at_call 9; refine c1.mono ?_; rintro e w2 ⟨rfl, g2⟩; refine Hid.out ?_)
  refine Lib.hid ?_
  have e2 : beginF [⟨-1, [⟨sa, false, false, zeroV⟩]⟩] 0 sa v = (true, [⟨-1, [⟨sa, false, true, v⟩]⟩]) := rfl
  have c2 := g2.begin 0 fine_a v
  rw [e2, ← ca_start v at_] at c2
  have l2 := run_ldV (g2.has (w.heap.size, v) (by simp))
  clear g2 c1 e2
  go_wp2_with (go_at_call 13; refine c2.mono ?_; rintro e w3 ⟨rfl, g3⟩; refine Hid.out ?_)
  refine Lib.hid ?_
  have HG := Lib.hid g3
  clear g3 c2 l2
  go_wp2
  go_loopw [11, 12] (fun e i wr => ∃ n : Nat, n ≤ deep ∧ e = .int .i64 n ∧ i = .int .i64 (n + 1 : Nat) ∧ G w0 hb (CA v at_ n) [(w.heap.size + 1, x), (w.heap.size, v)] wr) (fun e i _ => deep - (intOf e).toNat)
  case atStart => exact ⟨0, Nat.zero_le _, rfl, rfl, HG.out⟩
  case round =>
    obtain ⟨n, hn, rfl, rfl, g⟩ := hrel
    by_cases hlt : n < deep
    · have q1 : ((n + 1 : Nat) : Int) ≤ deep := by omega
      have q2 : wrap64 (((n + 1 : Nat) : Int) + 1) = ((n + 2 : Nat) : Int) := by have := H2.out; unfold wrap64; omega
      have hmk := g.make n (ca_lim v at_ n) (by have := H2.out; omega)
      obtain ⟨k, hk⟩ : ∃ k : Nat, n + 1 = k := ⟨_, rfl⟩
      obtain ⟨k2, hk2⟩ : ∃ k2 : Nat, n + 2 = k2 := ⟨_, rfl⟩
      rw [hk, hk2] at q2
      rw [hk] at q1 ⊢
      have HQ := Lib.hid q2
      have HK := Lib.hid hk
      have HK2 := Lib.hid hk2
      have HL := Lib.hid hlt
      by_cases ha : n + 1 = at_
      · rw [ca_make v ha, hk] at hmk
        have q3 : ((k : Int) == (at_ : Int)) = true := by simp; omega
        have q4 : (k == at_) = true := by simp; omega
        have HA := Lib.hid ha
        clear ha hlt hn g hk hk2
        go_wp2_with (go_at_call 10; refine hmk.mono ?_; rintro e w4 ⟨rfl, g4⟩; refine Hid.out ?_)
        refine Lib.hid ?_
        have e4 := ca_let v HA.out
        rw [HK.out] at e4
        have c4 := g4.let k fine_a false (chain_lim _ k (fA_len v at_ (by simp))) (by have := HK.out; have := HL.out; have := H2.out; omega)
        rw [e4] at c4
        clear g4 hmk e4
        go_wp2_with (go_at_call 9; refine c4.mono ?_; rintro e w5 ⟨rfl, g5⟩; refine Hid.out ?_)
        refine Lib.hid ?_
        have G5 := Lib.hid g5
        clear g5 c4
        go_wp2
        go_roundw
        case rel => exact near_rel HK.out HK2.out HL.out HQ.out G5.out
        case measure => exact near_meas HK.out HL.out
      · rw [ca_else v ha, hk] at hmk
        have q3 : ((k : Int) == (at_ : Int)) = false := by simp; omega
        have q4 : (k == at_) = false := by simp; omega
        clear ha hlt hn g hk hk2
        go_wp2_with (go_at_call 10; refine hmk.mono ?_; rintro e w4 ⟨rfl, g4⟩; refine Hid.out ?_)
        refine Lib.hid ?_
        have G5 := Lib.hid g4
        clear g4 hmk
        go_wp2
        go_roundw
        case rel => exact near_rel HK.out HK2.out HL.out HQ.out G5.out
        case measure => exact near_meas HK.out HL.out
    · obtain rfl : n = deep := by omega
      have q1 : decide (((n + 1 : Nat) : Int) ≤ (n : Int)) = false := by simp; omega
      obtain ⟨k, hk⟩ : ∃ k : Nat, n + 1 = k := ⟨_, rfl⟩
      rw [hk] at q1 ⊢
      have q2 : decide (k ≤ n) = false := by simp; omega
      have HK := Lib.hid hk
      have cg := g.get n fine_a
      by_cases ha : at_ = 0
      · subst ha
        rw [ca_get0] at cg
        clear hn hlt hk g HG
        go_wp2_with (go_at_call 15; refine cg.mono ?_; rintro e w4 ⟨rfl, g4⟩; refine Hid.out ?_)
        refine Lib.hid ?_
        have g5 := g4.new v
        have m1 := run_ldV (g5.has (w4.heap.size, v) (by simp))
        have m2 := run_ldV (g5.has (w.heap.size, v) (by simp))
        have m3 := run_ldV (g5.has (w.heap.size + 1, x) (by simp))
        have c5 := g5.set n fine_a x
        rw [ca_set0] at c5
        clear g4 g5 cg
        go_wp2_with (go_at_call 17; refine c5.mono ?_; rintro e w6 ⟨rfl, g6⟩; refine Hid.out ?_)
        refine Lib.hid ?_
        have HE := Lib.hid (HB.out.trans (g6.bel.mono HB.out.size))
        clear g6 c5
        go_wp2
        go_ret
        exact ⟨rfl, HE.out⟩
      · have r1 : ((at_ : Int) == 0) = false := by simp; omega
        have r2 : (at_ == 0) = false := by simp; omega
        rw [ca_get v ha H4.out] at cg
        have HA := Lib.hid ha
        clear hn hlt hk g HG ha
        go_wp2_with (go_at_call 15; refine cg.mono ?_; rintro e w4 ⟨rfl, g4⟩; refine Hid.out ?_)
        refine Lib.hid ?_
        have g5 := g4.new zeroV
        have m3 := run_ldV (g5.has (w.heap.size + 1, x) (by simp))
        have c5 := g5.begin at_ fine_a x
        rw [ca_begin v x HA.out H4.out] at c5
        clear g4 g5 cg
        go_wp2_with (go_at_call 13; refine c5.mono ?_; rintro e w6 ⟨rfl, g6⟩; refine Hid.out ?_)
        refine Lib.hid ?_
        have c6 := g6.get n fine_a
        rw [ca_get1 v x HA.out H4.out] at c6
        clear g6 c5 m3
        go_wp2_with (go_at_call 15; refine c6.mono ?_; rintro e w7 ⟨rfl, g7⟩; refine Hid.out ?_)
        refine Lib.hid ?_
        have g8 := g7.new x
        have m4 := run_ldV (g8.has (w.heap.size, v) (by simp))
        have c8 := g8.set n fine_a v
        rw [ca_set1 v x HA.out H4.out] at c8
        clear g7 g8 c6
        go_wp2_with (go_at_call 17; refine c8.mono ?_; rintro e w9 ⟨rfl, g9⟩; refine Hid.out ?_)
        refine Lib.hid ?_
        have c9 := g9.get 0 fine_a
        rw [ca_get2] at c9
        clear g9 c8 m4
        go_wp2_with (go_at_call 15; refine c9.mono ?_; rintro e wa ⟨rfl, ga⟩; refine Hid.out ?_)
        refine Lib.hid ?_
        have gb := ga.new v
        have m1 := run_ldV (gb.has (wa.heap.size, v) (by simp))
        have m2 := run_ldV (gb.has (w.heap.size, v) (by simp))
        have m3 := run_ldV (gb.has (w.heap.size + 1, x) (by simp))
        have m4 := run_ldV (gb.has (w7.heap.size, x) (by simp))
        have HE := Lib.hid (HB.out.trans (gb.bel.mono HB.out.size))
        clear ga gb c9
        go_wp2
        go_ret
        exact ⟨rfl, HE.out⟩
theorem lawNear_walk (deep at_ : Int) (v x : Vl) (w : World) : Calls Try.prog 4 #[.int .i64 deep, .int .i64 at_, .agg (vcs v), .agg (vcs x)] w fun e w' => e = .returned (.bool true) ∧ Below w.heap.size w w' := by
  by_cases h : deep < 1 ∨ 50 < deep ∨ at_ < 0 ∨ deep < at_
  · exact lawNear_out deep at_ v x w h
  · obtain ⟨d, rfl⟩ : ∃ d : Nat, deep = d := ⟨deep.toNat, by omega⟩
    obtain ⟨a, rfl⟩ : ∃ a : Nat, at_ = a := ⟨at_.toNat, by omega⟩
    exact lawNear_main d a v x w (by omega) (by omega) (by omega)
end Go.Proofs.Ytglnihecgjfkiaa.Sc
