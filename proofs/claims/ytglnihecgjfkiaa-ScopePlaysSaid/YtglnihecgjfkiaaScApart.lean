/-
  The walk of the law ScopeApart.
-/
import Derived.Test.YtglnihecgjfkiaaScAlive
namespace Go.Proofs.Ytglnihecgjfkiaa.Sc
open Go Go.RowKit Go.Maps
set_option linter.unusedVariables false
set_option linter.unusedSimpArgs false
attribute [local go_sem ↓] ldV stV alV bxV bxP bdV bdP run_eqVV
attribute [local irreducible] vcs pcs
attribute [local go_sem] run_bx run_alV run_bd0 run_bd1 run_stN

theorem fine_o : Fine ⟨#[111]⟩ := by unfold Fine maxLen; decide
theorem fine_n : Fine ⟨#[110]⟩ := by unfold Fine maxLen; decide
abbrev so : ByteArray := ⟨#[111]⟩
abbrev sn : ByteArray := ⟨#[110]⟩
abbrev S0 : List Sco := [⟨-1, []⟩]
abbrev S1 (fx : Bool) : List Sco := [⟨-1, [⟨so, fx, false, zeroV⟩]⟩]
abbrev S2 (fx : Bool) (v : Vl) : List Sco := [⟨-1, [⟨so, fx, true, v⟩]⟩]
abbrev S3 (fx : Bool) (v : Vl) : List Sco := [⟨-1, [⟨so, fx, true, v⟩]⟩, ⟨0, []⟩]
abbrev S4 (fx : Bool) (v : Vl) : List Sco := [⟨-1, [⟨so, fx, true, v⟩]⟩, ⟨0, []⟩, ⟨0, []⟩]
abbrev S5 (fx : Bool) (v : Vl) : List Sco := [⟨-1, [⟨so, fx, true, v⟩]⟩, ⟨0, [⟨sn, false, false, zeroV⟩]⟩, ⟨0, []⟩]
abbrev S6 (fx : Bool) (v x : Vl) : List Sco := [⟨-1, [⟨so, fx, true, v⟩]⟩, ⟨0, [⟨sn, false, true, x⟩]⟩, ⟨0, []⟩]
theorem lim_let {n : Nat} {S T : List Sco} {env : Int} {s : ByteArray} {fx r : Bool} (h : Lim n S) (e : letF S env s fx = (r, T)) : Lim (n + 1) T := by
  have := h.let env s fx
  rw [e] at this
  exact this
theorem lim_begin {n : Nat} {S T : List Sco} {env : Int} {s : ByteArray} {v : Vl} {r : Bool} (h : Lim n S) (e : beginF S env s v = (r, T)) : Lim n T := by
  have := h.begin env s v
  rw [e] at this
  exact this
theorem lim_make {n : Nat} {S T : List Sco} {p r : Int} (h : Lim n S) (e : makeF S p = (r, T)) : Lim (n + 1) T := by
  have := h.make p
  rw [e] at this
  exact this
/-- What y is, and what Set answers. -/
def gA (fx : Bool) : Int := if fx then 3 else 0
def yA (fx : Bool) (v x : Vl) : Vl := if fx then v else x
set_option maxRecDepth 100000 in
set_option maxHeartbeats 4000000 in
theorem lawApart_walk (v x : Vl) (fx : Bool) (w : World) : Calls Try.prog 5 #[.agg (vcs v), .agg (vcs x), .bool fx] w fun e w' => e = .returned (.bool true) ∧ Below w.heap.size w w' := by
  obtain ⟨W, hW⟩ : ∃ W, (w.alloc (.cells (vcs v) 29)).alloc (.cells (vcs x) 29) = W := ⟨_, rfl⟩
  have b0 : Below w.heap.size w W := by rw [← hW]; exact ((Below.refl _ w).alloc (Nat.le_refl _) _).alloc (by simp) _
  have x0 : Has [(w.heap.size + 1, x), (w.heap.size, v)] W := by
    have q1 := Blk.new w (vcs v) 29
    have q2 := Blk.new (w.alloc (.cells (vcs v) 29)) (vcs x) 29
    rw [hW] at q2
    have k1 : (w.alloc (.cells (vcs v) 29)).heap.size = w.heap.size + 1 := by simp
    rw [k1] at q2
    exact ((has_nil W).cons (by rw [← hW]; exact q1.old _)).cons q2
  have hal := alive_any W
  have B0 := Lib.hid b0
  have X0 := Lib.hid x0
  clear b0 x0
  go_enter Try.func5, Try.ntmps5
  go_wp2_with (go_at_call 6; refine hal.mono ?_; rintro e w0 ⟨rfl, hb0⟩; refine Hid.out ?_)
  refine Lib.hid ?_
  have x1 := X0.out.call hb0
  have HB := Lib.hid (B0.out.trans (hb0.mono B0.out.size))
  have hnew := g_new x1
  clear hal hb0 hW x1
  go_wp2_with (go_at_call 7; refine hnew.mono ?_; rintro e w1 ⟨hb, rfl, g1⟩; refine Hid.out ?_)
  refine Lib.hid ?_
  have e1 : letF S0 0 so fx = (true, S1 fx) := rfl
  have L1 := Lib.hid (lim_let lim0 e1)
  have c1 := g1.let 0 fine_o fx lim0 (by omega)
  rw [e1] at c1
  clear g1 hnew e1
  go_wp2_with (go_at_call 9; refine c1.mono ?_; rintro e w2 ⟨rfl, g2⟩; refine Hid.out ?_)
  refine Lib.hid ?_
  have e2 : beginF (S1 fx) 0 so v = (true, S2 fx v) := rfl
  have L2 := Lib.hid (lim_begin L1.out e2)
  have c2 := g2.begin 0 fine_o v
  rw [e2] at c2
  have l2 := run_ldV (g2.has (w.heap.size, v) (by simp))
  clear g2 c1 e2
  go_wp2_with (go_at_call 13; refine c2.mono ?_; rintro e w3 ⟨rfl, g3⟩; refine Hid.out ?_)
  refine Lib.hid ?_
  have e3 : makeF (S2 fx v) 0 = (1, S3 fx v) := rfl
  have L3 := Lib.hid (lim_make L2.out e3)
  have c3 := g3.make 0 L2.out (by omega)
  rw [e3] at c3
  clear g3 c2 e3 l2
  go_wp2_with (go_at_call 10; refine c3.mono ?_; rintro e w4 ⟨rfl, g4⟩; refine Hid.out ?_)
  refine Lib.hid ?_
  have e4 : makeF (S3 fx v) 0 = (2, S4 fx v) := rfl
  have L4 := Lib.hid (lim_make L3.out e4)
  have c4 := g4.make 0 L3.out (by omega)
  rw [e4] at c4
  clear g4 c3 e4
  go_wp2_with (go_at_call 10; refine c4.mono ?_; rintro e w5 ⟨rfl, g5⟩; refine Hid.out ?_)
  refine Lib.hid ?_
  have e5 : letF (S4 fx v) 1 sn false = (true, S5 fx v) := rfl
  have L5 := Lib.hid (lim_let L4.out e5)
  have c5 := g5.let 1 fine_n false L4.out (by omega)
  rw [e5] at c5
  clear g5 c4 e5
  go_wp2_with (go_at_call 9; refine c5.mono ?_; rintro e w6 ⟨rfl, g6⟩; refine Hid.out ?_)
  refine Lib.hid ?_
  have e6 : beginF (S5 fx v) 1 sn x = (true, S6 fx v x) := rfl
  have c6 := g6.begin 1 fine_n x
  rw [e6] at c6
  have l6 := run_ldV (g6.has (w.heap.size + 1, x) (by simp))
  clear g6 c5 e6
  go_wp2_with (go_at_call 13; refine c6.mono ?_; rintro e w7 ⟨rfl, g7⟩; refine Hid.out ?_)
  refine Lib.hid ?_
  have e7 : getF (S6 fx v x) 2 sn = (zeroV, 1) := rfl
  have c7 := g7.get 2 fine_n
  rw [e7] at c7
  clear g7 c6 e7 l6
  go_wp2_with (go_at_call 15; refine c7.mono ?_; rintro e w8 ⟨rfl, g8⟩; refine Hid.out ?_)
  refine Lib.hid ?_
  have g8 := g8.new zeroV
  have l8 := run_ldV (g8.has (w.heap.size + 1, x) (by simp))
  cases fx with
  | true =>
    have e8 : setF (S6 true v x) 1 so x = (3, S6 true v x) := rfl
    have c8 := g8.set 1 fine_o x
    rw [e8] at c8
    clear g8 c7 e8
    go_wp2_with (go_at_call 17; refine c8.mono ?_; rintro e w9 ⟨rfl, g9⟩; refine Hid.out ?_)
    refine Lib.hid ?_
    have e9 : getF (S6 true v x) 2 so = (v, 0) := rfl
    have c9 := g9.get 2 fine_o
    rw [e9] at c9
    clear g9 c8 e9 l8
    go_wp2_with (go_at_call 15; refine c9.mono ?_; rintro e wa ⟨rfl, ga⟩; refine Hid.out ?_)
    refine Lib.hid ?_
    have gb := ga.new v
    have m1 := run_ldV (gb.has (wa.heap.size, v) (by simp))
    have m2 := run_ldV (gb.has (w.heap.size, v) (by simp))
    have HE := Lib.hid (HB.out.trans (gb.bel.mono HB.out.size))
    clear ga gb c9
    go_wp2
    go_ret
    exact ⟨rfl, HE.out⟩
  | false =>
    have e8 : setF (S6 false v x) 1 so x = (0, S6 false x x) := rfl
    have c8 := g8.set 1 fine_o x
    rw [e8] at c8
    clear g8 c7 e8
    go_wp2_with (go_at_call 17; refine c8.mono ?_; rintro e w9 ⟨rfl, g9⟩; refine Hid.out ?_)
    refine Lib.hid ?_
    have e9 : getF (S6 false x x) 2 so = (x, 0) := rfl
    have c9 := g9.get 2 fine_o
    rw [e9] at c9
    clear g9 c8 e9 l8
    go_wp2_with (go_at_call 15; refine c9.mono ?_; rintro e wa ⟨rfl, ga⟩; refine Hid.out ?_)
    refine Lib.hid ?_
    have gb := ga.new x
    have m1 := run_ldV (gb.has (wa.heap.size, x) (by simp))
    have m2 := run_ldV (gb.has (w.heap.size + 1, x) (by simp))
    have HE := Lib.hid (HB.out.trans (gb.bel.mono HB.out.size))
    clear ga gb c9
    go_wp2
    go_ret
    exact ⟨rfl, HE.out⟩
end Go.Proofs.Ytglnihecgjfkiaa.Sc
