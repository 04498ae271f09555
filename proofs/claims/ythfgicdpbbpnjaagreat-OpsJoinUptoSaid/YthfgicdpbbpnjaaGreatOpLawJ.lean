/-
  The walk of OpsJoin.
-/
import Derived.Test.YthfgicdpbbpnjaaGreatOpLawO
namespace Go.Proofs.YthfgicdpbbpnjaaGreat.Ops
open Go Go.RowKit Go.Proofs.YthfgicdpbbpnjaaGreat.Uni
open Go.Proofs.YthfgicdpbbpnjaaGreat.Vals (bnext ball rightF)
set_option linter.unusedVariables false
/-- A string as a value. -/
def sV (s : ByteArray) : Vl := ⟨4, 0, s⟩
theorem sV_0 (s : ByteArray) : (vcs (sV s))[0]? = some (.int .i64 4) := rfl
set_option linter.unusedVariables false
set_option linter.unusedSimpArgs false
attribute [local go_sem ↓] ldV stV alV bxV bdV ldO stO alO bxO bdO ldS stS alS bxS bdS
attribute [local irreducible] vcs
attribute [local go_sem] run_bx run_alV run_alO run_alS run_stVg run_stOg run_stSg run_bdV0 run_bdV1 run_bdV2 run_bdV3 run_bdO run_bdS vcs_0 vcs_1 vcs_2 vcs_st1
set_option maxRecDepth 100000

theorem bdSV (s : ByteArray) (w : World) : (Bd 23 #[(0, .int .i64 4), (2, .string s)]).run Tryz.prog w = .ok (.agg (vcs (sV s))) w := run_bdV3 w 4 _
attribute [-go_sem] run_bdV2 run_bdV3
attribute [local irreducible] sV
theorem rt_is (s : ByteArray) (r : Bool) (hr : (pts s).isSome = r) (w : World) (hs : s.size ≤ 2000000) : Calls Tryz.prog 9 #[.string s] w fun e w' => e = .returned (.bool r) ∧ Below w.heap.size w w' := by
  subst hr
  exact rightText_any s w (by omega)
set_option maxHeartbeats 1000000 in
theorem join_no1 (a b c : ByteArray) (w : World) (sa : a.size ≤ 2000000) (sb : b.size ≤ 2000000) (sc : c.size ≤ 2000000) (ha : (pts a).isSome = false) : Calls Tryz.prog 4 #[.string a, .string b, .string c] w fun e w' => e = .returned (.bool true) ∧ Below w.heap.size w w' := by
  have Ra := Lib.hid (fun w => rt_is a _ ha w sa)
  clear ha
  have HA := Lib.hid (fun w => alive_any w)
  go_enter Tryz.func4, Tryz.ntmps4
  go_wp2_with (go_at_call 6; with_reducible refine (HA.out _).mono ?_)
  rintro e w0 ⟨rfl, k0⟩
  go_wp2_with (first | (go_at_call 9; with_reducible refine (Ra.out _).mono ?_; rintro e w1 ⟨rfl, j1⟩; have k1 := bnext k0 j1))
  go_ret
  exact ⟨rfl, k1⟩
set_option maxHeartbeats 1000000 in
theorem join_no2 (a b c : ByteArray) (w : World) (sa : a.size ≤ 2000000) (sb : b.size ≤ 2000000) (sc : c.size ≤ 2000000) (ha : (pts a).isSome = true) (hb : (pts b).isSome = false) : Calls Tryz.prog 4 #[.string a, .string b, .string c] w fun e w' => e = .returned (.bool true) ∧ Below w.heap.size w w' := by
  have Ra := Lib.hid (fun w => rt_is a _ ha w sa)
  clear ha
  have Rb := Lib.hid (fun w => rt_is b _ hb w sb)
  clear hb
  have HA := Lib.hid (fun w => alive_any w)
  go_enter Tryz.func4, Tryz.ntmps4
  go_wp2_with (go_at_call 6; with_reducible refine (HA.out _).mono ?_)
  rintro e w0 ⟨rfl, k0⟩
  go_wp2_with (first | (go_at_call 9; with_reducible refine (Ra.out _).mono ?_; rintro e w1 ⟨rfl, j1⟩; have k1 := bnext k0 j1) | (go_at_call 9; with_reducible refine (Rb.out _).mono ?_; rintro e w2 ⟨rfl, j2⟩; have k2 := bnext k1 j2))
  go_ret
  exact ⟨rfl, k2⟩
set_option maxHeartbeats 1000000 in
theorem join_no3 (a b c : ByteArray) (w : World) (sa : a.size ≤ 2000000) (sb : b.size ≤ 2000000) (sc : c.size ≤ 2000000) (ha : (pts a).isSome = true) (hb : (pts b).isSome = true) (hc : (pts c).isSome = false) : Calls Tryz.prog 4 #[.string a, .string b, .string c] w fun e w' => e = .returned (.bool true) ∧ Below w.heap.size w w' := by
  have Ra := Lib.hid (fun w => rt_is a _ ha w sa)
  clear ha
  have Rb := Lib.hid (fun w => rt_is b _ hb w sb)
  clear hb
  have Rc := Lib.hid (fun w => rt_is c _ hc w sc)
  clear hc
  have HA := Lib.hid (fun w => alive_any w)
  go_enter Tryz.func4, Tryz.ntmps4
  go_wp2_with (go_at_call 6; with_reducible refine (HA.out _).mono ?_)
  rintro e w0 ⟨rfl, k0⟩
  go_wp2_with (first | (go_at_call 9; with_reducible refine (Ra.out _).mono ?_; rintro e w1 ⟨rfl, j1⟩; have k1 := bnext k0 j1) | (go_at_call 9; with_reducible refine (Rb.out _).mono ?_; rintro e w2 ⟨rfl, j2⟩; have k2 := bnext k1 j2) | (go_at_call 9; with_reducible refine (Rc.out _).mono ?_; rintro e w3 ⟨rfl, j3⟩; have k3 := bnext k2 j3))
  go_ret
  exact ⟨rfl, k3⟩
set_option maxHeartbeats 1000000 in
theorem join_l1 (a b c : ByteArray) (w : World) (sa : a.size ≤ 2000000) (sb : b.size ≤ 2000000) (sc : c.size ≤ 2000000) (ha : (pts a).isSome = true) (hb : (pts b).isSome = true) (hc : (pts c).isSome = true) (la : (200 : Int) < (a.size : Int)) : Calls Tryz.prog 4 #[.string a, .string b, .string c] w fun e w' => e = .returned (.bool true) ∧ Below w.heap.size w w' := by
  have Ra := Lib.hid (fun w => rt_is a _ ha w sa)
  clear ha
  have Rb := Lib.hid (fun w => rt_is b _ hb w sb)
  clear hb
  have Rc := Lib.hid (fun w => rt_is c _ hc w sc)
  clear hc
  have HA := Lib.hid (fun w => alive_any w)
  go_enter Tryz.func4, Tryz.ntmps4
  go_wp2_with (go_at_call 6; with_reducible refine (HA.out _).mono ?_)
  rintro e w0 ⟨rfl, k0⟩
  go_wp2_with (first | (go_at_call 9; with_reducible refine (Ra.out _).mono ?_; rintro e w1 ⟨rfl, j1⟩; have k1 := bnext k0 j1) | (go_at_call 9; with_reducible refine (Rb.out _).mono ?_; rintro e w2 ⟨rfl, j2⟩; have k2 := bnext k1 j2) | (go_at_call 9; with_reducible refine (Rc.out _).mono ?_; rintro e w3 ⟨rfl, j3⟩; have k3 := bnext k2 j3))
  go_ret
  exact ⟨rfl, k3⟩
set_option maxHeartbeats 1000000 in
theorem join_l2 (a b c : ByteArray) (w : World) (sa : a.size ≤ 2000000) (sb : b.size ≤ 2000000) (sc : c.size ≤ 2000000) (ha : (pts a).isSome = true) (hb : (pts b).isSome = true) (hc : (pts c).isSome = true) (la : (a.size : Int) ≤ 200) (lb : (200 : Int) < (b.size : Int)) : Calls Tryz.prog 4 #[.string a, .string b, .string c] w fun e w' => e = .returned (.bool true) ∧ Below w.heap.size w w' := by
  have Ra := Lib.hid (fun w => rt_is a _ ha w sa)
  clear ha
  have Rb := Lib.hid (fun w => rt_is b _ hb w sb)
  clear hb
  have Rc := Lib.hid (fun w => rt_is c _ hc w sc)
  clear hc
  have HA := Lib.hid (fun w => alive_any w)
  go_enter Tryz.func4, Tryz.ntmps4
  go_wp2_with (go_at_call 6; with_reducible refine (HA.out _).mono ?_)
  rintro e w0 ⟨rfl, k0⟩
  go_wp2_with (first | (go_at_call 9; with_reducible refine (Ra.out _).mono ?_; rintro e w1 ⟨rfl, j1⟩; have k1 := bnext k0 j1) | (go_at_call 9; with_reducible refine (Rb.out _).mono ?_; rintro e w2 ⟨rfl, j2⟩; have k2 := bnext k1 j2) | (go_at_call 9; with_reducible refine (Rc.out _).mono ?_; rintro e w3 ⟨rfl, j3⟩; have k3 := bnext k2 j3))
  go_ret
  exact ⟨rfl, k3⟩
set_option maxHeartbeats 1000000 in
theorem join_l3 (a b c : ByteArray) (w : World) (sa : a.size ≤ 2000000) (sb : b.size ≤ 2000000) (sc : c.size ≤ 2000000) (ha : (pts a).isSome = true) (hb : (pts b).isSome = true) (hc : (pts c).isSome = true) (la : (a.size : Int) ≤ 200) (lb : (b.size : Int) ≤ 200) (lc : (200 : Int) < (c.size : Int)) : Calls Tryz.prog 4 #[.string a, .string b, .string c] w fun e w' => e = .returned (.bool true) ∧ Below w.heap.size w w' := by
  have Ra := Lib.hid (fun w => rt_is a _ ha w sa)
  clear ha
  have Rb := Lib.hid (fun w => rt_is b _ hb w sb)
  clear hb
  have Rc := Lib.hid (fun w => rt_is c _ hc w sc)
  clear hc
  have HA := Lib.hid (fun w => alive_any w)
  go_enter Tryz.func4, Tryz.ntmps4
  go_wp2_with (go_at_call 6; with_reducible refine (HA.out _).mono ?_)
  rintro e w0 ⟨rfl, k0⟩
  go_wp2_with (first | (go_at_call 9; with_reducible refine (Ra.out _).mono ?_; rintro e w1 ⟨rfl, j1⟩; have k1 := bnext k0 j1) | (go_at_call 9; with_reducible refine (Rb.out _).mono ?_; rintro e w2 ⟨rfl, j2⟩; have k2 := bnext k1 j2) | (go_at_call 9; with_reducible refine (Rc.out _).mono ?_; rintro e w3 ⟨rfl, j3⟩; have k3 := bnext k2 j3))
  go_ret
  exact ⟨rfl, k3⟩
set_option maxHeartbeats 4000000 in
theorem join_main (a b c : ByteArray) (w : World) (sa : a.size ≤ 2000000) (sb : b.size ≤ 2000000) (sc : c.size ≤ 2000000) (ha : (pts a).isSome = true) (hb : (pts b).isSome = true) (hc : (pts c).isSome = true) (la : (a.size : Int) ≤ 200) (lb : (b.size : Int) ≤ 200) (lc : (c.size : Int) ≤ 200) (P E : Vl) (q : ByteArray) (X : Hid (∀ w, Calls Tryz.prog 8 #[.string ⟨#[43]⟩, .agg (vcs (sV a)), .agg (vcs (sV b))] w fun e w' => e = retV P ⟨#[]⟩ ∧ Below w.heap.size w w')) (Y : Hid (∀ w, Calls Tryz.prog 8 #[.string ⟨#[43]⟩, .agg (vcs P), .agg (vcs (sV c))] w fun e w' => e = retV (sV q) ⟨#[]⟩ ∧ Below w.heap.size w w')) (Z : Hid (∀ w, Calls Tryz.prog 8 #[.string ⟨#[43]⟩, .agg (vcs (sV b)), .agg (vcs (sV c))] w fun e w' => e = retV E ⟨#[]⟩ ∧ Below w.heap.size w w')) (U : Hid (∀ w, Calls Tryz.prog 8 #[.string ⟨#[43]⟩, .agg (vcs (sV a)), .agg (vcs E)] w fun e w' => e = retV (sV q) ⟨#[]⟩ ∧ Below w.heap.size w w')) : Calls Tryz.prog 4 #[.string a, .string b, .string c] w fun e w' => e = .returned (.bool true) ∧ Below w.heap.size w w' := by
  have b1 := bdSV a
  have b2 := bdSV b
  have b3 := bdSV c
  obtain ⟨G, hG⟩ : ∃ G, sV q = G := ⟨_, rfl⟩
  have hG0 := sV_0 q
  rw [hG] at Y U hG0
  clear hG
  have e1 := run_eqVa G G true (eqV_iff.2 rfl)
  have Ra := Lib.hid (fun w => rt_is a _ ha w sa)
  clear ha
  have Rb := Lib.hid (fun w => rt_is b _ hb w sb)
  clear hb
  have Rc := Lib.hid (fun w => rt_is c _ hc w sc)
  clear hc
  have HA := Lib.hid (fun w => alive_any w)
  go_enter Tryz.func4, Tryz.ntmps4
  go_wp2_with (go_at_call 6; with_reducible refine (HA.out _).mono ?_)
  rintro e w0 ⟨rfl, k0⟩
  go_wp2_with (first | (go_at_call 9; with_reducible refine (Ra.out _).mono ?_; rintro e w1 ⟨rfl, j1⟩; have k1 := bnext k0 j1) | (go_at_call 9; with_reducible refine (Rb.out _).mono ?_; rintro e w2 ⟨rfl, j2⟩; have k2 := bnext k1 j2) | (go_at_call 9; with_reducible refine (Rc.out _).mono ?_; rintro e w3 ⟨rfl, j3⟩; have k3 := bnext k2 j3; have Hn := has3 (sV a) (sV b) (sV c) w3; have HB := Lib.hid k3; have m1 := run_ldV (Hn.at 2 rfl); have m2 := run_ldV (Hn.at 1 rfl)) | (go_at_call 8; with_reducible refine (X.out _).mono ?_))
  rintro e w4 ⟨rfl, k4⟩
  have HH := Lib.hid Hn
  clear Hn j1 j2 j3 k1 k2 k3 m1 m2 X Ra Rb Rc
  have Hm := (HH.out.call k4).new P
  have m1 := run_ldV (Hm.at 0 rfl)
  have m2 := run_ldV (Hm.at 1 rfl)
  go_wp2_with (go_at_call 8; with_reducible refine (Y.out _).mono ?_)
  rintro e w5 ⟨rfl, k5⟩
  have HH := Lib.hid Hm
  clear Hm m1 m2 Y
  have Hm := (HH.out.call k5).new G
  have m1 := run_ldV (Hm.at 3 rfl)
  have m2 := run_ldV (Hm.at 2 rfl)
  go_wp2_with (go_at_call 8; with_reducible refine (Z.out _).mono ?_)
  rintro e w6 ⟨rfl, k6⟩
  have HH := Lib.hid Hm
  clear Hm m1 m2 Z
  have Hm := (HH.out.call k6).new E
  have m1 := run_ldV (Hm.at 5 rfl)
  have m2 := run_ldV (Hm.at 0 rfl)
  go_wp2_with (go_at_call 8; with_reducible refine (U.out _).mono ?_)
  rintro e w7 ⟨rfl, k7⟩
  have HH := Lib.hid Hm
  clear Hm m1 m2 U
  have Hm := (HH.out.call k7).new G
  have m1 := run_ldV (Hm.at 0 rfl)
  have m2 := run_ldV (Hm.at 2 rfl)
  have c2 := ((Hm.at 2 rfl).cell 0).trans hG0
  have HL := Lib.hid Hm
  clear Hm HH hG0
  go_wp2
  go_ret
  exact ⟨rfl, HB.out.trans (HL.out.below.mono HB.out.size)⟩
end Go.Proofs.YthfgicdpbbpnjaaGreat.Ops
