/-
  The walk of OpsOrder: the road on which the condition holds.
-/
import Derived.Test.YthfgicdpbbpnjaaGreatOpLawO
namespace Go.Proofs.YthfgicdpbbpnjaaGreat.Ops
open Go Go.RowKit Go.Proofs.YthfgicdpbbpnjaaGreat.Uni
open Go.Proofs.YthfgicdpbbpnjaaGreat.Vals (bnext ball rightF)
set_option linter.unusedVariables false
set_option linter.unusedSimpArgs false
attribute [local go_sem ↓] ldV stV alV bxV bdV ldO stO alO bxO bdO ldS stS alS bxS bdS
attribute [local irreducible] vcs
attribute [local go_sem] run_bx run_alV run_alO run_alS run_stVg run_stOg run_stSg run_bdV0 run_bdV1 run_bdV2 run_bdV3 run_bdO run_bdS vcs_0 vcs_1 vcs_2 vcs_st1
set_option maxRecDepth 100000

attribute [-go_sem] run_bdV2 run_bdV3
attribute [local irreducible] vT vF
set_option maxHeartbeats 1000000 in
theorem ord_l1_4 (a b c : Vl) (w : World) (sa : a.s.size ≤ 2000000) (sb : b.s.size ≤ 2000000) (sc : c.s.size ≤ 2000000) (ha : rV a = true) (hb : rV b = true) (hc : rV c = true) (ka : a.k = 4) (kb : b.k = 4) (kc : c.k = 4) (la : (100 : Int) < (a.s.size : Int)) : Calls Tryz.prog 3 #[.agg (vcs a), .agg (vcs b), .agg (vcs c)] w fun e w' => e = .returned (.bool true) ∧ Below w.heap.size w w' := by
  have ra := fun w => rright_is a w sa
  rw [ha] at ra
  have Ra := Lib.hid ra
  clear ha ra
  have rb := fun w => rright_is b w sb
  rw [hb] at rb
  have Rb := Lib.hid rb
  clear hb rb
  have rc := fun w => rright_is c w sc
  rw [hc] at rc
  have Rc := Lib.hid rc
  clear hc rc
  have HA := Lib.hid (fun w => alive_any w)
  have H0 := Lib.hid (has3 a b c w)
  go_enter Tryz.func3, Tryz.ntmps3
  go_wp2_with (go_at_call 6; with_reducible refine (HA.out _).mono ?_)
  rintro e w0 ⟨rfl, k0⟩
  have H1 := H0.out.call k0
  have B3 := H1.at 2 rfl
  have l3 := run_ldV B3
  have HH1 := Lib.hid H1
  clear H1 H0 HA k0 B3
  go_wp2_with (first | (go_at_call 7; with_reducible refine (Ra.out _).mono ?_; rintro e w1 ⟨rfl, k1⟩; have H2 := HH1.out.call k1; have l4 := run_ldV (H2.at 1 rfl)) | (go_at_call 7; with_reducible refine (Rb.out _).mono ?_; rintro e w2 ⟨rfl, k2⟩; have H3 := H2.call k2; have l5 := run_ldV (H3.at 0 rfl)) | (go_at_call 7; with_reducible refine (Rc.out _).mono ?_; rintro e w3 ⟨rfl, k3⟩; have H4 := H3.call k3; have l6 := run_ldV (H4.at 0 rfl); have a0 := ((H4.at 2 rfl).cell 0).trans (vcs_0 a); have a2 := ((H4.at 2 rfl).cell 2).trans (vcs_2 a); have b0 := ((H4.at 1 rfl).cell 0).trans (vcs_0 b); have b2 := ((H4.at 1 rfl).cell 2).trans (vcs_2 b); have c0 := ((H4.at 0 rfl).cell 0).trans (vcs_0 c); have c2 := ((H4.at 0 rfl).cell 2).trans (vcs_2 c)))
  go_ret
  exact ⟨rfl, H4.below⟩
set_option maxHeartbeats 1000000 in
theorem ord_l2_4 (a b c : Vl) (w : World) (sa : a.s.size ≤ 2000000) (sb : b.s.size ≤ 2000000) (sc : c.s.size ≤ 2000000) (ha : rV a = true) (hb : rV b = true) (hc : rV c = true) (ka : a.k = 4) (kb : b.k = 4) (kc : c.k = 4) (la : (a.s.size : Int) ≤ 100) (lb : (100 : Int) < (b.s.size : Int)) : Calls Tryz.prog 3 #[.agg (vcs a), .agg (vcs b), .agg (vcs c)] w fun e w' => e = .returned (.bool true) ∧ Below w.heap.size w w' := by
  have ra := fun w => rright_is a w sa
  rw [ha] at ra
  have Ra := Lib.hid ra
  clear ha ra
  have rb := fun w => rright_is b w sb
  rw [hb] at rb
  have Rb := Lib.hid rb
  clear hb rb
  have rc := fun w => rright_is c w sc
  rw [hc] at rc
  have Rc := Lib.hid rc
  clear hc rc
  have HA := Lib.hid (fun w => alive_any w)
  have H0 := Lib.hid (has3 a b c w)
  go_enter Tryz.func3, Tryz.ntmps3
  go_wp2_with (go_at_call 6; with_reducible refine (HA.out _).mono ?_)
  rintro e w0 ⟨rfl, k0⟩
  have H1 := H0.out.call k0
  have B3 := H1.at 2 rfl
  have l3 := run_ldV B3
  have HH1 := Lib.hid H1
  clear H1 H0 HA k0 B3
  go_wp2_with (first | (go_at_call 7; with_reducible refine (Ra.out _).mono ?_; rintro e w1 ⟨rfl, k1⟩; have H2 := HH1.out.call k1; have l4 := run_ldV (H2.at 1 rfl)) | (go_at_call 7; with_reducible refine (Rb.out _).mono ?_; rintro e w2 ⟨rfl, k2⟩; have H3 := H2.call k2; have l5 := run_ldV (H3.at 0 rfl)) | (go_at_call 7; with_reducible refine (Rc.out _).mono ?_; rintro e w3 ⟨rfl, k3⟩; have H4 := H3.call k3; have l6 := run_ldV (H4.at 0 rfl); have a0 := ((H4.at 2 rfl).cell 0).trans (vcs_0 a); have a2 := ((H4.at 2 rfl).cell 2).trans (vcs_2 a); have b0 := ((H4.at 1 rfl).cell 0).trans (vcs_0 b); have b2 := ((H4.at 1 rfl).cell 2).trans (vcs_2 b); have c0 := ((H4.at 0 rfl).cell 0).trans (vcs_0 c); have c2 := ((H4.at 0 rfl).cell 2).trans (vcs_2 c)))
  go_ret
  exact ⟨rfl, H4.below⟩
set_option maxHeartbeats 1000000 in
theorem ord_l3_4 (a b c : Vl) (w : World) (sa : a.s.size ≤ 2000000) (sb : b.s.size ≤ 2000000) (sc : c.s.size ≤ 2000000) (ha : rV a = true) (hb : rV b = true) (hc : rV c = true) (ka : a.k = 4) (kb : b.k = 4) (kc : c.k = 4) (la : (a.s.size : Int) ≤ 100) (lb : (b.s.size : Int) ≤ 100) (lc : (100 : Int) < (c.s.size : Int)) : Calls Tryz.prog 3 #[.agg (vcs a), .agg (vcs b), .agg (vcs c)] w fun e w' => e = .returned (.bool true) ∧ Below w.heap.size w w' := by
  have ra := fun w => rright_is a w sa
  rw [ha] at ra
  have Ra := Lib.hid ra
  clear ha ra
  have rb := fun w => rright_is b w sb
  rw [hb] at rb
  have Rb := Lib.hid rb
  clear hb rb
  have rc := fun w => rright_is c w sc
  rw [hc] at rc
  have Rc := Lib.hid rc
  clear hc rc
  have HA := Lib.hid (fun w => alive_any w)
  have H0 := Lib.hid (has3 a b c w)
  go_enter Tryz.func3, Tryz.ntmps3
  go_wp2_with (go_at_call 6; with_reducible refine (HA.out _).mono ?_)
  rintro e w0 ⟨rfl, k0⟩
  have H1 := H0.out.call k0
  have B3 := H1.at 2 rfl
  have l3 := run_ldV B3
  have HH1 := Lib.hid H1
  clear H1 H0 HA k0 B3
  go_wp2_with (first | (go_at_call 7; with_reducible refine (Ra.out _).mono ?_; rintro e w1 ⟨rfl, k1⟩; have H2 := HH1.out.call k1; have l4 := run_ldV (H2.at 1 rfl)) | (go_at_call 7; with_reducible refine (Rb.out _).mono ?_; rintro e w2 ⟨rfl, k2⟩; have H3 := H2.call k2; have l5 := run_ldV (H3.at 0 rfl)) | (go_at_call 7; with_reducible refine (Rc.out _).mono ?_; rintro e w3 ⟨rfl, k3⟩; have H4 := H3.call k3; have l6 := run_ldV (H4.at 0 rfl); have a0 := ((H4.at 2 rfl).cell 0).trans (vcs_0 a); have a2 := ((H4.at 2 rfl).cell 2).trans (vcs_2 a); have b0 := ((H4.at 1 rfl).cell 0).trans (vcs_0 b); have b2 := ((H4.at 1 rfl).cell 2).trans (vcs_2 b); have c0 := ((H4.at 0 rfl).cell 0).trans (vcs_0 c); have c2 := ((H4.at 0 rfl).cell 2).trans (vcs_2 c)))
  go_ret
  exact ⟨rfl, H4.below⟩
set_option maxHeartbeats 4000000 in
theorem ord_main_4 (a b c : Vl) (w : World) (sa : a.s.size ≤ 2000000) (sb : b.s.size ≤ 2000000) (sc : c.s.size ≤ 2000000) (ha : rV a = true) (hb : rV b = true) (hc : rV c = true) (ka : a.k = 4) (kb : b.k = 4) (kc : c.k = 4) (la : (a.s.size : Int) ≤ 100) (lb : (b.s.size : Int) ≤ 100) (lc : (c.s.size : Int) ≤ 100) (P Q E F G : Vl) (X : Hid (∀ w, Calls Tryz.prog 8 #[.string ⟨#[60]⟩, .agg (vcs a), .agg (vcs b)] w fun e w' => e = retV P ⟨#[]⟩ ∧ Below w.heap.size w w')) (Y : Hid (∀ w, Calls Tryz.prog 8 #[.string ⟨#[62]⟩, .agg (vcs a), .agg (vcs b)] w fun e w' => e = retV Q ⟨#[]⟩ ∧ Below w.heap.size w w')) (Z : Hid (∀ w, Calls Tryz.prog 8 #[.string ⟨#[61, 61, 61]⟩, .agg (vcs a), .agg (vcs b)] w fun e w' => e = retV E ⟨#[]⟩ ∧ Below w.heap.size w w')) (U : Hid (∀ w, Calls Tryz.prog 8 #[.string ⟨#[60]⟩, .agg (vcs b), .agg (vcs c)] w fun e w' => e = retV F ⟨#[]⟩ ∧ Below w.heap.size w w')) (W : Hid (∀ w, Calls Tryz.prog 8 #[.string ⟨#[60]⟩, .agg (vcs a), .agg (vcs c)] w fun e w' => e = retV G ⟨#[]⟩ ∧ Below w.heap.size w w'))
    (hc : (P = vT ∧ Q = vF ∧ E = vF ∧ F = vF) ∨ (P = vT ∧ Q = vF ∧ E = vF ∧ F = vT ∧ G = vT) ∨ (P = vF ∧ Q = vT ∧ E = vF) ∨ (P = vF ∧ Q = vF ∧ E = vT)) : Calls Tryz.prog 3 #[.agg (vcs a), .agg (vcs b), .agg (vcs c)] w fun e w' => e = .returned (.bool true) ∧ Below w.heap.size w w' := by
  have bT := bdT
  have HC := Lib.hid hc
  clear hc
  have ra := fun w => rright_is a w sa
  rw [ha] at ra
  have Ra := Lib.hid ra
  clear ha ra
  have rb := fun w => rright_is b w sb
  rw [hb] at rb
  have Rb := Lib.hid rb
  clear hb rb
  have rc := fun w => rright_is c w sc
  rw [hc] at rc
  have Rc := Lib.hid rc
  clear hc rc
  have HA := Lib.hid (fun w => alive_any w)
  have H0 := Lib.hid (has3 a b c w)
  go_enter Tryz.func3, Tryz.ntmps3
  go_wp2_with (go_at_call 6; with_reducible refine (HA.out _).mono ?_)
  rintro e w0 ⟨rfl, k0⟩
  have H1 := H0.out.call k0
  have B3 := H1.at 2 rfl
  have l3 := run_ldV B3
  have HH1 := Lib.hid H1
  clear H1 H0 HA k0 B3
  go_wp2_with (first | (go_at_call 7; with_reducible refine (Ra.out _).mono ?_; rintro e w1 ⟨rfl, k1⟩; have H2 := HH1.out.call k1; have l4 := run_ldV (H2.at 1 rfl)) | (go_at_call 7; with_reducible refine (Rb.out _).mono ?_; rintro e w2 ⟨rfl, k2⟩; have H3 := H2.call k2; have l5 := run_ldV (H3.at 0 rfl)) | (go_at_call 7; with_reducible refine (Rc.out _).mono ?_; rintro e w3 ⟨rfl, k3⟩; have H4 := H3.call k3; have l6 := run_ldV (H4.at 0 rfl); have a0 := ((H4.at 2 rfl).cell 0).trans (vcs_0 a); have a2 := ((H4.at 2 rfl).cell 2).trans (vcs_2 a); have b0 := ((H4.at 1 rfl).cell 0).trans (vcs_0 b); have b2 := ((H4.at 1 rfl).cell 2).trans (vcs_2 b); have c0 := ((H4.at 0 rfl).cell 0).trans (vcs_0 c); have c2 := ((H4.at 0 rfl).cell 2).trans (vcs_2 c); have Hn := H4.new vT; have la5 := run_ldV (Hn.at 3 rfl); have lb5 := run_ldV (Hn.at 2 rfl)) | (go_at_call 8; with_reducible refine (X.out _).mono ?_))
  rintro e w5 ⟨rfl, k5⟩
  have HH := Lib.hid Hn
  clear Hn H4 H3 H2 k1 k2 k3 l4 l5 l6 a0 b0 c0 a2 b2 c2 la5 lb5 X HH1 Ra Rb Rc
  have Hm := (HH.out.call k5).new P
  have m1 := run_ldV (Hm.at 4 rfl)
  have m2 := run_ldV (Hm.at 3 rfl)
  go_wp2_with (go_at_call 8; with_reducible refine (Y.out _).mono ?_)
  rintro e w6 ⟨rfl, k6⟩
  have HH := Lib.hid Hm
  clear Hm m1 m2 Y
  have Hm := (HH.out.call k6).new Q
  have m1 := run_ldV (Hm.at 5 rfl)
  have m2 := run_ldV (Hm.at 4 rfl)
  go_wp2_with (go_at_call 8; with_reducible refine (Z.out _).mono ?_)
  rintro e w7 ⟨rfl, k7⟩
  have HH := Lib.hid Hm
  clear Hm m1 m2 Z
  have Hm := (HH.out.call k7).new E
  have HL := Lib.hid Hm
  have e1 := run_eqVa vT vT true eqTT
  have e2 := run_eqVa vF vT false eqFT
  have mE := run_ldV (Hm.at 0 rfl)
  have mQ := run_ldV (Hm.at 1 rfl)
  have mP := run_ldV (Hm.at 2 rfl)
  have mT := run_ldV (Hm.at 3 rfl)
  have mc := run_ldV (Hm.at 4 rfl)
  have mb := run_ldV (Hm.at 5 rfl)
  clear Hm HH
  rcases HC.out with ⟨rfl, rfl, rfl, rfl⟩ | ⟨rfl, rfl, rfl, rfl, rfl⟩ | ⟨rfl, rfl, rfl⟩ | ⟨rfl, rfl, rfl⟩
  · clear HC
    go_wp2_with (go_at_call 8; with_reducible refine (U.out _).mono ?_)
    rintro e w8 ⟨rfl, k8⟩
    have Hm := (HL.out.call k8).new vF
    have HH := Lib.hid Hm
    clear mE mQ mP mT mc mb U HL
    have m1 := run_ldV (Hm.at 7 rfl)
    have m2 := run_ldV (Hm.at 5 rfl)
    clear Hm
    go_wp2_with (go_at_call 8; with_reducible refine (W.out _).mono ?_)
    rintro e w9 ⟨rfl, k9⟩
    have Hm := (HH.out.call k9).new G
    have HL := Lib.hid Hm
    clear m1 m2 W HH
    have mG := run_ldV (Hm.at 0 rfl)
    have mF := run_ldV (Hm.at 1 rfl)
    have mP := run_ldV (Hm.at 4 rfl)
    have mT := run_ldV (Hm.at 5 rfl)
    clear Hm
    go_wp2
    go_ret
    exact ⟨rfl, HL.out.below⟩
  · clear HC
    go_wp2_with (go_at_call 8; with_reducible refine (U.out _).mono ?_)
    rintro e w8 ⟨rfl, k8⟩
    have Hm := (HL.out.call k8).new vT
    have HH := Lib.hid Hm
    clear mE mQ mP mT mc mb U HL
    have m1 := run_ldV (Hm.at 7 rfl)
    have m2 := run_ldV (Hm.at 5 rfl)
    clear Hm
    go_wp2_with (go_at_call 8; with_reducible refine (W.out _).mono ?_)
    rintro e w9 ⟨rfl, k9⟩
    have Hm := (HH.out.call k9).new vT
    have HL := Lib.hid Hm
    clear m1 m2 W HH
    have mG := run_ldV (Hm.at 0 rfl)
    have mF := run_ldV (Hm.at 1 rfl)
    have mP := run_ldV (Hm.at 4 rfl)
    have mT := run_ldV (Hm.at 5 rfl)
    clear Hm
    go_wp2
    go_ret
    exact ⟨rfl, HL.out.below⟩
  · clear HC
    go_wp2_with (go_at_call 8; with_reducible refine (U.out _).mono ?_)
    rintro e w8 ⟨rfl, k8⟩
    have Hm := (HL.out.call k8).new F
    have HH := Lib.hid Hm
    clear mE mQ mP mT mc mb U HL
    have m1 := run_ldV (Hm.at 7 rfl)
    have m2 := run_ldV (Hm.at 5 rfl)
    clear Hm
    go_wp2_with (go_at_call 8; with_reducible refine (W.out _).mono ?_)
    rintro e w9 ⟨rfl, k9⟩
    have Hm := (HH.out.call k9).new G
    have HL := Lib.hid Hm
    clear m1 m2 W HH
    have mG := run_ldV (Hm.at 0 rfl)
    have mF := run_ldV (Hm.at 1 rfl)
    have mP := run_ldV (Hm.at 4 rfl)
    have mT := run_ldV (Hm.at 5 rfl)
    clear Hm
    go_wp2
    go_ret
    exact ⟨rfl, HL.out.below⟩
  · clear HC
    go_wp2_with (go_at_call 8; with_reducible refine (U.out _).mono ?_)
    rintro e w8 ⟨rfl, k8⟩
    have Hm := (HL.out.call k8).new F
    have HH := Lib.hid Hm
    clear mE mQ mP mT mc mb U HL
    have m1 := run_ldV (Hm.at 7 rfl)
    have m2 := run_ldV (Hm.at 5 rfl)
    clear Hm
    go_wp2_with (go_at_call 8; with_reducible refine (W.out _).mono ?_)
    rintro e w9 ⟨rfl, k9⟩
    have Hm := (HH.out.call k9).new G
    have HL := Lib.hid Hm
    clear m1 m2 W HH
    have mG := run_ldV (Hm.at 0 rfl)
    have mF := run_ldV (Hm.at 1 rfl)
    have mP := run_ldV (Hm.at 4 rfl)
    have mT := run_ldV (Hm.at 5 rfl)
    clear Hm
    go_wp2
    go_ret
    exact ⟨rfl, HL.out.below⟩
set_option maxHeartbeats 1000000 in
theorem ord_l1_3 (a b c : Vl) (w : World) (sa : a.s.size ≤ 2000000) (sb : b.s.size ≤ 2000000) (sc : c.s.size ≤ 2000000) (ha : rV a = true) (hb : rV b = true) (hc : rV c = true) (ka : a.k = 3) (kb : b.k = 3) (kc : c.k = 3) (la : (100 : Int) < (a.s.size : Int)) : Calls Tryz.prog 3 #[.agg (vcs a), .agg (vcs b), .agg (vcs c)] w fun e w' => e = .returned (.bool true) ∧ Below w.heap.size w w' := by
  have ra := fun w => rright_is a w sa
  rw [ha] at ra
  have Ra := Lib.hid ra
  clear ha ra
  have rb := fun w => rright_is b w sb
  rw [hb] at rb
  have Rb := Lib.hid rb
  clear hb rb
  have rc := fun w => rright_is c w sc
  rw [hc] at rc
  have Rc := Lib.hid rc
  clear hc rc
  have HA := Lib.hid (fun w => alive_any w)
  have H0 := Lib.hid (has3 a b c w)
  go_enter Tryz.func3, Tryz.ntmps3
  go_wp2_with (go_at_call 6; with_reducible refine (HA.out _).mono ?_)
  rintro e w0 ⟨rfl, k0⟩
  have H1 := H0.out.call k0
  have B3 := H1.at 2 rfl
  have l3 := run_ldV B3
  have HH1 := Lib.hid H1
  clear H1 H0 HA k0 B3
  go_wp2_with (first | (go_at_call 7; with_reducible refine (Ra.out _).mono ?_; rintro e w1 ⟨rfl, k1⟩; have H2 := HH1.out.call k1; have l4 := run_ldV (H2.at 1 rfl)) | (go_at_call 7; with_reducible refine (Rb.out _).mono ?_; rintro e w2 ⟨rfl, k2⟩; have H3 := H2.call k2; have l5 := run_ldV (H3.at 0 rfl)) | (go_at_call 7; with_reducible refine (Rc.out _).mono ?_; rintro e w3 ⟨rfl, k3⟩; have H4 := H3.call k3; have l6 := run_ldV (H4.at 0 rfl); have a0 := ((H4.at 2 rfl).cell 0).trans (vcs_0 a); have a2 := ((H4.at 2 rfl).cell 2).trans (vcs_2 a); have b0 := ((H4.at 1 rfl).cell 0).trans (vcs_0 b); have b2 := ((H4.at 1 rfl).cell 2).trans (vcs_2 b); have c0 := ((H4.at 0 rfl).cell 0).trans (vcs_0 c); have c2 := ((H4.at 0 rfl).cell 2).trans (vcs_2 c)))
  go_ret
  exact ⟨rfl, H4.below⟩
set_option maxHeartbeats 1000000 in
theorem ord_l2_3 (a b c : Vl) (w : World) (sa : a.s.size ≤ 2000000) (sb : b.s.size ≤ 2000000) (sc : c.s.size ≤ 2000000) (ha : rV a = true) (hb : rV b = true) (hc : rV c = true) (ka : a.k = 3) (kb : b.k = 3) (kc : c.k = 3) (la : (a.s.size : Int) ≤ 100) (lb : (100 : Int) < (b.s.size : Int)) : Calls Tryz.prog 3 #[.agg (vcs a), .agg (vcs b), .agg (vcs c)] w fun e w' => e = .returned (.bool true) ∧ Below w.heap.size w w' := by
  have ra := fun w => rright_is a w sa
  rw [ha] at ra
  have Ra := Lib.hid ra
  clear ha ra
  have rb := fun w => rright_is b w sb
  rw [hb] at rb
  have Rb := Lib.hid rb
  clear hb rb
  have rc := fun w => rright_is c w sc
  rw [hc] at rc
  have Rc := Lib.hid rc
  clear hc rc
  have HA := Lib.hid (fun w => alive_any w)
  have H0 := Lib.hid (has3 a b c w)
  go_enter Tryz.func3, Tryz.ntmps3
  go_wp2_with (go_at_call 6; with_reducible refine (HA.out _).mono ?_)
  rintro e w0 ⟨rfl, k0⟩
  have H1 := H0.out.call k0
  have B3 := H1.at 2 rfl
  have l3 := run_ldV B3
  have HH1 := Lib.hid H1
  clear H1 H0 HA k0 B3
  go_wp2_with (first | (go_at_call 7; with_reducible refine (Ra.out _).mono ?_; rintro e w1 ⟨rfl, k1⟩; have H2 := HH1.out.call k1; have l4 := run_ldV (H2.at 1 rfl)) | (go_at_call 7; with_reducible refine (Rb.out _).mono ?_; rintro e w2 ⟨rfl, k2⟩; have H3 := H2.call k2; have l5 := run_ldV (H3.at 0 rfl)) | (go_at_call 7; with_reducible refine (Rc.out _).mono ?_; rintro e w3 ⟨rfl, k3⟩; have H4 := H3.call k3; have l6 := run_ldV (H4.at 0 rfl); have a0 := ((H4.at 2 rfl).cell 0).trans (vcs_0 a); have a2 := ((H4.at 2 rfl).cell 2).trans (vcs_2 a); have b0 := ((H4.at 1 rfl).cell 0).trans (vcs_0 b); have b2 := ((H4.at 1 rfl).cell 2).trans (vcs_2 b); have c0 := ((H4.at 0 rfl).cell 0).trans (vcs_0 c); have c2 := ((H4.at 0 rfl).cell 2).trans (vcs_2 c)))
  go_ret
  exact ⟨rfl, H4.below⟩
set_option maxHeartbeats 1000000 in
theorem ord_l3_3 (a b c : Vl) (w : World) (sa : a.s.size ≤ 2000000) (sb : b.s.size ≤ 2000000) (sc : c.s.size ≤ 2000000) (ha : rV a = true) (hb : rV b = true) (hc : rV c = true) (ka : a.k = 3) (kb : b.k = 3) (kc : c.k = 3) (la : (a.s.size : Int) ≤ 100) (lb : (b.s.size : Int) ≤ 100) (lc : (100 : Int) < (c.s.size : Int)) : Calls Tryz.prog 3 #[.agg (vcs a), .agg (vcs b), .agg (vcs c)] w fun e w' => e = .returned (.bool true) ∧ Below w.heap.size w w' := by
  have ra := fun w => rright_is a w sa
  rw [ha] at ra
  have Ra := Lib.hid ra
  clear ha ra
  have rb := fun w => rright_is b w sb
  rw [hb] at rb
  have Rb := Lib.hid rb
  clear hb rb
  have rc := fun w => rright_is c w sc
  rw [hc] at rc
  have Rc := Lib.hid rc
  clear hc rc
  have HA := Lib.hid (fun w => alive_any w)
  have H0 := Lib.hid (has3 a b c w)
  go_enter Tryz.func3, Tryz.ntmps3
  go_wp2_with (go_at_call 6; with_reducible refine (HA.out _).mono ?_)
  rintro e w0 ⟨rfl, k0⟩
  have H1 := H0.out.call k0
  have B3 := H1.at 2 rfl
  have l3 := run_ldV B3
  have HH1 := Lib.hid H1
  clear H1 H0 HA k0 B3
  go_wp2_with (first | (go_at_call 7; with_reducible refine (Ra.out _).mono ?_; rintro e w1 ⟨rfl, k1⟩; have H2 := HH1.out.call k1; have l4 := run_ldV (H2.at 1 rfl)) | (go_at_call 7; with_reducible refine (Rb.out _).mono ?_; rintro e w2 ⟨rfl, k2⟩; have H3 := H2.call k2; have l5 := run_ldV (H3.at 0 rfl)) | (go_at_call 7; with_reducible refine (Rc.out _).mono ?_; rintro e w3 ⟨rfl, k3⟩; have H4 := H3.call k3; have l6 := run_ldV (H4.at 0 rfl); have a0 := ((H4.at 2 rfl).cell 0).trans (vcs_0 a); have a2 := ((H4.at 2 rfl).cell 2).trans (vcs_2 a); have b0 := ((H4.at 1 rfl).cell 0).trans (vcs_0 b); have b2 := ((H4.at 1 rfl).cell 2).trans (vcs_2 b); have c0 := ((H4.at 0 rfl).cell 0).trans (vcs_0 c); have c2 := ((H4.at 0 rfl).cell 2).trans (vcs_2 c)))
  go_ret
  exact ⟨rfl, H4.below⟩
set_option maxHeartbeats 4000000 in
theorem ord_main_3 (a b c : Vl) (w : World) (sa : a.s.size ≤ 2000000) (sb : b.s.size ≤ 2000000) (sc : c.s.size ≤ 2000000) (ha : rV a = true) (hb : rV b = true) (hc : rV c = true) (ka : a.k = 3) (kb : b.k = 3) (kc : c.k = 3) (la : (a.s.size : Int) ≤ 100) (lb : (b.s.size : Int) ≤ 100) (lc : (c.s.size : Int) ≤ 100) (P Q E F G : Vl) (X : Hid (∀ w, Calls Tryz.prog 8 #[.string ⟨#[60]⟩, .agg (vcs a), .agg (vcs b)] w fun e w' => e = retV P ⟨#[]⟩ ∧ Below w.heap.size w w')) (Y : Hid (∀ w, Calls Tryz.prog 8 #[.string ⟨#[62]⟩, .agg (vcs a), .agg (vcs b)] w fun e w' => e = retV Q ⟨#[]⟩ ∧ Below w.heap.size w w')) (Z : Hid (∀ w, Calls Tryz.prog 8 #[.string ⟨#[61, 61, 61]⟩, .agg (vcs a), .agg (vcs b)] w fun e w' => e = retV E ⟨#[]⟩ ∧ Below w.heap.size w w')) (U : Hid (∀ w, Calls Tryz.prog 8 #[.string ⟨#[60]⟩, .agg (vcs b), .agg (vcs c)] w fun e w' => e = retV F ⟨#[]⟩ ∧ Below w.heap.size w w')) (W : Hid (∀ w, Calls Tryz.prog 8 #[.string ⟨#[60]⟩, .agg (vcs a), .agg (vcs c)] w fun e w' => e = retV G ⟨#[]⟩ ∧ Below w.heap.size w w'))
    (hc : (P = vT ∧ Q = vF ∧ E = vF ∧ F = vF) ∨ (P = vT ∧ Q = vF ∧ E = vF ∧ F = vT ∧ G = vT) ∨ (P = vF ∧ Q = vT ∧ E = vF) ∨ (P = vF ∧ Q = vF ∧ E = vT)) : Calls Tryz.prog 3 #[.agg (vcs a), .agg (vcs b), .agg (vcs c)] w fun e w' => e = .returned (.bool true) ∧ Below w.heap.size w w' := by
  have bT := bdT
  have HC := Lib.hid hc
  clear hc
  have ra := fun w => rright_is a w sa
  rw [ha] at ra
  have Ra := Lib.hid ra
  clear ha ra
  have rb := fun w => rright_is b w sb
  rw [hb] at rb
  have Rb := Lib.hid rb
  clear hb rb
  have rc := fun w => rright_is c w sc
  rw [hc] at rc
  have Rc := Lib.hid rc
  clear hc rc
  have HA := Lib.hid (fun w => alive_any w)
  have H0 := Lib.hid (has3 a b c w)
  go_enter Tryz.func3, Tryz.ntmps3
  go_wp2_with (go_at_call 6; with_reducible refine (HA.out _).mono ?_)
  rintro e w0 ⟨rfl, k0⟩
  have H1 := H0.out.call k0
  have B3 := H1.at 2 rfl
  have l3 := run_ldV B3
  have HH1 := Lib.hid H1
  clear H1 H0 HA k0 B3
  go_wp2_with (first | (go_at_call 7; with_reducible refine (Ra.out _).mono ?_; rintro e w1 ⟨rfl, k1⟩; have H2 := HH1.out.call k1; have l4 := run_ldV (H2.at 1 rfl)) | (go_at_call 7; with_reducible refine (Rb.out _).mono ?_; rintro e w2 ⟨rfl, k2⟩; have H3 := H2.call k2; have l5 := run_ldV (H3.at 0 rfl)) | (go_at_call 7; with_reducible refine (Rc.out _).mono ?_; rintro e w3 ⟨rfl, k3⟩; have H4 := H3.call k3; have l6 := run_ldV (H4.at 0 rfl); have a0 := ((H4.at 2 rfl).cell 0).trans (vcs_0 a); have a2 := ((H4.at 2 rfl).cell 2).trans (vcs_2 a); have b0 := ((H4.at 1 rfl).cell 0).trans (vcs_0 b); have b2 := ((H4.at 1 rfl).cell 2).trans (vcs_2 b); have c0 := ((H4.at 0 rfl).cell 0).trans (vcs_0 c); have c2 := ((H4.at 0 rfl).cell 2).trans (vcs_2 c); have Hn := H4.new vT; have la5 := run_ldV (Hn.at 3 rfl); have lb5 := run_ldV (Hn.at 2 rfl)) | (go_at_call 8; with_reducible refine (X.out _).mono ?_))
  rintro e w5 ⟨rfl, k5⟩
  have HH := Lib.hid Hn
  clear Hn H4 H3 H2 k1 k2 k3 l4 l5 l6 a0 b0 c0 a2 b2 c2 la5 lb5 X HH1 Ra Rb Rc
  have Hm := (HH.out.call k5).new P
  have m1 := run_ldV (Hm.at 4 rfl)
  have m2 := run_ldV (Hm.at 3 rfl)
  go_wp2_with (go_at_call 8; with_reducible refine (Y.out _).mono ?_)
  rintro e w6 ⟨rfl, k6⟩
  have HH := Lib.hid Hm
  clear Hm m1 m2 Y
  have Hm := (HH.out.call k6).new Q
  have m1 := run_ldV (Hm.at 5 rfl)
  have m2 := run_ldV (Hm.at 4 rfl)
  go_wp2_with (go_at_call 8; with_reducible refine (Z.out _).mono ?_)
  rintro e w7 ⟨rfl, k7⟩
  have HH := Lib.hid Hm
  clear Hm m1 m2 Z
  have Hm := (HH.out.call k7).new E
  have HL := Lib.hid Hm
  have e1 := run_eqVa vT vT true eqTT
  have e2 := run_eqVa vF vT false eqFT
  have mE := run_ldV (Hm.at 0 rfl)
  have mQ := run_ldV (Hm.at 1 rfl)
  have mP := run_ldV (Hm.at 2 rfl)
  have mT := run_ldV (Hm.at 3 rfl)
  have mc := run_ldV (Hm.at 4 rfl)
  have mb := run_ldV (Hm.at 5 rfl)
  clear Hm HH
  rcases HC.out with ⟨rfl, rfl, rfl, rfl⟩ | ⟨rfl, rfl, rfl, rfl, rfl⟩ | ⟨rfl, rfl, rfl⟩ | ⟨rfl, rfl, rfl⟩
  · clear HC
    go_wp2_with (go_at_call 8; with_reducible refine (U.out _).mono ?_)
    rintro e w8 ⟨rfl, k8⟩
    have Hm := (HL.out.call k8).new vF
    have HH := Lib.hid Hm
    clear mE mQ mP mT mc mb U HL
    have m1 := run_ldV (Hm.at 7 rfl)
    have m2 := run_ldV (Hm.at 5 rfl)
    clear Hm
    go_wp2_with (go_at_call 8; with_reducible refine (W.out _).mono ?_)
    rintro e w9 ⟨rfl, k9⟩
    have Hm := (HH.out.call k9).new G
    have HL := Lib.hid Hm
    clear m1 m2 W HH
    have mG := run_ldV (Hm.at 0 rfl)
    have mF := run_ldV (Hm.at 1 rfl)
    have mP := run_ldV (Hm.at 4 rfl)
    have mT := run_ldV (Hm.at 5 rfl)
    clear Hm
    go_wp2
    go_ret
    exact ⟨rfl, HL.out.below⟩
  · clear HC
    go_wp2_with (go_at_call 8; with_reducible refine (U.out _).mono ?_)
    rintro e w8 ⟨rfl, k8⟩
    have Hm := (HL.out.call k8).new vT
    have HH := Lib.hid Hm
    clear mE mQ mP mT mc mb U HL
    have m1 := run_ldV (Hm.at 7 rfl)
    have m2 := run_ldV (Hm.at 5 rfl)
    clear Hm
    go_wp2_with (go_at_call 8; with_reducible refine (W.out _).mono ?_)
    rintro e w9 ⟨rfl, k9⟩
    have Hm := (HH.out.call k9).new vT
    have HL := Lib.hid Hm
    clear m1 m2 W HH
    have mG := run_ldV (Hm.at 0 rfl)
    have mF := run_ldV (Hm.at 1 rfl)
    have mP := run_ldV (Hm.at 4 rfl)
    have mT := run_ldV (Hm.at 5 rfl)
    clear Hm
    go_wp2
    go_ret
    exact ⟨rfl, HL.out.below⟩
  · clear HC
    go_wp2_with (go_at_call 8; with_reducible refine (U.out _).mono ?_)
    rintro e w8 ⟨rfl, k8⟩
    have Hm := (HL.out.call k8).new F
    have HH := Lib.hid Hm
    clear mE mQ mP mT mc mb U HL
    have m1 := run_ldV (Hm.at 7 rfl)
    have m2 := run_ldV (Hm.at 5 rfl)
    clear Hm
    go_wp2_with (go_at_call 8; with_reducible refine (W.out _).mono ?_)
    rintro e w9 ⟨rfl, k9⟩
    have Hm := (HH.out.call k9).new G
    have HL := Lib.hid Hm
    clear m1 m2 W HH
    have mG := run_ldV (Hm.at 0 rfl)
    have mF := run_ldV (Hm.at 1 rfl)
    have mP := run_ldV (Hm.at 4 rfl)
    have mT := run_ldV (Hm.at 5 rfl)
    clear Hm
    go_wp2
    go_ret
    exact ⟨rfl, HL.out.below⟩
  · clear HC
    go_wp2_with (go_at_call 8; with_reducible refine (U.out _).mono ?_)
    rintro e w8 ⟨rfl, k8⟩
    have Hm := (HL.out.call k8).new F
    have HH := Lib.hid Hm
    clear mE mQ mP mT mc mb U HL
    have m1 := run_ldV (Hm.at 7 rfl)
    have m2 := run_ldV (Hm.at 5 rfl)
    clear Hm
    go_wp2_with (go_at_call 8; with_reducible refine (W.out _).mono ?_)
    rintro e w9 ⟨rfl, k9⟩
    have Hm := (HH.out.call k9).new G
    have HL := Lib.hid Hm
    clear m1 m2 W HH
    have mG := run_ldV (Hm.at 0 rfl)
    have mF := run_ldV (Hm.at 1 rfl)
    have mP := run_ldV (Hm.at 4 rfl)
    have mT := run_ldV (Hm.at 5 rfl)
    clear Hm
    go_wp2
    go_ret
    exact ⟨rfl, HL.out.below⟩
end Go.Proofs.YthfgicdpbbpnjaaGreat.Ops
