/-
  The walk of OpsOrder.
-/
import Derived.Test.YthfgicdpbbpnjaaGreatOpAlive
namespace Go.Proofs.YthfgicdpbbpnjaaGreat.Ops
open Go Go.RowKit Go.Proofs.YthfgicdpbbpnjaaGreat.Uni
open Go.Proofs.YthfgicdpbbpnjaaGreat.Vals (bnext ball rightF)
set_option linter.unusedVariables false
theorem has3 (a b c : Vl) (w : World) : Has [(w.heap.size + 1 + 1, c), (w.heap.size + 1, b), (w.heap.size, a)] w (((w.alloc (.cells (vcs a) 23)).alloc (.cells (vcs b) 23)).alloc (.cells (vcs c) 23)) := by
  have h := (((Has.nil w).new a).new b).new c
  have e1 : ∀ (w : World) (o : Obj), (w.alloc o).heap.size = w.heap.size + 1 := fun w o => by simp
  simp only [e1] at h
  exact h
theorem has2 (a b : Vl) (w : World) : Has [(w.heap.size + 1, b), (w.heap.size, a)] w ((w.alloc (.cells (vcs a) 23)).alloc (.cells (vcs b) 23)) := by
  have h := ((Has.nil w).new a).new b
  have e1 : ∀ (w : World) (o : Obj), (w.alloc o).heap.size = w.heap.size + 1 := fun w o => by simp
  simp only [e1] at h
  exact h
def vT : Vl := ⟨2, 1, ⟨#[]⟩⟩
def vF : Vl := ⟨2, 0, ⟨#[]⟩⟩
theorem eqTT : eqV vT vT = true := by decide +kernel
theorem eqFT : eqV vF vT = false := by decide +kernel
theorem bV_t : bV true = vT := rfl
theorem bV_f : bV false = vF := rfl
set_option linter.unusedVariables false
set_option linter.unusedSimpArgs false
attribute [local go_sem ↓] ldV stV alV bxV bdV ldO stO alO bxO bdO ldS stS alS bxS bdS
attribute [local irreducible] vcs
attribute [local go_sem] run_bx run_alV run_alO run_alS run_stVg run_stOg run_stSg run_bdV0 run_bdV1 run_bdV2 run_bdV3 run_bdO run_bdS vcs_0 vcs_1 vcs_2 vcs_st1
set_option maxRecDepth 100000

theorem bdT (w : World) : (Bd 23 #[(0, .int .i64 2), (1, .int .i64 1)]).run Tryz.prog w = .ok (.agg (vcs vT)) w := run_bdV2 w 2 1
attribute [-go_sem] run_bdV2 run_bdV3
attribute [local irreducible] vT vF
set_option maxHeartbeats 1000000 in
theorem ord_no1 (a b c : Vl) (w : World) (sa : a.s.size ≤ 2000000) (sb : b.s.size ≤ 2000000) (sc : c.s.size ≤ 2000000) (ha : rV a = false) : Calls Tryz.prog 3 #[.agg (vcs a), .agg (vcs b), .agg (vcs c)] w fun e w' => e = .returned (.bool true) ∧ Below w.heap.size w w' := by
  have ra := fun w => rright_is a w sa
  rw [ha] at ra
  have Ra := Lib.hid ra
  clear ha ra
  have HA := Lib.hid (fun w => alive_any w)
  have H0 := Lib.hid (has3 a b c w)
  go_enter Tryz.func3, Tryz.ntmps3
  go_wp2_with (go_at_call 6; with_reducible refine (HA.out _).mono ?_)
  rintro e w0 ⟨rfl, k0⟩
  have H1 := H0.out.call k0
  have B3 := H1.at 2 rfl
  have l3 := run_ldV B3
  have HH1 := Lib.hid H1
  clear H1 H0 HA k0 B3
  go_wp2_with (first | (go_at_call 7; with_reducible refine (Ra.out _).mono ?_; rintro e w1 ⟨rfl, k1⟩; have H2 := HH1.out.call k1; have l4 := run_ldV (H2.at 1 rfl); have a0 := ((H2.at 2 rfl).cell 0).trans (vcs_0 a); have a2 := ((H2.at 2 rfl).cell 2).trans (vcs_2 a); have b0 := ((H2.at 1 rfl).cell 0).trans (vcs_0 b); have b2 := ((H2.at 1 rfl).cell 2).trans (vcs_2 b); have c0 := ((H2.at 0 rfl).cell 0).trans (vcs_0 c); have c2 := ((H2.at 0 rfl).cell 2).trans (vcs_2 c)))
  go_ret
  exact ⟨rfl, H2.below⟩
set_option maxHeartbeats 1000000 in
theorem ord_no2 (a b c : Vl) (w : World) (sa : a.s.size ≤ 2000000) (sb : b.s.size ≤ 2000000) (sc : c.s.size ≤ 2000000) (ha : rV a = true) (hb : rV b = false) : Calls Tryz.prog 3 #[.agg (vcs a), .agg (vcs b), .agg (vcs c)] w fun e w' => e = .returned (.bool true) ∧ Below w.heap.size w w' := by
  have ra := fun w => rright_is a w sa
  rw [ha] at ra
  have Ra := Lib.hid ra
  clear ha ra
  have rb := fun w => rright_is b w sb
  rw [hb] at rb
  have Rb := Lib.hid rb
  clear hb rb
  have HA := Lib.hid (fun w => alive_any w)
  have H0 := Lib.hid (has3 a b c w)
  go_enter Tryz.func3, Tryz.ntmps3
  go_wp2_with (go_at_call 6; with_reducible refine (HA.out _).mono ?_)
  rintro e w0 ⟨rfl, k0⟩
  have H1 := H0.out.call k0
  have B3 := H1.at 2 rfl
  have l3 := run_ldV B3
  have HH1 := Lib.hid H1
  clear H1 H0 HA k0 B3
  go_wp2_with (first | (go_at_call 7; with_reducible refine (Ra.out _).mono ?_; rintro e w1 ⟨rfl, k1⟩; have H2 := HH1.out.call k1; have l4 := run_ldV (H2.at 1 rfl)) | (go_at_call 7; with_reducible refine (Rb.out _).mono ?_; rintro e w2 ⟨rfl, k2⟩; have H3 := H2.call k2; have l5 := run_ldV (H3.at 0 rfl); have a0 := ((H3.at 2 rfl).cell 0).trans (vcs_0 a); have a2 := ((H3.at 2 rfl).cell 2).trans (vcs_2 a); have b0 := ((H3.at 1 rfl).cell 0).trans (vcs_0 b); have b2 := ((H3.at 1 rfl).cell 2).trans (vcs_2 b); have c0 := ((H3.at 0 rfl).cell 0).trans (vcs_0 c); have c2 := ((H3.at 0 rfl).cell 2).trans (vcs_2 c)))
  go_ret
  exact ⟨rfl, H3.below⟩
set_option maxHeartbeats 1000000 in
theorem ord_no3 (a b c : Vl) (w : World) (sa : a.s.size ≤ 2000000) (sb : b.s.size ≤ 2000000) (sc : c.s.size ≤ 2000000) (ha : rV a = true) (hb : rV b = true) (hc : rV c = false) : Calls Tryz.prog 3 #[.agg (vcs a), .agg (vcs b), .agg (vcs c)] w fun e w' => e = .returned (.bool true) ∧ Below w.heap.size w w' := by
  have ra := fun w => rright_is a w sa
  rw [ha] at ra
  have Ra := Lib.hid ra
  clear ha ra
  have rb := fun w => rright_is b w sb
  rw [hb] at rb
  have Rb := Lib.hid rb
  clear hb rb
  have rc := fun w => rright_is c w sc
  rw [hc] at rc
  have Rc := Lib.hid rc
  clear hc rc
  have HA := Lib.hid (fun w => alive_any w)
  have H0 := Lib.hid (has3 a b c w)
  go_enter Tryz.func3, Tryz.ntmps3
  go_wp2_with (go_at_call 6; with_reducible refine (HA.out _).mono ?_)
  rintro e w0 ⟨rfl, k0⟩
  have H1 := H0.out.call k0
  have B3 := H1.at 2 rfl
  have l3 := run_ldV B3
  have HH1 := Lib.hid H1
  clear H1 H0 HA k0 B3
  go_wp2_with (first | (go_at_call 7; with_reducible refine (Ra.out _).mono ?_; rintro e w1 ⟨rfl, k1⟩; have H2 := HH1.out.call k1; have l4 := run_ldV (H2.at 1 rfl)) | (go_at_call 7; with_reducible refine (Rb.out _).mono ?_; rintro e w2 ⟨rfl, k2⟩; have H3 := H2.call k2; have l5 := run_ldV (H3.at 0 rfl)) | (go_at_call 7; with_reducible refine (Rc.out _).mono ?_; rintro e w3 ⟨rfl, k3⟩; have H4 := H3.call k3; have l6 := run_ldV (H4.at 0 rfl); have a0 := ((H4.at 2 rfl).cell 0).trans (vcs_0 a); have a2 := ((H4.at 2 rfl).cell 2).trans (vcs_2 a); have b0 := ((H4.at 1 rfl).cell 0).trans (vcs_0 b); have b2 := ((H4.at 1 rfl).cell 2).trans (vcs_2 b); have c0 := ((H4.at 0 rfl).cell 0).trans (vcs_0 c); have c2 := ((H4.at 0 rfl).cell 2).trans (vcs_2 c)))
  go_ret
  exact ⟨rfl, H4.below⟩
set_option maxHeartbeats 1000000 in
theorem ord_k1 (a b c : Vl) (w : World) (sa : a.s.size ≤ 2000000) (sb : b.s.size ≤ 2000000) (sc : c.s.size ≤ 2000000) (ha : rV a = true) (hb : rV b = true) (hc : rV c = true) (hk : ¬ a.k = b.k) : Calls Tryz.prog 3 #[.agg (vcs a), .agg (vcs b), .agg (vcs c)] w fun e w' => e = .returned (.bool true) ∧ Below w.heap.size w w' := by
  have ra := fun w => rright_is a w sa
  rw [ha] at ra
  have Ra := Lib.hid ra
  clear ha ra
  have rb := fun w => rright_is b w sb
  rw [hb] at rb
  have Rb := Lib.hid rb
  clear hb rb
  have rc := fun w => rright_is c w sc
  rw [hc] at rc
  have Rc := Lib.hid rc
  clear hc rc
  have HA := Lib.hid (fun w => alive_any w)
  have H0 := Lib.hid (has3 a b c w)
  go_enter Tryz.func3, Tryz.ntmps3
  go_wp2_with (go_at_call 6; with_reducible refine (HA.out _).mono ?_)
  rintro e w0 ⟨rfl, k0⟩
  have H1 := H0.out.call k0
  have B3 := H1.at 2 rfl
  have l3 := run_ldV B3
  have HH1 := Lib.hid H1
  clear H1 H0 HA k0 B3
  go_wp2_with (first | (go_at_call 7; with_reducible refine (Ra.out _).mono ?_; rintro e w1 ⟨rfl, k1⟩; have H2 := HH1.out.call k1; have l4 := run_ldV (H2.at 1 rfl)) | (go_at_call 7; with_reducible refine (Rb.out _).mono ?_; rintro e w2 ⟨rfl, k2⟩; have H3 := H2.call k2; have l5 := run_ldV (H3.at 0 rfl)) | (go_at_call 7; with_reducible refine (Rc.out _).mono ?_; rintro e w3 ⟨rfl, k3⟩; have H4 := H3.call k3; have l6 := run_ldV (H4.at 0 rfl); have a0 := ((H4.at 2 rfl).cell 0).trans (vcs_0 a); have a2 := ((H4.at 2 rfl).cell 2).trans (vcs_2 a); have b0 := ((H4.at 1 rfl).cell 0).trans (vcs_0 b); have b2 := ((H4.at 1 rfl).cell 2).trans (vcs_2 b); have c0 := ((H4.at 0 rfl).cell 0).trans (vcs_0 c); have c2 := ((H4.at 0 rfl).cell 2).trans (vcs_2 c)))
  go_ret
  exact ⟨rfl, H4.below⟩
set_option maxHeartbeats 1000000 in
theorem ord_k2 (a b c : Vl) (w : World) (sa : a.s.size ≤ 2000000) (sb : b.s.size ≤ 2000000) (sc : c.s.size ≤ 2000000) (ha : rV a = true) (hb : rV b = true) (hc : rV c = true) (hk0 : a.k = b.k) (hk : ¬ b.k = c.k) : Calls Tryz.prog 3 #[.agg (vcs a), .agg (vcs b), .agg (vcs c)] w fun e w' => e = .returned (.bool true) ∧ Below w.heap.size w w' := by
  have ra := fun w => rright_is a w sa
  rw [ha] at ra
  have Ra := Lib.hid ra
  clear ha ra
  have rb := fun w => rright_is b w sb
  rw [hb] at rb
  have Rb := Lib.hid rb
  clear hb rb
  have rc := fun w => rright_is c w sc
  rw [hc] at rc
  have Rc := Lib.hid rc
  clear hc rc
  have HA := Lib.hid (fun w => alive_any w)
  have H0 := Lib.hid (has3 a b c w)
  go_enter Tryz.func3, Tryz.ntmps3
  go_wp2_with (go_at_call 6; with_reducible refine (HA.out _).mono ?_)
  rintro e w0 ⟨rfl, k0⟩
  have H1 := H0.out.call k0
  have B3 := H1.at 2 rfl
  have l3 := run_ldV B3
  have HH1 := Lib.hid H1
  clear H1 H0 HA k0 B3
  go_wp2_with (first | (go_at_call 7; with_reducible refine (Ra.out _).mono ?_; rintro e w1 ⟨rfl, k1⟩; have H2 := HH1.out.call k1; have l4 := run_ldV (H2.at 1 rfl)) | (go_at_call 7; with_reducible refine (Rb.out _).mono ?_; rintro e w2 ⟨rfl, k2⟩; have H3 := H2.call k2; have l5 := run_ldV (H3.at 0 rfl)) | (go_at_call 7; with_reducible refine (Rc.out _).mono ?_; rintro e w3 ⟨rfl, k3⟩; have H4 := H3.call k3; have l6 := run_ldV (H4.at 0 rfl); have a0 := ((H4.at 2 rfl).cell 0).trans (vcs_0 a); have a2 := ((H4.at 2 rfl).cell 2).trans (vcs_2 a); have b0 := ((H4.at 1 rfl).cell 0).trans (vcs_0 b); have b2 := ((H4.at 1 rfl).cell 2).trans (vcs_2 b); have c0 := ((H4.at 0 rfl).cell 0).trans (vcs_0 c); have c2 := ((H4.at 0 rfl).cell 2).trans (vcs_2 c)))
  go_ret
  exact ⟨rfl, H4.below⟩
set_option maxHeartbeats 1000000 in
theorem ord_k3 (a b c : Vl) (w : World) (sa : a.s.size ≤ 2000000) (sb : b.s.size ≤ 2000000) (sc : c.s.size ≤ 2000000) (ha : rV a = true) (hb : rV b = true) (hc : rV c = true) (hk0 : a.k = b.k) (hk1 : b.k = c.k) (hk : ¬ a.k = 4) (hk2 : ¬ a.k = 3) : Calls Tryz.prog 3 #[.agg (vcs a), .agg (vcs b), .agg (vcs c)] w fun e w' => e = .returned (.bool true) ∧ Below w.heap.size w w' := by
  have ra := fun w => rright_is a w sa
  rw [ha] at ra
  have Ra := Lib.hid ra
  clear ha ra
  have rb := fun w => rright_is b w sb
  rw [hb] at rb
  have Rb := Lib.hid rb
  clear hb rb
  have rc := fun w => rright_is c w sc
  rw [hc] at rc
  have Rc := Lib.hid rc
  clear hc rc
  have HA := Lib.hid (fun w => alive_any w)
  have H0 := Lib.hid (has3 a b c w)
  go_enter Tryz.func3, Tryz.ntmps3
  go_wp2_with (go_at_call 6; with_reducible refine (HA.out _).mono ?_)
  rintro e w0 ⟨rfl, k0⟩
  have H1 := H0.out.call k0
  have B3 := H1.at 2 rfl
  have l3 := run_ldV B3
  have HH1 := Lib.hid H1
  clear H1 H0 HA k0 B3
  go_wp2_with (first | (go_at_call 7; with_reducible refine (Ra.out _).mono ?_; rintro e w1 ⟨rfl, k1⟩; have H2 := HH1.out.call k1; have l4 := run_ldV (H2.at 1 rfl)) | (go_at_call 7; with_reducible refine (Rb.out _).mono ?_; rintro e w2 ⟨rfl, k2⟩; have H3 := H2.call k2; have l5 := run_ldV (H3.at 0 rfl)) | (go_at_call 7; with_reducible refine (Rc.out _).mono ?_; rintro e w3 ⟨rfl, k3⟩; have H4 := H3.call k3; have l6 := run_ldV (H4.at 0 rfl); have a0 := ((H4.at 2 rfl).cell 0).trans (vcs_0 a); have a2 := ((H4.at 2 rfl).cell 2).trans (vcs_2 a); have b0 := ((H4.at 1 rfl).cell 0).trans (vcs_0 b); have b2 := ((H4.at 1 rfl).cell 2).trans (vcs_2 b); have c0 := ((H4.at 0 rfl).cell 0).trans (vcs_0 c); have c2 := ((H4.at 0 rfl).cell 2).trans (vcs_2 c)))
  go_ret
  exact ⟨rfl, H4.below⟩
end Go.Proofs.YthfgicdpbbpnjaaGreat.Ops
