/-
  The comparison of two operands: order and what is told of it.
-/
import Derived.Test.YthfgicdpbbpnjaaGreatOpOrdr
namespace Go.Proofs.YthfgicdpbbpnjaaGreat.Ops
open Go Go.RowKit Go.Proofs.YthfgicdpbbpnjaaGreat.Uni
open Go.Proofs.YthfgicdpbbpnjaaGreat.Vals (bnext ball)
set_option linter.unusedVariables false
set_option linter.unusedSimpArgs false
attribute [local go_sem ↓] ldV stV alV bxV bdV ldO stO alO bxO bdO ldS stS alS bxS bdS
attribute [local irreducible] vcs
attribute [local go_sem] run_bx run_alV run_alO run_alS run_stVg run_stOg run_stSg run_bdV0 run_bdV1 run_bdV2 run_bdV3 run_bdO run_bdS vcs_0 vcs_1 vcs_2 vcs_st1
set_option maxRecDepth 100000

/-- What a call of orderOf ends in, in the worlds of a class that calls keep. -/
structure OrdIs (R : World → Prop) (a b : Value) (N : Int) (ok : Bool) : Prop where
  out : ∀ w, R w → Calls Tryz.prog 28 #[a, b] w fun e w' => e = .returned (.tuple #[.int .i64 N, .bool ok]) ∧ Below w.heap.size w w'
  keep : ∀ w w', R w → Below w.heap.size w w' → R w'
theorem order_os {R : World → Prop} {v u : Vl} {x y : Int} {p q : Bool} (hv : v.k ≠ 4) (hu : u.k = 4) (h1 : NumIs R v x p) (h2 : NumIs R u y q) (w : World) (hR : R w) :
    Calls Tryz.prog 28 #[opd v, opd u] w fun e w' => e = .returned (.tuple #[.int .i64 (cmpI x y), .bool (p && q)]) ∧ Below w.heap.size w w' := by
  have hn := fun w hR => nums_any h1 h2 w hR
  have hR1 : R ((w.alloc (.cells (vcs zeroV) 52)).alloc (.cells (vcs u) 52)) := h1.keep _ _ hR bel2
  rw [opd_o hv, opd_s hu]
  rw [opd_o hv, opd_s hu] at hn
  have a1 := as_o (.agg (vcs v))
  have a2 := as_s (.agg (vcs u))
  obtain ⟨K, hK⟩ : ∃ K, (p && q) = K := ⟨_, rfl⟩
  rw [hK] at hn
  rw [hK]
  obtain ⟨N, hN⟩ : ∃ N, cmpI x y = N := ⟨_, rfl⟩
  have hc := fun w => cmp_int x y w
  rw [hN] at hc
  rw [hN]
  have HN := Lib.hid hn
  have HC := Lib.hid hc
  clear hv hu h1 h2 hn hK hN hc
  go_enter Tryz.func28, Tryz.ntmps28
  go_wp2_with (go_at_call 25; refine (HN.out _ hR1).mono ?_)
  rintro e w1 ⟨rfl, b1⟩
  go_wp2_with (go_at_call 38; refine (HC.out _).mono ?_; rintro e w2 ⟨rfl, rfl⟩)
  go_ret2
  exact ⟨rfl, bnext bel2 b1⟩
theorem order_so {R : World → Prop} {v u : Vl} {x y : Int} {p q : Bool} (hv : v.k = 4) (hu : u.k ≠ 4) (h1 : NumIs R v x p) (h2 : NumIs R u y q) (w : World) (hR : R w) :
    Calls Tryz.prog 28 #[opd v, opd u] w fun e w' => e = .returned (.tuple #[.int .i64 (cmpI x y), .bool (p && q)]) ∧ Below w.heap.size w w' := by
  have hn := fun w hR => nums_any h1 h2 w hR
  have hR1 : R ((w.alloc (.cells (vcs v) 52)).alloc (.cells (vcs zeroV) 52)) := h1.keep _ _ hR bel2
  rw [opd_s hv, opd_o hu]
  rw [opd_s hv, opd_o hu] at hn
  have a1 := as_s (.agg (vcs v))
  have a2 := as_o (.agg (vcs u))
  obtain ⟨K, hK⟩ : ∃ K, (p && q) = K := ⟨_, rfl⟩
  rw [hK] at hn
  rw [hK]
  obtain ⟨N, hN⟩ : ∃ N, cmpI x y = N := ⟨_, rfl⟩
  have hc := fun w => cmp_int x y w
  rw [hN] at hc
  rw [hN]
  have HN := Lib.hid hn
  have HC := Lib.hid hc
  clear hv hu h1 h2 hn hK hN hc
  go_enter Tryz.func28, Tryz.ntmps28
  go_wp2_with (go_at_call 25; refine (HN.out _ hR1).mono ?_)
  rintro e w1 ⟨rfl, b1⟩
  go_wp2_with (go_at_call 38; refine (HC.out _).mono ?_; rintro e w2 ⟨rfl, rfl⟩)
  go_ret2
  exact ⟨rfl, bnext bel2 b1⟩
theorem order_oo {R : World → Prop} {v u : Vl} {x y : Int} {p q : Bool} (hv : v.k ≠ 4) (hu : u.k ≠ 4) (h1 : NumIs R v x p) (h2 : NumIs R u y q) (w : World) (hR : R w) :
    Calls Tryz.prog 28 #[opd v, opd u] w fun e w' => e = .returned (.tuple #[.int .i64 (cmpI x y), .bool (p && q)]) ∧ Below w.heap.size w w' := by
  have hn := fun w hR => nums_any h1 h2 w hR
  have hR1 : R ((w.alloc (.cells (vcs zeroV) 52)).alloc (.cells (vcs zeroV) 52)) := h1.keep _ _ hR bel2
  rw [opd_o hv, opd_o hu]
  rw [opd_o hv, opd_o hu] at hn
  have a1 := as_o (.agg (vcs v))
  have a2 := as_o (.agg (vcs u))
  obtain ⟨K, hK⟩ : ∃ K, (p && q) = K := ⟨_, rfl⟩
  rw [hK] at hn
  rw [hK]
  obtain ⟨N, hN⟩ : ∃ N, cmpI x y = N := ⟨_, rfl⟩
  have hc := fun w => cmp_int x y w
  rw [hN] at hc
  rw [hN]
  have HN := Lib.hid hn
  have HC := Lib.hid hc
  clear hv hu h1 h2 hn hK hN hc
  go_enter Tryz.func28, Tryz.ntmps28
  go_wp2_with (go_at_call 25; refine (HN.out _ hR1).mono ?_)
  rintro e w1 ⟨rfl, b1⟩
  go_wp2_with (go_at_call 38; refine (HC.out _).mono ?_; rintro e w2 ⟨rfl, rfl⟩)
  go_ret2
  exact ⟨rfl, bnext bel2 b1⟩
theorem ord_str {R : World → Prop} (hk : ∀ w w', R w → Below w.heap.size w w' → R w') {v u : Vl} (hv : v.k = 4) (hu : u.k = 4) (hs : v.s.size ≤ 2000000) (ht : u.s.size ≤ 2000000) (ls : (units v.s).length ≤ 1000000000) (lt : (units u.s).length ≤ 1000000000) : OrdIs R (opd v) (opd u) (cmpL (units v.s) (units u.s)) true :=
  ⟨fun w _ => order_ss v u hv hu w (by omega) (by omega) ls lt, hk⟩
theorem ord_num {R : World → Prop} {v u : Vl} {x y : Int} {p q : Bool} (hvu : ¬ (v.k = 4 ∧ u.k = 4)) (h1 : NumIs R v x p) (h2 : NumIs R u y q) : OrdIs R (opd v) (opd u) (cmpI x y) (p && q) :=
  ⟨fun w hR => by
    by_cases hv : v.k = 4
    · exact order_so hv (fun hu => hvu ⟨hv, hu⟩) h1 h2 w hR
    · by_cases hu : u.k = 4
      · exact order_os hv hu h1 h2 w hR
      · exact order_oo hv hu h1 h2 w hR, h1.keep⟩
/-- What a call of compared ends in. -/
structure CmpIs (R : World → Prop) (op : ByteArray) (a b : Value) (r : Vl) (s : ByteArray) : Prop where
  out : ∀ w, R w → Calls Tryz.prog 19 #[.string op, a, b] w fun e w' => e = retV r s ∧ Below w.heap.size w w'
  keep : ∀ w w', R w → Below w.heap.size w w' → R w'
def typeE : ByteArray := ⟨#[84, 121, 112, 101, 69, 114, 114, 111, 114]⟩
def rangeE : ByteArray := ⟨#[82, 97, 110, 103, 101, 69, 114, 114, 111, 114]⟩
theorem cmpd_bad {R : World → Prop} {a b : Value} {N : Int} (op : ByteArray) (h : OrdIs R a b N false) : CmpIs R op a b zeroV typeE := ⟨fun w hR => by
  have hR1 : R (w.alloc (.cells (vcs zeroV) 23)) := h.keep _ _ hR bel1
  have H := Lib.hid h
  have HF := Lib.hid (fun s w => failed_any s w)
  clear h
  go_enter Tryz.func19, Tryz.ntmps19
  go_wp2_with (go_at_call 28; refine (H.out.out _ hR1).mono ?_)
  rintro e w1 ⟨rfl, b1⟩
  go_wp2_with (go_at_call 13; refine (HF.out _ _).mono ?_; rintro e w2 ⟨rfl, b2⟩; have k := ((Blk.new w (vcs zeroV) 23).call b1).call b2; have s1 := run_stV (v := zeroV) k)
  refine bodyPost_ret (res_V rfl _ _ w.heap.size zeroV _ rfl rfl (k.row _)) rfl ?_
  exact ⟨rfl, below_row (bnext (bnext bel1 b1) b2) _ (Nat.le_refl _)⟩, h.keep⟩
theorem cmpd_lt {R : World → Prop} {a b : Value} {N : Int} (c : Bool) (h : OrdIs R a b N true) (hc : decide (N < 0) = c) : CmpIs R ⟨#[60]⟩ a b (bV c) ⟨#[]⟩ := ⟨fun w hR => by
  have hR1 : R (w.alloc (.cells (vcs zeroV) 23)) := h.keep _ _ hR bel1
  have H := Lib.hid h
  have HT := Lib.hid (fun w => truth_any c w)
  obtain ⟨r, hr⟩ : ∃ r, bV c = r := ⟨_, rfl⟩
  rw [hr] at HT
  rw [hr]
  clear h hr
  go_enter Tryz.func19, Tryz.ntmps19
  go_wp2_with (go_at_call 28; refine (H.out.out _ hR1).mono ?_)
  rintro e w1 ⟨rfl, b1⟩
  go_wp2_with (go_at_call 14; refine (HT.out _).mono ?_; rintro e w2 ⟨rfl, b2⟩; have k := ((Blk.new w (vcs zeroV) 23).call b1).call b2; have s1 := run_stV (v := r) k)
  refine bodyPost_ret (res_V rfl _ _ w.heap.size r _ rfl rfl (k.row _)) rfl ?_
  exact ⟨rfl, below_row (bnext (bnext bel1 b1) b2) _ (Nat.le_refl _)⟩, h.keep⟩
theorem cmpd_gt {R : World → Prop} {a b : Value} {N : Int} (c : Bool) (h : OrdIs R a b N true) (hc : decide (0 < N) = c) : CmpIs R ⟨#[62]⟩ a b (bV c) ⟨#[]⟩ := ⟨fun w hR => by
  have hR1 : R (w.alloc (.cells (vcs zeroV) 23)) := h.keep _ _ hR bel1
  have H := Lib.hid h
  have HT := Lib.hid (fun w => truth_any c w)
  obtain ⟨r, hr⟩ : ∃ r, bV c = r := ⟨_, rfl⟩
  rw [hr] at HT
  rw [hr]
  clear h hr
  go_enter Tryz.func19, Tryz.ntmps19
  go_wp2_with (go_at_call 28; refine (H.out.out _ hR1).mono ?_)
  rintro e w1 ⟨rfl, b1⟩
  go_wp2_with (go_at_call 14; refine (HT.out _).mono ?_; rintro e w2 ⟨rfl, b2⟩; have k := ((Blk.new w (vcs zeroV) 23).call b1).call b2; have s1 := run_stV (v := r) k)
  refine bodyPost_ret (res_V rfl _ _ w.heap.size r _ rfl rfl (k.row _)) rfl ?_
  exact ⟨rfl, below_row (bnext (bnext bel1 b1) b2) _ (Nat.le_refl _)⟩, h.keep⟩
theorem cmpd_ge {R : World → Prop} {a b : Value} {N : Int} (c : Bool) (h : OrdIs R a b N true) (hc : decide (0 ≤ N) = c) : CmpIs R ⟨#[62, 61]⟩ a b (bV c) ⟨#[]⟩ := ⟨fun w hR => by
  have hR1 : R (w.alloc (.cells (vcs zeroV) 23)) := h.keep _ _ hR bel1
  have H := Lib.hid h
  have HT := Lib.hid (fun w => truth_any c w)
  obtain ⟨r, hr⟩ : ∃ r, bV c = r := ⟨_, rfl⟩
  rw [hr] at HT
  rw [hr]
  clear h hr
  go_enter Tryz.func19, Tryz.ntmps19
  go_wp2_with (go_at_call 28; refine (H.out.out _ hR1).mono ?_)
  rintro e w1 ⟨rfl, b1⟩
  go_wp2_with (go_at_call 14; refine (HT.out _).mono ?_; rintro e w2 ⟨rfl, b2⟩; have k := ((Blk.new w (vcs zeroV) 23).call b1).call b2; have s1 := run_stV (v := r) k)
  refine bodyPost_ret (res_V rfl _ _ w.heap.size r _ rfl rfl (k.row _)) rfl ?_
  exact ⟨rfl, below_row (bnext (bnext bel1 b1) b2) _ (Nat.le_refl _)⟩, h.keep⟩
end Go.Proofs.YthfgicdpbbpnjaaGreat.Ops
