/-
  '+' where one is a string.
-/
import Derived.Test.YthfgicdpbbpnjaaGreatOpBin
import Derived.Test.YthfgicdpbbpnjaaGreatOpTxt
import Derived.Test.YthfgicdpbbpnjaaGreatUnJoinw
namespace Go.Proofs.YthfgicdpbbpnjaaGreat.Ops
open Go Go.RowKit Go.Proofs.YthfgicdpbbpnjaaGreat.Uni
open Go.Proofs.YthfgicdpbbpnjaaGreat.Vals (bnext ball rightF)
set_option linter.unusedVariables false
/-- What values.Text gives of v: t. -/
structure TxtIs (v : Vl) (t : ByteArray) : Prop where
  out : ∀ w, Calls Tryz.prog 87 #[.agg (vcs v)] w fun e w' => e = .returned (.tuple #[.string t, .bool true]) ∧ Below w.heap.size w w'
theorem txt_s (n : Int) (s : ByteArray) : TxtIs ⟨4, n, s⟩ s := ⟨fun w => Vals.text_4 n s w⟩
theorem txt_1 (s : ByteArray) : TxtIs ⟨3, 1, s⟩ ⟨#[49]⟩ := ⟨fun w => Vals.text_one s _ rfl w⟩
set_option linter.unusedVariables false
set_option linter.unusedSimpArgs false
attribute [local go_sem ↓] ldV stV alV bxV bdV ldO stO alO bxO bdO ldS stS alS bxS bdS
attribute [local irreducible] vcs
attribute [local go_sem] run_bx run_alV run_alO run_alS run_stVg run_stOg run_stSg run_bdV0 run_bdV1 run_bdV2 run_bdV3 run_bdO run_bdS vcs_0 vcs_1 vcs_2 vcs_st1
set_option maxRecDepth 100000

theorem TxtIs.m {v : Vl} {t : ByteArray} (h : TxtIs v t) (w : World) : Calls Tryz.prog 85 #[.agg (vcs v)] w fun e w' => e = .returned (.tuple #[.string t, .bool true]) ∧ Below w.heap.size w w' :=
  otext_any v t true w (fun _ => True) (Lib.hid fun w _ => h.out w) trivial
theorem len_is (s : ByteArray) (m : Nat) (hm : (units s).length = m) (w : World) (hs : s.size ≤ 100000) : Calls Tryz.prog 31 #[.string s] w fun e w' => e = .returned (.int .i64 (m : Nat)) ∧ Below w.heap.size w w' := by
  subst hm
  exact len_any s w (by omega)
set_option maxHeartbeats 1000000 in
theorem joined_ss (v u : Vl) (s t : ByteArray) (m n : Nat) (hv : v.k = 4) (hu : u.k = 4) (h1 : TxtIs v s) (h2 : TxtIs u t) (hs : s.size ≤ 100000) (ht : t.size ≤ 100000) (hm : (units s).length = m) (hn : (units t).length = n) (hl : m + n ≤ 10000) (w : World) :
    Calls Tryz.prog 24 #[opd v, opd u] w fun e w' => e = retV ⟨4, 0, jn s t⟩ ⟨#[]⟩ ∧ Below w.heap.size w w' := by
  rw [opd_s hv, opd_s hu]
  have i1 := fun d w => it_s d v w
  have i2 := fun d w => it_s d u w
  have M1 := Lib.hid h1.m
  have M2 := Lib.hid h2.m
  have L1 := Lib.hid (fun w => len_is s m hm w hs)
  have L2 := Lib.hid (fun w => len_is t n hn w ht)
  have J := Lib.hid (fun w => join_any s t w hs ht)
  obtain ⟨j, hj⟩ : ∃ j, jn s t = j := ⟨_, rfl⟩
  rw [hj] at J
  rw [hj]
  have T := Lib.hid (fun w => text_any j w)
  have hl1 : (m : Int) + n ≤ 10000 := by omega
  have hl2 : decide ((10000 : Int) < (m : Int) + n) = false := by simp; omega
  have hl3 : decide (10000 < m + n) = false := by simp; omega
  have B0 := Lib.hid (Blk.new w (vcs zeroV) 23)
  clear hv hu h1 h2 hs ht hm hn hj hl
  go_enter Tryz.func24, Tryz.ntmps24
  go_wp2_with (go_at_call 85; refine (M1.out _).mono ?_)
  rintro e w1 ⟨rfl, b1⟩
  clear i1 M1
  have k1 := bnext bel1 b1
  have B1 := Lib.hid (B0.out.call b1)
  clear B0 b1
  go_wp2_with (go_at_call 85; refine (M2.out _).mono ?_)
  rintro e w2 ⟨rfl, b2⟩
  have k2 := bnext k1 b2
  have B2 := Lib.hid (B1.out.call b2)
  clear i2 M2 B1 k1 b2
  go_wp2_with (first | (go_at_call 31; with_reducible refine (L1.out _).mono ?_; rintro e w3 ⟨rfl, b3⟩; have k3 := bnext k2 b3; have B3 := B2.out.call b3) | (go_at_call 31; with_reducible refine (L2.out _).mono ?_; rintro e w4 ⟨rfl, b4⟩; have k4 := bnext k3 b4; have B4 := B3.call b4) | (go_at_call 34; with_reducible refine (J.out _).mono ?_; rintro e w5 ⟨rfl, b5⟩; have k5 := bnext k4 b5; have B5 := B4.call b5) | (go_at_call 33; with_reducible refine (T.out _).mono ?_; rintro e w6 ⟨rfl, b6⟩; have k6 := bnext k5 b6; have B6 := B5.call b6; have s1 := run_stV (v := ⟨4, 0, j⟩) B6))
  refine bodyPost_ret (res_V rfl _ _ w.heap.size ⟨4, 0, j⟩ _ rfl rfl (B6.row _)) rfl ?_
  exact ⟨rfl, below_row k6 _ (Nat.le_refl _)⟩
set_option maxHeartbeats 1000000 in
theorem joined_os (v u : Vl) (s t : ByteArray) (m n : Nat) (hv : v.k ≠ 4) (hu : u.k = 4) (h1 : TxtIs v s) (h2 : TxtIs u t) (hs : s.size ≤ 100000) (ht : t.size ≤ 100000) (hm : (units s).length = m) (hn : (units t).length = n) (hl : m + n ≤ 10000) (w : World) :
    Calls Tryz.prog 24 #[opd v, opd u] w fun e w' => e = retV ⟨4, 0, jn s t⟩ ⟨#[]⟩ ∧ Below w.heap.size w w' := by
  rw [opd_o hv, opd_s hu]
  have i1 := fun d w => it_o d v w
  have i2 := fun d w => it_s d u w
  have M1 := Lib.hid h1.m
  have M2 := Lib.hid h2.m
  have L1 := Lib.hid (fun w => len_is s m hm w hs)
  have L2 := Lib.hid (fun w => len_is t n hn w ht)
  have J := Lib.hid (fun w => join_any s t w hs ht)
  obtain ⟨j, hj⟩ : ∃ j, jn s t = j := ⟨_, rfl⟩
  rw [hj] at J
  rw [hj]
  have T := Lib.hid (fun w => text_any j w)
  have hl1 : (m : Int) + n ≤ 10000 := by omega
  have hl2 : decide ((10000 : Int) < (m : Int) + n) = false := by simp; omega
  have hl3 : decide (10000 < m + n) = false := by simp; omega
  have B0 := Lib.hid (Blk.new w (vcs zeroV) 23)
  clear hv hu h1 h2 hs ht hm hn hj hl
  go_enter Tryz.func24, Tryz.ntmps24
  go_wp2_with (go_at_call 85; refine (M1.out _).mono ?_)
  rintro e w1 ⟨rfl, b1⟩
  clear i1 M1
  have k1 := bnext bel1 b1
  have B1 := Lib.hid (B0.out.call b1)
  clear B0 b1
  go_wp2_with (go_at_call 85; refine (M2.out _).mono ?_)
  rintro e w2 ⟨rfl, b2⟩
  have k2 := bnext k1 b2
  have B2 := Lib.hid (B1.out.call b2)
  clear i2 M2 B1 k1 b2
  go_wp2_with (first | (go_at_call 31; with_reducible refine (L1.out _).mono ?_; rintro e w3 ⟨rfl, b3⟩; have k3 := bnext k2 b3; have B3 := B2.out.call b3) | (go_at_call 31; with_reducible refine (L2.out _).mono ?_; rintro e w4 ⟨rfl, b4⟩; have k4 := bnext k3 b4; have B4 := B3.call b4) | (go_at_call 34; with_reducible refine (J.out _).mono ?_; rintro e w5 ⟨rfl, b5⟩; have k5 := bnext k4 b5; have B5 := B4.call b5) | (go_at_call 33; with_reducible refine (T.out _).mono ?_; rintro e w6 ⟨rfl, b6⟩; have k6 := bnext k5 b6; have B6 := B5.call b6; have s1 := run_stV (v := ⟨4, 0, j⟩) B6))
  refine bodyPost_ret (res_V rfl _ _ w.heap.size ⟨4, 0, j⟩ _ rfl rfl (B6.row _)) rfl ?_
  exact ⟨rfl, below_row k6 _ (Nat.le_refl _)⟩
set_option maxHeartbeats 1000000 in
theorem added_ss (v u : Vl) (r : Vl) (e0 : ByteArray) (hv : v.k = 4) (hu : u.k = 4) (hj : ∀ w, Calls Tryz.prog 24 #[opd v, opd u] w fun e w' => e = retV r e0 ∧ Below w.heap.size w w') (w : World) :
    Calls Tryz.prog 16 #[opd v, opd u] w fun e w' => e = retV r e0 ∧ Below w.heap.size w w' := by
  have T1 := Lib.hid (fun w => isText_s v hv w)
  have T2 := Lib.hid (fun w => isText_s u hu w)
  obtain ⟨x, hx⟩ : ∃ x, opd v = x := ⟨_, rfl⟩
  obtain ⟨y, hy⟩ : ∃ y, opd u = y := ⟨_, rfl⟩
  rw [hx] at T1 hj
  rw [hy] at T2 hj
  rw [hx, hy]
  have J := Lib.hid hj
  have B0 := Lib.hid (Blk.new w (vcs zeroV) 23)
  clear hv hu hj hx hy
  go_enter Tryz.func16, Tryz.ntmps16
  go_wp2_with (go_at_call 23; with_reducible refine (T1.out _).mono ?_)
  rintro e w1 ⟨rfl, b1⟩
  have k1 := bnext bel1 b1
  have B1 := Lib.hid (B0.out.call b1)
  clear B0 b1
  go_wp2_with (go_at_call 24; with_reducible refine (J.out _).mono ?_; rintro e w3 ⟨rfl, b3⟩; have k3 := bnext k1 b3; have B3 := B1.out.call b3; have s1 := run_stV (v := r) B3)
  refine bodyPost_ret (res_V rfl _ _ w.heap.size r _ rfl rfl (B3.row _)) rfl ?_
  exact ⟨rfl, below_row k3 _ (Nat.le_refl _)⟩
set_option maxHeartbeats 1000000 in
theorem added_os (v u : Vl) (r : Vl) (e0 : ByteArray) (hv : v.k ≠ 4) (hu : u.k = 4) (hj : ∀ w, Calls Tryz.prog 24 #[opd v, opd u] w fun e w' => e = retV r e0 ∧ Below w.heap.size w w') (w : World) :
    Calls Tryz.prog 16 #[opd v, opd u] w fun e w' => e = retV r e0 ∧ Below w.heap.size w w' := by
  have T1 := Lib.hid (fun w => isText_o v hv w)
  have T2 := Lib.hid (fun w => isText_s u hu w)
  obtain ⟨x, hx⟩ : ∃ x, opd v = x := ⟨_, rfl⟩
  obtain ⟨y, hy⟩ : ∃ y, opd u = y := ⟨_, rfl⟩
  rw [hx] at T1 hj
  rw [hy] at T2 hj
  rw [hx, hy]
  have J := Lib.hid hj
  have B0 := Lib.hid (Blk.new w (vcs zeroV) 23)
  clear hv hu hj hx hy
  go_enter Tryz.func16, Tryz.ntmps16
  go_wp2_with (go_at_call 23; with_reducible refine (T1.out _).mono ?_)
  rintro e w1 ⟨rfl, b1⟩
  have k1 := bnext bel1 b1
  have B1 := Lib.hid (B0.out.call b1)
  clear B0 b1
  go_wp2_with (go_at_call 23; with_reducible refine (T2.out _).mono ?_)
  rintro e w2 ⟨rfl, b2⟩
  have k1 := bnext k1 b2
  have B1 := Lib.hid (B1.out.call b2)
  clear b2
  go_wp2_with (go_at_call 24; with_reducible refine (J.out _).mono ?_; rintro e w3 ⟨rfl, b3⟩; have k3 := bnext k1 b3; have B3 := B1.out.call b3; have s1 := run_stV (v := r) B3)
  refine bodyPost_ret (res_V rfl _ _ w.heap.size r _ rfl rfl (B3.row _)) rfl ?_
  exact ⟨rfl, below_row k3 _ (Nat.le_refl _)⟩
set_option maxHeartbeats 4000000 in
theorem bin_add (v u r : Vl) (s : ByteArray) (h1 : rV v = true) (h2 : rV u = true) (hsv : v.s.size ≤ 2000000) (hsu : u.s.size ≤ 2000000) (hs : ∀ w, Calls Tryz.prog 16 #[opd v, opd u] w fun e w' => e = retV r s ∧ Below w.heap.size w w') (w : World) :
    Calls Tryz.prog 8 #[.string ⟨#[43]⟩, .agg (vcs v), .agg (vcs u)] w fun e w' => e = retV r s ∧ Below w.heap.size w w' := by
  have O1 := Lib.hid (fun w => operand_any v w)
  have O2 := Lib.hid (fun w => operand_any u w)
  obtain ⟨x, hx⟩ : ∃ x, opd v = x := ⟨_, rfl⟩
  obtain ⟨y, hy⟩ : ∃ y, opd u = y := ⟨_, rfl⟩
  rw [hx] at O1 hs
  rw [hy] at O2 hs
  have HS := Lib.hid hs
  clear hs hx hy
  have hr1 := fun w => right_is v w hsv
  have hr2 := fun w => right_is u w hsu
  rw [h1] at hr1
  rw [h2] at hr2
  have HR1 := Lib.hid hr1
  have HR2 := Lib.hid hr2
  clear hr1 hr2 h1 h2
  have B0 := Bin.start v u w
  have l0 := run_ldV B0.b4
  have HB0 := Lib.hid B0
  clear B0
  go_enter Tryz.func8, Tryz.ntmps8
  go_wp2_with (go_at_call 12; with_reducible refine (HR1.out _).mono ?_; rintro e w1 ⟨rfl, k1⟩; have B1 := HB0.out.call k1; have l1 := run_ldV B1.b5)
  have HB1 := Lib.hid B1
  clear B1 HB0
  go_wp2_with (go_at_call 12; with_reducible refine (HR2.out _).mono ?_)
  rintro e w2 ⟨rfl, k2⟩
  have B2 := HB1.out.call k2
  have la := run_ldV B2.b4
  have lb := run_ldV B2.b5
  have HB2 := Lib.hid B2
  clear B2 HB1 k1 k2 l0 l1 HR1 HR2
  have la := run_ldV HB2.out.drew.b4
  have lb := run_ldV HB2.out.drew.b5
  go_wp2
  go_region_with
    (first
      | (go_at_call 17; with_reducible refine (O1.out _).mono ?_; rintro e w3 ⟨rfl, k3⟩; have B3 := HB2.out.drew.call k3; have l3 := run_ldV B3.b5)
      | (go_at_call 17; with_reducible refine (O2.out _).mono ?_; rintro e w4 ⟨rfl, k4⟩; have B4 := B3.call k4)
      | (go_at_call 16; with_reducible refine (HS.out _).mono ?_; rintro e w5 ⟨rfl, k5⟩; have B5 := B4.call k5; have s1 := run_stV (v := r) B5.b6))
  all_goals
    go_wp2
    refine bodyPost_ret (res_V rfl _ _ (w.heap.size + 2) r _ rfl rfl (B5.b6.row _)) rfl ?_
    exact ⟨rfl, below_row B5.below _ (by omega)⟩
end Go.Proofs.YthfgicdpbbpnjaaGreat.Ops
