/-
  The walk of OpsOrder, whatever the values.
-/
import Derived.Test.YthfgicdpbbpnjaaGreatOpLawP
namespace Go.Proofs.YthfgicdpbbpnjaaGreat.Ops
open Go Go.RowKit Go.Proofs.YthfgicdpbbpnjaaGreat.Uni
open Go.Proofs.YthfgicdpbbpnjaaGreat.Vals (bnext ball rightF rtF rnF)
set_option linter.unusedVariables false

theorem rV_4 {v : Vl} (h : rV v = true) (hk : v.k = 4) : v.n = 0 ∧ (pts v.s).isSome = true ∧ (units v.s).length ≤ 10000 := by
  unfold rV rightF at h
  rw [if_pos hk] at h
  simp only [rtF, Bool.and_eq_true, beq_iff_eq, decide_eq_true_eq] at h
  exact ⟨h.1, h.2.1, h.2.2⟩
theorem rV_3 {v : Vl} (h : rV v = true) (hk : v.k = 3) : v.s = ⟨#[]⟩ := by
  unfold rV rightF at h
  rw [if_neg (by omega)] at h
  simp only [Bool.and_eq_true] at h
  have h1 := h.1
  rw [ByteArray.toList_eq] at h1
  have h2 : v.s.data.toList = [] := by simpa using h1
  have h3 : v.s.data = #[] := by simpa using h2
  cases hs : v.s with
  | mk d => rw [hs] at h3; rw [show d = #[] from h3]
theorem units_inj {s t : ByteArray} (hs : (pts s).isSome = true) (ht : (pts t).isSome = true) (h : units s = units t) : s = t := by
  obtain ⟨A, hA⟩ := Option.isSome_iff_exists.1 hs
  obtain ⟨C, hC⟩ := Option.isSome_iff_exists.1 ht
  rw [← text_units hA, ← text_units hC, h]
theorem cmpI_vals (x y : Int) : cmpI x y = -1 ∨ cmpI x y = 0 ∨ cmpI x y = 1 := by
  unfold cmpI
  split
  · simp
  · split <;> simp
theorem cmpI_eq {x y : Int} (h : cmpI x y = 0) : x = y := by
  unfold cmpI at h
  split at h
  · cases h
  · split at h
    · cases h
    · omega
theorem cmpI_self (x : Int) : cmpI x x = 0 := by
  unfold cmpI
  rw [if_neg (by omega), if_neg (by omega)]
theorem cmpI_trans {x y z : Int} (h1 : cmpI x y = -1) (h2 : cmpI y z = -1) : cmpI x z = -1 := by
  have l1 : x < y := by
    unfold cmpI at h1
    split at h1
    · assumption
    · split at h1 <;> cases h1
  have l2 : y < z := by
    unfold cmpI at h2
    split at h2
    · assumption
    · split at h2 <;> cases h2
  unfold cmpI
  rw [if_pos (by omega)]

/-- What the three comparisons are, one beside the other. -/
theorem three {N M K : Int} {e : Bool} (hN : N = -1 ∨ N = 0 ∨ N = 1) (hM : M = -1 ∨ M = 0 ∨ M = 1) (hK : N = -1 → M = -1 → K = -1) (he : e = true ↔ N = 0) :
    (bV (decide (N < 0)) = vT ∧ bV (decide (0 < N)) = vF ∧ bV e = vF ∧ bV (decide (M < 0)) = vF) ∨
    (bV (decide (N < 0)) = vT ∧ bV (decide (0 < N)) = vF ∧ bV e = vF ∧ bV (decide (M < 0)) = vT ∧ bV (decide (K < 0)) = vT) ∨
    (bV (decide (N < 0)) = vF ∧ bV (decide (0 < N)) = vT ∧ bV e = vF) ∨
    (bV (decide (N < 0)) = vF ∧ bV (decide (0 < N)) = vF ∧ bV e = vT) := by
  rcases hN with rfl | rfl | rfl
  · have : e = false := by
      cases e with
      | false => rfl
      | true => exact absurd (he.1 rfl) (by decide)
    subst this
    by_cases hm : M = -1
    · rw [hK rfl hm, hm]
      exact .inr (.inl ⟨rfl, rfl, rfl, rfl, rfl⟩)
    · refine .inl ⟨rfl, rfl, rfl, ?_⟩
      rcases hM with rfl | rfl | rfl
      · exact absurd rfl hm
      · rfl
      · rfl
  · have : e = true := he.2 rfl
    subst this
    exact .inr (.inr (.inr ⟨rfl, rfl, rfl⟩))
  · have : e = false := by
      cases e with
      | false => rfl
      | true => exact absurd (he.1 rfl) (by decide)
    subst this
    exact .inr (.inr (.inl ⟨rfl, rfl, rfl⟩))

def anyW : World → Prop := fun _ => True
theorem anyK : ∀ w w' : World, anyW w → Below w.heap.size w w' → anyW w' := fun _ _ _ _ => trivial
theorem num3 {v : Vl} (hk : v.k = 3) : NumIs anyW v v.n true := by
  obtain ⟨k, n, s⟩ := v
  obtain rfl : k = 3 := hk
  exact ⟨fun w _ => number_3 n s w, anyK⟩

theorem lawOrder_walk (a b c : Vl) (w : World) (sa : a.s.size ≤ 2000000) (sb : b.s.size ≤ 2000000) (sc : c.s.size ≤ 2000000) :
    Calls Tryz.prog 3 #[.agg (vcs a), .agg (vcs b), .agg (vcs c)] w fun e w' => e = .returned (.bool true) ∧ Below w.heap.size w w' := by
  cases ha : rV a with
  | false => exact ord_no1 a b c w sa sb sc ha
  | true =>
  cases hb : rV b with
  | false => exact ord_no2 a b c w sa sb sc ha hb
  | true =>
  cases hc : rV c with
  | false => exact ord_no3 a b c w sa sb sc ha hb hc
  | true =>
  by_cases h1 : a.k = b.k
  · by_cases h2 : b.k = c.k
    · by_cases h4 : a.k = 4
      · have kb : b.k = 4 := by omega
        have kc : c.k = 4 := by omega
        by_cases la : (100 : Int) < (a.s.size : Int)
        · exact ord_l1_4 a b c w sa sb sc ha hb hc h4 kb kc la
        · by_cases lb : (100 : Int) < (b.s.size : Int)
          · exact ord_l2_4 a b c w sa sb sc ha hb hc h4 kb kc (by omega) lb
          · by_cases lc : (100 : Int) < (c.s.size : Int)
            · exact ord_l3_4 a b c w sa sb sc ha hb hc h4 kb kc (by omega) (by omega) lc
            · obtain ⟨na, pa, ua⟩ := rV_4 ha h4
              obtain ⟨nb, pb, ub⟩ := rV_4 hb kb
              obtain ⟨nc, pc, uc⟩ := rV_4 hc kc
              obtain ⟨e, he, hs⟩ := same_any a b w
              refine ord_main_4 a b c w sa sb sc ha hb hc h4 kb kc (by omega) (by omega) (by omega) _ _ _ _ _
                (Lib.hid fun w => bin_lt a b _ _ ha hb sa sb (cmpd_lt _ (ord_str anyK h4 kb sa sb (by omega) (by omega)) rfl) w trivial)
                (Lib.hid fun w => bin_gt a b _ _ ha hb sa sb (cmpd_gt _ (ord_str anyK h4 kb sa sb (by omega) (by omega)) rfl) w trivial)
                (Lib.hid fun w => bin_eq a b e ha hb sa sb hs w)
                (Lib.hid fun w => bin_lt b c _ _ hb hc sb sc (cmpd_lt _ (ord_str anyK kb kc sb sc (by omega) (by omega)) rfl) w trivial)
                (Lib.hid fun w => bin_lt a c _ _ ha hc sa sc (cmpd_lt _ (ord_str anyK h4 kc sa sc (by omega) (by omega)) rfl) w trivial)
                (three (cmpL_vals _ _) (cmpL_vals _ _) (cmpL_trans _ _ _) ?_)
              refine he.trans ⟨fun h => ?_, fun h => ?_⟩
              · rw [h]; exact cmpL_self _
              · exact vl_ext h1 (by omega) (units_inj pa pb (cmpL_eq _ _ h))
      · by_cases h3 : a.k = 3
        · have kb : b.k = 3 := by omega
          have kc : c.k = 3 := by omega
          have za := rV_3 ha h3
          have zb := rV_3 hb kb
          have zc := rV_3 hc kc
          have la : (a.s.size : Int) ≤ 100 := by rw [za]; decide
          have lb : (b.s.size : Int) ≤ 100 := by rw [zb]; decide
          have lc : (c.s.size : Int) ≤ 100 := by rw [zc]; decide
          obtain ⟨e, he, hs⟩ := same_any a b w
          refine ord_main_3 a b c w sa sb sc ha hb hc h3 kb kc la lb lc _ _ _ _ _
            (Lib.hid fun w => bin_lt a b _ _ ha hb sa sb (cmpd_lt _ (ord_num (by omega) (num3 h3) (num3 kb)) rfl) w trivial)
            (Lib.hid fun w => bin_gt a b _ _ ha hb sa sb (cmpd_gt _ (ord_num (by omega) (num3 h3) (num3 kb)) rfl) w trivial)
            (Lib.hid fun w => bin_eq a b e ha hb sa sb hs w)
            (Lib.hid fun w => bin_lt b c _ _ hb hc sb sc (cmpd_lt _ (ord_num (by omega) (num3 kb) (num3 kc)) rfl) w trivial)
            (Lib.hid fun w => bin_lt a c _ _ ha hc sa sc (cmpd_lt _ (ord_num (by omega) (num3 h3) (num3 kc)) rfl) w trivial)
            (three (cmpI_vals _ _) (cmpI_vals _ _) cmpI_trans ?_)
          refine he.trans ⟨fun h => ?_, fun h => ?_⟩
          · rw [h]; exact cmpI_self _
          · exact vl_ext h1 (cmpI_eq h) (za.trans zb.symm)
        · exact ord_k3 a b c w sa sb sc ha hb hc h1 h2 h4 h3
    · exact ord_k2 a b c w sa sb sc ha hb hc h1 h2
  · exact ord_k1 a b c w sa sb sc ha hb hc h1
end Go.Proofs.YthfgicdpbbpnjaaGreat.Ops
