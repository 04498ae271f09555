/-
  One token speaks of its own bytes alone: plain mathematics.
-/
import Derived.Test.YtlboaldikgonoaaDoorLxSkip
namespace Go.Proofs.YtlboaldikgonoaaDoor.Lx
open Go.Proofs.YtlboaldikgonoaaDoor.Uni Go.Proofs.YtlboaldikgonoaaDoor.Nums
set_option linter.unusedVariables false
set_option linter.unusedSimpArgs false

/-- What may stand behind a token in the place of r. -/
def Good (Z : By) : Prop := ∃ z Z', Z = z :: Z' ∧ (whiteN z.toNat = true ∨ z = 47)
theorem white_cases {z : UInt8} (h : whiteN z.toNat = true) : z = 32 ∨ z = 9 ∨ z = 10 ∨ z = 13 := by
  have k : ∀ n : Nat, n < 256 → z.toNat = n → z = UInt8.ofNat n := fun n hn e => by apply UInt8.toNat_inj.1; simp; omega
  unfold whiteN endN at h
  simp at h
  rcases h with h | h | h | h
  · exact .inl (k 32 (by decide) h)
  · exact .inr (.inl (k 9 (by decide) h))
  · exact .inr (.inr (.inl (k 10 (by decide) h)))
  · exact .inr (.inr (.inr (k 13 (by decide) h)))
theorem good_cases {Z : By} (h : Good Z) : ∃ z Z', Z = z :: Z' ∧ (z = 32 ∨ z = 9 ∨ z = 10 ∨ z = 13 ∨ z = 47) := by
  obtain ⟨z, Z', e, h | h⟩ := h
  · rcases white_cases h with h | h | h | h
    · exact ⟨z, Z', e, .inl h⟩
    · exact ⟨z, Z', e, .inr (.inl h)⟩
    · exact ⟨z, Z', e, .inr (.inr (.inl h))⟩
    · exact ⟨z, Z', e, .inr (.inr (.inr (.inl h)))⟩
  · exact ⟨z, Z', e, .inr (.inr (.inr (.inr h)))⟩
theorem good_not (f : Nat → Bool) (h1 : f 32 = false) (h2 : f 9 = false) (h3 : f 10 = false) (h4 : f 13 = false) (h5 : f 47 = false) {Z : By} (h : Good Z) : Z = [] ∨ ∃ c r', Z = c :: r' ∧ f c.toNat = false := by
  obtain ⟨z, Z', hz, hc⟩ := good_cases h
  refine .inr ⟨z, Z', hz, ?_⟩
  clear h hz
  rcases hc with rfl | rfl | rfl | rfl | rfl
  · exact h1
  · exact h2
  · exact h3
  · exact h4
  · exact h5
theorem lead_none (f : Nat → Bool) {Z : By} (h : Z = [] ∨ ∃ c r', Z = c :: r' ∧ f c.toNat = false) : lead f Z = [] := by
  rcases h with rfl | ⟨c, r', rfl, h⟩
  · rfl
  · rw [lead_cons, if_neg (by simp [h])]
theorem lead_head (f : Nat → Bool) {c : UInt8} (r : By) (h : f c.toNat = true) : ∃ k, lead f (c :: r) = c :: k := ⟨lead f r, by rw [lead_cons, if_pos h]⟩

/-- A token's own bytes, and that nothing else tells. -/
def Local (x : By) (t : Tk) (r : By) : Prop := ∃ c k, x = (c :: k) ++ r ∧ t.kind ≠ 0 ∧ ∀ Z, Good Z → oneF ((c :: k) ++ Z) = .ok t Z

theorem one_name {c : UInt8} (h : leadN c.toNat = true) (r : By) : oneF (c :: r) = nameF (c :: r) := by simp only [oneF]; rw [if_pos h]
theorem one_numb {c : UInt8} (h : leadN c.toNat = false) (h2 : digitN c.toNat = true) (r : By) : oneF (c :: r) = numbF (c :: r) := by simp only [oneF]; rw [if_neg (by simp [h]), if_pos h2]
theorem one_quot {c : UInt8} (h : leadN c.toNat = false) (h2 : digitN c.toNat = false) (h3 : c = 34 ∨ c = 39) (r : By) : oneF (c :: r) = quotF c.toNat (c :: r) (r.length + 1) [] r := by simp only [oneF]; rw [if_neg (by simp [h]), if_neg (by simp [h2]), if_pos h3]
theorem one_sign {c : UInt8} (h : leadN c.toNat = false) (h2 : digitN c.toNat = false) (h3 : ¬ (c = 34 ∨ c = 39)) (r : By) : oneF (c :: r) = signT (c :: r) := by simp only [oneF]; rw [if_neg (by simp [h]), if_neg (by simp [h2]), if_neg h3]
theorem lead_cont {p : Nat} (h : leadN p = true) : contN p = true := by unfold contN; rw [h]; rfl

theorem local_name {c : UInt8} {r0 : By} (h : leadN c.toNat = true) {t : Tk} {r : By} (he : nameF (c :: r0) = .ok t r) : Local (c :: r0) t r := by
  obtain ⟨y, h1, h2, h3⟩ := lead_split contN (c :: r0)
  obtain ⟨k, hk⟩ := lead_head contN r0 (lead_cont h)
  unfold nameF at he
  rw [hk] at he h1 h2
  have hd : (c :: r0).drop (c :: k).length = y := by
    conv => lhs; rw [h1]
    rw [List.drop_left]
  split at he
  · cases he
  · rename_i hw
    rw [hd] at he
    simp only [Got.ok.injEq] at he
    obtain ⟨rfl, rfl⟩ := he
    refine ⟨c, k, h1, by simp only; split <;> simp, fun Z hZ => ?_⟩
    have hl : lead contN ((c :: k) ++ Z) = c :: k := lead_app contN _ _ h2 (good_not contN (by decide) (by decide) (by decide) (by decide) (by decide) hZ)
    rw [List.cons_append, one_name h]
    unfold nameF
    rw [← List.cons_append, hl, if_neg hw, List.drop_left]
theorem local_numb {c : UInt8} {r0 : By} (h : leadN c.toNat = false) (hd1 : digitN c.toNat = true) {t : Tk} {r : By} (he : numbF (c :: r0) = .ok t r) : Local (c :: r0) t r := by
  obtain ⟨y, h1, h2, h3⟩ := lead_split digitN (c :: r0)
  obtain ⟨k, hk⟩ := lead_head digitN r0 hd1
  unfold numbF at he
  rw [hk] at he h1 h2
  have hd : (c :: r0).drop (c :: k).length = y := by
    conv => lhs; rw [h1]
    rw [List.drop_left]
  rw [hd] at he
  cases hr : readF (c :: k) with
  | none => rw [hr] at he; cases he
  | some n =>
    rw [hr] at he
    simp only at he
    split at he
    · simp only [Got.ok.injEq] at he
      obtain ⟨rfl, rfl⟩ := he
      refine ⟨c, k, h1, by simp, fun Z hZ => ?_⟩
      have hl : lead digitN ((c :: k) ++ Z) = c :: k := lead_app digitN _ _ h2 (good_not digitN (by decide) (by decide) (by decide) (by decide) (by decide) hZ)
      have hl2 : lead leadN Z = [] := lead_none leadN (good_not leadN (by decide) (by decide) (by decide) (by decide) (by decide) hZ)
      rw [List.cons_append, one_numb h hd1]
      unfold numbF
      rw [← List.cons_append, hl, hr, List.drop_left]
      simp only [hl2, if_true]
    · cases he

theorem sign_mem {x t : By} (h : signF x = some t) : t ∈ signs ∧ ∃ r, x = t ++ r := by
  unfold signF at h
  refine ⟨List.mem_of_find?_eq_some h, ?_⟩
  have := List.find?_some h
  unfold Lib.hasPrefix at this
  obtain ⟨r, hr⟩ := List.isPrefixOf_iff_prefix.1 this
  exact ⟨r, hr.symm⟩
set_option maxRecDepth 10000 in
theorem sign_local {t : By} (h : t ∈ signs) {z : UInt8} (Z' : By) (h1 : z ≠ 61) (h2 : z ≠ 38) (h3 : z ≠ 124) : signF (t ++ z :: Z') = some t := by
  have k1 : (61 == z) = false := by simpa using h1.symm
  have k2 : (38 == z) = false := by simpa using h2.symm
  have k3 : (124 == z) = false := by simpa using h3.symm
  unfold signs at h
  simp only [List.mem_cons, List.not_mem_nil, or_false] at h
  rcases h with rfl | rfl | rfl | rfl | rfl | rfl | rfl | rfl | rfl | rfl | rfl | rfl | rfl | rfl | rfl | rfl | rfl | rfl | rfl | rfl | rfl | rfl | rfl | rfl | rfl | rfl <;>
    simp [signF, signs, List.find?, Lib.hasPrefix, List.isPrefixOf, k1, k2, k3]
theorem sign_ne {t : By} (h : t ∈ signs) : ∃ c k, t = c :: k := by
  cases t with
  | nil => exact absurd h (by decide)
  | cons c k => exact ⟨c, k, rfl⟩
theorem local_sign {c : UInt8} {r0 : By} (h : leadN c.toNat = false) (h2 : digitN c.toNat = false) (h3 : ¬ (c = 34 ∨ c = 39)) {t : Tk} {r : By} (he : signT (c :: r0) = .ok t r) : Local (c :: r0) t r := by
  unfold signT at he
  cases hs : signF (c :: r0) with
  | none => rw [hs] at he; cases he
  | some s =>
    rw [hs] at he
    obtain ⟨hm, r1, hr1⟩ := sign_mem hs
    obtain ⟨c', k, rfl⟩ := sign_ne hm
    have hcc : c = c' := by simpa using (congrArg List.head? hr1)
    subst hcc
    have hd : (c :: r0).drop (c :: k).length = r1 := by
      conv => lhs; rw [hr1]
      rw [List.drop_left]
    simp only [hd, Got.ok.injEq] at he
    obtain ⟨rfl, rfl⟩ := he
    refine ⟨c, k, hr1, by simp, fun Z hZ => ?_⟩
    obtain ⟨z, Z', rfl, hz⟩ := good_cases hZ
    have hne : z ≠ 61 ∧ z ≠ 38 ∧ z ≠ 124 := by rcases hz with rfl | rfl | rfl | rfl | rfl <;> decide
    rw [List.cons_append, one_sign h h2 h3]
    unfold signT
    rw [← List.cons_append, sign_local hm Z' hne.1 hne.2.1 hne.2.2]
    simp

/-! ### Strings -/
theorem esc_local {l : By} {n : Nat} (h : (escF l).2 = n) (hn : n ≠ 0) : n ≤ l.length ∧ 2 ≤ n ∧ ∀ m, escF (l.take n ++ m) = escF l := by
  match l, h with
  | [], h => simp [escF] at h; omega
  | [_], h => simp [escF] at h; omega
  | a :: c :: r, h =>
    simp only [escF] at h ⊢
    by_cases c1 : c = 110
    · simp only [c1, if_true] at h ⊢; subst h; simp [escF]
    · by_cases c2 : c = 116
      · subst c2; simp at h; subst h; simp [escF]
      · by_cases c3 : c = 92 ∨ c = 34 ∨ c = 39
        · simp only [c1, c2, c3, if_true, if_false] at h ⊢
          subst h
          refine ⟨by simp, by simp, fun m => ?_⟩
          simp only [List.take_succ_cons, List.take_zero, List.cons_append, List.nil_append, escF, c1, c2, c3, if_true, if_false]
        · by_cases c4 : c = 117
          · simp only [c1, c2, c3, c4, if_true, if_false] at h ⊢
            by_cases hr : r.length < 4
            · simp [hr] at h; omega
            · simp only [hr, if_false] at h ⊢
              cases hh : hexF 0 (r.take 4) with
              | none => rw [hh] at h; simp at h; omega
              | some u =>
                rw [hh] at h
                simp at h
                subst h
                refine ⟨by simp; omega, by simp, fun m => ?_⟩
                subst c4
                have e1 : (r.take 4).length = 4 := by rw [List.length_take]; omega
                simp only [List.take_succ_cons, List.cons_append, escF]
                have e2 : ¬ (r.take 4 ++ m).length < 4 := by rw [List.length_append]; omega
                have e3 : (r.take 4 ++ m).take 4 = r.take 4 := by rw [List.take_append_of_le_length (by omega), List.take_of_length_le (by omega)]
                simp [e3, hh, e1]
          · simp [c1, c2, c3, c4] at h; omega
theorem quot_succ (q : Nat) (l0 l : By) (f : Nat) (v : List Nat) : quotF q l0 (f + 1) v l = match l.drop (lead (runN q) l).length with
    | [] => .bad l0
    | c :: r => if endN c.toNat then .bad l0
      else if c = 92 then (if (escF (c :: r)).2 = 0 then .bad (c :: r) else quotF q l0 f (v ++ units ⟨(lead (runN q) l).toArray⟩ ++ [(escF (c :: r)).1]) ((c :: r).drop (escF (c :: r)).2))
      else if 10000 < (v ++ units ⟨(lead (runN q) l).toArray⟩).length then .bad l0
      else .ok ⟨4, 0, ⟨(text (v ++ units ⟨(lead (runN q) l).toArray⟩)).toArray⟩⟩ r := rfl
/-- A closed string's own bytes. -/
theorem quot_local (q : Nat) (l0 : By) : ∀ (f : Nat) (v : List Nat) (l : By) (t : Tk) (r : By), quotF q l0 f v l = .ok t r →
    ∃ k, l = k ++ r ∧ t.kind = 4 ∧ ∀ (Z l1 : By) (f' : Nat), (k ++ Z).length < f' → quotF q l1 f' v (k ++ Z) = .ok t Z
  | 0, v, l, t, r, h => by simp [quotF] at h
  | f + 1, v, l, t, r, h => by
    rw [quot_succ] at h
    obtain ⟨y, h1, h2, h3⟩ := lead_split (runN q) l
    obtain ⟨m, hm⟩ : ∃ m, lead (runN q) l = m := ⟨_, rfl⟩
    rw [hm] at h h1 h2
    have hd : l.drop m.length = y := by
      conv => lhs; rw [h1]
      rw [List.drop_left]
    rw [hd] at h
    cases y with
    | nil => cases h
    | cons c y =>
      have hcs : runN q c.toNat = false := by
        rcases h3 with h3 | ⟨c', r', h3, h4⟩
        · cases h3
        · cases h3; exact h4
      simp only at h
      by_cases he : endN c.toNat = true
      · rw [if_pos he] at h; cases h
      · rw [if_neg he] at h
        have hrun : ∀ X, lead (runN q) (m ++ c :: X) = m := fun X => lead_app (runN q) m (c :: X) h2 (.inr ⟨c, X, rfl, hcs⟩)
        by_cases h92 : c = 92
        · rw [if_pos h92] at h
          by_cases hn0 : (escF (c :: y)).2 = 0
          · rw [if_pos hn0] at h; cases h
          · rw [if_neg hn0] at h
            obtain ⟨k, hk, ht, hZ⟩ := quot_local q l0 f _ _ t r h
            obtain ⟨n, hn⟩ : ∃ n, (escF (c :: y)).2 = n := ⟨_, rfl⟩
            obtain ⟨e1, e2, e3⟩ := esc_local hn (by rw [← hn]; exact hn0)
            rw [hn] at hk hn0
            have hsplit : c :: y = (c :: y).take n ++ (k ++ r) := by rw [← hk, List.take_append_drop]
            obtain ⟨n', rfl⟩ : ∃ n', n = n' + 1 := ⟨n - 1, by omega⟩
            refine ⟨m ++ (c :: y).take (n' + 1) ++ k, ?_, ht, ?_⟩
            · rw [h1]
              conv => lhs; rw [hsplit]
              simp
            · intro Z l1 f' hf'
              obtain ⟨f'', rfl⟩ : ∃ f'', f' = f'' + 1 := ⟨f' - 1, by omega⟩
              rw [quot_succ]
              have ea : m ++ (c :: y).take (n' + 1) ++ k ++ Z = m ++ c :: (y.take n' ++ (k ++ Z)) := by simp
              have eb : c :: (y.take n' ++ (k ++ Z)) = (c :: y).take (n' + 1) ++ (k ++ Z) := by simp
              rw [ea, hrun, List.drop_left]
              simp only
              rw [if_neg he, if_pos h92, eb, e3, hn, if_neg hn0]
              have ec : ((c :: y).take (n' + 1) ++ (k ++ Z)).drop (n' + 1) = k ++ Z := by
                have : ((c :: y).take (n' + 1)).length = n' + 1 := by rw [List.length_take]; omega
                conv => lhs; arg 1; rw [← this]
                rw [List.drop_left]
              rw [ec]
              refine hZ Z l1 f'' ?_
              have : (m ++ (c :: y).take (n' + 1) ++ k ++ Z).length = m.length + (n' + 1) + (k ++ Z).length := by simp; simp at e1; omega
              omega
        · rw [if_neg h92] at h
          by_cases hb : 10000 < (v ++ units ⟨m.toArray⟩).length
          · rw [if_pos hb] at h; cases h
          · rw [if_neg hb] at h
            simp only [Got.ok.injEq] at h
            obtain ⟨rfl, rfl⟩ := h
            refine ⟨m ++ [c], by rw [h1]; simp, rfl, ?_⟩
            intro Z l1 f' hf'
            obtain ⟨f'', rfl⟩ : ∃ f'', f' = f'' + 1 := ⟨f' - 1, by omega⟩
            rw [quot_succ]
            have ea : m ++ [c] ++ Z = m ++ c :: Z := by simp
            rw [ea, hrun, List.drop_left]
            simp only
            rw [if_neg he, if_neg h92, if_neg hb]
theorem local_quot {c : UInt8} {r0 : By} (h : leadN c.toNat = false) (h2 : digitN c.toNat = false) (h3 : c = 34 ∨ c = 39) {t : Tk} {r : By} (he : quotF c.toNat (c :: r0) (r0.length + 1) [] r0 = .ok t r) : Local (c :: r0) t r := by
  obtain ⟨k, hk, ht, hZ⟩ := quot_local _ _ _ _ _ _ _ he
  refine ⟨c, k, by rw [hk]; rfl, by omega, fun Z _ => ?_⟩
  rw [List.cons_append, one_quot h h2 h3]
  exact hZ Z _ _ (Nat.lt_succ_self _)

theorem one_local {x : By} {t : Tk} {r : By} (he : oneF x = .ok t r) : (x = [] ∧ r = [] ∧ t = ⟨0, 0, ⟨#[]⟩⟩) ∨ Local x t r := by
  cases x with
  | nil =>
    simp only [oneF, Got.ok.injEq] at he
    exact .inl ⟨rfl, he.2.symm, he.1.symm⟩
  | cons c r0 =>
    right
    cases h : leadN c.toNat with
    | true => rw [one_name h] at he; exact local_name h he
    | false =>
      cases h2 : digitN c.toNat with
      | true => rw [one_numb h h2] at he; exact local_numb h h2 he
      | false =>
        by_cases h3 : c = 34 ∨ c = 39
        · rw [one_quot h h2 h3] at he; exact local_quot h h2 h3 he
        · rw [one_sign h h2 h3] at he; exact local_sign h h2 h3 he
end Go.Proofs.YtlboaldikgonoaaDoor.Lx
