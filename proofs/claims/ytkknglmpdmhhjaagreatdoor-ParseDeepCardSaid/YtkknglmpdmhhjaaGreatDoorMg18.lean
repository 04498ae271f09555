/-
  Texts of this seat in build order: LxTok, LxUnd, LxTi.
-/
import Derived.Test.YtkknglmpdmhhjaaGreatDoorMg07
import Derived.Test.YtkknglmpdmhhjaaGreatDoorMg17
import Derived.Test.YtkknglmpdmhhjaaGreatDoorMg15
/-
  One token speaks of its own bytes alone: plain mathematics.
-/
namespace Go.Proofs.YtkknglmpdmhhjaaGreatDoor.Lx
open Go.Proofs.YtkknglmpdmhhjaaGreatDoor.Uni Go.Proofs.YtkknglmpdmhhjaaGreatDoor.Nums
set_option linter.unusedVariables false
set_option linter.unusedSimpArgs false

/-- What may stand behind a token in the place of r. -/
def Good (Z : By) : Prop := ∃ z Z', Z = z :: Z' ∧ (whiteN z.toNat = true ∨ z = 47)
theorem white_cases {z : UInt8} (h : whiteN z.toNat = true) : z = 32 ∨ z = 9 ∨ z = 10 ∨ z = 13 := by
  have k : ∀ n : Nat, n < 256 → z.toNat = n → z = UInt8.ofNat n := fun n hn e => by apply UInt8.toNat_inj.1; simp; omega
  unfold whiteN endN at h
  simp at h
  rcases h with h | h | h | h
  · exact .inl (k 32 (by decide) h)
  · exact .inr (.inl (k 9 (by decide) h))
  · exact .inr (.inr (.inl (k 10 (by decide) h)))
  · exact .inr (.inr (.inr (k 13 (by decide) h)))
theorem good_cases {Z : By} (h : Good Z) : ∃ z Z', Z = z :: Z' ∧ (z = 32 ∨ z = 9 ∨ z = 10 ∨ z = 13 ∨ z = 47) := by
  obtain ⟨z, Z', e, h | h⟩ := h
  · rcases white_cases h with h | h | h | h
    · exact ⟨z, Z', e, .inl h⟩
    · exact ⟨z, Z', e, .inr (.inl h)⟩
    · exact ⟨z, Z', e, .inr (.inr (.inl h))⟩
    · exact ⟨z, Z', e, .inr (.inr (.inr (.inl h)))⟩
  · exact ⟨z, Z', e, .inr (.inr (.inr (.inr h)))⟩
theorem good_not (f : Nat → Bool) (h1 : f 32 = false) (h2 : f 9 = false) (h3 : f 10 = false) (h4 : f 13 = false) (h5 : f 47 = false) {Z : By} (h : Good Z) : Z = [] ∨ ∃ c r', Z = c :: r' ∧ f c.toNat = false := by
  obtain ⟨z, Z', hz, hc⟩ := good_cases h
  refine .inr ⟨z, Z', hz, ?_⟩
  clear h hz
  rcases hc with rfl | rfl | rfl | rfl | rfl
  · exact h1
  · exact h2
  · exact h3
  · exact h4
  · exact h5
theorem lead_none (f : Nat → Bool) {Z : By} (h : Z = [] ∨ ∃ c r', Z = c :: r' ∧ f c.toNat = false) : lead f Z = [] := by
  rcases h with rfl | ⟨c, r', rfl, h⟩
  · rfl
  · rw [lead_cons, if_neg (by simp [h])]
theorem lead_head (f : Nat → Bool) {c : UInt8} (r : By) (h : f c.toNat = true) : ∃ k, lead f (c :: r) = c :: k := ⟨lead f r, by rw [lead_cons, if_pos h]⟩

/-- A token's own bytes, and that nothing else tells. -/
def Local (x : By) (t : Tk) (r : By) : Prop := ∃ c k, x = (c :: k) ++ r ∧ t.kind ≠ 0 ∧ ∀ Z, Good Z → oneF ((c :: k) ++ Z) = .ok t Z

theorem one_name {c : UInt8} (h : leadN c.toNat = true) (r : By) : oneF (c :: r) = nameF (c :: r) := by simp only [oneF]; rw [if_pos h]
theorem one_numb {c : UInt8} (h : leadN c.toNat = false) (h2 : digitN c.toNat = true) (r : By) : oneF (c :: r) = numbF (c :: r) := by simp only [oneF]; rw [if_neg (by simp [h]), if_pos h2]
theorem one_quot {c : UInt8} (h : leadN c.toNat = false) (h2 : digitN c.toNat = false) (h3 : c = 34 ∨ c = 39) (r : By) : oneF (c :: r) = quotF c.toNat (c :: r) (r.length + 1) [] r := by simp only [oneF]; rw [if_neg (by simp [h]), if_neg (by simp [h2]), if_pos h3]
theorem one_sign {c : UInt8} (h : leadN c.toNat = false) (h2 : digitN c.toNat = false) (h3 : ¬ (c = 34 ∨ c = 39)) (r : By) : oneF (c :: r) = signT (c :: r) := by simp only [oneF]; rw [if_neg (by simp [h]), if_neg (by simp [h2]), if_neg h3]
theorem lead_cont {p : Nat} (h : leadN p = true) : contN p = true := by unfold contN; rw [h]; rfl

theorem local_name {c : UInt8} {r0 : By} (h : leadN c.toNat = true) {t : Tk} {r : By} (he : nameF (c :: r0) = .ok t r) : Local (c :: r0) t r := by
  obtain ⟨y, h1, h2, h3⟩ := lead_split contN (c :: r0)
  obtain ⟨k, hk⟩ := lead_head contN r0 (lead_cont h)
  unfold nameF at he
  rw [hk] at he h1 h2
  have hd : (c :: r0).drop (c :: k).length = y := by
    conv => lhs; rw [h1]
    rw [List.drop_left]
  split at he
  · cases he
  · rename_i hw
    rw [hd] at he
    simp only [Got.ok.injEq] at he
    obtain ⟨rfl, rfl⟩ := he
    refine ⟨c, k, h1, by simp only; split <;> simp, fun Z hZ => ?_⟩
    have hl : lead contN ((c :: k) ++ Z) = c :: k := lead_app contN _ _ h2 (good_not contN (by decide) (by decide) (by decide) (by decide) (by decide) hZ)
    rw [List.cons_append, one_name h]
    unfold nameF
    rw [← List.cons_append, hl, if_neg hw, List.drop_left]
theorem local_numb {c : UInt8} {r0 : By} (h : leadN c.toNat = false) (hd1 : digitN c.toNat = true) {t : Tk} {r : By} (he : numbF (c :: r0) = .ok t r) : Local (c :: r0) t r := by
  obtain ⟨y, h1, h2, h3⟩ := lead_split digitN (c :: r0)
  obtain ⟨k, hk⟩ := lead_head digitN r0 hd1
  unfold numbF at he
  rw [hk] at he h1 h2
  have hd : (c :: r0).drop (c :: k).length = y := by
    conv => lhs; rw [h1]
    rw [List.drop_left]
  rw [hd] at he
  cases hr : readF (c :: k) with
  | none => rw [hr] at he; cases he
  | some n =>
    rw [hr] at he
    simp only at he
    split at he
    · simp only [Got.ok.injEq] at he
      obtain ⟨rfl, rfl⟩ := he
      refine ⟨c, k, h1, by simp, fun Z hZ => ?_⟩
      have hl : lead digitN ((c :: k) ++ Z) = c :: k := lead_app digitN _ _ h2 (good_not digitN (by decide) (by decide) (by decide) (by decide) (by decide) hZ)
      have hl2 : lead leadN Z = [] := lead_none leadN (good_not leadN (by decide) (by decide) (by decide) (by decide) (by decide) hZ)
      rw [List.cons_append, one_numb h hd1]
      unfold numbF
      rw [← List.cons_append, hl, hr, List.drop_left]
      simp only [hl2, if_true]
    · cases he

theorem sign_mem {x t : By} (h : signF x = some t) : t ∈ signs ∧ ∃ r, x = t ++ r := by
  unfold signF at h
  refine ⟨List.mem_of_find?_eq_some h, ?_⟩
  have := List.find?_some h
  unfold Lib.hasPrefix at this
  obtain ⟨r, hr⟩ := List.isPrefixOf_iff_prefix.1 this
  exact ⟨r, hr.symm⟩
set_option maxRecDepth 10000 in
theorem sign_local {t : By} (h : t ∈ signs) {z : UInt8} (Z' : By) (h1 : z ≠ 61) (h2 : z ≠ 38) (h3 : z ≠ 124) : signF (t ++ z :: Z') = some t := by
  have k1 : (61 == z) = false := by simpa using h1.symm
  have k2 : (38 == z) = false := by simpa using h2.symm
  have k3 : (124 == z) = false := by simpa using h3.symm
  unfold signs at h
  simp only [List.mem_cons, List.not_mem_nil, or_false] at h
  rcases h with rfl | rfl | rfl | rfl | rfl | rfl | rfl | rfl | rfl | rfl | rfl | rfl | rfl | rfl | rfl | rfl | rfl | rfl | rfl | rfl | rfl | rfl | rfl | rfl | rfl | rfl <;>
    simp [signF, signs, List.find?, Lib.hasPrefix, List.isPrefixOf, k1, k2, k3]
theorem sign_ne {t : By} (h : t ∈ signs) : ∃ c k, t = c :: k := by
  cases t with
  | nil => exact absurd h (by decide)
  | cons c k => exact ⟨c, k, rfl⟩
theorem local_sign {c : UInt8} {r0 : By} (h : leadN c.toNat = false) (h2 : digitN c.toNat = false) (h3 : ¬ (c = 34 ∨ c = 39)) {t : Tk} {r : By} (he : signT (c :: r0) = .ok t r) : Local (c :: r0) t r := by
  unfold signT at he
  cases hs : signF (c :: r0) with
  | none => rw [hs] at he; cases he
  | some s =>
    rw [hs] at he
    obtain ⟨hm, r1, hr1⟩ := sign_mem hs
    obtain ⟨c', k, rfl⟩ := sign_ne hm
    have hcc : c = c' := by simpa using (congrArg List.head? hr1)
    subst hcc
    have hd : (c :: r0).drop (c :: k).length = r1 := by
      conv => lhs; rw [hr1]
      rw [List.drop_left]
    simp only [hd, Got.ok.injEq] at he
    obtain ⟨rfl, rfl⟩ := he
    refine ⟨c, k, hr1, by simp, fun Z hZ => ?_⟩
    obtain ⟨z, Z', rfl, hz⟩ := good_cases hZ
    have hne : z ≠ 61 ∧ z ≠ 38 ∧ z ≠ 124 := by rcases hz with rfl | rfl | rfl | rfl | rfl <;> decide
    rw [List.cons_append, one_sign h h2 h3]
    unfold signT
    rw [← List.cons_append, sign_local hm Z' hne.1 hne.2.1 hne.2.2]
    simp

/-! ### Strings -/
theorem esc_local {l : By} {n : Nat} (h : (escF l).2 = n) (hn : n ≠ 0) : n ≤ l.length ∧ 2 ≤ n ∧ ∀ m, escF (l.take n ++ m) = escF l := by
  match l, h with
  | [], h => simp [escF] at h; omega
  | [_], h => simp [escF] at h; omega
  | a :: c :: r, h =>
    simp only [escF] at h ⊢
    by_cases c1 : c = 110
    · simp only [c1, if_true] at h ⊢; subst h; simp [escF]
    · by_cases c2 : c = 116
      · subst c2; simp at h; subst h; simp [escF]
      · by_cases c3 : c = 92 ∨ c = 34 ∨ c = 39
        · simp only [c1, c2, c3, if_true, if_false] at h ⊢
          subst h
          refine ⟨by simp, by simp, fun m => ?_⟩
          simp only [List.take_succ_cons, List.take_zero, List.cons_append, List.nil_append, escF, c1, c2, c3, if_true, if_false]
        · by_cases c4 : c = 117
          · simp only [c1, c2, c3, c4, if_true, if_false] at h ⊢
            by_cases hr : r.length < 4
            · simp [hr] at h; omega
            · simp only [hr, if_false] at h ⊢
              cases hh : hexF 0 (r.take 4) with
              | none => rw [hh] at h; simp at h; omega
              | some u =>
                rw [hh] at h
                simp at h
                subst h
                refine ⟨by simp; omega, by simp, fun m => ?_⟩
                subst c4
                have e1 : (r.take 4).length = 4 := by rw [List.length_take]; omega
                simp only [List.take_succ_cons, List.cons_append, escF]
                have e2 : ¬ (r.take 4 ++ m).length < 4 := by rw [List.length_append]; omega
                have e3 : (r.take 4 ++ m).take 4 = r.take 4 := by rw [List.take_append_of_le_length (by omega), List.take_of_length_le (by omega)]
                simp [e3, hh, e1]
          · simp [c1, c2, c3, c4] at h; omega
theorem quot_succ (q : Nat) (l0 l : By) (f : Nat) (v : List Nat) : quotF q l0 (f + 1) v l = match l.drop (lead (runN q) l).length with
    | [] => .bad l0
    | c :: r => if endN c.toNat then .bad l0
      else if c = 92 then (if (escF (c :: r)).2 = 0 then .bad (c :: r) else quotF q l0 f (v ++ units ⟨(lead (runN q) l).toArray⟩ ++ [(escF (c :: r)).1]) ((c :: r).drop (escF (c :: r)).2))
      else if 10000 < (v ++ units ⟨(lead (runN q) l).toArray⟩).length then .bad l0
      else .ok ⟨4, 0, ⟨(text (v ++ units ⟨(lead (runN q) l).toArray⟩)).toArray⟩⟩ r := rfl
/-- A closed string's own bytes. -/
theorem quot_local (q : Nat) (l0 : By) : ∀ (f : Nat) (v : List Nat) (l : By) (t : Tk) (r : By), quotF q l0 f v l = .ok t r →
    ∃ k, l = k ++ r ∧ t.kind = 4 ∧ ∀ (Z l1 : By) (f' : Nat), (k ++ Z).length < f' → quotF q l1 f' v (k ++ Z) = .ok t Z
  | 0, v, l, t, r, h => by simp [quotF] at h
  | f + 1, v, l, t, r, h => by
    rw [quot_succ] at h
    obtain ⟨y, h1, h2, h3⟩ := lead_split (runN q) l
    obtain ⟨m, hm⟩ : ∃ m, lead (runN q) l = m := ⟨_, rfl⟩
    rw [hm] at h h1 h2
    have hd : l.drop m.length = y := by
      conv => lhs; rw [h1]
      rw [List.drop_left]
    rw [hd] at h
    cases y with
    | nil => cases h
    | cons c y =>
      have hcs : runN q c.toNat = false := by
        rcases h3 with h3 | ⟨c', r', h3, h4⟩
        · cases h3
        · cases h3; exact h4
      simp only at h
      by_cases he : endN c.toNat = true
      · rw [if_pos he] at h; cases h
      · rw [if_neg he] at h
        have hrun : ∀ X, lead (runN q) (m ++ c :: X) = m := fun X => lead_app (runN q) m (c :: X) h2 (.inr ⟨c, X, rfl, hcs⟩)
        by_cases h92 : c = 92
        · rw [if_pos h92] at h
          by_cases hn0 : (escF (c :: y)).2 = 0
          · rw [if_pos hn0] at h; cases h
          · rw [if_neg hn0] at h
            obtain ⟨k, hk, ht, hZ⟩ := quot_local q l0 f _ _ t r h
            obtain ⟨n, hn⟩ : ∃ n, (escF (c :: y)).2 = n := ⟨_, rfl⟩
            obtain ⟨e1, e2, e3⟩ := esc_local hn (by rw [← hn]; exact hn0)
            rw [hn] at hk hn0
            have hsplit : c :: y = (c :: y).take n ++ (k ++ r) := by rw [← hk, List.take_append_drop]
            obtain ⟨n', rfl⟩ : ∃ n', n = n' + 1 := ⟨n - 1, by omega⟩
            refine ⟨m ++ (c :: y).take (n' + 1) ++ k, ?_, ht, ?_⟩
            · rw [h1]
              conv => lhs; rw [hsplit]
              simp
            · intro Z l1 f' hf'
              obtain ⟨f'', rfl⟩ : ∃ f'', f' = f'' + 1 := ⟨f' - 1, by omega⟩
              rw [quot_succ]
              have ea : m ++ (c :: y).take (n' + 1) ++ k ++ Z = m ++ c :: (y.take n' ++ (k ++ Z)) := by simp
              have eb : c :: (y.take n' ++ (k ++ Z)) = (c :: y).take (n' + 1) ++ (k ++ Z) := by simp
              rw [ea, hrun, List.drop_left]
              simp only
              rw [if_neg he, if_pos h92, eb, e3, hn, if_neg hn0]
              have ec : ((c :: y).take (n' + 1) ++ (k ++ Z)).drop (n' + 1) = k ++ Z := by
                have : ((c :: y).take (n' + 1)).length = n' + 1 := by rw [List.length_take]; omega
                conv => lhs; arg 1; rw [← this]
                rw [List.drop_left]
              rw [ec]
              refine hZ Z l1 f'' ?_
              have : (m ++ (c :: y).take (n' + 1) ++ k ++ Z).length = m.length + (n' + 1) + (k ++ Z).length := by simp; simp at e1; omega
              omega
        · rw [if_neg h92] at h
          by_cases hb : 10000 < (v ++ units ⟨m.toArray⟩).length
          · rw [if_pos hb] at h; cases h
          · rw [if_neg hb] at h
            simp only [Got.ok.injEq] at h
            obtain ⟨rfl, rfl⟩ := h
            refine ⟨m ++ [c], by rw [h1]; simp, rfl, ?_⟩
            intro Z l1 f' hf'
            obtain ⟨f'', rfl⟩ : ∃ f'', f' = f'' + 1 := ⟨f' - 1, by omega⟩
            rw [quot_succ]
            have ea : m ++ [c] ++ Z = m ++ c :: Z := by simp
            rw [ea, hrun, List.drop_left]
            simp only
            rw [if_neg he, if_neg h92, if_neg hb]
theorem local_quot {c : UInt8} {r0 : By} (h : leadN c.toNat = false) (h2 : digitN c.toNat = false) (h3 : c = 34 ∨ c = 39) {t : Tk} {r : By} (he : quotF c.toNat (c :: r0) (r0.length + 1) [] r0 = .ok t r) : Local (c :: r0) t r := by
  obtain ⟨k, hk, ht, hZ⟩ := quot_local _ _ _ _ _ _ _ he
  refine ⟨c, k, by rw [hk]; rfl, by omega, fun Z _ => ?_⟩
  rw [List.cons_append, one_quot h h2 h3]
  exact hZ Z _ _ (Nat.lt_succ_self _)

theorem one_local {x : By} {t : Tk} {r : By} (he : oneF x = .ok t r) : (x = [] ∧ r = [] ∧ t = ⟨0, 0, ⟨#[]⟩⟩) ∨ Local x t r := by
  cases x with
  | nil =>
    simp only [oneF, Got.ok.injEq] at he
    exact .inl ⟨rfl, he.2.symm, he.1.symm⟩
  | cons c r0 =>
    right
    cases h : leadN c.toNat with
    | true => rw [one_name h] at he; exact local_name h he
    | false =>
      cases h2 : digitN c.toNat with
      | true => rw [one_numb h h2] at he; exact local_numb h h2 he
      | false =>
        by_cases h3 : c = 34 ∨ c = 39
        · rw [one_quot h h2 h3] at he; exact local_quot h h2 h3 he
        · rw [one_sign h h2 h3] at he; exact local_sign h h2 h3 he
end Go.Proofs.YtkknglmpdmhhjaaGreatDoor.Lx

/-
  lex.undecodable.
-/
namespace Go.Proofs.YtkknglmpdmhhjaaGreatDoor.Lx
open Go Go.RowKit Go.Proofs.YtkknglmpdmhhjaaGreatDoor.Uni
set_option linter.unusedVariables false
set_option linter.unusedSimpArgs false

/-- The first place, from i on, at which nothing is encoded. -/
def badF (s : ByteArray) : Nat → Nat → Option Nat
  | 0, _ => none
  | f + 1, i => if i < s.size then (if Utf8.decode s i = (65533, 1) then some i else badF s f (i + (Utf8.decode s i).2)) else none
def badS (s : ByteArray) : Option Nat := badF s s.size 0
theorem badF_end {s : ByteArray} {f i : Nat} (h : ¬ i < s.size) : badF s f i = none := by
  cases f with
  | zero => rfl
  | succ f => simp only [badF]; rw [if_neg h]
theorem badF_hit {s : ByteArray} {f i : Nat} (h : i < s.size) (hd : Utf8.decode s i = (65533, 1)) : badF s (f + 1) i = some i := by simp only [badF]; rw [if_pos h, if_pos hd]
theorem badF_step {s : ByteArray} {f i : Nat} (h : i < s.size) (hd : ¬ Utf8.decode s i = (65533, 1)) : badF s (f + 1) i = badF s f (i + (Utf8.decode s i).2) := by simp only [badF]; rw [if_pos h, if_neg hd]

def UInv (s : ByteArray) (w0 : World) (wr : World) : Prop :=
  ∃ pos f, pos ≤ s.size ∧ s.size ≤ pos + f ∧ badS s = badF s f pos ∧ wr.heap[w0.heap.size]? = some (.stringIter s pos) ∧ Below w0.heap.size w0 wr

set_option maxHeartbeats 1000000 in
theorem und_any (s : ByteArray) (w : World) (hs : s.size ≤ 1000000) :
    Calls Tryz.prog 42 #[.string s] w fun e w' => e = .returned (.tuple #[.int .i64 ((badS s).getD 0 : Nat), .bool (badS s).isSome]) ∧ Below w.heap.size w w' := by
  go_enter Tryz.func42, Tryz.ntmps42
  go_wp2
  go_loopw [] (fun wr => UInv s w wr) (fun wr => s.size - wr.iterPos w.heap.size)
  case atStart => exact ⟨0, s.size, Nat.zero_le _, by omega, rfl, World.iter_heap _ _ _, iter_below (Nat.le_refl _) s⟩
  case round =>
    obtain ⟨pos, f, hps, hfu, hbad, hit, hbel⟩ := hrel
    by_cases hp : pos < s.size
    · obtain ⟨f', rfl⟩ : ∃ f', f = f' + 1 := ⟨f - 1, by omega⟩
      have hnx : ∀ ty, (Instr.next (.pointer (some ⟨w.heap.size, 0, none⟩)) true ty).run Tryz.prog wr = _ := fun ty => Lib.run_next_any_at wr w.heap.size s pos ty hit hp
      have hcur := decode_cases s pos hp
      have hsz : (pos : Int) ≤ s.size := by omega
      by_cases hd : Utf8.decode s pos = (65533, 1)
      · rw [badF_hit hp hd] at hbad
        have hb2 : Below w.heap.size w (wr.iterAt w.heap.size s (pos + 1)) := Lib.below_iterAt hbel (Nat.le_refl _) s (pos + 1)
        rw [hd] at hnx
        have HBAD := Lib.hid hbad
        have HDD := Lib.hid hd
        clear hcur hbad hd
        go_wp2_with (go_at_call 73; refine (pre_no s pos _ (by rw [HDD.out]; simp)).mono ?_; rintro e w' ⟨rfl, rfl⟩)
        go_ret2
        exact ⟨by rw [HBAD.out]; rfl, hb2⟩
      · have hcur := hcur.resolve_left hd
        rw [badF_step hp hd] at hbad
        obtain ⟨r, n, hrn⟩ : ∃ r n, Utf8.decode s pos = (r, n) := ⟨_, _, rfl⟩
        rw [hrn] at hcur hnx hbad
        simp only at hcur
        obtain ⟨hn1, hn2, hn3, hr1, hr2, hr3⟩ := hcur
        have hh := Lib.iterAt_heap wr w.heap.size s pos (pos + n) hit
        have hb2 : Below w.heap.size w (wr.iterAt w.heap.size s (pos + n)) := Lib.below_iterAt hbel (Nat.le_refl _) s (pos + n)
        have HBAD := Lib.hid hbad
        clear hbad hr2 hd
        by_cases hff : r = 65533
        · have hn := hr3 hff
          subst hff hn
          clear hr3
          go_wp2_with (go_at_call 73; refine (pre_yes s pos _ hrn).mono ?_; rintro e w' ⟨rfl, rfl⟩)
          go_roundw
          case rel => exact ⟨pos + 3, f', hn2, by omega, HBAD.out, hh, hb2⟩
          case measure => simp only [World.iterPos, hh, hit]; omega
        · have hff2 : ((r : Int) == 65533) = false := by simp; omega
          clear hff hr3 hrn
          go_wp2
          go_roundw
          case rel => exact ⟨pos + n, f', hn2, by omega, HBAD.out, hh, hb2⟩
          case measure => simp only [World.iterPos, hh, hit]; omega
    · have hnx : ∀ ty, (Instr.next (.pointer (some ⟨w.heap.size, 0, none⟩)) true ty).run Tryz.prog wr = _ := fun ty => Lib.run_next_end_at wr w.heap.size s pos ty hit hp
      rw [badF_end hp] at hbad
      have HBAD := Lib.hid hbad
      clear hbad
      go_wp2
      go_ret2
      exact ⟨by rw [HBAD.out]; rfl, hbel⟩
end Go.Proofs.YtkknglmpdmhhjaaGreatDoor.Lx

/-
  lex.Tokens.
-/
namespace Go.Proofs.YtkknglmpdmhhjaaGreatDoor.Lx
open Go Go.RowKit Go.Maps Go.Proofs.YtkknglmpdmhhjaaGreatDoor.Uni
set_option linter.unusedVariables false
set_option linter.unusedSimpArgs false

theorem kcs_list (t : Tok) : (kcs t).toList.length = 4 := rfl
theorem kcs_one' (t : Tok) : ∀ u ∈ (kcs t).toList, u.oneCell' = true := fun u hu => by
  have h := kcs_one t
  rw [Array.all_eq_true_iff_forall_mem] at h
  exact h u (by simpa using hu)
theorem zeroK_cells : (Value.agg (kcs zeroK)).cells.size = 4 := rfl
def BsK (ps : Array (Nat × Value)) : Sem Value := Instr.buildSlice 40 1 ps
theorem bsK (ps : Array (Nat × Value)) : Instr.buildSlice 40 1 ps = BsK ps := (rfl)
theorem run_bsK (w : World) (t : Tok) : (BsK #[(0, .agg (kcs t))]).run Tryz.prog w = .ok (.slice (some ⟨w.heap.size, 0, none⟩) 1 1) (w.alloc (.cells (kcs t) 79)) := by
  obtain ⟨i, hi, hz, hs, hb⟩ := info_parts infoK3
  exact run_buildSlice w 40 79 1 _ (kcs t) i (.agg (kcs zeroK)) Tryz.underlying40 hi hz (by rw [hs]; decide) (by rw [hs]; decide) (by rw [hs]; have h := Go.Great.fill_whole (s := 4) (by decide) [.agg (kcs t)] ((Array.range (1 * 4)).map ((Value.agg (kcs zeroK)).cells[· % (Value.agg (kcs zeroK)).cells.size]!)) (fun v hv => by rw [List.mem_singleton.1 hv]; rfl) (by simp); simpa [Value.cells] using h)
theorem new_cells (w : World) (g : Nat) (hg : g = w.heap.size) (t : Tok) : ∀ j v, (kcs t).toList[j]? = some v → (w.alloc (.cells (kcs t) 79)).cell? ((⟨g, 0, none⟩ : Addr).add j) = some v := fun j v hv => by
  subst hg
  have ha : (⟨w.heap.size, 0, none⟩ : Addr).add j = ⟨w.heap.size, j, none⟩ := by unfold Addr.add; split <;> simp_all
  rw [ha, (Blk.new w (kcs t) _).cell]
  simpa using hv

/-- Tokens as cells. -/
def tcells (l : List Tok) : List Value := l.flatMap fun t => (kcs t).toList
theorem tcells_snoc (l : List Tok) (t : Tok) : tcells (l ++ [t]) = tcells l ++ (kcs t).toList := by simp [tcells]

/-- What Tokens gives: the error, its place, the tokens. -/
def tokOf (N : Nat) (p : Tk × Nat) : Tok := ⟨p.1.kind, ((N - p.2 : Nat) : Int), p.1.num, p.1.text⟩
def lexT (s : ByteArray) : Nat × Nat × List Tok :=
  if 65536 < s.size then (3, 0, []) else match badS s with
    | some i => (2, i, [])
    | none => match lexF (s.size + 1) s.data.toList with
      | .error n => (2, s.size - n, [])
      | .ok ts => (0, 0, ts.map (tokOf s.size))
def TokPost (s : ByteArray) (w : World) (e : Ending) (w' : World) : Prop :=
  ∃ v, e = .returned (.tuple #[v, .int .i64 ((lexT s).2.1 : Nat), .int .i64 ((lexT s).1 : Nat)]) ∧ w'.ownsRow w.heap.size 79 4 v (lexT s).2.2.length (tcells (lexT s).2.2) ∧ Below w.heap.size w w'

theorem lex_succ (f : Nat) (l : By) : lexF (f + 1) l = match nextF l with
    | .bad r => .error r.length
    | .ok t r => if t.kind = 0 then .ok [(t, (skipL l).2.length)] else match lexF f r with
      | .error n => .error n
      | .ok ts => .ok ((t, (skipL l).2.length) :: ts) := rfl
theorem next_prog {l : By} {t : Tk} {r : By} (h : nextF l = .ok t r) : (t.kind = 0 ∧ r = []) ∨ (t.kind ≠ 0 ∧ r.length < l.length) := by
  unfold nextF at h
  obtain ⟨k, hk⟩ := sk_suffix (skipL_sk l)
  cases hs : skipL l with
  | mk o x =>
    rw [hs] at h hk
    cases o with
    | false => cases h
    | true =>
      simp only at h hk
      rcases one_local h with ⟨rfl, rfl, rfl⟩ | ⟨c, k2, h1, h2, -⟩
      · exact .inl ⟨rfl, rfl⟩
      · refine .inr ⟨h2, ?_⟩
        have e1 := congrArg List.length hk
        have e2 := congrArg List.length h1
        rw [List.length_append] at e1 e2
        simp at e2
        omega

/-- Where the loop stands. -/
structure TI (s : ByteArray) (w wr : World) (done : List (Tk × Nat)) (a f : Nat) (v : Value) : Prop where
  bel : Below w.heap.size w wr
  rd : Rd wr w.heap.size s a
  hi : a ≤ s.size
  own : wr.ownsRow (w.heap.size + 1) 79 4 v done.length (tcells (done.map (tokOf s.size)))
  size : w.heap.size + 1 ≤ wr.heap.size
  fu : s.size < a + f
  len : done.length ≤ a
  eq : lexF (s.size + 1) s.data.toList = match lexF f (s.data.toList.drop a) with | .error n => .error n | .ok ts => .ok (done ++ ts)

theorem own_base {w : World} {b b' e size n : Nat} {v : Value} {xs : List Value} (h : w.ownsRow b e size v n xs) (hb : b' ≤ b) : w.ownsRow b' e size v n xs := by
  refine ⟨h.1, ?_⟩
  rcases h.2 with hn | ⟨g, cap, cur, hv, hg, rest⟩
  · exact .inl hn
  · exact .inr ⟨g, cap, cur, hv, Nat.le_trans hb hg, rest⟩
theorem ti_bad {s : ByteArray} {w wr w2 : World} {done : List (Tk × Nat)} {a f : Nat} {v : Value} (h : TI s w wr done a f v) (hl : ¬ 65536 < s.size) (hb : badS s = none) {r : By} (hn : nextF (s.data.toList.drop a) = .bad r) {b : Nat} (hr : r = s.data.toList.drop b) (hon : On w.heap.size s b wr w2) {W : World} (hW : Below w.heap.size w W) {x y : Int} (hx : x = (b : Int)) (hy : y = 2) : TokPost s w (.returned (.tuple #[.slice none 0 0, .int .i64 x, .int .i64 y])) W := by
  have hf := h.fu
  have hhi := h.hi
  obtain ⟨f', rfl⟩ : ∃ f', f = f' + 1 := ⟨f - 1, by omega⟩
  have heq := h.eq
  rw [lex_succ f' (s.data.toList.drop a), hn] at heq
  have e : lexT s = (2, s.size - r.length, []) := by
    unfold lexT
    rw [if_neg hl, hb]
    simp only
    rw [heq]
  have hbs := hon.1
  have e2 : s.size - r.length = b := by rw [hr, List.length_drop, lsz]; omega
  subst hx hy
  refine ⟨.slice none 0 0, ?_, ?_, hW⟩
  · rw [e, e2]; rfl
  · rw [e]; exact World.ownsRow_nil _ _ _ _
theorem ti_end {s : ByteArray} {w wr : World} {done : List (Tk × Nat)} {a f : Nat} {v : Value} (h : TI s w wr done a f v) (hl : ¬ 65536 < s.size) (hb : badS s = none) {t : Tk} {r : By} (hn : nextF (s.data.toList.drop a) = .ok t r) (hk : t.kind = 0) {W : World} (hW : Below w.heap.size w W) {v' : Value} (hown : W.ownsRow (w.heap.size + 1) 79 4 v' (done.length + 1) (tcells (done.map (tokOf s.size)) ++ (kcs (Got.tok (.ok t r) (atOf s a))).toList)) : TokPost s w (.returned (.tuple #[v', .int .i64 0, .int .i64 0])) W := by
  have hf := h.fu
  have hhi := h.hi
  obtain ⟨f', rfl⟩ : ∃ f', f = f' + 1 := ⟨f - 1, by omega⟩
  have heq := h.eq
  rw [lex_succ f' (s.data.toList.drop a), hn] at heq
  simp only [hk, if_true] at heq
  have e : lexT s = (0, 0, (done ++ [(t, (skipL (s.data.toList.drop a)).2.length)]).map (tokOf s.size)) := by
    unfold lexT
    rw [if_neg hl, hb]
    simp only
    rw [heq]
  refine ⟨v', ?_, ?_, hW⟩
  · rw [e]; rfl
  · rw [e]
    simp only [List.map_append, List.map_cons, List.map_nil, List.length_append, List.length_map, List.length_cons, List.length_nil, Nat.zero_add]
    rw [tcells_snoc]
    exact own_base hown (by omega)
theorem ti_next {s : ByteArray} {w wr : World} {done : List (Tk × Nat)} {a f : Nat} {v : Value} (h : TI s w wr done a f v) {t : Tk} {r : By} (hn : nextF (s.data.toList.drop a) = .ok t r) (hk : t.kind ≠ 0) {b : Nat} (hr : r = s.data.toList.drop b) (hb : b ≤ s.size) {W : World} (hW : Below w.heap.size w W) (hrd : Rd W w.heap.size s b) (hsz : w.heap.size + 1 ≤ W.heap.size) {v' : Value} (hown : W.ownsRow (w.heap.size + 1) 79 4 v' (done.length + 1) (tcells (done.map (tokOf s.size)) ++ (kcs (Got.tok (.ok t r) (atOf s a))).toList)) : (∃ f', TI s w W (done ++ [(t, (skipL (s.data.toList.drop a)).2.length)]) b f' v') ∧ a < b := by
  have hf := h.fu
  have hhi := h.hi
  have hlen := h.len
  obtain ⟨f', rfl⟩ : ∃ f', f = f' + 1 := ⟨f - 1, by omega⟩
  have hp : a < b := by
    rcases next_prog hn with ⟨h0, _⟩ | ⟨_, h1⟩
    · exact absurd h0 hk
    · rw [hr, List.length_drop, List.length_drop, lsz] at h1
      omega
  refine ⟨⟨f', hW, hrd, hb, ?_, hsz, by omega, by simp; omega, ?_⟩, hp⟩
  · rw [List.map_append, List.map_cons, List.map_nil, tcells_snoc, List.length_append]
    exact hown
  · have heq := h.eq
    rw [lex_succ f' (s.data.toList.drop a), hn] at heq
    simp only [hk, if_false] at heq
    rw [heq, ← hr]
    cases lexF f' r with
    | error n => rfl
    | ok ts => simp
end Go.Proofs.YtkknglmpdmhhjaaGreatDoor.Lx
