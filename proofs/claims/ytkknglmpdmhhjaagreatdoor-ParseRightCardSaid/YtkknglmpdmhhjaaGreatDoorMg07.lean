/-
  Texts of this seat in build order: LxSkip, LxGap.
-/
import Derived.Test.YtkknglmpdmhhjaaGreatDoorMg01
import Derived.Lib.CutLaws
import Derived.Test.YtkknglmpdmhhjaaGreatDoorMg06
import Derived.Test.YtkknglmpdmhhjaaGreatDoorMg03
/-
  White space and comments: what is skipped, as a relation; plain mathematics.
-/
namespace Go.Proofs.YtkknglmpdmhhjaaGreatDoor.Lx
set_option linter.unusedVariables false
set_option linter.unusedSimpArgs false

/-- What stands behind the first end of a comment. -/
def cutB : By → Option By
  | [] => none
  | [_] => none
  | a :: b :: r => if a = 42 ∧ b = 47 then some r else cutB (b :: r)
theorem cutB_two (a b : UInt8) (r : By) : cutB (a :: b :: r) = if a = 42 ∧ b = 47 then some r else cutB (b :: r) := rfl
theorem pre_two (a b : UInt8) (r : By) (x y : UInt8) : List.isPrefixOf [x, y] (a :: b :: r) = decide (a = x ∧ b = y) := by
  simp only [List.isPrefixOf, Bool.and_true]
  rw [Bool.eq_iff_iff]
  simp
  constructor
  · rintro ⟨rfl, rfl⟩; exact ⟨rfl, rfl⟩
  · rintro ⟨rfl, rfl⟩; exact ⟨rfl, rfl⟩
theorem index_cons (a : UInt8) (l sub : By) : Lib.index (a :: l) sub = if sub.isPrefixOf (a :: l) then 0 else if Lib.index l sub == -1 then -1 else Lib.index l sub + 1 := rfl
theorem index_cut : ∀ l : By, (0 ≤ Lib.index l [42, 47] → cutB l = some (l.drop ((Lib.index l [42, 47]).toNat + 2))) ∧ (¬ 0 ≤ Lib.index l [42, 47] → cutB l = none)
  | [] => by simp [Lib.index, cutB]
  | [a] => by simp [Lib.index, cutB, List.isPrefixOf]
  | a :: b :: r => by
    have ih := index_cut (b :: r)
    have hge := Lib.index_ge (b :: r) [42, 47]
    rw [index_cons, pre_two, cutB_two]
    by_cases h : a = 42 ∧ b = 47
    · simp [h]
    · rw [if_neg h]
      have hd : decide (a = 42 ∧ b = 47) = false := decide_eq_false h
      rw [hd]
      simp only [Bool.false_eq_true, if_false]
      by_cases h1 : Lib.index (b :: r) [42, 47] = -1
      · have h1' : (Lib.index (b :: r) [42, 47] == -1) = true := by simp [h1]
        rw [if_pos h1']
        exact ⟨fun h => by omega, fun _ => ih.2 (by omega)⟩
      · have h1' : ¬ (Lib.index (b :: r) [42, 47] == -1) = true := by simp [h1]
        rw [if_neg h1']
        refine ⟨fun _ => ?_, fun h => absurd (by omega) h⟩
        rw [ih.1 (by omega)]
        have e : (Lib.index (b :: r) [42, 47] + 1).toNat + 2 = ((Lib.index (b :: r) [42, 47]).toNat + 2) + 1 := by omega
        rw [e]
        rfl

/-- No comment ends within a text, nor with a '/' right behind it and a '*'. -/
def NoEnd (m : By) : Prop := cutB (m ++ [42]) = none
theorem cut_find : ∀ (l r : By), cutB l = some r → ∃ m, l = m ++ 42 :: 47 :: r ∧ NoEnd m
  | [], r, h => by simp [cutB] at h
  | [a], r, h => by simp [cutB] at h
  | a :: b :: t, r, h => by
    rw [cutB_two] at h
    by_cases hc : a = 42 ∧ b = 47
    · rw [if_pos hc] at h
      obtain ⟨rfl, rfl⟩ := hc
      cases h
      exact ⟨[], rfl, rfl⟩
    · rw [if_neg hc] at h
      obtain ⟨m, hm, hn⟩ := cut_find (b :: t) r h
      refine ⟨a :: m, by rw [hm]; rfl, ?_⟩
      unfold NoEnd at hn ⊢
      cases m with
      | nil =>
        simp only [List.nil_append, List.cons_append] at hm ⊢
        rw [cutB_two, if_neg (by simp)]
        rfl
      | cons b' m' =>
        simp only [List.cons_append, List.cons.injEq] at hm ⊢
        rw [cutB_two, if_neg (by rw [← hm.1]; exact hc)]
        exact hn
theorem cut_put : ∀ (m r : By), NoEnd m → cutB (m ++ 42 :: 47 :: r) = some r
  | [], r, _ => by simp [cutB]
  | [a], r, _ => by
    simp only [List.cons_append, List.nil_append]
    rw [cutB_two, if_neg (by simp), cutB_two, if_pos ⟨rfl, rfl⟩]
  | a :: b :: m, r, h => by
    unfold NoEnd at h
    simp only [List.cons_append] at h ⊢
    rw [cutB_two] at h ⊢
    by_cases hc : a = 42 ∧ b = 47
    · rw [if_pos hc] at h; cases h
    · rw [if_neg hc] at h ⊢
      exact cut_put (b :: m) r h

/-- Where neither white space nor a comment begins. -/
def Stop : By → Prop
  | [] => True
  | c :: r => whiteN c.toNat = false ∧ ¬ (c = 47 ∧ ∃ r', r = 47 :: r' ∨ r = 42 :: r')
def No10 (m : By) : Prop := ∀ c ∈ m, lineN c.toNat = true
def Ends (r : By) : Prop := r = [] ∨ ∃ r', r = 10 :: r'

inductive Sk : By → Bool → By → Prop
  | stop (l : By) : Stop l → Sk l true l
  | white (c : UInt8) (r : By) (o : Bool) (x : By) : whiteN c.toNat = true → Sk r o x → Sk (c :: r) o x
  | line (m r : By) (o : Bool) (x : By) : No10 m → Ends r → Sk r o x → Sk (47 :: 47 :: (m ++ r)) o x
  | block (m r : By) (o : Bool) (x : By) : NoEnd m → Sk r o x → Sk (47 :: 42 :: (m ++ 42 :: 47 :: r)) o x
  | bad (r : By) : cutB r = none → Sk (47 :: 42 :: r) false (47 :: 42 :: r)

theorem lead_split (f : Nat → Bool) : ∀ l : By, ∃ r, l = lead f l ++ r ∧ (∀ c ∈ lead f l, f c.toNat = true) ∧ (r = [] ∨ ∃ c r', r = c :: r' ∧ f c.toNat = false)
  | [] => ⟨[], rfl, by simp [lead_nil], .inl rfl⟩
  | c :: l => by
    obtain ⟨r, h1, h2, h3⟩ := lead_split f l
    rw [lead_cons]
    by_cases hc : f c.toNat = true
    · rw [if_pos hc]
      refine ⟨r, by rw [List.cons_append, ← h1], ?_, h3⟩
      intro d hd
      rcases List.mem_cons.1 hd with rfl | hd
      · exact hc
      · exact h2 d hd
    · rw [if_neg hc]
      exact ⟨c :: l, rfl, by simp, .inr ⟨c, l, rfl, by simpa using hc⟩⟩
theorem lead_app (f : Nat → Bool) : ∀ (m r : By), (∀ c ∈ m, f c.toNat = true) → (r = [] ∨ ∃ c r', r = c :: r' ∧ f c.toNat = false) → lead f (m ++ r) = m
  | [], r, _, h => by
    rcases h with rfl | ⟨c, r', rfl, h⟩
    · rfl
    · rw [List.nil_append, lead_cons, if_neg (by simp [h])]
  | a :: m, r, h, hr => by
    rw [List.cons_append, lead_cons, if_pos (h a (List.mem_cons_self ..)), lead_app f m r (fun c hc => h c (List.mem_cons_of_mem _ hc)) hr]
theorem ends_stop {r : By} : Ends r → (r = [] ∨ ∃ c r', r = c :: r' ∧ lineN c.toNat = false) := by
  rintro (rfl | ⟨r', rfl⟩)
  · exact .inl rfl
  · exact .inr ⟨10, r', rfl, by decide⟩
theorem stop_ends {r : By} : (r = [] ∨ ∃ c r', r = c :: r' ∧ lineN c.toNat = false) → Ends r := by
  rintro (rfl | ⟨c, r', rfl, h⟩)
  · exact .inl rfl
  · refine .inr ⟨r', ?_⟩
    have : c.toNat = 10 := by simpa [lineN] using h
    rw [show c = 10 from UInt8.toNat_inj.1 this]

theorem pre_no2 (c : UInt8) (x y : UInt8) : Lib.hasPrefix [c] [x, y] = false := by simp [Lib.hasPrefix, List.isPrefixOf]
theorem has2 (a b x y : UInt8) (r : By) : Lib.hasPrefix (a :: b :: r) [x, y] = decide (a = x ∧ b = y) := pre_two a b r x y
theorem gap_line {m r : By} (hm : No10 m) (hr : Ends r) : gapN (47 :: 47 :: (m ++ r)) = some (m.length + 2) := by
  unfold gapN
  rw [has2, if_pos (by decide)]
  have e : lead lineN (47 :: 47 :: (m ++ r)) = 47 :: 47 :: m := by
    rw [lead_cons, if_pos (by decide), lead_cons, if_pos (by decide), lead_app lineN m r hm (ends_stop hr)]
  rw [e]
  rfl
theorem gap_block {m r : By} (hm : NoEnd m) : gapN (47 :: 42 :: (m ++ 42 :: 47 :: r)) = some (m.length + 4) := by
  unfold gapN
  rw [has2, if_neg (by decide), has2, if_pos (by decide)]
  have hc := cut_put m r hm
  have hi := index_cut (m ++ 42 :: 47 :: r)
  simp only [List.drop_succ_cons, List.drop_zero]
  by_cases h : 0 ≤ Lib.index (m ++ 42 :: 47 :: r) [42, 47]
  · rw [if_pos h]
    have h1 := (hi.1 h).symm.trans hc
    have hroom := Lib.index_room (m ++ 42 :: 47 :: r) [42, 47] h
    have h2 := congrArg List.length (Option.some.inj h1)
    simp only [List.length_drop, List.length_append, List.length_cons, List.length_nil] at h2 hroom
    congr 1
    omega
  · have := (hi.2 h).symm.trans hc
    cases this
theorem gap_bad {r : By} (h : cutB r = none) : gapN (47 :: 42 :: r) = none := by
  unfold gapN
  rw [has2, if_neg (by decide), has2, if_pos (by decide)]
  simp only [List.drop_succ_cons, List.drop_zero]
  have hi := index_cut r
  by_cases h0 : 0 ≤ Lib.index r [42, 47]
  · have := (hi.1 h0).symm.trans h
    cases this
  · rw [if_neg h0]
theorem gap_white {c : UInt8} {r : By} (h : whiteN c.toNat = true) : gapN (c :: r) = some ((lead whiteN r).length + 1) := by
  have hne : c ≠ 47 := by rintro rfl; revert h; decide
  have hp : ∀ y, Lib.hasPrefix (c :: r) [47, y] = false := by
    intro y
    cases r with
    | nil => exact pre_no2 ..
    | cons b r => rw [has2]; simp [hne]
  unfold gapN
  rw [hp, hp]
  simp only [Bool.false_eq_true, if_false]
  rw [lead_cons, if_pos h]
  rfl
theorem gap_stop {l : By} (h : Stop l) : gapN l = some 0 := by
  cases l with
  | nil => rfl
  | cons c r =>
    obtain ⟨h1, h2⟩ := h
    have hp : Lib.hasPrefix (c :: r) [47, 47] = false ∧ Lib.hasPrefix (c :: r) [47, 42] = false := by
      cases r with
      | nil => exact ⟨pre_no2 .., pre_no2 ..⟩
      | cons b r =>
        rw [has2, has2]
        exact ⟨decide_eq_false (fun x => h2 ⟨x.1, r, .inl (by rw [x.2])⟩), decide_eq_false (fun x => h2 ⟨x.1, r, .inr (by rw [x.2])⟩)⟩
    unfold gapN
    rw [hp.1, hp.2]
    simp only [Bool.false_eq_true, if_false]
    rw [lead_cons, if_neg (by simp [h1])]
    rfl
theorem gap_cases (l : By) : Stop l ∨ (∃ c r, l = c :: r ∧ whiteN c.toNat = true) ∨ (∃ m r, l = 47 :: 47 :: (m ++ r) ∧ No10 m ∧ Ends r) ∨ (∃ m r, l = 47 :: 42 :: (m ++ 42 :: 47 :: r) ∧ NoEnd m) ∨ ∃ r, l = 47 :: 42 :: r ∧ cutB r = none := by
  cases l with
  | nil => exact .inl trivial
  | cons c r =>
    by_cases hw : whiteN c.toNat = true
    · exact .inr (.inl ⟨c, r, rfl, hw⟩)
    · by_cases hc : c = 47 ∧ ∃ r', r = 47 :: r' ∨ r = 42 :: r'
      · obtain ⟨rfl, r', rfl | rfl⟩ := hc
        · obtain ⟨r2, h1, h2, h3⟩ := lead_split lineN r'
          exact .inr (.inr (.inl ⟨lead lineN r', r2, by rw [← h1], h2, stop_ends h3⟩))
        · cases hk : cutB r' with
          | none => exact .inr (.inr (.inr (.inr ⟨r', rfl, hk⟩)))
          | some r2 =>
            obtain ⟨m, h1, h2⟩ := cut_find r' r2 hk
            exact .inr (.inr (.inr (.inl ⟨m, r2, by rw [h1], h2⟩)))
      · exact .inl ⟨by simpa using hw, hc⟩

theorem skipF_zero (f : Nat) {l : By} (h : gapN l = some 0) : skipF f l = (true, l) := by
  cases f with
  | zero => rfl
  | succ f => simp only [skipF, h]
theorem skipF_bad (f : Nat) {l : By} (h : gapN l = none) : skipF (f + 1) l = (false, l) := by simp only [skipF, h]
theorem skipF_more (f n : Nat) {l : By} (h : gapN l = some (n + 1)) : skipF (f + 1) l = skipF f (l.drop (n + 1)) := by simp only [skipF, h]
theorem skipF_fuel : ∀ (f g : Nat) (l : By), l.length ≤ f → l.length ≤ g → skipF f l = skipF g l
  | 0, g, l, hf, _ => by
    have : l = [] := List.length_eq_zero_iff.1 (by omega)
    subst this
    exact (skipF_zero 0 rfl).trans (skipF_zero g rfl).symm
  | f + 1, 0, l, _, hg => by
    have : l = [] := List.length_eq_zero_iff.1 (by omega)
    subst this
    exact (skipF_zero (f + 1) rfl).trans (skipF_zero 0 rfl).symm
  | f + 1, g + 1, l, hf, hg => by
    cases h : gapN l with
    | none => rw [skipF_bad f h, skipF_bad g h]
    | some n =>
      cases n with
      | zero => rw [skipF_zero _ h, skipF_zero _ h]
      | succ n =>
        rw [skipF_more f n h, skipF_more g n h]
        exact skipF_fuel f g _ (by rw [List.length_drop]; omega) (by rw [List.length_drop]; omega)

theorem sk_lead (l : By) (o : Bool) (x : By) : Sk (l.drop (lead whiteN l).length) o x → Sk l o x := by
  induction l with
  | nil => exact id
  | cons c l ih =>
    rw [lead_cons]
    split
    · rename_i h
      intro hs
      exact .white c l o x h (ih hs)
    · exact id
theorem skip_sk : ∀ (f : Nat) (l : By), l.length ≤ f → Sk l (skipF f l).1 (skipF f l).2
  | 0, l, h => by
    have : l = [] := List.length_eq_zero_iff.1 (by omega)
    subst this
    exact .stop [] trivial
  | f + 1, l, h => by
    rcases gap_cases l with hs | ⟨c, r, rfl, hc⟩ | ⟨m, r, rfl, hm, hr⟩ | ⟨m, r, rfl, hm⟩ | ⟨r, rfl, hr⟩
    · rw [skipF_zero _ (gap_stop hs)]
      exact .stop l hs
    · rw [skipF_more f _ (gap_white hc), List.drop_succ_cons]
      have hl := lead_len whiteN r
      simp only [List.length_cons] at h
      exact .white c r _ _ hc (sk_lead r _ _ (skip_sk f _ (by rw [List.length_drop]; omega)))
    · rw [skipF_more f (m.length + 1) (gap_line hm hr)]
      have e : (47 :: 47 :: (m ++ r)).drop (m.length + 1 + 1) = r := by simp
      rw [e]
      simp only [List.length_cons, List.length_append] at h
      exact .line m r _ _ hm hr (skip_sk f r (by omega))
    · rw [skipF_more f (m.length + 3) (gap_block hm)]
      have e : (47 :: 42 :: (m ++ 42 :: 47 :: r)).drop (m.length + 3 + 1) = r := by
        have : m ++ 42 :: 47 :: r = (m ++ [42, 47]) ++ r := by simp
        rw [this, show m.length + 3 + 1 = (m ++ [42, 47]).length + 2 by simp, List.drop_succ_cons, List.drop_succ_cons, List.drop_left]
      rw [e]
      simp only [List.length_cons, List.length_append] at h
      exact .block m r _ _ hm (skip_sk f r (by omega))
    · rw [skipF_bad f (gap_bad hr)]
      exact .bad r hr
theorem skip_lead (r : By) (f g : Nat) (hf : r.length ≤ f) (hg : r.length ≤ g) : skipF f r = skipF g (r.drop (lead whiteN r).length) := by
  cases r with
  | nil => exact skipF_fuel f g [] hf hg
  | cons c r =>
    rw [lead_cons]
    split
    · rename_i h
      obtain ⟨f', rfl⟩ : ∃ f', f = f' + 1 := ⟨f - 1, by simp at hf; omega⟩
      rw [skipF_more f' _ (gap_white h)]
      simp only [List.length_cons] at hf hg ⊢
      exact skipF_fuel _ _ _ (by rw [List.length_drop, List.length_cons]; omega) (by rw [List.length_drop, List.length_cons]; omega)
    · exact skipF_fuel f g _ hf hg
theorem sk_skip {l x : By} {o : Bool} (h : Sk l o x) : ∀ f, l.length ≤ f → skipF f l = (o, x) := by
  induction h with
  | stop l hs => intro f _; exact skipF_zero f (gap_stop hs)
  | white c r o x hc _ ih =>
    intro f hf
    simp only [List.length_cons] at hf
    obtain ⟨f', rfl⟩ : ∃ f', f = f' + 1 := ⟨f - 1, by omega⟩
    rw [skipF_more f' _ (gap_white hc), List.drop_succ_cons, ← skip_lead r r.length f' (Nat.le_refl _) (by omega)]
    exact ih _ (Nat.le_refl _)
  | line m r o x hm hr _ ih =>
    intro f hf
    simp only [List.length_cons, List.length_append] at hf
    obtain ⟨f', rfl⟩ : ∃ f', f = f' + 1 := ⟨f - 1, by omega⟩
    rw [skipF_more f' (m.length + 1) (gap_line hm hr)]
    have e : (47 :: 47 :: (m ++ r)).drop (m.length + 1 + 1) = r := by simp
    rw [e]
    exact ih _ (by omega)
  | block m r o x hm _ ih =>
    intro f hf
    simp only [List.length_cons, List.length_append] at hf
    obtain ⟨f', rfl⟩ : ∃ f', f = f' + 1 := ⟨f - 1, by omega⟩
    rw [skipF_more f' (m.length + 3) (gap_block hm)]
    have e : (47 :: 42 :: (m ++ 42 :: 47 :: r)).drop (m.length + 3 + 1) = r := by
      have : m ++ 42 :: 47 :: r = (m ++ [42, 47]) ++ r := by simp
      rw [this, show m.length + 3 + 1 = (m ++ [42, 47]).length + 2 by simp, List.drop_succ_cons, List.drop_succ_cons, List.drop_left]
    rw [e]
    exact ih _ (by omega)
  | bad r hr =>
    intro f hf
    simp only [List.length_cons] at hf
    obtain ⟨f', rfl⟩ : ∃ f', f = f' + 1 := ⟨f - 1, by omega⟩
    exact skipF_bad f' (gap_bad hr)
theorem skipL_sk (l : By) : Sk l (skipL l).1 (skipL l).2 := skip_sk _ l (Nat.le_refl _)
theorem sk_skipL {l x : By} {o : Bool} (h : Sk l o x) : skipL l = (o, x) := sk_skip h _ (Nat.le_refl _)
theorem sk_stop {l x : By} {o : Bool} (h : Sk l o x) : o = true → Stop x := by
  induction h with
  | stop l hs => exact fun _ => hs
  | white _ _ _ _ _ _ ih => exact ih
  | line _ _ _ _ _ _ _ ih => exact ih
  | block _ _ _ _ _ _ ih => exact ih
  | bad => intro h; cases h

/-- What may be laid ahead of a token. -/
structure Ext (e : By) : Prop where
  head : ∃ c r, e = c :: r ∧ whiteN c.toNat = true
  over : ∀ Z, Stop Z → Sk (e ++ Z) true Z
  tail : ∃ m r, e = m ++ r ∧ No10 m ∧ Ends r ∧ Sk r true []

theorem sk_ext {e : By} (hE : Ext e) {l x : By} {o : Bool} (h : Sk l o x) : o = true →
    ∃ g, l = g ++ x ∧ (g = [] ∨ ∃ c r, g = c :: r ∧ (whiteN c.toNat = true ∨ c = 47)) ∧ (x ≠ [] → ∀ Z, Stop Z → Sk (g ++ (e ++ Z)) true Z) ∧ (x = [] → Sk (g ++ e) true []) := by
  induction h with
  | stop l hs =>
    intro _
    refine ⟨[], rfl, .inl rfl, fun _ Z hZ => hE.over Z hZ, fun _ => ?_⟩
    have := hE.over [] trivial
    simpa using this
  | white c r o x hc _ ih =>
    intro ho
    obtain ⟨g, hl, hg, h1, h2⟩ := ih ho
    exact ⟨c :: g, by rw [hl]; rfl, .inr ⟨c, g, rfl, .inl hc⟩, fun hx Z hZ => .white c _ _ _ hc (h1 hx Z hZ), fun hx => .white c _ _ _ hc (h2 hx)⟩
  | line m r o x hm hr hs ih =>
    intro ho
    have hst := sk_stop hs ho
    obtain ⟨g, hl, hg, h1, h2⟩ := ih ho
    refine ⟨47 :: 47 :: (m ++ g), by rw [hl]; simp, .inr ⟨47, _, rfl, .inr rfl⟩, ?_, ?_⟩
    · intro hx Z hZ
      have e1 : 47 :: 47 :: (m ++ g) ++ (e ++ Z) = 47 :: 47 :: (m ++ (g ++ (e ++ Z))) := by simp
      rw [e1]
      refine .line m _ _ _ hm ?_ (h1 hx Z hZ)
      rcases hr with rfl | ⟨r', rfl⟩
      · exact absurd (List.append_eq_nil_iff.1 hl.symm).2 hx
      · cases g with
        | nil =>
          simp only [List.nil_append] at hl
          subst hl
          exact absurd hst.1 (by decide)
        | cons a g =>
          simp only [List.cons_append, List.cons.injEq] at hl
          exact .inr ⟨g ++ (e ++ Z), by rw [← hl.1]; rfl⟩
    · intro hx
      subst hx
      simp only [List.append_nil] at hl
      subst hl
      have e1 : 47 :: 47 :: (m ++ r) ++ e = 47 :: 47 :: (m ++ (r ++ e)) := by simp
      rw [e1]
      rcases hr with rfl | ⟨r', rfl⟩
      · obtain ⟨m2, r2, he, hm2, hr2, hs2⟩ := hE.tail
        rw [List.nil_append, he, ← List.append_assoc]
        refine .line (m ++ m2) r2 _ _ ?_ hr2 hs2
        intro c hc
        rcases List.mem_append.1 hc with hc | hc
        · exact hm c hc
        · exact hm2 c hc
      · exact .line m _ _ _ hm (.inr ⟨r' ++ e, rfl⟩) (h2 rfl)
  | block m r o x hm hs ih =>
    intro ho
    obtain ⟨g, hl, hg, h1, h2⟩ := ih ho
    refine ⟨47 :: 42 :: (m ++ 42 :: 47 :: g), by rw [hl]; simp, .inr ⟨47, _, rfl, .inr rfl⟩, ?_, ?_⟩
    · intro hx Z hZ
      have e1 : 47 :: 42 :: (m ++ 42 :: 47 :: g) ++ (e ++ Z) = 47 :: 42 :: (m ++ 42 :: 47 :: (g ++ (e ++ Z))) := by simp
      rw [e1]
      exact .block m _ _ _ hm (h1 hx Z hZ)
    · intro hx
      have e1 : 47 :: 42 :: (m ++ 42 :: 47 :: g) ++ e = 47 :: 42 :: (m ++ 42 :: 47 :: (g ++ e)) := by simp
      rw [e1]
      exact .block m _ _ _ hm (h2 hx)
  | bad => intro h; cases h
end Go.Proofs.YtkknglmpdmhhjaaGreatDoor.Lx

/-
  lex.gap; reader.rest, reader.skip.
-/
namespace Go.Proofs.YtkknglmpdmhhjaaGreatDoor.Lx
open Go.RowKit Go.Proofs.YtkknglmpdmhhjaaGreatDoor.Uni
set_option linter.unusedVariables false
set_option linter.unusedSimpArgs false

theorem pred_line (w : World) (B : Nat) : Pred 178 #[] lineN B w := ⟨fun _ _ => by kernel_rfl, fun p w' _ => line_any p w'⟩
theorem pred_white (w : World) (B : Nat) : Pred 180 #[] whiteN B w := ⟨fun _ _ => by kernel_rfl, fun p w' _ => white_any p w'⟩
theorem pred_digit (w : World) (B : Nat) : Pred 78 #[] digitN B w := ⟨fun _ _ => by kernel_rfl, fun p w' _ => digit_any p w'⟩
theorem pred_start (w : World) (B : Nat) : Pred 76 #[] leadN B w := ⟨fun _ _ => by kernel_rfl, fun p w' _ => start_any p w'⟩
theorem pred_cont (w : World) (B : Nat) : Pred 128 #[] contN B w := ⟨fun _ _ => by kernel_rfl, fun p w' _ => cont_any p w'⟩

def bs (l : By) : ByteArray := ⟨l.toArray⟩
theorem bs_size (l : By) : (bs l).size = l.length := by simp [bs, ByteArray.size]
theorem bs_list (l : By) : (bs l).data.toList = l := by simp [bs]
theorem bs_of (s : ByteArray) : bs s.data.toList = s := by
  apply ByteArray.ext
  apply Array.toList_inj.1
  simp [bs]
theorem ext_drop (s : ByteArray) (i : Nat) : (s.extract i s.size).data.toList = s.data.toList.drop i := by
  simp only [ByteArray.data_extract, Array.toList_extract, List.extract_eq_take_drop]
  exact List.take_of_length_le (by simp)
theorem ext_bs (s : ByteArray) (i : Nat) : s.extract i s.size = bs (s.data.toList.drop i) := by rw [← ext_drop, bs_of]
theorem lsz (s : ByteArray) : s.data.toList.length = s.size := by simp

theorem leading_line (s : ByteArray) (w : World) (hs : s.size ≤ 9223372036854775807) : Calls Tryz.prog 127 #[.string s, .func (.func 178) #[] #[]] w fun e w' => e = .returned (.string (bs (lead lineN s.data.toList))) ∧ Below w.heap.size w w' := leading_any _ _ lineN flat_line s w hs (pred_line w _)
theorem leading_white (s : ByteArray) (w : World) (hs : s.size ≤ 9223372036854775807) : Calls Tryz.prog 127 #[.string s, .func (.func 180) #[] #[]] w fun e w' => e = .returned (.string (bs (lead whiteN s.data.toList))) ∧ Below w.heap.size w w' := leading_any _ _ whiteN flat_white s w hs (pred_white w _)
theorem leading_digit (s : ByteArray) (w : World) (hs : s.size ≤ 9223372036854775807) : Calls Tryz.prog 127 #[.string s, .func (.func 78) #[] #[]] w fun e w' => e = .returned (.string (bs (lead digitN s.data.toList))) ∧ Below w.heap.size w w' := leading_any _ _ digitN flat_digit s w hs (pred_digit w _)
theorem leading_start (s : ByteArray) (w : World) (hs : s.size ≤ 9223372036854775807) : Calls Tryz.prog 127 #[.string s, .func (.func 76) #[] #[]] w fun e w' => e = .returned (.string (bs (lead leadN s.data.toList))) ∧ Below w.heap.size w w' := leading_any _ _ leadN flat_lead s w hs (pred_start w _)
theorem leading_cont (s : ByteArray) (w : World) (hs : s.size ≤ 9223372036854775807) : Calls Tryz.prog 127 #[.string s, .func (.func 128) #[] #[]] w fun e w' => e = .returned (.string (bs (lead contN s.data.toList))) ∧ Below w.heap.size w w' := leading_any _ _ contN flat_cont s w hs (pred_cont w _)
theorem leading_run (s : ByteArray) (q c : Nat) (w : World) (hs : s.size ≤ 9223372036854775807) (hq : q < 128) (hc : w.cell? ⟨c, 0, none⟩ = some (.int .i32 (q : Int))) : Calls Tryz.prog 127 #[.string s, .func (.func 130) #[] #[.pointer (some ⟨c, 0, none⟩)]] w fun e w' => e = .returned (.string (bs (lead (runN q) s.data.toList))) ∧ Below w.heap.size w w' :=
  leading_any _ _ (runN q) (flat_run hq) s w hs ⟨fun _ _ => by kernel_rfl, fun p w' hb => run_any q p c w' (by rw [hb.cell (p := ⟨c, 0, none⟩) (World.block_lt_of_cell? w _ hc)]; exact hc)⟩

/-- The library's variable holds some number. -/
def Ml (w : World) : Prop := ∃ m, w.cell? ⟨1, 0, none⟩ = some (.int .i64 m)
theorem Ml.below {w w' : World} (h : Ml w) (hb : Below w.heap.size w w') : Ml w' := by
  obtain ⟨m, hm⟩ := h
  exact ⟨m, by rw [hb.cell (p := ⟨1, 0, none⟩) (World.block_lt_of_cell? w _ hm)]; exact hm⟩

theorem has_two {l : By} {x y : UInt8} (h : Lib.hasPrefix l [x, y] = true) : 2 ≤ l.length := by
  match l with
  | [] => simp [Lib.hasPrefix, List.isPrefixOf] at h
  | [a] => simp [Lib.hasPrefix, List.isPrefixOf] at h
  | a :: b :: r => simp

set_option maxHeartbeats 1000000 in
theorem gap_a (s : ByteArray) (w : World) (hs : s.size ≤ 1000000) (h : Lib.hasPrefix s.data.toList [47, 47] = true) :
    Calls Tryz.prog 126 #[.string s] w fun e w' => e = .returned (.tuple #[.int .i64 ((lead lineN s.data.toList).length : Nat), .bool true]) ∧ Below w.heap.size w w' := by
  have h1 := fun w => Tryz.strings_HasPrefix s ⟨#[47, 47]⟩ w
  have h2 := fun w => leading_line s w (by omega)
  simp only [h] at h1
  obtain ⟨t, ht⟩ : ∃ t, lead lineN s.data.toList = t := ⟨_, rfl⟩
  have hz : t.length ≤ s.size := by rw [← ht, ← lsz]; exact lead_len _ _
  rw [ht] at h2 ⊢
  obtain ⟨u, hu⟩ : ∃ u, bs t = u := ⟨_, rfl⟩
  have huz : u.size = t.length := by rw [← hu, bs_size]
  rw [hu] at h2
  clear hu ht h
  go_enter Tryz.func126, Tryz.ntmps126
  go_wp2_with (first | (go_at_call 73; refine (h1 _).mono ?_; rintro e w' ⟨rfl, rfl⟩) | (go_at_call 127; refine (h2 _).mono ?_; rintro e w' ⟨rfl, hb⟩))
  go_ret2
  exact ⟨by rw [← huz]; rfl, hb⟩

set_option maxHeartbeats 1000000 in
theorem gap_w (s : ByteArray) (w : World) (hs : s.size ≤ 1000000) (ha : Lib.hasPrefix s.data.toList [47, 47] = false) (hb : Lib.hasPrefix s.data.toList [47, 42] = false) :
    Calls Tryz.prog 126 #[.string s] w fun e w' => e = .returned (.tuple #[.int .i64 ((lead whiteN s.data.toList).length : Nat), .bool true]) ∧ Below w.heap.size w w' := by
  have h1 := fun w => Tryz.strings_HasPrefix s ⟨#[47, 47]⟩ w
  have h3 := fun w => Tryz.strings_HasPrefix s ⟨#[47, 42]⟩ w
  have h2 := fun w => leading_white s w (by omega)
  simp only [ha] at h1
  simp only [hb] at h3
  obtain ⟨t, ht⟩ : ∃ t, lead whiteN s.data.toList = t := ⟨_, rfl⟩
  have hz : t.length ≤ s.size := by rw [← ht, ← lsz]; exact lead_len _ _
  rw [ht] at h2 ⊢
  obtain ⟨u, hu⟩ : ∃ u, bs t = u := ⟨_, rfl⟩
  have huz : u.size = t.length := by rw [← hu, bs_size]
  rw [hu] at h2
  clear hu ht ha hb
  go_enter Tryz.func126, Tryz.ntmps126
  go_wp2_with (first | (go_at_call 73; (with_reducible refine (h1 _).mono ?_); rintro e w' ⟨rfl, rfl⟩) | (go_at_call 73; (with_reducible refine (h3 _).mono ?_); rintro e w' ⟨rfl, rfl⟩) | (go_at_call 127; refine (h2 _).mono ?_; rintro e w' ⟨rfl, hb⟩))
  go_ret2
  exact ⟨by rw [← huz]; rfl, hb⟩

set_option maxHeartbeats 1000000 in
theorem gap_b (s : ByteArray) (w : World) (hs : s.size ≤ 1000000) (hm : Ml w) (ha : Lib.hasPrefix s.data.toList [47, 47] = false) (hb : Lib.hasPrefix s.data.toList [47, 42] = true) (c1 c2 : By) (cb : Bool) (hc : Lib.cut (s.data.toList.drop 2) [42, 47] = (c1, c2, cb)) :
    Calls Tryz.prog 126 #[.string s] w fun e w' => e = .returned (.tuple #[.int .i64 (if cb then 2 + (c1.length : Int) + 2 else 0), .bool cb]) ∧ Below w.heap.size w w' := by
  have h2 := has_two hb
  have h1 := fun w => Tryz.strings_HasPrefix s ⟨#[47, 47]⟩ w
  have h3 := fun w => Tryz.strings_HasPrefix s ⟨#[47, 42]⟩ w
  obtain ⟨m, hm⟩ := hm
  have h4 := Tryz.strings_Cut (s.extract 2 s.size) ⟨#[42, 47]⟩ m w (by simp; omega) hm
  rw [ext_drop] at h4
  simp only [hc] at h4
  simp only [ha] at h1
  simp only [hb] at h3
  have hz : c1.length ≤ s.size := by
    have : c1.length ≤ (s.data.toList.drop 2).length := by
      unfold Lib.cut at hc
      split at hc
      · rw [← (Prod.mk.inj hc).1]; simp; omega
      · rw [← (Prod.mk.inj hc).1]; exact Nat.le_refl _
    rw [List.length_drop, lsz] at this
    omega
  obtain ⟨u, hu⟩ : ∃ u : ByteArray, (⟨c1.toArray⟩ : ByteArray) = u := ⟨_, rfl⟩
  have huz : u.size = c1.length := by rw [← hu]; exact bs_size c1
  rw [hu] at h4
  rw [← huz] at hz ⊢
  rw [lsz] at h2
  have h2i : (2 : Int) ≤ s.size := by omega
  clear hu huz hc ha hb
  cases cb with
  | true =>
    go_enter Tryz.func126, Tryz.ntmps126
    go_wp2_with (first | (go_at_call 73; (with_reducible refine (h1 _).mono ?_); rintro e w' ⟨rfl, rfl⟩) | (go_at_call 73; (with_reducible refine (h3 _).mono ?_); rintro e w' ⟨rfl, rfl⟩) | (go_at_call 179; refine h4.mono ?_; rintro e w' ⟨rfl, n, rfl⟩))
    go_ret2
    exact ⟨rfl, below_drewN (Below.refl _ _) n⟩
  | false =>
    go_enter Tryz.func126, Tryz.ntmps126
    go_wp2_with (first | (go_at_call 73; (with_reducible refine (h1 _).mono ?_); rintro e w' ⟨rfl, rfl⟩) | (go_at_call 73; (with_reducible refine (h3 _).mono ?_); rintro e w' ⟨rfl, rfl⟩) | (go_at_call 179; refine h4.mono ?_; rintro e w' ⟨rfl, n, rfl⟩))
    go_ret2
    exact ⟨rfl, below_drewN (Below.refl _ _) n⟩

theorem gap_any (s : ByteArray) (w : World) (hs : s.size ≤ 1000000) (hm : Ml w) :
    Calls Tryz.prog 126 #[.string s] w fun e w' => e = .returned (.tuple #[.int .i64 ((gapN s.data.toList).getD 0 : Nat), .bool (gapN s.data.toList).isSome]) ∧ Below w.heap.size w w' := by
  unfold gapN
  cases ha : Lib.hasPrefix s.data.toList [47, 47] with
  | true => exact gap_a s w hs ha
  | false =>
    cases hb : Lib.hasPrefix s.data.toList [47, 42] with
    | false => exact gap_w s w hs ha hb
    | true =>
      have hk : Lib.cut (s.data.toList.drop 2) [42, 47] = if 0 ≤ Lib.index (s.data.toList.drop 2) [42, 47] then ((s.data.toList.drop 2).take (Lib.index (s.data.toList.drop 2) [42, 47]).toNat, (s.data.toList.drop 2).drop ((Lib.index (s.data.toList.drop 2) [42, 47]).toNat + 2), true) else (s.data.toList.drop 2, [], false) := rfl
      by_cases hi : 0 ≤ Lib.index (s.data.toList.drop 2) [42, 47]
      · rw [if_pos hi] at hk
        have hroom := Lib.index_room _ [42, 47] hi
        simp only [Bool.false_eq_true, if_false, if_true, hi]
        refine (gap_b s w hs hm ha hb _ _ _ hk).mono ?_
        rintro e w' ⟨rfl, h⟩
        refine ⟨?_, h⟩
        rw [List.length_take, Nat.min_eq_left (by simp only [List.length_cons, List.length_nil] at hroom; omega)]
        simp
      · rw [if_neg hi] at hk
        simp only [Bool.false_eq_true, if_false, if_true, hi]
        exact gap_b s w hs hm ha hb _ _ _ hk
end Go.Proofs.YtkknglmpdmhhjaaGreatDoor.Lx
