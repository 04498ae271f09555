/-
  LexSpace: white space between tokens only moves them (LxWeave, LxVal, LxWv, LxApp, LxSpaceW in one text: a claim has at most 60 files).
-/
import Derived.Test.YtlboaldikgonoaaDoorLxPure
import Derived.Test.YtlboaldikgonoaaDoorLxStr
import Derived.Test.YtlboaldikgonoaaDoorLxLong
import Derived.Laws.OwnMore
import Derived.Laws.IdiomStrings
import Derived.Maps.AppendAt
import Derived.Lib.AppendStr
import Derived.DataElems
import Derived.Deep.RegionHeld3
import Derived.BigQuiet
namespace Go.Proofs.YtlboaldikgonoaaDoor.Lx
open Go Go.Proofs.YtlboaldikgonoaaDoor.Uni
set_option linter.unusedVariables false
set_option linter.unusedSimpArgs false

/-! ### What may be laid ahead of a token -/
def exts : List By := [[32], [9], [10], [13, 10], [32, 47, 47, 32, 120, 10], [32, 47, 42, 32, 120, 32, 42, 47, 32], [32, 47, 42, 42, 47], [32, 47, 42, 32, 10, 32, 47, 47, 32, 42, 47], [32, 10, 32, 9]]
theorem w32 (r : By) (o : Bool) (x : By) (h : Sk r o x) : Sk (32 :: r) o x := .white 32 r o x (by decide) h
theorem w9 (r : By) (o : Bool) (x : By) (h : Sk r o x) : Sk (9 :: r) o x := .white 9 r o x (by decide) h
theorem w10 (r : By) (o : Bool) (x : By) (h : Sk r o x) : Sk (10 :: r) o x := .white 10 r o x (by decide) h
theorem w13 (r : By) (o : Bool) (x : By) (h : Sk r o x) : Sk (13 :: r) o x := .white 13 r o x (by decide) h
theorem no10_of {m : By} (h : (m.all fun c => lineN c.toNat) = true) : No10 m := fun c hc => List.all_eq_true.1 h c hc
theorem ext_all {e : By} (h : e ∈ exts) : Ext e := by
  unfold exts at h
  simp only [List.mem_cons, List.not_mem_nil, or_false] at h
  have s0 : Sk [] true [] := .stop [] trivial
  rcases h with rfl | rfl | rfl | rfl | rfl | rfl | rfl | rfl | rfl
  · exact ⟨⟨32, [], rfl, by decide⟩, fun Z hZ => w32 _ _ _ (.stop Z hZ), ⟨[32], [], rfl, no10_of (by decide), .inl rfl, s0⟩⟩
  · exact ⟨⟨9, [], rfl, by decide⟩, fun Z hZ => w9 _ _ _ (.stop Z hZ), ⟨[9], [], rfl, no10_of (by decide), .inl rfl, s0⟩⟩
  · exact ⟨⟨10, [], rfl, by decide⟩, fun Z hZ => w10 _ _ _ (.stop Z hZ), ⟨[], [10], rfl, no10_of (by decide), .inr ⟨[], rfl⟩, w10 _ _ _ s0⟩⟩
  · exact ⟨⟨13, [10], rfl, by decide⟩, fun Z hZ => w13 _ _ _ (w10 _ _ _ (.stop Z hZ)), ⟨[13], [10], rfl, no10_of (by decide), .inr ⟨[], rfl⟩, w10 _ _ _ s0⟩⟩
  · refine ⟨⟨32, _, rfl, by decide⟩, fun Z hZ => w32 _ _ _ ?_, ⟨[32, 47, 47, 32, 120], [10], rfl, no10_of (by decide), .inr ⟨[], rfl⟩, w10 _ _ _ s0⟩⟩
    exact .line [32, 120] (10 :: Z) true Z (no10_of (by decide)) (.inr ⟨Z, rfl⟩) (w10 _ _ _ (.stop Z hZ))
  · refine ⟨⟨32, _, rfl, by decide⟩, fun Z hZ => w32 _ _ _ ?_, ⟨[32, 47, 42, 32, 120, 32, 42, 47, 32], [], rfl, no10_of (by decide), .inl rfl, s0⟩⟩
    exact .block [32, 120, 32] (32 :: Z) true Z (by unfold NoEnd; decide) (w32 _ _ _ (.stop Z hZ))
  · refine ⟨⟨32, _, rfl, by decide⟩, fun Z hZ => w32 _ _ _ ?_, ⟨[32, 47, 42, 42, 47], [], rfl, no10_of (by decide), .inl rfl, s0⟩⟩
    exact .block [] Z true Z (by unfold NoEnd; decide) (.stop Z hZ)
  · refine ⟨⟨32, _, rfl, by decide⟩, fun Z hZ => w32 _ _ _ ?_, ⟨[32, 47, 42, 32], [10, 32, 47, 47, 32, 42, 47], rfl, no10_of (by decide), .inr ⟨_, rfl⟩, w10 _ _ _ (w32 _ _ _ ?_)⟩⟩
    · exact .block [32, 10, 32, 47, 47, 32] Z true Z (by unfold NoEnd; decide) (.stop Z hZ)
    · exact .line [32, 42, 47] [] true [] (no10_of (by decide)) (.inl rfl) s0
  · exact ⟨⟨32, _, rfl, by decide⟩, fun Z hZ => w32 _ _ _ (w10 _ _ _ (w32 _ _ _ (w9 _ _ _ (.stop Z hZ)))), ⟨[32], [10, 32, 9], rfl, no10_of (by decide), .inr ⟨_, rfl⟩, w10 _ _ _ (w32 _ _ _ (w9 _ _ _ s0))⟩⟩

/-! ### The text with more between its tokens -/
def wv (e : By) : By → List Nat → By
  | l, [] => []
  | l, k :: ks => l.take (l.length - k) ++ (e ++ wv e (l.drop (l.length - k)) ks)
theorem wv_split (e : By) {l g x : By} (h : l = g ++ x) (ks : List Nat) : wv e l (x.length :: ks) = g ++ (e ++ wv e x ks) := by
  subst h
  simp only [wv]
  have e1 : (g ++ x).length - x.length = g.length := by simp
  rw [e1, List.take_left, List.drop_left]
def Asc (l : By) : Prop := ∀ c r, l = c :: r → c.toNat < 128
/-- How a row of tokens begins. -/
structure Opens (l : By) (ks : List Nat) (g x : By) (rest : List Nat) : Prop where
  eq : l = g ++ x
  ks : ks = x.length :: rest
  head : g = [] ∨ ∃ c r, g = c :: r ∧ (whiteN c.toNat = true ∨ c = 47)
theorem white_lt {p : Nat} (h : whiteN p = true) : p < 128 := by unfold whiteN endN at h; simp at h; omega
theorem head_asc {x : By} {t : Tk} {r : By} (h : oneF x = .ok t r) : Asc x := by
  intro c r0 hx
  subst hx
  cases h1 : leadN c.toNat with
  | true => exact (cont_bd (lead_cont h1)).1
  | false =>
    cases h2 : digitN c.toNat with
    | true => exact (digit_no h2).1
    | false =>
      by_cases h3 : c = 34 ∨ c = 39
      · rcases h3 with rfl | rfl <;> decide
      · rw [one_sign h1 h2 h3] at h
        unfold signT at h
        cases hs : signF (c :: r0) with
        | none => rw [hs] at h; cases h
        | some s =>
          obtain ⟨hm, r1, hr1⟩ := sign_mem hs
          have key : ∀ s ∈ signs, ∀ c r, s = c :: r → c.toNat < 128 := by
            intro s hs c r e
            have : (signs.all fun s => s.head?.all fun c => decide (c.toNat < 128)) = true := by decide
            have h4 := List.all_eq_true.1 this s hs
            subst e
            simpa using h4
          obtain ⟨c', k, rfl⟩ := sign_ne hm
          have hcc : c = c' := by simpa using (congrArg List.head? hr1)
          subst hcc
          exact key _ hm _ _ rfl
theorem stop_swap {c : UInt8} {k r Z : By} (h : Stop ((c :: k) ++ r)) (hz : k = [] → ∀ d Z', Z = d :: Z' → (d = 47 ∨ d = 42) → ∃ r', r = d :: r') : Stop ((c :: k) ++ Z) := by
  refine ⟨h.1, ?_⟩
  rintro ⟨hc, Z', hZ⟩
  refine h.2 ⟨hc, ?_⟩
  cases k with
  | cons d k =>
    have hZ : d :: (k ++ Z) = 47 :: Z' ∨ d :: (k ++ Z) = 42 :: Z' := hZ
    show ∃ r', d :: (k ++ r) = 47 :: r' ∨ d :: (k ++ r) = 42 :: r'
    rcases hZ with h1 | h1
    · obtain rfl : d = 47 := (List.cons.inj h1).1
      exact ⟨_, .inl rfl⟩
    · obtain rfl : d = 42 := (List.cons.inj h1).1
      exact ⟨_, .inr rfl⟩
  | nil =>
    have hZ : Z = 47 :: Z' ∨ Z = 42 :: Z' := hZ
    show ∃ r', r = 47 :: r' ∨ r = 42 :: r'
    rcases hZ with hZ | hZ
    · obtain ⟨r', hr⟩ := hz rfl _ _ hZ (.inl rfl)
      exact ⟨r', .inl hr⟩
    · obtain ⟨r', hr⟩ := hz rfl _ _ hZ (.inr rfl)
      exact ⟨r', .inr hr⟩

theorem lex_some {f : Nat} {l : By} {ts : List (Tk × Nat)} (h : lexF f l = .ok ts) : ∃ f' x t r g, f = f' + 1 ∧ Sk l true x ∧ oneF x = .ok t r ∧ l = g ++ x ∧ ((t.kind = 0 ∧ ts = [(t, x.length)]) ∨ (t.kind ≠ 0 ∧ ∃ ts0, lexF f' r = .ok ts0 ∧ ts = (t, x.length) :: ts0)) := by
  cases f with
  | zero => simp [lexF] at h
  | succ f =>
    rw [lex_succ] at h
    have hsk := skipL_sk l
    obtain ⟨g, hg⟩ := sk_suffix hsk
    cases hs : skipL l with
    | mk o x =>
      rw [hs] at hsk hg
      unfold nextF at h
      rw [hs] at h
      cases o with
      | false => cases h
      | true =>
        simp only at h hsk hg
        cases h1 : oneF x with
        | bad r => rw [h1] at h; cases h
        | ok t r =>
          rw [h1] at h
          simp only at h
          refine ⟨f, x, t, r, g, rfl, hsk, h1, hg, ?_⟩
          by_cases hk : t.kind = 0
          · rw [if_pos hk] at h
            cases h
            exact .inl ⟨hk, rfl⟩
          · rw [if_neg hk] at h
            cases h2 : lexF f r with
            | error n => rw [h2] at h; cases h
            | ok ts0 =>
              rw [h2] at h
              cases h
              exact .inr ⟨hk, ts0, rfl, rfl⟩

theorem weave {e : By} (hE : Ext e) : ∀ (f : Nat) (l : By) (ts : List (Tk × Nat)), lexF f l = .ok ts →
    (∃ g x rest, Opens l (ts.map (·.2)) g x rest ∧ Asc x) ∧
    ∀ f', (wv e l (ts.map (·.2))).length < f' → ∃ ts', lexF f' (wv e l (ts.map (·.2))) = .ok ts' ∧ ts'.map (·.1) = ts.map (·.1)
  | f, l, ts, h => by
    obtain ⟨f0, x, t, r, g0, rfl, hsk, h1, -, hcase⟩ := lex_some h
    obtain ⟨g, hl, hg, hx1, hx2⟩ := sk_ext hE hsk rfl
    rcases hcase with ⟨hk, rfl⟩ | ⟨hk, ts0, h2, rfl⟩
    · have hx : x = [] := by
        rcases one_local h1 with ⟨hx, _, _⟩ | ⟨c, k, _, h3, _⟩
        · exact hx
        · exact absurd hk h3
      subst hx
      refine ⟨⟨g, [], [], ⟨hl, rfl, hg⟩, fun c r h => by cases h⟩, fun f' hf' => ?_⟩
      simp only [List.map_cons, List.map_nil] at hf' ⊢
      rw [wv_split e hl]
      simp only [wv, List.append_nil]
      have hs2 := sk_skipL (hx2 rfl)
      obtain ⟨f'', rfl⟩ : ∃ f'', f' = f'' + 1 := ⟨f' - 1, by omega⟩
      refine ⟨[(t, 0)], ?_, rfl⟩
      rw [lex_succ]
      have e1 : nextF (g ++ e) = .ok t r := by unfold nextF; rw [hs2]; exact h1
      rw [e1]
      simp only [hk, if_true, hs2, List.length_nil]
    · obtain ⟨⟨g', x', rest, hop, hasc⟩, ih⟩ := weave hE f0 r ts0 h2
      rcases one_local h1 with ⟨_, _, ht⟩ | ⟨c, k, hxe, _, hloc⟩
      · exact absurd (by rw [ht]) hk
      · refine ⟨⟨g, x, ts0.map (·.2), ⟨hl, rfl, hg⟩, head_asc h1⟩, fun f' hf' => ?_⟩
        simp only [List.map_cons] at hf' ⊢
        rw [wv_split e hl] at hf' ⊢
        obtain ⟨Z, hZ⟩ : ∃ Z, wv e r (ts0.map (·.2)) = Z := ⟨_, rfl⟩
        have hZ2 : Z = g' ++ (e ++ wv e x' rest) := by rw [← hZ, hop.ks, wv_split e hop.eq]
        have hxZ : wv e x (ts0.map (·.2)) = (c :: k) ++ Z := by
          rw [hop.ks, wv_split e (show x = ((c :: k) ++ g') ++ x' by rw [hxe, hop.eq, List.append_assoc]), hZ2, List.append_assoc]
        obtain ⟨ec, er, hee, hew⟩ := hE.head
        have hgood : Good Z := by
          rw [hZ2]
          rcases hop.head with rfl | ⟨d, g2, rfl, hd⟩
          · exact ⟨ec, _, by rw [hee]; rfl, .inl hew⟩
          · exact ⟨d, _, rfl, hd⟩
        have hstop : Stop ((c :: k) ++ Z) := by
          refine stop_swap (by rw [← hxe]; exact sk_stop hsk rfl) ?_
          intro _ d Z' hd hd2
          rw [hZ2] at hd
          rcases hop.head with hg0 | ⟨d2, g2, hg2, _⟩
          · rw [hg0, hee] at hd
            simp only [List.nil_append, List.cons_append, List.cons.injEq] at hd
            rw [hd.1] at hew
            rcases hd2 with rfl | rfl
            · exact absurd hew (by decide)
            · exact absurd hew (by decide)
          · rw [hg2] at hd
            simp only [List.cons_append, List.cons.injEq] at hd
            exact ⟨g2 ++ x', by rw [hop.eq, hg2, ← hd.1]; rfl⟩
        rw [hxZ] at hf' ⊢
        have hne : x ≠ [] := by rw [hxe]; simp
        have hs2 := sk_skipL (hx1 hne _ hstop)
        obtain ⟨f'', rfl⟩ : ∃ f'', f' = f'' + 1 := ⟨f' - 1, by omega⟩
        rw [hZ] at ih
        obtain ⟨ts1, h3, h4⟩ := ih f'' (by simp only [List.length_append, List.length_cons] at hf'; omega)
        refine ⟨(t, ((c :: k) ++ Z).length) :: ts1, ?_, by simp [h4]⟩
        rw [lex_succ]
        have e1 : nextF (g ++ (e ++ ((c :: k) ++ Z))) = .ok t Z := by unfold nextF; rw [hs2]; exact hloc Z hgood
        rw [e1]
        simp only [hk, if_false, hs2, h3]
end Go.Proofs.YtlboaldikgonoaaDoor.Lx

namespace Go.Proofs.YtlboaldikgonoaaDoor.Lx
open Go Go.Proofs.YtlboaldikgonoaaDoor.Uni
set_option linter.unusedVariables false
set_option linter.unusedSimpArgs false

theorem B_bs (l : By) (k : Nat) : B (bs l) k = (l[k]?.getD 0).toNat := by unfold B; rw [bs_list]
theorem B_app1 (x y : By) (k : Nat) (h : k < x.length) : B (bs (x ++ y)) k = B (bs x) k := by rw [B_bs, B_bs, List.getElem?_append_left h]
theorem B_app2 (x y : By) (hy : Asc y) : B (bs (x ++ y)) x.length < 128 := by
  rw [B_bs, List.getElem?_append_right (Nat.le_refl _), Nat.sub_self]
  cases y with
  | nil => simp
  | cons c r => exact hy c r rfl
theorem dec_pre (x y : By) (hx : x ≠ []) (hy : Asc y) : Utf8.decode (bs (x ++ y)) 0 = Utf8.decode (bs x) 0 := by
  have hl : 0 < x.length := List.length_pos_iff.2 hx
  have h0 := B_app1 x y 0 hl
  have hm := B_app2 x y hy
  have s1 : (bs (x ++ y)).size = x.length + y.length := by rw [bs_size, List.length_append]
  have s2 : (bs x).size = x.length := bs_size x
  rw [dec_eq, dec_eq, s1, s2, h0]
  simp only [Nat.zero_add]
  rcases (by omega : x.length = 1 ∨ x.length = 2 ∨ x.length = 3 ∨ 4 ≤ x.length) with e | e | e | e
  · rw [e] at hm ⊢
    have n1 : ¬ B (bs (x ++ y)) 1 / 64 = 2 := by omega
    simp only [n1, Nat.lt_irrefl, and_false, false_and, if_false]
  · have h1 := B_app1 x y 1 (by omega)
    rw [e] at hm ⊢
    have n1 : ¬ B (bs (x ++ y)) 2 / 64 = 2 := by omega
    have i1 : 1 < 2 + y.length := by omega
    simp only [h1, n1, i1, Nat.lt_irrefl, and_false, false_and, if_false, true_and, show (1 : Nat) < 2 by decide]
  · have h1 := B_app1 x y 1 (by omega)
    have h2 := B_app1 x y 2 (by omega)
    rw [e] at hm ⊢
    have n1 : ¬ B (bs (x ++ y)) 3 / 64 = 2 := by omega
    have i1 : 1 < 3 + y.length := by omega
    have i2 : 2 < 3 + y.length := by omega
    simp only [h1, h2, n1, i1, i2, Nat.lt_irrefl, and_false, false_and, if_false, true_and, show (1 : Nat) < 3 by decide, show (2 : Nat) < 3 by decide]
  · have h1 := B_app1 x y 1 (by omega)
    have h2 := B_app1 x y 2 (by omega)
    have h3 := B_app1 x y 3 (by omega)
    have a1 : 1 < x.length + y.length := by omega
    have a2 : 2 < x.length + y.length := by omega
    have a3 : 3 < x.length + y.length := by omega
    have b1 : 1 < x.length := by omega
    have b2 : 2 < x.length := by omega
    have b3 : 3 < x.length := by omega
    simp only [h1, h2, h3, a1, a2, a3, b1, b2, b3]

/-- Is all encoded? -/
def okF : Nat → By → Bool
  | 0, l => true
  | f + 1, l => if l = [] then true else if Utf8.decode (bs l) 0 = (65533, 1) then false else okF f (l.drop (Utf8.decode (bs l) 0).2)
theorem dec_one (l : By) (h : l ≠ []) : 1 ≤ (Utf8.decode (bs l) 0).2 ∧ (Utf8.decode (bs l) 0).2 ≤ l.length := by
  have hl : 0 < l.length := List.length_pos_iff.2 h
  rcases decode_cases (bs l) 0 (by rw [bs_size]; exact hl) with e | e
  · rw [e]; exact ⟨by decide, hl⟩
  · have := e.2.1
    rw [bs_size] at this
    exact ⟨e.1, by omega⟩
theorem okF_fuel : ∀ (f g : Nat) (l : By), l.length ≤ f → l.length ≤ g → okF f l = okF g l
  | 0, 0, l, _, _ => rfl
  | 0, g + 1, l, hf, _ => by
    have : l = [] := List.length_eq_zero_iff.1 (by omega)
    subst this
    rfl
  | f + 1, 0, l, _, hg => by
    have : l = [] := List.length_eq_zero_iff.1 (by omega)
    subst this
    rfl
  | f + 1, g + 1, l, hf, hg => by
    simp only [okF]
    by_cases h : l = []
    · rw [if_pos h, if_pos h]
    · rw [if_neg h, if_neg h]
      have hd := dec_one l h
      split
      · rfl
      · exact okF_fuel f g _ (by rw [List.length_drop]; omega) (by rw [List.length_drop]; omega)
def okL (l : By) : Bool := okF l.length l
theorem okL_nil : okL [] = true := rfl
theorem okL_step {l : By} (h : l ≠ []) : okL l = if Utf8.decode (bs l) 0 = (65533, 1) then false else okL (l.drop (Utf8.decode (bs l) 0).2) := by
  have hd := dec_one l h
  obtain ⟨m, hm⟩ : ∃ m, l.length = m + 1 := ⟨l.length - 1, by omega⟩
  unfold okL
  rw [hm]
  simp only [okF]
  rw [if_neg h]
  split
  · rfl
  · exact okF_fuel _ _ _ (by rw [List.length_drop]; omega) (Nat.le_refl _)
theorem okL_app : ∀ (n : Nat) (x y : By), x.length ≤ n → Asc y → okL (x ++ y) = (okL x && okL y)
  | n, [], y, _, _ => by simp [okL_nil]
  | 0, c :: x, y, h, _ => by simp at h
  | n + 1, c :: x, y, h, hy => by
    have hne : c :: x ≠ [] := by simp
    have hd := dec_one (c :: x) hne
    rw [okL_step (l := c :: x ++ y) (by simp), okL_step (l := c :: x) hne, dec_pre (c :: x) y hne hy]
    split
    · rfl
    · rw [List.drop_append_of_le_length hd.2]
      exact okL_app n _ y (by rw [List.length_drop]; simp only [List.length_cons] at h hd ⊢; omega) hy
theorem dec_drop (s : ByteArray) (i : Nat) : Utf8.decode (bs (s.data.toList.drop i)) 0 = Utf8.decode s i := by
  have hb : ∀ k, B (bs (s.data.toList.drop i)) k = B s (i + k) := fun k => by
    rw [B_bs, List.getElem?_drop]
    rfl
  have hs : (bs (s.data.toList.drop i)).size = s.size - i := by rw [bs_size, List.length_drop, lsz]
  have i1 : (1 < s.size - i) = (i + 1 < s.size) := by apply propext; omega
  have i2 : (2 < s.size - i) = (i + 2 < s.size) := by apply propext; omega
  have i3 : (3 < s.size - i) = (i + 3 < s.size) := by apply propext; omega
  rw [dec_eq, dec_eq s i]
  simp only [hb, hs, Nat.zero_add, Nat.add_zero, i1, i2, i3]
theorem bad_ok : ∀ (f : Nat) (s : ByteArray) (i : Nat), s.size ≤ i + f → (badF s f i = none ↔ okF f (s.data.toList.drop i) = true)
  | 0, s, i, h => by simp [badF, okF]
  | f + 1, s, i, h => by
    by_cases hi : i < s.size
    · have hne : s.data.toList.drop i ≠ [] := fun e => by
        have := congrArg List.length e
        rw [List.length_drop, lsz] at this
        simp at this
        omega
      simp only [okF]
      rw [if_neg hne, dec_drop]
      by_cases hd : Utf8.decode s i = (65533, 1)
      · rw [badF_hit hi hd, if_pos hd]; simp
      · rw [badF_step hi hd, if_neg hd, List.drop_drop]
        have := dec_one _ hne
        rw [dec_drop] at this
        exact bad_ok f s _ (by omega)
    · rw [badF_end hi, List.drop_eq_nil_of_le (by rw [lsz]; omega)]
      simp [okF]
theorem badS_ok (s : ByteArray) : badS s = none ↔ okL s.data.toList = true := by
  have := bad_ok s.size s 0 (by omega)
  rw [List.drop_zero] at this
  unfold badS okL
  rw [lsz]
  exact this
theorem okL_asc : ∀ {e : By}, (∀ c ∈ e, c.toNat < 128) → okL e = true := by
  intro e h
  have := (badS_ok (bs e)).1 (bad_ascii (by rw [bs_list]; exact h))
  rwa [bs_list] at this

theorem asc_app {g x : By} (hg : g = [] ∨ ∃ c r, g = c :: r ∧ (whiteN c.toNat = true ∨ c = 47)) (hx : Asc x) : Asc (g ++ x) := by
  rcases hg with rfl | ⟨c, r, rfl, h⟩
  · exact hx
  · intro d r' hd
    simp only [List.cons_append, List.cons.injEq] at hd
    rw [← hd.1]
    rcases h with h | rfl
    · exact white_lt h
    · decide
theorem weave_ok {e : By} (hE : Ext e) (hA : ∀ c ∈ e, c.toNat < 128) : ∀ (f : Nat) (l : By) (ts : List (Tk × Nat)), lexF f l = .ok ts → okL l = true → okL (wv e l (ts.map (·.2))) = true
  | f, l, ts, h, hok => by
    obtain ⟨f0, x, t, r, g0, rfl, hsk, h1, hl0, hcase⟩ := lex_some h
    obtain ⟨g, hl, hg, -, -⟩ := sk_ext hE hsk rfl
    obtain ⟨ec, er, hee, hew⟩ := hE.head
    have heA : ∀ Y, Asc (e ++ Y) := fun Y d r' hd => by
      rw [hee] at hd
      simp only [List.cons_append, List.cons.injEq] at hd
      rw [← hd.1]
      exact white_lt hew
    have hax := head_asc h1
    rw [hl, okL_app _ g x (Nat.le_refl _) hax, Bool.and_eq_true] at hok
    rcases hcase with ⟨hk, rfl⟩ | ⟨hk, ts0, h2, rfl⟩
    · simp only [List.map_cons, List.map_nil]
      rw [wv_split e hl]
      simp only [wv]
      rw [okL_app _ g _ (Nat.le_refl _) (heA _), hok.1, List.append_nil, okL_asc hA]
      rfl
    · have hrec := weave_ok hE hA f0 r ts0 h2
      obtain ⟨⟨g', x', rest, hop, hasc⟩, -⟩ := weave hE f0 r ts0 h2
      rcases one_local h1 with ⟨_, _, ht⟩ | ⟨c, k, hxe, _, _⟩
      · exact absurd (by rw [ht]) hk
      · have har : Asc r := by rw [hop.eq]; exact asc_app hop.head hasc
        have hxx := hok.2
        rw [hxe, okL_app _ (c :: k) r (Nat.le_refl _) har, Bool.and_eq_true] at hxx
        simp only [List.map_cons]
        rw [wv_split e hl]
        obtain ⟨Z, hZ⟩ : ∃ Z, wv e r (ts0.map (·.2)) = Z := ⟨_, rfl⟩
        have hZ2 : Z = g' ++ (e ++ wv e x' rest) := by rw [← hZ, hop.ks, wv_split e hop.eq]
        have hxZ : wv e x (ts0.map (·.2)) = (c :: k) ++ Z := by
          rw [hop.ks, wv_split e (show x = ((c :: k) ++ g') ++ x' by rw [hxe, hop.eq, List.append_assoc]), hZ2, List.append_assoc]
        have hzA : Asc Z := by rw [hZ2]; exact asc_app hop.head (heA _)
        have hcA : Asc ((c :: k) ++ Z) := fun d r' hd => by
          simp only [List.cons_append, List.cons.injEq] at hd
          rw [← hd.1]
          exact hax c _ hxe
        rw [hxZ, okL_app _ g _ (Nat.le_refl _) (heA _), okL_app _ e _ (Nat.le_refl _) hcA, okL_app _ (c :: k) Z (Nat.le_refl _) hzA, hok.1, okL_asc hA, hxx.1, ← hZ, hrec hxx.2]
        rfl
end Go.Proofs.YtlboaldikgonoaaDoor.Lx

namespace Go.Proofs.YtlboaldikgonoaaDoor.Lx
open Go Go.Proofs.YtlboaldikgonoaaDoor.Uni
set_option linter.unusedVariables false
set_option linter.unusedSimpArgs false

def Dn : Nat → List Nat → Prop
  | _, [] => True
  | b, k :: ks => k ≤ b ∧ Dn k ks
theorem Dn.mono : ∀ {ks : List Nat} {b b' : Nat}, b ≤ b' → Dn b ks → Dn b' ks
  | [], _, _, _, _ => trivial
  | _ :: _, _, _, h, hd => ⟨Nat.le_trans hd.1 h, hd.2⟩
theorem lex_down : ∀ (f : Nat) (l : By) (ts : List (Tk × Nat)), lexF f l = .ok ts → Dn l.length (ts.map (·.2)) ∧ ts.length ≤ l.length + 1 ∧ 0 < ts.length
  | f, l, ts, h => by
    obtain ⟨f0, x, t, r, g, rfl, hsk, h1, hl, hcase⟩ := lex_some h
    have hx : x.length ≤ l.length := by rw [hl]; simp
    rcases hcase with ⟨hk, rfl⟩ | ⟨hk, ts0, h2, rfl⟩
    · exact ⟨⟨hx, trivial⟩, by simp, by simp⟩
    · obtain ⟨i1, i2, _⟩ := lex_down f0 r ts0 h2
      rcases one_local h1 with ⟨_, _, ht⟩ | ⟨c, k, hxe, _, _⟩
      · exact absurd (by rw [ht]) hk
      · have hr : r.length + 1 ≤ x.length := by rw [hxe]; simp
        exact ⟨⟨hx, i1.mono (show r.length ≤ x.length by omega)⟩, by simp; omega, by simp⟩
theorem wv_len (e : By) : ∀ (ks : List Nat) (l : By), (wv e l ks).length ≤ l.length + ks.length * e.length
  | [], l => by simp [wv]
  | k :: ks, l => by
    have ih := wv_len e ks (l.drop (l.length - k))
    simp only [wv, List.length_append, List.length_take, List.length_drop, List.length_cons] at ih ⊢
    rw [Nat.succ_mul]
    omega
theorem ext_len {e : By} (h : e ∈ exts) : e.length ≤ 11 := by
  have : (exts.all fun e => decide (e.length ≤ 11)) = true := by decide
  simpa using List.all_eq_true.1 this e h
theorem ext_asc {e : By} (h : e ∈ exts) : ∀ c ∈ e, c.toNat < 128 := by
  have : (exts.all fun e => e.all fun c => decide (c.toNat < 128)) = true := by decide
  have h1 := List.all_eq_true.1 this e h
  intro c hc
  simpa using List.all_eq_true.1 h1 c hc
/-- What the law meets. -/
structure Meets (L : By) (e : By) (toks : List Tok) (ks : List Nat) (toks' : List Tok) : Prop where
  len : toks.length = ks.length
  ne : 0 < ks.length
  few : ks.length ≤ L.length + 1
  down : Dn L.length ks
  pos : ∀ (i : Nat) (t : Tok), toks[i]? = some t → ∃ k, ks[i]? = some k ∧ t.pos = ((L.length - k : Nat) : Int)
  lex : lexT (bs (wv e L ks)) = (0, 0, toks')
  len' : toks'.length = toks.length
  same : ∀ (i : Nat) (t : Tok), toks[i]? = some t → ∃ t' : Tok, toks'[i]? = some t' ∧ t'.kind = t.kind ∧ t'.num = t.num ∧ t'.text = t.text
theorem meets {s : ByteArray} {e : By} (he : e ∈ exts) (hz : s.size ≤ 1000) (h : (lexT s).1 = 0) : (lexT s).2.1 = 0 ∧ ∃ ks toks', Meets s.data.toList e (lexT s).2.2 ks toks' := by
  unfold lexT at h ⊢
  rw [if_neg (by omega)] at h ⊢
  cases hb : badS s with
  | some i => rw [hb] at h; simp at h
  | none =>
    rw [hb] at h
    simp only at h ⊢
    cases hl : lexF (s.size + 1) s.data.toList with
    | error n => rw [hl] at h; simp at h
    | ok ts =>
      simp only
      refine ⟨trivial, ts.map (·.2), ?_⟩
      obtain ⟨hd, hn, hne⟩ := lex_down _ _ _ hl
      have hE := ext_all he
      have hwl := wv_len e (ts.map (·.2)) s.data.toList
      have hel := ext_len he
      rw [List.length_map] at hwl
      have hls : s.data.toList.length = s.size := lsz s
      have hbig : ts.length * e.length ≤ 1001 * 11 := Nat.mul_le_mul (by omega) hel
      obtain ⟨ts', h3, h4⟩ := (weave hE _ _ _ hl).2 ((wv e s.data.toList (ts.map (·.2))).length + 1) (Nat.lt_succ_self _)
      have hok := weave_ok hE (ext_asc he) _ _ _ hl ((badS_ok s).1 hb)
      have hlex : lexT (bs (wv e s.data.toList (ts.map (·.2)))) = (0, 0, ts'.map (tokOf (wv e s.data.toList (ts.map (·.2))).length)) := by
        unfold lexT
        rw [bs_size, if_neg (by omega), (badS_ok _).2 (by rw [bs_list]; exact hok), bs_list]
        simp only [h3]
      refine ⟨_, ⟨by simp, by simp; omega, by simp; omega, hd, ?_, hlex, ?_, ?_⟩⟩
      · intro i t ht
        rw [List.getElem?_map] at ht
        cases hi : ts[i]? with
        | none => rw [hi] at ht; cases ht
        | some p =>
          rw [hi] at ht
          cases ht
          exact ⟨p.2, by rw [List.getElem?_map, hi]; rfl, by rw [hls]; rfl⟩
      · have := congrArg List.length h4
        simpa using this
      · intro i t ht
        rw [List.getElem?_map] at ht
        cases hi : ts[i]? with
        | none => rw [hi] at ht; cases ht
        | some p =>
          rw [hi] at ht
          cases ht
          have h5 := congrArg (·[i]?) h4
          simp only [List.getElem?_map, hi, Option.map_some] at h5
          cases hi' : ts'[i]? with
          | none => rw [hi'] at h5; cases h5
          | some p' =>
            rw [hi'] at h5
            simp only [Option.map_some, Option.some.injEq] at h5
            exact ⟨_, by rw [List.getElem?_map, hi']; rfl, by simp [tokOf, h5], by simp [tokOf, h5], by simp [tokOf, h5]⟩
end Go.Proofs.YtlboaldikgonoaaDoor.Lx

namespace Go.Proofs.YtlboaldikgonoaaDoor.Lx
open Go Go.RowKit Go.Maps Go.Proofs.YtlboaldikgonoaaDoor.Uni
set_option linter.unusedVariables false
set_option linter.unusedSimpArgs false

/-- An argument of bytes. -/
def ArgRow (w : World) (ao : Option Addr) (n cp : Nat) (L : By) : Prop :=
  L.length = n ∧ ((ao = none ∧ n = 0 ∧ cp = 0) ∨ ∃ x, ao = some x ∧ n ≤ cp ∧ cp ≤ maxLen ∧ ∀ j (hj : j < L.length), w.cell? (x.add j) = some (.int .u8 (L[j].toNat : Int)))
theorem ArgRow.below {w w' : World} {ao : Option Addr} {n cp : Nat} {L : By} (h : ArgRow w ao n cp L) (hb : Below w.heap.size w w') : ArgRow w' ao n cp L := by
  refine ⟨h.1, ?_⟩
  rcases h.2 with h2 | ⟨x, e, h3, h4, h5⟩
  · exact .inl h2
  · refine .inr ⟨x, e, h3, h4, fun j hj => ?_⟩
    have hc := h5 j hj
    rw [hb.cell (World.block_lt_of_cell? w _ hc), hc]
theorem ArgRow.conv {w : World} {ao : Option Addr} {n cp : Nat} {L : By} (h : ArgRow w ao n cp L) : (convert 25 9 (.slice ao n cp)).run Tryd.prog w = .ok (.string (bs L)) w := by
  obtain ⟨rfl, h2⟩ := h
  rcases h2 with ⟨rfl, h0, rfl⟩ | ⟨x, rfl, _, _, hc⟩
  · have : L = [] := List.eq_nil_of_length_eq_zero h0
    subst this
    exact run_convert_bytes_nil w 25 5 Tryd.underlying25 Tryd.underlying5 _ _ 9 Tryd.underlying9
  · exact run_convert_bytes_back w 25 9 5 x cp L Tryd.underlying25 Tryd.underlying5 Tryd.underlying9 hc
theorem toks_arg (L : By) (n cp : Nat) (ao : Option Addr) (w : World) (hF : Fa w) (h7 : 7 ≤ w.heap.size) (hm : n ≤ 9223372036854775807) (h : ArgRow w ao n cp L) :
    Calls Tryd.prog 12 #[.slice ao n cp] w (TokPost (bs L) w) := by
  have hz : (bs L).size = n := by rw [bs_size, h.1]
  have := toks_any ao cp (bs L) w hF h7 (by rw [hz]; exact h.conv) (by omega)
  rwa [hz] at this

theorem info8s : (Tryd.prog.info? 5).map (fun i => (i.zero, i.size, i.bytes)) = some (some (.int .u8 0), 1, 1) := by kernel_rfl
theorem one_cells (l : By) : ∀ u ∈ Lib.byteCells l, u.oneCell' = true := by
  intro u hu
  unfold Lib.byteCells at hu
  obtain ⟨n, _, rfl⟩ := List.mem_map.1 hu
  rfl
/-- A row of bytes of the call's own, in a world later than B. -/
structure Buf (B : Nat) (wB : World) (acc : By) (v : Value) (w : World) : Prop where
  own : w.ownsRow B 5 1 v acc.length (Lib.byteCells acc)
  bel : Below B wB w
  size : B ≤ w.heap.size
theorem Buf.grown {B : Nat} {wB w w' : World} {acc acc' : By} {v v' : Value} {n : Nat} {xs : List Value} (h : Buf B wB acc v w) (hown : w'.ownsRow B 5 1 v' n xs) (hn : n = acc'.length) (hx : xs = Lib.byteCells acc') (hg : w.grownBy w' v.ownBlock) : Buf B wB acc' v' w' := by
  subst hn hx
  refine ⟨hown, h.bel.grown hg h.size (fun k hk => (h.own.lt k hk).1), Nat.le_trans h.size ?_⟩
  exact hg.size
theorem Buf.drew {B : Nat} {wB w : World} {acc : By} {v : Value} (h : Buf B wB acc v w) : Buf B wB acc v w.drew := ⟨h.own.drew, h.bel.drew, h.size⟩
/-- append of a piece of the argument. -/
theorem run_piece {B : Nat} {wB w : World} {acc L : By} {v : Value} {ao : Option Addr} {n cp fr at' : Nat} (ty : TypeId) (h : Buf B wB acc v w) (hA : ArgRow w ao n cp L) (hfa : fr ≤ at') (han : at' ≤ n) (hsm : acc.length + (at' - fr) ≤ 100000) :
    ∃ v' w', (Builtin.append_ #[25, 25] ty #[v, .slice (if cp = fr then ao else Option.map (fun x => x.add fr) ao) (at' - fr) (cp - fr)]).run Tryd.prog w = .ok v' w' ∧ Buf B wB (acc ++ (L.drop fr).take (at' - fr)) v' w' := by
  obtain ⟨i0, hi, hz0, hz1, hz2⟩ := info_parts info8s
  have hxl := hA.1
  rcases hA.2 with ⟨rfl, rfl, rfl⟩ | ⟨x, rfl, hnc, hcm, hc⟩
  · obtain rfl : at' = 0 := by omega
    obtain rfl : fr = 0 := by omega
    refine ⟨v, w, ?_, ?_⟩
    · exact run_append_owned_none (P := Tryd.prog) (w := w) B 25 ty 5 i0 1 Tryd.underlying25 hi v _ _ h.own
    · simpa using h
  · have hm1 : acc.length + (at' - fr) ≤ maxLen := by unfold maxLen; omega
    by_cases hcf : cp = fr
    · obtain ⟨v', w', hr, h2, h3, _, _⟩ := run_append_own_at (P := Tryd.prog) w B 25 ty 5 i0 (.int .u8 0) 1 1 Tryd.underlying25 hi hz0 hz1 hz2 rfl (by decide) v _ _ h.own x (at' - fr) (cp - fr) [] (by simp; omega) (fun j u hj => by simp at hj) (fun u hu => by simp at hu) hm1 (by omega) h.size
      refine ⟨v', w', by rw [if_pos hcf]; exact hr, h.grown h2 (by simp; omega) ?_ h3⟩
      have : at' - fr = 0 := by omega
      rw [this]
      simp
    · obtain ⟨v', w', hr, h2, h3, _, _⟩ := run_append_own_at (P := Tryd.prog) w B 25 ty 5 i0 (.int .u8 0) 1 1 Tryd.underlying25 hi hz0 hz1 hz2 rfl (by decide) v _ _ h.own (x.add fr) (at' - fr) (cp - fr) (Lib.byteCells ((L.drop fr).take (at' - fr))) (by simp [Lib.byteCells]; omega) (fun j u hj => by
        unfold Lib.byteCells at hj
        rw [List.getElem?_map, List.getElem?_take, List.getElem?_drop] at hj
        split at hj
        · cases hl : L[fr + j]? with
          | none => rw [hl] at hj; cases hj
          | some c =>
            rw [hl] at hj
            obtain ⟨hlt, hcc⟩ := List.getElem?_eq_some_iff.1 hl
            simp only [Option.map_some, Option.some.injEq] at hj
            rw [Addr.add_add, hc (fr + j) hlt, hcc, ← hj]
        · cases hj) (one_cells _) hm1 (by omega) h.size
      refine ⟨v', w', by rw [if_neg hcf]; exact hr, h.grown h2 (by simp; omega) (by rw [Lib.byteCells_append]) h3⟩
theorem piece_ne {B : Nat} {wB w : World} {acc L : By} {v : Value} {ao : Option Addr} {n cp fr at' : Nat} (ty : TypeId) (h : Buf B wB acc v w) (hA : ArgRow w ao n cp L) (hfa : fr ≤ at') (han : at' ≤ n) (hsm : acc.length + (at' - fr) ≤ 100000) (hcf : ¬ cp = fr) (m c : Nat) (hm : m = at' - fr) (hc : c = cp - fr) :
    ∃ v' w', (Builtin.append_ #[25, 25] ty #[v, .slice (Option.map (fun x => x.add fr) ao) m c]).run Tryd.prog w = .ok v' w' ∧ Buf B wB (acc ++ (L.drop fr).take (at' - fr)) v' w' := by
  have := run_piece ty h hA hfa han hsm
  rw [if_neg hcf] at this
  rw [hm, hc]
  exact this
theorem piece_eq {B : Nat} {wB w : World} {acc L : By} {v : Value} {ao : Option Addr} {n cp fr at' : Nat} (ty : TypeId) (h : Buf B wB acc v w) (hA : ArgRow w ao n cp L) (hfa : fr ≤ at') (han : at' ≤ n) (hsm : acc.length + (at' - fr) ≤ 100000) (hcf : cp = fr) (m c : Nat) (hm : m = at' - fr) (hc : c = cp - fr) :
    ∃ v' w', (Builtin.append_ #[25, 25] ty #[v, .slice ao m c]).run Tryd.prog w = .ok v' w' ∧ Buf B wB (acc ++ (L.drop fr).take (at' - fr)) v' w' := by
  have := run_piece ty h hA hfa han hsm
  rw [if_pos hcf] at this
  rw [hm, hc]
  exact this
theorem run_ext {B : Nat} {wB w : World} {acc e : By} {v : Value} (ty : TypeId) (h : Buf B wB acc v w) (hsm : acc.length + e.length ≤ 100000) :
    ∃ v' w', (Builtin.append_ #[25, 9] ty #[v, .string (bs e)]).run Tryd.prog w = .ok v' w' ∧ Buf B wB (acc ++ e) v' w' := by
  obtain ⟨i0, hi, hz0, hz1, hz2⟩ := info_parts info8s
  have hz : (bs e).size = e.length := bs_size e
  obtain ⟨v', w', hr, h2, h3, _⟩ := Lib.run_append_own_string (P := Tryd.prog) w B 25 9 ty 5 i0 Tryd.underlying25 Tryd.underlying9 hi hz0 hz1 hz2 v _ _ h.own (bs e) (by unfold maxLen; omega) (by omega) h.size
  refine ⟨v', w', hr, h.grown h2 (by simp [hz]) ?_ h3⟩
  rw [Lib.strCells_eq, bs_list, Lib.byteCells_append]
theorem step_app {P : Program} {ops : Array Oper} {o : Oper} {a : Act} {w : World} {K : Act → World → Prop} {Q : Exit → Act → World → Prop} {E : Prop} (hgd : o.guard = none) (s x : Operand) (t u : TypeId)
    (ho : o.op = .call { callee := .builtin .append, args := #[s, x], argTypes := #[t, u] }) (v vx : Value) (hs : a.eval s = v) (hx : a.eval x = vx) {R : Value → World → Prop}
    (hr : ∃ v' w', (Builtin.append_ #[t, u] o.type #[v, vx]).run P w = .ok v' w' ∧ R v' w') (h : ∀ v' w', R v' w' → K (a.put o.dst v') w') :
    if Region.wanted o (yielded ops a.tmps) = true then Oper.wp P o a w K Q else E := by
  have hw : Region.wanted o (yielded ops a.tmps) = true := by simp [Region.wanted, hgd]
  rw [if_pos hw]
  obtain ⟨v', w', hr, hR⟩ := hr
  unfold Oper.wp execOp
  simp only [ho, resolve, invoke, builtin, Sem.run_bind, Sem.run_pure, Result.andThen_ok, List.map_toArray, List.map_cons, List.map_nil, hs, hx, hr]
  exact h v' w' hR
theorem cellb {w w' : World} (hb : Below w.heap.size w w') {a : Addr} {v : Value} (hc : w.cell? a = some v) : w'.cell? a = some v := (hb.cell (World.block_lt_of_cell? w a hc)).trans hc
theorem rowf {w : World} {base n : Nat} {v : Value} {xs : List Value} (h : w.ownsRow base 5 1 v n xs) : ∃ ao cp, v = .slice ao n cp := by
  rcases h.2 with ⟨rfl, hv⟩ | ⟨g, cap, cur, rfl, _⟩
  · subst hv
    exact ⟨none, 0, rfl⟩
  · exact ⟨some ⟨g, 0, none⟩, cap, rfl⟩
theorem ext_cell (k : Nat) (h : k < 9) : ∃ e ∈ exts, (#[Value.string ⟨#[32]⟩, .string ⟨#[9]⟩, .string ⟨#[10]⟩, .string ⟨#[13, 10]⟩, .string ⟨#[32, 47, 47, 32, 120, 10]⟩, .string ⟨#[32, 47, 42, 32, 120, 32, 42, 47, 32]⟩, .string ⟨#[32, 47, 42, 42, 47]⟩, .string ⟨#[32, 47, 42, 32, 10, 32, 47, 47, 32, 42, 47]⟩, .string ⟨#[32, 10, 32, 9]⟩] : Array Value)[k]? = some (.string (bs e)) := by
  match k, h with
  | 0, _ => exact ⟨[32], by decide, rfl⟩
  | 1, _ => exact ⟨[9], by decide, rfl⟩
  | 2, _ => exact ⟨[10], by decide, rfl⟩
  | 3, _ => exact ⟨[13, 10], by decide, rfl⟩
  | 4, _ => exact ⟨[32, 47, 47, 32, 120, 10], by decide, rfl⟩
  | 5, _ => exact ⟨[32, 47, 42, 32, 120, 32, 42, 47, 32], by decide, rfl⟩
  | 6, _ => exact ⟨[32, 47, 42, 42, 47], by decide, rfl⟩
  | 7, _ => exact ⟨[32, 47, 42, 32, 10, 32, 47, 47, 32, 42, 47], by decide, rfl⟩
  | 8, _ => exact ⟨[32, 10, 32, 9], by decide, rfl⟩
end Go.Proofs.YtlboaldikgonoaaDoor.Lx

namespace Go.Proofs.YtlboaldikgonoaaDoor.Lx
open Go Go.RowKit Go.Maps Go.Proofs.YtlboaldikgonoaaDoor.Uni
set_option linter.unusedVariables false
set_option linter.unusedSimpArgs false

/-- What is kept while the text is woven: what is laid, what is still to lay. -/
structure SI (L e : By) (ks : List Nat) (B : Nat) (wB : World) (j fr : Nat) (v : Value) (wr : World) : Prop where
  buf : ∃ acc, Buf B wB acc v wr ∧ acc ++ wv e (L.drop fr) (ks.drop j) = wv e L ks
  hfr : fr ≤ L.length
  down : Dn (L.length - fr) (ks.drop j)
theorem si_next {L e : By} {ks : List Nat} {B : Nat} {wB : World} {j fr k : Nat} {acc : By} {v' : Value} {w' : World} (hk : ks[j]? = some k) (hfr : fr ≤ L.length) (hd : Dn (L.length - fr) (ks.drop j)) (hw : acc ++ wv e (L.drop fr) (ks.drop j) = wv e L ks) (hb : Buf B wB (acc ++ (L.drop fr).take ((L.length - k) - fr) ++ e) v' w') :
    SI L e ks B wB (j + 1) (L.length - k) v' w' := by
  have hlt := (List.getElem?_eq_some_iff.1 hk).1
  have he : ks.drop j = k :: ks.drop (j + 1) := by
    rw [List.drop_eq_getElem_cons hlt]
    congr 1
    exact (List.getElem?_eq_some_iff.1 hk).2
  rw [he] at hd hw
  obtain ⟨h1, h2⟩ := hd
  refine ⟨⟨_, hb, ?_⟩, by omega, by rw [show L.length - (L.length - k) = k by omega]; exact h2⟩
  rw [← hw]
  simp only [wv, List.length_drop, List.drop_drop]
  rw [show L.length - fr - k = L.length - k - fr by omega, show fr + (L.length - k - fr) = L.length - k by omega]
  simp
theorem si_k {L : By} {ks : List Nat} {j fr k : Nat} (hk : ks[j]? = some k) (hd : Dn (L.length - fr) (ks.drop j)) : k ≤ L.length - fr := by
  have hlt := (List.getElem?_eq_some_iff.1 hk).1
  have he : ks.drop j = k :: ks.drop (j + 1) := by
    rw [List.drop_eq_getElem_cons hlt]
    congr 1
    exact (List.getElem?_eq_some_iff.1 hk).2
  rw [he] at hd
  exact hd.1

set_option maxRecDepth 100000 in
set_option maxHeartbeats 8000000 in
theorem space_go (L : By) (k : Nat) (n cp : Nat) (ao : Option Addr) (w : World) (hF : Fa w) (h7 : 7 ≤ w.heap.size) (hn : n ≤ 1000) (hk : k < 9) (hA : ArgRow w ao n cp L) (hz : (lexT (bs L)).1 = 0) : Calls Tryd.prog 4 #[.slice ao n cp, .int .i64 (k : Int)] w fun e w' => e = .returned (.bool true) ∧ Below w.heap.size w w' := by
  have hal := alive_any w hF h7
  have hni : (n : Int) ≤ 1000 := by omega
  have hki : (k : Int) < 9 := by omega
  obtain ⟨e, hex, hcell⟩ := ext_cell k hk
  obtain ⟨hz2, ks, toks', M⟩ := meets (s := bs L) hex (by rw [bs_size, hA.1]; exact hn) hz
  rw [bs_list] at M
  have hel := ext_len hex
  have hwl := wv_len e ks L
  have hbig : ks.length * e.length ≤ 1001 * 11 := Nat.mul_le_mul (by have := M.few; have := hA.1; omega) hel
  have hcl : (wv e L ks).length ≤ 12100 := by have := hA.1; omega
  have hL := hA.1
  have hkn : ks.length ≤ 1001 := by have := M.few; omega
  clear hwl hbig
  have HF := Lib.hid hF
  have HT := fun w' (hb : Below w.heap.size w w') => toks_arg L n cp ao w' (HF.out.later h7 hb) (Nat.le_trans h7 hb.size) (by omega) (hA.below hb)
  unfold TokPost at HT
  rw [hz, hz2] at HT
  obtain ⟨toks, htk⟩ : ∃ toks, (lexT (bs L)).2.2 = toks := ⟨_, rfl⟩
  rw [htk] at HT M
  clear hF hz hz2 htk
  obtain ⟨t0, ht0⟩ : ∃ t0, toks[0]? = some t0 := by
    have : 0 < toks.length := by rw [M.len]; exact M.ne
    exact ⟨_, List.getElem?_eq_getElem this⟩
  have HA := Lib.hid hA
  have HM := Lib.hid M
  have htl := M.len
  clear hA M
  go_enter Tryd.func4, Tryd.ntmps4
  go_wp2_with (first | (go_at_call 9; refine hal.mono ?_; rintro ee w1 ⟨rfl, hb1⟩) | (go_at_call 12; refine (HT _ (hb1.alloc hb1.size _)).mono ?_; rintro ee w2 ⟨v2, rfl, hown2, hb2⟩; obtain ⟨g, cg, rfl, hgb, -⟩ := tok_at hown2 ht0; have HO := Lib.hid hown2; have hcl2 := cellb hb2 ((World.cell?_alloc_new w1 _ _ k).trans hcell); have hbw := (hb1.alloc hb1.size _).trans (hb2.mono (hb1.alloc hb1.size _).size); clear hown2) | (go_at_call 13; refine (num_any _ _).mono ?_; rintro ee w5 ⟨rfl, rfl⟩))
  have hO := HO.out
  have hS0 : SI L e ks w2.heap.size w2 0 0 (.slice none 0 0) w2 := ⟨⟨[], ⟨World.ownsRow_nil _ _ _ _, Below.refl _ _, Nat.le_refl _⟩, by simp⟩, Nat.zero_le _, by have := HM.out.down; simpa using this⟩
  have HS0 := Lib.hid hS0
  clear hS0 hO
  go_loopw [10, 11, 12] (fun v fv jv wr => ∃ j fr : Nat, jv = .int .i64 (j : Int) ∧ fv = .int .i64 (fr : Int) ∧ j ≤ ks.length ∧ SI L e ks w2.heap.size w2 j fr v wr) (fun _ _ jv _ => ks.length - (intOf jv).toNat)
  case atStart => exact ⟨0, 0, rfl, rfl, Nat.zero_le _, HS0.out⟩
  case round =>
    obtain ⟨j, fr, rfl, rfl, hj, hI⟩ := hrel
    by_cases hlt : j < ks.length
    · obtain ⟨acc, hbuf, hwv⟩ := hI.buf
      obtain ⟨t, htj⟩ : ∃ t, toks[j]? = some t := ⟨_, List.getElem?_eq_getElem (by omega)⟩
      obtain ⟨kk, hkk, hpos⟩ := HM.out.pos j t htj
      have hkb := si_k hkk hI.down
      have hfr := hI.hfr
      obtain ⟨at', hat⟩ : ∃ at' : Nat, at' = L.length - kk := ⟨_, rfl⟩
      obtain ⟨g', cg', e2, -, -, q1, -, -⟩ := tok_at HO.out htj
      obtain ⟨rfl, rfl⟩ : g = g' ∧ cg = cg' := (by simpa using e2)
      rw [hpos, ← hat] at q1
      have q1r := (hbuf.bel.cell (World.block_lt_of_cell? w2 _ q1)).trans q1
      have hjt : (j : Int) < toks.length := by omega
      have c1 : ¬ (at' : Int) < fr := by omega
      have c0 : (j : Int) ≤ 1001 := by omega
      have c00 : (0 : Int) ≤ (j : Int) := by omega
      have c2 : ¬ (n : Int) < at' := by omega
      have c3 : (fr : Int) ≤ at' := by omega
      have c4 : (at' : Int) ≤ n := by omega
      have HI := Lib.hid hI
      have HB := Lib.hid hbuf
      have hncp : n ≤ cp := by
        rcases HA.out.2 with ⟨_, h1, h2⟩ | ⟨_, _, h1, _⟩
        · omega
        · exact h1
      have c7 : (at' : Int) ≤ cp := by omega
      have c8 : (fr : Int) ≤ cp := by omega
      have c9 : (0 : Int) ≤ (at' : Int) := by omega
      have c10 : (0 : Int) ≤ (fr : Int) := by omega
      have c5 : fr ≤ at' := by omega
      have c6 : at' ≤ n := by omega
      have s0 : acc.length ≤ 12100 := by have := congrArg List.length hwv; simp at this; omega
      have s1 : acc.length + (at' - fr) ≤ 100000 := by omega
      have s2 : (acc ++ (L.drop fr).take (at' - fr)).length + e.length ≤ 100000 := by simp; omega
      have hwr := hbw.trans (hbuf.bel.mono hbw.size)
      have hbd := hbuf.drew
      have hAd := HA.out.below hwr.drew
      have HSx : ∀ w', Below w2.heap.size w2 w' → w'.cell? ⟨g, j * 4 + 1, none⟩ = some (.int .i64 (at' : Int)) ∧ w'.cell? ⟨w1.heap.size, k, none⟩ = some (.string (bs e)) := fun w' h => ⟨(h.cell (World.block_lt_of_cell? w2 _ q1)).trans q1, (h.cell (World.block_lt_of_cell? w2 _ hcl2)).trans hcl2⟩
      have HI := Lib.hid hI
      have HB := Lib.hid hbuf
      have Hs0 := Lib.hid s0
      have Hat := Lib.hid hat
      clear e2 hI hbuf s0 hat hpos
      go_wp2
      by_cases hcf : cp = fr
      · subst hcf
        go_region_held3 (fun w' => w'.cell? ⟨g, j * 4 + 1, none⟩ = some (.int .i64 (at' : Int)) ∧ w'.cell? ⟨w1.heap.size, k, none⟩ = some (.string (bs e))) (first | exact HSx _ hbd.bel | exact HSx _ hb3.bel | exact HSx _ hb4.bel) ((first | (refine step_app (by rfl) _ _ _ _ (by rfl) _ _ (by rfl) (by rfl) (piece_eq _ hbd hAd c5 c6 s1 rfl _ _ (by omega) (by omega)) ?_; intro v3 w3 hb3) | (refine step_app (by rfl) _ _ _ _ (by rfl) _ _ (by rfl) (by rfl) (run_ext _ hb3 s2) ?_; intro v4 w4 hb4)))
        have q1w := (HSx _ hb4.bel).1
        rw [Hat.out] at hb4
        have HB4 := Lib.hid hb4
        clear HSx hbd hAd hb3 hb4
        go_wp2
        go_roundw
        case rel => exact ⟨j + 1, at', by go_num, rfl, by omega, by rw [Hat.out]; exact si_next hkk hfr HI.out.down hwv HB4.out⟩
        case measure => simp [intOf]; omega
      ·
        go_region_held3 (fun w' => w'.cell? ⟨g, j * 4 + 1, none⟩ = some (.int .i64 (at' : Int)) ∧ w'.cell? ⟨w1.heap.size, k, none⟩ = some (.string (bs e))) (first | exact HSx _ hbd.bel | exact HSx _ hb3.bel | exact HSx _ hb4.bel) ((first | (refine step_app (by rfl) _ _ _ _ (by rfl) _ _ (by rfl) (by rfl) (piece_ne _ hbd hAd c5 c6 s1 hcf _ _ (by omega) (by omega)) ?_; intro v3 w3 hb3) | (refine step_app (by rfl) _ _ _ _ (by rfl) _ _ (by rfl) (by rfl) (run_ext _ hb3 s2) ?_; intro v4 w4 hb4)))
        have q1w := (HSx _ hb4.bel).1
        rw [Hat.out] at hb4
        have HB4 := Lib.hid hb4
        clear HSx hbd hAd hb3 hb4
        go_wp2
        go_roundw
        case rel => exact ⟨j + 1, at', by go_num, rfl, by omega, by rw [Hat.out]; exact si_next hkk hfr HI.out.down hwv HB4.out⟩
        case measure => simp [intOf]; omega
    · obtain rfl : j = ks.length := by omega
      obtain ⟨acc, hbuf, hwv⟩ := hI.buf
      rw [List.drop_length] at hwv
      have hac : acc = wv e L ks := by rw [← hwv]; simp [wv]
      subst hac
      obtain ⟨ao3, c3, rfl⟩ := rowf hbuf.own
      have hwr := hbw.trans (hbuf.bel.mono hbw.size)
      have htc := toks_row (wv e L ks) _ c3 w2.heap.size ao3 wr (HF.out.later h7 hwr) (Nat.le_trans h7 hwr.size) rfl (by omega) hbuf.own
      unfold TokPost at htc
      rw [HM.out.lex] at htc
      obtain ⟨t0', ht0', -⟩ := HM.out.same 0 t0 ht0
      have hl2 : toks'.length = ks.length := by rw [HM.out.len', htl]
      have hjt : ¬ ((ks.length : Nat) : Int) < toks.length := by omega
      have HB := Lib.hid hbuf
      clear hI hbuf hlt hwv hj
      go_wp2_with (first | (go_at_call 12; refine htc.mono ?_; rintro ee w6 ⟨v6, rfl, hown6, hb6⟩; obtain ⟨g6, cg6, rfl, hgb6, -⟩ := tok_at hown6 ht0'; have HO6 := Lib.hid hown6; clear hown6) | (go_at_call 13; refine (num_any _ _).mono ?_; rintro ee w5 ⟨rfl, rfl⟩))
      go_loopw [16] (fun iv wr' => ∃ i : Nat, iv = .int .i64 (i : Int) ∧ i ≤ ks.length ∧ Below w6.heap.size w6 wr') (fun iv _ => ks.length - (intOf iv).toNat)
      case atStart => exact ⟨0, rfl, Nat.zero_le _, Below.refl _ _⟩
      case round =>
        obtain ⟨i, rfl, hi, hb7⟩ := hrel
        by_cases hil : i < ks.length
        · obtain ⟨t, hti⟩ : ∃ t, toks[i]? = some t := ⟨_, List.getElem?_eq_getElem (by omega)⟩
          obtain ⟨t', hti', hs1, hs2, hs3⟩ := HM.out.same i t hti
          obtain ⟨g', cg', e2, -, a0, a1, a2, a3⟩ := tok_at HO.out hti
          obtain ⟨rfl, rfl⟩ : g = g' ∧ cg = cg' := (by simpa using e2)
          obtain ⟨g6', cg6', e6, -, d0, d1, d2, d3⟩ := tok_at HO6.out hti'
          obtain ⟨rfl, rfl⟩ : g6 = g6' ∧ cg6 = cg6' := (by simpa using e6)
          rw [hs1] at d0
          rw [hs2] at d2
          rw [hs3] at d3
          have hb27 := (HB.out.bel.trans (hb6.mono HB.out.size)).trans (hb7.mono (Nat.le_trans HB.out.size hb6.size))
          have a0' := cellb hb27 a0
          have a2' := cellb hb27 a2
          have a3' := cellb hb27 a3
          have d0' := cellb hb7 d0
          have d2' := cellb hb7 d2
          have d3' := cellb hb7 d3
          have i1 : (i : Int) < ks.length := by omega
          have i2 : (i : Int) ≤ 1001 := by omega
          have i3 : (0 : Int) ≤ (i : Int) := by omega
          have Hb7 := Lib.hid hb7
          clear e2 e6 a0 a1 a2 a3 d0 d1 d2 d3 hb27 hb7 hs1 hs2 hs3 hti'
          go_wp2
          go_quiet (fail)
          go_wp2
          go_roundw
          case rel => exact ⟨i + 1, by go_num, by omega, bl_drewN Hb7.out⟩
          case measure => simp [intOf]; omega
        · have i1 : ¬ (i : Int) < ks.length := by omega
          have Hb7 := Lib.hid hb7
          clear hb7
          go_wp2
          go_ret
          exact ⟨rfl, (hwr.trans (hb6.mono hwr.size)).trans (Hb7.out.mono (Nat.le_trans hwr.size hb6.size))⟩

set_option maxRecDepth 100000 in
set_option maxHeartbeats 8000000 in
theorem space_err (L : By) (k : Nat) (n cp : Nat) (ao : Option Addr) (w : World) (hF : Fa w) (h7 : 7 ≤ w.heap.size) (hn : n ≤ 1000) (hk : k < 9) (hA : ArgRow w ao n cp L) (hz : (lexT (bs L)).1 ≠ 0) : Calls Tryd.prog 4 #[.slice ao n cp, .int .i64 (k : Int)] w fun e w' => e = .returned (.bool true) ∧ Below w.heap.size w w' := by
  have hal := alive_any w hF h7
  have hni : (n : Int) ≤ 1000 := by omega
  have hki : (k : Int) < 9 := by omega
  have HF := Lib.hid hF
  have HT := fun w' (hb : Below w.heap.size w w') => toks_arg L n cp ao w' (HF.out.later h7 hb) (Nat.le_trans h7 hb.size) (by omega) (hA.below hb)
  unfold TokPost at HT
  obtain ⟨er, her⟩ : ∃ er, (lexT (bs L)).1 = er := ⟨_, rfl⟩
  rw [her] at HT hz
  have hez : (er : Int) ≠ 0 := by omega
  have hez2 : ((er : Int) == 0) = false := by simp; omega
  clear hF her hA hz
  go_enter Tryd.func4, Tryd.ntmps4
  go_wp2_with (first | (go_at_call 9; refine hal.mono ?_; rintro ee w1 ⟨rfl, hb1⟩) | (go_at_call 12; refine (HT _ (hb1.alloc hb1.size _)).mono ?_; rintro ee w2 ⟨v2, rfl, hown2, hb2⟩; have hbw := (hb1.alloc hb1.size _).trans (hb2.mono (hb1.alloc hb1.size _).size); clear hown2) | (go_at_call 13; refine (num_any _ _).mono ?_; rintro ee w5 ⟨rfl, rfl⟩))
  go_ret
  exact ⟨rfl, hbw⟩

set_option maxRecDepth 100000 in
set_option maxHeartbeats 8000000 in
theorem space_long (x : Int) (n cp : Nat) (ao : Option Addr) (w : World) (hF : Fa w) (h7 : 7 ≤ w.heap.size) (hn : 1000 < n) : Calls Tryd.prog 4 #[.slice ao n cp, .int .i64 x] w fun e w' => e = .returned (.bool true) ∧ Below w.heap.size w w' := by
  have hal := alive_any w hF h7
  have hni : (1000 : Int) < n := by omega
  go_enter Tryd.func4, Tryd.ntmps4
  go_wp2_with (go_at_call 9; refine hal.mono ?_; rintro ee w1 ⟨rfl, hb1⟩)
  go_ret
  exact ⟨rfl, hb1.alloc hb1.size _⟩
set_option maxRecDepth 100000 in
set_option maxHeartbeats 8000000 in
theorem space_neg (x : Int) (n cp : Nat) (ao : Option Addr) (w : World) (hF : Fa w) (h7 : 7 ≤ w.heap.size) (hn : n ≤ 1000) (hx : x < 0) : Calls Tryd.prog 4 #[.slice ao n cp, .int .i64 x] w fun e w' => e = .returned (.bool true) ∧ Below w.heap.size w w' := by
  have hal := alive_any w hF h7
  have hni : (n : Int) ≤ 1000 := by omega
  go_enter Tryd.func4, Tryd.ntmps4
  go_wp2_with (go_at_call 9; refine hal.mono ?_; rintro ee w1 ⟨rfl, hb1⟩)
  go_ret
  exact ⟨rfl, hb1.alloc hb1.size _⟩
set_option maxRecDepth 100000 in
set_option maxHeartbeats 8000000 in
theorem space_more (x : Int) (n cp : Nat) (ao : Option Addr) (w : World) (hF : Fa w) (h7 : 7 ≤ w.heap.size) (hn : n ≤ 1000) (hx : 9 ≤ x) : Calls Tryd.prog 4 #[.slice ao n cp, .int .i64 x] w fun e w' => e = .returned (.bool true) ∧ Below w.heap.size w w' := by
  have hal := alive_any w hF h7
  have hni : (n : Int) ≤ 1000 := by omega
  have hx0 : (0 : Int) ≤ x := by omega
  go_enter Tryd.func4, Tryd.ntmps4
  go_wp2_with (go_at_call 9; refine hal.mono ?_; rintro ee w1 ⟨rfl, hb1⟩)
  go_ret
  exact ⟨rfl, hb1.alloc hb1.size _⟩

/-- The argument, as the opening of a row of integers hands it. -/
def IsRow (k : IntKind) (w : World) (a : Option Addr) (len cap : Nat) (zs : List Int) : Prop :=
  (a = none ∧ len = 0 ∧ cap = 0 ∧ zs = []) ∨
  ∃ x, a = some x ∧ len ≤ cap ∧ cap ≤ maxLen ∧ zs.length = cap ∧ (∀ i, i < zs.length → w.cell? (x.add i) = some (.int k (zs.getD i 0))) ∧ ∀ n ∈ zs, (Lit.int k n).wf = true
theorem arg_of {w : World} {a : Option Addr} {len cap : Nat} {zs : List Int} (h : IsRow .u8 w a len cap zs) : ∃ L, ArgRow w a len cap L := by
  refine ⟨(zs.take len).map fun z => UInt8.ofNat z.toNat, ?_⟩
  rcases h with ⟨rfl, rfl, rfl, rfl⟩ | ⟨x, rfl, h1, h2, h3, h4, h5⟩
  · exact ⟨rfl, .inl ⟨rfl, rfl, rfl⟩⟩
  · refine ⟨by simp; omega, .inr ⟨x, rfl, h1, h2, fun j hj => ?_⟩⟩
    simp only [List.length_map, List.length_take] at hj
    have hjz : j < zs.length := by omega
    rw [h4 j hjz, List.getD_eq_getElem?_getD, List.getElem?_eq_getElem hjz]
    have hw := h5 zs[j] (List.getElem_mem hjz)
    have e1 : IntKind.u8.min = 0 := rfl
    have e2 : IntKind.u8.max = 255 := rfl
    simp [Lit.wf, e1, e2] at hw
    simp
    omega
theorem lawSpace_walk (a : Option Addr) (n cp : Nat) (zs : List Int) (x : Int) (w : World) (hr : IsRow .u8 w a n cp zs) (hF : Fa w) (h7 : 7 ≤ w.heap.size) : Calls Tryd.prog 4 #[.slice a n cp, .int .i64 x] w fun e w' => e = .returned (.bool true) ∧ Below w.heap.size w w' := by
  by_cases hn : n ≤ 1000
  · by_cases hx : x < 0
    · exact space_neg x n cp a w hF h7 hn hx
    · by_cases hx9 : 9 ≤ x
      · exact space_more x n cp a w hF h7 hn hx9
      · obtain ⟨k, rfl⟩ : ∃ k : Nat, x = (k : Int) := ⟨x.toNat, by omega⟩
        obtain ⟨L, hA⟩ := arg_of hr
        by_cases hz : (lexT (bs L)).1 = 0
        · exact space_go L k n cp a w hF h7 hn (by omega) hA hz
        · exact space_err L k n cp a w hF h7 hn (by omega) hA hz
  · exact space_long x n cp a w hF h7 (by omega)
end Go.Proofs.YtlboaldikgonoaaDoor.Lx
