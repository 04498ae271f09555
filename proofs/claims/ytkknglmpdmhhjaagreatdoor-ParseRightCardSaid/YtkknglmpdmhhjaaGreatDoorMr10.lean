/-
  Texts of this seat in build order: PrAdv, PrTok.
-/
import Derived.Test.YtkknglmpdmhhjaaGreatDoorMg36
import Derived.Test.YtkknglmpdmhhjaaGreatDoorMg18
import Derived.Test.YtkknglmpdmhhjaaGreatDoorMg15
/-
  Plain mathematics of the parser: every part goes on, or stands still behind an error; its tokens are such as the lexer gives.
-/
namespace Go.Proofs.YtkknglmpdmhhjaaGreatDoor.Pr
open Go.Proofs.YtkknglmpdmhhjaaGreatDoor.Pa
open Go.Proofs.YtkknglmpdmhhjaaGreatDoor.Lx hiding nameF
set_option linter.unusedVariables false
set_option linter.unusedSimpArgs false

/-- A token as the lexer gives them. -/
structure TkOK (k n : Int) (t : ByteArray) : Prop where
  name : k = 1 → varB t = true
  word : k = 2 → propB t = true
  num : k = 3 → 0 ≤ n ∧ n ≤ 9007199254740991
  str : k = 4 → rtB t = true
  len : k = 1 ∨ k = 2 → t.size ≤ 10000
abbrev TokOK (t : Tok) : Prop := TkOK t.kind t.num t.text
theorem tk_else {k n : Int} {t : ByteArray} (h1 : k ≠ 1) (h2 : k ≠ 2) (h3 : k ≠ 3) (h4 : k ≠ 4) : TkOK k n t := ⟨fun h => absurd h h1, fun h => absurd h h2, fun h => absurd h h3, fun h => absurd h h4, fun h => by rcases h with h | h; exact absurd h h1; exact absurd h h2⟩
theorem stop_tok : TokOK stopK := tk_else (by decide) (by decide) (by decide) (by decide)
theorem zero_tok : TokOK zeroK := tk_else (by decide) (by decide) (by decide) (by decide)
structure OkS (s : PS) : Prop where
  l : okL s.left
  st : s.fault ≠ 0 → s.left = [stopK]
  nums : ∀ t ∈ s.left, -9223372036854775808 ≤ t.num ∧ t.num ≤ 9223372036854775807
  len : s.left.length ≤ 100000
  good : ∀ t ∈ s.left, TokOK t
def Adv (s t : PS) : Prop := OkS s → OkS t ∧ t.left.length ≤ s.left.length ∧ (s.fault ≠ 0 → t = s)
def Prog (s t : PS) : Prop := OkS s → s.fault = 0 → t.fault ≠ 0 ∨ t.left.length < s.left.length
theorem Adv.refl (s : PS) : Adv s s := fun h => ⟨h, Nat.le_refl _, fun _ => rfl⟩
theorem Adv.trans {s t u : PS} (h : Adv s t) (k : Adv t u) : Adv s u := fun hs => by
  obtain ⟨h1, h2, h3⟩ := h hs
  obtain ⟨k1, k2, k3⟩ := k h1
  refine ⟨k1, Nat.le_trans k2 h2, fun hf => ?_⟩
  have e := h3 hf
  rw [k3 (by rw [e]; exact hf), e]
theorem Prog.adv {s t u : PS} (h : Prog s t) (ht : Adv s t) (k : Adv t u) : Prog s u := fun hs hf => by
  obtain ⟨t1, t2, t3⟩ := ht hs
  obtain ⟨k1, k2, k3⟩ := k t1
  rcases h hs hf with h | h
  · left; rw [k3 h]; exact h
  · right; omega
theorem Prog.after {s t u : PS} (ht : Adv s t) (h : Prog t u) (k : Adv t u) : Prog s u := fun hs hf => by
  obtain ⟨t1, t2, t3⟩ := ht hs
  obtain ⟨k1, k2, k3⟩ := k t1
  by_cases hf2 : t.fault = 0
  · rcases h t1 hf2 with h | h
    · exact .inl h
    · right; omega
  · left; rw [k3 hf2]; exact hf2

theorem okL_ne {l : List Tok} (h : okL l) : l ≠ [] := by rintro rfl; exact h
theorem okL_tail {t : Tok} {r : List Tok} (h : okL (t :: r)) (hk : ¬ (t.kind = 0 ∨ t.kind = -1)) : okL r := by
  cases r with
  | nil => exact absurd h hk
  | cons u r => exact h
theorem OkS.cons {s : PS} (h : OkS s) : ∃ r, s.left = s.next :: r := by
  have := okL_ne h.l
  unfold PS.next
  cases hl : s.left with
  | nil => exact absurd hl this
  | cons t r => exact ⟨r, rfl⟩
theorem OkS.pos {s : PS} (h : OkS s) : 1 ≤ s.left.length := by
  obtain ⟨r, hr⟩ := h.cons
  rw [hr]; simp
theorem OkS.live {s : PS} (h : OkS s) (hk : s.next.kind ≠ -1) : s.fault = 0 := by
  by_cases hf : s.fault = 0
  · exact hf
  · have := h.st hf
    unfold PS.next at hk
    rw [this] at hk
    exact absurd rfl hk
theorem OkS.take {s : PS} (h : OkS s) (hk : ¬ (s.next.kind = 0 ∨ s.next.kind = -1)) : OkS s.take ∧ s.take.left.length + 1 = s.left.length := by
  obtain ⟨r, hr⟩ := h.cons
  have e : s.take.left = r := by unfold PS.take; simp only; rw [hr]; rfl
  have hf := h.live (fun e => hk (.inr e))
  refine ⟨⟨?_, ?_, ?_, ?_, ?_⟩, ?_⟩
  · rw [e]; exact okL_tail (hr ▸ h.l) hk
  · intro h0; exact absurd hf h0
  · intro t ht; rw [e] at ht; exact h.nums t (by rw [hr]; exact List.mem_cons_of_mem _ ht)
  · rw [e]; have := h.len; rw [hr] at this; simp at this; omega
  · intro t ht; rw [e] at ht; exact h.good t (by rw [hr]; exact List.mem_cons_of_mem _ ht)
  · rw [e, hr]; simp
theorem take_adv {s : PS} (hk : ¬ (s.next.kind = 0 ∨ s.next.kind = -1)) : Adv s s.take := fun h => by
  obtain ⟨h1, h2⟩ := h.take hk
  exact ⟨h1, by omega, fun hf => absurd (h.live (fun e => hk (.inr e))) hf⟩
theorem take_prog {s : PS} (hk : ¬ (s.next.kind = 0 ∨ s.next.kind = -1)) : Prog s s.take := fun h _ => by
  obtain ⟨h1, h2⟩ := h.take hk
  right; omega
theorem sees_kind {x : ByteArray} {s : PS} (h : seesF x s = true) : ¬ (s.next.kind = 0 ∨ s.next.kind = -1) := by
  unfold seesF markF at h
  simp at h
  rcases h.1 with h | h <;> (rw [h]; decide)
theorem one_kind {x : ByteArray} {s : PS} (h : seesOneF x s = true) : ¬ (s.next.kind = 0 ∨ s.next.kind = -1) := by
  unfold seesOneF markF at h
  simp at h
  rcases h.1 with h | h <;> (rw [h]; decide)
theorem stop_ok (e : Int) (p : Int) (h : e ≠ 0) : OkS ⟨[stopK], p, e⟩ := ⟨.inr rfl, fun _ => rfl, by intro t ht; simp at ht; subst ht; unfold stopK; simp, by simp, by intro t ht; simp at ht; subst ht; exact stop_tok⟩
theorem fail_adv (s : PS) {e : Int} (he : e ≠ 0) : Adv s (s.fail e) := fun h => by
  unfold PS.fail
  split
  · rename_i hf
    refine ⟨stop_ok _ _ he, ?_, fun h0 => absurd hf h0⟩
    exact h.pos
  · exact ⟨h, Nat.le_refl _, fun _ => rfl⟩
theorem fail_prog (s : PS) {e : Int} (he : e ≠ 0) : Prog s (s.fail e) := fun h hf => by
  left
  unfold PS.fail
  rw [if_pos hf]
  exact he
theorem needs_adv (x : ByteArray) (s : PS) : Adv s (needsF x s) := by
  unfold needsF
  split
  · exact take_adv (sees_kind (by assumption))
  · exact fail_adv s (by decide)
theorem needs_prog (x : ByteArray) (s : PS) : Prog s (needsF x s) := by
  unfold needsF
  split
  · exact take_prog (sees_kind (by assumption))
  · exact fail_prog s (by decide)

/-! ### In rows -/
theorem Adv.tk {s t : PS} {x : ByteArray} (h : Adv s t) (hx : seesF x t = true) : Adv s t.take := h.trans (take_adv (sees_kind hx))
theorem Adv.tk1 {s t : PS} {x : ByteArray} (h : Adv s t) (hx : seesOneF x t = true) : Adv s t.take := h.trans (take_adv (one_kind hx))
theorem Adv.nd {s t : PS} {x : ByteArray} (h : Adv s t) : Adv s (needsF x t) := h.trans (needs_adv x t)
theorem Adv.fl2 {s t : PS} (h : Adv s t) : Adv s (t.fail 2) := h.trans (fail_adv t (by decide))
theorem Adv.by {T : Type} {s t : PS} {f : PS → T × PS} (h : Adv s t) (hf : ∀ s, Adv s (f s).2) : Adv s (f t).2 := h.trans (hf t)

theorem name_adv (s : PS) : Adv s (nameF s).2 := by
  unfold nameF
  split
  · rename_i h; exact take_adv (by rw [h]; decide)
  · exact fail_adv s (by decide)
theorem mem_adv (s : PS) : Adv s (memF s).2 := by
  unfold memF
  split
  · rename_i h; exact take_adv (by rcases h with h | h <;> (rw [h]; decide))
  · exact fail_adv s (by decide)
theorem key_adv (s : PS) : Adv s (keyF s).2 := by
  unfold keyF
  split
  · rename_i h; exact take_adv (by rcases h with h | h | h <;> (rw [h]; decide))
  · split
    · rename_i h; exact take_adv (by rw [h]; decide)
    · exact fail_adv s (by decide)
theorem opt_adv (s : PS) : Adv s (optF s).2 := by
  unfold optF
  split
  · exact Adv.refl s
  · exact name_adv s
theorem more_adv {T : Type} {el : PS → T × PS} (hel : ∀ s, Adv s (el s).2) : ∀ f s, Adv s (moreF el f s).2
  | 0, s => Adv.refl s
  | f + 1, s => by
    unfold moreF
    split
    · rename_i h; exact (((Adv.refl s).tk h).by hel).trans (more_adv hel f _)
    · exact Adv.refl s
theorem list_adv {T : Type} {el : PS → T × PS} (hel : ∀ s, Adv s (el s).2) (x : ByteArray) (s : PS) : Adv s (listF x el s).2 := by
  unfold listF
  split
  · rename_i h; exact (Adv.refl s).tk h
  · exact ((hel s).trans (more_adv hel _ _)).nd
structure LowA (L : Low) : Prop where
  ex : ∀ s, Adv s (L.ex s).2
  st : ∀ s, Adv s (L.st s).2
  un : ∀ s, Adv s (L.un s).2
  pr : ∀ s, Prog s (L.st s).2
theorem binl_adv {f : PS → Tree × PS} (hf : ∀ s, Adv s (f s).2) (lev : Nat) : ∀ k l s, Adv s (binLoop lev f k l s).2
  | 0, l, s => Adv.refl s
  | k + 1, l, s => by
    unfold binLoop
    split
    · rename_i h; exact (((Adv.refl s).tk1 h).by hf).trans (binl_adv hf lev k _ _)
    · exact Adv.refl s
theorem bin_adv {L : Low} (h : LowA L) : ∀ n s, Adv s (binF L n s).2
  | 0, s => h.un s
  | n + 1, s => by
    unfold binF
    exact (bin_adv h n s).trans (binl_adv (bin_adv h n) _ _ _ _)
theorem cond_adv {L : Low} (h : LowA L) (s : PS) : Adv s (condF L s).2 := by
  unfold condF
  simp only
  split
  · rename_i hs; exact (((((bin_adv h 6 s).tk hs).by h.ex).nd).by h.ex)
  · exact bin_adv h 6 s
theorem ex_adv {L : Low} (h : LowA L) (s : PS) : Adv s (exF L s).2 := by
  unfold exF
  simp only
  split
  · refine Adv.trans (Adv.nd ?_) (h.ex _)
    split
    · exact (cond_adv h s).fl2
    · exact cond_adv h s
  · exact cond_adv h s
theorem membs_adv {L : Low} (h : LowA L) : ∀ f n s, Adv s (membersF L f n s).2
  | 0, n, s => Adv.refl s
  | f + 1, n, s => by
    unfold membersF
    split
    · rename_i hs; exact (((Adv.refl s).tk hs).by mem_adv).trans (membs_adv h f _ _)
    · split
      · rename_i hs; exact ((((Adv.refl s).tk hs).by h.ex).nd).trans (membs_adv h f _ _)
      · exact Adv.refl s
theorem memb_adv {L : Low} (h : LowA L) (n : Tree) (s : PS) : Adv s (membF L n s).2 := membs_adv h _ _ _
theorem called_adv {L : Low} (h : LowA L) (k : Int) (f : Tree) (s : PS) : Adv s (calledF L k f s).2 := by
  unfold calledF
  exact (needs_adv _ s).trans (list_adv h.ex _ _)
theorem stmts_adv {L : Low} (h : LowA L) (fin : PS → Bool) : ∀ f s, Adv s (stmtsF L fin f s).2
  | 0, s => Adv.refl s
  | f + 1, s => by
    unfold stmtsF
    split
    · exact Adv.refl s
    · split
      · exact Adv.refl s
      · exact (h.st s).trans (stmts_adv h fin f _)
theorem block_adv {L : Low} (h : LowA L) (s : PS) : Adv s (blockF L s).2 := by
  unfold blockF
  exact ((needs_adv _ s).trans (stmts_adv h _ _ _)).nd
theorem block_prog {L : Low} (h : LowA L) (s : PS) : Prog s (blockF L s).2 := by
  unfold blockF
  exact (needs_prog _ s).adv (needs_adv _ s) ((stmts_adv h _ _ _).nd)
theorem paren_adv {L : Low} (h : LowA L) (s : PS) : Adv s (parenF L s).2 := by
  unfold parenF
  exact ((needs_adv _ s).by h.ex).nd
theorem func_adv {L : Low} (h : LowA L) (n : ByteArray) (s : PS) : Adv s (funcF L n s).2 := by
  unfold funcF
  exact ((needs_adv _ s).trans (list_adv name_adv _ _)).by (block_adv h)
theorem pair_adv {L : Low} (h : LowA L) (k : Tree) (s : PS) : Adv s (pairF L k s).2 := by
  unfold pairF
  exact (needs_adv _ s).by h.ex
theorem get_adv {L : Low} (h : LowA L) (s : PS) : Adv s (getF L s).2 := by
  unfold getF
  exact (((key_adv s).nd).nd).by (block_adv h)
theorem set_adv {L : Low} (h : LowA L) (s : PS) : Adv s (setF L s).2 := by
  unfold setF
  exact ((((key_adv s).nd).by name_adv).nd).by (block_adv h)
theorem elem_adv {L : Low} (h : LowA L) (s : PS) : Adv s (elemF L s).2 := by
  unfold elemF
  simp only
  split
  · rename_i hs; exact ((((Adv.refl s).tk hs).by h.ex).nd).trans (pair_adv h _ _)
  · split
    · split
      · exact (key_adv s).by (get_adv h)
      · split
        · exact (key_adv s).by (set_adv h)
        · exact (key_adv s).trans (pair_adv h _ _)
    · exact (key_adv s).trans (pair_adv h _ _)
theorem lit_adv (s : PS) : Adv s (litF s).2 := by
  unfold litF
  split
  · rename_i hs; exact (Adv.refl s).tk hs
  split
  · rename_i hs; exact (Adv.refl s).tk hs
  split
  · rename_i hs; exact (Adv.refl s).tk hs
  split
  · rename_i hs; exact (Adv.refl s).tk hs
  split
  · rename_i hs; exact (Adv.refl s).tk hs
  · exact fail_adv s (by decide)
theorem prim_adv {L : Low} (h : LowA L) (s : PS) : Adv s (primF L s).2 := by
  unfold primF
  split
  · rename_i h; exact take_adv (by rw [h]; decide)
  split
  · rename_i h; exact take_adv (by rw [h]; decide)
  split
  · rename_i h; exact take_adv (by rw [h]; decide)
  split
  · exact paren_adv h s
  split
  · rename_i hs; exact ((Adv.refl s).tk hs).trans (list_adv h.ex _ _)
  split
  · rename_i hs; exact ((Adv.refl s).tk hs).trans (list_adv (elem_adv h) _ _)
  split
  · rename_i hs; exact (((Adv.refl s).tk hs).by opt_adv).trans (func_adv h (optF s.take).1 (optF s.take).2)
  · exact lit_adv s
theorem base_adv {L : Low} (h : LowA L) (s : PS) : Adv s (baseF L s).2 := by
  unfold baseF
  split
  · rename_i hs; exact ((((Adv.refl s).tk hs).by (prim_adv h)).trans (memb_adv h _ _)).trans (called_adv h _ _ _)
  · exact prim_adv h s
theorem calll_adv {L : Low} (h : LowA L) : ∀ f n s, Adv s (callLoop L f n s).2
  | 0, n, s => Adv.refl s
  | f + 1, n, s => by
    unfold callLoop
    split
    · exact ((called_adv h _ _ _).trans (memb_adv h _ _)).trans (calll_adv h f _ _)
    · exact Adv.refl s
theorem chain_adv {L : Low} (h : LowA L) (s : PS) : Adv s (chainF L s).2 := by
  unfold chainF
  exact ((base_adv h s).trans (memb_adv h _ _)).trans (calll_adv h _ _ _)
theorem un_adv {L : Low} (h : LowA L) (s : PS) : Adv s (unF L s).2 := by
  unfold unF
  split
  · rename_i hs
    simp only
    split
    · exact (((Adv.refl s).tk1 hs).by h.un).fl2
    · exact ((Adv.refl s).tk1 hs).by h.un
  · exact chain_adv h s
theorem let_adv {L : Low} (h : LowA L) (s : PS) : Adv s (letF L s).2 := by
  unfold letF
  simp only
  split
  · rename_i hs; exact ((name_adv s).tk hs).by h.ex
  · exact name_adv s
theorem const_adv {L : Low} (h : LowA L) (s : PS) : Adv s (constF L s).2 := by
  unfold constF
  exact ((name_adv s).nd).by h.ex
theorem simp_adv {L : Low} (h : LowA L) (s : PS) : Adv s (simpF L s).2 := by
  unfold simpF
  split
  · exact Adv.refl s
  split
  · rename_i hs; exact ((Adv.refl s).tk hs).by (let_adv h)
  split
  · rename_i hs; exact ((Adv.refl s).tk hs).by (const_adv h)
  split
  · rename_i hs
    split
    · exact (Adv.refl s).tk hs
    · exact ((Adv.refl s).tk hs).by h.ex
  split
  · rename_i hs; exact ((Adv.refl s).tk hs).by h.ex
  split
  · rename_i hs; exact (Adv.refl s).tk hs
  split
  · rename_i hs; exact (Adv.refl s).tk hs
  · exact h.ex s
theorem choice_adv {L : Low} (h : LowA L) (s : PS) : Adv s (choiceF L s).2 := by
  unfold choiceF
  simp only
  split
  · rename_i hs; exact (((paren_adv h s).by h.st).tk hs).by h.st
  · exact (paren_adv h s).by h.st
theorem hand_adv {L : Low} (h : LowA L) (s : PS) : Adv s (handF L s).2 := by
  unfold handF
  exact (((needs_adv _ s).by name_adv).nd).by (block_adv h)
theorem try_adv {L : Low} (h : LowA L) (s : PS) : Adv s (tryF L s).2 := by
  unfold tryF
  simp only
  split
  · rename_i h1
    split
    · rename_i h2; exact ((((block_adv h s).tk h1).by (hand_adv h)).tk h2).by (block_adv h)
    · exact ((block_adv h s).tk h1).by (hand_adv h)
  · split
    · rename_i h2; exact ((block_adv h s).tk h2).by (block_adv h)
    · exact (block_adv h s).fl2
theorem st_adv {L : Low} (h : LowA L) (s : PS) : Adv s (stF L s).2 := by
  unfold stF
  split
  · exact block_adv h s
  split
  · rename_i hs; exact (((Adv.refl s).tk hs).by name_adv).trans (func_adv h (nameF s.take).1 (nameF s.take).2)
  split
  · rename_i hs; exact ((Adv.refl s).tk hs).by (choice_adv h)
  split
  · rename_i hs; exact (((Adv.refl s).tk hs).by (paren_adv h)).by h.st
  split
  · rename_i hs; exact ((Adv.refl s).tk hs).by (try_adv h)
  · exact (simp_adv h s).nd
theorem st_prog {L : Low} (h : LowA L) (s : PS) : Prog s (stF L s).2 := by
  unfold stF
  split
  · exact block_prog h s
  split
  · rename_i hs; exact (take_prog (sees_kind hs)).adv (take_adv (sees_kind hs)) ((name_adv s.take).trans (func_adv h (nameF s.take).1 (nameF s.take).2))
  split
  · rename_i hs; exact (take_prog (sees_kind hs)).adv (take_adv (sees_kind hs)) (choice_adv h _)
  split
  · rename_i hs; exact (take_prog (sees_kind hs)).adv (take_adv (sees_kind hs)) ((paren_adv h _).by h.st)
  split
  · rename_i hs; exact (take_prog (sees_kind hs)).adv (take_adv (sees_kind hs)) (try_adv h _)
  · exact Prog.after (simp_adv h s) (needs_prog _ _) (needs_adv _ _)
theorem lowF_zero : lowF 0 = ⟨fun s => (zeroT, s.fail 4), fun s => (zeroT, s.fail 4), fun s => (zeroT, s.fail 4)⟩ := rfl
theorem lowF_succ (r : Nat) : lowF (r + 1) = ⟨exF (lowF r), stF (lowF r), unF (lowF r)⟩ := rfl
theorem fail4 (s : PS) : Adv s (s.fail 4) := fail_adv s (by decide)
theorem fail4p (s : PS) : Prog s (s.fail 4) := fail_prog s (by decide)
theorem low_zero : LowA (lowF 0) := LowA.mk fail4 fail4 fail4 fail4p
theorem low_succ {L : Low} (h : LowA L) : LowA ⟨exF L, stF L, unF L⟩ := by
  have h1 := ex_adv h
  have h2 := st_adv h
  have h3 := un_adv h
  have h4 := st_prog h
  generalize exF L = a at h1 ⊢
  generalize stF L = b at h2 h4 ⊢
  generalize unF L = c at h3 ⊢
  exact ⟨h1, h2, h3, h4⟩
theorem low_adv (r : Nat) : LowA (lowF r) := by
  induction r with
  | zero => exact low_zero
  | succ r ih => rw [lowF_succ]; exact low_succ ih

/-! ### Backwards: without an error behind, none before -/
theorem Adv.ok {s t : PS} (h : Adv s t) (hs : OkS s) : OkS t := (h hs).1
theorem Adv.back {s t : PS} (h : Adv s t) (hs : OkS s) (hf : t.fault = 0) : s.fault = 0 := by
  by_cases h0 : s.fault = 0
  · exact h0
  · rw [(h hs).2.2 h0] at hf
    exact absurd hf h0
theorem OkS.next {s : PS} (h : OkS s) : TokOK s.next := by
  obtain ⟨r, hr⟩ := h.cons
  exact h.good _ (by rw [hr]; exact List.mem_cons_self)
theorem fail_no {s : PS} {e : Int} (he : e ≠ 0) (hf : (s.fail e).fault = 0) : False := by
  unfold PS.fail at hf
  split at hf
  · exact he hf
  · rename_i h; exact h hf
theorem needs_sees {x : ByteArray} {s : PS} (hf : (needsF x s).fault = 0) : seesF x s = true := by
  unfold needsF at hf
  split at hf
  · assumption
  · exact (fail_no (by decide) hf).elim
end Go.Proofs.YtkknglmpdmhhjaaGreatDoor.Pr

/-
  Plain mathematics: the tokens that the lexer gives of a text of at most 10000 bytes are such as trees may hold.
-/
namespace Go.Proofs.YtkknglmpdmhhjaaGreatDoor.Pr
open Go.Proofs.YtkknglmpdmhhjaaGreatDoor.Pa Go.Proofs.YtkknglmpdmhhjaaGreatDoor.Uni Go.Proofs.YtkknglmpdmhhjaaGreatDoor.Nums
open Go.Proofs.YtkknglmpdmhhjaaGreatDoor.Lx hiding nameF
set_option linter.unusedVariables false
set_option linter.unusedSimpArgs false

theorem enc_one {c : UInt8} (h : c.toNat < 128) : enc c.toNat = [c] := by
  unfold enc
  rw [encN_1 h]
  simp
theorem encs_ascii : ∀ l : By, (∀ c ∈ l, c.toNat < 128) → encs (l.map UInt8.toNat) = l
  | [], _ => rfl
  | c :: l, h => by
    rw [List.map_cons, encs_cons, enc_one (h c (by simp)), encs_ascii l (fun x hx => h x (by simp [hx]))]
    rfl
theorem np_ascii : ∀ (b : Bool) (l : By), (∀ c ∈ l, c.toNat < 128) → np b (l.map UInt8.toNat) = true
  | b, [], _ => rfl
  | b, c :: l, h => by
    have hc := h c (by simp)
    have e : isLo c.toNat = false := by unfold isLo; simp; omega
    rw [List.map_cons, np, e, np_ascii _ l (fun x hx => h x (by simp [hx]))]
    simp
theorem uns_ascii : ∀ l : By, (∀ c ∈ l, c.toNat < 128) → uns (l.map UInt8.toNat) = l.map UInt8.toNat
  | [], _ => rfl
  | c :: l, h => by
    rw [List.map_cons, uns_cons, un_small (by have := h c (by simp); omega), uns_ascii l (fun x hx => h x (by simp [hx]))]
    rfl
theorem of_list (s : ByteArray) : (⟨s.data.toList.toArray⟩ : ByteArray) = s := by simp
theorem pts_ascii {s : ByteArray} (h : ∀ c ∈ s.data.toList, c.toNat < 128) : pts s = some (s.data.toList.map UInt8.toNat) := by
  have := pts_encs (L := s.data.toList.map UInt8.toNat) (fun c hc => by
    obtain ⟨x, hx, rfl⟩ := List.mem_map.1 hc
    have := h x hx; omega) (np_ascii _ _ h)
  rw [encs_ascii _ h, of_list] at this
  exact this
theorem rt_ascii {s : ByteArray} (h : ∀ c ∈ s.data.toList, c.toNat < 128) (hz : s.size ≤ 10000) : rtB s = true := by
  unfold rtB units
  rw [pts_ascii h]
  simp only [Option.map_some, Option.getD_some, Option.isSome_some, Bool.true_and, uns_ascii _ h, List.length_map]
  exact decide_eq_true (by simpa using hz)
theorem cont_lt {p : Nat} (h : contN p = true) : p < 128 := by
  unfold contN leadN digitN at h
  simp at h
  omega
theorem lead_cont {p : Nat} (h : leadN p = true) : contN p = true := by unfold contN; rw [h]; rfl
theorem name_ascii : ∀ {l : By}, nameL l = true → ∀ c ∈ l, c.toNat < 128
  | [], h, c, hc => by simp at hc
  | x :: l, h, c, hc => by
    unfold nameL at h
    simp at h
    rcases List.mem_cons.1 hc with rfl | hc
    · exact cont_lt (lead_cont h.1)
    · exact cont_lt (h.2 c hc)
theorem prop_of_var {t : ByteArray} (h : varB t = true) : propB t = true := by
  unfold varB at h
  unfold propB
  simp at h ⊢
  exact ⟨h.1, by rw [h.2]; decide⟩
theorem rt_name {t : ByteArray} (h : propB t = true) (hz : t.size ≤ 10000) : rtB t = true := by
  unfold propB nameB at h
  simp at h
  exact rt_ascii (name_ascii h.1.1) hz
theorem rt_num {n : Int} (h0 : 0 ≤ n) (h1 : n ≤ 9007199254740991) : rtB (numT n) = true := by
  have e : (numT n).data.toList = Lib.decDigits n.toNat := by
    unfold numT Lib.itoa
    rw [if_neg (by omega)]
  refine rt_ascii (fun c hc => ?_) ?_
  · rw [e] at hc
    have := dec_digits _ c hc
    omega
  · have hs : (numT n).size = (numT n).data.toList.length := by simp
    rw [hs, e]
    have := Nums.dec_len 16 n.toNat (by omega)
    omega
theorem rt_text {us : List Nat} (h : ∀ u ∈ us, u < 65536) (hz : us.length ≤ 10000) : rtB ⟨(text us).toArray⟩ = true := by
  unfold rtB units text
  rw [pts_encs (cps_bd us h) (np_cps us)]
  simp only [Option.map_some, Option.getD_some, Option.isSome_some, Bool.true_and, uns_cps us h]
  exact decide_eq_true hz
theorem dec_ltU : True := trivial
theorem un_lt {p : Nat} (h : p ≤ 1114111) : ∀ u ∈ un p, u < 65536 := fun u hu => by
  unfold un at hu
  split at hu
  · simp at hu; omega
  · simp at hu; omega
theorem units_ltU (s : ByteArray) : ∀ u ∈ units s, u < 65536 := fun u hu => by
  unfold units at hu
  cases hp : pts s with
  | none => rw [hp] at hu; simp at hu
  | some L =>
    rw [hp] at hu
    simp only [Option.map_some, Option.getD_some] at hu
    unfold uns at hu
    rw [List.mem_flatMap] at hu
    obtain ⟨c, hc, hu⟩ := hu
    exact un_lt (pts_bd hp c hc) u hu
theorem quot_str (q : Nat) (l0 : By) : ∀ f v l t r, (∀ u ∈ v, u < 65536) → quotF q l0 f v l = .ok t r → t.kind = 4 ∧ rtB t.text = true
  | 0, v, l, t, r, _, h => by cases h
  | f + 1, v, l, t, r, hv, h => by
    unfold quotF at h
    split at h
    · cases h
    · split at h
      · cases h
      · split at h
        · split at h
          · cases h
          · refine quot_str q l0 f _ _ _ _ (fun u hu => ?_) h
            rcases List.mem_append.1 hu with hu | hu
            · rcases List.mem_append.1 hu with hu | hu
              · exact hv u hu
              · exact units_ltU _ u hu
            · rw [List.mem_singleton.1 hu]
              exact esc_lt
        · split at h
          · cases h
          · rename_i hz
            cases h
            refine ⟨rfl, rt_text (fun u hu => ?_) (by omega)⟩
            rcases List.mem_append.1 hu with hu | hu
            · exact hv u hu
            · exact units_ltU _ u hu
theorem word_cases (l : By) : wordF l = 0 ∨ wordF l = 1 ∨ wordF l = 2 := by
  unfold wordF
  split
  · exact .inr (.inl rfl)
  · split
    · exact .inr (.inr rfl)
    · exact .inl rfl
theorem lead_allC (f : Nat → Bool) (l : By) : (lead f l).all (fun c => f c.toNat) = true := by
  induction l with
  | nil => rfl
  | cons c l ih =>
    rw [lead_cons]
    split
    · rename_i hc
      rw [List.all_cons, hc, ih]
      rfl
    · rfl
theorem one_tok {x : By} {t : Tk} {r : By} (h : oneF x = .ok t r) (hx : x.length ≤ 10000) : TkOK t.kind t.num t.text := by
  cases x with
  | nil =>
    simp only [oneF, Got.ok.injEq] at h
    rw [← h.1]
    exact tk_else (by decide) (by decide) (by decide) (by decide)
  | cons c r0 =>
    unfold oneF at h
    simp only at h
    split at h
    · rename_i hc
      unfold Lx.nameF at h
      have hn : nameL (lead contN (c :: r0)) = true := by
        rw [lead_cons, if_pos (lead_cont hc)]
        show (leadN c.toNat && (lead contN r0).all fun c => contN c.toNat) = true
        rw [hc, Bool.true_and]
        exact lead_allC contN r0
      have hl : (lead contN (c :: r0)).length ≤ 10000 := Nat.le_trans (lead_len _ _) hx
      have hsz : (⟨(lead contN (c :: r0)).toArray⟩ : ByteArray).size ≤ 10000 := by simpa [ByteArray.size] using hl
      split at h
      · cases h
      · rename_i h2
        rcases word_cases (lead contN (c :: r0)) with hw | hw | hw
        · rw [hw] at h
          simp only [Got.ok.injEq] at h
          rw [← h.1]
          refine ⟨fun _ => ?_, fun h => by simp at h, fun h => by simp at h, fun h => by simp at h, fun _ => hsz⟩
          unfold varB nameB
          simp only [hn, hw, decide_eq_true (show (⟨(lead contN (c :: r0)).toArray⟩ : ByteArray).size ≤ 1048576 by omega)]
          decide
        · rw [hw] at h
          simp only [Got.ok.injEq] at h
          rw [← h.1]
          refine ⟨fun h => by simp at h, fun _ => ?_, fun h => by simp at h, fun h => by simp at h, fun _ => hsz⟩
          unfold propB nameB
          simp only [hn, hw, decide_eq_true (show (⟨(lead contN (c :: r0)).toArray⟩ : ByteArray).size ≤ 1048576 by omega)]
          decide
        · exact absurd hw h2
    · split at h
      · rename_i hd
        unfold numbF at h
        split at h
        · cases h
        · rename_i n hn
          split at h
          · cases h
            have h1 := readF_some hn
            have h2 := sf_true h1.1
            refine ⟨fun h => by simp at h, fun h => by simp at h, fun _ => ⟨?_, h2.2⟩, fun h => by simp at h, fun h => by simp at h⟩
            show 0 ≤ n
            by_cases h0 : n < 0
            · exfalso
              have h3 := h1.2
              unfold Lib.itoa at h3
              rw [if_pos h0, lead_cons, if_pos hd] at h3
              injection h3 with h4 h5
              rw [← h4] at hd
              revert hd
              decide
            · omega
          · cases h
      · split at h
        · obtain ⟨h1, h2⟩ := quot_str _ _ _ _ _ _ _ (by intro u hu; simp at hu) h
          rw [h1]
          exact ⟨fun h => by simp at h, fun h => by simp at h, fun h => by simp at h, fun _ => h2, fun h => by simp at h⟩
        · unfold signT at h
          split at h
          · cases h
          · cases h
            exact tk_else (by show (5 : Int) ≠ 1; decide) (by show (5 : Int) ≠ 2; decide) (by show (5 : Int) ≠ 3; decide) (by show (5 : Int) ≠ 4; decide)
theorem next_tok {l : By} {t : Tk} {r : By} (h : nextF l = .ok t r) (hx : l.length ≤ 10000) : TkOK t.kind t.num t.text ∧ r.length ≤ 10000 := by
  have hp := next_prog h
  refine ⟨?_, by rcases hp with ⟨_, rfl⟩ | ⟨_, h⟩; simp; omega⟩
  unfold nextF at h
  obtain ⟨k, hk⟩ := sk_suffix (skipL_sk l)
  cases hs : skipL l with
  | mk o x =>
    rw [hs] at h hk
    cases o with
    | false => cases h
    | true =>
      simp only at h hk
      refine one_tok h ?_
      have e1 := congrArg List.length hk
      rw [List.length_append] at e1
      omega
theorem lex_tok : ∀ (f : Nat) (l : By) (ts : List (Tk × Nat)), lexF f l = .ok ts → l.length ≤ 10000 → ∀ p ∈ ts, TkOK p.1.kind p.1.num p.1.text
  | 0, l, ts, h, _ => by cases h
  | f + 1, l, ts, h, hx => by
    rw [lex_succ] at h
    cases hn : nextF l with
    | bad r => rw [hn] at h; cases h
    | ok t r =>
      rw [hn] at h
      simp only at h
      obtain ⟨h1, h2⟩ := next_tok hn hx
      split at h
      · cases h
        intro p hp
        rw [List.mem_singleton.1 hp]
        exact h1
      · cases hr : lexF f r with
        | error n => rw [hr] at h; cases h
        | ok us =>
          rw [hr] at h
          cases h
          intro p hp
          rcases List.mem_cons.1 hp with rfl | hp
          · exact h1
          · exact lex_tok f r us hr h2 p hp
theorem lexT_good {s : ByteArray} (h : (lexT s).1 = 0) (hz : s.size ≤ 10000) : ∀ t ∈ (lexT s).2.2, TokOK t := by
  unfold lexT at h ⊢
  split at h
  · cases h
  · rename_i hl
    rw [if_neg hl]
    split at h
    · cases h
    · rename_i hb
      cases hx : lexF (s.size + 1) s.data.toList with
      | error n => intro t ht; simp at ht
      | ok ts =>
        intro t ht
        simp only [List.mem_map] at ht
        obtain ⟨p, hp, rfl⟩ := ht
        exact lex_tok _ _ _ hx (by simpa using hz) p hp
end Go.Proofs.YtkknglmpdmhhjaaGreatDoor.Pr
