/-
  Texts of this seat in build order: PaAdv, PaMem.
-/
import Derived.Test.YtkknglmpdmhhjaaGreatDoorMg19
import Derived.Defers
import Derived.Maps.AppendAt
/-
  Plain mathematics of the parser: every part goes on, or stands still behind an error.
-/
namespace Go.Proofs.YtkknglmpdmhhjaaGreatDoor.Pa
open Go.Proofs.YtkknglmpdmhhjaaGreatDoor.Lx
set_option linter.unusedVariables false
set_option linter.unusedSimpArgs false

/-- A list of tokens whose last one nothing takes. -/
def okL : List Tok → Prop
  | [] => False
  | [t] => t.kind = 0 ∨ t.kind = -1
  | _ :: u :: r => okL (u :: r)
structure OkS (s : PS) : Prop where
  l : okL s.left
  st : s.fault ≠ 0 → s.left = [stopK]
  nums : ∀ t ∈ s.left, -9223372036854775808 ≤ t.num ∧ t.num ≤ 9223372036854775807
  len : s.left.length ≤ 100000
def Adv (s t : PS) : Prop := OkS s → OkS t ∧ t.left.length ≤ s.left.length ∧ (s.fault ≠ 0 → t = s)
def Prog (s t : PS) : Prop := OkS s → s.fault = 0 → t.fault ≠ 0 ∨ t.left.length < s.left.length
theorem Adv.refl (s : PS) : Adv s s := fun h => ⟨h, Nat.le_refl _, fun _ => rfl⟩
theorem Adv.trans {s t u : PS} (h : Adv s t) (k : Adv t u) : Adv s u := fun hs => by
  obtain ⟨h1, h2, h3⟩ := h hs
  obtain ⟨k1, k2, k3⟩ := k h1
  refine ⟨k1, Nat.le_trans k2 h2, fun hf => ?_⟩
  have e := h3 hf
  rw [k3 (by rw [e]; exact hf), e]
theorem Prog.adv {s t u : PS} (h : Prog s t) (ht : Adv s t) (k : Adv t u) : Prog s u := fun hs hf => by
  obtain ⟨t1, t2, t3⟩ := ht hs
  obtain ⟨k1, k2, k3⟩ := k t1
  rcases h hs hf with h | h
  · left; rw [k3 h]; exact h
  · right; omega
theorem Prog.after {s t u : PS} (ht : Adv s t) (h : Prog t u) (k : Adv t u) : Prog s u := fun hs hf => by
  obtain ⟨t1, t2, t3⟩ := ht hs
  obtain ⟨k1, k2, k3⟩ := k t1
  by_cases hf2 : t.fault = 0
  · rcases h t1 hf2 with h | h
    · exact .inl h
    · right; omega
  · left; rw [k3 hf2]; exact hf2

theorem okL_ne {l : List Tok} (h : okL l) : l ≠ [] := by rintro rfl; exact h
theorem okL_tail {t : Tok} {r : List Tok} (h : okL (t :: r)) (hk : ¬ (t.kind = 0 ∨ t.kind = -1)) : okL r := by
  cases r with
  | nil => exact absurd h hk
  | cons u r => exact h
theorem OkS.cons {s : PS} (h : OkS s) : ∃ r, s.left = s.next :: r := by
  have := okL_ne h.l
  unfold PS.next
  cases hl : s.left with
  | nil => exact absurd hl this
  | cons t r => exact ⟨r, rfl⟩
theorem OkS.pos {s : PS} (h : OkS s) : 1 ≤ s.left.length := by
  obtain ⟨r, hr⟩ := h.cons
  rw [hr]; simp
theorem OkS.live {s : PS} (h : OkS s) (hk : s.next.kind ≠ -1) : s.fault = 0 := by
  by_cases hf : s.fault = 0
  · exact hf
  · have := h.st hf
    unfold PS.next at hk
    rw [this] at hk
    exact absurd rfl hk
theorem OkS.take {s : PS} (h : OkS s) (hk : ¬ (s.next.kind = 0 ∨ s.next.kind = -1)) : OkS s.take ∧ s.take.left.length + 1 = s.left.length := by
  obtain ⟨r, hr⟩ := h.cons
  have e : s.take.left = r := by unfold PS.take; simp only; rw [hr]; rfl
  have hf := h.live (fun e => hk (.inr e))
  refine ⟨⟨?_, ?_, ?_, ?_⟩, ?_⟩
  · rw [e]; exact okL_tail (hr ▸ h.l) hk
  · intro h0; exact absurd hf h0
  · intro t ht; rw [e] at ht; exact h.nums t (by rw [hr]; exact List.mem_cons_of_mem _ ht)
  · rw [e]; have := h.len; rw [hr] at this; simp at this; omega
  · rw [e, hr]; simp
theorem take_adv {s : PS} (hk : ¬ (s.next.kind = 0 ∨ s.next.kind = -1)) : Adv s s.take := fun h => by
  obtain ⟨h1, h2⟩ := h.take hk
  exact ⟨h1, by omega, fun hf => absurd (h.live (fun e => hk (.inr e))) hf⟩
theorem take_prog {s : PS} (hk : ¬ (s.next.kind = 0 ∨ s.next.kind = -1)) : Prog s s.take := fun h _ => by
  obtain ⟨h1, h2⟩ := h.take hk
  right; omega
theorem sees_kind {x : ByteArray} {s : PS} (h : seesF x s = true) : ¬ (s.next.kind = 0 ∨ s.next.kind = -1) := by
  unfold seesF markF at h
  simp at h
  rcases h.1 with h | h <;> (rw [h]; decide)
theorem one_kind {x : ByteArray} {s : PS} (h : seesOneF x s = true) : ¬ (s.next.kind = 0 ∨ s.next.kind = -1) := by
  unfold seesOneF markF at h
  simp at h
  rcases h.1 with h | h <;> (rw [h]; decide)
theorem stop_ok (e : Int) (p : Int) (h : e ≠ 0) : OkS ⟨[stopK], p, e⟩ := ⟨.inr rfl, fun _ => rfl, by intro t ht; simp at ht; subst ht; unfold stopK; simp, by simp⟩
theorem fail_adv (s : PS) {e : Int} (he : e ≠ 0) : Adv s (s.fail e) := fun h => by
  unfold PS.fail
  split
  · rename_i hf
    refine ⟨stop_ok _ _ he, ?_, fun h0 => absurd hf h0⟩
    exact h.pos
  · exact ⟨h, Nat.le_refl _, fun _ => rfl⟩
theorem fail_prog (s : PS) {e : Int} (he : e ≠ 0) : Prog s (s.fail e) := fun h hf => by
  left
  unfold PS.fail
  rw [if_pos hf]
  exact he
theorem needs_adv (x : ByteArray) (s : PS) : Adv s (needsF x s) := by
  unfold needsF
  split
  · exact take_adv (sees_kind (by assumption))
  · exact fail_adv s (by decide)
theorem needs_prog (x : ByteArray) (s : PS) : Prog s (needsF x s) := by
  unfold needsF
  split
  · exact take_prog (sees_kind (by assumption))
  · exact fail_prog s (by decide)

/-! ### In rows -/
theorem Adv.tk {s t : PS} {x : ByteArray} (h : Adv s t) (hx : seesF x t = true) : Adv s t.take := h.trans (take_adv (sees_kind hx))
theorem Adv.tk1 {s t : PS} {x : ByteArray} (h : Adv s t) (hx : seesOneF x t = true) : Adv s t.take := h.trans (take_adv (one_kind hx))
theorem Adv.nd {s t : PS} {x : ByteArray} (h : Adv s t) : Adv s (needsF x t) := h.trans (needs_adv x t)
theorem Adv.fl2 {s t : PS} (h : Adv s t) : Adv s (t.fail 2) := h.trans (fail_adv t (by decide))
theorem Adv.by {T : Type} {s t : PS} {f : PS → T × PS} (h : Adv s t) (hf : ∀ s, Adv s (f s).2) : Adv s (f t).2 := h.trans (hf t)

theorem name_adv (s : PS) : Adv s (nameF s).2 := by
  unfold nameF
  split
  · rename_i h; exact take_adv (by rw [h]; decide)
  · exact fail_adv s (by decide)
theorem mem_adv (s : PS) : Adv s (memF s).2 := by
  unfold memF
  split
  · rename_i h; exact take_adv (by rcases h with h | h <;> (rw [h]; decide))
  · exact fail_adv s (by decide)
theorem key_adv (s : PS) : Adv s (keyF s).2 := by
  unfold keyF
  split
  · rename_i h; exact take_adv (by rcases h with h | h | h <;> (rw [h]; decide))
  · split
    · rename_i h; exact take_adv (by rw [h]; decide)
    · exact fail_adv s (by decide)
theorem opt_adv (s : PS) : Adv s (optF s).2 := by
  unfold optF
  split
  · exact Adv.refl s
  · exact name_adv s
theorem more_adv {T : Type} {el : PS → T × PS} (hel : ∀ s, Adv s (el s).2) : ∀ f s, Adv s (moreF el f s).2
  | 0, s => Adv.refl s
  | f + 1, s => by
    unfold moreF
    split
    · rename_i h; exact (((Adv.refl s).tk h).by hel).trans (more_adv hel f _)
    · exact Adv.refl s
theorem list_adv {T : Type} {el : PS → T × PS} (hel : ∀ s, Adv s (el s).2) (x : ByteArray) (s : PS) : Adv s (listF x el s).2 := by
  unfold listF
  split
  · rename_i h; exact (Adv.refl s).tk h
  · exact ((hel s).trans (more_adv hel _ _)).nd
structure LowA (L : Low) : Prop where
  ex : ∀ s, Adv s (L.ex s).2
  st : ∀ s, Adv s (L.st s).2
  un : ∀ s, Adv s (L.un s).2
  pr : ∀ s, Prog s (L.st s).2
theorem binl_adv {f : PS → Tree × PS} (hf : ∀ s, Adv s (f s).2) (lev : Nat) : ∀ k l s, Adv s (binLoop lev f k l s).2
  | 0, l, s => Adv.refl s
  | k + 1, l, s => by
    unfold binLoop
    split
    · rename_i h; exact (((Adv.refl s).tk1 h).by hf).trans (binl_adv hf lev k _ _)
    · exact Adv.refl s
theorem bin_adv {L : Low} (h : LowA L) : ∀ n s, Adv s (binF L n s).2
  | 0, s => h.un s
  | n + 1, s => by
    unfold binF
    exact (bin_adv h n s).trans (binl_adv (bin_adv h n) _ _ _ _)
theorem cond_adv {L : Low} (h : LowA L) (s : PS) : Adv s (condF L s).2 := by
  unfold condF
  simp only
  split
  · rename_i hs; exact (((((bin_adv h 6 s).tk hs).by h.ex).nd).by h.ex)
  · exact bin_adv h 6 s
theorem ex_adv {L : Low} (h : LowA L) (s : PS) : Adv s (exF L s).2 := by
  unfold exF
  simp only
  split
  · refine Adv.trans (Adv.nd ?_) (h.ex _)
    split
    · exact (cond_adv h s).fl2
    · exact cond_adv h s
  · exact cond_adv h s
theorem membs_adv {L : Low} (h : LowA L) : ∀ f n s, Adv s (membersF L f n s).2
  | 0, n, s => Adv.refl s
  | f + 1, n, s => by
    unfold membersF
    split
    · rename_i hs; exact (((Adv.refl s).tk hs).by mem_adv).trans (membs_adv h f _ _)
    · split
      · rename_i hs; exact ((((Adv.refl s).tk hs).by h.ex).nd).trans (membs_adv h f _ _)
      · exact Adv.refl s
theorem memb_adv {L : Low} (h : LowA L) (n : Tree) (s : PS) : Adv s (membF L n s).2 := membs_adv h _ _ _
theorem called_adv {L : Low} (h : LowA L) (k : Int) (f : Tree) (s : PS) : Adv s (calledF L k f s).2 := by
  unfold calledF
  exact (needs_adv _ s).trans (list_adv h.ex _ _)
theorem stmts_adv {L : Low} (h : LowA L) (fin : PS → Bool) : ∀ f s, Adv s (stmtsF L fin f s).2
  | 0, s => Adv.refl s
  | f + 1, s => by
    unfold stmtsF
    split
    · exact Adv.refl s
    · split
      · exact Adv.refl s
      · exact (h.st s).trans (stmts_adv h fin f _)
theorem block_adv {L : Low} (h : LowA L) (s : PS) : Adv s (blockF L s).2 := by
  unfold blockF
  exact ((needs_adv _ s).trans (stmts_adv h _ _ _)).nd
theorem block_prog {L : Low} (h : LowA L) (s : PS) : Prog s (blockF L s).2 := by
  unfold blockF
  exact (needs_prog _ s).adv (needs_adv _ s) ((stmts_adv h _ _ _).nd)
theorem paren_adv {L : Low} (h : LowA L) (s : PS) : Adv s (parenF L s).2 := by
  unfold parenF
  exact ((needs_adv _ s).by h.ex).nd
theorem func_adv {L : Low} (h : LowA L) (n : ByteArray) (s : PS) : Adv s (funcF L n s).2 := by
  unfold funcF
  exact ((needs_adv _ s).trans (list_adv name_adv _ _)).by (block_adv h)
theorem pair_adv {L : Low} (h : LowA L) (k : Tree) (s : PS) : Adv s (pairF L k s).2 := by
  unfold pairF
  exact (needs_adv _ s).by h.ex
theorem get_adv {L : Low} (h : LowA L) (s : PS) : Adv s (getF L s).2 := by
  unfold getF
  exact (((key_adv s).nd).nd).by (block_adv h)
theorem set_adv {L : Low} (h : LowA L) (s : PS) : Adv s (setF L s).2 := by
  unfold setF
  exact ((((key_adv s).nd).by name_adv).nd).by (block_adv h)
theorem elem_adv {L : Low} (h : LowA L) (s : PS) : Adv s (elemF L s).2 := by
  unfold elemF
  simp only
  split
  · rename_i hs; exact ((((Adv.refl s).tk hs).by h.ex).nd).trans (pair_adv h _ _)
  · split
    · split
      · exact (key_adv s).by (get_adv h)
      · split
        · exact (key_adv s).by (set_adv h)
        · exact (key_adv s).trans (pair_adv h _ _)
    · exact (key_adv s).trans (pair_adv h _ _)
theorem lit_adv (s : PS) : Adv s (litF s).2 := by
  unfold litF
  split
  · rename_i hs; exact (Adv.refl s).tk hs
  split
  · rename_i hs; exact (Adv.refl s).tk hs
  split
  · rename_i hs; exact (Adv.refl s).tk hs
  split
  · rename_i hs; exact (Adv.refl s).tk hs
  split
  · rename_i hs; exact (Adv.refl s).tk hs
  · exact fail_adv s (by decide)
theorem prim_adv {L : Low} (h : LowA L) (s : PS) : Adv s (primF L s).2 := by
  unfold primF
  split
  · rename_i h; exact take_adv (by rw [h]; decide)
  split
  · rename_i h; exact take_adv (by rw [h]; decide)
  split
  · rename_i h; exact take_adv (by rw [h]; decide)
  split
  · exact paren_adv h s
  split
  · rename_i hs; exact ((Adv.refl s).tk hs).trans (list_adv h.ex _ _)
  split
  · rename_i hs; exact ((Adv.refl s).tk hs).trans (list_adv (elem_adv h) _ _)
  split
  · rename_i hs; exact (((Adv.refl s).tk hs).by opt_adv).trans (func_adv h (optF s.take).1 (optF s.take).2)
  · exact lit_adv s
theorem base_adv {L : Low} (h : LowA L) (s : PS) : Adv s (baseF L s).2 := by
  unfold baseF
  split
  · rename_i hs; exact ((((Adv.refl s).tk hs).by (prim_adv h)).trans (memb_adv h _ _)).trans (called_adv h _ _ _)
  · exact prim_adv h s
theorem calll_adv {L : Low} (h : LowA L) : ∀ f n s, Adv s (callLoop L f n s).2
  | 0, n, s => Adv.refl s
  | f + 1, n, s => by
    unfold callLoop
    split
    · exact ((called_adv h _ _ _).trans (memb_adv h _ _)).trans (calll_adv h f _ _)
    · exact Adv.refl s
theorem chain_adv {L : Low} (h : LowA L) (s : PS) : Adv s (chainF L s).2 := by
  unfold chainF
  exact ((base_adv h s).trans (memb_adv h _ _)).trans (calll_adv h _ _ _)
theorem un_adv {L : Low} (h : LowA L) (s : PS) : Adv s (unF L s).2 := by
  unfold unF
  split
  · rename_i hs
    simp only
    split
    · exact (((Adv.refl s).tk1 hs).by h.un).fl2
    · exact ((Adv.refl s).tk1 hs).by h.un
  · exact chain_adv h s
theorem let_adv {L : Low} (h : LowA L) (s : PS) : Adv s (letF L s).2 := by
  unfold letF
  simp only
  split
  · rename_i hs; exact ((name_adv s).tk hs).by h.ex
  · exact name_adv s
theorem const_adv {L : Low} (h : LowA L) (s : PS) : Adv s (constF L s).2 := by
  unfold constF
  exact ((name_adv s).nd).by h.ex
theorem simp_adv {L : Low} (h : LowA L) (s : PS) : Adv s (simpF L s).2 := by
  unfold simpF
  split
  · exact Adv.refl s
  split
  · rename_i hs; exact ((Adv.refl s).tk hs).by (let_adv h)
  split
  · rename_i hs; exact ((Adv.refl s).tk hs).by (const_adv h)
  split
  · rename_i hs
    split
    · exact (Adv.refl s).tk hs
    · exact ((Adv.refl s).tk hs).by h.ex
  split
  · rename_i hs; exact ((Adv.refl s).tk hs).by h.ex
  split
  · rename_i hs; exact (Adv.refl s).tk hs
  split
  · rename_i hs; exact (Adv.refl s).tk hs
  · exact h.ex s
theorem choice_adv {L : Low} (h : LowA L) (s : PS) : Adv s (choiceF L s).2 := by
  unfold choiceF
  simp only
  split
  · rename_i hs; exact (((paren_adv h s).by h.st).tk hs).by h.st
  · exact (paren_adv h s).by h.st
theorem hand_adv {L : Low} (h : LowA L) (s : PS) : Adv s (handF L s).2 := by
  unfold handF
  exact (((needs_adv _ s).by name_adv).nd).by (block_adv h)
theorem try_adv {L : Low} (h : LowA L) (s : PS) : Adv s (tryF L s).2 := by
  unfold tryF
  simp only
  split
  · rename_i h1
    split
    · rename_i h2; exact ((((block_adv h s).tk h1).by (hand_adv h)).tk h2).by (block_adv h)
    · exact ((block_adv h s).tk h1).by (hand_adv h)
  · split
    · rename_i h2; exact ((block_adv h s).tk h2).by (block_adv h)
    · exact (block_adv h s).fl2
theorem st_adv {L : Low} (h : LowA L) (s : PS) : Adv s (stF L s).2 := by
  unfold stF
  split
  · exact block_adv h s
  split
  · rename_i hs; exact (((Adv.refl s).tk hs).by name_adv).trans (func_adv h (nameF s.take).1 (nameF s.take).2)
  split
  · rename_i hs; exact ((Adv.refl s).tk hs).by (choice_adv h)
  split
  · rename_i hs; exact (((Adv.refl s).tk hs).by (paren_adv h)).by h.st
  split
  · rename_i hs; exact ((Adv.refl s).tk hs).by (try_adv h)
  · exact (simp_adv h s).nd
theorem st_prog {L : Low} (h : LowA L) (s : PS) : Prog s (stF L s).2 := by
  unfold stF
  split
  · exact block_prog h s
  split
  · rename_i hs; exact (take_prog (sees_kind hs)).adv (take_adv (sees_kind hs)) ((name_adv s.take).trans (func_adv h (nameF s.take).1 (nameF s.take).2))
  split
  · rename_i hs; exact (take_prog (sees_kind hs)).adv (take_adv (sees_kind hs)) (choice_adv h _)
  split
  · rename_i hs; exact (take_prog (sees_kind hs)).adv (take_adv (sees_kind hs)) ((paren_adv h _).by h.st)
  split
  · rename_i hs; exact (take_prog (sees_kind hs)).adv (take_adv (sees_kind hs)) (try_adv h _)
  · exact Prog.after (simp_adv h s) (needs_prog _ _) (needs_adv _ _)
theorem lowF_zero : lowF 0 = ⟨fun s => (zeroT, s.fail 4), fun s => (zeroT, s.fail 4), fun s => (zeroT, s.fail 4)⟩ := rfl
theorem lowF_succ (r : Nat) : lowF (r + 1) = ⟨exF (lowF r), stF (lowF r), unF (lowF r)⟩ := rfl
theorem fail4 (s : PS) : Adv s (s.fail 4) := fail_adv s (by decide)
theorem fail4p (s : PS) : Prog s (s.fail 4) := fail_prog s (by decide)
theorem low_zero : LowA (lowF 0) := LowA.mk fail4 fail4 fail4 fail4p
theorem low_succ {L : Low} (h : LowA L) : LowA ⟨exF L, stF L, unF L⟩ := by
  have h1 := ex_adv h
  have h2 := st_adv h
  have h3 := un_adv h
  have h4 := st_prog h
  generalize exF L = a at h1 ⊢
  generalize stF L = b at h2 h4 ⊢
  generalize unF L = c at h3 ⊢
  exact ⟨h1, h2, h3, h4⟩
theorem low_adv (r : Nat) : LowA (lowF r) := by
  induction r with
  | zero => exact low_zero
  | succ r ih => rw [lowF_succ]; exact low_succ ih
end Go.Proofs.YtkknglmpdmhhjaaGreatDoor.Pa

/-
  Nodes in memory; the parser's block; what a tree is in memory.
-/
namespace Go.Proofs.YtkknglmpdmhhjaaGreatDoor.Pa
open Go Go.RowKit Go.Proofs.YtkknglmpdmhhjaaGreatDoor.Lx Go.Proofs.YtkknglmpdmhhjaaGreatDoor.Uni
set_option linter.unusedVariables false
set_option linter.unusedSimpArgs false

/-- A slice's header. -/
structure Sl where
  a : Option Addr
  n : Nat
  c : Nat
def Sl.v (s : Sl) : Value := .slice s.a s.n s.c
def nilSl : Sl := ⟨none, 0, 0⟩
abbrev newSl (b n : Nat) : Sl := ⟨some ⟨b, 0, none⟩, n, n⟩
/-- A node in memory. -/
structure Nd where
  kind : Int
  num : Int
  text : ByteArray
  names : Sl
  kids : Sl
def zeroN : Nd := ⟨0, 0, noS, nilSl, nilSl⟩
def kidN (k : Int) (s : Sl) : Nd := ⟨k, 0, noS, nilSl, s⟩
def ncs (n : Nd) : Array Value := #[.int .i64 n.kind, .int .i64 n.num, .string n.text, n.names.v, n.kids.v]
theorem ncs_size (n : Nd) : (ncs n).size = 5 := rfl
theorem ncs_0 (n : Nd) : (ncs n)[0]? = some (.int .i64 n.kind) := rfl
theorem ncs_1 (n : Nd) : (ncs n)[1]? = some (.int .i64 n.num) := rfl
theorem ncs_2 (n : Nd) : (ncs n)[2]? = some (.string n.text) := rfl
theorem ncs_3 (n : Nd) : (ncs n)[3]? = some (.slice n.names.a n.names.n n.names.c) := rfl
theorem ncs_4 (n : Nd) : (ncs n)[4]? = some (.slice n.kids.a n.kids.n n.kids.c) := rfl
theorem ncs_set1 (n : Nd) (k : Int) : (ncs n).setIfInBounds 1 (.int .i64 k) = ncs { n with num := k } := rfl
theorem ncs_set4 (n : Nd) (a : Option Addr) (l c : Nat) : (ncs n).setIfInBounds 4 (.slice a l c) = ncs { n with kids := ⟨a, l, c⟩ } := rfl
theorem ncs_one (n : Nd) : (ncs n).all (·.oneCell') = true := by simp [ncs, Value.oneCell', Sl.v]
theorem ncs_list (n : Nd) : (ncs n).toList.length = 5 := rfl
theorem ncs_one' (n : Nd) : ∀ u ∈ (ncs n).toList, u.oneCell' = true := fun u hu => by
  have h := ncs_one n
  rw [Array.all_eq_true_iff_forall_mem] at h
  exact h u (by simpa using hu)
def ncells (l : List Nd) : List Value := l.flatMap fun t => (ncs t).toList
theorem ncells_nil : ncells [] = [] := rfl
theorem ncells_snoc (l : List Nd) (t : Nd) : ncells (l ++ [t]) = ncells l ++ (ncs t).toList := by simp [ncells]
theorem ncells_append (l m : List Nd) : ncells (l ++ m) = ncells l ++ ncells m := by simp [ncells]
theorem ncells_len (l : List Nd) : (ncells l).length = l.length * 5 := by
  induction l with
  | nil => rfl
  | cons a l ih =>
    have : ncells (a :: l) = (ncs a).toList ++ ncells l := rfl
    rw [this, List.length_append, ih, ncs_list, List.length_cons]
    omega
theorem ncells_one (l : List Nd) : ∀ u ∈ ncells l, u.oneCell' = true := fun u hu => by
  unfold ncells at hu
  rw [List.mem_flatMap] at hu
  obtain ⟨n, -, hn⟩ := hu
  exact ncs_one' n u hn

/-! ### Operations on nodes -/
theorem ldN (v : Value) : Instr.loadAt 27 v = Ld 27 v := (rfl)
theorem stN (p v : Value) : Instr.storeAt 27 p v = Lx.St 27 p v := (rfl)
theorem alN : Instr.alloc 27 true (.tuple #[]) = Al 27 := (rfl)
theorem bdN (ps : Array (Nat × Value)) : Instr.build 27 ps = Bd 27 ps := (rfl)
def BsN (n : Nat) (ps : Array (Nat × Value)) : Sem Value := Instr.buildSlice 25 n ps
theorem bsN (n : Nat) (ps : Array (Nat × Value)) : Instr.buildSlice 25 n ps = BsN n ps := (rfl)
theorem infoN : (Tryz.prog.info? 27).map (fun i => (i.zero, i.size)) = some (some (.agg (ncs zeroN)), 5) := by kernel_rfl
theorem infoN3 : (Tryz.prog.info? 27).map (fun i => (i.zero, i.size, i.bytes)) = some (some (.agg (ncs zeroN)), 5, 80) := by kernel_rfl
theorem sizeN : (Tryz.prog.info? 27).map (·.size) = some 5 := by kernel_rfl
theorem run_alN (w : World) : (Al 27).run Tryz.prog w = .ok (ptr w.heap.size) (w.alloc (.cells (ncs zeroN) 27)) := run_al infoN w
theorem run_ldN {w : World} {b : Nat} {t : Nd} {T : TypeId} (h : Blk w b (ncs t) T) : (Ld 27 (.pointer (some ⟨b, 0, none⟩))).run Tryz.prog w = .ok (.agg (ncs t)) w := by
  have := run_loadAt_mid (P := Tryz.prog) w b 0 27 (ncs t).toList _ (h.range (r := []) (by simp)) Tryz.underlying27 rfl sizeN
  simpa [Ld] using this
theorem run_stN {w : World} {b : Nat} {o t : Nd} (h : Blk w b (ncs o) 27) : (Lx.St 27 (.pointer (some ⟨b, 0, none⟩)) (.agg (ncs t))).run Tryz.prog w = .ok () (w.setRow b (ncs t)) :=
  run_st_row h (by rw [ncs_size]; exact sizeN) (by rw [ncs_size, ncs_size]) (ncs_one t)
theorem run_stNg (w : World) (r o : Nd) : (Lx.St 27 (.pointer (some ⟨w.heap.size, 0, none⟩)) (.agg (ncs r))).run Tryz.prog (w.alloc (.cells (ncs o) 27)) = .ok () (w.alloc (.cells (ncs r) 27)) := by
  rw [run_stN (Blk.new w (ncs o) _), setRow_new]
theorem run_ldNg (w : World) (o : Nd) : (Ld 27 (.pointer (some ⟨w.heap.size, 0, none⟩))).run Tryz.prog (w.alloc (.cells (ncs o) 27)) = .ok (.agg (ncs o)) (w.alloc (.cells (ncs o) 27)) := run_ldN (Blk.new w (ncs o) _)
theorem run_bdN0 (w : World) : (Bd 27 #[]).run Tryz.prog w = .ok (.agg (ncs zeroN)) w := run_build w _ _ _ (by kernel_rfl)
theorem run_bdN04 (w : World) (k : Int) (a : Option Addr) (n c : Nat) : (Bd 27 #[(0, .int .i64 k), (4, .slice a n c)]).run Tryz.prog w = .ok (.agg (ncs (kidN k ⟨a, n, c⟩))) w := run_build w _ _ _ (by kernel_rfl)
theorem run_bdN02 (w : World) (k : Int) (t : ByteArray) : (Bd 27 #[(0, .int .i64 k), (2, .string t)]).run Tryz.prog w = .ok (.agg (ncs ⟨k, 0, t, nilSl, nilSl⟩)) w := run_build w _ _ _ (by kernel_rfl)
theorem run_bdN01 (w : World) (k n : Int) : (Bd 27 #[(0, .int .i64 k), (1, .int .i64 n)]).run Tryz.prog w = .ok (.agg (ncs ⟨k, n, noS, nilSl, nilSl⟩)) w := run_build w _ _ _ (by kernel_rfl)
theorem run_bdN024 (w : World) (k : Int) (t : ByteArray) (a : Option Addr) (n c : Nat) : (Bd 27 #[(0, .int .i64 k), (2, .string t), (4, .slice a n c)]).run Tryz.prog w = .ok (.agg (ncs ⟨k, 0, t, nilSl, ⟨a, n, c⟩⟩)) w := run_build w _ _ _ (by kernel_rfl)
theorem run_bdN03 (w : World) (k : Int) (a : Option Addr) (n c : Nat) : (Bd 27 #[(0, .int .i64 k), (3, .slice a n c)]).run Tryz.prog w = .ok (.agg (ncs ⟨k, 0, noS, ⟨a, n, c⟩, nilSl⟩)) w := run_build w _ _ _ (by kernel_rfl)
theorem run_bdN0234 (w : World) (k : Int) (t : ByteArray) (a : Option Addr) (n c : Nat) (a2 : Option Addr) (n2 c2 : Nat) : (Bd 27 #[(0, .int .i64 k), (2, .string t), (3, .slice a n c), (4, .slice a2 n2 c2)]).run Tryz.prog w = .ok (.agg (ncs ⟨k, 0, t, ⟨a, n, c⟩, ⟨a2, n2, c2⟩⟩)) w := run_build w _ _ _ (by kernel_rfl)
theorem zeroN_cells : (Value.agg (ncs zeroN)).cells.size = 5 := rfl
theorem run_bsN1 (w : World) (t : Nd) : (BsN 1 #[(0, .agg (ncs t))]).run Tryz.prog w = .ok (.slice (some ⟨w.heap.size, 0, none⟩) 1 1) (w.alloc (.cells (ncells [t]).toArray 27)) := by
  have e : (ncells [t]).toArray = ncs t := by simp [ncells]
  rw [e]
  obtain ⟨i, hi, hz, hs, hb⟩ := info_parts infoN3
  exact run_buildSlice w 25 27 1 _ (ncs t) i (.agg (ncs zeroN)) Tryz.underlying25 hi hz (by rw [hs]; decide) (by rw [hs]; decide) (by rw [hs]; have h := Go.Great.fill_whole (s := 5) (by decide) [.agg (ncs t)] ((Array.range (1 * 5)).map ((Value.agg (ncs zeroN)).cells[· % (Value.agg (ncs zeroN)).cells.size]!)) (fun v hv => by rw [List.mem_singleton.1 hv]; rfl) (by simp); simpa [Value.cells] using h)
theorem run_bsN2 (w : World) (t u : Nd) : (BsN 2 #[(0, .agg (ncs t)), (1, .agg (ncs u))]).run Tryz.prog w = .ok (.slice (some ⟨w.heap.size, 0, none⟩) 2 2) (w.alloc (.cells (ncells [t, u]).toArray 27)) := by
  obtain ⟨i, hi, hz, hs, hb⟩ := info_parts infoN3
  exact run_buildSlice w 25 27 2 _ (ncells [t, u]).toArray i (.agg (ncs zeroN)) Tryz.underlying25 hi hz (by rw [hs]; decide) (by rw [hs]; decide) (by rw [hs]; have h := Go.Great.fill_whole (s := 5) (by decide) [.agg (ncs t), .agg (ncs u)] ((Array.range (2 * 5)).map ((Value.agg (ncs zeroN)).cells[· % (Value.agg (ncs zeroN)).cells.size]!)) (fun v hv => by simp only [List.mem_cons, List.not_mem_nil, or_false] at hv; rcases hv with rfl | rfl <;> rfl) (by simp); simpa [Value.cells, ncells] using h)
theorem run_bsN3 (w : World) (t u v : Nd) : (BsN 3 #[(0, .agg (ncs t)), (1, .agg (ncs u)), (2, .agg (ncs v))]).run Tryz.prog w = .ok (.slice (some ⟨w.heap.size, 0, none⟩) 3 3) (w.alloc (.cells (ncells [t, u, v]).toArray 27)) := by
  obtain ⟨i, hi, hz, hs, hb⟩ := info_parts infoN3
  exact run_buildSlice w 25 27 3 _ (ncells [t, u, v]).toArray i (.agg (ncs zeroN)) Tryz.underlying25 hi hz (by rw [hs]; decide) (by rw [hs]; decide) (by rw [hs]; have h := Go.Great.fill_whole (s := 5) (by decide) [.agg (ncs t), .agg (ncs u), .agg (ncs v)] ((Array.range (3 * 5)).map ((Value.agg (ncs zeroN)).cells[· % (Value.agg (ncs zeroN)).cells.size]!)) (fun v hv => by simp only [List.mem_cons, List.not_mem_nil, or_false] at hv; rcases hv with rfl | rfl | rfl <;> rfl) (by simp); simpa [Value.cells, ncells] using h)
/-- The result: a node in a cell. -/
theorem res_N {fn : Func} {p : Tmp} (h : fn.results = #[.cell p 27]) (tmps : Array Value) (w : World) (g : Nat) (t : Nd) (hp : tmps.getD p undef = .pointer (some ⟨g, 0, none⟩)) {T : TypeId} (hv : Blk w g (ncs t) T) : (results fn tmps).run Tryz.prog w = .ok (.agg (ncs t)) w := by
  have e1 := run_loadVar_row (P := Tryz.prog) w g T 27 (ncs t) (0, 0) _ hv Tryz.underlying27 rfl (by exact sizeN)
  have hp' : tmps[p]?.getD undef = .pointer (some ⟨g, 0, none⟩) := by simpa using hp
  simp only [results, h]
  simp [Sem.run_bind, Result.andThen, hp', asAddr, e1]
theorem res_T {fn : Func} {p : Tmp} (h : fn.results = #[.cell p 79]) (tmps : Array Value) (w : World) (g : Nat) (t : Tok) (hp : tmps.getD p undef = .pointer (some ⟨g, 0, none⟩)) {T : TypeId} (hv : Blk w g (kcs t) T) : (results fn tmps).run Tryz.prog w = .ok (.agg (kcs t)) w := by
  have e1 := run_loadVar_row (P := Tryz.prog) w g T 79 (kcs t) (0, 0) _ hv Tryz.underlying79 rfl (by exact sizeK)
  have hp' : tmps[p]?.getD undef = .pointer (some ⟨g, 0, none⟩) := by simpa using hp
  simp only [results, h]
  simp [Sem.run_bind, Result.andThen, hp', asAddr, e1]

theorem run_fdK0 (t : Tok) (w : World) : (Instr.field 79 (.agg (kcs t)) 0).run Tryz.prog w = .ok (.int .i64 t.kind) w := by kernel_rfl
theorem run_fdK1 (t : Tok) (w : World) : (Instr.field 79 (.agg (kcs t)) 1).run Tryz.prog w = .ok (.int .i64 t.pos) w := by kernel_rfl
theorem run_fdK2 (t : Tok) (w : World) : (Instr.field 79 (.agg (kcs t)) 2).run Tryz.prog w = .ok (.int .i64 t.num) w := by kernel_rfl
theorem run_fdK3 (t : Tok) (w : World) : (Instr.field 79 (.agg (kcs t)) 3).run Tryz.prog w = .ok (.string t.text) w := by kernel_rfl
theorem run_fdN4 (t : Nd) (w : World) : (Instr.field 27 (.agg (ncs t)) 4).run Tryz.prog w = .ok (.slice t.kids.a t.kids.n t.kids.c) w := by kernel_rfl

/-! ### Trees in memory -/
/-- A list in memory whose block is one of S. -/
def Row (S : Nat → Prop) (w : World) (e : TypeId) (size : Nat) (s : Sl) (n : Nat) (xs : List Value) : Prop :=
  w.ownsRow 0 e size s.v n xs ∧ ∀ b, s.v.ownBlock = some b → S b
mutual
def Rep (S : Nat → Prop) (w : World) : Tree → Nd → Prop
  | .mk k n t ns ks, N => N.kind = k ∧ N.num = n ∧ N.text = t ∧ Row S w 9 1 N.names ns.length (ns.map Value.string) ∧ ∃ xs, Row S w 27 5 N.kids ks.length (ncells xs) ∧ Reps S w ks xs
def Reps (S : Nat → Prop) (w : World) : List Tree → List Nd → Prop
  | [], [] => True
  | t :: ts, x :: xs => Rep S w t x ∧ Reps S w ts xs
  | _, _ => False
end
theorem Row.keep {S S' : Nat → Prop} {w w' : World} {e : TypeId} {size n : Nat} {s : Sl} {xs : List Value} (h : Row S w e size s n xs) (hk : ∀ b, b < w.heap.size → S b → S' b ∧ w'.heap[b]? = w.heap[b]?) : Row S' w' e size s n xs := by
  obtain ⟨⟨h1, h2⟩, h3⟩ := h
  rcases h2 with ⟨h4, h5⟩ | ⟨g, cap, cur, h4, h5, h6, h7⟩
  · exact ⟨⟨h1, .inl ⟨h4, h5⟩⟩, fun b hb => by rw [h4] at hb; cases hb⟩
  · have hg := h3 g (by rw [h4]; rfl)
    have hlt : g < w.heap.size := (Array.getElem?_eq_some_iff.1 h6).1
    obtain ⟨k1, k2⟩ := hk g hlt hg
    refine ⟨⟨h1, .inr ⟨g, cap, cur, h4, h5, by rw [k2]; exact h6, h7⟩⟩, fun b hb => ?_⟩
    rw [h4] at hb
    obtain rfl : g = b := by simpa [Value.ownBlock] using hb
    exact k1
mutual
theorem Rep.keep {S S' : Nat → Prop} {w w' : World} (hk : ∀ b, b < w.heap.size → S b → S' b ∧ w'.heap[b]? = w.heap[b]?) : ∀ (T : Tree) (N : Nd), Rep S w T N → Rep S' w' T N
  | .mk k n t ns ks, N, h => by
    unfold Rep at h ⊢
    obtain ⟨h1, h2, h3, h4, xs, h5, h6⟩ := h
    exact ⟨h1, h2, h3, h4.keep hk, xs, h5.keep hk, Reps.keep hk ks xs h6⟩
theorem Reps.keep {S S' : Nat → Prop} {w w' : World} (hk : ∀ b, b < w.heap.size → S b → S' b ∧ w'.heap[b]? = w.heap[b]?) : ∀ (ts : List Tree) (xs : List Nd), Reps S w ts xs → Reps S' w' ts xs
  | [], [], _ => by unfold Reps; trivial
  | t :: ts, x :: xs, h => by
    unfold Reps at h ⊢
    exact ⟨Rep.keep hk t x h.1, Reps.keep hk ts xs h.2⟩
  | [], _ :: _, h => by unfold Reps at h; exact h.elim
  | _ :: _, [], h => by unfold Reps at h; exact h.elim
end
theorem Reps.len {S : Nat → Prop} {w : World} : ∀ {ts : List Tree} {xs : List Nd}, Reps S w ts xs → xs.length = ts.length
  | [], [], _ => rfl
  | t :: ts, x :: xs, h => by
    unfold Reps at h
    simp only [List.length_cons]
    rw [Reps.len h.2]
  | [], _ :: _, h => by unfold Reps at h; exact h.elim
  | _ :: _, [], h => by unfold Reps at h; exact h.elim
theorem Reps.snoc {S : Nat → Prop} {w : World} {t : Tree} {x : Nd} (hx : Rep S w t x) : ∀ {ts : List Tree} {xs : List Nd}, Reps S w ts xs → Reps S w (ts ++ [t]) (xs ++ [x])
  | [], [], _ => by
    show Reps S w [t] [x]
    unfold Reps
    exact ⟨hx, by unfold Reps; trivial⟩
  | t1 :: ts, x1 :: xs, h => by
    unfold Reps at h
    show Reps S w (t1 :: (ts ++ [t])) (x1 :: (xs ++ [x]))
    unfold Reps
    exact ⟨h.1, Reps.snoc hx h.2⟩
  | [], _ :: _, h => by unfold Reps at h; exact h.elim
  | _ :: _, [], h => by unfold Reps at h; exact h.elim
theorem Row.nil (S : Nat → Prop) (w : World) (e : TypeId) (size : Nat) : Row S w e size nilSl 0 [] := ⟨World.ownsRow_nil _ _ _ _, fun b hb => by cases hb⟩
theorem Rep.nil (S : Nat → Prop) (w : World) (k n : Int) (t : ByteArray) : Rep S w (.mk k n t [] []) ⟨k, n, t, nilSl, nilSl⟩ := by
  unfold Rep
  exact ⟨rfl, rfl, rfl, Row.nil _ _ _ _, [], Row.nil _ _ _ _, by unfold Reps; trivial⟩
theorem Rep.kind {S : Nat → Prop} {w : World} {T : Tree} {N : Nd} (h : Rep S w T N) : N.kind = T.kind := by
  cases T
  unfold Rep at h
  exact h.1
theorem Rep.num {S : Nat → Prop} {w : World} {T : Tree} {N : Nd} (h : Rep S w T N) : N.num = T.num := by
  cases T
  unfold Rep at h
  exact h.2.1
theorem Rep.ks {S : Nat → Prop} {w : World} {T : Tree} {N : Nd} (h : Rep S w T N) : ∃ xs, Row S w 27 5 N.kids T.kids.length (ncells xs) ∧ Reps S w T.kids xs := by
  cases T
  unfold Rep at h
  exact h.2.2.2.2
/-- A node with kids out of a list of its own. -/
theorem Rep.of {S : Nat → Prop} {w : World} {k n : Int} {t : ByteArray} {ts : List Tree} {xs : List Nd} {s : Sl} (h : Row S w 27 5 s ts.length (ncells xs)) (hr : Reps S w ts xs) : Rep S w (.mk k n t [] ts) ⟨k, n, t, nilSl, s⟩ := by
  unfold Rep
  exact ⟨rfl, rfl, rfl, Row.nil _ _ _ _, xs, h, hr⟩
theorem Row.new {S : Nat → Prop} (w : World) (xs : List Nd) (n : Nat) (hn : xs.length = n) (hm : n ≤ maxLen) (hS : S w.heap.size) : Row S (w.alloc (.cells (ncells xs).toArray 27)) 27 5 (newSl w.heap.size n) n (ncells xs) := by
  refine ⟨⟨by rw [ncells_len, hn], .inr ⟨w.heap.size, n, _, rfl, Nat.zero_le _, heap_alloc_new w _, Nat.le_refl _, hm, ?_, ?_⟩⟩, fun b hb => ?_⟩
  · rw [List.size_toArray, ncells_len, hn]
  · rw [List.take_of_length_le]; rw [ncells_len, hn]; exact Nat.le_refl _
  · simp [newSl, Sl.v, Value.ownBlock] at hb; rw [← hb]; exact hS
end Go.Proofs.YtkknglmpdmhhjaaGreatDoor.Pa
