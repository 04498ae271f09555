/-
  Texts of this seat in build order: PaAdv, PrSpec, EySpec, LxToks.
-/
import Derived.Test.YtinoaajohkafmaaGreatMw02
/-
  Plain mathematics of the parser: every part goes on, or stands still behind an error.
-/
namespace Go.Proofs.YtinoaajohkafmaaGreat.Pa
open Go.Proofs.YtinoaajohkafmaaGreat.Lx
set_option linter.unusedVariables false
set_option linter.unusedSimpArgs false
def okL : List Tok → Prop
  | [] => False
  | [t] => t.kind = 0 ∨ t.kind = -1
  | _ :: u :: r => okL (u :: r)
structure OkS (s : PS) : Prop where
  l : okL s.left
  st : s.fault ≠ 0 → s.left = [stopK]
  nums : ∀ t ∈ s.left, -9223372036854775808 ≤ t.num ∧ t.num ≤ 9223372036854775807
  len : s.left.length ≤ 100000
def Adv (s t : PS) : Prop := OkS s → OkS t ∧ t.left.length ≤ s.left.length ∧ (s.fault ≠ 0 → t = s)
def Prog (s t : PS) : Prop := OkS s → s.fault = 0 → t.fault ≠ 0 ∨ t.left.length < s.left.length
theorem Adv.refl (s : PS) : Adv s s := fun h => ⟨h, Nat.le_refl _, fun _ => rfl⟩
theorem Adv.trans {s t u : PS} (h : Adv s t) (k : Adv t u) : Adv s u := fun hs => by
  obtain ⟨h1, h2, h3⟩ := h hs
  obtain ⟨k1, k2, k3⟩ := k h1
  refine ⟨k1, Nat.le_trans k2 h2, fun hf => ?_⟩
  have e := h3 hf
  rw [k3 (by rw [e]; exact hf), e]
theorem Prog.adv {s t u : PS} (h : Prog s t) (ht : Adv s t) (k : Adv t u) : Prog s u := fun hs hf => by
  obtain ⟨t1, t2, t3⟩ := ht hs
  obtain ⟨k1, k2, k3⟩ := k t1
  rcases h hs hf with h | h
  · left; rw [k3 h]; exact h
  · right; omega
theorem Prog.after {s t u : PS} (ht : Adv s t) (h : Prog t u) (k : Adv t u) : Prog s u := fun hs hf => by
  obtain ⟨t1, t2, t3⟩ := ht hs
  obtain ⟨k1, k2, k3⟩ := k t1
  by_cases hf2 : t.fault = 0
  · rcases h t1 hf2 with h | h
    · exact .inl h
    · right; omega
  · left; rw [k3 hf2]; exact hf2
theorem okL_ne {l : List Tok} (h : okL l) : l ≠ [] := by rintro rfl; exact h
theorem okL_tail {t : Tok} {r : List Tok} (h : okL (t :: r)) (hk : ¬ (t.kind = 0 ∨ t.kind = -1)) : okL r := by
  cases r with
  | nil => exact absurd h hk
  | cons u r => exact h
theorem OkS.cons {s : PS} (h : OkS s) : ∃ r, s.left = s.next :: r := by
  have := okL_ne h.l
  unfold PS.next
  cases hl : s.left with
  | nil => exact absurd hl this
  | cons t r => exact ⟨r, rfl⟩
theorem OkS.pos {s : PS} (h : OkS s) : 1 ≤ s.left.length := by
  obtain ⟨r, hr⟩ := h.cons
  rw [hr]; simp
theorem OkS.live {s : PS} (h : OkS s) (hk : s.next.kind ≠ -1) : s.fault = 0 := by
  by_cases hf : s.fault = 0
  · exact hf
  · have := h.st hf
    unfold PS.next at hk
    rw [this] at hk
    exact absurd rfl hk
theorem OkS.take {s : PS} (h : OkS s) (hk : ¬ (s.next.kind = 0 ∨ s.next.kind = -1)) : OkS s.take ∧ s.take.left.length + 1 = s.left.length := by
  obtain ⟨r, hr⟩ := h.cons
  have e : s.take.left = r := by unfold PS.take; simp only; rw [hr]; rfl
  have hf := h.live (fun e => hk (.inr e))
  refine ⟨⟨?_, ?_, ?_, ?_⟩, ?_⟩
  · rw [e]; exact okL_tail (hr ▸ h.l) hk
  · intro h0; exact absurd hf h0
  · intro t ht; rw [e] at ht; exact h.nums t (by rw [hr]; exact List.mem_cons_of_mem _ ht)
  · rw [e]; have := h.len; rw [hr] at this; simp at this; omega
  · rw [e, hr]; simp
theorem take_adv {s : PS} (hk : ¬ (s.next.kind = 0 ∨ s.next.kind = -1)) : Adv s s.take := fun h => by
  obtain ⟨h1, h2⟩ := h.take hk
  exact ⟨h1, by omega, fun hf => absurd (h.live (fun e => hk (.inr e))) hf⟩
theorem take_prog {s : PS} (hk : ¬ (s.next.kind = 0 ∨ s.next.kind = -1)) : Prog s s.take := fun h _ => by
  obtain ⟨h1, h2⟩ := h.take hk
  right; omega
theorem sees_kind {x : ByteArray} {s : PS} (h : seesF x s = true) : ¬ (s.next.kind = 0 ∨ s.next.kind = -1) := by
  unfold seesF markF at h
  simp at h
  rcases h.1 with h | h <;> (rw [h]; decide)
theorem one_kind {x : ByteArray} {s : PS} (h : seesOneF x s = true) : ¬ (s.next.kind = 0 ∨ s.next.kind = -1) := by
  unfold seesOneF markF at h
  simp at h
  rcases h.1 with h | h <;> (rw [h]; decide)
theorem stop_ok (e : Int) (p : Int) (h : e ≠ 0) : OkS ⟨[stopK], p, e⟩ := ⟨.inr rfl, fun _ => rfl, by intro t ht; simp at ht; subst ht; unfold stopK; simp, by simp⟩
theorem fail_adv (s : PS) {e : Int} (he : e ≠ 0) : Adv s (s.fail e) := fun h => by
  unfold PS.fail
  split
  · rename_i hf
    refine ⟨stop_ok _ _ he, ?_, fun h0 => absurd hf h0⟩
    exact h.pos
  · exact ⟨h, Nat.le_refl _, fun _ => rfl⟩
theorem fail_prog (s : PS) {e : Int} (he : e ≠ 0) : Prog s (s.fail e) := fun h hf => by
  left
  unfold PS.fail
  rw [if_pos hf]
  exact he
theorem needs_adv (x : ByteArray) (s : PS) : Adv s (needsF x s) := by
  unfold needsF
  split
  · exact take_adv (sees_kind (by assumption))
  · exact fail_adv s (by decide)
theorem needs_prog (x : ByteArray) (s : PS) : Prog s (needsF x s) := by
  unfold needsF
  split
  · exact take_prog (sees_kind (by assumption))
  · exact fail_prog s (by decide)
theorem Adv.tk {s t : PS} {x : ByteArray} (h : Adv s t) (hx : seesF x t = true) : Adv s t.take := h.trans (take_adv (sees_kind hx))
theorem Adv.tk1 {s t : PS} {x : ByteArray} (h : Adv s t) (hx : seesOneF x t = true) : Adv s t.take := h.trans (take_adv (one_kind hx))
theorem Adv.nd {s t : PS} {x : ByteArray} (h : Adv s t) : Adv s (needsF x t) := h.trans (needs_adv x t)
theorem Adv.fl2 {s t : PS} (h : Adv s t) : Adv s (t.fail 2) := h.trans (fail_adv t (by decide))
theorem Adv.by {T : Type} {s t : PS} {f : PS → T × PS} (h : Adv s t) (hf : ∀ s, Adv s (f s).2) : Adv s (f t).2 := h.trans (hf t)
theorem name_adv (s : PS) : Adv s (nameF s).2 := by
  unfold nameF
  split
  · rename_i h; exact take_adv (by rw [h]; decide)
  · exact fail_adv s (by decide)
theorem mem_adv (s : PS) : Adv s (memF s).2 := by
  unfold memF
  split
  · rename_i h; exact take_adv (by rcases h with h | h <;> (rw [h]; decide))
  · exact fail_adv s (by decide)
theorem key_adv (s : PS) : Adv s (keyF s).2 := by
  unfold keyF
  split
  · rename_i h; exact take_adv (by rcases h with h | h | h <;> (rw [h]; decide))
  · split
    · rename_i h; exact take_adv (by rw [h]; decide)
    · exact fail_adv s (by decide)
theorem opt_adv (s : PS) : Adv s (optF s).2 := by
  unfold optF
  split
  · exact Adv.refl s
  · exact name_adv s
theorem more_adv {T : Type} {el : PS → T × PS} (hel : ∀ s, Adv s (el s).2) : ∀ f s, Adv s (moreF el f s).2
  | 0, s => Adv.refl s
  | f + 1, s => by
    unfold moreF
    split
    · rename_i h; exact (((Adv.refl s).tk h).by hel).trans (more_adv hel f _)
    · exact Adv.refl s
theorem list_adv {T : Type} {el : PS → T × PS} (hel : ∀ s, Adv s (el s).2) (x : ByteArray) (s : PS) : Adv s (listF x el s).2 := by
  unfold listF
  split
  · rename_i h; exact (Adv.refl s).tk h
  · exact ((hel s).trans (more_adv hel _ _)).nd
structure LowA (L : Low) : Prop where
  ex : ∀ s, Adv s (L.ex s).2
  st : ∀ s, Adv s (L.st s).2
  un : ∀ s, Adv s (L.un s).2
  pr : ∀ s, Prog s (L.st s).2
theorem binl_adv {f : PS → Tree × PS} (hf : ∀ s, Adv s (f s).2) (lev : Nat) : ∀ k l s, Adv s (binLoop lev f k l s).2
  | 0, l, s => Adv.refl s
  | k + 1, l, s => by
    unfold binLoop
    split
    · rename_i h; exact (((Adv.refl s).tk1 h).by hf).trans (binl_adv hf lev k _ _)
    · exact Adv.refl s
theorem bin_adv {L : Low} (h : LowA L) : ∀ n s, Adv s (binF L n s).2
  | 0, s => h.un s
  | n + 1, s => by
    unfold binF
    exact (bin_adv h n s).trans (binl_adv (bin_adv h n) _ _ _ _)
theorem cond_adv {L : Low} (h : LowA L) (s : PS) : Adv s (condF L s).2 := by
  unfold condF
  simp only
  split
  · rename_i hs; exact (((((bin_adv h 6 s).tk hs).by h.ex).nd).by h.ex)
  · exact bin_adv h 6 s
theorem ex_adv {L : Low} (h : LowA L) (s : PS) : Adv s (exF L s).2 := by
  unfold exF
  simp only
  split
  · refine Adv.trans (Adv.nd ?_) (h.ex _)
    split
    · exact (cond_adv h s).fl2
    · exact cond_adv h s
  · exact cond_adv h s
theorem membs_adv {L : Low} (h : LowA L) : ∀ f n s, Adv s (membersF L f n s).2
  | 0, n, s => Adv.refl s
  | f + 1, n, s => by
    unfold membersF
    split
    · rename_i hs; exact (((Adv.refl s).tk hs).by mem_adv).trans (membs_adv h f _ _)
    · split
      · rename_i hs; exact ((((Adv.refl s).tk hs).by h.ex).nd).trans (membs_adv h f _ _)
      · exact Adv.refl s
theorem memb_adv {L : Low} (h : LowA L) (n : Tree) (s : PS) : Adv s (membF L n s).2 := membs_adv h _ _ _
theorem called_adv {L : Low} (h : LowA L) (k : Int) (f : Tree) (s : PS) : Adv s (calledF L k f s).2 := by
  unfold calledF
  exact (needs_adv _ s).trans (list_adv h.ex _ _)
theorem stmts_adv {L : Low} (h : LowA L) (fin : PS → Bool) : ∀ f s, Adv s (stmtsF L fin f s).2
  | 0, s => Adv.refl s
  | f + 1, s => by
    unfold stmtsF
    split
    · exact Adv.refl s
    · split
      · exact Adv.refl s
      · exact (h.st s).trans (stmts_adv h fin f _)
theorem block_adv {L : Low} (h : LowA L) (s : PS) : Adv s (blockF L s).2 := by
  unfold blockF
  exact ((needs_adv _ s).trans (stmts_adv h _ _ _)).nd
theorem block_prog {L : Low} (h : LowA L) (s : PS) : Prog s (blockF L s).2 := by
  unfold blockF
  exact (needs_prog _ s).adv (needs_adv _ s) ((stmts_adv h _ _ _).nd)
theorem paren_adv {L : Low} (h : LowA L) (s : PS) : Adv s (parenF L s).2 := by
  unfold parenF
  exact ((needs_adv _ s).by h.ex).nd
theorem func_adv {L : Low} (h : LowA L) (n : ByteArray) (s : PS) : Adv s (funcF L n s).2 := by
  unfold funcF
  exact ((needs_adv _ s).trans (list_adv name_adv _ _)).by (block_adv h)
theorem pair_adv {L : Low} (h : LowA L) (k : Tree) (s : PS) : Adv s (pairF L k s).2 := by
  unfold pairF
  exact (needs_adv _ s).by h.ex
theorem get_adv {L : Low} (h : LowA L) (s : PS) : Adv s (getF L s).2 := by
  unfold getF
  exact (((key_adv s).nd).nd).by (block_adv h)
theorem set_adv {L : Low} (h : LowA L) (s : PS) : Adv s (setF L s).2 := by
  unfold setF
  exact ((((key_adv s).nd).by name_adv).nd).by (block_adv h)
theorem elem_adv {L : Low} (h : LowA L) (s : PS) : Adv s (elemF L s).2 := by
  unfold elemF
  simp only
  split
  · rename_i hs; exact ((((Adv.refl s).tk hs).by h.ex).nd).trans (pair_adv h _ _)
  · split
    · split
      · exact (key_adv s).by (get_adv h)
      · split
        · exact (key_adv s).by (set_adv h)
        · exact (key_adv s).trans (pair_adv h _ _)
    · exact (key_adv s).trans (pair_adv h _ _)
theorem lit_adv (s : PS) : Adv s (litF s).2 := by
  unfold litF
  split
  · rename_i hs; exact (Adv.refl s).tk hs
  split
  · rename_i hs; exact (Adv.refl s).tk hs
  split
  · rename_i hs; exact (Adv.refl s).tk hs
  split
  · rename_i hs; exact (Adv.refl s).tk hs
  split
  · rename_i hs; exact (Adv.refl s).tk hs
  · exact fail_adv s (by decide)
theorem prim_adv {L : Low} (h : LowA L) (s : PS) : Adv s (primF L s).2 := by
  unfold primF
  split
  · rename_i h; exact take_adv (by rw [h]; decide)
  split
  · rename_i h; exact take_adv (by rw [h]; decide)
  split
  · rename_i h; exact take_adv (by rw [h]; decide)
  split
  · exact paren_adv h s
  split
  · rename_i hs; exact ((Adv.refl s).tk hs).trans (list_adv h.ex _ _)
  split
  · rename_i hs; exact ((Adv.refl s).tk hs).trans (list_adv (elem_adv h) _ _)
  split
  · rename_i hs; exact (((Adv.refl s).tk hs).by opt_adv).trans (func_adv h (optF s.take).1 (optF s.take).2)
  · exact lit_adv s
theorem base_adv {L : Low} (h : LowA L) (s : PS) : Adv s (baseF L s).2 := by
  unfold baseF
  split
  · rename_i hs; exact ((((Adv.refl s).tk hs).by (prim_adv h)).trans (memb_adv h _ _)).trans (called_adv h _ _ _)
  · exact prim_adv h s
theorem calll_adv {L : Low} (h : LowA L) : ∀ f n s, Adv s (callLoop L f n s).2
  | 0, n, s => Adv.refl s
  | f + 1, n, s => by
    unfold callLoop
    split
    · exact ((called_adv h _ _ _).trans (memb_adv h _ _)).trans (calll_adv h f _ _)
    · exact Adv.refl s
theorem chain_adv {L : Low} (h : LowA L) (s : PS) : Adv s (chainF L s).2 := by
  unfold chainF
  exact ((base_adv h s).trans (memb_adv h _ _)).trans (calll_adv h _ _ _)
theorem un_adv {L : Low} (h : LowA L) (s : PS) : Adv s (unF L s).2 := by
  unfold unF
  split
  · rename_i hs
    simp only
    split
    · exact (((Adv.refl s).tk1 hs).by h.un).fl2
    · exact ((Adv.refl s).tk1 hs).by h.un
  · exact chain_adv h s
theorem let_adv {L : Low} (h : LowA L) (s : PS) : Adv s (letF L s).2 := by
  unfold letF
  simp only
  split
  · rename_i hs; exact ((name_adv s).tk hs).by h.ex
  · exact name_adv s
theorem const_adv {L : Low} (h : LowA L) (s : PS) : Adv s (constF L s).2 := by
  unfold constF
  exact ((name_adv s).nd).by h.ex
theorem simp_adv {L : Low} (h : LowA L) (s : PS) : Adv s (simpF L s).2 := by
  unfold simpF
  split
  · exact Adv.refl s
  split
  · rename_i hs; exact ((Adv.refl s).tk hs).by (let_adv h)
  split
  · rename_i hs; exact ((Adv.refl s).tk hs).by (const_adv h)
  split
  · rename_i hs
    split
    · exact (Adv.refl s).tk hs
    · exact ((Adv.refl s).tk hs).by h.ex
  split
  · rename_i hs; exact ((Adv.refl s).tk hs).by h.ex
  split
  · rename_i hs; exact (Adv.refl s).tk hs
  split
  · rename_i hs; exact (Adv.refl s).tk hs
  · exact h.ex s
theorem choice_adv {L : Low} (h : LowA L) (s : PS) : Adv s (choiceF L s).2 := by
  unfold choiceF
  simp only
  split
  · rename_i hs; exact (((paren_adv h s).by h.st).tk hs).by h.st
  · exact (paren_adv h s).by h.st
theorem hand_adv {L : Low} (h : LowA L) (s : PS) : Adv s (handF L s).2 := by
  unfold handF
  exact (((needs_adv _ s).by name_adv).nd).by (block_adv h)
theorem try_adv {L : Low} (h : LowA L) (s : PS) : Adv s (tryF L s).2 := by
  unfold tryF
  simp only
  split
  · rename_i h1
    split
    · rename_i h2; exact ((((block_adv h s).tk h1).by (hand_adv h)).tk h2).by (block_adv h)
    · exact ((block_adv h s).tk h1).by (hand_adv h)
  · split
    · rename_i h2; exact ((block_adv h s).tk h2).by (block_adv h)
    · exact (block_adv h s).fl2
theorem st_adv {L : Low} (h : LowA L) (s : PS) : Adv s (stF L s).2 := by
  unfold stF
  split
  · exact block_adv h s
  split
  · rename_i hs; exact (((Adv.refl s).tk hs).by name_adv).trans (func_adv h (nameF s.take).1 (nameF s.take).2)
  split
  · rename_i hs; exact ((Adv.refl s).tk hs).by (choice_adv h)
  split
  · rename_i hs; exact (((Adv.refl s).tk hs).by (paren_adv h)).by h.st
  split
  · rename_i hs; exact ((Adv.refl s).tk hs).by (try_adv h)
  · exact (simp_adv h s).nd
theorem st_prog {L : Low} (h : LowA L) (s : PS) : Prog s (stF L s).2 := by
  unfold stF
  split
  · exact block_prog h s
  split
  · rename_i hs; exact (take_prog (sees_kind hs)).adv (take_adv (sees_kind hs)) ((name_adv s.take).trans (func_adv h (nameF s.take).1 (nameF s.take).2))
  split
  · rename_i hs; exact (take_prog (sees_kind hs)).adv (take_adv (sees_kind hs)) (choice_adv h _)
  split
  · rename_i hs; exact (take_prog (sees_kind hs)).adv (take_adv (sees_kind hs)) ((paren_adv h _).by h.st)
  split
  · rename_i hs; exact (take_prog (sees_kind hs)).adv (take_adv (sees_kind hs)) (try_adv h _)
  · exact Prog.after (simp_adv h s) (needs_prog _ _) (needs_adv _ _)
theorem lowF_zero : lowF 0 = ⟨fun s => (zeroT, s.fail 4), fun s => (zeroT, s.fail 4), fun s => (zeroT, s.fail 4)⟩ := rfl
theorem lowF_succ (r : Nat) : lowF (r + 1) = ⟨exF (lowF r), stF (lowF r), unF (lowF r)⟩ := rfl
theorem fail4 (s : PS) : Adv s (s.fail 4) := fail_adv s (by decide)
theorem fail4p (s : PS) : Prog s (s.fail 4) := fail_prog s (by decide)
theorem low_zero : LowA (lowF 0) := LowA.mk fail4 fail4 fail4 fail4p
theorem low_succ {L : Low} (h : LowA L) : LowA ⟨exF L, stF L, unF L⟩ := by
  have h1 := ex_adv h
  have h2 := st_adv h
  have h3 := un_adv h
  have h4 := st_prog h
  generalize exF L = a at h1 ⊢
  generalize stF L = b at h2 h4 ⊢
  generalize unF L = c at h3 ⊢
  exact ⟨h1, h2, h3, h4⟩
theorem low_adv (r : Nat) : LowA (lowF r) := by
  induction r with
  | zero => exact low_zero
  | succ r ih => rw [lowF_succ]; exact low_succ ih
end Go.Proofs.YtinoaajohkafmaaGreat.Pa

/-
  Plain mathematics: which trees are programs, and what is written of them; nothing here speaks of the program.
-/
namespace Go.Proofs.YtinoaajohkafmaaGreat.Pr
open Go.Proofs.YtinoaajohkafmaaGreat.Lx Go.Proofs.YtinoaajohkafmaaGreat.Pa Go.Proofs.YtinoaajohkafmaaGreat.Uni Go.Proofs.YtinoaajohkafmaaGreat.Nums
set_option linter.unusedVariables false
set_option linter.unusedSimpArgs false
def isUp (c : UInt8) : Bool := 65 ≤ c && c ≤ 90
def emptyB (t : ByteArray) : Bool := t.data.toList.isEmpty
def rtB (s : ByteArray) : Bool := (pts s).isSome && decide ((units s).length ≤ 10000)
def nameL : By → Bool
  | [] => false
  | c :: r => leadN c.toNat && r.all fun c => contN c.toNat
def nameB (t : ByteArray) : Bool := nameL t.data.toList && decide (t.size ≤ 1048576)
def varB (t : ByteArray) : Bool := nameB t && decide (wordF t.data.toList = 0)
def propB (t : ByteArray) : Bool := nameB t && decide (wordF t.data.toList < 2)
def unL : List By := [[33], [45], [116, 121, 112, 101, 111, 102], [100, 101, 108, 101, 116, 101]]
def binL : List By := [[61, 61, 61], [33, 61, 61], [60], [62], [60, 61], [62, 61], [105, 110], [43], [45], [42], [47], [37]]
def kindB (p : UInt8) (k : Int) : Bool :=
  if p = 80 then decide (k = 44)
  else if p = 83 then decide (30 ≤ k ∧ k ≤ 43 ∧ k ≠ 39)
  else if p = 66 then decide (k = 40)
  else if p = 67 then decide (k = 39)
  else if p = 65 then decide (1 ≤ k ∧ k ≤ 24 ∧ k ≠ 11 ∧ k ≠ 12 ∧ k ≠ 13)
  else if p = 84 then decide (k = 8 ∨ k = 15 ∨ k = 16)
  else if p = 77 then decide (k = 15 ∨ k = 16)
  else if p = 68 then decide (k = 11 ∨ k = 12 ∨ k = 13)
  else decide (k = 14)
def textB (p : UInt8) (k : Int) (t : ByteArray) : Bool :=
  if k = 2 ∨ k = 12 ∨ k = 13 then rtB t
  else if k = 8 ∨ k = 30 ∨ k = 31 ∨ k = 39 then varB t
  else if k = 14 then (if p = 70 then varB t else if p = 65 then emptyB t || varB t else emptyB t)
  else if k = 15 then propB t
  else if k = 19 then unL.contains t.data.toList
  else if k = 20 then binL.contains t.data.toList
  else emptyB t
def namesB (p : UInt8) (k : Int) (ns : List ByteArray) : Bool :=
  if k ≠ 14 ∨ p = 71 then ns.isEmpty else if p = 72 ∧ ns.length ≠ 1 then false else ns.all varB
def numB (k n : Int) : Bool :=
  if k = 1 then decide (0 ≤ n ∧ n ≤ 9007199254740991) else if k = 38 then decide (1 ≤ n ∧ n ≤ 3) else decide (n = 0)
def openT : Tree → Bool
  | .mk k _ _ _ [_, z] => if k = 34 then true else if k = 35 then openT z else false
  | .mk k _ _ _ [_, _, z] => if k = 34 then openT z else false
  | .mk k _ _ _ _ => decide (k = 34)
def elseL : List Tree → Bool
  | [_, y, _] => !openT y
  | _ => true
def elseB (k : Int) (ks : List Tree) : Bool := if k = 34 then elseL ks else true
def repB (s : By) : Nat → By
  | 0 => []
  | n + 1 => s ++ repB s n
def listB (c : UInt8) : Nat → By
  | 0 => []
  | 1 => [c]
  | n + 2 => c :: 44 :: 32 :: listB c (n + 1)
def braceB (n : Nat) : By := [123] ++ repB [32, 83] n ++ [32, 125]
def funL (p : UInt8) (nk : Nat) : By :=
  if p = 71 ∨ p = 72 then [40, 64, 41, 32] ++ braceB nk else if p = 70 then [102, 117, 110, 99, 116, 105, 111, 110, 32, 35] ++ ([40, 64, 41, 32] ++ braceB nk) else [40, 102, 117, 110, 99, 116, 105, 111, 110, 32, 35] ++ ([40, 64, 41, 32] ++ braceB nk) ++ [41]
def exL (k : Int) (t : By) (nk : Nat) (fk : Int) : By :=
  if k = 1 ∨ k = 2 then [36] else if k = 3 then [116, 114, 117, 101] else if k = 4 then [102, 97, 108, 115, 101] else if k = 5 then [110, 117, 108, 108] else if k = 6 then [117, 110, 100, 101, 102, 105, 110, 101, 100] else if k = 7 then [116, 104, 105, 115]
  else if k = 8 then [35] else if k = 9 then [91] ++ listB 65 nk ++ [93] else if k = 10 then [40, 123] ++ listB 68 nk ++ [125, 41]
  else if k = 11 then (if nk ≠ 0 ∧ fk = 2 then [65, 58, 32, 65] else [91, 65, 93, 58, 32, 65]) else if k = 12 then [103, 101, 116, 32, 36, 71] else if k = 13 then [115, 101, 116, 32, 36, 72]
  else if k = 15 then [40, 65, 46, 35, 41] else if k = 16 then [40, 65, 91, 65, 93, 41] else if k = 17 then [40, 65, 40] ++ listB 65 (nk - 1) ++ [41, 41] else if k = 18 then [40, 110, 101, 119, 32, 65, 40] ++ listB 65 (nk - 1) ++ [41, 41]
  else if k = 19 then (if t = [100, 101, 108, 101, 116, 101] then [40, 35, 32, 77, 41] else if t = [116, 121, 112, 101, 111, 102] then [40, 35, 32, 65, 41] else [40, 35, 65, 41])
  else if k = 20 then [40, 65, 32, 35, 32, 65, 41] else if k = 21 then [40, 65, 32, 38, 38, 32, 65, 41] else if k = 22 then [40, 65, 32, 124, 124, 32, 65, 41] else if k = 23 then [40, 65, 32, 63, 32, 65, 32, 58, 32, 65, 41] else if k = 24 then [40, 84, 32, 61, 32, 65, 41] else []
def tryL (n : Int) : By := [116, 114, 121, 32, 66] ++ ((if n % 2 = 1 then [32, 67] else []) ++ (if n / 2 % 2 = 1 then [32, 102, 105, 110, 97, 108, 108, 121, 32, 66] else []))
def stL (k n : Int) (nk : Nat) : By :=
  if k = 30 then (if nk = 0 then [108, 101, 116, 32, 35, 59] else [108, 101, 116, 32, 35, 32, 61, 32, 65, 59]) else if k = 31 then [99, 111, 110, 115, 116, 32, 35, 32, 61, 32, 65, 59] else if k = 32 then [70] else if k = 33 then [65, 59]
  else if k = 34 then (if nk < 3 then [105, 102, 32, 40, 65, 41, 32, 83] else [105, 102, 32, 40, 65, 41, 32, 83, 32, 101, 108, 115, 101, 32, 83]) else if k = 35 then [119, 104, 105, 108, 101, 32, 40, 65, 41, 32, 83] else if k = 36 then (if nk = 0 then [114, 101, 116, 117, 114, 110, 59] else [114, 101, 116, 117, 114, 110, 32, 65, 59])
  else if k = 37 then [116, 104, 114, 111, 119, 32, 65, 59] else if k = 38 then tryL n else if k = 39 then [99, 97, 116, 99, 104, 32, 40, 35, 41, 32, 66] else if k = 40 then braceB nk else if k = 41 then [98, 114, 101, 97, 107, 59]
  else if k = 42 then [99, 111, 110, 116, 105, 110, 117, 101, 59] else if k = 43 then [59] else if k = 44 then repB [83, 10] nk else []
def headK : List Tree → Int
  | [] => 0
  | t :: _ => t.kind
def layB (p : UInt8) (k n : Int) (t : By) (nk : Nat) (fk : Int) : By :=
  if k = 14 then funL p nk else if k < 30 then exL k t nk fk else stL k n nk
def hereB (p : UInt8) (k n : Int) (t : ByteArray) (ns : List ByteArray) (ks : List Tree) : Bool :=
  kindB p k && (textB p k t && (namesB p k ns && (numB k n && elseB k ks)))
def placesB (p : UInt8) (k n : Int) (t : By) (nk : Nat) (fk : Int) : By := (layB p k n t nk fk).filter isUp
mutual
def okT (p : UInt8) : Tree → Bool
  | .mk k n t ns ks => hereB p k n t ns ks && okKs (placesB p k n t.data.toList ks.length (headK ks)) ks
def okKs : By → List Tree → Bool
  | [], [] => true
  | p :: ps, t :: ts => okT p t && okKs ps ts
  | _, _ => false
end
end Go.Proofs.YtinoaajohkafmaaGreat.Pr

/-
  Plain mathematics: early errors, as the program finds them and as the chapter tells them; both agree on trees that are right.
-/
namespace Go.Proofs.YtinoaajohkafmaaGreat.Ey
open Go.Proofs.YtinoaajohkafmaaGreat.Lx Go.Proofs.YtinoaajohkafmaaGreat.Pa Go.Proofs.YtinoaajohkafmaaGreat.Pr
set_option linter.unusedVariables false
set_option linter.unusedSimpArgs false
def misB (k : Int) (f l b : Bool) : Bool := if k = 36 then !f else if k = 41 ∨ k = 42 then !l else if k = 30 ∨ k = 31 ∨ k = 32 then b else false
def insf (k : Int) (f : Bool) : Bool := if k = 14 then true else f
def insl (k : Int) (l : Bool) : Bool := if k = 14 then false else if k = 35 then true else l
def insb (k : Int) : Bool := decide (k = 34 ∨ k = 35)
def headT : List Tree → ByteArray
  | [] => noS
  | t :: _ => t.text
def decl1 (t : Tree) : List ByteArray := if t.kind = 30 ∨ t.kind = 31 then [t.text] else if t.kind = 32 then [headT t.kids] else []
def declN (ks : List Tree) : List ByteArray := ks.flatMap decl1
def hasB (l : List ByteArray) (s : ByteArray) : Bool := l.any fun x => decide (x = s)
theorem hasB_snoc (l : List ByteArray) (a s : ByteArray) : hasB (l ++ [a]) s = (hasB l s || decide (a = s)) := by simp [hasB]
def dupF : List ByteArray → List ByteArray → Bool
  | _, [] => false
  | seen, a :: r => hasB seen a || dupF (seen ++ [a]) r
def scopeB (k : Int) : Bool := decide (k = 14 ∨ k = 40 ∨ k = 44)
def twiceB (k : Int) (ns : List ByteArray) (ks : List Tree) : Bool := scopeB k && dupF [] (ns ++ declN ks)
mutual
def badT (f l b : Bool) : Tree → Bool
  | .mk k _ _ ns ks => misB k f l b || (twiceB k ns ks || badL (insf k f) (insl k l) (insb k) ks)
def badL (f l b : Bool) : List Tree → Bool
  | [] => false
  | t :: r => badT f l b t || badL f l b r
end
theorem okKs_cons {p : UInt8} {ps : By} {ks : List Tree} (h : okKs (p :: ps) ks = true) : ∃ t r, ks = t :: r ∧ okT p t = true ∧ okKs ps r = true := by
  cases ks with
  | nil => simp [okKs] at h
  | cons t r => simp [okKs] at h; exact ⟨t, r, rfl, h.1, h.2⟩
theorem okT_parts {p : UInt8} {k n : Int} {t : ByteArray} {ns : List ByteArray} {ks : List Tree} (h : okT p (.mk k n t ns ks) = true) : namesB p k ns = true ∧ okKs (placesB p k n t.data.toList ks.length (headK ks)) ks = true := by
  unfold okT hereB at h
  simp only [Bool.and_eq_true] at h
  exact ⟨h.1.2.2.1, h.2⟩
def checkN (t : Tree) : Int := if okT 80 t then (if badT false false false t then 2 else 0) else 1
end Go.Proofs.YtinoaajohkafmaaGreat.Ey

/-
  lex.Tokens: the walk.
-/
namespace Go.Proofs.YtinoaajohkafmaaGreat.Lx
open Go Go.RowKit Go.Maps Go.Proofs.YtinoaajohkafmaaGreat.Uni
set_option linter.unusedVariables false
set_option linter.unusedSimpArgs false
attribute [local go_sem ↓] ldK stK alK bdK bsK
attribute [local irreducible] kcs
attribute [local go_sem] run_alK run_bdK0 run_bdKs run_bdKn run_bdKe run_bsK
end Go.Proofs.YtinoaajohkafmaaGreat.Lx
