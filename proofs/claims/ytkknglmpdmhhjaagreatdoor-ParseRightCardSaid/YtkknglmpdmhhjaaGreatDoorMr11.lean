/-
  Texts of this seat in build order: PrRight, PrParse, PrArg.
-/
import Derived.Test.YtkknglmpdmhhjaaGreatDoorMr10
import Derived.Test.YtkknglmpdmhhjaaGreatDoorMg33
import Derived.Test.YtkknglmpdmhhjaaGreatDoorMg35
import Derived.Laws.BytesArg
/-
  Plain mathematics: every tree that the parser gives without an error is one that may be.
-/
namespace Go.Proofs.YtkknglmpdmhhjaaGreatDoor.Pr
open Go.Proofs.YtkknglmpdmhhjaaGreatDoor.Pa Go.Proofs.YtkknglmpdmhhjaaGreatDoor.Uni Go.Proofs.YtkknglmpdmhhjaaGreatDoor.Nums
open Go.Proofs.YtkknglmpdmhhjaaGreatDoor.Lx hiding nameF
set_option linter.unusedVariables false
set_option linter.unusedSimpArgs false

theorem eqT_iff {x y : ByteArray} : eqT x y = true ↔ x.data.toList = y.data.toList := by unfold eqT; simp
theorem ok77 (t : Tree) : okT 77 t = (memberB t && okT 65 t) := by
  obtain ⟨k, n, tx, ns, ks⟩ := t
  unfold okT memberB Tree.kind
  by_cases h : k = 15
  · subst h; simp [hereB, kindB, textB, namesB, numB, placesB, layB]
  by_cases h : k = 16
  · subst h; simp [hereB, kindB, textB, namesB, numB, placesB, layB]
  simp [hereB, kindB, *]
theorem ok84 (t : Tree) : okT 84 t = ((t.kind == 8 || memberB t) && okT 65 t) := by
  obtain ⟨k, n, tx, ns, ks⟩ := t
  unfold okT memberB Tree.kind
  by_cases h : k = 15
  · subst h; simp [hereB, kindB, textB, namesB, numB, placesB, layB]
  by_cases h : k = 16
  · subst h; simp [hereB, kindB, textB, namesB, numB, placesB, layB]
  by_cases h : k = 8
  · subst h; simp [hereB, kindB, textB, namesB, numB, placesB, layB]
  simp [hereB, kindB, *]
theorem lev_in {lev : Nat} {t : ByteArray} (h : hasF (levelT lev) t = true) : t.data.toList = [124, 124] ∨ t.data.toList = [38, 38] ∨ binL.contains t.data.toList = true := by
  unfold hasF at h
  rcases lev with _ | _ | _ | _ | _ | n
  · rw [show partsF [] (levelT 0).data.toList = [[124, 124]] from by decide] at h; simp at h; exact .inl h
  · rw [show partsF [] (levelT 1).data.toList = [[38, 38]] from by decide] at h; simp at h; exact .inr (.inl h)
  · rw [show partsF [] (levelT 2).data.toList = [[61, 61, 61], [33, 61, 61]] from by decide] at h; right; right; simp at h; rcases h with h | h <;> (rw [h]; decide)
  · rw [show partsF [] (levelT 3).data.toList = [[60], [62], [60, 61], [62, 61], [105, 110]] from by decide] at h; right; right; simp at h; rcases h with h | h | h | h | h <;> (rw [h]; decide)
  · rw [show partsF [] (levelT 4).data.toList = [[43], [45]] from by decide] at h; right; right; simp at h; rcases h with h | h <;> (rw [h]; decide)
  · rw [show partsF [] (levelT (n + 5)).data.toList = [[42], [47], [37]] from by show partsF [] (levelT 5).data.toList = _; decide] at h; right; right; simp at h; rcases h with h | h | h <;> (rw [h]; decide)
theorem pre_in {t : ByteArray} (h : hasF prefixT t = true) : unL.contains t.data.toList = true := by
  unfold hasF at h
  rw [show partsF [] prefixT.data.toList = unL from by decide] at h
  exact h
theorem op_right {lev : Nat} {t : ByteArray} {a b : Tree} (h : hasF (levelT lev) t = true) (ha : okT 65 a = true) (hb : okT 65 b = true) : okT 65 (opF t a b) = true := by
  unfold opF
  split
  · rw [ok_22, ha, hb]; rfl
  · rename_i h1
    split
    · rw [ok_21, ha, hb]; rfl
    · rename_i h2
      rw [ok_bin, ha, hb]
      rcases lev_in h with h | h | h
      · exact absurd (eqT_iff.2 h) h1
      · exact absurd (eqT_iff.2 h) h2
      · rw [h]; rfl
theorem all_ok {p : UInt8} {ts : List Tree} (h : ∀ t ∈ ts, okT p t = true) : allT p ts = true := by
  unfold allT
  rw [List.all_eq_true]
  exact h
theorem more_right {T : Type} {el : PS → T × PS} {P : T → Prop} (ha : ∀ s, Adv s (el s).2) (hr : ∀ s, OkS s → (el s).2.fault = 0 → P (el s).1) : ∀ f s, OkS s → (moreF el f s).2.fault = 0 → ∀ x ∈ (moreF el f s).1, P x
  | 0, s, _, _ => by intro x hx; simp [moreF] at hx
  | f + 1, s, hs, hf => by
    unfold moreF at hf ⊢
    split
    · rename_i h
      rw [if_pos h] at hf
      simp only at hf ⊢
      have ht := ((Adv.refl s).tk h).ok hs
      have h1 := (ha s.take).ok ht
      have b1 := (more_adv ha f (el s.take).2).back h1 hf
      intro x hx
      rcases List.mem_cons.1 hx with rfl | hx
      · exact hr _ ht b1
      · exact more_right ha hr f _ h1 hf x hx
    · intro x hx; simp at hx
theorem list_right {T : Type} {el : PS → T × PS} {P : T → Prop} (ha : ∀ s, Adv s (el s).2) (hr : ∀ s, OkS s → (el s).2.fault = 0 → P (el s).1) (fin : ByteArray) (s : PS) (hs : OkS s) (hf : (listF fin el s).2.fault = 0) : ∀ x ∈ (listF fin el s).1, P x := by
  unfold listF at hf ⊢
  split
  · intro x hx; simp at hx
  · rename_i h
    rw [if_neg h] at hf
    simp only at hf ⊢
    have h1 := (ha s).ok hs
    have a2 := more_adv ha (el s).2.left.length (el s).2
    have b2 := (needs_adv fin _).back (a2.ok h1) hf
    have b1 := a2.back h1 b2
    intro x hx
    rcases List.mem_cons.1 hx with rfl | hx
    · exact hr _ hs b1
    · exact more_right ha hr _ _ h1 b2 x hx
def elseW : ByteArray := ⟨#[101, 108, 115, 101]⟩
structure LowR (L : Low) : Prop where
  a : LowA L
  ex : ∀ s, OkS s → (L.ex s).2.fault = 0 → okT 65 (L.ex s).1 = true
  st : ∀ s, OkS s → (L.st s).2.fault = 0 → okT 83 (L.st s).1 = true ∧ (openT (L.st s).1 = true → seesF elseW (L.st s).2 = false)
  un : ∀ s, OkS s → (L.un s).2.fault = 0 → okT 65 (L.un s).1 = true
theorem binl_right {f : PS → Tree × PS} (ha : ∀ s, Adv s (f s).2) (hr : ∀ s, OkS s → (f s).2.fault = 0 → okT 65 (f s).1 = true) (lev : Nat) : ∀ k l s, OkS s → okT 65 l = true → (binLoop lev f k l s).2.fault = 0 → okT 65 (binLoop lev f k l s).1 = true
  | 0, l, s, _, hl, _ => hl
  | k + 1, l, s, hs, hl, hf => by
    unfold binLoop at hf ⊢
    split
    · rename_i h
      rw [if_pos h] at hf
      simp only at hf ⊢
      have ht := ((Adv.refl s).tk1 h).ok hs
      have h1 := (ha s.take).ok ht
      have b1 := (binl_adv ha lev k _ _).back h1 hf
      unfold seesOneF at h
      simp at h
      exact binl_right ha hr lev k _ _ h1 (op_right h.2 hl (hr _ ht b1)) hf
    · exact hl
theorem bin_right {L : Low} (h : LowR L) : ∀ n s, OkS s → (binF L n s).2.fault = 0 → okT 65 (binF L n s).1 = true
  | 0, s, hs, hf => h.un s hs hf
  | n + 1, s, hs, hf => by
    unfold binF at hf ⊢
    simp only at hf ⊢
    have h1 := (bin_adv h.a n s).ok hs
    exact binl_right (bin_adv h.a n) (bin_right h n) _ _ _ _ h1 (bin_right h n s hs ((binl_adv (bin_adv h.a n) _ _ _ _).back h1 hf)) hf
theorem cond_right {L : Low} (h : LowR L) (s : PS) (hs : OkS s) (hf : (condF L s).2.fault = 0) : okT 65 (condF L s).1 = true := by
  unfold condF at hf ⊢
  simp only at hf ⊢
  have h1 := (bin_adv h.a 6 s).ok hs
  split
  · rename_i hc
    rw [if_pos hc] at hf
    simp only at hf ⊢
    have at1 := (Adv.refl (binF L 6 s).2).tk hc
    have h2 := at1.ok h1
    have ay := h.a.ex (binF L 6 s).2.take
    have h3 := ay.ok h2
    have an := needs_adv ⟨#[58]⟩ (L.ex (binF L 6 s).2.take).2
    have h4 := an.ok h3
    have az := h.a.ex (needsF ⟨#[58]⟩ (L.ex (binF L 6 s).2.take).2)
    have b4 := az.back h4 hf
    have b3 := an.back h3 b4
    have b2 := ay.back h2 b3
    have b1 := at1.back h1 b2
    rw [ok_cond, bin_right h 6 s hs b1, h.ex _ h2 b3, h.ex _ h4 hf]
    rfl
  · rename_i hc
    rw [if_neg hc] at hf
    exact bin_right h 6 s hs hf
theorem ex_right {L : Low} (h : LowR L) (s : PS) (hs : OkS s) (hf : (exF L s).2.fault = 0) : okT 65 (exF L s).1 = true := by
  unfold exF at hf ⊢
  simp only at hf ⊢
  have h1 := (cond_adv h.a s).ok hs
  split
  · rename_i hc
    rw [if_pos hc] at hf
    simp only at hf ⊢
    by_cases hk : (condF L s).1.kind ≠ 8 ∧ memberB (condF L s).1 = false
    · rw [if_pos hk] at hf
      have af := fail_adv (condF L s).2 (e := 2) (by decide)
      have an := needs_adv ⟨#[61]⟩ ((condF L s).2.fail 2)
      exact (fail_no (by decide) (an.back (af.ok h1) ((h.a.ex _).back (an.ok (af.ok h1)) hf))).elim
    · rw [if_neg hk] at hf ⊢
      have an := needs_adv ⟨#[61]⟩ (condF L s).2
      have b2 := (h.a.ex _).back (an.ok h1) hf
      have b1 := an.back h1 b2
      rw [ok_set24, ok84, cond_right h s hs b1, h.ex _ (an.ok h1) hf]
      by_cases hk8 : (condF L s).1.kind = 8
      · simp [hk8]
      · have : memberB (condF L s).1 = true := by
          cases hm : memberB (condF L s).1 with
          | true => rfl
          | false => exact absurd ⟨hk8, hm⟩ hk
        simp [this]
  · rename_i hc
    rw [if_neg hc] at hf
    exact cond_right h s hs hf
theorem mem_right (s : PS) (hs : OkS s) (hf : (memF s).2.fault = 0) : propB (memF s).1 = true := by
  unfold memF at hf ⊢
  split
  · rename_i h
    rcases h with h | h
    · have := hs.next.name h
      unfold varB at this
      unfold propB
      simp at this ⊢
      exact ⟨this.1, by rw [this.2]; decide⟩
    · exact hs.next.word h
  · rename_i h
    rw [if_neg h] at hf
    exact (fail_no (by decide) hf).elim
theorem name_right (s : PS) (hs : OkS s) (hf : (nameF s).2.fault = 0) : varB (nameF s).1 = true := by
  unfold nameF at hf ⊢
  split
  · rename_i h
    exact hs.next.name h
  · rename_i h
    rw [if_neg h] at hf
    exact (fail_no (by decide) hf).elim
theorem membs_right {L : Low} (h : LowR L) : ∀ f n s, OkS s → okT 65 n = true → (membersF L f n s).2.fault = 0 → okT 65 (membersF L f n s).1 = true
  | 0, n, s, _, hn, _ => hn
  | f + 1, n, s, hs, hn, hf => by
    unfold membersF at hf ⊢
    split
    · rename_i hc
      rw [if_pos hc] at hf
      simp only at hf ⊢
      have ht := ((Adv.refl s).tk hc).ok hs
      have h1 := (mem_adv s.take).ok ht
      have b1 := (membs_adv h.a f _ _).back h1 hf
      exact membs_right h f _ _ h1 (by rw [ok_memb, mem_right _ ht b1, hn]; rfl) hf
    · rename_i hc
      rw [if_neg hc] at hf
      split
      · rename_i hc2
        rw [if_pos hc2] at hf
        simp only at hf ⊢
        have ht := ((Adv.refl s).tk hc2).ok hs
        have ax := h.a.ex s.take
        have h1 := ax.ok ht
        have an := needs_adv ⟨#[93]⟩ (L.ex s.take).2
        have b2 := (membs_adv h.a f _ _).back (an.ok h1) hf
        have b1 := an.back h1 b2
        exact membs_right h f _ _ (an.ok h1) (by rw [ok_16, hn, h.ex _ ht b1]; rfl) hf
      · exact hn
theorem memb_right {L : Low} (h : LowR L) (n : Tree) (s : PS) (hs : OkS s) (hn : okT 65 n = true) (hf : (membF L n s).2.fault = 0) : okT 65 (membF L n s).1 = true := membs_right h _ n s hs hn hf
theorem called_right {L : Low} (h : LowR L) {k : Int} (hk : k = 17 ∨ k = 18) (n : Tree) (s : PS) (hs : OkS s) (hn : okT 65 n = true) (hf : (calledF L k n s).2.fault = 0) : okT 65 (calledF L k n s).1 = true := by
  unfold calledF at hf ⊢
  simp only at hf ⊢
  have an := needs_adv ⟨#[40]⟩ s
  have := all_ok (list_right h.a.ex h.ex _ _ (an.ok hs) hf)
  rcases hk with rfl | rfl
  · rw [ok_17, hn, this]; rfl
  · rw [ok_18, hn, this]; rfl
theorem stmts_right {L : Low} (h : LowR L) (fin : PS → Bool) : ∀ f s, OkS s → (stmtsF L fin f s).2.fault = 0 → ∀ x ∈ (stmtsF L fin f s).1, okT 83 x = true
  | 0, s, _, _ => by intro x hx; simp [stmtsF] at hx
  | f + 1, s, hs, hf => by
    unfold stmtsF at hf ⊢
    split
    · intro x hx; simp at hx
    · rename_i h0
      rw [if_neg h0] at hf
      split
      · intro x hx; simp at hx
      · rename_i h00
        rw [if_neg h00] at hf
        simp only at hf ⊢
        have h1 := (h.a.st s).ok hs
        have b1 := (stmts_adv h.a fin f _).back h1 hf
        intro x hx
        rcases List.mem_cons.1 hx with rfl | hx
        · exact (h.st _ hs b1).1
        · exact stmts_right h fin f _ h1 hf x hx
theorem block_right {L : Low} (h : LowR L) (s : PS) (hs : OkS s) (hf : (blockF L s).2.fault = 0) : ∃ ks, (blockF L s).1 = node 40 ks ∧ allT 83 ks = true := by
  unfold blockF at hf ⊢
  simp only at hf ⊢
  have h1 := (needs_adv ⟨#[123]⟩ s).ok hs
  have b := (needs_adv ⟨#[125]⟩ _).back ((stmts_adv h.a _ _ _).ok h1) hf
  exact ⟨_, rfl, all_ok (stmts_right h _ _ _ h1 b)⟩
theorem paren_right {L : Low} (h : LowR L) (s : PS) (hs : OkS s) (hf : (parenF L s).2.fault = 0) : okT 65 (parenF L s).1 = true := by
  unfold parenF at hf ⊢
  simp only at hf ⊢
  have h1 := (needs_adv ⟨#[40]⟩ s).ok hs
  exact h.ex _ h1 ((needs_adv ⟨#[41]⟩ _).back ((h.a.ex _).ok h1) hf)
theorem func_right {L : Low} (h : LowR L) (nm : ByteArray) (s : PS) (hs : OkS s) (hf : (funcF L nm s).2.fault = 0) : ∃ ns ks, (funcF L nm s).1 = .mk 14 0 nm ns ks ∧ ns.all varB = true ∧ allT 83 ks = true := by
  unfold funcF at hf ⊢
  simp only at hf ⊢
  have h1 := (needs_adv ⟨#[40]⟩ s).ok hs
  have al := list_adv name_adv ⟨#[41]⟩ (needsF ⟨#[40]⟩ s)
  have h2 := al.ok h1
  have b2 := (block_adv h.a _).back h2 hf
  obtain ⟨ks, hk, hk2⟩ := block_right h _ h2 hf
  refine ⟨_, ks, by rw [hk]; rfl, ?_, hk2⟩
  rw [List.all_eq_true]
  exact list_right name_adv name_right _ _ h1 b2
theorem opt_right (s : PS) (hs : OkS s) (hf : (optF s).2.fault = 0) : (emptyB (optF s).1 || varB (optF s).1) = true := by
  unfold optF at hf ⊢
  split
  · rfl
  · rename_i h
    rw [if_neg h] at hf
    rw [name_right s hs hf, Bool.or_true]
theorem key_right (s : PS) (hs : OkS s) (hf : (keyF s).2.fault = 0) : rtB (keyF s).1 = true := by
  unfold keyF at hf ⊢
  split
  · rename_i h
    rcases h with h | h | h
    · exact rt_name (prop_of_var (hs.next.name h)) (hs.next.len (.inl h))
    · exact rt_name (hs.next.word h) (hs.next.len (.inr h))
    · exact hs.next.str h
  · rename_i h
    rw [if_neg h] at hf
    split
    · rename_i h3
      exact rt_num (hs.next.num h3).1 (hs.next.num h3).2
    · rename_i h3
      rw [if_neg h3] at hf
      exact (fail_no (by decide) hf).elim
theorem pair_right {L : Low} (h : LowR L) (k : Tree) (s : PS) (hk : okT 65 k = true) (hs : OkS s) (hf : (pairF L k s).2.fault = 0) : okT 68 (pairF L k s).1 = true := by
  unfold pairF at hf ⊢
  simp only at hf ⊢
  rw [ok_pair, hk, h.ex _ ((needs_adv ⟨#[58]⟩ s).ok hs) hf]
  rfl
theorem get_right {L : Low} (h : LowR L) (s : PS) (hs : OkS s) (hf : (getF L s).2.fault = 0) : okT 68 (getF L s).1 = true := by
  unfold getF at hf ⊢
  simp only at hf ⊢
  have a1 := key_adv s
  have a2 := needs_adv ⟨#[40]⟩ (keyF s).2
  have a3 := needs_adv ⟨#[41]⟩ (needsF ⟨#[40]⟩ (keyF s).2)
  have h1 := a1.ok hs
  have h2 := a2.ok h1
  have h3 := a3.ok h2
  have b3 := (block_adv h.a _).back h3 hf
  obtain ⟨ks, hk, hk2⟩ := block_right h _ h3 hf
  rw [hk]
  show okT 68 (.mk 12 0 (keyF s).1 [] [node 14 ks]) = true
  rw [ok_get, key_right s hs (a2.back h1 (a3.back h2 b3)), hk2]
  rfl
theorem set_right {L : Low} (h : LowR L) (s : PS) (hs : OkS s) (hf : (setF L s).2.fault = 0) : okT 68 (setF L s).1 = true := by
  unfold setF at hf ⊢
  simp only at hf ⊢
  have a1 := key_adv s
  have a2 := needs_adv ⟨#[40]⟩ (keyF s).2
  have ax := name_adv (needsF ⟨#[40]⟩ (keyF s).2)
  have a3 := needs_adv ⟨#[41]⟩ (nameF (needsF ⟨#[40]⟩ (keyF s).2)).2
  have h1 := a1.ok hs
  have h2 := a2.ok h1
  have hx := ax.ok h2
  have h3 := a3.ok hx
  have b3 := (block_adv h.a _).back h3 hf
  have bx := a3.back hx b3
  have b2 := ax.back h2 bx
  obtain ⟨ks, hk, hk2⟩ := block_right h _ h3 hf
  rw [hk]
  show okT 68 (.mk 13 0 (keyF s).1 [] [.mk 14 0 noS [(nameF (needsF ⟨#[40]⟩ (keyF s).2)).1] ks]) = true
  rw [ok_set, key_right s hs (a2.back h1 b2), name_right _ h2 bx, hk2]
  rfl
theorem elem_right {L : Low} (h : LowR L) (s : PS) (hs : OkS s) (hf : (elemF L s).2.fault = 0) : okT 68 (elemF L s).1 = true := by
  unfold elemF at hf ⊢
  simp only at hf ⊢
  split
  · rename_i hc
    rw [if_pos hc] at hf
    have ht := ((Adv.refl s).tk hc).ok hs
    have ax := h.a.ex s.take
    have h1 := ax.ok ht
    have an := needs_adv ⟨#[93]⟩ (L.ex s.take).2
    have b2 := (pair_adv h.a (L.ex s.take).1 _).back (an.ok h1) hf
    exact pair_right h _ _ (h.ex _ ht (an.back h1 b2)) (an.ok h1) hf
  · rename_i hc
    rw [if_neg hc] at hf
    have h1 := (key_adv s).ok hs
    have hp : (pairF L (.mk 2 0 (keyF s).1 [] []) (keyF s).2).2.fault = 0 → okT 68 (pairF L (.mk 2 0 (keyF s).1 [] []) (keyF s).2).1 = true := fun hf => by
      have b1 := (pair_adv h.a _ _).back h1 hf
      exact pair_right h _ _ (by rw [ok_str]; exact key_right s hs b1) h1 hf
    split
    · rename_i hc2
      rw [if_pos hc2] at hf
      split
      · rename_i hc3
        rw [if_pos hc3] at hf
        exact get_right h _ h1 hf
      · rename_i hc3
        rw [if_neg hc3] at hf
        split
        · rename_i hc4
          rw [if_pos hc4] at hf
          exact set_right h _ h1 hf
        · rename_i hc4
          rw [if_neg hc4] at hf
          exact hp hf
    · rename_i hc2
      rw [if_neg hc2] at hf
      exact hp hf
theorem lit_right (s : PS) (hf : (litF s).2.fault = 0) : okT 65 (litF s).1 = true := by
  unfold litF at hf ⊢
  split
  · exact ok_3
  rename_i h1
  rw [if_neg h1] at hf
  split
  · exact ok_4
  rename_i h1
  rw [if_neg h1] at hf
  split
  · exact ok_5
  rename_i h1
  rw [if_neg h1] at hf
  split
  · exact ok_6
  rename_i h1
  rw [if_neg h1] at hf
  split
  · exact ok_7
  rename_i h1
  rw [if_neg h1] at hf
  exact (fail_no (by decide) hf).elim
theorem prim_right {L : Low} (h : LowR L) (s : PS) (hs : OkS s) (hf : (primF L s).2.fault = 0) : okT 65 (primF L s).1 = true := by
  unfold primF at hf ⊢
  split
  · rename_i hk
    rw [ok_num]
    exact decide_eq_true (hs.next.num hk)
  rename_i h1
  rw [if_neg h1] at hf
  split
  · rename_i hk
    rw [ok_str]
    exact hs.next.str hk
  rename_i h1
  rw [if_neg h1] at hf
  split
  · rename_i hk
    rw [ok_name]
    exact hs.next.name hk
  rename_i h1
  rw [if_neg h1] at hf
  split
  · rename_i hk
    rw [if_pos hk] at hf
    exact paren_right h s hs hf
  rename_i h1
  rw [if_neg h1] at hf
  split
  · rename_i hk
    rw [if_pos hk] at hf
    have ht := ((Adv.refl s).tk hk).ok hs
    simp only at hf ⊢
    rw [ok_arr]
    exact all_ok (list_right h.a.ex h.ex _ _ ht hf)
  rename_i h1
  rw [if_neg h1] at hf
  split
  · rename_i hk
    rw [if_pos hk] at hf
    have ht := ((Adv.refl s).tk hk).ok hs
    simp only at hf ⊢
    rw [ok_obj]
    exact all_ok (list_right (elem_adv h.a) (elem_right h) _ _ ht hf)
  rename_i h1
  rw [if_neg h1] at hf
  split
  · rename_i hk
    rw [if_pos hk] at hf
    have ht := ((Adv.refl s).tk hk).ok hs
    simp only at hf ⊢
    have ho := (opt_adv s.take).ok ht
    have bo := (func_adv h.a (optF s.take).1 (optF s.take).2).back ho hf
    obtain ⟨ns, ks, e, e1, e2⟩ := func_right h (optF s.take).1 (optF s.take).2 ho hf
    rw [e, ok_fun, opt_right _ ht bo, e1, e2]
    rfl
  rename_i h1
  rw [if_neg h1] at hf
  exact lit_right s hf
theorem base_right {L : Low} (h : LowR L) (s : PS) (hs : OkS s) (hf : (baseF L s).2.fault = 0) : okT 65 (baseF L s).1 = true := by
  unfold baseF at hf ⊢
  split
  · rename_i hc
    rw [if_pos hc] at hf
    simp only at hf ⊢
    have ht := ((Adv.refl s).tk hc).ok hs
    have ap := prim_adv h.a s.take
    have hp := ap.ok ht
    have am := memb_adv h.a (primF L s.take).1 (primF L s.take).2
    have hm := am.ok hp
    have bm := (called_adv h.a 18 _ _).back hm hf
    have bp := am.back hp bm
    exact called_right h (.inr rfl) _ _ hm (memb_right h _ _ hp (prim_right h _ ht bp) bm) hf
  · rename_i hc
    rw [if_neg hc] at hf
    exact prim_right h s hs hf
theorem calll_right {L : Low} (h : LowR L) : ∀ f n s, OkS s → okT 65 n = true → (callLoop L f n s).2.fault = 0 → okT 65 (callLoop L f n s).1 = true
  | 0, n, s, _, hn, _ => hn
  | f + 1, n, s, hs, hn, hf => by
    unfold callLoop at hf ⊢
    split
    · rename_i hc
      rw [if_pos hc] at hf
      simp only at hf ⊢
      have ac := called_adv h.a 17 n s
      have hc1 := ac.ok hs
      have am := memb_adv h.a (calledF L 17 n s).1 (calledF L 17 n s).2
      have hm := am.ok hc1
      have bm := (calll_adv h.a f _ _).back hm hf
      have bc := am.back hc1 bm
      exact calll_right h f _ _ hm (memb_right h _ _ hc1 (called_right h (.inl rfl) _ _ hs hn bc) bm) hf
    · exact hn
theorem chain_right {L : Low} (h : LowR L) (s : PS) (hs : OkS s) (hf : (chainF L s).2.fault = 0) : okT 65 (chainF L s).1 = true := by
  unfold chainF at hf ⊢
  simp only at hf ⊢
  have hb := (base_adv h.a s).ok hs
  have am := memb_adv h.a (baseF L s).1 (baseF L s).2
  have hm := am.ok hb
  have bm := (calll_adv h.a _ _ _).back hm hf
  have bb := am.back hb bm
  exact calll_right h _ _ _ hm (memb_right h _ _ hb (base_right h s hs bb) bm) hf
theorem un_right {L : Low} (h : LowR L) (s : PS) (hs : OkS s) (hf : (unF L s).2.fault = 0) : okT 65 (unF L s).1 = true := by
  unfold unF at hf ⊢
  split
  · rename_i hc
    rw [if_pos hc] at hf
    simp only at hf ⊢
    have ht := ((Adv.refl s).tk1 hc).ok hs
    unfold seesOneF at hc
    simp at hc
    have hin := pre_in hc.2
    by_cases hd : (eqT s.next.text ⟨#[100, 101, 108, 101, 116, 101]⟩ && !memberB (L.un s.take).1) = true
    · rw [if_pos hd] at hf
      exact (fail_no (by decide) hf).elim
    · rw [if_neg hd] at hf
      have hu := h.un _ ht hf
      rw [ok_un, hin, Bool.true_and]
      split
      · rename_i he
        rw [ok77, hu]
        simp at hd
        rw [hd (eqT_iff.2 he)]
        rfl
      · exact hu
  · rename_i hc
    rw [if_neg hc] at hf
    exact chain_right h s hs hf
theorem let_right {L : Low} (h : LowR L) (s : PS) (hs : OkS s) (hf : (letF L s).2.fault = 0) : okT 83 (letF L s).1 = true ∧ openT (letF L s).1 = false := by
  unfold letF at hf ⊢
  simp only at hf ⊢
  have hn := (name_adv s).ok hs
  split
  · rename_i hc
    rw [if_pos hc] at hf
    simp only at hf ⊢
    have at1 := (Adv.refl (nameF s).2).tk hc
    have ht := at1.ok hn
    have b1 := (h.a.ex _).back ht hf
    refine ⟨?_, rfl⟩
    rw [ok_let1, name_right s hs (at1.back hn b1), h.ex _ ht hf]
    rfl
  · rename_i hc
    rw [if_neg hc] at hf
    refine ⟨?_, rfl⟩
    rw [ok_let0, name_right s hs hf]
theorem const_right {L : Low} (h : LowR L) (s : PS) (hs : OkS s) (hf : (constF L s).2.fault = 0) : okT 83 (constF L s).1 = true ∧ openT (constF L s).1 = false := by
  unfold constF at hf ⊢
  simp only at hf ⊢
  have hn := (name_adv s).ok hs
  have an := needs_adv ⟨#[61]⟩ (nameF s).2
  have b1 := (h.a.ex _).back (an.ok hn) hf
  refine ⟨?_, rfl⟩
  rw [ok_const, name_right s hs (an.back hn b1), h.ex _ (an.ok hn) hf]
  rfl
theorem simp_right {L : Low} (h : LowR L) (s : PS) (hs : OkS s) (hf : (simpF L s).2.fault = 0) : okT 83 (simpF L s).1 = true ∧ openT (simpF L s).1 = false := by
  unfold simpF at hf ⊢
  split
  · exact ⟨ok_43, rfl⟩
  rename_i h1
  rw [if_neg h1] at hf
  split
  · rename_i hc
    rw [if_pos hc] at hf
    exact let_right h _ (((Adv.refl s).tk hc).ok hs) hf
  rename_i h1
  rw [if_neg h1] at hf
  split
  · rename_i hc
    rw [if_pos hc] at hf
    exact const_right h _ (((Adv.refl s).tk hc).ok hs) hf
  rename_i h1
  rw [if_neg h1] at hf
  split
  · rename_i hc
    rw [if_pos hc] at hf
    split
    · exact ⟨ok_ret0, rfl⟩
    · rename_i hc2
      rw [if_neg hc2] at hf
      refine ⟨?_, rfl⟩
      simp only
      rw [ok_ret1]
      exact h.ex _ (((Adv.refl s).tk hc).ok hs) hf
  rename_i h1
  rw [if_neg h1] at hf
  split
  · rename_i hc
    rw [if_pos hc] at hf
    refine ⟨?_, rfl⟩
    simp only
    rw [ok_37]
    exact h.ex _ (((Adv.refl s).tk hc).ok hs) hf
  rename_i h1
  rw [if_neg h1] at hf
  split
  · exact ⟨ok_41, rfl⟩
  rename_i h1
  rw [if_neg h1] at hf
  split
  · exact ⟨ok_42, rfl⟩
  rename_i h1
  rw [if_neg h1] at hf
  refine ⟨?_, rfl⟩
  simp only
  rw [ok_33]
  exact h.ex _ hs hf
theorem open_if2 (a b : Tree) : openT (node 34 [a, b]) = true := rfl
theorem open_if3 (a b c : Tree) : openT (node 34 [a, b, c]) = openT c := by unfold node; rw [openT]; rfl
theorem open_while (a b : Tree) : openT (node 35 [a, b]) = openT b := by unfold node; rw [openT]; rfl
theorem open_blk (ks : List Tree) : openT (node 40 ks) = false := by
  unfold node
  rcases ks with _ | ⟨a, _ | ⟨b, _ | ⟨c, _ | ⟨d, e⟩⟩⟩⟩ <;> rfl
theorem choice_right {L : Low} (h : LowR L) (s : PS) (hs : OkS s) (hf : (choiceF L s).2.fault = 0) : okT 83 (choiceF L s).1 = true ∧ (openT (choiceF L s).1 = true → seesF elseW (choiceF L s).2 = false) := by
  unfold choiceF at hf ⊢
  simp only at hf ⊢
  have hp := (paren_adv h.a s).ok hs
  have ay := h.a.st (parenF L s).2
  have hy := ay.ok hp
  split
  · rename_i hc
    rw [if_pos hc] at hf
    simp only at hf ⊢
    have at1 := (Adv.refl (L.st (parenF L s).2).2).tk hc
    have ht := at1.ok hy
    have bz := (h.a.st _).back ht hf
    have by1 := at1.back hy bz
    have bp := ay.back hp by1
    have sy := h.st _ hp by1
    have sz := h.st _ ht hf
    have hno : openT (L.st (parenF L s).2).1 = false := by
      cases ho : openT (L.st (parenF L s).2).1 with
      | false => rfl
      | true =>
        have := sy.2 ho
        unfold elseW at this
        rw [hc] at this
        cases this
    rw [ok_if3, hno, paren_right h s hs bp, sy.1, sz.1, open_if3]
    exact ⟨rfl, sz.2⟩
  · rename_i hc
    rw [if_neg hc] at hf
    have bp := ay.back hp hf
    have sy := h.st _ hp hf
    rw [ok_if2, paren_right h s hs bp, sy.1]
    exact ⟨rfl, fun _ => by unfold elseW; simpa using hc⟩
theorem hand_right {L : Low} (h : LowR L) (s : PS) (hs : OkS s) (hf : (handF L s).2.fault = 0) : okT 67 (handF L s).1 = true := by
  unfold handF at hf ⊢
  simp only at hf ⊢
  have a1 := needs_adv ⟨#[40]⟩ s
  have h1 := a1.ok hs
  have a2 := name_adv (needsF ⟨#[40]⟩ s)
  have h2 := a2.ok h1
  have a3 := needs_adv ⟨#[41]⟩ (nameF (needsF ⟨#[40]⟩ s)).2
  have h3 := a3.ok h2
  have b3 := (block_adv h.a _).back h3 hf
  have b2 := a3.back h2 b3
  obtain ⟨ks, hk, hk2⟩ := block_right h _ h3 hf
  rw [hk, ok_catch, name_right _ h1 b2, ok_blk66, hk2]
  rfl
theorem try_right {L : Low} (h : LowR L) (s : PS) (hs : OkS s) (hf : (tryF L s).2.fault = 0) : okT 83 (tryF L s).1 = true ∧ openT (tryF L s).1 = false := by
  unfold tryF at hf ⊢
  simp only at hf ⊢
  have hb := (block_adv h.a s).ok hs
  split
  · rename_i hc
    rw [if_pos hc] at hf
    have at1 := (Adv.refl (blockF L s).2).tk hc
    have ht := at1.ok hb
    have ah := hand_adv h.a (blockF L s).2.take
    have hh := ah.ok ht
    split
    · rename_i hc2
      rw [if_pos hc2] at hf
      simp only at hf ⊢
      have at2 := (Adv.refl (handF L (blockF L s).2.take).2).tk hc2
      have ht2 := at2.ok hh
      have bf := at2.back hh ((block_adv h.a _).back ht2 hf)
      have bb := at1.back hb (ah.back ht bf)
      obtain ⟨k1, e1, e2⟩ := block_right h s hs bb
      obtain ⟨k2, e3, e4⟩ := block_right h _ ht2 hf
      refine ⟨?_, rfl⟩
      rw [ok_try3, e1, e3, ok_blk66, ok_blk66, e2, e4, hand_right h _ ht bf]
      rfl
    · rename_i hc2
      rw [if_neg hc2] at hf
      simp only at hf ⊢
      have bb := at1.back hb (ah.back ht hf)
      obtain ⟨k1, e1, e2⟩ := block_right h s hs bb
      refine ⟨?_, rfl⟩
      rw [ok_try1, e1, ok_blk66, e2, hand_right h _ ht hf]
      rfl
  · rename_i hc
    rw [if_neg hc] at hf
    split
    · rename_i hc2
      rw [if_pos hc2] at hf
      simp only at hf ⊢
      have at2 := (Adv.refl (blockF L s).2).tk hc2
      have ht2 := at2.ok hb
      have bb := at2.back hb ((block_adv h.a _).back ht2 hf)
      obtain ⟨k1, e1, e2⟩ := block_right h s hs bb
      obtain ⟨k2, e3, e4⟩ := block_right h _ ht2 hf
      refine ⟨?_, rfl⟩
      rw [ok_try2, e1, e3, ok_blk66, ok_blk66, e2, e4]
      rfl
    · rename_i hc2
      rw [if_neg hc2] at hf
      exact (fail_no (by decide) hf).elim
theorem st_right {L : Low} (h : LowR L) (s : PS) (hs : OkS s) (hf : (stF L s).2.fault = 0) : okT 83 (stF L s).1 = true ∧ (openT (stF L s).1 = true → seesF elseW (stF L s).2 = false) := by
  unfold stF at hf ⊢
  split
  · rename_i hc
    rw [if_pos hc] at hf
    obtain ⟨ks, e1, e2⟩ := block_right h s hs hf
    rw [e1, ok_blk, open_blk]
    exact ⟨e2, fun h => by cases h⟩
  rename_i h1
  rw [if_neg h1] at hf
  split
  · rename_i hc
    rw [if_pos hc] at hf
    simp only at hf ⊢
    have ht := ((Adv.refl s).tk hc).ok hs
    have an := name_adv s.take
    have hn := an.ok ht
    have bn := (func_adv h.a (nameF s.take).1 (nameF s.take).2).back hn hf
    obtain ⟨ns, ks, e, e1, e2⟩ := func_right h (nameF s.take).1 (nameF s.take).2 hn hf
    rw [e, ok_32, ok_dec, name_right _ ht bn, e1, e2]
    exact ⟨rfl, fun h => by cases h⟩
  rename_i h1
  rw [if_neg h1] at hf
  split
  · rename_i hc
    rw [if_pos hc] at hf
    exact choice_right h _ (((Adv.refl s).tk hc).ok hs) hf
  rename_i h1
  rw [if_neg h1] at hf
  split
  · rename_i hc
    rw [if_pos hc] at hf
    simp only at hf ⊢
    have ht := ((Adv.refl s).tk hc).ok hs
    have ap := paren_adv h.a s.take
    have hp := ap.ok ht
    have b1 := (h.a.st _).back hp hf
    have sy := h.st _ hp hf
    rw [ok_35, paren_right h _ ht b1, sy.1, open_while]
    exact ⟨rfl, sy.2⟩
  rename_i h1
  rw [if_neg h1] at hf
  split
  · rename_i hc
    rw [if_pos hc] at hf
    have := try_right h _ (((Adv.refl s).tk hc).ok hs) hf
    exact ⟨this.1, fun h => by rw [this.2] at h; cases h⟩
  rename_i h1
  rw [if_neg h1] at hf
  simp only at hf ⊢
  have hx := (simp_adv h.a s).ok hs
  have := simp_right h s hs ((needs_adv _ _).back hx hf)
  exact ⟨this.1, fun h => by rw [this.2] at h; cases h⟩
theorem low_zeroR : LowR (lowF 0) := ⟨low_zero, fun s _ hf => (fail_no (by decide) hf).elim, fun s _ hf => (fail_no (by decide) hf).elim, fun s _ hf => (fail_no (by decide) hf).elim⟩
theorem low_right (r : Nat) : LowR (lowF r) := by
  induction r with
  | zero => exact low_zeroR
  | succ r ih =>
    rw [lowF_succ]
    have h0 := low_succ ih.a
    have h1 := ex_right ih
    have h2 := st_right ih
    have h3 := un_right ih
    generalize exF (lowF r) = a at h0 h1 ⊢
    generalize stF (lowF r) = b at h0 h2 ⊢
    generalize unF (lowF r) = c at h0 h3 ⊢
    exact ⟨h0, h1, h2, h3⟩
theorem tree_right {l : List Tok} (hs : OkS ⟨l, 0, 0⟩) (h : (treeF l).2.2 = 0) : okT 80 (treeF l).1 = true := by
  unfold treeF at h ⊢
  simp only at h ⊢
  split
  · rename_i hf
    rw [ok_prog]
    exact all_ok (stmts_right (low_right 100) _ _ _ hs hf)
  · rename_i hf
    rw [if_neg hf] at h
    exact absurd h hf
end Go.Proofs.YtkknglmpdmhhjaaGreatDoor.Pr

/-
  Plain mathematics: what Parse gives of a text of at most 10000 bytes is a tree that may be, or none.
-/
namespace Go.Proofs.YtkknglmpdmhhjaaGreatDoor.Pr
open Go.Proofs.YtkknglmpdmhhjaaGreatDoor.Pa Go.Proofs.YtkknglmpdmhhjaaGreatDoor.Uni Go.Proofs.YtkknglmpdmhhjaaGreatDoor.Nums
open Go.Proofs.YtkknglmpdmhhjaaGreatDoor.Lx hiding nameF
set_option linter.unusedVariables false
set_option linter.unusedSimpArgs false

theorem lexT_okS {s : ByteArray} (h : (lexT s).1 = 0) (hz : s.size ≤ 10000) : OkS ⟨(lexT s).2.2, 0, 0⟩ := by
  have k := Pa.lexT_ok h
  exact ⟨k.l, k.st, k.nums, k.len, lexT_good h hz⟩
theorem parse_right {s : ByteArray} (hz : s.size ≤ 10000) (h : (parseF s).2.2 = 0) : okT 80 (parseF s).1 = true := by
  unfold parseF at h ⊢
  split
  · rename_i h0
    rw [if_pos h0] at h
    exact tree_right (lexT_okS h0 hz) h
  · rename_i h0
    rw [if_neg h0] at h
    simp only at h; omega
theorem tree_wrong {l : List Tok} (h : (treeF l).2.2 ≠ 0) : (treeF l).1 = zeroT := by
  unfold treeF at h ⊢
  simp only at h ⊢
  split
  · rename_i hf
    rw [if_pos hf] at h
    exact absurd rfl h
  · rfl
theorem parse_wrong {s : ByteArray} (h : (parseF s).2.2 ≠ 0) : (parseF s).1 = zeroT := by
  unfold parseF at h ⊢
  split
  · rename_i h0
    rw [if_pos h0] at h
    exact tree_wrong h
  · rfl
end Go.Proofs.YtkknglmpdmhhjaaGreatDoor.Pr

/-
  An argument of bytes, and Parse of it.
-/
namespace Go.Proofs.YtkknglmpdmhhjaaGreatDoor.Lx
open Go Go.RowKit Go.Maps Go.Proofs.YtkknglmpdmhhjaaGreatDoor.Uni
set_option linter.unusedVariables false
set_option linter.unusedSimpArgs false

/-- An argument of bytes. -/
def ArgRow (w : World) (ao : Option Addr) (n cp : Nat) (L : By) : Prop :=
  L.length = n ∧ ((ao = none ∧ n = 0 ∧ cp = 0) ∨ ∃ x, ao = some x ∧ n ≤ cp ∧ cp ≤ maxLen ∧ ∀ j (hj : j < L.length), w.cell? (x.add j) = some (.int .u8 (L[j].toNat : Int)))
theorem ArgRow.below {w w' : World} {ao : Option Addr} {n cp : Nat} {L : By} (h : ArgRow w ao n cp L) (hb : Below w.heap.size w w') : ArgRow w' ao n cp L := by
  refine ⟨h.1, ?_⟩
  rcases h.2 with h2 | ⟨x, e, h3, h4, h5⟩
  · exact .inl h2
  · refine .inr ⟨x, e, h3, h4, fun j hj => ?_⟩
    have hc := h5 j hj
    rw [hb.cell (World.block_lt_of_cell? w _ hc), hc]
theorem ArgRow.conv {w : World} {ao : Option Addr} {n cp : Nat} {L : By} (h : ArgRow w ao n cp L) : (convert 22 9 (.slice ao n cp)).run Tryz.prog w = .ok (.string (bs L)) w := by
  obtain ⟨rfl, h2⟩ := h
  rcases h2 with ⟨rfl, h0, rfl⟩ | ⟨x, rfl, _, _, hc⟩
  · have : L = [] := List.eq_nil_of_length_eq_zero h0
    subst this
    exact run_convert_bytes_nil w 22 5 Tryz.underlying22 Tryz.underlying5 _ _ 9 Tryz.underlying9
  · exact run_convert_bytes_back w 22 9 5 x cp L Tryz.underlying22 Tryz.underlying5 Tryz.underlying9 hc
theorem toks_arg (L : By) (n cp : Nat) (ao : Option Addr) (w : World) (hF : Fa w) (h7 : 7 ≤ w.heap.size) (hm : n ≤ 9223372036854775807) (h : ArgRow w ao n cp L) :
    Calls Tryz.prog 21 #[.slice ao n cp] w (TokPost (bs L) w) := by
  have hz : (bs L).size = n := by rw [bs_size, h.1]
  have := toks_any ao cp (bs L) w hF h7 (by rw [hz]; exact h.conv) (by omega)
  rwa [hz] at this

/-- The argument, as the opening of a row of integers hands it. -/
def IsRow (k : IntKind) (w : World) (a : Option Addr) (len cap : Nat) (zs : List Int) : Prop :=
  (a = none ∧ len = 0 ∧ cap = 0 ∧ zs = []) ∨
  ∃ x, a = some x ∧ len ≤ cap ∧ cap ≤ maxLen ∧ zs.length = cap ∧ (∀ i, i < zs.length → w.cell? (x.add i) = some (.int k (zs.getD i 0))) ∧ ∀ n ∈ zs, (Lit.int k n).wf = true
theorem arg_of {w : World} {a : Option Addr} {len cap : Nat} {zs : List Int} (h : IsRow .u8 w a len cap zs) : ∃ L, ArgRow w a len cap L := by
  refine ⟨(zs.take len).map fun z => UInt8.ofNat z.toNat, ?_⟩
  rcases h with ⟨rfl, rfl, rfl, rfl⟩ | ⟨x, rfl, h1, h2, h3, h4, h5⟩
  · exact ⟨rfl, .inl ⟨rfl, rfl, rfl⟩⟩
  · refine ⟨by simp; omega, .inr ⟨x, rfl, h1, h2, fun j hj => ?_⟩⟩
    simp only [List.length_map, List.length_take] at hj
    have hjz : j < zs.length := by omega
    rw [h4 j hjz, List.getD_eq_getElem?_getD, List.getElem?_eq_getElem hjz]
    have hw := h5 zs[j] (List.getElem_mem hjz)
    have e1 : IntKind.u8.min = 0 := rfl
    have e2 : IntKind.u8.max = 255 := rfl
    simp [Lit.wf, e1, e2] at hw
    simp
    omega
end Go.Proofs.YtkknglmpdmhhjaaGreatDoor.Lx
namespace Go.Proofs.YtkknglmpdmhhjaaGreatDoor.Pa
open Go Go.RowKit Go.Proofs.YtkknglmpdmhhjaaGreatDoor.Lx Go.Proofs.YtkknglmpdmhhjaaGreatDoor.Uni
theorem parse_arg (L : By) (n cp : Nat) (ao : Option Addr) (w : World) (hX : Gp w) (hm : n ≤ 9223372036854775807) (h : ArgRow w ao n cp L) :
    Calls Tryz.prog 10 #[.slice ao n cp] w (ParsePost (bs L) w) :=
  parse_any _ _ _ _ w hX (toks_arg L n cp ao _ (hX.fa.below bel1) (by have := hX.sz; simp; omega) hm (h.below bel1))
end Go.Proofs.YtkknglmpdmhhjaaGreatDoor.Pa
