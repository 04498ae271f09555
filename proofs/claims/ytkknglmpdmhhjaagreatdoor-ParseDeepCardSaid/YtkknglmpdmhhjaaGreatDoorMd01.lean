/-
  Texts of this seat in build order: PrDeep, PrDeepL.
-/
import Derived.Test.YtkknglmpdmhhjaaGreatDoorMg20
import Derived.Test.YtkknglmpdmhhjaaGreatDoorMd00
import Derived.Test.YtkknglmpdmhhjaaGreatDoorMg36
import Derived.Test.YtkknglmpdmhhjaaGreatDoorMg33
/-
  Plain mathematics: how deep brackets, signs, blocks, sides and loops may stand in one another, for rows of tokens.
-/
namespace Go.Proofs.YtkknglmpdmhhjaaGreatDoor.Pr
open Go.Proofs.YtkknglmpdmhhjaaGreatDoor.Pa Go.Proofs.YtkknglmpdmhhjaaGreatDoor.Uni
open Go.Proofs.YtkknglmpdmhhjaaGreatDoor.Lx hiding nameF
set_option linter.unusedVariables false
set_option linter.unusedSimpArgs false

abbrev KT := Int × ByteArray
def kt (t : Tok) : KT := (t.kind, t.text)
def hd (s : PS) : KT := kt s.next
def sees2 (h : KT) (x : ByteArray) : Bool := (h.1 == 2 || h.1 == 5) && eqT h.2 x
def one2 (h : KT) (x : ByteArray) : Bool := (h.1 == 2 || h.1 == 5) && hasF x h.2
theorem sees_hd {s : PS} {h : KT} (e : hd s = h) (x : ByteArray) : seesF x s = sees2 h x := by rw [← e]; rfl
theorem one_hd {s : PS} {h : KT} (e : hd s = h) (x : ByteArray) : seesOneF x s = one2 h x := by rw [← e]; rfl
theorem kind_hd {s : PS} {h : KT} (e : hd s = h) : s.next.kind = h.1 := by rw [← e]; rfl
theorem text_hd {s : PS} {h : KT} (e : hd s = h) : s.next.text = h.2 := by rw [← e]; rfl
/-- What is left, without an error. -/
def Lft (s : PS) (ks : List KT) : Prop := s.fault = 0 ∧ s.left.map kt = ks
def Died (s : PS) : Prop := s.fault = 4 ∧ s.left = [stopK]
theorem Lft.hd {s : PS} {k : KT} {ks : List KT} (h : Lft s (k :: ks)) : hd s = k := by
  obtain ⟨-, h⟩ := h
  unfold Pr.hd PS.next
  cases hl : s.left with
  | nil => rw [hl] at h; cases h
  | cons t r => rw [hl] at h; injection h
theorem Lft.take {s : PS} {k : KT} {ks : List KT} (h : Lft s (k :: ks)) : Lft s.take ks := by
  obtain ⟨h0, h⟩ := h
  refine ⟨h0, ?_⟩
  unfold PS.take
  cases hl : s.left with
  | nil => rw [hl] at h; cases h
  | cons t r => rw [hl] at h; injection h
theorem Died.hd {s : PS} (h : Died s) : hd s = (-1, noS) := by
  unfold Pr.hd PS.next
  rw [h.2]
  rfl
theorem Died.ok {s : PS} (h : Died s) : Pa.OkS s := by
  rcases s with ⟨l, p, f⟩
  obtain ⟨h1, h2⟩ := h
  simp only at h1 h2
  subst h1 h2
  exact stop_ok 4 p (by decide)
theorem Died.stay {s t : PS} (h : Died s) (ha : Pa.Adv s t) : t = s := (ha h.ok).2.2 (by rw [h.1]; decide)
theorem died_fail {s : PS} (h : s.fault = 0) : Died (s.fail 4) := by
  unfold PS.fail
  rw [if_pos h]
  exact ⟨rfl, rfl⟩
def sLP : KT := (5, ⟨#[40]⟩)
def sRP : KT := (5, ⟨#[41]⟩)
def sSC : KT := (5, ⟨#[59]⟩)
def sLB : KT := (5, ⟨#[123]⟩)
def sRB : KT := (5, ⟨#[125]⟩)
def sEQ : KT := (5, ⟨#[61]⟩)
def sBG : KT := (5, ⟨#[33]⟩)
def sWH : KT := (2, ⟨#[119, 104, 105, 108, 101]⟩)
def sNM : KT := (1, ⟨#[97]⟩)
def sON : KT := (3, noS)
/-- What may stand behind an operand here. -/
def Beh (h : KT) : Prop := h = sRP ∨ h = sSC ∨ h = sEQ ∨ h = (-1, noS)
theorem beh_sees {h : KT} (q : Beh h) : sees2 h ⟨#[46]⟩ = false ∧ sees2 h ⟨#[91]⟩ = false ∧ sees2 h ⟨#[40]⟩ = false ∧ sees2 h ⟨#[63]⟩ = false := by
  rcases q with rfl | rfl | rfl | rfl <;> decide
theorem beh_one {h : KT} (q : Beh h) (lev : Nat) : one2 h (levelT lev) = false := by
  rcases lev with _ | _ | _ | _ | _ | n
  · rcases q with rfl | rfl | rfl | rfl <;> decide
  · rcases q with rfl | rfl | rfl | rfl <;> decide
  · rcases q with rfl | rfl | rfl | rfl <;> decide
  · rcases q with rfl | rfl | rfl | rfl <;> decide
  · rcases q with rfl | rfl | rfl | rfl <;> decide
  · show one2 h (levelT 5) = false
    rcases q with rfl | rfl | rfl | rfl <;> decide
theorem membs_quiet {L : Low} {s : PS} {h : KT} (e : hd s = h) (q : Beh h) (t : Tree) : ∀ f, membersF L f t s = (t, s)
  | 0 => rfl
  | f + 1 => by
    unfold membersF
    rw [sees_hd e, sees_hd e, (beh_sees q).1, (beh_sees q).2.1]
    rfl
theorem calll_quiet {L : Low} {s : PS} {h : KT} (e : hd s = h) (q : Beh h) (t : Tree) : ∀ f, callLoop L f t s = (t, s)
  | 0 => rfl
  | f + 1 => by
    unfold callLoop
    rw [sees_hd e, (beh_sees q).2.2.1]
    rfl
theorem chain_quiet {L : Low} {s s1 : PS} {t : Tree} {h : KT} (hb : baseF L s = (t, s1)) (e : hd s1 = h) (q : Beh h) : chainF L s = (t, s1) := by
  unfold chainF membF
  rw [hb]
  simp only
  rw [membs_quiet e q]
  simp only
  rw [calll_quiet e q]
theorem binl_quiet {f : PS → Tree × PS} {s : PS} {h : KT} (e : hd s = h) (q : Beh h) (lev : Nat) (t : Tree) : ∀ k, binLoop lev f k t s = (t, s)
  | 0 => rfl
  | k + 1 => by
    unfold binLoop
    rw [one_hd e, beh_one q]
    rfl
theorem bin_quiet {L : Low} {s s1 : PS} {t : Tree} {h : KT} (hu : L.un s = (t, s1)) (e : hd s1 = h) (q : Beh h) : ∀ n, binF L n s = (t, s1)
  | 0 => hu
  | n + 1 => by
    unfold binF
    simp only
    rw [bin_quiet hu e q n]
    exact binl_quiet e q _ _ _
theorem cond_quiet {L : Low} {s s1 : PS} {t : Tree} {h : KT} (hu : L.un s = (t, s1)) (e : hd s1 = h) (q : Beh h) : condF L s = (t, s1) := by
  unfold condF
  simp only
  rw [bin_quiet hu e q 6]
  simp only
  rw [sees_hd e, (beh_sees q).2.2.2]
  rfl
theorem ex_quiet {L : Low} {s s1 : PS} {t : Tree} {h : KT} (hu : L.un s = (t, s1)) (e : hd s1 = h) (q : Beh h) (hq : sees2 h ⟨#[61]⟩ = false) : exF L s = (t, s1) := by
  unfold exF
  simp only
  rw [cond_quiet hu e q]
  simp only
  rw [sees_hd e, hq]
  rfl
theorem ex_set {L : Low} {s s1 : PS} {t : Tree} (hu : L.un s = (t, s1)) (e : hd s1 = sEQ) (hk : t.kind = 8) : (exF L s).2 = (L.ex s1.take).2 := by
  unfold exF
  simp only
  rw [cond_quiet hu e (.inr (.inr (.inl rfl)))]
  simp only
  rw [sees_hd e, show sees2 sEQ ⟨#[61]⟩ = true from by decide, if_pos rfl]
  rw [if_neg (by rw [hk]; simp)]
  unfold needsF
  rw [sees_hd e, show sees2 sEQ ⟨#[61]⟩ = true from by decide, if_pos rfl]
theorem ex_died {L : Low} {s : PS} (hd1 : Died (L.un s).2) : Died (exF L s).2 := by
  have := ex_quiet (L := L) (s := s) (t := (L.un s).1) (s1 := (L.un s).2) rfl hd1.hd (.inr (.inr (.inr rfl))) (by decide)
  rw [this]
  exact hd1
theorem chain_died {L : Low} {s : PS} (hd1 : Died (baseF L s).2) : Died (chainF L s).2 := by
  have := chain_quiet (L := L) (s := s) (t := (baseF L s).1) (s1 := (baseF L s).2) rfl hd1.hd (.inr (.inr (.inr rfl)))
  rw [this]
  exact hd1
theorem low_ex (r : Nat) : (lowF (r + 1)).ex = exF (lowF r) := by rw [lowF_succ]
theorem low_un (r : Nat) : (lowF (r + 1)).un = unF (lowF r) := by rw [lowF_succ]
theorem low_st (r : Nat) : (lowF (r + 1)).st = stF (lowF r) := by rw [lowF_succ]
theorem low0_ex {s : PS} (h : s.fault = 0) : Died ((lowF 0).ex s).2 := died_fail h
theorem low0_un {s : PS} (h : s.fault = 0) : Died ((lowF 0).un s).2 := died_fail h
theorem low0_st {s : PS} (h : s.fault = 0) : Died ((lowF 0).st s).2 := died_fail h
theorem needs_ok {x : ByteArray} {k : KT} {ks : List KT} {s : PS} (h : Lft s (k :: ks)) (hx : sees2 k x = true) : needsF x s = s.take := by
  unfold needsF
  rw [sees_hd h.hd, hx, if_pos rfl]
theorem needs_died {x : ByteArray} {s : PS} (h : Died s) : needsF x s = s := h.stay (Pa.needs_adv x s)

/-! ### An operand -/
theorem un_name {L : Low} {s : PS} {k : KT} {rest : List KT} (h : Lft s (sNM :: k :: rest)) (q : Beh k) : unF L s = (.mk 8 0 s.next.text [] [], s.take) := by
  unfold unF
  rw [one_hd h.hd, show one2 sNM prefixT = false from by decide, if_neg (by simp)]
  refine chain_quiet ?_ h.take.hd q
  unfold baseF
  rw [sees_hd h.hd, show sees2 sNM ⟨#[110, 101, 119]⟩ = false from by decide, if_neg (by simp)]
  unfold primF
  rw [kind_hd h.hd]
  rfl
theorem un_one {L : Low} {s : PS} {k : KT} {rest : List KT} (h : Lft s (sON :: k :: rest)) (q : Beh k) : unF L s = (.mk 1 s.next.num noS [] [], s.take) := by
  unfold unF
  rw [one_hd h.hd, show one2 sON prefixT = false from by decide, if_neg (by simp)]
  refine chain_quiet ?_ h.take.hd q
  unfold baseF
  rw [sees_hd h.hd, show sees2 sON ⟨#[110, 101, 119]⟩ = false from by decide, if_neg (by simp)]
  unfold primF
  rw [kind_hd h.hd]
  rfl
/-- What a part gives in a room: 'need' of it is enough, less of it is not. -/
def Gives (f : Nat → PS → Tree × PS) (need : Nat) (ks rest : List KT) : Prop :=
  ∀ (r : Nat) (s : PS), Lft s (ks ++ rest) → (need ≤ r → Lft (f r s).2 rest) ∧ (r < need → Died (f r s).2)
def fex (r : Nat) (s : PS) : Tree × PS := (lowF r).ex s
def fun_ (r : Nat) (s : PS) : Tree × PS := (lowF r).un s
def fst (r : Nat) (s : PS) : Tree × PS := (lowF r).st s
theorem fex_succ (r : Nat) (s : PS) : fex (r + 1) s = exF (lowF r) s := by unfold fex; rw [low_ex]
theorem ex_of_un {need : Nat} {ks : List KT} {k : KT} {rest : List KT} (q : k = sRP ∨ k = sSC) (hu : Gives fun_ need ks (k :: rest)) : Gives fex (need + 1) ks (k :: rest) := by
  intro r s h
  cases r with
  | zero => exact ⟨fun h0 => by omega, fun _ => low0_ex h.1⟩
  | succ r =>
    have := hu r s h
    refine ⟨fun hr => ?_, fun hr => ?_⟩
    · have h1 := this.1 (by omega)
      show Lft (exF (lowF r) s).2 _
      have e := ex_quiet (L := lowF r) (s := s) (t := ((lowF r).un s).1) (s1 := ((lowF r).un s).2) rfl h1.hd (by rcases q with rfl | rfl; exact .inl rfl; exact .inr (.inl rfl)) (by rcases q with rfl | rfl <;> decide)
      rw [e]
      exact h1
    · have h1 : Died ((lowF r).un s).2 := this.2 (by omega)
      show Died ((lowF (r + 1)).ex s).2
      rw [low_ex]
      exact ex_died (L := lowF r) h1
theorem un_atom {k : KT} {rest : List KT} (q : Beh k) : Gives fun_ 1 [sNM] (k :: rest) := by
  intro r s h
  cases r with
  | zero => exact ⟨fun h0 => by omega, fun _ => low0_un h.1⟩
  | succ r =>
    refine ⟨fun _ => ?_, fun h0 => by omega⟩
    show Lft (unF (lowF r) s).2 _
    rw [un_name h q]
    exact h.take
theorem un_atom1 {k : KT} {rest : List KT} (q : Beh k) : Gives fun_ 1 [sON] (k :: rest) := by
  intro r s h
  cases r with
  | zero => exact ⟨fun h0 => by omega, fun _ => low0_un h.1⟩
  | succ r =>
    refine ⟨fun _ => ?_, fun h0 => by omega⟩
    show Lft (unF (lowF r) s).2 _
    rw [un_one h q]
    exact h.take

/-! ### Brackets -/
def parK (n : Nat) : List KT := List.replicate n sLP ++ sNM :: List.replicate n sRP
theorem parK_succ (n : Nat) (rest : List KT) : parK (n + 1) ++ rest = sLP :: (parK n ++ (sRP :: rest)) := by
  unfold parK
  rw [List.replicate_succ, List.replicate_succ']
  simp
theorem prim_paren {L : Low} {s : PS} {ks : List KT} (h : Lft s (sLP :: ks)) : baseF L s = parenF L s := by
  unfold baseF
  rw [sees_hd h.hd, show sees2 sLP ⟨#[110, 101, 119]⟩ = false from by decide, if_neg (by simp)]
  unfold primF
  rw [kind_hd h.hd, if_neg (by decide), if_neg (by decide), if_neg (by decide), sees_hd h.hd, show sees2 sLP ⟨#[40]⟩ = true from by decide, if_pos rfl]
theorem paren_ok {L : Low} {s : PS} {ks rest : List KT} (h : Lft s (sLP :: ks)) (h1 : Lft (L.ex s.take).2 (sRP :: rest)) : Lft (parenF L s).2 rest := by
  unfold parenF
  rw [needs_ok h (by decide)]
  simp only
  rw [needs_ok h1 (by decide)]
  exact h1.take
theorem paren_died {L : Low} {s : PS} {ks : List KT} (h : Lft s (sLP :: ks)) (h1 : Died (L.ex s.take).2) : Died (parenF L s).2 := by
  unfold parenF
  rw [needs_ok h (by decide)]
  simp only
  rw [needs_died h1]
  exact h1
theorem un_paren {L : Low} {s : PS} {ks : List KT} (h : Lft s (sLP :: ks)) : unF L s = chainF L s := by
  unfold unF
  rw [one_hd h.hd, show one2 sLP prefixT = false from by decide, if_neg (by simp)]
theorem ex_par : ∀ (n : Nat) {k : KT} {rest : List KT}, (k = sRP ∨ k = sSC) → Gives fex (2 + 2 * n) (parK n) (k :: rest)
  | 0, k, rest, q => ex_of_un q (un_atom (by rcases q with rfl | rfl; exact .inl rfl; exact .inr (.inl rfl)))
  | n + 1, k, rest, q => by
    have ih := ex_par n (k := sRP) (rest := k :: rest) (.inl rfl)
    have hu : Gives fun_ (2 + 2 * n + 1) (parK (n + 1)) (k :: rest) := by
      intro r s h
      rw [parK_succ] at h
      cases r with
      | zero => exact ⟨fun h0 => by omega, fun _ => low0_un h.1⟩
      | succ r =>
        have := ih r s.take h.take
        refine ⟨fun hr => ?_, fun hr => ?_⟩
        · show Lft (unF (lowF r) s).2 _
          have h1 := paren_ok h (this.1 (by omega))
          rw [un_paren h, chain_quiet (t := (parenF (lowF r) s).1) (s1 := (parenF (lowF r) s).2) (prim_paren h) h1.hd (by rcases q with rfl | rfl; exact .inl rfl; exact .inr (.inl rfl))]
          exact h1
        · show Died (unF (lowF r) s).2
          rw [un_paren h]
          refine chain_died ?_
          rw [prim_paren h]
          exact paren_died h (this.2 (by omega))
    exact ex_of_un q hu

/-! ### Signs -/
def banK (n : Nat) : List KT := List.replicate n sBG ++ [sNM]
theorem banK_succ (n : Nat) (rest : List KT) : banK (n + 1) ++ rest = sBG :: (banK n ++ rest) := by
  unfold banK
  rw [List.replicate_succ]
  simp
theorem un_ban : ∀ (n : Nat) {k : KT} {rest : List KT}, Beh k → Gives fun_ (n + 1) (banK n) (k :: rest)
  | 0, k, rest, q => un_atom q
  | n + 1, k, rest, q => by
    intro r s h
    rw [banK_succ] at h
    cases r with
    | zero => exact ⟨fun h0 => by omega, fun _ => low0_un h.1⟩
    | succ r =>
      have ih := un_ban n q r s.take h.take
      have e : (unF (lowF r) s).2 = ((lowF r).un s.take).2 := by
        unfold unF
        rw [one_hd h.hd, show one2 sBG prefixT = true from by decide, if_pos rfl]
        simp only
        rw [text_hd h.hd, show (eqT sBG.2 ⟨#[100, 101, 108, 101, 116, 101]⟩) = false from by decide]
        rfl
      refine ⟨fun hr => ?_, fun hr => ?_⟩
      · show Lft (unF (lowF r) s).2 _
        rw [e]
        exact ih.1 (by omega)
      · show Died (unF (lowF r) s).2
        rw [e]
        exact ih.2 (by omega)

/-! ### Sides -/
def setK : Nat → List KT
  | 0 => [sNM]
  | n + 1 => sNM :: sEQ :: setK n
theorem ex_asg : ∀ (n : Nat) {k : KT} {rest : List KT}, (k = sRP ∨ k = sSC) → Gives fex (2 + n) (setK n) (k :: rest)
  | 0, k, rest, q => ex_of_un q (un_atom (by rcases q with rfl | rfl; exact .inl rfl; exact .inr (.inl rfl)))
  | n + 1, k, rest, q => by
    intro r s h
    have h : Lft s (sNM :: sEQ :: (setK n ++ (k :: rest))) := h
    cases r with
    | zero => exact ⟨fun h0 => by omega, fun _ => low0_ex h.1⟩
    | succ r =>
      cases r with
      | zero => exact ⟨fun h0 => by omega, fun _ => by
        have h1 : Died ((lowF 0).un s).2 := low0_un h.1
        show Died ((lowF 1).ex s).2
        rw [low_ex]
        exact ex_died (L := lowF 0) h1⟩
      | succ r =>
        have ih := ex_asg n q (r + 1) s.take.take h.take.take
        have hu : (lowF (r + 1)).un s = (.mk 8 0 s.next.text [] [], s.take) := by rw [low_un]; exact un_name h (.inr (.inr (.inl rfl)))
        have e : (exF (lowF (r + 1)) s).2 = ((lowF (r + 1)).ex s.take.take).2 := ex_set (L := lowF (r + 1)) hu h.take.hd rfl
        refine ⟨fun hr => ?_, fun hr => ?_⟩
        · rw [fex_succ, e]
          exact ih.1 (by omega)
        · rw [fex_succ, e]
          exact ih.2 (by omega)

/-! ### Statements -/
/-- A token that no statement but one of an expression begins with. -/
def Beg (k : KT) : Prop := k = sLP ∨ k = sBG ∨ k = sNM
theorem st_ex {L : Low} {s : PS} {k : KT} {ks : List KT} (h : Lft s (k :: ks)) (hk : Beg k) : (stF L s).2 = needsF ⟨#[59]⟩ (L.ex s).2 := by
  unfold stF
  rw [sees_hd h.hd, sees_hd h.hd, sees_hd h.hd, sees_hd h.hd, sees_hd h.hd]
  rw [show sees2 k ⟨#[123]⟩ = false from by rcases hk with rfl | rfl | rfl <;> decide, show sees2 k ⟨#[102, 117, 110, 99, 116, 105, 111, 110]⟩ = false from by rcases hk with rfl | rfl | rfl <;> decide, show sees2 k ⟨#[105, 102]⟩ = false from by rcases hk with rfl | rfl | rfl <;> decide, show sees2 k ⟨#[119, 104, 105, 108, 101]⟩ = false from by rcases hk with rfl | rfl | rfl <;> decide, show sees2 k ⟨#[116, 114, 121]⟩ = false from by rcases hk with rfl | rfl | rfl <;> decide]
  simp only [Bool.false_eq_true, if_false]
  unfold simpF
  rw [sees_hd h.hd, sees_hd h.hd, sees_hd h.hd, sees_hd h.hd, sees_hd h.hd, sees_hd h.hd, sees_hd h.hd]
  rw [show sees2 k ⟨#[59]⟩ = false from by rcases hk with rfl | rfl | rfl <;> decide, show sees2 k ⟨#[108, 101, 116]⟩ = false from by rcases hk with rfl | rfl | rfl <;> decide, show sees2 k ⟨#[99, 111, 110, 115, 116]⟩ = false from by rcases hk with rfl | rfl | rfl <;> decide, show sees2 k ⟨#[114, 101, 116, 117, 114, 110]⟩ = false from by rcases hk with rfl | rfl | rfl <;> decide, show sees2 k ⟨#[116, 104, 114, 111, 119]⟩ = false from by rcases hk with rfl | rfl | rfl <;> decide, show sees2 k ⟨#[98, 114, 101, 97, 107]⟩ = false from by rcases hk with rfl | rfl | rfl <;> decide, show sees2 k ⟨#[99, 111, 110, 116, 105, 110, 117, 101]⟩ = false from by rcases hk with rfl | rfl | rfl <;> decide]
  simp only [Bool.false_eq_true, if_false]
theorem st_of_ex {need : Nat} {ks rest : List KT} (hb : ∃ k r, ks = k :: r ∧ Beg k) (he : Gives fex need ks (sSC :: rest)) : Gives fst (need + 1) (ks ++ [sSC]) rest := by
  intro r s h
  have h2 : Lft s (ks ++ (sSC :: rest)) := by simpa using h
  obtain ⟨k, kr, rfl, hk⟩ := hb
  cases r with
  | zero => exact ⟨fun h0 => by omega, fun _ => low0_st h.1⟩
  | succ r =>
    have := he r s h2
    have e : (stF (lowF r) s).2 = needsF ⟨#[59]⟩ ((lowF r).ex s).2 := st_ex (k := k) (ks := kr ++ (sSC :: rest)) h2 hk
    refine ⟨fun hr => ?_, fun hr => ?_⟩
    · show Lft (stF (lowF r) s).2 _
      have h1 := this.1 (by omega)
      have h1 : Lft ((lowF r).ex s).2 (sSC :: rest) := h1
      rw [e, needs_ok h1 (by decide)]
      exact h1.take
    · show Died (stF (lowF r) s).2
      have h1 : Died ((lowF r).ex s).2 := this.2 (by omega)
      rw [e, needs_died h1]
      exact h1
theorem stmts_one {L : Low} {fin : PS → Bool} {s : PS} (f : Nat) (h0 : s.fault = 0) (h1 : fin s = false) (h2 : fin (L.st s).2 = true ∨ (L.st s).2.fault ≠ 0) : (stmtsF L fin (f + 1) s).2 = (L.st s).2 := by
  unfold stmtsF
  rw [h1, if_neg (by simp), if_neg (by rw [h0]; simp)]
  simp only
  cases f with
  | zero => rfl
  | succ f =>
    unfold stmtsF
    rcases h2 with h2 | h2
    · rw [h2, if_pos rfl]
    · split
      · rfl
      · first | rfl | rw [if_pos h2]
def blkK : Nat → List KT
  | 0 => [sNM, sSC]
  | n + 1 => sLB :: (blkK n ++ [sRB])
theorem st_brace {L : Low} {s : PS} {ks : List KT} (h : Lft s (sLB :: ks)) : stF L s = blockF L s := by
  unfold stF
  rw [sees_hd h.hd, show sees2 sLB ⟨#[123]⟩ = true from by decide, if_pos rfl]
theorem blkK_head (n : Nat) : ∃ k r, blkK n = k :: r ∧ (k = sNM ∨ k = sLB) := by
  cases n with
  | zero => exact ⟨_, _, rfl, .inl rfl⟩
  | succ n => exact ⟨_, _, rfl, .inr rfl⟩
theorem st_blk : ∀ (n : Nat) {rest : List KT}, Gives fst (3 + n) (blkK n) rest
  | 0, rest => st_of_ex (ks := [sNM]) ⟨_, _, rfl, .inr (.inr rfl)⟩ (ex_of_un (.inr rfl) (un_atom (.inr (.inl rfl))))
  | n + 1, rest => by
    intro r s h
    have h : Lft s (sLB :: (blkK n ++ (sRB :: rest))) := by simpa [blkK] using h
    cases r with
    | zero => exact ⟨fun h0 => by omega, fun _ => low0_st h.1⟩
    | succ r =>
      have ih := st_blk n (rest := sRB :: rest) r s.take h.take
      obtain ⟨k, kr, hk, hkk⟩ := blkK_head n
      have ht : Lft s.take (k :: (kr ++ (sRB :: rest))) := by have := h.take; rw [hk] at this; exact this
      have hf : seesF ⟨#[125]⟩ s.take = false := by
        rw [sees_hd ht.hd]
        rcases hkk with rfl | rfl <;> decide
      refine ⟨fun hr => ?_, fun hr => ?_⟩
      · show Lft (stF (lowF r) s).2 _
        have h1 : Lft ((lowF r).st s.take).2 (sRB :: rest) := ih.1 (by omega)
        rw [st_brace h]
        unfold blockF
        rw [needs_ok h (by decide)]
        simp only
        rw [stmts_one _ h.take.1 hf (.inl (by rw [sees_hd h1.hd]; decide)), needs_ok h1 (by decide)]
        exact h1.take
      · show Died (stF (lowF r) s).2
        have h1 : Died ((lowF r).st s.take).2 := ih.2 (by omega)
        rw [st_brace h]
        unfold blockF
        rw [needs_ok h (by decide)]
        simp only
        rw [stmts_one _ h.take.1 hf (.inr (by rw [h1.1]; decide)), needs_died h1]
        exact h1
def whlK : Nat → List KT
  | 0 => [sNM, sSC]
  | n + 1 => sWH :: sLP :: sON :: sRP :: whlK n
theorem st_while {L : Low} {s : PS} {ks : List KT} (h : Lft s (sWH :: ks)) : (stF L s).2 = (L.st (parenF L s.take).2).2 := by
  unfold stF
  rw [sees_hd h.hd, sees_hd h.hd, sees_hd h.hd, sees_hd h.hd]
  rw [show sees2 sWH ⟨#[123]⟩ = false from by decide, show sees2 sWH ⟨#[102, 117, 110, 99, 116, 105, 111, 110]⟩ = false from by decide, show sees2 sWH ⟨#[105, 102]⟩ = false from by decide, show sees2 sWH ⟨#[119, 104, 105, 108, 101]⟩ = true from by decide]
  simp only [Bool.false_eq_true, if_false, if_true]
theorem st_whl : ∀ (n : Nat) {rest : List KT}, Gives fst (3 + n) (whlK n) rest
  | 0, rest => st_of_ex (ks := [sNM]) ⟨_, _, rfl, .inr (.inr rfl)⟩ (ex_of_un (.inr rfl) (un_atom (.inr (.inl rfl))))
  | n + 1, rest => by
    intro r s h
    have h : Lft s (sWH :: sLP :: sON :: sRP :: (whlK n ++ rest)) := h
    cases r with
    | zero => exact ⟨fun h0 => by omega, fun _ => low0_st h.1⟩
    | succ r =>
      have ho := ex_of_un (.inl rfl) (un_atom1 (k := sRP) (rest := whlK n ++ rest) (.inl rfl)) r s.take.take h.take.take
      refine ⟨fun hr => ?_, fun hr => ?_⟩
      · show Lft (stF (lowF r) s).2 _
        have h1 : Lft ((lowF r).ex s.take.take).2 (sRP :: (whlK n ++ rest)) := ho.1 (by omega)
        have h2 := paren_ok h.take h1
        rw [st_while h]
        exact (st_whl n r _ h2).1 (by omega)
      · show Died (stF (lowF r) s).2
        rw [st_while h]
        by_cases h2r : 2 ≤ r
        · have h1 : Lft ((lowF r).ex s.take.take).2 (sRP :: (whlK n ++ rest)) := ho.1 (by omega)
          have h2 := paren_ok h.take h1
          exact (st_whl n r _ h2).2 (by omega)
        · have h1 : Died ((lowF r).ex s.take.take).2 := ho.2 (by omega)
          have h2 := paren_died h.take h1
          rw [h2.stay ((low_adv r).st _)]
          exact h2

/-! ### A whole program -/
theorem tree_one {need : Nat} {ks : List KT} {l : List Tok} (hl : l.map kt = ks ++ [(0, noS)]) (hk : ∃ k r, ks = k :: r ∧ k.1 ≠ 0) (hg : Gives fst need ks [(0, noS)]) : (treeF l).2.2 = if need ≤ 100 then 0 else 4 := by
  have h : Lft ⟨l, 0, 0⟩ (ks ++ [(0, noS)]) := ⟨rfl, hl⟩
  have hx := hg 100 ⟨l, 0, 0⟩ h
  obtain ⟨k, kr, rfl, hk0⟩ := hk
  have hf : endF ⟨l, 0, 0⟩ = false := by
    unfold endF
    rw [kind_hd (s := ⟨l, 0, 0⟩) (h := k) (Lft.hd h)]
    simpa using hk0
  unfold treeF
  by_cases hn : need ≤ 100
  · have h1 : Lft ((lowF 100).st ⟨l, 0, 0⟩).2 [(0, noS)] := hx.1 hn
    have he : endF ((lowF 100).st ⟨l, 0, 0⟩).2 = true := by
      unfold endF
      rw [kind_hd h1.hd]
      rfl
    have e := stmts_one (L := lowF 100) (fin := endF) (s := ⟨l, 0, 0⟩) l.length rfl hf (.inl he)
    simp only
    rw [e, h1.1, if_pos rfl, if_pos hn]
  · have h1 : Died ((lowF 100).st ⟨l, 0, 0⟩).2 := hx.2 (by omega)
    have e := stmts_one (L := lowF 100) (fin := endF) (s := ⟨l, 0, 0⟩) l.length rfl hf (.inr (by rw [h1.1]; decide))
    simp only
    rw [e, h1.1, if_neg (by decide), if_neg hn]
end Go.Proofs.YtkknglmpdmhhjaaGreatDoor.Pr

/-
  Plain mathematics: the texts of ParseDeep, their tokens, and what Parse says of them.
-/
namespace Go.Proofs.YtkknglmpdmhhjaaGreatDoor.Pr
open Go.Proofs.YtkknglmpdmhhjaaGreatDoor.Pa Go.Proofs.YtkknglmpdmhhjaaGreatDoor.Uni
open Go.Proofs.YtkknglmpdmhhjaaGreatDoor.Lx hiding nameF
set_option linter.unusedVariables false
set_option linter.unusedSimpArgs false

def tN (l : By) : Tk := ⟨1, 0, ⟨l.toArray⟩⟩
def tW (l : By) : Tk := ⟨2, 0, ⟨l.toArray⟩⟩
def tkk (t : Tk) : KT := ((t.kind : Int), t.text)
theorem lex_rep (c : UInt8) (h0 : whiteN c.toNat = false ∧ c ≠ 47) (h1 : leadN c.toNat = false) (h2 : digitN c.toNat = false) (h3 : c ≠ 34 ∧ c ≠ 39) (hf : ∀ r, signF (c :: r) = some [c]) {X : By} {ks : List Tk} (h : Lexes X ks) : ∀ n, Lexes (List.replicate n c ++ X) (List.replicate n (tSign [c]) ++ ks)
  | 0 => h
  | n + 1 => by
    rw [List.replicate_succ, List.replicate_succ]
    exact (lex_sign1 (stop_of h0.1 h0.2) h1 h2 h3 (hf _) (lex_rep c h0 h1 h2 h3 hf h n)).1
theorem lex_sc : Lexes [59] [tSign [59], endTk] := (lex_sign1 (stop_of (by decide) (by decide)) (by decide) (by decide) (by decide) rfl (lexes_end (.stop _ trivial))).1
theorem lex_a {r : By} {ks : List Tk} (hr : Brk r) (h : Lexes r ks) : Lexes (97 :: r) (tN [97] :: ks) ∧ Lexes (32 :: 97 :: r) (tN [97] :: ks) := lex_name1 (c := 97) (n := []) (by decide) (by decide) (by decide) hr h
theorem lex_asc : Lexes [97, 59] [tN [97], tSign [59], endTk] ∧ Lexes [32, 97, 59] [tN [97], tSign [59], endTk] := lex_a (brk (by decide)) lex_sc

def deepT (which n : Nat) : By :=
  if which = 0 then List.replicate n 40 ++ 97 :: (List.replicate n 41 ++ [59])
  else if which = 1 then List.replicate n 33 ++ [97, 59]
  else if which = 2 then List.replicate n 123 ++ 97 :: 59 :: (List.replicate n 125)
  else if which = 3 then repB [97, 32, 61, 32] n ++ [97, 59]
  else repB [119, 104, 105, 108, 101, 32, 40, 49, 41, 32] n ++ [97, 59]
theorem lex_0 (n : Nat) : Lexes (deepT 0 n) (List.replicate n (tSign [40]) ++ tN [97] :: (List.replicate n (tSign [41]) ++ [tSign [59], endTk])) := by
  refine lex_rep 40 (by decide) (by decide) (by decide) (by decide) (fun r => rfl) ?_ n
  refine (lex_a ?_ (lex_rep 41 (by decide) (by decide) (by decide) (by decide) (fun r => rfl) lex_sc n)).1
  cases n with
  | zero => exact brk (by decide)
  | succ n => exact brk (by decide)
theorem lex_ban : ∀ n, Lexes (List.replicate n 33 ++ [97, 59]) (List.replicate n (tSign [33]) ++ [tN [97], tSign [59], endTk])
  | 0 => lex_asc.1
  | n + 1 => by
    have ih := lex_ban n
    rw [List.replicate_succ, List.replicate_succ]
    refine (lex_sign1 (c := 33) (r := List.replicate n 33 ++ [97, 59]) (stop_of (by decide) (by decide)) (by decide) (by decide) (by decide) ?_ ih).1
    cases n with
    | zero => rfl
    | succ n => rfl
theorem lex_2 (n : Nat) : Lexes (deepT 2 n) (List.replicate n (tSign [123]) ++ tN [97] :: tSign [59] :: (List.replicate n (tSign [125]) ++ [endTk])) := by
  have h1 := lex_rep 125 (by decide) (by decide) (by decide) (by decide) (fun r => rfl) (lexes_end (.stop [] trivial)) n
  rw [List.append_nil] at h1
  refine lex_rep 123 (by decide) (by decide) (by decide) (by decide) (fun r => rfl) ?_ n
  exact (lex_a (brk (by decide)) (lex_sign1 (stop_of (by decide) (by decide)) (by decide) (by decide) (by decide) rfl h1).1).1
def repT (l : List Tk) : Nat → List Tk
  | 0 => []
  | n + 1 => l ++ repT l n
theorem lex_set : ∀ n, Lexes (repB [97, 32, 61, 32] n ++ [97, 59]) (repT [tN [97], tSign [61]] n ++ [tN [97], tSign [59], endTk]) ∧ Lexes (32 :: (repB [97, 32, 61, 32] n ++ [97, 59])) (repT [tN [97], tSign [61]] n ++ [tN [97], tSign [59], endTk])
  | 0 => lex_asc
  | n + 1 => by
    have ih := (lex_set n).2
    exact lex_a (r := 32 :: 61 :: 32 :: (repB [97, 32, 61, 32] n ++ [97, 59])) (brk (by decide)) (lex_sign1 (stop_of (by decide) (by decide)) (by decide) (by decide) (by decide) rfl ih).2
theorem lex_whl : ∀ n, Lexes (repB [119, 104, 105, 108, 101, 32, 40, 49, 41, 32] n ++ [97, 59]) (repT [tW [119, 104, 105, 108, 101], tSign [40], ⟨3, 1, ⟨#[]⟩⟩, tSign [41]] n ++ [tN [97], tSign [59], endTk]) ∧ Lexes (32 :: (repB [119, 104, 105, 108, 101, 32, 40, 49, 41, 32] n ++ [97, 59])) (repT [tW [119, 104, 105, 108, 101], tSign [40], ⟨3, 1, ⟨#[]⟩⟩, tSign [41]] n ++ [tN [97], tSign [59], endTk])
  | 0 => lex_asc
  | n + 1 => by
    have ih := (lex_whl n).2
    have h1 := (lex_sign1 (c := 41) (r := 32 :: (repB [119, 104, 105, 108, 101, 32, 40, 49, 41, 32] n ++ [97, 59])) (stop_of (by decide) (by decide)) (by decide) (by decide) (by decide) rfl ih).1
    have h2 := (lex_digits1 (n := 1) (d := [49]) (Nums.readF_mk (by decide) (by decide +kernel)) (by decide) (by decide) (brk (by decide)) h1).1
    have h3 := (lex_sign1 (c := 40) (r := 49 :: 41 :: 32 :: (repB [119, 104, 105, 108, 101, 32, 40, 49, 41, 32] n ++ [97, 59])) (stop_of (by decide) (by decide)) (by decide) (by decide) (by decide) rfl h2).2
    exact lex_name1 (c := 119) (n := [104, 105, 108, 101]) (by decide) (by decide) (by decide) (brk (by decide)) h3
def bsD (which n : Nat) : ByteArray := ⟨(deepT which n).toArray⟩
theorem rep_len (l : By) : ∀ n, (repB l n).length = n * l.length
  | 0 => by simp [repB]
  | n + 1 => by rw [repB, List.length_append, rep_len l n, Nat.succ_mul]; omega
theorem rep_mem (l : By) (P : UInt8 → Prop) (h : ∀ c ∈ l, P c) : ∀ n, ∀ c ∈ repB l n, P c
  | 0, c, hc => by simp [repB] at hc
  | n + 1, c, hc => by
    rw [repB] at hc
    rcases List.mem_append.1 hc with hc | hc
    · exact h c hc
    · exact rep_mem l P h n c hc
theorem deep_ascii (which n : Nat) : ∀ c ∈ deepT which n, c.toNat < 128 := by
  intro c hc
  unfold deepT at hc
  split at hc
  · simp only [List.mem_append, List.mem_cons, List.mem_replicate, List.not_mem_nil, or_false] at hc
    rcases hc with ⟨_, rfl⟩ | rfl | ⟨_, rfl⟩ | rfl <;> decide
  split at hc
  · simp only [List.mem_append, List.mem_cons, List.mem_replicate, List.not_mem_nil, or_false] at hc
    rcases hc with ⟨_, rfl⟩ | rfl | rfl <;> decide
  split at hc
  · simp only [List.mem_append, List.mem_cons, List.mem_replicate, List.not_mem_nil, or_false] at hc
    rcases hc with ⟨_, rfl⟩ | rfl | rfl | ⟨_, rfl⟩ <;> decide
  split at hc
  · rcases List.mem_append.1 hc with hc | hc
    · exact rep_mem _ (fun c => c.toNat < 128) (by decide) n c hc
    · simp at hc; rcases hc with rfl | rfl <;> decide
  · rcases List.mem_append.1 hc with hc | hc
    · exact rep_mem _ (fun c => c.toNat < 128) (by decide) n c hc
    · simp at hc; rcases hc with rfl | rfl <;> decide
theorem deep_len (which n : Nat) (hn : n ≤ 300) : (deepT which n).length ≤ 4000 := by
  unfold deepT
  split
  · simp; omega
  split
  · simp; omega
  split
  · simp; omega
  split
  · rw [List.length_append, rep_len]; simp; omega
  · rw [List.length_append, rep_len]; simp; omega
theorem parse_of {s : ByteArray} {need : Nat} {tk : List Tk} {ks : List KT} (hz : s.size ≤ 65536) (ha : ∀ c ∈ s.data.toList, c.toNat < 128) (h : Lexes s.data.toList tk) (hk : tk.map tkk = ks ++ [(0, noS)]) (hb : ∃ k r, ks = k :: r ∧ k.1 ≠ 0) (hg : Gives fst need ks [(0, noS)]) : (parseF s).2.2 = if need ≤ 100 then 0 else 4 := by
  obtain ⟨ts, h1, h2⟩ := lexT_of hz (bad_ascii ha) h
  unfold parseF
  rw [h1, if_pos rfl]
  refine tree_one ?_ hb hg
  rw [← hk, ← h2]
  simp only [List.map_map]
  rfl
theorem map_rep {t : Tk} {n : Nat} : (List.replicate n t).map tkk = List.replicate n (tkk t) := List.map_replicate
/-- What Parse says of each of the five kinds. -/
theorem deep_0 (n : Nat) (hn : n ≤ 300) : (parseF (bsD 0 n)).2.2 = if 3 + 2 * n ≤ 100 then 0 else 4 := by
  have hg : Gives fst (2 + 2 * n + 1) (parK n ++ [sSC]) [(0, noS)] := st_of_ex (by cases n with | zero => exact ⟨_, _, rfl, .inr (.inr rfl)⟩ | succ n => exact ⟨_, _, rfl, .inl rfl⟩) (ex_par n (.inr rfl))
  have := parse_of (s := bsD 0 n) (by have := deep_len 0 n hn; show (deepT 0 n).toArray.size ≤ 65536; simp; omega) (by show ∀ c ∈ (deepT 0 n).toArray.toList, _; simpa using deep_ascii 0 n) (by show Lexes (deepT 0 n).toArray.toList _; simpa using lex_0 n) (ks := parK n ++ [sSC]) (by simp only [List.map_append, List.map_cons, map_rep, List.map_nil]; unfold parK; simp; rfl) (by cases n with | zero => exact ⟨_, _, rfl, by decide⟩ | succ n => exact ⟨_, _, rfl, by decide⟩) hg
  rw [this]
  congr 1
  exact propext ⟨fun h => by omega, fun h => by omega⟩
theorem deep_1 (n : Nat) (hn : n ≤ 300) : (parseF (bsD 1 n)).2.2 = if 3 + 1 * n ≤ 100 then 0 else 4 := by
  have hg : Gives fst (n + 1 + 1 + 1) (banK n ++ [sSC]) [(0, noS)] := st_of_ex (by cases n with | zero => exact ⟨_, _, rfl, .inr (.inr rfl)⟩ | succ n => exact ⟨_, _, rfl, .inr (.inl rfl)⟩) (ex_of_un (.inr rfl) (un_ban n (.inr (.inl rfl))))
  have := parse_of (s := bsD 1 n) (by have := deep_len 1 n hn; show (deepT 1 n).toArray.size ≤ 65536; simp; omega) (by show ∀ c ∈ (deepT 1 n).toArray.toList, _; simpa using deep_ascii 1 n) (by show Lexes (deepT 1 n).toArray.toList _; rw [show (deepT 1 n).toArray.toList = deepT 1 n from by simp]; exact lex_ban n) (ks := banK n ++ [sSC]) (by simp only [List.map_append, List.map_cons, map_rep, List.map_nil]; unfold banK; simp; rfl) (by cases n with | zero => exact ⟨_, _, rfl, by decide⟩ | succ n => exact ⟨_, _, rfl, by decide⟩) hg
  rw [this]
  congr 1
  exact propext ⟨fun h => by omega, fun h => by omega⟩
theorem blkK_eq (n : Nat) : blkK n = List.replicate n sLB ++ sNM :: sSC :: List.replicate n sRB := by
  induction n with
  | zero => rfl
  | succ n ih => rw [blkK, ih, List.replicate_succ, List.replicate_succ']; simp
theorem deep_2 (n : Nat) (hn : n ≤ 300) : (parseF (bsD 2 n)).2.2 = if 3 + 1 * n ≤ 100 then 0 else 4 := by
  have := parse_of (s := bsD 2 n) (by have := deep_len 2 n hn; show (deepT 2 n).toArray.size ≤ 65536; simp; omega) (by show ∀ c ∈ (deepT 2 n).toArray.toList, _; simpa using deep_ascii 2 n) (by show Lexes (deepT 2 n).toArray.toList _; simpa using lex_2 n) (ks := blkK n) (by simp only [List.map_append, List.map_cons, map_rep, List.map_nil]; rw [blkK_eq]; simp; rfl) (by obtain ⟨k, r, h, hk⟩ := blkK_head n; exact ⟨k, r, h, by rcases hk with rfl | rfl <;> decide⟩) (st_blk n)
  rw [this]
  congr 1
  exact propext ⟨fun h => by omega, fun h => by omega⟩
theorem setK_eq (n : Nat) : setK n = (repT [tN [97], tSign [61]] n).map tkk ++ [sNM] := by
  induction n with
  | zero => rfl
  | succ n ih => rw [setK, ih]; rfl
theorem deep_3 (n : Nat) (hn : n ≤ 300) : (parseF (bsD 3 n)).2.2 = if 3 + 1 * n ≤ 100 then 0 else 4 := by
  have hg : Gives fst (2 + n + 1) (setK n ++ [sSC]) [(0, noS)] := st_of_ex (by cases n with | zero => exact ⟨_, _, rfl, .inr (.inr rfl)⟩ | succ n => exact ⟨_, _, rfl, .inr (.inr rfl)⟩) (ex_asg n (.inr rfl))
  have := parse_of (s := bsD 3 n) (by have := deep_len 3 n hn; show (deepT 3 n).toArray.size ≤ 65536; simp; omega) (by show ∀ c ∈ (deepT 3 n).toArray.toList, _; simpa using deep_ascii 3 n) (by show Lexes (deepT 3 n).toArray.toList _; rw [show (deepT 3 n).toArray.toList = deepT 3 n from by simp]; exact (lex_set n).1) (ks := setK n ++ [sSC]) (by rw [setK_eq]; simp only [List.map_append, List.map_cons, List.map_nil]; simp; exact ⟨rfl, rfl, rfl⟩) (by cases n with | zero => exact ⟨_, _, rfl, by decide⟩ | succ n => exact ⟨_, _, rfl, by decide⟩) hg
  rw [this]
  congr 1
  exact propext ⟨fun h => by omega, fun h => by omega⟩
theorem whlK_eq (n : Nat) : whlK n = (repT [tW [119, 104, 105, 108, 101], tSign [40], ⟨3, 1, ⟨#[]⟩⟩, tSign [41]] n).map tkk ++ [sNM, sSC] := by
  induction n with
  | zero => rfl
  | succ n ih => rw [whlK, ih]; rfl
theorem deep_4 (n : Nat) (hn : n ≤ 300) : (parseF (bsD 4 n)).2.2 = if 3 + 1 * n ≤ 100 then 0 else 4 := by
  have := parse_of (s := bsD 4 n) (by have := deep_len 4 n hn; show (deepT 4 n).toArray.size ≤ 65536; simp; omega) (by show ∀ c ∈ (deepT 4 n).toArray.toList, _; simpa using deep_ascii 4 n) (by show Lexes (deepT 4 n).toArray.toList _; rw [show (deepT 4 n).toArray.toList = deepT 4 n from by simp]; exact (lex_whl n).1) (ks := whlK n) (by rw [whlK_eq]; simp only [List.map_append, List.map_cons, List.map_nil]; simp; exact ⟨rfl, rfl, rfl⟩) (by cases n with | zero => exact ⟨_, _, rfl, by decide⟩ | succ n => exact ⟨_, _, rfl, by decide⟩) (st_whl n)
  rw [this]
  congr 1
  exact propext ⟨fun h => by omega, fun h => by omega⟩
end Go.Proofs.YtkknglmpdmhhjaaGreatDoor.Pr
