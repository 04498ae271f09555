/-
  Plain mathematics of chapter 1: units, pairs of surrogates and code points.
-/
import Derived.Test.YthfgicdpbbpnjaaGreatUnEnc
namespace Go.Proofs.YthfgicdpbbpnjaaGreat.Uni

/-- The code points of a row of units. -/
def cps : List Nat → List Nat
  | [] => []
  | [a] => [a]
  | a :: b :: r => if isHi a = true ∧ isLo b = true then (65536 + (a - 55296) * 1024 + (b - 56320)) :: cps r else a :: cps (b :: r)
def text (u : List Nat) : List UInt8 := encs (cps u)

theorem isHi_iff {c : Nat} : isHi c = true ↔ 55296 ≤ c ∧ c < 56320 := by simp [isHi]
theorem isLo_iff {c : Nat} : isLo c = true ↔ 56320 ≤ c ∧ c ≤ 57343 := by simp [isLo]
theorem uns_cons (c : Nat) (r : List Nat) : uns (c :: r) = un c ++ uns r := by simp [uns]

theorem cps_bd : ∀ u : List Nat, (∀ x ∈ u, x < 65536) → ∀ c ∈ cps u, c ≤ 1114111
  | [], _, c, hc => by simp [cps] at hc
  | [a], h, c, hc => by simp [cps] at hc; have := h a (by simp); omega
  | a :: b :: r, h, c, hc => by
    simp only [cps] at hc
    split at hc
    · rename_i hp
      have h1 := isHi_iff.1 hp.1
      have h2 := isLo_iff.1 hp.2
      rw [List.mem_cons] at hc
      rcases hc with hc | hc
      · omega
      · exact cps_bd r (fun x hx => h x (by simp [hx])) c hc
    · simp only [List.mem_cons] at hc
      rcases hc with rfl | hc
      · have := h c (by simp); omega
      · exact cps_bd (b :: r) (fun x hx => h x (by simp at hx ⊢; right; exact hx)) c hc

theorem uns_cps : ∀ u : List Nat, (∀ x ∈ u, x < 65536) → uns (cps u) = u
  | [], _ => rfl
  | [a], h => by have := h a (by simp); simp [cps, uns, un_small this]
  | a :: b :: r, h => by
    have ha := h a (by simp)
    simp only [cps]
    split
    · rename_i hp
      have h1 := isHi_iff.1 hp.1
      have h2 := isLo_iff.1 hp.2
      rw [uns_cons, un_great (by omega), uns_cps r (fun x hx => h x (by simp [hx]))]
      simp
      omega
    · rw [uns_cons, un_small ha, uns_cps (b :: r) (fun x hx => h x (by simp at hx ⊢; right; exact hx))]
      rfl

/-- The first code point of a row of units is a low half only if the first unit is. -/
theorem cps_head (b : Nat) (r : List Nat) : ∃ c t, cps (b :: r) = c :: t ∧ (isLo c = true → isLo b = true) := by
  match r with
  | [] => exact ⟨b, [], rfl, id⟩
  | d :: r =>
    simp only [cps]
    split
    · rename_i hp
      have h1 := isHi_iff.1 hp.1
      have h2 := isLo_iff.1 hp.2
      exact ⟨_, _, rfl, fun h => by have := isLo_iff.1 h; omega⟩
    · exact ⟨_, _, rfl, id⟩

theorem np_any {L : List Nat} : ∀ {ah : Bool}, np false L = true → (∀ c t, L = c :: t → ah = true → isLo c = false) → np ah L = true := by
  cases L with
  | nil => intro ah _ _; rfl
  | cons c t =>
    intro ah h1 h2
    simp only [np] at h1 ⊢
    simp at h1
    simp only [h1, Bool.and_true, Bool.not_eq_true']
    cases ah with
    | false => rfl
    | true => simpa using h2 c t rfl rfl

theorem np_cps : ∀ u : List Nat, np false (cps u) = true
  | [] => rfl
  | [a] => by simp [cps, np]
  | a :: b :: r => by
    simp only [cps]
    split
    · rename_i hp
      have h1 := isHi_iff.1 hp.1
      have h2 := isLo_iff.1 hp.2
      have e : isHi (65536 + (a - 55296) * 1024 + (b - 56320)) = false := by simp [isHi]; omega
      simp [np, e, np_cps r]
    · rename_i hp
      obtain ⟨c, t, hct, hlo⟩ := cps_head b r
      have ih := np_cps (b :: r)
      simp only [np, Bool.false_and, Bool.not_false, Bool.true_and]
      refine np_any ih ?_
      intro c' t' e ha
      rw [hct] at e
      obtain ⟨rfl, rfl⟩ := List.cons.inj e
      cases hl : isLo c with
      | false => rfl
      | true => exact absurd ⟨ha, hlo hl⟩ hp

theorem un_not_lo {c : Nat} (h : 65536 ≤ c) (hc : c ≤ 1114111) : isHi (55296 + (c - 65536) / 1024) = true ∧ isLo (56320 + (c - 65536) % 1024) = true := by
  rw [isHi_iff, isLo_iff]; omega

/-- The units of a row, taken together again: the first unit of what follows must not make a pair. -/
theorem cps_un (c : Nat) (hc : c ≤ 1114111) (u : List Nat) (h : ∀ b t, u = b :: t → isHi c = true → isLo b = false) : cps (un c ++ u) = c :: cps u := by
  by_cases hb : c < 65536
  · rw [un_small hb]
    match u, h with
    | [], _ => rfl
    | b :: t, h =>
      show cps (c :: b :: t) = _
      simp only [cps]
      rw [if_neg (by
        rintro ⟨h1, h2⟩
        have := h b t rfl h1
        rw [this] at h2
        cases h2)]
  · rw [un_great hb]
    have ⟨h1, h2⟩ := un_not_lo (c := c) (by omega) hc
    show cps ((55296 + (c - 65536) / 1024) :: (56320 + (c - 65536) % 1024) :: u) = _
    have e : 65536 + (55296 + (c - 65536) / 1024 - 55296) * 1024 + (56320 + (c - 65536) % 1024 - 56320) = c := by omega
    simp only [cps]
    rw [if_pos ⟨h1, h2⟩, e]

theorem uns_head {c : Nat} {r : List Nat} {b : Nat} {t : List Nat} (hc : c ≤ 1114111) (h : uns (c :: r) = b :: t) (hl : isLo b = true) : isLo c = true := by
  rw [uns_cons] at h
  have h2 := isLo_iff.1 hl
  by_cases hb : c < 65536
  · rw [un_small hb] at h
    simp at h
    rw [h.1]
    exact hl
  · rw [un_great hb] at h
    have h3 := (List.cons.inj h).1
    omega

theorem cps_uns : ∀ L : List Nat, (∀ c ∈ L, c ≤ 1114111) → np false L = true → cps (uns L) = L
  | [], _, _ => rfl
  | c :: r, hb, hp => by
    have hr : np false r = true := by
      simp only [np] at hp
      simp at hp
      revert hp
      cases r with
      | nil => intro _; rfl
      | cons d r => simp only [np]; intro hp; simp at hp ⊢; exact hp.2
    rw [uns_cons, cps_un c (hb c (by simp)), cps_uns r (fun x hx => hb x (by simp [hx])) hr]
    intro b t hbt hi
    cases hl : isLo b with
    | false => rfl
    | true =>
      match r, hbt, hb, hp with
      | [], hbt, _, _ => simp [uns] at hbt
      | d :: r, hbt, hb, hp =>
        have := uns_head (hb d (by simp)) hbt hl
        simp only [np] at hp
        simp [hi, this] at hp

def lh : Bool → List Nat → Bool
  | ah, [] => ah
  | _, c :: r => lh (isHi c) r
theorem np_append (A C : List Nat) : ∀ ah, np ah (A ++ C) = (np ah A && np (lh ah A) C) := by
  induction A with
  | nil => intro ah; simp [np, lh]
  | cons c r ih => intro ah; simp [np, lh, ih, Bool.and_assoc]
theorem lh_snoc (A : List Nat) (c : Nat) : ∀ ah, lh ah (A ++ [c]) = isHi c := by
  induction A with
  | nil => intro ah; rfl
  | cons d r ih => intro ah; simp [lh, ih]
theorem uns_append (A C : List Nat) : uns (A ++ C) = uns A ++ uns C := by simp [uns]
theorem encs_append (A C : List Nat) : encs (A ++ C) = encs A ++ encs C := by simp [encs]

theorem np_false {ah : Bool} {L : List Nat} (h : np ah L = true) : np false L = true := by
  cases L with
  | nil => rfl
  | cons c r => simp only [np] at h ⊢; simp at h ⊢; exact h.2

/-- What joins two rows without a pair at the seam. -/
theorem text_flat {A C : List Nat} (ha : ∀ c ∈ A, c ≤ 1114111) (hc : ∀ c ∈ C, c ≤ 1114111) (na : np false A = true) (nc : np false C = true) (hs : lh false A = false ∨ ∀ c t, C = c :: t → isLo c = false) :
    text (uns A ++ uns C) = encs A ++ encs C := by
  have h1 : np (lh false A) C = true := by
    rcases hs with hs | hs
    · rw [hs]; exact nc
    · exact np_any nc (fun c t e _ => hs c t e)
  unfold text
  rw [← uns_append, cps_uns _ (fun c h => (List.mem_append.1 h).elim (ha c) (hc c)) (by rw [np_append, na, h1]; rfl), encs_append]

/-- What joins two rows with a pair at the seam. -/
theorem text_pair {A C : List Nat} {h l : Nat} (ha : ∀ c ∈ A ++ [h], c ≤ 1114111) (hc : ∀ c ∈ l :: C, c ≤ 1114111) (na : np false (A ++ [h]) = true) (nc : np false (l :: C) = true) (hh : isHi h = true) (hl : isLo l = true) :
    text (uns (A ++ [h]) ++ uns (l :: C)) = encs A ++ enc (65536 + (h - 55296) * 1024 + (l - 56320)) ++ encs C := by
  have b1 := isHi_iff.1 hh
  have b2 := isLo_iff.1 hl
  obtain ⟨m, hm⟩ : ∃ m, m = 65536 + (h - 55296) * 1024 + (l - 56320) := ⟨_, rfl⟩
  have hmb : m ≤ 1114111 := by omega
  have hun : un m = [h, l] := by
    rw [un_great (by omega)]
    have e1 : 55296 + (m - 65536) / 1024 = h := by omega
    have e2 : 56320 + (m - 65536) % 1024 = l := by omega
    rw [e1, e2]
  have e : uns (A ++ [h]) ++ uns (l :: C) = uns (A ++ m :: C) := by
    rw [uns_append, uns_append, uns_cons, uns_cons, uns_cons, hun, un_small (by omega), un_small (by omega)]
    simp [uns]
  have hmh : isHi m = false := by cases x : isHi m with
    | false => rfl
    | true => have := isHi_iff.1 x; omega
  have hml : isLo m = false := by cases x : isLo m with
    | false => rfl
    | true => have := isLo_iff.1 x; omega
  have hlh : isHi l = false := by cases x : isHi l with
    | false => rfl
    | true => have := isHi_iff.1 x; omega
  have hnp : np false (A ++ m :: C) = true := by
    rw [np_append] at na ⊢
    simp only [np] at nc ⊢
    simp [hlh] at nc
    simp at na
    simp [na.1, hml, hmh, nc]
  unfold text
  rw [← hm, e, cps_uns _ (by
    intro c hx
    rcases List.mem_append.1 hx with hx | hx
    · exact ha c (by simp [hx])
    · rcases List.mem_cons.1 hx with hx | hx
      · omega
      · exact hc c (by simp [hx])) hnp, encs_append, encs_cons, List.append_assoc]
end Go.Proofs.YthfgicdpbbpnjaaGreat.Uni
