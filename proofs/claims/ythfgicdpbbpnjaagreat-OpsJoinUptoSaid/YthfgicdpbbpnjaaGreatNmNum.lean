/-
  Plain mathematics of decimal numerals: what digits spell, that a numeral spells its number, that reading a numeral gives the number back.
-/
import Derived.Lib.ItoaNum
import Derived.Lib.AtoiAll
namespace Go.Proofs.YthfgicdpbbpnjaaGreat.Nums
open Go
set_option linter.unusedVariables false

/-- Is n a number of the language? -/
def sf (n : Int) : Bool := decide (-9007199254740991 ≤ n ∧ n ≤ 9007199254740991)
theorem sf_true {n : Int} (h : sf n = true) : -9007199254740991 ≤ n ∧ n ≤ 9007199254740991 := of_decide_eq_true h
theorem sf_mk {n : Int} (h0 : -9007199254740991 ≤ n) (h1 : n ≤ 9007199254740991) : sf n = true := decide_eq_true ⟨h0, h1⟩
theorem sf_no {n : Int} (h : n < -9007199254740991 ∨ 9007199254740991 < n) : sf n = false := decide_eq_false (by omega)

/-- The number that digits spell. -/
def valD (l : List UInt8) : Nat := l.foldl (fun a c => a * 10 + (c.toNat - 48)) 0
theorem valD_snoc (l : List UInt8) (c : UInt8) : valD (l ++ [c]) = valD l * 10 + (c.toNat - 48) := by simp [valD]
theorem dig_nat (d : Nat) (h : d < 10) : (UInt8.ofNat (48 + d)).toNat = 48 + d := by
  rw [UInt8.toNat_ofNat']; omega

theorem val_dec (u : Nat) : valD (Lib.decDigits u) = u := by
  induction u using Nat.strongRecOn with
  | ind u ih =>
    rw [Lib.decDigits]
    split
    · simp only [valD, List.foldl_cons, List.foldl_nil, dig_nat u ‹_›]; omega
    · rw [valD_snoc, ih (u / 10) (by omega), dig_nat _ (by omega)]; omega

theorem dec_digits (u : Nat) : ∀ c ∈ Lib.decDigits u, 48 ≤ c.toNat ∧ c.toNat ≤ 57 := by
  induction u using Nat.strongRecOn with
  | ind u ih =>
    intro c hc
    rw [Lib.decDigits] at hc
    split at hc
    · have : c = UInt8.ofNat (48 + u) := by simpa using hc
      rw [this, dig_nat u ‹_›]; omega
    · rcases List.mem_append.1 hc with h | h
      · exact ih (u / 10) (by omega) c h
      · have : c = UInt8.ofNat (48 + u % 10) := by simpa using h
        rw [this, dig_nat _ (by omega)]; omega

theorem dec_ne (u : Nat) : Lib.decDigits u ≠ [] := by
  rw [Lib.decDigits]; split <;> simp

/-- No numeral but "0" begins with a 0. -/
theorem dec_head (u : Nat) : 1 ≤ u → ∀ c, (Lib.decDigits u).head? = some c → c.toNat ≠ 48 := by
  induction u using Nat.strongRecOn with
  | ind u ih =>
    intro h1 c hc
    rw [Lib.decDigits] at hc
    split at hc
    · have : UInt8.ofNat (48 + u) = c := by simpa using hc
      rw [← this, dig_nat u ‹_›]; omega
    · refine ih (u / 10) (by omega) (by omega) c ?_
      cases hx : Lib.decDigits (u / 10) with
      | nil => exact absurd hx (dec_ne _)
      | cons a r => rw [hx] at hc; simpa using hc

theorem dec_len (k : Nat) : ∀ u, u < 10 ^ (k + 1) → (Lib.decDigits u).length ≤ k + 1 := by
  induction k with
  | zero =>
    intro u h
    rw [Lib.decDigits, dif_pos (by simpa using h)]
    simp
  | succ k ih =>
    intro u h
    rw [Lib.decDigits]
    split
    · simp
    · have := ih (u / 10) (by rw [Nat.pow_succ] at h; omega)
      simp only [List.length_append, List.length_singleton]
      omega

/-- The number that a text spells. -/
def val (l : List UInt8) : Int :=
  match l with
  | [] => 0
  | c :: r => if c.toNat = 45 then -(valD r : Int) else valD (c :: r)

theorem val_digits {l : List UInt8} (h : ∀ c ∈ l, 48 ≤ c.toNat ∧ c.toNat ≤ 57) : val l = valD l := by
  cases l with
  | nil => rfl
  | cons c r =>
    have := h c (by simp)
    simp only [val, if_neg (show ¬ c.toNat = 45 by omega)]

theorem val_itoa (n : Int) : val (Lib.itoa n) = n := by
  unfold Lib.itoa
  split
  · simp only [val]
    rw [if_pos (by decide), val_dec]
    omega
  · rw [val_digits (dec_digits _), val_dec]
    omega
theorem itoa_inj {a b : Int} (h : Lib.itoa a = Lib.itoa b) : a = b := by rw [← val_itoa a, h, val_itoa]

/-! ### Reading a numeral by the library's rule -/

theorem fold_ge (l : List UInt8) : ∀ a, a ≤ l.foldl (fun a c => a * 10 + (c.toNat - 48)) a := by
  induction l with
  | nil => intro a; exact Nat.le_refl _
  | cons c r ih => intro a; have := ih (a * 10 + (c.toNat - 48)); simp only [List.foldl_cons]; omega

theorem parse_digits (l : List UInt8) : ∀ a, (∀ c ∈ l, 48 ≤ c.toNat ∧ c.toNat ≤ 57) → l.foldl (fun a c => a * 10 + (c.toNat - 48)) a < 18446744073709551616 →
    Lib.parseUint10 a l = .ok (l.foldl (fun a c => a * 10 + (c.toNat - 48)) a) := by
  induction l with
  | nil => intro a _ _; rfl
  | cons c r ih =>
    intro a hd hlt
    simp only [List.foldl_cons] at hlt ⊢
    have g := fold_ge r (a * 10 + (c.toNat - 48))
    simp only [Lib.parseUint10]
    rw [if_pos (hd c (by simp)), if_neg (by omega), if_neg (by omega)]
    exact ih _ (fun x hx => hd x (by simp [hx])) hlt

theorem parse_dec (u : Nat) (h : u < 18446744073709551616) : Lib.parseMag (Lib.decDigits u) = .ok u := by
  unfold Lib.parseMag
  rw [if_neg (dec_ne u), parse_digits _ 0 (dec_digits u) (by have := val_dec u; unfold valD at this; omega)]
  have := val_dec u
  unfold valD at this
  rw [this]

theorem atoi_itoa (n : Int) (h0 : -9223372036854775808 ≤ n) (h1 : n ≤ 9223372036854775807) : Lib.atoiAll (Lib.itoa n) = .ok n := by
  by_cases hn : n < 0
  · have e : Lib.itoa n = 45 :: Lib.decDigits n.natAbs := if_pos hn
    rw [e]
    simp only [Lib.atoiAll]
    rw [if_pos (by decide), parse_dec _ (by omega)]
    simp only
    rw [if_neg (by simp), if_neg (by omega), if_pos (by decide)]
    congr 1
    omega
  · have e : Lib.itoa n = Lib.decDigits n.toNat := if_neg hn
    rw [e]
    cases hd : Lib.decDigits n.toNat with
    | nil => exact absurd hd (dec_ne _)
    | cons c r =>
      have hc := dec_digits n.toNat c (by rw [hd]; simp)
      simp only [Lib.atoiAll]
      rw [if_neg (by omega), ← hd, parse_dec _ (by omega)]
      simp only
      rw [if_neg (by omega), if_neg (by omega), if_neg (by omega)]
      congr 1
      omega

/-! ### Which texts are numbers of the language -/

/-- The number of the language that a text is, if it is one. -/
def readF (l : List UInt8) : Option Int := if sf (val l) = true ∧ Lib.itoa (val l) = l then some (val l) else none
theorem readF_mk {n : Int} {l : List UInt8} (hs : sf n = true) (hl : Lib.itoa n = l) : readF l = some n := by
  have e : val l = n := by rw [← hl, val_itoa]
  unfold readF
  rw [e, if_pos ⟨hs, hl⟩]
theorem readF_some {n : Int} {l : List UInt8} (h : readF l = some n) : sf n = true ∧ Lib.itoa n = l := by
  unfold readF at h
  split at h
  · have := Option.some.inj h; rw [← this]; assumption
  · cases h
theorem readF_no {l : List UInt8} (h : ∀ n, sf n = true → Lib.itoa n = l → False) : readF l = none := by
  unfold readF
  rw [if_neg (fun hh => h _ hh.1 hh.2)]
theorem readF_itoa (n : Int) : readF (Lib.itoa n) = if sf n = true then some n else none := by
  split
  · exact readF_mk ‹_› rfl
  · exact readF_no fun m hm he => by rw [itoa_inj he] at hm; exact absurd hm ‹_›

/-- By the library's reading. -/
theorem readF_atoi {l : List UInt8} {v : Int} (h : Lib.atoiAll l = .ok v) : readF l = if sf v = true ∧ Lib.itoa v = l then some v else none := by
  split
  · exact readF_mk (by simp_all) (by simp_all)
  · refine readF_no fun n hn hl => ?_
    have := atoi_itoa n (by have := sf_true hn; omega) (by have := sf_true hn; omega)
    rw [hl, h] at this
    injection this with this
    subst this
    rename_i hno
    exact absurd (And.intro hn hl) hno
theorem readF_atoi_no {l : List UInt8} (h : ∀ v, Lib.atoiAll l ≠ .ok v) : readF l = none :=
  readF_no fun n hn hl => h n (by rw [← hl]; exact atoi_itoa n (by have := sf_true hn; omega) (by have := sf_true hn; omega))
/-- Digits that do not begin with a needless 0 are the numeral of what they spell. -/
theorem dec_of_digits (n : Nat) : ∀ l : List UInt8, l.length = n → l ≠ [] → (∀ c ∈ l, 48 ≤ c.toNat ∧ c.toNat ≤ 57) → (∀ c r, l = c :: r → c.toNat = 48 → r = []) → Lib.decDigits (valD l) = l := by
  induction n with
  | zero => intro l hl hne; exact absurd (List.length_eq_zero_iff.1 hl) hne
  | succ n ih =>
    intro l hl hne hd h0
    obtain ⟨l', c, rfl⟩ : ∃ l' c, l = l' ++ [c] := ⟨l.dropLast, l.getLast hne, (List.dropLast_concat_getLast hne).symm⟩
    have hc := hd c (by simp)
    have ec : UInt8.ofNat (48 + (c.toNat - 48)) = c := by
      apply UInt8.toNat_inj.1
      rw [dig_nat _ (by omega)]; omega
    by_cases he : l' = []
    · subst he
      have e1 : valD ([] ++ [c]) = c.toNat - 48 := by rw [valD_snoc]; simp [valD]
      rw [e1, Lib.decDigits, dif_pos (by omega), ec]
      rfl
    · have hlen : l'.length = n := by simpa using hl
      have hl0 : ∀ a r, l' = a :: r → a.toNat = 48 → r = [] := fun a r e ha => by
        have := h0 a (r ++ [c]) (by rw [e]; rfl) ha
        simp at this
      have e1 := ih l' hlen he (fun x hx => hd x (by simp [hx])) hl0
      have hpos : 1 ≤ valD l' := by
        rcases Nat.eq_zero_or_pos (valD l') with e0 | e0
        · rw [e0, Lib.decDigits, dif_pos (by omega)] at e1
          have h48 : (UInt8.ofNat (48 + 0)).toNat = 48 := dig_nat 0 (by omega)
          have := h0 (UInt8.ofNat (48 + 0)) [c] (by rw [← e1]; rfl) h48
          cases this
        · exact e0
      rw [valD_snoc, Lib.decDigits, dif_neg (by omega)]
      rw [show (valD l' * 10 + (c.toNat - 48)) / 10 = valD l' by omega, show (valD l' * 10 + (c.toNat - 48)) % 10 = c.toNat - 48 by omega, ec, e1]
end Go.Proofs.YthfgicdpbbpnjaaGreat.Nums
