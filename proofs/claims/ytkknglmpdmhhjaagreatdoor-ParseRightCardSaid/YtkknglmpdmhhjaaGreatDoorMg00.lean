/-
  Texts of this seat in build order: NmNum, UnMath, UnPtm.
-/
import Derived.Lib.ItoaNum
import Derived.Lib.AtoiAll
import Derived.Laws.RangeString
import Derived.Laws.RangeAny
/-
  Plain mathematics of decimal numerals: what digits spell, that a numeral spells its number, that reading a numeral gives the number back.
-/
namespace Go.Proofs.YtkknglmpdmhhjaaGreatDoor.Nums
open Go
set_option linter.unusedVariables false

/-- Is n a number of the language? -/
def sf (n : Int) : Bool := decide (-9007199254740991 ≤ n ∧ n ≤ 9007199254740991)
theorem sf_true {n : Int} (h : sf n = true) : -9007199254740991 ≤ n ∧ n ≤ 9007199254740991 := of_decide_eq_true h
theorem sf_mk {n : Int} (h0 : -9007199254740991 ≤ n) (h1 : n ≤ 9007199254740991) : sf n = true := decide_eq_true ⟨h0, h1⟩
theorem sf_no {n : Int} (h : n < -9007199254740991 ∨ 9007199254740991 < n) : sf n = false := decide_eq_false (by omega)

/-- The number that digits spell. -/
def valD (l : List UInt8) : Nat := l.foldl (fun a c => a * 10 + (c.toNat - 48)) 0
theorem valD_snoc (l : List UInt8) (c : UInt8) : valD (l ++ [c]) = valD l * 10 + (c.toNat - 48) := by simp [valD]
theorem dig_nat (d : Nat) (h : d < 10) : (UInt8.ofNat (48 + d)).toNat = 48 + d := by
  rw [UInt8.toNat_ofNat']; omega

theorem val_dec (u : Nat) : valD (Lib.decDigits u) = u := by
  induction u using Nat.strongRecOn with
  | ind u ih =>
    rw [Lib.decDigits]
    split
    · simp only [valD, List.foldl_cons, List.foldl_nil, dig_nat u ‹_›]; omega
    · rw [valD_snoc, ih (u / 10) (by omega), dig_nat _ (by omega)]; omega

theorem dec_digits (u : Nat) : ∀ c ∈ Lib.decDigits u, 48 ≤ c.toNat ∧ c.toNat ≤ 57 := by
  induction u using Nat.strongRecOn with
  | ind u ih =>
    intro c hc
    rw [Lib.decDigits] at hc
    split at hc
    · have : c = UInt8.ofNat (48 + u) := by simpa using hc
      rw [this, dig_nat u ‹_›]; omega
    · rcases List.mem_append.1 hc with h | h
      · exact ih (u / 10) (by omega) c h
      · have : c = UInt8.ofNat (48 + u % 10) := by simpa using h
        rw [this, dig_nat _ (by omega)]; omega

theorem dec_ne (u : Nat) : Lib.decDigits u ≠ [] := by
  rw [Lib.decDigits]; split <;> simp

/-- No numeral but "0" begins with a 0. -/
theorem dec_head (u : Nat) : 1 ≤ u → ∀ c, (Lib.decDigits u).head? = some c → c.toNat ≠ 48 := by
  induction u using Nat.strongRecOn with
  | ind u ih =>
    intro h1 c hc
    rw [Lib.decDigits] at hc
    split at hc
    · have : UInt8.ofNat (48 + u) = c := by simpa using hc
      rw [← this, dig_nat u ‹_›]; omega
    · refine ih (u / 10) (by omega) (by omega) c ?_
      cases hx : Lib.decDigits (u / 10) with
      | nil => exact absurd hx (dec_ne _)
      | cons a r => rw [hx] at hc; simpa using hc

theorem dec_len (k : Nat) : ∀ u, u < 10 ^ (k + 1) → (Lib.decDigits u).length ≤ k + 1 := by
  induction k with
  | zero =>
    intro u h
    rw [Lib.decDigits, dif_pos (by simpa using h)]
    simp
  | succ k ih =>
    intro u h
    rw [Lib.decDigits]
    split
    · simp
    · have := ih (u / 10) (by rw [Nat.pow_succ] at h; omega)
      simp only [List.length_append, List.length_singleton]
      omega

/-- The number that a text spells. -/
def val (l : List UInt8) : Int :=
  match l with
  | [] => 0
  | c :: r => if c.toNat = 45 then -(valD r : Int) else valD (c :: r)

theorem val_digits {l : List UInt8} (h : ∀ c ∈ l, 48 ≤ c.toNat ∧ c.toNat ≤ 57) : val l = valD l := by
  cases l with
  | nil => rfl
  | cons c r =>
    have := h c (by simp)
    simp only [val, if_neg (show ¬ c.toNat = 45 by omega)]

theorem val_itoa (n : Int) : val (Lib.itoa n) = n := by
  unfold Lib.itoa
  split
  · simp only [val]
    rw [if_pos (by decide), val_dec]
    omega
  · rw [val_digits (dec_digits _), val_dec]
    omega
theorem itoa_inj {a b : Int} (h : Lib.itoa a = Lib.itoa b) : a = b := by rw [← val_itoa a, h, val_itoa]

/-! ### Reading a numeral by the library's rule -/

theorem fold_ge (l : List UInt8) : ∀ a, a ≤ l.foldl (fun a c => a * 10 + (c.toNat - 48)) a := by
  induction l with
  | nil => intro a; exact Nat.le_refl _
  | cons c r ih => intro a; have := ih (a * 10 + (c.toNat - 48)); simp only [List.foldl_cons]; omega

theorem parse_digits (l : List UInt8) : ∀ a, (∀ c ∈ l, 48 ≤ c.toNat ∧ c.toNat ≤ 57) → l.foldl (fun a c => a * 10 + (c.toNat - 48)) a < 18446744073709551616 →
    Lib.parseUint10 a l = .ok (l.foldl (fun a c => a * 10 + (c.toNat - 48)) a) := by
  induction l with
  | nil => intro a _ _; rfl
  | cons c r ih =>
    intro a hd hlt
    simp only [List.foldl_cons] at hlt ⊢
    have g := fold_ge r (a * 10 + (c.toNat - 48))
    simp only [Lib.parseUint10]
    rw [if_pos (hd c (by simp)), if_neg (by omega), if_neg (by omega)]
    exact ih _ (fun x hx => hd x (by simp [hx])) hlt

theorem parse_dec (u : Nat) (h : u < 18446744073709551616) : Lib.parseMag (Lib.decDigits u) = .ok u := by
  unfold Lib.parseMag
  rw [if_neg (dec_ne u), parse_digits _ 0 (dec_digits u) (by have := val_dec u; unfold valD at this; omega)]
  have := val_dec u
  unfold valD at this
  rw [this]

theorem atoi_itoa (n : Int) (h0 : -9223372036854775808 ≤ n) (h1 : n ≤ 9223372036854775807) : Lib.atoiAll (Lib.itoa n) = .ok n := by
  by_cases hn : n < 0
  · have e : Lib.itoa n = 45 :: Lib.decDigits n.natAbs := if_pos hn
    rw [e]
    simp only [Lib.atoiAll]
    rw [if_pos (by decide), parse_dec _ (by omega)]
    simp only
    rw [if_neg (by simp), if_neg (by omega), if_pos (by decide)]
    congr 1
    omega
  · have e : Lib.itoa n = Lib.decDigits n.toNat := if_neg hn
    rw [e]
    cases hd : Lib.decDigits n.toNat with
    | nil => exact absurd hd (dec_ne _)
    | cons c r =>
      have hc := dec_digits n.toNat c (by rw [hd]; simp)
      simp only [Lib.atoiAll]
      rw [if_neg (by omega), ← hd, parse_dec _ (by omega)]
      simp only
      rw [if_neg (by omega), if_neg (by omega), if_neg (by omega)]
      congr 1
      omega

/-! ### Which texts are numbers of the language -/

/-- The number of the language that a text is, if it is one. -/
def readF (l : List UInt8) : Option Int := if sf (val l) = true ∧ Lib.itoa (val l) = l then some (val l) else none
theorem readF_mk {n : Int} {l : List UInt8} (hs : sf n = true) (hl : Lib.itoa n = l) : readF l = some n := by
  have e : val l = n := by rw [← hl, val_itoa]
  unfold readF
  rw [e, if_pos ⟨hs, hl⟩]
theorem readF_some {n : Int} {l : List UInt8} (h : readF l = some n) : sf n = true ∧ Lib.itoa n = l := by
  unfold readF at h
  split at h
  · have := Option.some.inj h; rw [← this]; assumption
  · cases h
theorem readF_no {l : List UInt8} (h : ∀ n, sf n = true → Lib.itoa n = l → False) : readF l = none := by
  unfold readF
  rw [if_neg (fun hh => h _ hh.1 hh.2)]
theorem readF_itoa (n : Int) : readF (Lib.itoa n) = if sf n = true then some n else none := by
  split
  · exact readF_mk ‹_› rfl
  · exact readF_no fun m hm he => by rw [itoa_inj he] at hm; exact absurd hm ‹_›

/-- By the library's reading. -/
theorem readF_atoi {l : List UInt8} {v : Int} (h : Lib.atoiAll l = .ok v) : readF l = if sf v = true ∧ Lib.itoa v = l then some v else none := by
  split
  · exact readF_mk (by simp_all) (by simp_all)
  · refine readF_no fun n hn hl => ?_
    have := atoi_itoa n (by have := sf_true hn; omega) (by have := sf_true hn; omega)
    rw [hl, h] at this
    injection this with this
    subst this
    rename_i hno
    exact absurd (And.intro hn hl) hno
theorem readF_atoi_no {l : List UInt8} (h : ∀ v, Lib.atoiAll l ≠ .ok v) : readF l = none :=
  readF_no fun n hn hl => h n (by rw [← hl]; exact atoi_itoa n (by have := sf_true hn; omega) (by have := sf_true hn; omega))
/-- Digits that do not begin with a needless 0 are the numeral of what they spell. -/
theorem dec_of_digits (n : Nat) : ∀ l : List UInt8, l.length = n → l ≠ [] → (∀ c ∈ l, 48 ≤ c.toNat ∧ c.toNat ≤ 57) → (∀ c r, l = c :: r → c.toNat = 48 → r = []) → Lib.decDigits (valD l) = l := by
  induction n with
  | zero => intro l hl hne; exact absurd (List.length_eq_zero_iff.1 hl) hne
  | succ n ih =>
    intro l hl hne hd h0
    obtain ⟨l', c, rfl⟩ : ∃ l' c, l = l' ++ [c] := ⟨l.dropLast, l.getLast hne, (List.dropLast_concat_getLast hne).symm⟩
    have hc := hd c (by simp)
    have ec : UInt8.ofNat (48 + (c.toNat - 48)) = c := by
      apply UInt8.toNat_inj.1
      rw [dig_nat _ (by omega)]; omega
    by_cases he : l' = []
    · subst he
      have e1 : valD ([] ++ [c]) = c.toNat - 48 := by rw [valD_snoc]; simp [valD]
      rw [e1, Lib.decDigits, dif_pos (by omega), ec]
      rfl
    · have hlen : l'.length = n := by simpa using hl
      have hl0 : ∀ a r, l' = a :: r → a.toNat = 48 → r = [] := fun a r e ha => by
        have := h0 a (r ++ [c]) (by rw [e]; rfl) ha
        simp at this
      have e1 := ih l' hlen he (fun x hx => hd x (by simp [hx])) hl0
      have hpos : 1 ≤ valD l' := by
        rcases Nat.eq_zero_or_pos (valD l') with e0 | e0
        · rw [e0, Lib.decDigits, dif_pos (by omega)] at e1
          have h48 : (UInt8.ofNat (48 + 0)).toNat = 48 := dig_nat 0 (by omega)
          have := h0 (UInt8.ofNat (48 + 0)) [c] (by rw [← e1]; rfl) h48
          cases this
        · exact e0
      rw [valD_snoc, Lib.decDigits, dif_neg (by omega)]
      rw [show (valD l' * 10 + (c.toNat - 48)) / 10 = valD l' by omega, show (valD l' * 10 + (c.toNat - 48)) % 10 = c.toNat - 48 by omega, ec, e1]
end Go.Proofs.YtkknglmpdmhhjaaGreatDoor.Nums

/-
  Plain mathematics of chapter 1: bytes, code points and 16-bit units; nothing here speaks of the program.
-/
namespace Go.Proofs.YtkknglmpdmhhjaaGreatDoor.Uni

/-- The byte at a place, 0 beyond the end. -/
def B (s : ByteArray) (k : Nat) : Nat := (s.data.toList[k]?.getD 0).toNat

theorem B_lt (s : ByteArray) (k : Nat) : B s k < 256 := by unfold B; exact UInt8.toNat_lt _
theorem B_get (s : ByteArray) (k : Nat) (h : k < s.size) : (s[k]'h).toNat = B s k := by
  unfold B
  have h' : k < s.data.toList.length := by simpa using h
  rw [List.getElem?_eq_getElem h']
  rfl
theorem B_get! (s : ByteArray) (k : Nat) : (s.get! k).toNat = B s k := by
  by_cases h : k < s.size
  · rw [← B_get s k h]
    have := get_at s k h
    simp only [Nat.add_zero] at this
    rw [this]
  · unfold B
    have h' : ¬ k < s.data.size := by simpa using h
    have e : s.data[k]? = none := by simp; exact Nat.le_of_not_lt h'
    have e2 : s.data[k]! = default := by rw [getElem!_def, e]
    simp only [ByteArray.get!, e2]
    have e3 : s.data.toList[k]? = none := by simp; exact Nat.le_of_not_lt h'
    rw [e3]
    rfl
theorem B_out (s : ByteArray) (k : Nat) (h : s.size ≤ k) : B s k = 0 := by
  unfold B
  rw [List.getElem?_eq_none (by simpa using h)]
  rfl
theorem B_extract (s : ByteArray) (i k : Nat) : B (s.extract i s.size) k = B s (i + k) := by
  by_cases h : i + k < s.size
  · have h' : k < (s.extract i s.size).size := by simp; omega
    rw [← B_get _ _ h', ← B_get _ _ h]
    congr 1
    exact ByteArray.getElem_extract h'
  · rw [B_out s (i + k) (by omega), B_out _ k (by simp; omega)]

/-- Does a single surrogate's encoding stand at a place? -/
def surB (s : ByteArray) (i : Nat) : Bool := decide (i + 3 ≤ s.size ∧ B s i = 237 ∧ B s (i + 1) / 32 = 5 ∧ B s (i + 2) / 64 = 2)
def surV (s : ByteArray) (i : Nat) : Nat := 53248 + B s (i + 1) % 64 * 64 + B s (i + 2) % 64

theorem sur_at (s : ByteArray) (i : Nat) : surB (s.extract i s.size) 0 = surB s i := by
  unfold surB
  simp only [B_extract, Nat.zero_add, Nat.add_zero]
  have : (3 ≤ (s.extract i s.size).size) ↔ (i + 3 ≤ s.size) := by simp; omega
  simp only [this]
theorem surV_at (s : ByteArray) (i : Nat) : surV (s.extract i s.size) 0 = surV s i := by
  unfold surV
  simp only [B_extract, Nat.zero_add]
theorem surB_iff {s : ByteArray} {i : Nat} (h : surB s i = true) : i + 3 ≤ s.size ∧ B s i = 237 ∧ B s (i + 1) / 32 = 5 ∧ B s (i + 2) / 64 = 2 := of_decide_eq_true h
theorem surB_not {s : ByteArray} {i : Nat} (h : surB s i = false) : ¬ (i + 3 ≤ s.size ∧ B s i = 237 ∧ B s (i + 1) / 32 = 5 ∧ B s (i + 2) / 64 = 2) := of_decide_eq_false h
theorem surV_bd {s : ByteArray} {i : Nat} (h : surB s i = true) : 55296 ≤ surV s i ∧ surV s i ≤ 57343 := by
  obtain ⟨_, _, h1, h2⟩ := surB_iff h
  have := B_lt s (i + 1)
  unfold surV
  omega

/-- The model's decoding, in bytes' numbers. -/
theorem dec_eq (s : ByteArray) (i : Nat) : Utf8.decode s i =
    (if B s i < 128 then (B s i, 1)
     else if B s i / 32 = 6 ∧ i + 1 < s.size ∧ B s (i + 1) / 64 = 2 then
       (if 128 ≤ (B s i % 32) * 64 + B s (i + 1) % 64 then ((B s i % 32) * 64 + B s (i + 1) % 64, 2) else (65533, 1))
     else if B s i / 16 = 14 ∧ i + 1 < s.size ∧ B s (i + 1) / 64 = 2 ∧ i + 2 < s.size ∧ B s (i + 2) / 64 = 2 then
       (if 2048 ≤ (B s i % 16) * 4096 + B s (i + 1) % 64 * 64 + B s (i + 2) % 64 ∧ ((B s i % 16) * 4096 + B s (i + 1) % 64 * 64 + B s (i + 2) % 64 < 55296 ∨ 57344 ≤ (B s i % 16) * 4096 + B s (i + 1) % 64 * 64 + B s (i + 2) % 64)
        then ((B s i % 16) * 4096 + B s (i + 1) % 64 * 64 + B s (i + 2) % 64, 3) else (65533, 1))
     else if B s i / 8 = 30 ∧ i + 1 < s.size ∧ B s (i + 1) / 64 = 2 ∧ i + 2 < s.size ∧ B s (i + 2) / 64 = 2 ∧ i + 3 < s.size ∧ B s (i + 3) / 64 = 2 then
       (if 65536 ≤ (B s i % 8) * 262144 + B s (i + 1) % 64 * 4096 + B s (i + 2) % 64 * 64 + B s (i + 3) % 64 ∧ (B s i % 8) * 262144 + B s (i + 1) % 64 * 4096 + B s (i + 2) % 64 * 64 + B s (i + 3) % 64 ≤ 1114111
        then ((B s i % 8) * 262144 + B s (i + 1) % 64 * 4096 + B s (i + 2) % 64 * 64 + B s (i + 3) % 64, 4) else (65533, 1))
     else (65533, 1)) := by
  unfold Utf8.decode Utf8.valid Utf8.runeError
  simp only [B_get!, Nat.add_zero, ge_iff_le]
  have h0 := B_lt s i
  have h1 := B_lt s (i + 1)
  have h2 := B_lt s (i + 2)
  have h3 := B_lt s (i + 3)
  by_cases a : B s i < 128
  · rw [if_pos a, if_pos a]
  · rw [if_neg a, if_neg a]
    by_cases b : B s i / 32 = 6 ∧ i + 1 < s.size ∧ B s (i + 1) / 64 = 2
    · rw [if_pos (by simp [b]), if_pos b]
    · rw [if_neg (by simp; intro x y; omega), if_neg b]
      by_cases c : B s i / 16 = 14 ∧ i + 1 < s.size ∧ B s (i + 1) / 64 = 2 ∧ i + 2 < s.size ∧ B s (i + 2) / 64 = 2
      · rw [if_pos (by simp [c]), if_pos c]
        refine ite_congr ?_ (fun _ => rfl) (fun _ => rfl)
        simp
        intro _
        omega
      · rw [if_neg (by simp; intro x y; omega), if_neg c]
        by_cases d : B s i / 8 = 30 ∧ i + 1 < s.size ∧ B s (i + 1) / 64 = 2 ∧ i + 2 < s.size ∧ B s (i + 2) / 64 = 2 ∧ i + 3 < s.size ∧ B s (i + 3) / 64 = 2
        · rw [if_pos (by simp [d]), if_pos d]
          refine ite_congr ?_ (fun _ => rfl) (fun _ => rfl)
          simp
          intro _
          omega
        · rw [if_neg (by simp; intro x y; omega), if_neg d]

theorem decode_sur {s : ByteArray} {i : Nat} (h : surB s i = true) : Utf8.decode s i = (65533, 1) ∧ Utf8.decode s (i + 1) = (65533, 1) ∧ Utf8.decode s (i + 2) = (65533, 1) := by
  obtain ⟨h0, h1, h2, h3⟩ := surB_iff h
  have := B_lt s (i + 1)
  have := B_lt s (i + 2)
  refine ⟨?_, ?_, ?_⟩
  · rw [dec_eq]
    rw [if_neg (by omega), if_neg (by omega), if_pos (by omega), if_neg (by omega)]
  · rw [dec_eq]
    rw [if_neg (by omega), if_neg (by omega), if_neg (by omega), if_neg (by omega)]
  · rw [dec_eq]
    rw [if_neg (by omega), if_neg (by omega), if_neg (by omega), if_neg (by omega)]

/-- What decoding gives, put short. -/
theorem decode_cases (s : ByteArray) (i : Nat) (hi : i < s.size) :
    (Utf8.decode s i = (65533, 1)) ∨
    (1 ≤ (Utf8.decode s i).2 ∧ i + (Utf8.decode s i).2 ≤ s.size ∧ (Utf8.decode s i).2 ≤ 4 ∧ (Utf8.decode s i).1 ≤ 1114111 ∧ ((Utf8.decode s i).1 < 55296 ∨ 57344 ≤ (Utf8.decode s i).1) ∧
      ((Utf8.decode s i).1 = 65533 → (Utf8.decode s i).2 = 3)) := by
  have h0 := B_lt s i
  have h1 := B_lt s (i + 1)
  have h2 := B_lt s (i + 2)
  have h3 := B_lt s (i + 3)
  rw [dec_eq]
  split
  · right; simp; omega
  · split
    · split
      · right; simp; omega
      · left; rfl
    · split
      · split
        · right; simp; omega
        · left; rfl
      · split
        · split
          · right; simp; omega
          · left; rfl
        · left; rfl

/-- The three bytes of the replacement character, and decoding. -/
theorem decode_fffd (s : ByteArray) (i : Nat) : Utf8.decode s i = (65533, 3) ↔ (i + 3 ≤ s.size ∧ B s i = 239 ∧ B s (i + 1) = 191 ∧ B s (i + 2) = 189) := by
  have h0 := B_lt s i
  have h1 := B_lt s (i + 1)
  have h2 := B_lt s (i + 2)
  have h3 := B_lt s (i + 3)
  constructor
  · intro h
    rw [dec_eq] at h
    split at h
    · simp at h
    · split at h
      · split at h <;> simp at h
      · split at h
        · split at h
          · simp at h; omega
          · simp at h
        · split at h
          · split at h <;> simp at h
          · simp at h
  · intro h
    rw [dec_eq]
    rw [if_neg (by omega), if_neg (by omega), if_pos (by omega), if_pos (by omega)]
    simp; omega

/-- The code point at a place and how many bytes it has; 0 bytes: there is none. -/
def pt (s : ByteArray) (i : Nat) : Nat × Nat :=
  if surB s i then (surV s i, 3) else if Utf8.decode s i = (65533, 1) then (0, 0) else Utf8.decode s i
def isHi (c : Nat) : Bool := decide (55296 ≤ c ∧ c < 56320)
def isLo (c : Nat) : Bool := decide (56320 ≤ c ∧ c ≤ 57343)

/-- The code points from a place on; 'none': the text isn't valid there. 'ah': the one before is a high half. -/
def dec (s : ByteArray) : Nat → Nat → Bool → Option (List Nat)
  | 0, _, _ => some []
  | f + 1, i, ah => if i < s.size then (if (pt s i).2 = 0 ∨ (ah = true ∧ isLo (pt s i).1 = true) then none else (dec s f (i + (pt s i).2) (isHi (pt s i).1)).map ((pt s i).1 :: ·)) else some []
def pts (s : ByteArray) : Option (List Nat) := dec s s.size 0 false

/-- What has been taken so far, and what is still to come. -/
def Went (s : ByteArray) (done : List Nat) (f i : Nat) (ah : Bool) : Prop :=
  s.size ≤ i + f ∧ i ≤ s.size ∧ done.length ≤ i ∧ pts s = (dec s f i ah).map (done ++ ·)
theorem went_start (s : ByteArray) : Went s [] s.size 0 false := by
  refine ⟨by omega, by omega, by simp, ?_⟩
  unfold pts
  cases dec s s.size 0 false <;> simp
theorem went_end {s : ByteArray} {done : List Nat} {f i : Nat} {ah : Bool} (h : Went s done f i ah) (hi : ¬ i < s.size) : pts s = some done := by
  rw [h.2.2.2]
  cases f with
  | zero => simp [dec]
  | succ f => simp [dec, hi]
theorem went_step {s : ByteArray} {done : List Nat} {f i : Nat} {ah : Bool} (h : Went s done f i ah) (hi : i < s.size) (hn : 1 ≤ (pt s i).2) (hs : i + (pt s i).2 ≤ s.size)
    (ha : ¬ (ah = true ∧ isLo (pt s i).1 = true)) : ∃ g, Went s (done ++ [(pt s i).1]) g (i + (pt s i).2) (isHi (pt s i).1) := by
  obtain ⟨h1, h2, h3, h4⟩ := h
  obtain ⟨g, rfl⟩ : ∃ g, f = g + 1 := ⟨f - 1, by omega⟩
  refine ⟨g, by omega, hs, by simp; omega, ?_⟩
  rw [h4]
  simp only [dec, hi, if_true]
  rw [if_neg (fun x => x.elim (by omega) ha)]
  cases dec s g (i + (pt s i).2) (isHi (pt s i).1) <;> simp
theorem went_none {s : ByteArray} {done : List Nat} {f i : Nat} {ah : Bool} (h : Went s done f i ah) (hi : i < s.size) (hn : (pt s i).2 = 0) : pts s = none := by
  obtain ⟨h1, h2, h3, h4⟩ := h
  obtain ⟨g, rfl⟩ : ∃ g, f = g + 1 := ⟨f - 1, by omega⟩
  rw [h4]
  simp [dec, hi, hn]
theorem went_pair {s : ByteArray} {done : List Nat} {f i : Nat} {ah : Bool} (h : Went s done f i ah) (hi : i < s.size) (ha : ah = true) (hl : isLo (pt s i).1 = true) : pts s = none := by
  obtain ⟨h1, h2, h3, h4⟩ := h
  obtain ⟨g, rfl⟩ : ∃ g, f = g + 1 := ⟨f - 1, by omega⟩
  rw [h4]
  simp [dec, hi, ha, hl]

theorem pt_sur {s : ByteArray} {i : Nat} (h : surB s i = true) : pt s i = (surV s i, 3) := by unfold pt; rw [if_pos h]
theorem pt_none {s : ByteArray} {i : Nat} (h : surB s i = false) (h2 : Utf8.decode s i = (65533, 1)) : pt s i = (0, 0) := by
  unfold pt; rw [if_neg (by simp [h]), if_pos h2]
theorem pt_dec {s : ByteArray} {i : Nat} (h2 : ¬ Utf8.decode s i = (65533, 1)) : pt s i = Utf8.decode s i := by
  unfold pt
  rw [if_neg (fun h => h2 (decode_sur h).1), if_neg h2]

/-- The units of a code point, of a row of them, of a text. -/
def un (p : Nat) : List Nat := if p < 65536 then [p] else [55296 + (p - 65536) / 1024, 56320 + (p - 65536) % 1024]
def uns (l : List Nat) : List Nat := l.flatMap un
def units (s : ByteArray) : List Nat := ((pts s).map uns).getD []
theorem un_small {p : Nat} (h : p < 65536) : un p = [p] := if_pos h
theorem un_great {p : Nat} (h : ¬ p < 65536) : un p = [55296 + (p - 65536) / 1024, 56320 + (p - 65536) % 1024] := if_neg h
theorem un_len (p : Nat) : (un p).length = if p < 65536 then 1 else 2 := by unfold un; split <;> rfl
theorem uns_snoc (l : List Nat) (p : Nat) : uns (l ++ [p]) = uns l ++ un p := by simp [uns]
theorem uns_le (l : List Nat) : (uns l).length ≤ 2 * l.length := by
  induction l with
  | nil => simp [uns]
  | cons a r ih =>
    have h1 : uns (a :: r) = un a ++ uns r := by simp [uns]
    have h2 := un_len a
    rw [h1, List.length_append, List.length_cons]
    split at h2 <;> omega
theorem dec_len (s : ByteArray) : ∀ f i ah l, dec s f i ah = some l → i ≤ s.size → (∀ j, j < s.size → j + (pt s j).2 ≤ s.size) → l.length + i ≤ s.size := by
  intro f
  induction f with
  | zero => intro i ah l h hi _; simp [dec] at h; subst h; simpa using hi
  | succ f ih =>
    intro i ah l h hi hpt
    simp only [dec] at h
    split at h
    · rename_i hlt
      split at h
      · simp at h
      · rename_i hn
        simp only [Option.map_eq_some_iff] at h
        obtain ⟨r, hr, rfl⟩ := h
        have h2 := ih _ _ r hr (hpt i hlt) hpt
        have : (pt s i).2 ≠ 0 := fun x => hn (.inl x)
        simp only [List.length_cons]
        omega
    · simp at h; subst h; simpa using hi
theorem pt_le (s : ByteArray) (i : Nat) (h : i < s.size) : i + (pt s i).2 ≤ s.size := by
  unfold pt
  split
  · rename_i h'; exact (surB_iff h').1
  · split
    · simp; omega
    · rename_i h2
      rcases decode_cases s i h with h3 | h3
      · exact absurd h3 h2
      · exact h3.2.1
theorem pts_len {s : ByteArray} {l : List Nat} (h : pts s = some l) : l.length ≤ s.size := by
  have := dec_len s _ _ _ l h (Nat.zero_le _) (pt_le s)
  omega
theorem units_le (s : ByteArray) : (units s).length ≤ 2 * s.size := by
  unfold units
  cases h : pts s with
  | none => simp
  | some l => simp; have := uns_le l; have := pts_len h; omega
end Go.Proofs.YtkknglmpdmhhjaaGreatDoor.Uni

/-
  Plain mathematics of a code point's decoding by the reference's steps.
-/
namespace Go.Proofs.YtkknglmpdmhhjaaGreatDoor.Uni

def acc (s : ByteArray) (i c0 : Nat) : Nat → Nat
  | 0 => c0
  | 1 => c0
  | k + 2 => acc s i c0 (k + 1) * 64 + B s (i + (k + 1)) % 64
theorem acc_succ (s : ByteArray) (i c0 k : Nat) (h : 1 ≤ k) : acc s i c0 (k + 1) = acc s i c0 k * 64 + B s (i + k) % 64 := by
  obtain ⟨j, rfl⟩ : ∃ j, k = j + 1 := ⟨k - 1, by omega⟩
  rfl
def Cls (b n c0 low : Nat) : Prop :=
  (194 ≤ b ∧ b ≤ 223 ∧ n = 2 ∧ c0 = b % 32 ∧ low = 128) ∨ (224 ≤ b ∧ b ≤ 239 ∧ n = 3 ∧ c0 = b % 16 ∧ low = 2048) ∨ (240 ≤ b ∧ b ≤ 244 ∧ n = 4 ∧ c0 = b % 8 ∧ low = 65536)
def Conts (s : ByteArray) (i k : Nat) : Prop := ∀ q, 1 ≤ q → q < k → B s (i + q) / 64 = 2

theorem acc_le (s : ByteArray) (i c0 : Nat) (h : c0 ≤ 31) : ∀ k, k ≤ 4 → acc s i c0 k ≤ 32 * 262144 := by
  intro k hk
  have a1 : acc s i c0 1 = c0 := rfl
  have a2 : acc s i c0 2 = acc s i c0 1 * 64 + B s (i + 1) % 64 := rfl
  have a3 : acc s i c0 3 = acc s i c0 2 * 64 + B s (i + 2) % 64 := rfl
  have a4 : acc s i c0 4 = acc s i c0 3 * 64 + B s (i + 3) % 64 := rfl
  have e : k = 0 ∨ k = 1 ∨ k = 2 ∨ k = 3 ∨ k = 4 := by omega
  rcases e with rfl | rfl | rfl | rfl | rfl
  · show c0 ≤ _; omega
  all_goals omega

theorem pt_ascii {s : ByteArray} {i : Nat} (h : B s i < 128) : pt s i = (B s i, 1) := by
  unfold pt
  have h1 : surB s i = false := by
    cases e : surB s i with
    | false => rfl
    | true => have := surB_iff e; omega
  have hd : Utf8.decode s i = (B s i, 1) := by rw [dec_eq, if_pos h]
  rw [if_neg (by rw [h1]; simp), hd]
  rw [if_neg (by simp; omega)]

theorem pt_ok {s : ByteArray} {i n c0 low : Nat} (h : Cls (B s i) n c0 low) (hs : i + n ≤ s.size) (hc : Conts s i n) (hl : low ≤ acc s i c0 n) (hm : acc s i c0 n ≤ 1114111) : pt s i = (acc s i c0 n, n) := by
  have b0 := B_lt s i
  have b1 := B_lt s (i + 1)
  have b2 := B_lt s (i + 2)
  have b3 := B_lt s (i + 3)
  rcases h with ⟨h1, h2, rfl, rfl, rfl⟩ | ⟨h1, h2, rfl, rfl, rfl⟩ | ⟨h1, h2, rfl, rfl, rfl⟩
  · have k1 := hc 1 (by omega) (by omega)
    have e : acc s i (B s i % 32) 2 = B s i % 32 * 64 + B s (i + 1) % 64 := rfl
    rw [e] at hl hm ⊢
    have hd : Utf8.decode s i = (B s i % 32 * 64 + B s (i + 1) % 64, 2) := by rw [dec_eq, if_neg (by omega), if_pos (by omega), if_pos (by omega)]
    rw [pt_dec (by rw [hd]; simp), hd]
  · have k1 := hc 1 (by omega) (by omega)
    have k2 := hc 2 (by omega) (by omega)
    have e : acc s i (B s i % 16) 3 = (B s i % 16 * 64 + B s (i + 1) % 64) * 64 + B s (i + 2) % 64 := rfl
    rw [e] at hl hm ⊢
    unfold pt
    cases hsur : surB s i with
    | true =>
      have := surB_iff hsur
      rw [if_pos rfl]
      unfold surV
      simp
      omega
    | false =>
      have hn := surB_not hsur
      have hd : Utf8.decode s i = ((B s i % 16) * 4096 + B s (i + 1) % 64 * 64 + B s (i + 2) % 64, 3) := by rw [dec_eq, if_neg (by omega), if_neg (by omega), if_pos (by omega), if_pos (by omega)]
      rw [if_neg (by simp), hd, if_neg (by simp)]
      simp
      omega
  · have k1 := hc 1 (by omega) (by omega)
    have k2 := hc 2 (by omega) (by omega)
    have k3 := hc 3 (by omega) (by omega)
    have e : acc s i (B s i % 8) 4 = ((B s i % 8 * 64 + B s (i + 1) % 64) * 64 + B s (i + 2) % 64) * 64 + B s (i + 3) % 64 := rfl
    rw [e] at hl hm ⊢
    have hd : Utf8.decode s i = ((B s i % 8) * 262144 + B s (i + 1) % 64 * 4096 + B s (i + 2) % 64 * 64 + B s (i + 3) % 64, 4) := by rw [dec_eq, if_neg (by omega), if_neg (by omega), if_neg (by omega), if_pos (by omega), if_pos (by omega)]
    rw [pt_dec (by rw [hd]; simp), hd]
    simp
    omega

theorem pt_out {s : ByteArray} {i : Nat} (h1 : 128 ≤ B s i) (h2 : ∀ n c0 low, ¬ Cls (B s i) n c0 low) : pt s i = (0, 0) := by
  have b0 := B_lt s i
  have b1 := B_lt s (i + 1)
  have n2 : ¬ (194 ≤ B s i ∧ B s i ≤ 223) := fun h => h2 2 _ 128 (.inl ⟨h.1, h.2, rfl, rfl, rfl⟩)
  have n3 : ¬ (224 ≤ B s i ∧ B s i ≤ 239) := fun h => h2 3 _ 2048 (.inr (.inl ⟨h.1, h.2, rfl, rfl, rfl⟩))
  have n4 : ¬ (240 ≤ B s i ∧ B s i ≤ 244) := fun h => h2 4 _ 65536 (.inr (.inr ⟨h.1, h.2, rfl, rfl, rfl⟩))
  have hn : surB s i = false := by
    cases e : surB s i with
    | false => rfl
    | true => have := surB_iff e; omega
  refine pt_none hn ?_
  rw [dec_eq, if_neg (by omega)]
  by_cases c2 : B s i / 32 = 6 ∧ i + 1 < s.size ∧ B s (i + 1) / 64 = 2
  · rw [if_pos c2, if_neg (by omega)]
  · rw [if_neg c2, if_neg (by omega)]
    split
    · rw [if_neg (by omega)]
    · rfl

theorem pt_bad {s : ByteArray} {i n c0 low : Nat} (h : Cls (B s i) n c0 low) (hb : ¬ (i + n ≤ s.size ∧ Conts s i n ∧ low ≤ acc s i c0 n ∧ acc s i c0 n ≤ 1114111)) : pt s i = (0, 0) := by
  have b0 := B_lt s i
  have b1 := B_lt s (i + 1)
  have b2 := B_lt s (i + 2)
  have b3 := B_lt s (i + 3)
  rcases h with ⟨h1, h2, rfl, rfl, rfl⟩ | ⟨h1, h2, rfl, rfl, rfl⟩ | ⟨h1, h2, rfl, rfl, rfl⟩
  · have e : acc s i (B s i % 32) 2 = B s i % 32 * 64 + B s (i + 1) % 64 := rfl
    rw [e] at hb
    have hn : surB s i = false := by
      cases e : surB s i with
      | false => rfl
      | true => have := surB_iff e; omega
    have hc : ¬ (i + 2 ≤ s.size ∧ B s (i + 1) / 64 = 2) := fun x => hb ⟨x.1, (fun q q1 q2 => by
      obtain rfl : q = 1 := by omega
      exact x.2), by omega, by omega⟩
    refine pt_none hn ?_
    rw [dec_eq, if_neg (by omega), if_neg (by omega), if_neg (by omega), if_neg (by omega)]
  · have e : acc s i (B s i % 16) 3 = (B s i % 16 * 64 + B s (i + 1) % 64) * 64 + B s (i + 2) % 64 := rfl
    rw [e] at hb
    have hc : ¬ (i + 3 ≤ s.size ∧ B s (i + 1) / 64 = 2 ∧ B s (i + 2) / 64 = 2 ∧ 2048 ≤ (B s i % 16 * 64 + B s (i + 1) % 64) * 64 + B s (i + 2) % 64) := fun x => hb ⟨x.1, (fun q q1 q2 => by
      obtain rfl | rfl : q = 1 ∨ q = 2 := by omega
      · exact x.2.1
      · exact x.2.2.1), x.2.2.2, by omega⟩
    have hn : surB s i = false := by
      cases e : surB s i with
      | false => rfl
      | true => have := surB_iff e; omega
    refine pt_none hn ?_
    rw [dec_eq, if_neg (by omega), if_neg (by omega)]
    split
    · rw [if_neg (by omega)]
    · rw [if_neg (by omega)]
  · have e : acc s i (B s i % 8) 4 = ((B s i % 8 * 64 + B s (i + 1) % 64) * 64 + B s (i + 2) % 64) * 64 + B s (i + 3) % 64 := rfl
    rw [e] at hb
    have hc : ¬ (i + 4 ≤ s.size ∧ B s (i + 1) / 64 = 2 ∧ B s (i + 2) / 64 = 2 ∧ B s (i + 3) / 64 = 2 ∧ 65536 ≤ ((B s i % 8 * 64 + B s (i + 1) % 64) * 64 + B s (i + 2) % 64) * 64 + B s (i + 3) % 64 ∧ ((B s i % 8 * 64 + B s (i + 1) % 64) * 64 + B s (i + 2) % 64) * 64 + B s (i + 3) % 64 ≤ 1114111) := fun x => hb ⟨x.1, (fun q q1 q2 => by
      obtain rfl | rfl | rfl : q = 1 ∨ q = 2 ∨ q = 3 := by omega
      · exact x.2.1
      · exact x.2.2.1
      · exact x.2.2.2.1), x.2.2.2.2.1, x.2.2.2.2.2⟩
    have hn : surB s i = false := by
      cases e : surB s i with
      | false => rfl
      | true => have := surB_iff e; omega
    refine pt_none hn ?_
    rw [dec_eq, if_neg (by omega), if_neg (by omega), if_neg (by omega)]
    split
    · rw [if_neg (by omega)]
    · rfl
end Go.Proofs.YtkknglmpdmhhjaaGreatDoor.Uni
