/-
  Texts of this seat in build order: NmNum, NmRnum, KyMath, KyOrd, NmSmall, KySmall, NmText, KyIndex.
-/
import Derived.Lib.ItoaNum
import Derived.Lib.AtoiAll
import Derived.Test.YtblbeinnfbohbaaProg
import Derived.Maps.OwnSet
import Derived.DeepKeys4
import Derived.KernelRfl
import Derived.WalkArith
import Derived.WalkKit
import Derived.WalkSpells
import Derived.WalkLawsBesides
import Derived.RegionTactic
import Derived.ChangeAlike
import Derived.Deep.QuietTactic
import Derived.BigQuiet
import Derived.Lib.Hide
import Derived.Below
/-
  Plain mathematics of decimal numerals: what digits spell, that a numeral spells its number, that reading a numeral gives the number back.
-/
namespace Go.Proofs.Ytblbeinnfbohbaa.Nums
open Go
set_option linter.unusedVariables false

/-- Is n a number of the language? -/
def sf (n : Int) : Bool := decide (-9007199254740991 ≤ n ∧ n ≤ 9007199254740991)
theorem sf_true {n : Int} (h : sf n = true) : -9007199254740991 ≤ n ∧ n ≤ 9007199254740991 := of_decide_eq_true h
theorem sf_mk {n : Int} (h0 : -9007199254740991 ≤ n) (h1 : n ≤ 9007199254740991) : sf n = true := decide_eq_true ⟨h0, h1⟩
theorem sf_no {n : Int} (h : n < -9007199254740991 ∨ 9007199254740991 < n) : sf n = false := decide_eq_false (by omega)

/-- The number that digits spell. -/
def valD (l : List UInt8) : Nat := l.foldl (fun a c => a * 10 + (c.toNat - 48)) 0
theorem valD_snoc (l : List UInt8) (c : UInt8) : valD (l ++ [c]) = valD l * 10 + (c.toNat - 48) := by simp [valD]
theorem dig_nat (d : Nat) (h : d < 10) : (UInt8.ofNat (48 + d)).toNat = 48 + d := by
  rw [UInt8.toNat_ofNat']; omega

theorem val_dec (u : Nat) : valD (Lib.decDigits u) = u := by
  induction u using Nat.strongRecOn with
  | ind u ih =>
    rw [Lib.decDigits]
    split
    · simp only [valD, List.foldl_cons, List.foldl_nil, dig_nat u ‹_›]; omega
    · rw [valD_snoc, ih (u / 10) (by omega), dig_nat _ (by omega)]; omega

theorem dec_digits (u : Nat) : ∀ c ∈ Lib.decDigits u, 48 ≤ c.toNat ∧ c.toNat ≤ 57 := by
  induction u using Nat.strongRecOn with
  | ind u ih =>
    intro c hc
    rw [Lib.decDigits] at hc
    split at hc
    · have : c = UInt8.ofNat (48 + u) := by simpa using hc
      rw [this, dig_nat u ‹_›]; omega
    · rcases List.mem_append.1 hc with h | h
      · exact ih (u / 10) (by omega) c h
      · have : c = UInt8.ofNat (48 + u % 10) := by simpa using h
        rw [this, dig_nat _ (by omega)]; omega

theorem dec_ne (u : Nat) : Lib.decDigits u ≠ [] := by
  rw [Lib.decDigits]; split <;> simp

/-- No numeral but "0" begins with a 0. -/
theorem dec_head (u : Nat) : 1 ≤ u → ∀ c, (Lib.decDigits u).head? = some c → c.toNat ≠ 48 := by
  induction u using Nat.strongRecOn with
  | ind u ih =>
    intro h1 c hc
    rw [Lib.decDigits] at hc
    split at hc
    · have : UInt8.ofNat (48 + u) = c := by simpa using hc
      rw [← this, dig_nat u ‹_›]; omega
    · refine ih (u / 10) (by omega) (by omega) c ?_
      cases hx : Lib.decDigits (u / 10) with
      | nil => exact absurd hx (dec_ne _)
      | cons a r => rw [hx] at hc; simpa using hc

theorem dec_len (k : Nat) : ∀ u, u < 10 ^ (k + 1) → (Lib.decDigits u).length ≤ k + 1 := by
  induction k with
  | zero =>
    intro u h
    rw [Lib.decDigits, dif_pos (by simpa using h)]
    simp
  | succ k ih =>
    intro u h
    rw [Lib.decDigits]
    split
    · simp
    · have := ih (u / 10) (by rw [Nat.pow_succ] at h; omega)
      simp only [List.length_append, List.length_singleton]
      omega

/-- The number that a text spells. -/
def val (l : List UInt8) : Int :=
  match l with
  | [] => 0
  | c :: r => if c.toNat = 45 then -(valD r : Int) else valD (c :: r)

theorem val_digits {l : List UInt8} (h : ∀ c ∈ l, 48 ≤ c.toNat ∧ c.toNat ≤ 57) : val l = valD l := by
  cases l with
  | nil => rfl
  | cons c r =>
    have := h c (by simp)
    simp only [val, if_neg (show ¬ c.toNat = 45 by omega)]

theorem val_itoa (n : Int) : val (Lib.itoa n) = n := by
  unfold Lib.itoa
  split
  · simp only [val]
    rw [if_pos (by decide), val_dec]
    omega
  · rw [val_digits (dec_digits _), val_dec]
    omega
theorem itoa_inj {a b : Int} (h : Lib.itoa a = Lib.itoa b) : a = b := by rw [← val_itoa a, h, val_itoa]

/-! ### Reading a numeral by the library's rule -/

theorem fold_ge (l : List UInt8) : ∀ a, a ≤ l.foldl (fun a c => a * 10 + (c.toNat - 48)) a := by
  induction l with
  | nil => intro a; exact Nat.le_refl _
  | cons c r ih => intro a; have := ih (a * 10 + (c.toNat - 48)); simp only [List.foldl_cons]; omega

theorem parse_digits (l : List UInt8) : ∀ a, (∀ c ∈ l, 48 ≤ c.toNat ∧ c.toNat ≤ 57) → l.foldl (fun a c => a * 10 + (c.toNat - 48)) a < 18446744073709551616 →
    Lib.parseUint10 a l = .ok (l.foldl (fun a c => a * 10 + (c.toNat - 48)) a) := by
  induction l with
  | nil => intro a _ _; rfl
  | cons c r ih =>
    intro a hd hlt
    simp only [List.foldl_cons] at hlt ⊢
    have g := fold_ge r (a * 10 + (c.toNat - 48))
    simp only [Lib.parseUint10]
    rw [if_pos (hd c (by simp)), if_neg (by omega), if_neg (by omega)]
    exact ih _ (fun x hx => hd x (by simp [hx])) hlt

theorem parse_dec (u : Nat) (h : u < 18446744073709551616) : Lib.parseMag (Lib.decDigits u) = .ok u := by
  unfold Lib.parseMag
  rw [if_neg (dec_ne u), parse_digits _ 0 (dec_digits u) (by have := val_dec u; unfold valD at this; omega)]
  have := val_dec u
  unfold valD at this
  rw [this]

theorem atoi_itoa (n : Int) (h0 : -9223372036854775808 ≤ n) (h1 : n ≤ 9223372036854775807) : Lib.atoiAll (Lib.itoa n) = .ok n := by
  by_cases hn : n < 0
  · have e : Lib.itoa n = 45 :: Lib.decDigits n.natAbs := if_pos hn
    rw [e]
    simp only [Lib.atoiAll]
    rw [if_pos (by decide), parse_dec _ (by omega)]
    simp only
    rw [if_neg (by simp), if_neg (by omega), if_pos (by decide)]
    congr 1
    omega
  · have e : Lib.itoa n = Lib.decDigits n.toNat := if_neg hn
    rw [e]
    cases hd : Lib.decDigits n.toNat with
    | nil => exact absurd hd (dec_ne _)
    | cons c r =>
      have hc := dec_digits n.toNat c (by rw [hd]; simp)
      simp only [Lib.atoiAll]
      rw [if_neg (by omega), ← hd, parse_dec _ (by omega)]
      simp only
      rw [if_neg (by omega), if_neg (by omega), if_neg (by omega)]
      congr 1
      omega

/-! ### Which texts are numbers of the language -/

/-- The number of the language that a text is, if it is one. -/
def readF (l : List UInt8) : Option Int := if sf (val l) = true ∧ Lib.itoa (val l) = l then some (val l) else none
theorem readF_mk {n : Int} {l : List UInt8} (hs : sf n = true) (hl : Lib.itoa n = l) : readF l = some n := by
  have e : val l = n := by rw [← hl, val_itoa]
  unfold readF
  rw [e, if_pos ⟨hs, hl⟩]
theorem readF_some {n : Int} {l : List UInt8} (h : readF l = some n) : sf n = true ∧ Lib.itoa n = l := by
  unfold readF at h
  split at h
  · have := Option.some.inj h; rw [← this]; assumption
  · cases h
theorem readF_no {l : List UInt8} (h : ∀ n, sf n = true → Lib.itoa n = l → False) : readF l = none := by
  unfold readF
  rw [if_neg (fun hh => h _ hh.1 hh.2)]
theorem readF_itoa (n : Int) : readF (Lib.itoa n) = if sf n = true then some n else none := by
  split
  · exact readF_mk ‹_› rfl
  · exact readF_no fun m hm he => by rw [itoa_inj he] at hm; exact absurd hm ‹_›

/-- By the library's reading. -/
theorem readF_atoi {l : List UInt8} {v : Int} (h : Lib.atoiAll l = .ok v) : readF l = if sf v = true ∧ Lib.itoa v = l then some v else none := by
  split
  · exact readF_mk (by simp_all) (by simp_all)
  · refine readF_no fun n hn hl => ?_
    have := atoi_itoa n (by have := sf_true hn; omega) (by have := sf_true hn; omega)
    rw [hl, h] at this
    injection this with this
    subst this
    rename_i hno
    exact absurd (And.intro hn hl) hno
theorem readF_atoi_no {l : List UInt8} (h : ∀ v, Lib.atoiAll l ≠ .ok v) : readF l = none :=
  readF_no fun n hn hl => h n (by rw [← hl]; exact atoi_itoa n (by have := sf_true hn; omega) (by have := sf_true hn; omega))
/-- Digits that do not begin with a needless 0 are the numeral of what they spell. -/
theorem dec_of_digits (n : Nat) : ∀ l : List UInt8, l.length = n → l ≠ [] → (∀ c ∈ l, 48 ≤ c.toNat ∧ c.toNat ≤ 57) → (∀ c r, l = c :: r → c.toNat = 48 → r = []) → Lib.decDigits (valD l) = l := by
  induction n with
  | zero => intro l hl hne; exact absurd (List.length_eq_zero_iff.1 hl) hne
  | succ n ih =>
    intro l hl hne hd h0
    obtain ⟨l', c, rfl⟩ : ∃ l' c, l = l' ++ [c] := ⟨l.dropLast, l.getLast hne, (List.dropLast_concat_getLast hne).symm⟩
    have hc := hd c (by simp)
    have ec : UInt8.ofNat (48 + (c.toNat - 48)) = c := by
      apply UInt8.toNat_inj.1
      rw [dig_nat _ (by omega)]; omega
    by_cases he : l' = []
    · subst he
      have e1 : valD ([] ++ [c]) = c.toNat - 48 := by rw [valD_snoc]; simp [valD]
      rw [e1, Lib.decDigits, dif_pos (by omega), ec]
      rfl
    · have hlen : l'.length = n := by simpa using hl
      have hl0 : ∀ a r, l' = a :: r → a.toNat = 48 → r = [] := fun a r e ha => by
        have := h0 a (r ++ [c]) (by rw [e]; rfl) ha
        simp at this
      have e1 := ih l' hlen he (fun x hx => hd x (by simp [hx])) hl0
      have hpos : 1 ≤ valD l' := by
        rcases Nat.eq_zero_or_pos (valD l') with e0 | e0
        · rw [e0, Lib.decDigits, dif_pos (by omega)] at e1
          have h48 : (UInt8.ofNat (48 + 0)).toNat = 48 := dig_nat 0 (by omega)
          have := h0 (UInt8.ofNat (48 + 0)) [c] (by rw [← e1]; rfl) h48
          cases this
        · exact e0
      rw [valD_snoc, Lib.decDigits, dif_neg (by omega)]
      rw [show (valD l' * 10 + (c.toNat - 48)) / 10 = valD l' by omega, show (valD l' * 10 + (c.toNat - 48)) % 10 = c.toNat - 48 by omega, ec, e1]
end Go.Proofs.Ytblbeinnfbohbaa.Nums

/-
  Plain mathematics of the reference's ReadNumber: bytes of a text, the number that a part of it spells, and why a text that it refuses is no number's.
-/
namespace Go.Proofs.Ytblbeinnfbohbaa.Nums
open Go
set_option linter.unusedVariables false

/-- The k-th byte of a text, 0 behind its end. -/
def B (s : ByteArray) (k : Nat) : Nat := (s.data.toList[k]?.getD 0).toNat
theorem B_lt (s : ByteArray) (k : Nat) : B s k < 256 := by unfold B; exact UInt8.toNat_lt _
theorem B_get (s : ByteArray) (k : Nat) (h : k < s.size) : (s[k]'h).toNat = B s k := by
  unfold B
  have h' : k < s.data.toList.length := by simpa using h
  rw [List.getElem?_eq_getElem h']
  rfl
theorem gB (s : ByteArray) : ∀ (n : Nat) (h : n < s.size), ((s[n]'h).toNat : Int) = ((B s n : Nat) : Int) := fun n h => by rw [B_get s n h]
theorem size_eq (s : ByteArray) : s.data.toList.length = s.size := by simp

/-- The number that the bytes from i up to j spell. -/
def accJ (s : ByteArray) (i j : Nat) : Nat := valD ((s.data.toList.take j).drop i)
theorem accJ_start (s : ByteArray) (i : Nat) : accJ s i i = 0 := by
  unfold accJ
  rw [List.drop_eq_nil_of_le (by simp; omega)]
  rfl
theorem accJ_succ (s : ByteArray) (i j : Nat) (hi : i ≤ j) (hj : j < s.size) : accJ s i (j + 1) = accJ s i j * 10 + (B s j - 48) := by
  unfold accJ B
  have h' : j < s.data.toList.length := by rw [size_eq]; exact hj
  rw [List.take_succ_eq_append_getElem h', List.drop_append_of_le_length (by simp; omega), valD_snoc, List.getElem?_eq_getElem h']
  rfl
/-- The bytes from i up to j are digits. -/
def DigJ (s : ByteArray) (i j : Nat) : Prop := ∀ x, i ≤ x → x < j → 48 ≤ B s x ∧ B s x ≤ 57
theorem DigJ.start (s : ByteArray) (i : Nat) : DigJ s i i := fun x h1 h2 => by omega
theorem DigJ.next {s : ByteArray} {i j : Nat} (h : DigJ s i j) (h0 : 48 ≤ B s j) (h1 : B s j ≤ 57) : DigJ s i (j + 1) := fun x hx hy => by
  by_cases e : x = j
  · subst e; exact ⟨h0, h1⟩
  · exact h x hx (by omega)
theorem accJ_lt (s : ByteArray) (i m : Nat) (hj : i + m ≤ s.size) (hd : DigJ s i (i + m)) : accJ s i (i + m) < 10 ^ m := by
  induction m with
  | zero => rw [Nat.add_zero, accJ_start]; decide
  | succ m ih =>
    have h1 := ih (by omega) (fun x hx hy => hd x hx (by omega))
    have h2 := hd (i + m) (by omega) (by omega)
    rw [← Nat.add_assoc, accJ_succ s i (i + m) (by omega) (by omega), Nat.pow_succ]
    omega
theorem accJ_bd (s : ByteArray) (i j : Nat) (hij : i ≤ j) (hj : j ≤ s.size) (h16 : s.size ≤ i + 16) (hd : DigJ s i j) : accJ s i j < 10000000000000000 := by
  have h := accJ_lt s i (j - i) (by omega) (by rw [show i + (j - i) = j by omega]; exact hd)
  rw [show i + (j - i) = j by omega] at h
  have : 10 ^ (j - i) ≤ 10 ^ 16 := Nat.pow_le_pow_right (by decide) (by omega)
  omega

/-- A numeral's sign and digits. -/
theorem itoa_shape {v : Int} {l : List UInt8} (h : Lib.itoa v = l) : (v < 0 ∧ l = 45 :: Lib.decDigits v.natAbs) ∨ (0 ≤ v ∧ l = Lib.decDigits v.natAbs) := by
  unfold Lib.itoa at h
  split at h
  · exact .inl ⟨by assumption, h.symm⟩
  · have hv : 0 ≤ v := by omega
    refine .inr ⟨hv, ?_⟩
    rw [← h]
    congr 1
    omega

/-- Where the digits of a text begin: behind a sign. -/
def SgAt (s : ByteArray) (i : Nat) : Prop := (i = 0 ∧ (0 < s.size → B s 0 ≠ 45)) ∨ (i = 1 ∧ 0 < s.size ∧ B s 0 = 45)
/-- What the reference's ReadNumber says of a text: y and f. -/
def RN (s : ByteArray) (y : Int) (f : Bool) : Prop := (f = true → readF s.data.toList = some y) ∧ (f = false → readF s.data.toList = none)

theorem head_B {s : ByteArray} {c : UInt8} {r : List UInt8} (h : s.data.toList = c :: r) : B s 0 = c.toNat ∧ s.size = r.length + 1 := by
  refine ⟨by unfold B; rw [h]; rfl, by rw [← size_eq, h]; rfl⟩
theorem sg_digits {s : ByteArray} {i : Nat} (hi : SgAt s i) {v : Int} (h : Lib.itoa v = s.data.toList) :
    s.data.toList.drop i = Lib.decDigits v.natAbs ∧ s.size = i + (Lib.decDigits v.natAbs).length ∧ (i = 0 → 0 ≤ v) ∧ (i = 1 → v < 0) := by
  rcases itoa_shape h with ⟨hv, hl⟩ | ⟨hv, hl⟩
  · obtain ⟨hb, hz⟩ := head_B hl
    have hb : B s 0 = 45 := hb
    rcases hi with ⟨rfl, h0⟩ | ⟨rfl, _, _⟩
    · exact absurd hb (h0 (by omega))
    · exact ⟨by rw [hl]; rfl, by omega, fun e => by omega, fun _ => hv⟩
  · cases hd : Lib.decDigits v.natAbs with
    | nil => exact absurd hd (dec_ne _)
    | cons c r =>
      have hc := dec_digits v.natAbs c (by rw [hd]; simp)
      rw [hd] at hl
      obtain ⟨hb, hz⟩ := head_B hl
      rcases hi with ⟨rfl, h0⟩ | ⟨rfl, _, h1⟩
      · exact ⟨by rw [hl]; rfl, by simp; omega, fun _ => hv, fun e => by omega⟩
      · omega
theorem B_drop {s : ByteArray} {i m : Nat} {l : List UInt8} (h : s.data.toList.drop i = l) (hm : m < l.length) : B s (i + m) = (l[m]'hm).toNat := by
  subst h
  unfold B
  have : i + m < s.data.toList.length := by simp at hm; simp; omega
  rw [List.getElem?_eq_getElem this, List.getElem_drop]
  rfl

theorem rn_no {s : ByteArray} (h : ∀ v, sf v = true → Lib.itoa v = s.data.toList → False) (y : Int) : RN s y false := ⟨fun h => (by cases h), fun _ => readF_no h⟩
theorem rn_short {s : ByteArray} {i : Nat} (hi : SgAt s i) (h : s.size ≤ i) : RN s 0 false := rn_no (fun v _ hl => by
  have := (sg_digits hi hl).2.1
  have h2 : (Lib.decDigits v.natAbs).length ≠ 0 := fun e => dec_ne v.natAbs (List.length_eq_zero_iff.1 e)
  omega) 0
theorem rn_long {s : ByteArray} {i : Nat} (hi : SgAt s i) (h : i + 16 < s.size) : RN s 0 false := rn_no (fun v hv hl => by
  have := (sg_digits hi hl).2.1
  have h0 := sf_true hv
  have h2 := dec_len 15 v.natAbs (by omega)
  omega) 0
theorem rn_zero {s : ByteArray} {i : Nat} (hi : SgAt s i) (h0 : B s i = 48) (h : 1 < s.size) : RN s 0 false := rn_no (fun v hv hl => by
  obtain ⟨hd, hz, hp, hn⟩ := sg_digits hi hl
  cases hdd : Lib.decDigits v.natAbs with
  | nil => exact dec_ne _ hdd
  | cons c r =>
    have hb := B_drop (m := 0) hd (by rw [hdd]; simp)
    simp only [Nat.add_zero, hdd, List.getElem_cons_zero] at hb
    have hv0 : v.natAbs = 0 := by
      rcases Nat.eq_zero_or_pos v.natAbs with e | e
      · exact e
      · exact absurd (hb.symm.trans h0) (dec_head v.natAbs e c (by rw [hdd]; rfl))
    have hv1 : v = 0 := by omega
    have hl1 : (Lib.decDigits v.natAbs).length = 1 := by rw [hv0, Lib.decDigits_one (by decide)]; rfl
    rcases hi with ⟨rfl, _⟩ | ⟨rfl, _⟩
    · omega
    · have := hn rfl; omega) 0
theorem rn_digit {s : ByteArray} {i j : Nat} (hi : SgAt s i) (hij : i ≤ j) (hj : j < s.size) (h : B s j < 48 ∨ 57 < B s j) : RN s 0 false := rn_no (fun v hv hl => by
  obtain ⟨hd, hz, _, _⟩ := sg_digits hi hl
  have hm : j - i < (Lib.decDigits v.natAbs).length := by omega
  have hb := B_drop (m := j - i) hd hm
  rw [show i + (j - i) = j by omega] at hb
  have := dec_digits v.natAbs _ (List.getElem_mem hm)
  omega) 0
theorem accJ_whole {s : ByteArray} {i : Nat} (hi : SgAt s i) {v : Int} (hl : Lib.itoa v = s.data.toList) : accJ s i s.size = v.natAbs := by
  obtain ⟨hd, _, _, _⟩ := sg_digits hi hl
  unfold accJ
  rw [List.take_of_length_le (by rw [size_eq]; exact Nat.le_refl _), hd, val_dec]
/-- The digits of a text, one by one. -/
theorem dig_each {s : ByteArray} {i : Nat} (hd : DigJ s i s.size) : ∀ c ∈ s.data.toList.drop i, 48 ≤ c.toNat ∧ c.toNat ≤ 57 := fun c hc => by
  obtain ⟨m, hm, rfl⟩ := List.getElem_of_mem hc
  have hm' : m < s.size - i := by simpa using hm
  have hb := B_drop (s := s) (i := i) (m := m) rfl hm
  have := hd (i + m) (by omega) (by omega)
  omega
theorem head_not {s : ByteArray} {i : Nat} (h : B s i ≠ 48 ∨ s.size ≤ i + 1) : ∀ c r, s.data.toList.drop i = c :: r → c.toNat = 48 → r = [] := fun c r e hc => by
  have hl : (s.data.toList.drop i).length = s.size - i := by simp
  rw [e] at hl
  rcases h with h | h
  · have hb := B_drop (m := 0) e (by simp)
    simp only [Nat.add_zero, List.getElem_cons_zero] at hb
    exact absurd (hb.trans hc) h
  · simp at hl
    exact List.length_eq_zero_iff.1 (by omega)
theorem acc_dec {s : ByteArray} {i : Nat} (hs : i < s.size) (hd : DigJ s i s.size) (hz : B s i ≠ 48 ∨ s.size ≤ i + 1) : Lib.decDigits (accJ s i s.size) = s.data.toList.drop i := by
  unfold accJ
  rw [List.take_of_length_le (by rw [size_eq]; exact Nat.le_refl _)]
  refine dec_of_digits _ _ rfl (fun e => ?_) (dig_each hd) (head_not hz)
  have := congrArg List.length e
  simp at this
  omega
theorem rn_mk {s : ByteArray} {y : Int} (h : Lib.itoa y = s.data.toList) : RN s y (sf y) := ⟨fun hf => readF_mk hf h, fun hf => readF_no fun v hv hl => by
  have e : v = y := itoa_inj (hl.trans h.symm)
  rw [e, hf] at hv
  cases hv⟩
theorem rn_pos {s : ByteArray} (hs : 0 < s.size) (hd : DigJ s 0 s.size) (hz : B s 0 ≠ 48 ∨ s.size ≤ 1) : RN s (accJ s 0 s.size : Nat) (sf (accJ s 0 s.size : Nat)) := rn_mk (by
  have e : Lib.itoa ((accJ s 0 s.size : Nat) : Int) = Lib.decDigits (accJ s 0 s.size) := if_neg (by omega)
  rw [e, acc_dec hs hd hz]; rfl)
theorem rn_neg {s : ByteArray} (hi : SgAt s 1) (hs : 1 < s.size) (hd : DigJ s 1 s.size) (hz : B s 1 ≠ 48) : RN s (-(accJ s 1 s.size : Nat)) (sf (-(accJ s 1 s.size : Nat))) := rn_mk (by
  have hdec := acc_dec hs hd (.inl hz)
  have h45 : B s 0 = 45 := by
    rcases hi with ⟨h, _⟩ | ⟨_, _, h⟩
    · omega
    · exact h
  have hpos : accJ s 1 s.size ≠ 0 := fun e => by
    rw [e, Lib.decDigits_one (by decide)] at hdec
    have hb := B_drop (m := 0) hdec.symm (by simp)
    simp only [Nat.add_zero, List.getElem_cons_zero] at hb
    exact hz hb
  have ei : Lib.itoa (-((accJ s 1 s.size : Nat) : Int)) = 45 :: Lib.decDigits (accJ s 1 s.size) := by
    unfold Lib.itoa
    rw [if_pos (by omega)]
    congr 2
    omega
  rw [ei, hdec]
  have hl : 0 < s.data.toList.length := by rw [size_eq]; omega
  have e0 : s.data.toList = s.data.toList[0] :: s.data.toList.drop 1 := by
    conv => lhs; rw [← List.drop_zero (l := s.data.toList), List.drop_eq_getElem_cons hl]
  rw [e0]
  congr 1
  have hb : B s 0 = (s.data.toList[0]).toNat := by
    unfold B
    rw [List.getElem?_eq_getElem hl]
    rfl
  apply UInt8.toNat_inj.1
  rw [← hb, h45]
  rfl)
/-- What ReadNumber gives of a text that spells its own number. -/
theorem RN.yes {s : ByteArray} {y : Int} {f : Bool} (h : RN s y f) {n : Int} (hr : readF s.data.toList = some n) : y = n ∧ f = true := by
  cases f with
  | false => rw [h.2 rfl] at hr; cases hr
  | true => rw [h.1 rfl] at hr; exact ⟨Option.some.inj hr, rfl⟩
theorem RN.no {s : ByteArray} {y : Int} {f : Bool} (h : RN s y f) (hr : readF s.data.toList = none) : f = false := by
  cases f with
  | false => rfl
  | true => rw [h.1 rfl] at hr; cases hr
end Go.Proofs.Ytblbeinnfbohbaa.Nums

/-
  Plain mathematics of array indexes: which texts are indexes.
-/
namespace Go.Proofs.Ytblbeinnfbohbaa.Keys
open Go Go.Proofs.Ytblbeinnfbohbaa.Nums
set_option linter.unusedVariables false

/-- The array index that a text is, if it is one. -/
def idxF (l : List UInt8) : Option Int :=
  match readF l with
  | some n => if 0 ≤ n ∧ n ≤ 4294967294 then some n else none
  | none => none
theorem idxF_none {l : List UInt8} (h : readF l = none) : idxF l = none := by simp [idxF, h]
theorem idxF_in {l : List UInt8} {n : Int} (h : readF l = some n) (h0 : 0 ≤ n) (h1 : n ≤ 4294967294) : idxF l = some n := by simp [idxF, h, h0, h1]
theorem idxF_out {l : List UInt8} {n : Int} (h : readF l = some n) (h0 : n < 0 ∨ 4294967294 < n) : idxF l = none := by
  simp only [idxF, h]
  exact if_neg (by omega)
theorem idxF_some {l : List UInt8} {n : Int} (h : idxF l = some n) : 0 ≤ n ∧ n ≤ 4294967294 ∧ Lib.itoa n = l := by
  unfold idxF at h
  split at h
  · split at h
    · have := Option.some.inj h
      subst this
      rename_i hr hb
      exact ⟨hb.1, hb.2, (readF_some hr).2⟩
    · cases h
  · cases h
theorem idxF_itoa {n : Int} (h0 : 0 ≤ n) (h1 : n ≤ 4294967294) : idxF (Lib.itoa n) = some n := idxF_in (readF_mk (sf_mk (by omega) (by omega)) rfl) h0 h1
theorem idxF_itoa_big {n : Int} (h0 : 4294967294 < n) : idxF (Lib.itoa n) = none := by
  by_cases h : sf n = true
  · exact idxF_out (readF_mk h rfl) (.inr h0)
  · exact idxF_none (by rw [readF_itoa, if_neg h])
/-- A text longer than ten bytes is no index. -/
theorem idxF_long {s : ByteArray} (h : 10 < s.size) : idxF s.data.toList = none := by
  cases hi : idxF s.data.toList with
  | none => rfl
  | some n =>
    obtain ⟨h0, h1, hl⟩ := idxF_some hi
    obtain ⟨u, rfl⟩ : ∃ u : Nat, n = u := ⟨n.toNat, by omega⟩
    have e : Lib.itoa (u : Int) = Lib.decDigits u := if_neg (by omega)
    have hd := dec_len 9 u (by omega)
    have := size_eq s
    rw [← hl, e] at this
    omega
/-- A text with a sign is no index. -/
theorem idxF_sign {s : ByteArray} (h0 : 0 < s.size) (h : B s 0 = 45) : idxF s.data.toList = none := by
  cases hi : idxF s.data.toList with
  | none => rfl
  | some n =>
    obtain ⟨h0, h1, hl⟩ := idxF_some hi
    rcases itoa_shape hl with ⟨hn, _⟩ | ⟨_, hd⟩
    · omega
    · cases hx : Lib.decDigits n.natAbs with
      | nil => exact absurd hx (dec_ne _)
      | cons c r =>
        have hc := dec_digits n.natAbs c (by rw [hx]; simp)
        rw [hx] at hd
        have := (head_B hd).1
        omega
end Go.Proofs.Ytblbeinnfbohbaa.Keys

/-
  Plain mathematics of the order of keys: what stands where, and why each key stands once.
-/
namespace Go.Proofs.Ytblbeinnfbohbaa.Keys
open Go Go.RowKit Go.Maps Go.Proofs.Ytblbeinnfbohbaa.Nums
set_option maxRecDepth 100000
set_option linter.unusedVariables false

/-- A key: its text and its symbol. -/
abbrev KV := ByteArray × Int
/-- The text of a number. -/
def kb (n : Int) : ByteArray := ⟨(Lib.itoa n).toArray⟩
theorem kb_list (n : Int) : (kb n).data.toList = Lib.itoa n := rfl
/-- Keys as cells. -/
def cellsK (l : List KV) : List Value := l.flatMap fun k => [.string k.1, .int .i64 k.2]
theorem cellsK_nil : cellsK [] = [] := rfl
theorem cellsK_append (a b : List KV) : cellsK (a ++ b) = cellsK a ++ cellsK b := by simp [cellsK]
theorem cellsK_one (k : KV) : cellsK [k] = [.string k.1, .int .i64 k.2] := rfl
theorem cellsK_length (l : List KV) : (cellsK l).length = l.length * 2 := by
  induction l with
  | nil => rfl
  | cons a r ih => simp only [cellsK, List.flatMap_cons, List.length_append, List.length_cons, List.length_nil] at ih ⊢; omega
theorem cellsK_at (l : List KV) : ∀ (j : Nat) (k : KV), l[j]? = some k → (cellsK l)[2 * j]? = some (.string k.1) ∧ (cellsK l)[2 * j + 1]? = some (.int .i64 k.2) := by
  induction l with
  | nil => intro j k h; simp at h
  | cons a r ih =>
    intro j k h
    have e : cellsK (a :: r) = .string a.1 :: .int .i64 a.2 :: cellsK r := rfl
    cases j with
    | zero => simp at h; subst h; exact ⟨rfl, rfl⟩
    | succ j =>
      have := ih j k (by simpa using h)
      rw [e, show 2 * (j + 1) = 2 * j + 1 + 1 by omega]
      exact this

/-- What a key is as an array index. -/
def kidx (k : KV) : Option Int := if k.2 = 0 then idxF k.1.data.toList else none
def isSym (k : KV) : Bool := k.2 != 0
def isName (k : KV) : Bool := k.2 == 0 && (idxF k.1.data.toList).isNone

instance : DecidableEq ByteArray := fun a b => if h : a.data = b.data then .isTrue (ByteArray.ext h) else .isFalse fun e => h (by rw [e])
theorem snoc_ind {α : Type} {P : List α → Prop} (h0 : P []) (h1 : ∀ l a, P l → P (l ++ [a])) (l : List α) : P l := by
  have h : ∀ r : List α, P r.reverse := fun r => by
    induction r with
    | nil => exact h0
    | cons a r ih => rw [List.reverse_cons]; exact h1 _ _ ih
  have := h l.reverse
  rwa [List.reverse_reverse] at this

/-- Is a key on a list? -/
def memb (k : KV) (l : List KV) : Bool := l.any fun x => decide (x = k)
theorem memb_iff (k : KV) (l : List KV) : memb k l = true ↔ k ∈ l := by simp [memb]
theorem memb_no {k : KV} {l : List KV} (h : memb k l = false) : k ∉ l := fun hm => by rw [(memb_iff k l).2 hm] at h; cases h
/-- Each key once, where it first stands. -/
def once (l : List KV) : List KV := l.foldl (fun acc k => if memb k acc = true then acc else acc ++ [k]) []
theorem once_snoc (l : List KV) (k : KV) : once (l ++ [k]) = if memb k (once l) = true then once l else once l ++ [k] := by unfold once; rw [List.foldl_append]; rfl
theorem once_mem (l : List KV) : ∀ k, k ∈ once l ↔ k ∈ l := by
  refine snoc_ind (P := fun l => ∀ k, k ∈ once l ↔ k ∈ l) ?_ ?_ l
  · intro k; simp [once]
  · intro l a ih k
    rw [once_snoc]
    split
    · rename_i h
      rw [ih, List.mem_append]
      constructor
      · exact Or.inl
      · rintro (h' | h')
        · exact h'
        · rw [List.mem_singleton.1 h']; exact (ih a).1 ((memb_iff _ _).1 h)
    · rw [List.mem_append, List.mem_append, ih]
theorem once_nodup (l : List KV) : (once l).Nodup := by
  refine snoc_ind (P := fun l => (once l).Nodup) (by simp [once]) ?_ l
  · intro l a ih
    rw [once_snoc]
    split
    · exact ih
    · rename_i h
      rw [List.nodup_append]
      exact ⟨ih, by simp, fun x hx y hy => by rw [List.mem_singleton.1 hy]; exact fun e => h ((memb_iff _ _).2 (e ▸ hx))⟩
theorem once_length (l : List KV) : (once l).length ≤ l.length := by
  refine snoc_ind (P := fun l => (once l).length ≤ l.length) (by simp [once]) ?_ l
  · intro l a ih
    rw [once_snoc]
    split <;> simp <;> omega

/-! ### The set of keys that were met -/
theorem laidOut : laidOutB Try.prog = true := by kernel_rfl
theorem row26 : (91 : TypeId) < Try.prog.types.size := of_decide_eq_true (by kernel_rfl)
theorem wide26 : (match Try.prog.underlying 91 with | some (.array _ _) | some (.struct _) => true | _ => false) = true := by rw [Try.underlying91]
theorem law26 : Keyed Try.prog 91 := Keyed.of_law (deep_law_laid laidOut (m := 2) (by omega) row26 (by kernel_rfl) wide26)
theorem cells26 : Try.prog.cellsOf 91 = 2 := by kernel_rfl
theorem cells9 : Try.prog.cellsOf 9 = 1 := by kernel_rfl
theorem cells3 : Try.prog.cellsOf 3 = 1 := by kernel_rfl
/-- A key as the map reads it. -/
def klit (k : KV) : Lit := .string (keyBytes [.string k.1.data.toList, .int .i64 k.2])
theorem formed26 (a b : Value) : (Value.agg #[a, b]).formed Try.prog 91 = true := by simp [Value.formed, Try.underlying91, cells26]
theorem keyType26 : Try.prog.keyType 91 = true := by kernel_rfl
theorem key_lits (k : KV) (hs : k.1.size ≤ maxLen) (hw : (Lit.int .i64 k.2).wf = true) (d : Nat) : Try.prog.keyLits (d + 2) 91 [.string k.1, .int .i64 k.2] = some [.string k.1.data.toList, .int .i64 k.2] := by
  simp [Program.keyLits, Try.underlying91, Try.underlying9, Try.underlying3, cells26, cells9, cells3, hs, hw]
theorem key_of (k : KV) (hs : k.1.size ≤ maxLen) (hw : (Lit.int .i64 k.2).wf = true) : keyOf Try.prog 91 (.agg #[.string k.1, .int .i64 k.2]) = some (klit k) := by
  unfold keyOf
  rw [Try.underlying91]
  simp only [keyType26, formed26, Bool.and_self, if_true]
  obtain ⟨d, hd⟩ : ∃ d, Try.prog.types.size + 1 = d + 2 := ⟨Try.prog.types.size - 1, by have h : 91 < Try.prog.types.size := row26; omega⟩
  rw [hd]
  have e : (Value.agg #[.string k.1, .int .i64 k.2]).cells.toList = [.string k.1, .int .i64 k.2] := rfl
  rw [e, key_lits k hs hw]
  rfl
/-- A key that a map may hold. -/
def Fine (k : KV) : Prop := k.1.size ≤ 281474976710656 ∧ -9223372036854775808 ≤ k.2 ∧ k.2 ≤ 9223372036854775807
theorem Fine.key {k : KV} (h : Fine k) : keyOf Try.prog 91 (.agg #[.string k.1, .int .i64 k.2]) = some (klit k) := by
  obtain ⟨h1, h2, h3⟩ := h
  exact key_of k (by unfold maxLen; omega) (WalkArith.wf_i64 (by omega))
theorem klit_inj {a b : KV} (ha : Fine a) (hb : Fine b) (h : klit a = klit b) : a = b := by
  have e := law26.inj ha.key (h ▸ hb.key)
  simp at e
  exact Prod.ext e.1 e.2
def SetK (l : List KV) : DataW Unit := setOf (.agg []) (l.map klit)
theorem has_set {l : List KV} {k : KV} (hl : ∀ x ∈ l, Fine x) (hk : Fine k) : Maps.has (SetK l) (klit k) = memb k l := by
  unfold SetK
  rw [has_setOf _ _ _ (fun y hy => by obtain ⟨x, hx, rfl⟩ := List.mem_map.1 hy; exact law26.key (hl x hx).key), List.any_map]
  unfold memb
  rw [Bool.eq_iff_iff]
  simp only [List.any_eq_true, Function.comp_apply, decide_eq_true_eq]
  constructor
  · rintro ⟨x, hx, h⟩
    exact ⟨x, hx, klit_inj (hl x hx) hk (WideAt.sameKey_eq h)⟩
  · rintro ⟨x, hx, rfl⟩
    exact ⟨x, hx, WideAt.sameKey_self (law26.key hk.key)⟩
theorem set_snoc (l : List KV) (k : KV) : SetK (l ++ [k]) = (SetK l).put (klit k) (.agg []) := by
  unfold SetK
  rw [List.map_append, List.map_singleton, setOf_snoc]

/-! ### Indexes, names, symbols -/
def ints (l : List Int) : List Value := l.map (Value.int .i64)
def idxs (l : List KV) : List Int := l.filterMap kidx
def names (l : List KV) : List KV := l.filter isName
def syms (l : List KV) : List KV := l.filter isSym
/-- The documented order of keys. -/
def ordF (l : List KV) : List KV := ((idxs (once l)).mergeSort (fun x y => decide (x ≤ y))).map (fun n => (kb n, 0)) ++ names (once l) ++ syms (once l)

theorem kidx_some {k : KV} {n : Int} (h : kidx k = some n) : k.2 = 0 ∧ idxF k.1.data.toList = some n := by
  unfold kidx at h
  split at h
  · exact ⟨by assumption, h⟩
  · cases h
/-- What a key is: an index, a symbol, or a name. -/
inductive Sort3 (k : KV) : Prop
  | idx (n : Int) (h : kidx k = some n)
  | sym (h : (k.2 != 0) = true) (h0 : kidx k = none)
  | name (h : k.2 = 0) (h0 : idxF k.1.data.toList = none)
theorem sort3 (k : KV) : Sort3 k := by
  by_cases h : k.2 = 0
  · cases hi : idxF k.1.data.toList with
    | none => exact .name h hi
    | some n => exact .idx n (by rw [kidx, if_pos h, hi])
  · exact .sym (by simpa using h) (by rw [kidx, if_neg h])
theorem step_idx {k : KV} {n : Int} (h : kidx k = some n) (l : List KV) : idxs (l ++ [k]) = idxs l ++ [n] ∧ names (l ++ [k]) = names l ∧ syms (l ++ [k]) = syms l := by
  obtain ⟨h1, h2⟩ := kidx_some h
  refine ⟨by simp [idxs, List.filterMap_append, h], ?_, ?_⟩
  · simp [names, isName, h2]
  · simp [syms, isSym, h1]
theorem step_sym {k : KV} (h : (k.2 != 0) = true) (h0 : kidx k = none) (l : List KV) : idxs (l ++ [k]) = idxs l ∧ names (l ++ [k]) = names l ∧ syms (l ++ [k]) = syms l ++ [k] := by
  have h' : k.2 ≠ 0 := by simpa using h
  refine ⟨by simp [idxs, List.filterMap_append, h0], ?_, ?_⟩
  · simp [names, isName, h']
  · simp [syms, isSym, h']
theorem step_name {k : KV} (h : k.2 = 0) (h0 : idxF k.1.data.toList = none) (l : List KV) : idxs (l ++ [k]) = idxs l ∧ names (l ++ [k]) = names l ++ [k] ∧ syms (l ++ [k]) = syms l := by
  refine ⟨by simp [idxs, List.filterMap_append, kidx, h, h0], ?_, ?_⟩
  · simp [names, isName, h, h0]
  · simp [syms, isSym, h]
theorem take_snoc {l : List KV} {j : Nat} {k : KV} (h : l[j]? = some k) : l.take (j + 1) = l.take j ++ [k] := by rw [List.take_add_one, h]; rfl
theorem once_old {l : List KV} {j : Nat} {k : KV} (h : l[j]? = some k) (hm : memb k (once (l.take j)) = true) : once (l.take (j + 1)) = once (l.take j) := by rw [take_snoc h, once_snoc, if_pos hm]
theorem once_new {l : List KV} {j : Nat} {k : KV} (h : l[j]? = some k) (hm : memb k (once (l.take j)) = false) : once (l.take (j + 1)) = once (l.take j) ++ [k] := by rw [take_snoc h, once_snoc, if_neg (by rw [hm]; decide)]
theorem once_len {l : List KV} {j : Nat} (h : j ≤ l.length) : (once (l.take j)).length ≤ j := by
  have := once_length (l.take j)
  rw [List.length_take] at this
  omega
theorem idxs_len (l : List KV) : (idxs l).length ≤ l.length := List.length_filterMap_le _ _
theorem names_len (l : List KV) : (names l).length ≤ l.length := List.length_filter_le _ _
theorem syms_len (l : List KV) : (syms l).length ≤ l.length := List.length_filter_le _ _
end Go.Proofs.Ytblbeinnfbohbaa.Keys

/-
  The small functions of package numbers and their counterparts: what each call gives.
-/
namespace Go.Proofs.Ytblbeinnfbohbaa.Nums
open Go.RowKit
set_option linter.unusedVariables false

theorem ret_b {a b : Bool} (h : a = b) : Ending.returned (.bool a) = Ending.returned (.bool b) := by rw [h]
theorem ret_ib {k : IntKind} {a b : Int} {c d : Bool} (h : a = b) (g : c = d) : Ending.returned (.tuple #[.int k a, .bool c]) = Ending.returned (.tuple #[.int k b, .bool d]) := by rw [h, g]

/-- What a result of two parts is: the number and true, or 0 and false. -/
def two (r : Option Int) : Ending := .returned (.tuple #[.int .i64 (r.getD 0), .bool r.isSome])
theorem two_some (n : Int) : Ending.returned (.tuple #[.int .i64 n, .bool true]) = two (some n) := rfl
theorem two_none : Ending.returned (.tuple #[.int .i64 0, .bool false]) = two none := rfl
theorem two_wrap {n : Int} (h : wrap64 n = n) : Ending.returned (.tuple #[.int .i64 (wrap64 n), .bool true]) = two (some n) := by rw [h]; rfl

end Go.Proofs.Ytblbeinnfbohbaa.Nums

/-
  keys.isSymbol: what a call gives.
-/
namespace Go.Proofs.Ytblbeinnfbohbaa.Keys
open Go.RowKit Go.Proofs.Ytblbeinnfbohbaa.Nums
set_option linter.unusedVariables false

end Go.Proofs.Ytblbeinnfbohbaa.Keys

/-
  A world's facts: none are wanted here.
-/
namespace Go.Proofs.Ytblbeinnfbohbaa.Nums
open Go Go.RowKit
set_option linter.unusedVariables false
structure Lw (w : World) : Prop where
  triv : True
theorem Lw.below {w w' : World} (h : Lw w) (hb : Below w.heap.size w w') : Lw w' := ⟨trivial⟩
end Go.Proofs.Ytblbeinnfbohbaa.Nums

/-
  keys.Index: what it gives; the document's example.
-/
namespace Go.Proofs.Ytblbeinnfbohbaa.Keys
open Go.RowKit Go.Proofs.Ytblbeinnfbohbaa.Nums
set_option linter.unusedVariables false

theorem bnext {w w1 w2 : World} (h1 : Below w.heap.size w w1) (h2 : Below w1.heap.size w1 w2) : Below w.heap.size w w2 := h1.trans (h2.mono h1.size)
theorem ball (w : World) (o : Obj) : Below w.heap.size w (w.alloc o) := (Below.refl _ _).alloc (Nat.le_refl _) _
theorem new_cell {w w1 : World} {cs : Array Value} {t : TypeId} (hb : Below (w.alloc (.cells cs t)).heap.size (w.alloc (.cells cs t)) w1) (i : Nat) : w1.cell? ⟨w.heap.size, i, none⟩ = cs[i]? := by
  rw [hb.cell (p := ⟨w.heap.size, i, none⟩) (by simp)]
  simp

theorem idx_07 : idxF [48, 55] = none := by
  cases h : idxF [48, 55] with
  | none => rfl
  | some n =>
    obtain ⟨h0, h1, hl⟩ := idxF_some h
    have hv := val_itoa n
    rw [hl] at hv
    have e : val [48, 55] = 7 := by decide
    have e7 : Lib.itoa 7 = [55] := by
      have : Lib.itoa ((7 : Nat) : Int) = Lib.decDigits 7 := if_neg (by omega)
      rw [show (7 : Int) = ((7 : Nat) : Int) from rfl, this, Lib.decDigits_one (by decide)]; rfl
    rw [← hv, e, e7] at hl
    cases hl
theorem idx_7 : idxF [55] = some 7 := by
  have e7 : Lib.itoa 7 = [55] := by
    have : Lib.itoa ((7 : Nat) : Int) = Lib.decDigits 7 := if_neg (by omega)
    rw [show (7 : Int) = ((7 : Nat) : Int) from rfl, this, Lib.decDigits_one (by decide)]; rfl
  rw [← e7]
  exact idxF_itoa (by omega) (by omega)

end Go.Proofs.Ytblbeinnfbohbaa.Keys
