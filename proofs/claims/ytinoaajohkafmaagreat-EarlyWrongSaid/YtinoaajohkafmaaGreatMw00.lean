/-
  Texts of this seat in build order: NmNum, UnMath, UnPtm, UnEnc, UnPairs, LxSpec, UnLow, LxSmall, Shelf, UnPts, UnOf, UnPoint.
-/
import Derived.Lib.ItoaNum
import Derived.Lib.AtoiAll
import Derived.Laws.RangeString
import Derived.Laws.RangeAny
import Derived.Lib.IndexMore
import Derived.Lib.Strings
import Derived.Test.YtinoaajohkafmaaGreatProg
import Derived.WalkKit
import Derived.WalkSpells
import Derived.WalkLawsBesides
import Derived.RegionTactic
import Derived.ChangeAlike
import Derived.Deep.QuietTactic
import Derived.BigQuiet
import Derived.Lib.Hide
import Derived.Shelf.Strings.Prefix
import Derived.OneCell
/-
  Plain mathematics of decimal numerals: what digits spell, that a numeral spells its number, that reading a numeral gives the number back.
-/
namespace Go.Proofs.YtinoaajohkafmaaGreat.Nums
open Go
set_option linter.unusedVariables false
def sf (n : Int) : Bool := decide (-9007199254740991 ≤ n ∧ n ≤ 9007199254740991)
theorem sf_mk {n : Int} (h0 : -9007199254740991 ≤ n) (h1 : n ≤ 9007199254740991) : sf n = true := decide_eq_true ⟨h0, h1⟩
theorem sf_no {n : Int} (h : n < -9007199254740991 ∨ 9007199254740991 < n) : sf n = false := decide_eq_false (by omega)
def valD (l : List UInt8) : Nat := l.foldl (fun a c => a * 10 + (c.toNat - 48)) 0
theorem valD_snoc (l : List UInt8) (c : UInt8) : valD (l ++ [c]) = valD l * 10 + (c.toNat - 48) := by simp [valD]
theorem dig_nat (d : Nat) (h : d < 10) : (UInt8.ofNat (48 + d)).toNat = 48 + d := by
  rw [UInt8.toNat_ofNat']; omega
theorem val_dec (u : Nat) : valD (Lib.decDigits u) = u := by
  induction u using Nat.strongRecOn with
  | ind u ih =>
    rw [Lib.decDigits]
    split
    · simp only [valD, List.foldl_cons, List.foldl_nil, dig_nat u ‹_›]; omega
    · rw [valD_snoc, ih (u / 10) (by omega), dig_nat _ (by omega)]; omega
theorem dec_len (k : Nat) : ∀ u, u < 10 ^ (k + 1) → (Lib.decDigits u).length ≤ k + 1 := by
  induction k with
  | zero =>
    intro u h
    rw [Lib.decDigits, dif_pos (by simpa using h)]
    simp
  | succ k ih =>
    intro u h
    rw [Lib.decDigits]
    split
    · simp
    · have := ih (u / 10) (by rw [Nat.pow_succ] at h; omega)
      simp only [List.length_append, List.length_singleton]
      omega
end Go.Proofs.YtinoaajohkafmaaGreat.Nums

/-
  Plain mathematics of chapter 1: bytes, code points and 16-bit units; nothing here speaks of the program.
-/
namespace Go.Proofs.YtinoaajohkafmaaGreat.Uni
def B (s : ByteArray) (k : Nat) : Nat := (s.data.toList[k]?.getD 0).toNat
theorem B_lt (s : ByteArray) (k : Nat) : B s k < 256 := by unfold B; exact UInt8.toNat_lt _
theorem B_get (s : ByteArray) (k : Nat) (h : k < s.size) : (s[k]'h).toNat = B s k := by
  unfold B
  have h' : k < s.data.toList.length := by simpa using h
  rw [List.getElem?_eq_getElem h']
  rfl
theorem B_get! (s : ByteArray) (k : Nat) : (s.get! k).toNat = B s k := by
  by_cases h : k < s.size
  · rw [← B_get s k h]
    have := get_at s k h
    simp only [Nat.add_zero] at this
    rw [this]
  · unfold B
    have h' : ¬ k < s.data.size := by simpa using h
    have e : s.data[k]? = none := by simp; exact Nat.le_of_not_lt h'
    have e2 : s.data[k]! = default := by rw [getElem!_def, e]
    simp only [ByteArray.get!, e2]
    have e3 : s.data.toList[k]? = none := by simp; exact Nat.le_of_not_lt h'
    rw [e3]
    rfl
theorem B_out (s : ByteArray) (k : Nat) (h : s.size ≤ k) : B s k = 0 := by
  unfold B
  rw [List.getElem?_eq_none (by simpa using h)]
  rfl
theorem B_extract (s : ByteArray) (i k : Nat) : B (s.extract i s.size) k = B s (i + k) := by
  by_cases h : i + k < s.size
  · have h' : k < (s.extract i s.size).size := by simp; omega
    rw [← B_get _ _ h', ← B_get _ _ h]
    congr 1
    exact ByteArray.getElem_extract h'
  · rw [B_out s (i + k) (by omega), B_out _ k (by simp; omega)]
def surB (s : ByteArray) (i : Nat) : Bool := decide (i + 3 ≤ s.size ∧ B s i = 237 ∧ B s (i + 1) / 32 = 5 ∧ B s (i + 2) / 64 = 2)
def surV (s : ByteArray) (i : Nat) : Nat := 53248 + B s (i + 1) % 64 * 64 + B s (i + 2) % 64
theorem sur_at (s : ByteArray) (i : Nat) : surB (s.extract i s.size) 0 = surB s i := by
  unfold surB
  simp only [B_extract, Nat.zero_add, Nat.add_zero]
  have : (3 ≤ (s.extract i s.size).size) ↔ (i + 3 ≤ s.size) := by simp; omega
  simp only [this]
theorem surV_at (s : ByteArray) (i : Nat) : surV (s.extract i s.size) 0 = surV s i := by
  unfold surV
  simp only [B_extract, Nat.zero_add]
theorem surB_iff {s : ByteArray} {i : Nat} (h : surB s i = true) : i + 3 ≤ s.size ∧ B s i = 237 ∧ B s (i + 1) / 32 = 5 ∧ B s (i + 2) / 64 = 2 := of_decide_eq_true h
theorem surB_not {s : ByteArray} {i : Nat} (h : surB s i = false) : ¬ (i + 3 ≤ s.size ∧ B s i = 237 ∧ B s (i + 1) / 32 = 5 ∧ B s (i + 2) / 64 = 2) := of_decide_eq_false h
theorem surV_bd {s : ByteArray} {i : Nat} (h : surB s i = true) : 55296 ≤ surV s i ∧ surV s i ≤ 57343 := by
  obtain ⟨_, _, h1, h2⟩ := surB_iff h
  have := B_lt s (i + 1)
  unfold surV
  omega
theorem dec_eq (s : ByteArray) (i : Nat) : Utf8.decode s i =
    (if B s i < 128 then (B s i, 1)
     else if B s i / 32 = 6 ∧ i + 1 < s.size ∧ B s (i + 1) / 64 = 2 then
       (if 128 ≤ (B s i % 32) * 64 + B s (i + 1) % 64 then ((B s i % 32) * 64 + B s (i + 1) % 64, 2) else (65533, 1))
     else if B s i / 16 = 14 ∧ i + 1 < s.size ∧ B s (i + 1) / 64 = 2 ∧ i + 2 < s.size ∧ B s (i + 2) / 64 = 2 then
       (if 2048 ≤ (B s i % 16) * 4096 + B s (i + 1) % 64 * 64 + B s (i + 2) % 64 ∧ ((B s i % 16) * 4096 + B s (i + 1) % 64 * 64 + B s (i + 2) % 64 < 55296 ∨ 57344 ≤ (B s i % 16) * 4096 + B s (i + 1) % 64 * 64 + B s (i + 2) % 64)
        then ((B s i % 16) * 4096 + B s (i + 1) % 64 * 64 + B s (i + 2) % 64, 3) else (65533, 1))
     else if B s i / 8 = 30 ∧ i + 1 < s.size ∧ B s (i + 1) / 64 = 2 ∧ i + 2 < s.size ∧ B s (i + 2) / 64 = 2 ∧ i + 3 < s.size ∧ B s (i + 3) / 64 = 2 then
       (if 65536 ≤ (B s i % 8) * 262144 + B s (i + 1) % 64 * 4096 + B s (i + 2) % 64 * 64 + B s (i + 3) % 64 ∧ (B s i % 8) * 262144 + B s (i + 1) % 64 * 4096 + B s (i + 2) % 64 * 64 + B s (i + 3) % 64 ≤ 1114111
        then ((B s i % 8) * 262144 + B s (i + 1) % 64 * 4096 + B s (i + 2) % 64 * 64 + B s (i + 3) % 64, 4) else (65533, 1))
     else (65533, 1)) := by
  unfold Utf8.decode Utf8.valid Utf8.runeError
  simp only [B_get!, Nat.add_zero, ge_iff_le]
  have h0 := B_lt s i
  have h1 := B_lt s (i + 1)
  have h2 := B_lt s (i + 2)
  have h3 := B_lt s (i + 3)
  by_cases a : B s i < 128
  · rw [if_pos a, if_pos a]
  · rw [if_neg a, if_neg a]
    by_cases b : B s i / 32 = 6 ∧ i + 1 < s.size ∧ B s (i + 1) / 64 = 2
    · rw [if_pos (by simp [b]), if_pos b]
    · rw [if_neg (by simp; intro x y; omega), if_neg b]
      by_cases c : B s i / 16 = 14 ∧ i + 1 < s.size ∧ B s (i + 1) / 64 = 2 ∧ i + 2 < s.size ∧ B s (i + 2) / 64 = 2
      · rw [if_pos (by simp [c]), if_pos c]
        refine ite_congr ?_ (fun _ => rfl) (fun _ => rfl)
        simp
        intro _
        omega
      · rw [if_neg (by simp; intro x y; omega), if_neg c]
        by_cases d : B s i / 8 = 30 ∧ i + 1 < s.size ∧ B s (i + 1) / 64 = 2 ∧ i + 2 < s.size ∧ B s (i + 2) / 64 = 2 ∧ i + 3 < s.size ∧ B s (i + 3) / 64 = 2
        · rw [if_pos (by simp [d]), if_pos d]
          refine ite_congr ?_ (fun _ => rfl) (fun _ => rfl)
          simp
          intro _
          omega
        · rw [if_neg (by simp; intro x y; omega), if_neg d]
theorem decode_sur {s : ByteArray} {i : Nat} (h : surB s i = true) : Utf8.decode s i = (65533, 1) ∧ Utf8.decode s (i + 1) = (65533, 1) ∧ Utf8.decode s (i + 2) = (65533, 1) := by
  obtain ⟨h0, h1, h2, h3⟩ := surB_iff h
  have := B_lt s (i + 1)
  have := B_lt s (i + 2)
  refine ⟨?_, ?_, ?_⟩
  · rw [dec_eq]
    rw [if_neg (by omega), if_neg (by omega), if_pos (by omega), if_neg (by omega)]
  · rw [dec_eq]
    rw [if_neg (by omega), if_neg (by omega), if_neg (by omega), if_neg (by omega)]
  · rw [dec_eq]
    rw [if_neg (by omega), if_neg (by omega), if_neg (by omega), if_neg (by omega)]
theorem decode_cases (s : ByteArray) (i : Nat) (hi : i < s.size) :
    (Utf8.decode s i = (65533, 1)) ∨
    (1 ≤ (Utf8.decode s i).2 ∧ i + (Utf8.decode s i).2 ≤ s.size ∧ (Utf8.decode s i).2 ≤ 4 ∧ (Utf8.decode s i).1 ≤ 1114111 ∧ ((Utf8.decode s i).1 < 55296 ∨ 57344 ≤ (Utf8.decode s i).1) ∧
      ((Utf8.decode s i).1 = 65533 → (Utf8.decode s i).2 = 3)) := by
  have h0 := B_lt s i
  have h1 := B_lt s (i + 1)
  have h2 := B_lt s (i + 2)
  have h3 := B_lt s (i + 3)
  rw [dec_eq]
  split
  · right; simp; omega
  · split
    · split
      · right; simp; omega
      · left; rfl
    · split
      · split
        · right; simp; omega
        · left; rfl
      · split
        · split
          · right; simp; omega
          · left; rfl
        · left; rfl
theorem decode_fffd (s : ByteArray) (i : Nat) : Utf8.decode s i = (65533, 3) ↔ (i + 3 ≤ s.size ∧ B s i = 239 ∧ B s (i + 1) = 191 ∧ B s (i + 2) = 189) := by
  have h0 := B_lt s i
  have h1 := B_lt s (i + 1)
  have h2 := B_lt s (i + 2)
  have h3 := B_lt s (i + 3)
  constructor
  · intro h
    rw [dec_eq] at h
    split at h
    · simp at h
    · split at h
      · split at h <;> simp at h
      · split at h
        · split at h
          · simp at h; omega
          · simp at h
        · split at h
          · split at h <;> simp at h
          · simp at h
  · intro h
    rw [dec_eq]
    rw [if_neg (by omega), if_neg (by omega), if_pos (by omega), if_pos (by omega)]
    simp; omega
def pt (s : ByteArray) (i : Nat) : Nat × Nat :=
  if surB s i then (surV s i, 3) else if Utf8.decode s i = (65533, 1) then (0, 0) else Utf8.decode s i
def isHi (c : Nat) : Bool := decide (55296 ≤ c ∧ c < 56320)
def isLo (c : Nat) : Bool := decide (56320 ≤ c ∧ c ≤ 57343)
def dec (s : ByteArray) : Nat → Nat → Bool → Option (List Nat)
  | 0, _, _ => some []
  | f + 1, i, ah => if i < s.size then (if (pt s i).2 = 0 ∨ (ah = true ∧ isLo (pt s i).1 = true) then none else (dec s f (i + (pt s i).2) (isHi (pt s i).1)).map ((pt s i).1 :: ·)) else some []
def pts (s : ByteArray) : Option (List Nat) := dec s s.size 0 false
def Went (s : ByteArray) (done : List Nat) (f i : Nat) (ah : Bool) : Prop :=
  s.size ≤ i + f ∧ i ≤ s.size ∧ done.length ≤ i ∧ pts s = (dec s f i ah).map (done ++ ·)
theorem went_start (s : ByteArray) : Went s [] s.size 0 false := by
  refine ⟨by omega, by omega, by simp, ?_⟩
  unfold pts
  cases dec s s.size 0 false <;> simp
theorem went_end {s : ByteArray} {done : List Nat} {f i : Nat} {ah : Bool} (h : Went s done f i ah) (hi : ¬ i < s.size) : pts s = some done := by
  rw [h.2.2.2]
  cases f with
  | zero => simp [dec]
  | succ f => simp [dec, hi]
theorem went_step {s : ByteArray} {done : List Nat} {f i : Nat} {ah : Bool} (h : Went s done f i ah) (hi : i < s.size) (hn : 1 ≤ (pt s i).2) (hs : i + (pt s i).2 ≤ s.size)
    (ha : ¬ (ah = true ∧ isLo (pt s i).1 = true)) : ∃ g, Went s (done ++ [(pt s i).1]) g (i + (pt s i).2) (isHi (pt s i).1) := by
  obtain ⟨h1, h2, h3, h4⟩ := h
  obtain ⟨g, rfl⟩ : ∃ g, f = g + 1 := ⟨f - 1, by omega⟩
  refine ⟨g, by omega, hs, by simp; omega, ?_⟩
  rw [h4]
  simp only [dec, hi, if_true]
  rw [if_neg (fun x => x.elim (by omega) ha)]
  cases dec s g (i + (pt s i).2) (isHi (pt s i).1) <;> simp
theorem went_none {s : ByteArray} {done : List Nat} {f i : Nat} {ah : Bool} (h : Went s done f i ah) (hi : i < s.size) (hn : (pt s i).2 = 0) : pts s = none := by
  obtain ⟨h1, h2, h3, h4⟩ := h
  obtain ⟨g, rfl⟩ : ∃ g, f = g + 1 := ⟨f - 1, by omega⟩
  rw [h4]
  simp [dec, hi, hn]
theorem went_pair {s : ByteArray} {done : List Nat} {f i : Nat} {ah : Bool} (h : Went s done f i ah) (hi : i < s.size) (ha : ah = true) (hl : isLo (pt s i).1 = true) : pts s = none := by
  obtain ⟨h1, h2, h3, h4⟩ := h
  obtain ⟨g, rfl⟩ : ∃ g, f = g + 1 := ⟨f - 1, by omega⟩
  rw [h4]
  simp [dec, hi, ha, hl]
theorem pt_sur {s : ByteArray} {i : Nat} (h : surB s i = true) : pt s i = (surV s i, 3) := by unfold pt; rw [if_pos h]
theorem pt_none {s : ByteArray} {i : Nat} (h : surB s i = false) (h2 : Utf8.decode s i = (65533, 1)) : pt s i = (0, 0) := by
  unfold pt; rw [if_neg (by simp [h]), if_pos h2]
theorem pt_dec {s : ByteArray} {i : Nat} (h2 : ¬ Utf8.decode s i = (65533, 1)) : pt s i = Utf8.decode s i := by
  unfold pt
  rw [if_neg (fun h => h2 (decode_sur h).1), if_neg h2]
def un (p : Nat) : List Nat := if p < 65536 then [p] else [55296 + (p - 65536) / 1024, 56320 + (p - 65536) % 1024]
def uns (l : List Nat) : List Nat := l.flatMap un
def units (s : ByteArray) : List Nat := ((pts s).map uns).getD []
theorem un_len (p : Nat) : (un p).length = if p < 65536 then 1 else 2 := by unfold un; split <;> rfl
theorem uns_snoc (l : List Nat) (p : Nat) : uns (l ++ [p]) = uns l ++ un p := by simp [uns]
theorem uns_le (l : List Nat) : (uns l).length ≤ 2 * l.length := by
  induction l with
  | nil => simp [uns]
  | cons a r ih =>
    have h1 : uns (a :: r) = un a ++ uns r := by simp [uns]
    have h2 := un_len a
    rw [h1, List.length_append, List.length_cons]
    split at h2 <;> omega
end Go.Proofs.YtinoaajohkafmaaGreat.Uni

/-
  Plain mathematics of a code point's decoding by the reference's steps.
-/
namespace Go.Proofs.YtinoaajohkafmaaGreat.Uni
theorem pt_ascii {s : ByteArray} {i : Nat} (h : B s i < 128) : pt s i = (B s i, 1) := by
  unfold pt
  have h1 : surB s i = false := by
    cases e : surB s i with
    | false => rfl
    | true => have := surB_iff e; omega
  have hd : Utf8.decode s i = (B s i, 1) := by rw [dec_eq, if_pos h]
  rw [if_neg (by rw [h1]; simp), hd]
  rw [if_neg (by simp; omega)]
end Go.Proofs.YtinoaajohkafmaaGreat.Uni

/-
  Plain mathematics of chapter 1: encodings of code points, and pairs of surrogates.
-/
namespace Go.Proofs.YtinoaajohkafmaaGreat.Uni
def encN (c : Nat) : List Nat :=
  if c < 128 then [c] else if c < 2048 then [192 + c / 64, 128 + c % 64] else if c < 65536 then [224 + c / 4096, 128 + c / 64 % 64, 128 + c % 64]
  else [240 + c / 262144, 128 + c / 4096 % 64, 128 + c / 64 % 64, 128 + c % 64]
def enc (c : Nat) : List UInt8 := (encN c).map Nat.toUInt8
end Go.Proofs.YtinoaajohkafmaaGreat.Uni

/-
  Plain mathematics of chapter 1: units, pairs of surrogates and code points.
-/
namespace Go.Proofs.YtinoaajohkafmaaGreat.Uni
end Go.Proofs.YtinoaajohkafmaaGreat.Uni

/-
  Plain mathematics of the lexer: what it gives for a list of bytes; nothing here speaks of the program.
-/
namespace Go.Proofs.YtinoaajohkafmaaGreat.Lx
open Go.Proofs.YtinoaajohkafmaaGreat.Uni Go.Proofs.YtinoaajohkafmaaGreat.Nums
set_option linter.unusedVariables false
abbrev By := List UInt8
def endN (p : Nat) : Bool := decide (p = 10) || decide (p = 13)
def whiteN (p : Nat) : Bool := decide (p = 32) || (decide (p = 9) || endN p)
def digitN (p : Nat) : Bool := decide (48 ≤ p) && decide (p ≤ 57)
def leadN (p : Nat) : Bool := decide (97 ≤ p) && decide (p ≤ 122) || (decide (65 ≤ p) && decide (p ≤ 90) || (decide (p = 95) || decide (p = 36)))
def contN (p : Nat) : Bool := leadN p || digitN p
structure Tk where
  kind : Nat
  num : Int
  text : ByteArray
def used : List By := [[98, 114, 101, 97, 107], [99, 97, 116, 99, 104], [99, 111, 110, 115, 116], [99, 111, 110, 116, 105, 110, 117, 101], [100, 101, 108, 101, 116, 101], [101, 108, 115, 101], [102, 97, 108, 115, 101], [102, 105, 110, 97, 108, 108, 121], [102, 117, 110, 99, 116, 105, 111, 110], [105, 102], [105, 110], [108, 101, 116], [110, 101, 119], [110, 117, 108, 108], [114, 101, 116, 117, 114, 110], [116, 104, 105, 115], [116, 104, 114, 111, 119], [116, 114, 117, 101], [116, 114, 121], [116, 121, 112, 101, 111, 102], [117, 110, 100, 101, 102, 105, 110, 101, 100], [119, 104, 105, 108, 101]]
def unused : List By := [[97, 119, 97, 105, 116], [99, 97, 115, 101], [99, 108, 97, 115, 115], [100, 101, 98, 117, 103, 103, 101, 114], [100, 101, 102, 97, 117, 108, 116], [100, 111], [101, 110, 117, 109], [101, 120, 112, 111, 114, 116], [101, 120, 116, 101, 110, 100, 115], [102, 111, 114], [105, 109, 112, 108, 101, 109, 101, 110, 116, 115], [105, 109, 112, 111, 114, 116], [105, 110, 115, 116, 97, 110, 99, 101, 111, 102], [105, 110, 116, 101, 114, 102, 97, 99, 101], [112, 97, 99, 107, 97, 103, 101], [112, 114, 105, 118, 97, 116, 101], [112, 114, 111, 116, 101, 99, 116, 101, 100], [112, 117, 98, 108, 105, 99], [115, 116, 97, 116, 105, 99], [115, 117, 112, 101, 114], [115, 119, 105, 116, 99, 104], [118, 97, 114], [118, 111, 105, 100], [119, 105, 116, 104], [121, 105, 101, 108, 100]]
def wordF (l : By) : Nat := if l ∈ used then 1 else if l ∈ unused then 2 else 0
def signs : List By := [[61, 61, 61], [33, 61, 61], [38, 38], [124, 124], [60, 61], [62, 61], [123], [125], [40], [41], [91], [93], [59], [44], [46], [63], [58], [61], [60], [62], [43], [45], [42], [47], [37], [33]]
def hexN (p : Nat) : Option Nat := if 48 ≤ p ∧ p ≤ 57 then some (p - 48) else if 97 ≤ p ∧ p ≤ 102 then some (p - 87) else if 65 ≤ p ∧ p ≤ 70 then some (p - 55) else none
def hexF : Nat → By → Option Nat
  | u, [] => some u
  | u, c :: r => match hexN c.toNat with
    | none => none
    | some d => hexF (u * 16 + d) r
inductive Got where
  | ok (t : Tk) (r : By)
  | bad (r : By)
end Go.Proofs.YtinoaajohkafmaaGreat.Lx

/-
  The small functions of package units: what each call gives.
-/
namespace Go.Proofs.YtinoaajohkafmaaGreat.Uni
open Go.RowKit
set_option linter.unusedVariables false
theorem ret_ib {k : IntKind} {a b : Int} {c : Bool} (h : a = b) : Ending.returned (.tuple #[.int k a, .bool c]) = Ending.returned (.tuple #[.int k b, .bool c]) := by rw [h]
theorem gB (s : ByteArray) : ∀ (n : Nat) (h : n < s.size), ((s[n]'h).toNat : Int) = ((B s n : Nat) : Int) := fun n h => by rw [B_get s n h]
def wd (p : Nat) : Nat := if p < 65536 then 1 else 2
theorem width_any (p : Nat) (w : World) :
    Calls Tryz.prog 109 #[.int .i32 p] w fun e w' => e = .returned (.int .i64 (wd p)) ∧ w = w' := by
  by_cases h : (p : Int) < 65536
  · have e : wd p = 1 := if_pos (by omega)
    rw [e]
    clear e
    go_enter Tryz.func109, Tryz.ntmps109
    go_wp2
    go_ret
    exact ⟨rfl, rfl⟩
  · have e : wd p = 2 := if_neg (by omega)
    rw [e]
    clear e
    go_enter Tryz.func109, Tryz.ntmps109
    go_wp2
    go_ret
    exact ⟨rfl, rfl⟩
theorem isHigh_any (p : Nat) (w : World) :
    Calls Tryz.prog 117 #[.int .i32 p] w fun e w' => e = .returned (.bool (isHi p)) ∧ w = w' := by
  unfold isHi
  by_cases h : 55296 ≤ p
  · by_cases h2 : p < 56320
    · go_enter Tryz.func117, Tryz.ntmps117
      go_wp2
      go_ret
      exact ⟨by simp [h, h2]; try omega, rfl⟩
    · go_enter Tryz.func117, Tryz.ntmps117
      go_wp2
      go_ret
      exact ⟨by simp [h, h2]; try omega, rfl⟩
  · go_enter Tryz.func117, Tryz.ntmps117
    go_wp2
    go_ret
    exact ⟨by simp; try omega, rfl⟩
theorem isLow_any (p : Nat) (w : World) :
    Calls Tryz.prog 116 #[.int .i32 p] w fun e w' => e = .returned (.bool (isLo p)) ∧ w = w' := by
  unfold isLo
  by_cases h : 56320 ≤ p
  · by_cases h2 : p ≤ 57343
    · go_enter Tryz.func116, Tryz.ntmps116
      go_wp2
      go_ret
      exact ⟨by simp [h, h2]; try omega, rfl⟩
    · go_enter Tryz.func116, Tryz.ntmps116
      go_wp2
      go_ret
      exact ⟨by simp [h, h2]; try omega, rfl⟩
  · go_enter Tryz.func116, Tryz.ntmps116
    go_wp2
    go_ret
    exact ⟨by simp; try omega, rfl⟩
theorem and224 : ∀ a : Fin 256, (bits .and .u8 (a.val : Int) 224 = 160) ↔ a.val / 32 = 5 := by
  intro a
  have := u8_and_nat a.val 224 a.isLt (by omega)
  have e : ∀ a : Fin 256, (a.val &&& 224 = 160) ↔ a.val / 32 = 5 := by decide +kernel
  rw [show ((224 : Int)) = ((224 : Nat) : Int) from rfl, this]
  rw [← e a]
  omega
theorem and192 : ∀ a : Fin 256, (bits .and .u8 (a.val : Int) 192 = 128) ↔ a.val / 64 = 2 := by
  intro a
  have := u8_and_nat a.val 192 a.isLt (by omega)
  have e : ∀ a : Fin 256, (a.val &&& 192 = 128) ↔ a.val / 64 = 2 := by decide +kernel
  rw [show ((192 : Int)) = ((192 : Nat) : Int) from rfl, this]
  rw [← e a]
  omega
theorem and63 (a : Nat) (h : a < 256) : bits .and .u8 (a : Int) 63 = ((a % 64 : Nat) : Int) := by
  have := u8_and_nat a 63 h (by omega)
  rw [show ((63 : Int)) = ((63 : Nat) : Int) from rfl, this]
  rw [show (63 : Nat) = 2 ^ 6 - 1 from rfl, Nat.and_two_pow_sub_one_eq_mod]
set_option maxHeartbeats 400000 in
theorem first_no (s : ByteArray) (w : World) (hs : s.size ≤ 9223372036854775807) (h : surB s 0 = false) :
    Calls Tryz.prog 115 #[.string s] w fun e w' => e = .returned (.tuple #[.int .i32 0, .bool false]) ∧ w = w' := by
  have hn := surB_not h
  have hb := gB s
  have e1 := and224 ⟨B s 1, B_lt s 1⟩
  have e2 := and192 ⟨B s 2, B_lt s 2⟩
  clear h
  by_cases h3 : 3 ≤ s.size
  · by_cases h0 : B s 0 = 237
    · by_cases h1 : B s 1 / 32 = 5
      · have f1 := e1.2 h1
        have f2 : (bits .and .u8 (B s 2 : Int) 192 != 128) = true := by simp only [bne_iff_ne]; exact fun x => hn ⟨by omega, h0, h1, e2.1 x⟩
        have f0 : ((B s 0 : Nat) : Int) = 237 := by omega
        clear e1 e2 h0 h1 hn
        go_enter Tryz.func115, Tryz.ntmps115
        go_wp2
        go_ret2
        exact ⟨rfl, rfl⟩
      · have f1 : (bits .and .u8 (B s 1 : Int) 224 != 160) = true := by simp only [bne_iff_ne]; exact fun x => h1 (e1.1 x)
        have f0 : ((B s 0 : Nat) : Int) = 237 := by omega
        clear e1 e2 h0 h1 hn
        go_enter Tryz.func115, Tryz.ntmps115
        go_wp2
        go_ret2
        exact ⟨rfl, rfl⟩
    · have f0 : (((B s 0 : Nat) : Int) != 237) = true := by simp only [bne_iff_ne]; omega
      clear e1 e2 h0 hn
      go_enter Tryz.func115, Tryz.ntmps115
      go_wp2
      go_ret2
      exact ⟨rfl, rfl⟩
  · clear e1 e2 hn
    go_enter Tryz.func115, Tryz.ntmps115
    go_wp2
    go_ret2
    exact ⟨rfl, rfl⟩
set_option maxHeartbeats 400000 in
theorem first_yes (s : ByteArray) (w : World) (hs : s.size ≤ 9223372036854775807) (h : surB s 0 = true) :
    Calls Tryz.prog 115 #[.string s] w fun e w' => e = .returned (.tuple #[.int .i32 (surV s 0), .bool true]) ∧ ∃ n, w' = w.drewN n := by
  obtain ⟨h3, h0, h1, h2⟩ := surB_iff h
  have hb := gB s
  have f1 := (and224 ⟨B s 1, B_lt s 1⟩).2 h1
  have f2 := (and192 ⟨B s 2, B_lt s 2⟩).2 h2
  have f0 : ((B s 0 : Nat) : Int) = 237 := by omega
  have g1 := and63 (B s 1) (B_lt s 1)
  have g2 := and63 (B s 2) (B_lt s 2)
  simp only [Nat.zero_add] at h3 h1 h2
  have k1 : 1 < s.size := by omega
  have k2 : 2 < s.size := by omega
  clear h0 h1 h2 h
  go_enter Tryz.func115, Tryz.ntmps115
  go_wp2
  go_quiet (fail)
  go_wp2
  go_ret2
  exact ⟨ret_ib (by unfold surV; simp), _, rfl⟩
end Go.Proofs.YtinoaajohkafmaaGreat.Uni

/-
  The lexer's small functions: classes of code points.
-/
namespace Go.Proofs.YtinoaajohkafmaaGreat.Lx
open Go.RowKit
set_option linter.unusedVariables false
set_option linter.unusedSimpArgs false
theorem ret_b {b c : Bool} (h : b = c) : Ending.returned (.bool b) = Ending.returned (.bool c) := by rw [h]
end Go.Proofs.YtinoaajohkafmaaGreat.Lx

/-
  Contracts of library functions at this program: each is one application of a theorem of the library.
-/
namespace Go.Proofs
open Go.Shelf
def Tryz.lays99_ren : Go.Shelf.Ren := ⟨fun | 99 => 114 | 206 => 125 | n => n, fun | 9 => 9 | 4 => 4 | 3 => 3 | n => n, fun | n => n⟩
theorem Tryz.lays99 : Go.Proofs.Lays.n99 Tryz.prog Tryz.lays99_ren := {
  mixed := by kernel_rfl
  f99 := Tryz.func114.trans (congrArg some (by kernel_rfl))
  f206 := Tryz.func125.trans (congrArg some (by kernel_rfl))
  t3 := Tryz.underlying3
  a3 := Tryz.isAgg3
  z3 := Tryz.sizeOf3
  v3 := Tryz.zeroValue3
  t4 := Tryz.underlying4
  a4 := Tryz.isAgg4
  z4 := Tryz.sizeOf4
  v4 := Tryz.zeroValue4
  t9 := Tryz.underlying9
  a9 := Tryz.isAgg9
  z9 := Tryz.sizeOf9
  v9 := Tryz.zeroValue9 }
open Go.RowKit Go.Lib in
theorem Tryz.strings_HasPrefix (s p : ByteArray) (w : World) :
    Calls Tryz.prog 114 #[.string s, .string p] w fun e w' => e = .returned (.bool (Lib.hasPrefix s.data.toList p.data.toList)) ∧ w' = w := Any.strings_HasPrefix Tryz.lays99 s p w
end Go.Proofs

/-
  units.points: what it gives for whatever visitor keeps its own invariant.
-/
namespace Go.Proofs.YtinoaajohkafmaaGreat.Uni
open Go.RowKit
set_option linter.unusedVariables false
theorem pre_list (s : ByteArray) (i : Nat) : Lib.hasPrefix (s.extract i s.size).data.toList [239, 191, 189] = decide (i + 3 ≤ s.size ∧ B s i = 239 ∧ B s (i + 1) = 191 ∧ B s (i + 2) = 189) := by
  have hB : ∀ k, B (s.extract i s.size) k = B s (i + k) := B_extract s i
  have hsz : (s.extract i s.size).data.toList.length = s.size - i := by
    simp
  have hb : ∀ k, ((s.extract i s.size).data.toList[k]?.getD 0).toNat = B s (i + k) := hB
  generalize (s.extract i s.size).data.toList = l at hsz hb
  have h0 := hb 0
  have h1 := hb 1
  have h2 := hb 2
  simp only [Nat.add_zero] at h0
  rw [← h0, ← h1, ← h2]
  have key : ∀ (a : UInt8) (n : Nat), n < 256 → (a.toNat = n ↔ a = UInt8.ofNat n) := by
    intro a n hn
    constructor
    · rintro rfl; simp
    · rintro rfl; simp; omega
  unfold Lib.hasPrefix
  rw [Bool.eq_iff_iff]
  simp only [decide_eq_true_eq]
  match l, hsz with
  | [], hsz => simp at hsz; simp [List.isPrefixOf]
  | [a], hsz => simp at hsz; simp [List.isPrefixOf]
  | [a, b], hsz => simp at hsz; simp [List.isPrefixOf]
  | a :: b :: c :: r, hsz =>
    simp at hsz
    simp [List.isPrefixOf, key]
    constructor
    · rintro ⟨rfl, rfl, rfl⟩; exact ⟨by omega, rfl, rfl, rfl⟩
    · rintro ⟨_, rfl, rfl, rfl⟩; exact ⟨rfl, rfl, rfl⟩
theorem pre_yes (s : ByteArray) (i : Nat) (w : World) (h : Utf8.decode s i = (65533, 3)) :
    Calls Tryz.prog 114 #[.string (s.extract i s.size), .string ⟨#[239, 191, 189]⟩] w fun e w' => e = .returned (.bool true) ∧ w = w' := by
  refine (Tryz.strings_HasPrefix _ _ w).mono ?_
  rintro e w' ⟨rfl, rfl⟩
  refine ⟨?_, rfl⟩
  have := pre_list s i
  rw [decide_eq_true ((decode_fffd s i).1 h)] at this
  rw [← this]
theorem pre_no (s : ByteArray) (i : Nat) (w : World) (h : ¬ Utf8.decode s i = (65533, 3)) :
    Calls Tryz.prog 114 #[.string (s.extract i s.size), .string ⟨#[239, 191, 189]⟩] w fun e w' => e = .returned (.bool false) ∧ w = w' := by
  refine (Tryz.strings_HasPrefix _ _ w).mono ?_
  rintro e w' ⟨rfl, rfl⟩
  refine ⟨?_, rfl⟩
  have := pre_list s i
  rw [decide_eq_false (fun x => h ((decode_fffd s i).2 x))] at this
  rw [← this]
theorem firstAt_yes (s : ByteArray) (i : Nat) (w : World) (hs : s.size ≤ 9223372036854775807) (h : surB s i = true) :
    Calls Tryz.prog 115 #[.string (s.extract i s.size)] w fun e w' => e = .returned (.tuple #[.int .i32 (surV s i), .bool true]) ∧ ∃ n, w' = w.drewN n := by
  have := first_yes (s.extract i s.size) w (by simp; omega) (by rw [sur_at]; exact h)
  rw [surV_at] at this
  exact this
theorem firstAt_no (s : ByteArray) (i : Nat) (w : World) (hs : s.size ≤ 9223372036854775807) (h : surB s i = false) :
    Calls Tryz.prog 115 #[.string (s.extract i s.size)] w fun e w' => e = .returned (.tuple #[.int .i32 0, .bool false]) ∧ w = w' :=
  first_no (s.extract i s.size) w (by simp; omega) (by rw [sur_at]; exact h)
structure Vis (N : Nat) (cap : Array Value) (s : ByteArray) (it : Nat) (Inv : List Nat → World → Prop) : Prop where
  move : ∀ done wr pos pos', wr.heap[it]? = some (.stringIter s pos) → Inv done wr → Inv done (wr.iterAt it s pos')
  enter : ∀ (args : Array Value) (w : World), (callFunc N args).run Tryz.prog w = .ok (.enter N args) w
  draws : ∀ done wr n, Inv done wr → Inv done (wr.drewN n)
  call : ∀ done (p : Nat) wr pos, wr.heap[it]? = some (.stringIter s pos) → Inv done wr → p ≤ 1114111 → done.length < s.size →
    Calls Tryz.prog N (#[.int .i32 p] ++ cap) wr fun e w' => e = .returned (.tuple #[]) ∧ Inv (done ++ [p]) w' ∧ w'.heap[it]? = some (.stringIter s pos)
def Stand (s : ByteArray) (pos j sk : Nat) : Prop := pos ≤ j ∧ ((pos = j ∧ sk ≤ j) ∨ (sk = j ∧ j ≤ s.size ∧ ∀ q, pos ≤ q → q < j → Utf8.decode s q = (65533, 1)))
def PInv (s : ByteArray) (it : Nat) (Inv : List Nat → World → Prop) (sk ah : Value) (wr : World) : Prop :=
  ∃ done f j pos sk' ahb, sk = .int .i64 (sk' : Nat) ∧ ah = .bool ahb ∧ wr.heap[it]? = some (.stringIter s pos) ∧ Inv done wr ∧ Went s done f j ahb ∧ Stand s pos j sk'
set_option maxHeartbeats 400000 in
theorem points_gen (N : Nat) (cap : Array Value) (s : ByteArray) (w : World) (Inv : List Nat → World → Prop) (hs : s.size ≤ 9223372036854775807)
    (V : Vis N cap s w.heap.size Inv) (h0 : Inv [] (w.iter s 0)) :
    Calls Tryz.prog 106 #[.string s, .func (.func N) #[] cap] w fun e w' => e = .returned (.bool (pts s).isSome) ∧ (∀ l, pts s = some l → Inv l w') ∧ ∃ l, Inv l w' := by
  have hcf := V.enter
  go_enter Tryz.func106, Tryz.ntmps106
  go_wp2
  go_loopw [5, 6] (fun sk ah wr => PInv s w.heap.size Inv sk ah wr) (fun _ _ wr => s.size - wr.iterPos w.heap.size)
  case atStart =>
    exact ⟨[], s.size, 0, 0, 0, false, rfl, rfl, World.iter_heap _ _ _, h0, went_start s, Nat.le_refl _, .inl ⟨rfl, Nat.le_refl _⟩⟩
  case round =>
    obtain ⟨done, f, j, pos, sk, ahb, rfl, rfl, hit, hinv, hwent, hst⟩ := hrel
    by_cases hp : pos < s.size
    · have hnx : ∀ ty, (Instr.next (.pointer (some ⟨w.heap.size, 0, none⟩)) true ty).run Tryz.prog wr = _ := fun ty => Lib.run_next_any_at wr w.heap.size s pos ty hit hp
      have hcur := decode_cases s pos hp
      have hjs := hwent.2.1
      have hdl := hwent.2.2.1
      by_cases hj : pos < j
      · obtain ⟨rfl, hq⟩ : sk = j ∧ Utf8.decode s pos = (65533, 1) := by
          rcases hst.2 with ⟨rfl, _⟩ | ⟨h1, _, h⟩
          · omega
          · exact ⟨h1, h pos (Nat.le_refl _) hj⟩
        have hlt : (pos : Int) < sk := by omega
        have hm := V.move done wr pos (pos + 1) hit hinv
        have hh := Lib.iterAt_heap wr w.heap.size s pos (pos + 1) hit
        clear hcur
        go_wp2
        go_roundw
        case rel =>
          refine ⟨done, f, sk, pos + 1, sk, ahb, rfl, rfl, hh, hm, hwent, by omega, ?_⟩
          by_cases e : pos + 1 = sk
          · exact .inl ⟨e, Nat.le_refl _⟩
          · exact .inr ⟨rfl, hjs, fun q h1 h2 => (hst.2.elim (fun x => by omega) (fun x => x.2.2 q (by omega) h2))⟩
        case measure => simp only [World.iterPos, hh, hit]; omega
      · obtain ⟨rfl, hsk⟩ : pos = j ∧ sk ≤ pos := by
          rcases hst.2 with ⟨rfl, h⟩ | ⟨_, _, _⟩
          · exact ⟨rfl, h⟩
          · have := hst.1; omega
        have hlt : ¬ (pos : Int) < sk := by omega
        by_cases hd : Utf8.decode s pos = (65533, 1)
        · have hm := V.move done wr pos (pos + 1) hit hinv
          have hh := Lib.iterAt_heap wr w.heap.size s pos (pos + 1) hit
          by_cases hsur : surB s pos = true
          · have hb3 := (surB_iff hsur).1
            have hbd := surV_bd hsur
            have hpt := pt_sur hsur
            by_cases hpair : ahb = true ∧ isLo (surV s pos) = true
            · obtain ⟨rfl, hlo⟩ := hpair
              have hpts : pts s = none := went_pair hwent hp rfl (by rw [hpt]; exact hlo)
              clear hcur hwent hst
              go_wp2_with (first | (go_at_call 114; refine (pre_no s pos _ (by rw [hd]; simp)).mono ?_; rintro e w' ⟨rfl, rfl⟩) | (go_at_call 115; refine (firstAt_yes s pos _ hs hsur).mono ?_; rintro e w' ⟨rfl, n1, rfl⟩) | (go_at_call 116; refine (isLow_any _ _).mono ?_; rintro e w' ⟨rfl, rfl⟩))
              go_ret
              exact ⟨by rw [hpts]; rfl, (fun l hl => by rw [hpts] at hl; cases hl), done, V.draws _ _ _ hm⟩
            · obtain ⟨g, hw2⟩ := went_step hwent hp (by rw [hpt]; exact Nat.le_add_left 1 2) (by rw [hpt]; exact hb3) (by rw [hpt]; exact hpair)
              rw [hpt] at hw2
              obtain ⟨hd0, hd1, hd2⟩ := decode_sur hsur
              have hst2 : Stand s (pos + 1) (pos + 3) (pos + 3) := ⟨by omega, .inr ⟨rfl, hb3, fun q h1 h2 => by
                obtain rfl | rfl : q = pos + 1 ∨ q = pos + 2 := by omega
                · exact hd1
                · exact hd2⟩⟩
              have hcall := fun n => V.call done (surV s pos) ((wr.iterAt w.heap.size s (pos + 1)).drewN n) (pos + 1) hh (V.draws _ _ n hm) (by omega) (by omega)
              clear hcur hwent hst hd0 hd1 hd2 hpt
              cases ahb with
              | false =>
                go_wp2_with (first | (go_at_call 114; refine (pre_no s pos _ (by rw [hd]; simp)).mono ?_; rintro e w' ⟨rfl, rfl⟩) | (go_at_call 115; refine (firstAt_yes s pos _ hs hsur).mono ?_; rintro e w' ⟨rfl, n1, rfl⟩) | (go_at_call 116; refine (isLow_any _ _).mono ?_; rintro e w' ⟨rfl, rfl⟩) | (go_at_call 117; refine (isHigh_any _ _).mono ?_; rintro e w' ⟨rfl, rfl⟩))
                refine (hcall n1).mono ?_
                rintro e W1 ⟨rfl, hi1, hh1⟩
                go_wp2
                go_roundw
                case rel => exact ⟨_, g, pos + 3, pos + 1, pos + 3, _, by go_num, rfl, hh1, hi1, hw2, hst2⟩
                case measure => simp only [World.iterPos, hh1, hit]; omega
              | true =>
                have hlo : isLo (surV s pos) = false := by simpa using hpair
                clear hpair
                go_wp2_with (first | (go_at_call 114; refine (pre_no s pos _ (by rw [hd]; simp)).mono ?_; rintro e w' ⟨rfl, rfl⟩) | (go_at_call 115; refine (firstAt_yes s pos _ hs hsur).mono ?_; rintro e w' ⟨rfl, n1, rfl⟩) | (go_at_call 116; refine (isLow_any _ _).mono ?_; rintro e w' ⟨rfl, rfl⟩) | (go_at_call 117; refine (isHigh_any _ _).mono ?_; rintro e w' ⟨rfl, rfl⟩))
                refine (hcall n1).mono ?_
                rintro e W1 ⟨rfl, hi1, hh1⟩
                go_wp2
                go_roundw
                case rel => exact ⟨_, g, pos + 3, pos + 1, pos + 3, _, by go_num, rfl, hh1, hi1, hw2, hst2⟩
                case measure => simp only [World.iterPos, hh1, hit]; omega
          · have hno : surB s pos = false := by simpa using hsur
            have hpts : pts s = none := went_none hwent hp (by rw [pt_none hno hd])
            clear hsur hcur hwent
            go_wp2_with (first | (go_at_call 114; refine (pre_no s pos _ (by rw [hd]; simp)).mono ?_; rintro e w' ⟨rfl, rfl⟩) | (go_at_call 115; refine (firstAt_no s pos _ hs hno).mono ?_; rintro e w' ⟨rfl, rfl⟩))
            go_ret
            exact ⟨by rw [hpts]; rfl, (fun l hl => by rw [hpts] at hl; cases hl), done, hm⟩
        · obtain hcur := hcur.resolve_left hd
          have hpt := pt_dec hd
          obtain ⟨r, n, hrn⟩ : ∃ r n, Utf8.decode s pos = (r, n) := ⟨_, _, rfl⟩
          rw [hrn] at hcur hpt hnx
          simp only at hcur
          obtain ⟨hn1, hn2, hn3, hr1, hr2, hr3⟩ := hcur
          have hm := V.move done wr pos (pos + n) hit hinv
          have hh := Lib.iterAt_heap wr w.heap.size s pos (pos + n) hit
          have hlo : isLo r = false := by simp [isLo]; omega
          obtain ⟨g, hw2⟩ := went_step hwent hp (by rw [hpt]; exact hn1) (by rw [hpt]; exact hn2) (by rw [hpt, hlo]; simp)
          rw [hpt] at hw2
          have hst2 : Stand s (pos + n) (pos + n) sk := ⟨by omega, .inl ⟨rfl, by omega⟩⟩
          have hcall := V.call done r (wr.iterAt w.heap.size s (pos + n)) (pos + n) hh hm hr1 (by omega)
          have hsz : (pos : Int) < s.size := by omega
          clear hwent hst hpt hlo hr2 hd
          by_cases hff : r = 65533
          · have hn : n = 3 := hr3 hff
            subst hff hn
            clear hr3
            go_wp2_with (first | (go_at_call 114; refine (pre_yes s pos _ hrn).mono ?_; rintro e w' ⟨rfl, rfl⟩) | (go_at_call 117; refine (isHigh_any _ _).mono ?_; rintro e w' ⟨rfl, rfl⟩))
            refine hcall.mono ?_
            rintro e W1 ⟨rfl, hi1, hh1⟩
            go_wp2
            go_roundw
            case rel => exact ⟨_, g, pos + 3, pos + 3, sk, _, rfl, rfl, hh1, hi1, hw2, hst2⟩
            case measure => simp only [World.iterPos, hh1, hit]; omega
          · have hff2 : ((r : Int) == 65533) = false := by simp; omega
            clear hff hr3 hrn
            go_wp2_with (first | (go_at_call 117; refine (isHigh_any _ _).mono ?_; rintro e w' ⟨rfl, rfl⟩))
            refine hcall.mono ?_
            rintro e W1 ⟨rfl, hi1, hh1⟩
            go_wp2
            go_roundw
            case rel => exact ⟨_, g, pos + n, pos + n, sk, _, rfl, rfl, hh1, hi1, hw2, hst2⟩
            case measure => simp only [World.iterPos, hh1, hit]; omega
    · have hnx : ∀ ty, (Instr.next (.pointer (some ⟨w.heap.size, 0, none⟩)) true ty).run Tryz.prog wr = _ := fun ty => Lib.run_next_end_at wr w.heap.size s pos ty hit hp
      have hpts : pts s = some done := by
        refine went_end hwent ?_
        rcases hst.2 with ⟨rfl, _⟩ | ⟨_, _, h⟩
        · exact hp
        · have := hwent.2.1; have := hst.1; omega
      go_wp2
      go_ret
      exact ⟨by rw [hpts]; rfl, (fun l hl => by rw [hpts] at hl; cases hl; exact hinv), done, hinv⟩
end Go.Proofs.YtinoaajohkafmaaGreat.Uni

/-
  units.Of, units.Right and units.Len, by their visitors.
-/
namespace Go.Proofs.YtinoaajohkafmaaGreat.Uni
open Go.RowKit
set_option linter.unusedVariables false
theorem right1_any (p : Nat) (w : World) : Calls Tryz.prog 107 #[.int .i32 p] w fun e w' => e = .returned (.tuple #[]) ∧ w = w' := by
  go_enter Tryz.func107, Tryz.ntmps107
  go_wp2
  go_end0
  exact ⟨rfl, rfl⟩
theorem vis22 (s : ByteArray) (w : World) : Vis 107 #[] s w.heap.size (fun _ wr => Below w.heap.size w wr) where
  move := fun _ wr pos pos' _ h => Lib.below_iterAt h (Nat.le_refl _) s pos'
  enter := fun _ _ => by kernel_rfl
  draws := fun _ wr n h => below_drewN h n
  call := fun _ p wr pos hit h _ _ => (right1_any p wr).mono (by rintro e w' ⟨rfl, rfl⟩; exact ⟨rfl, h, hit⟩)
theorem iter_below {B : Nat} {w : World} (h : B ≤ w.heap.size) (s : ByteArray) : Below B w (w.iter s 0) := (Below.refl _ w).alloc h _
theorem right_any (s : ByteArray) (w : World) (hs : s.size ≤ 9223372036854775807) :
    Calls Tryz.prog 88 #[.string s] w fun e w' => e = .returned (.bool (pts s).isSome) ∧ Below w.heap.size w w' := by
  go_enter Tryz.func88, Tryz.ntmps88
  go_wp2_with (fail)
  refine (points_gen 107 #[] s w _ hs (vis22 s w) (iter_below (Nat.le_refl _) s)).mono ?_
  rintro e w' ⟨rfl, _, l, hl⟩
  go_wp2
  go_ret
  exact ⟨rfl, hl⟩
end Go.Proofs.YtinoaajohkafmaaGreat.Uni

/-
  understudyref1.point: what it gives.
-/
namespace Go.Proofs.YtinoaajohkafmaaGreat.Uni
open Go.RowKit
set_option linter.unusedVariables false
def PtPost (s : ByteArray) (i : Nat) (w : World) (e : Ending) (w' : World) : Prop :=
  e = .returned (.tuple #[.int .i64 ((pt s i).1 : Nat), .int .i64 ((pt s i).2 : Nat)]) ∧ w = w'
theorem point_1 (s : ByteArray) (i : Nat) (w : World) (_hs : s.size ≤ 100000000) (hi : i < s.size) (h1 : B s i < 128) :
    Calls Tryz.prog 54 #[.string s, .int .i64 i] w (PtPost s i w) := by
  have hpt := pt_ascii h1
  have HP := Lib.hid hpt
  have hb := gB s
  have c1 : ((B s i : Nat) : Int) < 128 := by omega
  have hi0 : (i : Int) < s.size := by omega
  clear hpt
  go_enter Tryz.func54, Tryz.ntmps54
  go_wp2
  go_ret2
  exact ⟨by rw [HP.out]; rfl, rfl⟩
end Go.Proofs.YtinoaajohkafmaaGreat.Uni
