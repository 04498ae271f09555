/-
  Plain mathematics of a string between quotes.
-/
import Derived.Test.YtlboaldikgonoaaDoorVaEsc
import Derived.Test.YtlboaldikgonoaaDoorUnPairs
import Derived.Lib.Small
namespace Go.Proofs.YtlboaldikgonoaaDoor.Vals
open Go.RowKit Go.Proofs.YtlboaldikgonoaaDoor.Uni
set_option linter.unusedVariables false

/-- A unit that stands for itself between quotes. -/
def plainB (u : Nat) : Bool := decide (32 ≤ u ∧ u ≤ 126 ∧ u ≠ 34 ∧ u ≠ 92)
theorem plain_iff {u : Nat} : plainB u = true ↔ 32 ≤ u ∧ u ≤ 126 ∧ u ≠ 34 ∧ u ≠ 92 := by simp [plainB]
theorem plain_big {u : Nat} (h : 126 < u) : plainB u = false := by
  cases e : plainB u with
  | false => rfl
  | true => have := plain_iff.1 e; omega
/-- What a unit becomes between quotes; a list of them; a text. -/
def qU (u : Nat) : List UInt8 := if plainB u then [Nat.toUInt8 u] else escL u
def qUs (l : List Nat) : List UInt8 := l.flatMap qU
def quoteL (s : ByteArray) : List UInt8 := [34] ++ qUs (units s) ++ [34]
theorem qUs_append (a b : List Nat) : qUs (a ++ b) = qUs a ++ qUs b := by simp [qUs]
theorem qUs_one (u : Nat) : qUs [u] = qU u := by simp [qUs]
theorem qUs_nil : qUs [] = [] := rfl
theorem qU_plain {u : Nat} (h : plainB u = true) : qU u = [Nat.toUInt8 u] := if_pos h
theorem qU_esc {u : Nat} (h : plainB u = false) : qU u = escL u := by unfold qU; rw [h]; rfl
theorem escL_len (u : Nat) : (escL u).length = 6 := by simp [escL, dsOf_len]
theorem qU_len (u : Nat) : (qU u).length ≤ 6 := by
  unfold qU
  split
  · simp
  · rw [escL_len]; exact Nat.le_refl _
theorem qUs_len (l : List Nat) : (qUs l).length ≤ 6 * l.length := by
  induction l with
  | nil => simp [qUs]
  | cons a r ih =>
    have : qUs (a :: r) = qU a ++ qUs r := by simp [qUs]
    have h := qU_len a
    rw [this, List.length_append, List.length_cons]
    omega
/-- No unit of a code point that isn't plain is plain. -/
theorem un_esc {c : Nat} (h : plainB c = false) : ∀ u ∈ un c, plainB u = false := by
  intro u hu
  by_cases hc : c < 65536
  · rw [un_small hc] at hu
    simp at hu
    subst hu
    exact h
  · rw [un_great hc] at hu
    simp at hu
    rcases hu with e | e
    · exact plain_big (by rw [e]; exact Nat.lt_of_lt_of_le (by decide : 126 < 55296) (Nat.le_add_right _ _))
    · exact plain_big (by rw [e]; exact Nat.lt_of_lt_of_le (by decide : 126 < 56320) (Nat.le_add_right _ _))
theorem un_plain {c : Nat} (h : plainB c = true) : qUs (un c) = [Nat.toUInt8 c] := by
  have := plain_iff.1 h
  rw [un_small (by omega), qUs_one, qU_plain h]
theorem un_lt {c : Nat} (hc : c ≤ 1114111) : ∀ u ∈ un c, u < 65536 := by
  intro u hu
  by_cases h : c < 65536
  · rw [un_small h] at hu; simp at hu; omega
  · rw [un_great h] at hu; simp at hu; omega

theorem enc_cells {c : Nat} (hc : c ≤ 1114111) : Lib.byteCells (enc c) = (encN c).map fun n : Nat => Value.int .u8 (n : Int) := by
  unfold enc Lib.byteCells
  rw [List.map_map]
  apply List.map_congr_left
  intro x hx
  have := encN_byte hc x hx
  simp
  omega
theorem plain_rune {c : Nat} (h : plainB c = true) : Lib.runeCells (c : Int) = Lib.byteCells [Nat.toUInt8 c] := by
  have hp := plain_iff.1 h
  unfold Lib.runeCells Lib.byteCells
  rw [Lib.encodeRuneZ_one (by omega) (by omega)]
  simp
  omega
/-- The library's length of a code point's encoding. -/
theorem rlen {c : Nat} (hc : c ≤ 1114111) (hs : c < 55296 ∨ 57344 ≤ c) : Lib.runeLen (c : Int) = ((encN c).length : Nat) := by
  unfold Lib.runeLen
  rw [if_neg (by omega)]
  by_cases h1 : c < 128
  · rw [if_pos (by omega), encN_1 h1]; rfl
  · rw [if_neg (by omega)]
    by_cases h2 : c < 2048
    · rw [if_pos (by omega), encN_2 (by omega) h2]; rfl
    · rw [if_neg (by omega), if_neg (by omega)]
      by_cases h3 : c < 65536
      · rw [if_pos (by omega), encN_3 (by omega) h3]; rfl
      · rw [if_neg (by omega), if_pos (by omega), encN_4 (by omega)]; rfl

/-- The units of one code point's bytes. -/
theorem units_cut {s : ByteArray} {i c n : Nat} (hi : i < s.size) (h : pt s i = (c, n)) (hn : n ≠ 0) (hc : c ≤ 1114111) : units (s.extract i (i + n)) = un c := by
  have hle := pt_le s i hi
  have he := pt_enc hi (by rw [h]; exact hn)
  rw [h] at he hle
  simp only at he hle
  have hl : (s.extract i (i + n)).data.toList = encs [c] := by
    have e1 : encs [c] = enc c := by simp [encs]
    rw [e1]
    apply List.ext_getElem
    · rw [enc_len, he.1]
      simp
      omega
    · intro q h1 h2
      have hq : q < n := by rw [enc_len, he.1] at h2; exact h2
      have hb := he.2 q hq
      have hlt : q < (encN c).length := by rw [he.1]; exact hq
      have e2 : (enc c)[q] = Nat.toUInt8 ((encN c)[q]) := by simp [enc]
      rw [e2]
      have e3 : (s.extract i (i + n)).data.toList[q] = s[i + q]'(by omega) := by
        simp
        rfl
      rw [e3]
      have e4 := B_get s (i + q) (by omega)
      rw [hb, List.getD_eq_getElem?_getD, List.getElem?_eq_getElem hlt] at e4
      simp at e4
      have := encN_byte hc _ (List.getElem_mem hlt)
      apply UInt8.toNat_inj.1
      rw [e4]
      simp
      omega
  have hs : s.extract i (i + n) = ⟨(encs [c]).toArray⟩ := by
    apply ByteArray.ext
    apply Array.toList_inj.1
    rw [hl]
  have hp : pts (s.extract i (i + n)) = some [c] := by
    rw [hs]
    exact pts_encs (by intro x hx; simp at hx; omega) (by simp [np])
  unfold units
  rw [hp]
  simp [uns]
end Go.Proofs.YtlboaldikgonoaaDoor.Vals
