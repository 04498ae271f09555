/-
  Plain mathematics of array indexes: which texts are indexes.
-/
import Derived.Test.YtlhgiihooalanaaDoorNmRnum
namespace Go.Proofs.YtlhgiihooalanaaDoor.Keys
open Go Go.Proofs.YtlhgiihooalanaaDoor.Nums
set_option linter.unusedVariables false

/-- The array index that a text is, if it is one. -/
def idxF (l : List UInt8) : Option Int :=
  match readF l with
  | some n => if 0 ≤ n ∧ n ≤ 4294967294 then some n else none
  | none => none
theorem idxF_none {l : List UInt8} (h : readF l = none) : idxF l = none := by simp [idxF, h]
theorem idxF_in {l : List UInt8} {n : Int} (h : readF l = some n) (h0 : 0 ≤ n) (h1 : n ≤ 4294967294) : idxF l = some n := by simp [idxF, h, h0, h1]
theorem idxF_out {l : List UInt8} {n : Int} (h : readF l = some n) (h0 : n < 0 ∨ 4294967294 < n) : idxF l = none := by
  simp only [idxF, h]
  exact if_neg (by omega)
theorem idxF_some {l : List UInt8} {n : Int} (h : idxF l = some n) : 0 ≤ n ∧ n ≤ 4294967294 ∧ Lib.itoa n = l := by
  unfold idxF at h
  split at h
  · split at h
    · have := Option.some.inj h
      subst this
      rename_i hr hb
      exact ⟨hb.1, hb.2, (readF_some hr).2⟩
    · cases h
  · cases h
theorem idxF_itoa {n : Int} (h0 : 0 ≤ n) (h1 : n ≤ 4294967294) : idxF (Lib.itoa n) = some n := idxF_in (readF_mk (sf_mk (by omega) (by omega)) rfl) h0 h1
theorem idxF_itoa_big {n : Int} (h0 : 4294967294 < n) : idxF (Lib.itoa n) = none := by
  by_cases h : sf n = true
  · exact idxF_out (readF_mk h rfl) (.inr h0)
  · exact idxF_none (by rw [readF_itoa, if_neg h])
/-- A text longer than ten bytes is no index. -/
theorem idxF_long {s : ByteArray} (h : 10 < s.size) : idxF s.data.toList = none := by
  cases hi : idxF s.data.toList with
  | none => rfl
  | some n =>
    obtain ⟨h0, h1, hl⟩ := idxF_some hi
    obtain ⟨u, rfl⟩ : ∃ u : Nat, n = u := ⟨n.toNat, by omega⟩
    have e : Lib.itoa (u : Int) = Lib.decDigits u := if_neg (by omega)
    have hd := dec_len 9 u (by omega)
    have := size_eq s
    rw [← hl, e] at this
    omega
/-- A text with a sign is no index. -/
theorem idxF_sign {s : ByteArray} (h0 : 0 < s.size) (h : B s 0 = 45) : idxF s.data.toList = none := by
  cases hi : idxF s.data.toList with
  | none => rfl
  | some n =>
    obtain ⟨h0, h1, hl⟩ := idxF_some hi
    rcases itoa_shape hl with ⟨hn, _⟩ | ⟨_, hd⟩
    · omega
    · cases hx : Lib.decDigits n.natAbs with
      | nil => exact absurd hx (dec_ne _)
      | cons c r =>
        have hc := dec_digits n.natAbs c (by rw [hx]; simp)
        rw [hx] at hd
        have := (head_B hd).1
        omega
end Go.Proofs.YtlhgiihooalanaaDoor.Keys
