/-
  values.Truth and Type, and the reference's: what they give, kind by kind.
-/
import Derived.Test.YthfgicdpbbpnjaaGreatNmSmall
import Derived.Below
namespace Go.Proofs.YthfgicdpbbpnjaaGreat.Vals
open Go.RowKit Go.Proofs.YthfgicdpbbpnjaaGreat.Nums
set_option linter.unusedVariables false

/-- None of the seven kinds. -/
structure NoKind (k : Int) : Prop where
  e0 : (k == 0) = false
  e1 : (k == 1) = false
  e2 : (k == 2) = false
  e3 : (k == 3) = false
  e4 : (k == 4) = false
  e5 : (k == 5) = false
  e6 : (k == 6) = false
theorem kind_cases (k : Int) : k = 0 ∨ k = 1 ∨ k = 2 ∨ k = 3 ∨ k = 4 ∨ k = 5 ∨ k = 6 ∨ NoKind k := by
  by_cases h0 : k = 0
  · exact .inl h0
  by_cases h1 : k = 1
  · exact .inr (.inl h1)
  by_cases h2 : k = 2
  · exact .inr (.inr (.inl h2))
  by_cases h3 : k = 3
  · exact .inr (.inr (.inr (.inl h3)))
  by_cases h4 : k = 4
  · exact .inr (.inr (.inr (.inr (.inl h4))))
  by_cases h5 : k = 5
  · exact .inr (.inr (.inr (.inr (.inr (.inl h5)))))
  by_cases h6 : k = 6
  · exact .inr (.inr (.inr (.inr (.inr (.inr (.inl h6))))))
  · exact .inr (.inr (.inr (.inr (.inr (.inr (.inr ⟨by simpa using h0, by simpa using h1, by simpa using h2, by simpa using h3, by simpa using h4, by simpa using h5, by simpa using h6⟩))))))
theorem NoKind.ne {k : Int} (h : NoKind k) : k ≠ 0 ∧ k ≠ 1 ∧ k ≠ 2 ∧ k ≠ 3 ∧ k ≠ 4 ∧ k ≠ 5 ∧ k ≠ 6 :=
  ⟨by simpa using h.e0, by simpa using h.e1, by simpa using h.e2, by simpa using h.e3, by simpa using h.e4, by simpa using h.e5, by simpa using h.e6⟩

/-- A value of the language. -/
abbrev V (k n : Int) (s : ByteArray) : Value := .agg #[.int .i64 k, .int .i64 n, .string s]
theorem ball (w : World) (o : Obj) : Below w.heap.size w (w.alloc o) := (Below.refl _ _).alloc (Nat.le_refl _) _
theorem bnext {w w1 w2 : World} (h1 : Below w.heap.size w w1) (h2 : Below w1.heap.size w1 w2) : Below w.heap.size w w2 := h1.trans (h2.mono h1.size)

/-- Truth, in the document's words. -/
def truthF (k n : Int) (s : ByteArray) : Bool := if k = 0 ∨ k = 1 then false else if k = 2 ∨ k = 3 then (n != 0) else if k = 4 then !s.toList.isEmpty else true
/-- Type, in the document's words. -/
def typeF (k : Int) (c : Bool) : ByteArray :=
  if k = 0 then ⟨#[117, 110, 100, 101, 102, 105, 110, 101, 100]⟩ else if k = 1 then ⟨#[111, 98, 106, 101, 99, 116]⟩ else if k = 2 then ⟨#[98, 111, 111, 108, 101, 97, 110]⟩ else if k = 3 then ⟨#[110, 117, 109, 98, 101, 114]⟩
  else if k = 4 then ⟨#[115, 116, 114, 105, 110, 103]⟩ else if k = 5 then ⟨#[115, 121, 109, 98, 111, 108]⟩ else if k = 6 then (if c then ⟨#[102, 117, 110, 99, 116, 105, 111, 110]⟩ else ⟨#[111, 98, 106, 101, 99, 116]⟩) else ⟨#[]⟩
end Go.Proofs.YthfgicdpbbpnjaaGreat.Vals
