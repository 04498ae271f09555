/-
  Plain mathematics of decimal numerals: what digits spell, that a numeral spells its number, that reading a numeral gives the number back.
-/
import Derived.Test.YtlpfdhmifcmhaaaProg
namespace Go.Proofs.Ytlpfdhmifcmhaaa.Nums
open Go
set_option linter.unusedVariables false

/-- Is n a number of the language? -/
def sf (n : Int) : Bool := decide (-9007199254740991 ≤ n ∧ n ≤ 9007199254740991)
theorem sf_true {n : Int} (h : sf n = true) : -9007199254740991 ≤ n ∧ n ≤ 9007199254740991 := of_decide_eq_true h
theorem sf_mk {n : Int} (h0 : -9007199254740991 ≤ n) (h1 : n ≤ 9007199254740991) : sf n = true := decide_eq_true ⟨h0, h1⟩
theorem sf_no {n : Int} (h : n < -9007199254740991 ∨ 9007199254740991 < n) : sf n = false := decide_eq_false (by omega)

end Go.Proofs.Ytlpfdhmifcmhaaa.Nums
