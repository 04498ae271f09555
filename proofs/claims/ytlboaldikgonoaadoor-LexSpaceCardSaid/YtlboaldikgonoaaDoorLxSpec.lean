/-
  Plain mathematics of the lexer: what it gives for a list of bytes; nothing here speaks of the program.
-/
import Derived.Test.YtlboaldikgonoaaDoorNmNum
import Derived.Test.YtlboaldikgonoaaDoorUnPairs
import Derived.Lib.IndexMore
import Derived.Lib.Strings
namespace Go.Proofs.YtlboaldikgonoaaDoor.Lx
open Go.Proofs.YtlboaldikgonoaaDoor.Uni Go.Proofs.YtlboaldikgonoaaDoor.Nums
set_option linter.unusedVariables false

abbrev By := List UInt8

/-- Classes of code points. -/
def endN (p : Nat) : Bool := decide (p = 10) || decide (p = 13)
def whiteN (p : Nat) : Bool := decide (p = 32) || (decide (p = 9) || endN p)
def digitN (p : Nat) : Bool := decide (48 ≤ p) && decide (p ≤ 57)
def leadN (p : Nat) : Bool := decide (97 ≤ p) && decide (p ≤ 122) || (decide (65 ≤ p) && decide (p ≤ 90) || (decide (p = 95) || decide (p = 36)))
def contN (p : Nat) : Bool := leadN p || digitN p
def lineN (p : Nat) : Bool := decide (p ≠ 10)
def runN (q p : Nat) : Bool := decide (p ≠ q) && (decide (p ≠ 92) && !endN p)

/-- What a text begins with of a class. -/
def lead (f : Nat → Bool) (l : By) : By := l.takeWhile fun c => f c.toNat
theorem lead_nil (f : Nat → Bool) : lead f [] = [] := rfl
theorem lead_cons (f : Nat → Bool) (c : UInt8) (l : By) : lead f (c :: l) = if f c.toNat then c :: lead f l else [] := by
  unfold lead
  rw [List.takeWhile_cons]
theorem lead_len (f : Nat → Bool) (l : By) : (lead f l).length ≤ l.length := by
  unfold lead
  exact (List.takeWhile_sublist _).length_le
theorem lead_take (f : Nat → Bool) (l : By) : lead f l = l.take (lead f l).length := by
  induction l with
  | nil => rfl
  | cons c l ih =>
    rw [lead_cons]
    split
    · simp only [List.length_cons, List.take_succ_cons]
      rw [← ih]
    · rfl

/-- How long the white space or the comment is that a text begins with; 'none': the comment has no end. -/
def gapN (l : By) : Option Nat :=
  if Lib.hasPrefix l [47, 47] then some (lead lineN l).length
  else if Lib.hasPrefix l [47, 42] then (if 0 ≤ Lib.index (l.drop 2) [42, 47] then some (2 + (Lib.index (l.drop 2) [42, 47]).toNat + 2) else none)
  else some (lead whiteN l).length

/-- What is left behind white space and comments; false: a comment has no end. -/
def skipF : Nat → By → Bool × By
  | 0, l => (true, l)
  | f + 1, l => match gapN l with
    | none => (false, l)
    | some 0 => (true, l)
    | some (n + 1) => skipF f (l.drop (n + 1))
def skipL (l : By) : Bool × By := skipF l.length l

/-- A token without its place. -/
structure Tk where
  kind : Nat
  num : Int
  text : ByteArray

def used : List By := [[98, 114, 101, 97, 107], [99, 97, 116, 99, 104], [99, 111, 110, 115, 116], [99, 111, 110, 116, 105, 110, 117, 101], [100, 101, 108, 101, 116, 101], [101, 108, 115, 101], [102, 97, 108, 115, 101], [102, 105, 110, 97, 108, 108, 121], [102, 117, 110, 99, 116, 105, 111, 110], [105, 102], [105, 110], [108, 101, 116], [110, 101, 119], [110, 117, 108, 108], [114, 101, 116, 117, 114, 110], [116, 104, 105, 115], [116, 104, 114, 111, 119], [116, 114, 117, 101], [116, 114, 121], [116, 121, 112, 101, 111, 102], [117, 110, 100, 101, 102, 105, 110, 101, 100], [119, 104, 105, 108, 101]]
def unused : List By := [[97, 119, 97, 105, 116], [99, 97, 115, 101], [99, 108, 97, 115, 115], [100, 101, 98, 117, 103, 103, 101, 114], [100, 101, 102, 97, 117, 108, 116], [100, 111], [101, 110, 117, 109], [101, 120, 112, 111, 114, 116], [101, 120, 116, 101, 110, 100, 115], [102, 111, 114], [105, 109, 112, 108, 101, 109, 101, 110, 116, 115], [105, 109, 112, 111, 114, 116], [105, 110, 115, 116, 97, 110, 99, 101, 111, 102], [105, 110, 116, 101, 114, 102, 97, 99, 101], [112, 97, 99, 107, 97, 103, 101], [112, 114, 105, 118, 97, 116, 101], [112, 114, 111, 116, 101, 99, 116, 101, 100], [112, 117, 98, 108, 105, 99], [115, 116, 97, 116, 105, 99], [115, 117, 112, 101, 114], [115, 119, 105, 116, 99, 104], [118, 97, 114], [118, 111, 105, 100], [119, 105, 116, 104], [121, 105, 101, 108, 100]]
def wordF (l : By) : Nat := if l ∈ used then 1 else if l ∈ unused then 2 else 0

def signs : List By := [[61, 61, 61], [33, 61, 61], [38, 38], [124, 124], [60, 61], [62, 61], [123], [125], [40], [41], [91], [93], [59], [44], [46], [63], [58], [61], [60], [62], [43], [45], [42], [47], [37], [33]]
def signF (l : By) : Option By := signs.find? fun t => Lib.hasPrefix l t

def hexN (p : Nat) : Option Nat := if 48 ≤ p ∧ p ≤ 57 then some (p - 48) else if 97 ≤ p ∧ p ≤ 102 then some (p - 87) else if 65 ≤ p ∧ p ≤ 70 then some (p - 55) else none
def hexF : Nat → By → Option Nat
  | u, [] => some u
  | u, c :: r => match hexN c.toNat with
    | none => none
    | some d => hexF (u * 16 + d) r

/-- The unit of the escape sequence at the beginning, and its length: 0 if it isn't one. -/
def escF : By → Nat × Nat
  | _ :: c :: r =>
    if c = 110 then (10, 2) else if c = 116 then (9, 2) else if c = 92 ∨ c = 34 ∨ c = 39 then (c.toNat, 2)
    else if c = 117 then (if r.length < 4 then (0, 0) else match hexF 0 (r.take 4) with | none => (0, 0) | some u => (u, 6))
    else (0, 0)
  | _ => (0, 0)

inductive Got where
  | ok (t : Tk) (r : By)
  | bad (r : By)

/-- A string from behind its quote on; l0: from its quote on. -/
def quotF (q : Nat) (l0 : By) : Nat → List Nat → By → Got
  | 0, _, _ => .bad l0
  | f + 1, v, l => match l.drop (lead (runN q) l).length with
    | [] => .bad l0
    | c :: r => if endN c.toNat then .bad l0
      else if c = 92 then (if (escF (c :: r)).2 = 0 then .bad (c :: r) else quotF q l0 f (v ++ units ⟨(lead (runN q) l).toArray⟩ ++ [(escF (c :: r)).1]) ((c :: r).drop (escF (c :: r)).2))
      else if 10000 < (v ++ units ⟨(lead (runN q) l).toArray⟩).length then .bad l0
      else .ok ⟨4, 0, ⟨(text (v ++ units ⟨(lead (runN q) l).toArray⟩)).toArray⟩⟩ r

def nameF (l : By) : Got :=
  if wordF (lead contN l) = 2 then .bad l else .ok ⟨if wordF (lead contN l) = 1 then 2 else 1, 0, ⟨(lead contN l).toArray⟩⟩ (l.drop (lead contN l).length)
def numbF (l : By) : Got :=
  match readF (lead digitN l) with
  | none => .bad l
  | some n => if lead leadN (l.drop (lead digitN l).length) = [] then .ok ⟨3, n, ⟨#[]⟩⟩ (l.drop (lead digitN l).length) else .bad l
def signT (l : By) : Got := match signF l with
  | none => .bad l
  | some t => .ok ⟨5, 0, ⟨t.toArray⟩⟩ (l.drop t.length)
/-- One token at a place that is no white space. -/
def oneF (l : By) : Got := match l with
  | [] => .ok ⟨0, 0, ⟨#[]⟩⟩ []
  | c :: r => if leadN c.toNat then nameF l else if digitN c.toNat then numbF l else if c = 34 ∨ c = 39 then quotF c.toNat l (r.length + 1) [] r else signT l
/-- One token and what stands before it; the place is told by what is left. -/
def nextF (l : By) : Got := match skipL l with
  | (false, r) => .bad r
  | (true, r) => oneF r

/-- All tokens, each with how many bytes are left from it on; or how many are left where the error is. -/
def lexF : Nat → By → Except Nat (List (Tk × Nat))
  | 0, l => .error l.length
  | f + 1, l => match nextF l with
    | .bad r => .error r.length
    | .ok t r => if t.kind = 0 then .ok [(t, (skipL l).2.length)] else match lexF f r with
      | .error n => .error n
      | .ok ts => .ok ((t, (skipL l).2.length) :: ts)
end Go.Proofs.YtlboaldikgonoaaDoor.Lx
