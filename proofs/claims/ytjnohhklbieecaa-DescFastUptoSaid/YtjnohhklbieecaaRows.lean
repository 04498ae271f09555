/-
  No cell of these rows narrows 'for every input' (looked for: loops, veiled, ifaces, maps, wideKeys, modest, calm, conditions, laid).
  DERIVED. THE GIVEN ROWS OF THIS SEAT. 6 by the template 'for every input the law returns true; each argument reads behind the call as it read before'; 0 by the template 'total and deterministic' (their statements: YtjnohhklbieecaaTotals.lean).
  GIVEN WITH THE SEED: the statements are not yours to turn. If you find one false, say at which input.
  Laid BY PROGRAM, IN A SANDBOX (cutbox-rows.mjs): the forced cells as the released guide's own fill.sh prints them over the translation fbf53e37475779ec… (all of the seat's roots in one cut). By AI agents, Wed Nov 11 2026. No macro, syntax, notation, axiom, sorry.
-/
import Derived.Test.YtjnohhklbieecaaChecked
import GoSem.Claim
import GoSem.ClaimJoined
import GoSem.ClaimMapViews
import Derived.JoinedTies
import Derived.KernelRfl
namespace Go.Proofs.Ytjnohhklbieecaa
/- THE CELL 'sum', in the pinned program and in every row, IS THE sha256 OF THE DUMP (.gsa) THAT YtjnohhklbieecaaProg.lean LOADS. Nothing in Lean hashes anything: it is a label: what it is worth is what the hold of that sum in a sandbox is worth. -/
noncomputable def Try.pinned : Pinned := { name := "ytjnohhklbieecaa", sum := "fbf53e37475779ece08219a287a34e6288bfc22e33aa9e059935b442f0bea4ac", checked := Try.checked }
namespace Rows
def none {H : Type} : Left H := { results := [], args := [] }

/-- 'understudylaw5.DescTell': WHATEVER THE INPUT: true; the input reads as it did. -/
def descTellSpec : ChangeSpec := { name := "descTell", fn := fun _ => fun
  | [d] => { results := [.lit (.bool true)], args := [d] }
  | _ => none }
def descTellRow : OpenClaim := { program := "ytjnohhklbieecaa", sum := "fbf53e37475779ece08219a287a34e6288bfc22e33aa9e059935b442f0bea4ac", func := "understudy/understudylaw5.DescTell", spec := "descTell", apart := false }
def DescTellSaid : Prop := descTellRow.holds Try.pinned (OpenSpec.ofChange descTellSpec)

/-- ITS FALSE NEIGHBOUR: 'it returns false'. Refute it at one input. -/
def descTellWrong : ChangeSpec := { name := "descTell", fn := fun _ => fun
  | [d] => { results := [.lit (.bool false)], args := [d] }
  | _ => none }
def DescTellWrongFalsely : Prop := descTellRow.holds Try.pinned (OpenSpec.ofChange descTellWrong)

/-- 'understudylaw5.DescApplies': WHATEVER THE INPUT: true; the input reads as it did. -/
def descAppliesSpec : ChangeSpec := { name := "descApplies", fn := fun _ => fun
  | [d1, d2, d3, d4] => { results := [.lit (.bool true)], args := [d1, d2, d3, d4] }
  | _ => none }
def descAppliesRow : OpenClaim := { program := "ytjnohhklbieecaa", sum := "fbf53e37475779ece08219a287a34e6288bfc22e33aa9e059935b442f0bea4ac", func := "understudy/understudylaw5.DescApplies", spec := "descApplies", apart := false }
def DescAppliesSaid : Prop := descAppliesRow.holds Try.pinned (OpenSpec.ofChange descAppliesSpec)

/-- ITS FALSE NEIGHBOUR: 'it returns false'. Refute it at one input. -/
def descAppliesWrong : ChangeSpec := { name := "descApplies", fn := fun _ => fun
  | [d1, d2, d3, d4] => { results := [.lit (.bool false)], args := [d1, d2, d3, d4] }
  | _ => none }
def DescAppliesWrongFalsely : Prop := descAppliesRow.holds Try.pinned (OpenSpec.ofChange descAppliesWrong)

/-- 'understudylaw5.DescFast': WHATEVER THE INPUT: true; the input reads as it did. -/
def descFastSpec : ChangeSpec := { name := "descFast", fn := fun _ => fun
  | [d1, d2, d3] => { results := [.lit (.bool true)], args := [d1, d2, d3] }
  | _ => none }
def descFastRow : OpenClaim := { program := "ytjnohhklbieecaa", sum := "fbf53e37475779ece08219a287a34e6288bfc22e33aa9e059935b442f0bea4ac", func := "understudy/understudylaw5.DescFast", spec := "descFast", apart := false }
def DescFastSaid : Prop := descFastRow.holds Try.pinned (OpenSpec.ofChange descFastSpec)

/-- ITS FALSE NEIGHBOUR: 'it returns false'. Refute it at one input. -/
def descFastWrong : ChangeSpec := { name := "descFast", fn := fun _ => fun
  | [d1, d2, d3] => { results := [.lit (.bool false)], args := [d1, d2, d3] }
  | _ => none }
def DescFastWrongFalsely : Prop := descFastRow.holds Try.pinned (OpenSpec.ofChange descFastWrong)

/-- 'understudylaw5.DescAgain': WHATEVER THE INPUT: true; the input reads as it did. -/
def descAgainSpec : ChangeSpec := { name := "descAgain", fn := fun _ => fun
  | [d1, d2, d3, d4] => { results := [.lit (.bool true)], args := [d1, d2, d3, d4] }
  | _ => none }
def descAgainRow : OpenClaim := { program := "ytjnohhklbieecaa", sum := "fbf53e37475779ece08219a287a34e6288bfc22e33aa9e059935b442f0bea4ac", func := "understudy/understudylaw5.DescAgain", spec := "descAgain", apart := false }
def DescAgainSaid : Prop := descAgainRow.holds Try.pinned (OpenSpec.ofChange descAgainSpec)

/-- ITS FALSE NEIGHBOUR: 'it returns false'. Refute it at one input. -/
def descAgainWrong : ChangeSpec := { name := "descAgain", fn := fun _ => fun
  | [d1, d2, d3, d4] => { results := [.lit (.bool false)], args := [d1, d2, d3, d4] }
  | _ => none }
def DescAgainWrongFalsely : Prop := descAgainRow.holds Try.pinned (OpenSpec.ofChange descAgainWrong)

/-- 'understudylaw5.DescTurns': WHATEVER THE INPUT: true; the input reads as it did. -/
def descTurnsSpec : ChangeSpec := { name := "descTurns", fn := fun _ => fun
  | [d1, d2, d3] => { results := [.lit (.bool true)], args := [d1, d2, d3] }
  | _ => none }
def descTurnsRow : OpenClaim := { program := "ytjnohhklbieecaa", sum := "fbf53e37475779ece08219a287a34e6288bfc22e33aa9e059935b442f0bea4ac", func := "understudy/understudylaw5.DescTurns", spec := "descTurns", apart := false }
def DescTurnsSaid : Prop := descTurnsRow.holds Try.pinned (OpenSpec.ofChange descTurnsSpec)

/-- ITS FALSE NEIGHBOUR: 'it returns false'. Refute it at one input. -/
def descTurnsWrong : ChangeSpec := { name := "descTurns", fn := fun _ => fun
  | [d1, d2, d3] => { results := [.lit (.bool false)], args := [d1, d2, d3] }
  | _ => none }
def DescTurnsWrongFalsely : Prop := descTurnsRow.holds Try.pinned (OpenSpec.ofChange descTurnsWrong)

/-- 'understudylaw5.DescNew': WHATEVER THE INPUT: true; the input reads as it did. -/
def descNewSpec : ChangeSpec := { name := "descNew", fn := fun _ => fun
  | [d1, d2] => { results := [.lit (.bool true)], args := [d1, d2] }
  | _ => none }
def descNewRow : OpenClaim := { program := "ytjnohhklbieecaa", sum := "fbf53e37475779ece08219a287a34e6288bfc22e33aa9e059935b442f0bea4ac", func := "understudy/understudylaw5.DescNew", spec := "descNew", apart := false }
def DescNewSaid : Prop := descNewRow.holds Try.pinned (OpenSpec.ofChange descNewSpec)

/-- ITS FALSE NEIGHBOUR: 'it returns false'. Refute it at one input. -/
def descNewWrong : ChangeSpec := { name := "descNew", fn := fun _ => fun
  | [d1, d2] => { results := [.lit (.bool false)], args := [d1, d2] }
  | _ => none }
def DescNewWrongFalsely : Prop := descNewRow.holds Try.pinned (OpenSpec.ofChange descNewWrong)

/- THE SECOND FORM. 'bulk': how many values and letters a reading holds, each counted each time it is reached (what is shared counts as often as it is met; a slice's spare places count too). A statement '..UptoSaid' is the law's where the arguments, and the package variables that the reading takes, are together of bulk at most 1048576: NARROWER than '..Said'. Prove '..Said' where nothing that the law and all that it calls make is longer than what came in: it says more and counts as full. Else prove '..UptoSaid'. A law counts once. -/
mutual
def uptoBulk {H : Type} : DataW H → Nat
  | .lit (.string bytes) => bytes.length + 1
  | .lit _ => 1
  | .nil => 1
  | .ptr d => uptoBulk d + 1
  | .slice elems spare => uptoBulkAll elems + uptoBulkAll spare + 1
  | .agg parts => uptoBulkAll parts + 1
  | .iface _ d => uptoBulk d + 1
  | .map entries => uptoBulkEntries entries + 1
  | .held _ => 1
def uptoBulkAll {H : Type} : List (DataW H) → Nat
  | [] => 0
  | d :: r => uptoBulk d + uptoBulkAll r
def uptoBulkEntries {H : Type} : List (Lit × DataW H) → Nat
  | [] => 0
  | x :: r => uptoBulkEntry x + uptoBulkEntries r
def uptoBulkEntry {H : Type} : Lit × DataW H → Nat
  | (.string bytes, d) => bytes.length + uptoBulk d + 1
  | (_, d) => uptoBulk d + 1
 end
def uptoSmall : (H : Type) → List (DataW H) → Bool := fun _ ds => decide (uptoBulkAll ds ≤ 1048576)
def OpenSpec.upto (s : _root_.Go.ChangeSpec) : _root_.Go.OpenSpec := { _root_.Go.OpenSpec.ofChange s with cond := some uptoSmall }

/-- 'understudylaw5.DescTell', WHERE WHAT IT READS IS OF BULK AT MOST 1048576: true; the input reads as it did. -/
def descTellUptoRow : OpenClaim := { program := "ytjnohhklbieecaa", sum := "fbf53e37475779ece08219a287a34e6288bfc22e33aa9e059935b442f0bea4ac", func := "understudy/understudylaw5.DescTell", spec := "descTell", apart := false, narrowed := true }
def DescTellUptoSaid : Prop := descTellUptoRow.holds Try.pinned (OpenSpec.upto descTellSpec)

/-- 'understudylaw5.DescApplies', WHERE WHAT IT READS IS OF BULK AT MOST 1048576: true; the input reads as it did. -/
def descAppliesUptoRow : OpenClaim := { program := "ytjnohhklbieecaa", sum := "fbf53e37475779ece08219a287a34e6288bfc22e33aa9e059935b442f0bea4ac", func := "understudy/understudylaw5.DescApplies", spec := "descApplies", apart := false, narrowed := true }
def DescAppliesUptoSaid : Prop := descAppliesUptoRow.holds Try.pinned (OpenSpec.upto descAppliesSpec)

/-- 'understudylaw5.DescFast', WHERE WHAT IT READS IS OF BULK AT MOST 1048576: true; the input reads as it did. -/
def descFastUptoRow : OpenClaim := { program := "ytjnohhklbieecaa", sum := "fbf53e37475779ece08219a287a34e6288bfc22e33aa9e059935b442f0bea4ac", func := "understudy/understudylaw5.DescFast", spec := "descFast", apart := false, narrowed := true }
def DescFastUptoSaid : Prop := descFastUptoRow.holds Try.pinned (OpenSpec.upto descFastSpec)

/-- 'understudylaw5.DescAgain', WHERE WHAT IT READS IS OF BULK AT MOST 1048576: true; the input reads as it did. -/
def descAgainUptoRow : OpenClaim := { program := "ytjnohhklbieecaa", sum := "fbf53e37475779ece08219a287a34e6288bfc22e33aa9e059935b442f0bea4ac", func := "understudy/understudylaw5.DescAgain", spec := "descAgain", apart := false, narrowed := true }
def DescAgainUptoSaid : Prop := descAgainUptoRow.holds Try.pinned (OpenSpec.upto descAgainSpec)

/-- 'understudylaw5.DescTurns', WHERE WHAT IT READS IS OF BULK AT MOST 1048576: true; the input reads as it did. -/
def descTurnsUptoRow : OpenClaim := { program := "ytjnohhklbieecaa", sum := "fbf53e37475779ece08219a287a34e6288bfc22e33aa9e059935b442f0bea4ac", func := "understudy/understudylaw5.DescTurns", spec := "descTurns", apart := false, narrowed := true }
def DescTurnsUptoSaid : Prop := descTurnsUptoRow.holds Try.pinned (OpenSpec.upto descTurnsSpec)

/-- 'understudylaw5.DescNew', WHERE WHAT IT READS IS OF BULK AT MOST 1048576: true; the input reads as it did. -/
def descNewUptoRow : OpenClaim := { program := "ytjnohhklbieecaa", sum := "fbf53e37475779ece08219a287a34e6288bfc22e33aa9e059935b442f0bea4ac", func := "understudy/understudylaw5.DescNew", spec := "descNew", apart := false, narrowed := true }
def DescNewUptoSaid : Prop := descNewUptoRow.holds Try.pinned (OpenSpec.upto descNewSpec)

end Rows
end Go.Proofs.Ytjnohhklbieecaa
