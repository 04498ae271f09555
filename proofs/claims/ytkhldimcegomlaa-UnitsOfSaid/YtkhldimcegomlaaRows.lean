/-
  No cell of these rows narrows 'for every input' (looked for: loops, veiled, ifaces, maps, wideKeys, modest, calm, conditions, laid).
  DERIVED. THE GIVEN ROWS OF THIS SEAT. 5 by the template 'for every input the law returns true; each argument reads behind the call as it read before'; 0 by the template 'total and deterministic' (their statements: YtkhldimcegomlaaTotals.lean).
  GIVEN WITH THE SEED: the statements are not yours to turn. If you find one false, say at which input.
  Laid BY PROGRAM, IN A SANDBOX (cutbox-rows.mjs): the forced cells as the released guide's own fill.sh prints them over the translation 831301438b9f70fd… (all of the seat's roots in one cut). By AI agents, Wed Nov 11 2026. No macro, syntax, notation, axiom, sorry.
-/
import Derived.Test.YtkhldimcegomlaaChecked
import GoSem.Claim
import GoSem.ClaimJoined
import GoSem.ClaimMapViews
import Derived.JoinedTies
import Derived.KernelRfl
namespace Go.Proofs.Ytkhldimcegomlaa
/- THE CELL 'sum', in the pinned program and in every row, IS THE sha256 OF THE DUMP (.gsa) THAT YtkhldimcegomlaaProg.lean LOADS. Nothing in Lean hashes anything: it is a label: what it is worth is what the hold of that sum in a sandbox is worth. -/
noncomputable def Try.pinned : Pinned := { name := "ytkhldimcegomlaa", sum := "831301438b9f70fd1d75c1613c850345bf546a104736735b72c2555f557a0bef", checked := Try.checked }
namespace Rows
def none {H : Type} : Left H := { results := [], args := [] }

/-- 'understudylaw1.UnitsOf': WHATEVER THE INPUT: true; the input reads as it did. -/
def unitsOfSpec : ChangeSpec := { name := "unitsOf", fn := fun _ => fun
  | [d] => { results := [.lit (.bool true)], args := [d] }
  | _ => none }
def unitsOfRow : OpenClaim := { program := "ytkhldimcegomlaa", sum := "831301438b9f70fd1d75c1613c850345bf546a104736735b72c2555f557a0bef", func := "understudy/understudylaw1.UnitsOf", spec := "unitsOf", inPlace := ["internal/abi.NoEscape", "internal/bytealg.MakeNoZero"], unfollowed := true, recurses := true, apart := false }
def UnitsOfSaid : Prop := unitsOfRow.holds Try.pinned (OpenSpec.ofChange unitsOfSpec)

/-- ITS FALSE NEIGHBOUR: 'it returns false'. Refute it at one input. -/
def unitsOfWrong : ChangeSpec := { name := "unitsOf", fn := fun _ => fun
  | [d] => { results := [.lit (.bool false)], args := [d] }
  | _ => none }
def UnitsOfWrongFalsely : Prop := unitsOfRow.holds Try.pinned (OpenSpec.ofChange unitsOfWrong)

/-- 'understudylaw1.UnitsText': WHATEVER THE INPUT: true; the input reads as it did. -/
def unitsTextSpec : ChangeSpec := { name := "unitsText", fn := fun _ => fun
  | [d] => { results := [.lit (.bool true)], args := [d] }
  | _ => none }
def unitsTextRow : OpenClaim := { program := "ytkhldimcegomlaa", sum := "831301438b9f70fd1d75c1613c850345bf546a104736735b72c2555f557a0bef", func := "understudy/understudylaw1.UnitsText", spec := "unitsText", inPlace := ["internal/abi.NoEscape", "internal/bytealg.MakeNoZero"], unfollowed := true, recurses := true, apart := false }
def UnitsTextSaid : Prop := unitsTextRow.holds Try.pinned (OpenSpec.ofChange unitsTextSpec)

/-- ITS FALSE NEIGHBOUR: 'it returns false'. Refute it at one input. -/
def unitsTextWrong : ChangeSpec := { name := "unitsText", fn := fun _ => fun
  | [d] => { results := [.lit (.bool false)], args := [d] }
  | _ => none }
def UnitsTextWrongFalsely : Prop := unitsTextRow.holds Try.pinned (OpenSpec.ofChange unitsTextWrong)

/-- 'understudylaw1.UnitsJoin': WHATEVER THE INPUT: true; the input reads as it did. -/
def unitsJoinSpec : ChangeSpec := { name := "unitsJoin", fn := fun _ => fun
  | [d1, d2] => { results := [.lit (.bool true)], args := [d1, d2] }
  | _ => none }
def unitsJoinRow : OpenClaim := { program := "ytkhldimcegomlaa", sum := "831301438b9f70fd1d75c1613c850345bf546a104736735b72c2555f557a0bef", func := "understudy/understudylaw1.UnitsJoin", spec := "unitsJoin", inPlace := ["internal/abi.NoEscape", "internal/bytealg.MakeNoZero"], unfollowed := true, recurses := true, apart := false }
def UnitsJoinSaid : Prop := unitsJoinRow.holds Try.pinned (OpenSpec.ofChange unitsJoinSpec)

/-- ITS FALSE NEIGHBOUR: 'it returns false'. Refute it at one input. -/
def unitsJoinWrong : ChangeSpec := { name := "unitsJoin", fn := fun _ => fun
  | [d1, d2] => { results := [.lit (.bool false)], args := [d1, d2] }
  | _ => none }
def UnitsJoinWrongFalsely : Prop := unitsJoinRow.holds Try.pinned (OpenSpec.ofChange unitsJoinWrong)

/-- 'understudylaw1.UnitsPoints': WHATEVER THE INPUT: true; the input reads as it did. -/
def unitsPointsSpec : ChangeSpec := { name := "unitsPoints", fn := fun _ => fun
  | [d] => { results := [.lit (.bool true)], args := [d] }
  | _ => none }
def unitsPointsRow : OpenClaim := { program := "ytkhldimcegomlaa", sum := "831301438b9f70fd1d75c1613c850345bf546a104736735b72c2555f557a0bef", func := "understudy/understudylaw1.UnitsPoints", spec := "unitsPoints", inPlace := ["internal/abi.NoEscape", "internal/bytealg.MakeNoZero"], unfollowed := true, recurses := true, apart := false }
def UnitsPointsSaid : Prop := unitsPointsRow.holds Try.pinned (OpenSpec.ofChange unitsPointsSpec)

/-- ITS FALSE NEIGHBOUR: 'it returns false'. Refute it at one input. -/
def unitsPointsWrong : ChangeSpec := { name := "unitsPoints", fn := fun _ => fun
  | [d] => { results := [.lit (.bool false)], args := [d] }
  | _ => none }
def UnitsPointsWrongFalsely : Prop := unitsPointsRow.holds Try.pinned (OpenSpec.ofChange unitsPointsWrong)

/-- 'understudylaw1.UnitsCut': WHATEVER THE INPUT: true; the input reads as it did. -/
def unitsCutSpec : ChangeSpec := { name := "unitsCut", fn := fun _ => fun
  | [d1, d2] => { results := [.lit (.bool true)], args := [d1, d2] }
  | _ => none }
def unitsCutRow : OpenClaim := { program := "ytkhldimcegomlaa", sum := "831301438b9f70fd1d75c1613c850345bf546a104736735b72c2555f557a0bef", func := "understudy/understudylaw1.UnitsCut", spec := "unitsCut", inPlace := ["internal/abi.NoEscape", "internal/bytealg.MakeNoZero"], unfollowed := true, recurses := true, apart := false }
def UnitsCutSaid : Prop := unitsCutRow.holds Try.pinned (OpenSpec.ofChange unitsCutSpec)

/-- ITS FALSE NEIGHBOUR: 'it returns false'. Refute it at one input. -/
def unitsCutWrong : ChangeSpec := { name := "unitsCut", fn := fun _ => fun
  | [d1, d2] => { results := [.lit (.bool false)], args := [d1, d2] }
  | _ => none }
def UnitsCutWrongFalsely : Prop := unitsCutRow.holds Try.pinned (OpenSpec.ofChange unitsCutWrong)

/- THE SECOND FORM. 'bulk': how many values and letters a reading holds, each counted each time it is reached (what is shared counts as often as it is met; a slice's spare places count too). A statement '..UptoSaid' is the law's where the arguments, and the package variables that the reading takes, are together of bulk at most 1048576: NARROWER than '..Said'. Prove '..Said' where nothing that the law and all that it calls make is longer than what came in: it says more and counts as full. Else prove '..UptoSaid'. A law counts once. -/
mutual
def uptoBulk {H : Type} : DataW H → Nat
  | .lit (.string bytes) => bytes.length + 1
  | .lit _ => 1
  | .nil => 1
  | .ptr d => uptoBulk d + 1
  | .slice elems spare => uptoBulkAll elems + uptoBulkAll spare + 1
  | .agg parts => uptoBulkAll parts + 1
  | .iface _ d => uptoBulk d + 1
  | .map entries => uptoBulkEntries entries + 1
  | .held _ => 1
def uptoBulkAll {H : Type} : List (DataW H) → Nat
  | [] => 0
  | d :: r => uptoBulk d + uptoBulkAll r
def uptoBulkEntries {H : Type} : List (Lit × DataW H) → Nat
  | [] => 0
  | x :: r => uptoBulkEntry x + uptoBulkEntries r
def uptoBulkEntry {H : Type} : Lit × DataW H → Nat
  | (.string bytes, d) => bytes.length + uptoBulk d + 1
  | (_, d) => uptoBulk d + 1
 end
def uptoSmall : (H : Type) → List (DataW H) → Bool := fun _ ds => decide (uptoBulkAll ds ≤ 1048576)
def OpenSpec.upto (s : _root_.Go.ChangeSpec) : _root_.Go.OpenSpec := { _root_.Go.OpenSpec.ofChange s with cond := some uptoSmall }

/-- 'understudylaw1.UnitsOf', WHERE WHAT IT READS IS OF BULK AT MOST 1048576: true; the input reads as it did. -/
def unitsOfUptoRow : OpenClaim := { program := "ytkhldimcegomlaa", sum := "831301438b9f70fd1d75c1613c850345bf546a104736735b72c2555f557a0bef", func := "understudy/understudylaw1.UnitsOf", spec := "unitsOf", inPlace := ["internal/abi.NoEscape", "internal/bytealg.MakeNoZero"], unfollowed := true, recurses := true, apart := false, narrowed := true }
def UnitsOfUptoSaid : Prop := unitsOfUptoRow.holds Try.pinned (OpenSpec.upto unitsOfSpec)

/-- 'understudylaw1.UnitsText', WHERE WHAT IT READS IS OF BULK AT MOST 1048576: true; the input reads as it did. -/
def unitsTextUptoRow : OpenClaim := { program := "ytkhldimcegomlaa", sum := "831301438b9f70fd1d75c1613c850345bf546a104736735b72c2555f557a0bef", func := "understudy/understudylaw1.UnitsText", spec := "unitsText", inPlace := ["internal/abi.NoEscape", "internal/bytealg.MakeNoZero"], unfollowed := true, recurses := true, apart := false, narrowed := true }
def UnitsTextUptoSaid : Prop := unitsTextUptoRow.holds Try.pinned (OpenSpec.upto unitsTextSpec)

/-- 'understudylaw1.UnitsJoin', WHERE WHAT IT READS IS OF BULK AT MOST 1048576: true; the input reads as it did. -/
def unitsJoinUptoRow : OpenClaim := { program := "ytkhldimcegomlaa", sum := "831301438b9f70fd1d75c1613c850345bf546a104736735b72c2555f557a0bef", func := "understudy/understudylaw1.UnitsJoin", spec := "unitsJoin", inPlace := ["internal/abi.NoEscape", "internal/bytealg.MakeNoZero"], unfollowed := true, recurses := true, apart := false, narrowed := true }
def UnitsJoinUptoSaid : Prop := unitsJoinUptoRow.holds Try.pinned (OpenSpec.upto unitsJoinSpec)

/-- 'understudylaw1.UnitsPoints', WHERE WHAT IT READS IS OF BULK AT MOST 1048576: true; the input reads as it did. -/
def unitsPointsUptoRow : OpenClaim := { program := "ytkhldimcegomlaa", sum := "831301438b9f70fd1d75c1613c850345bf546a104736735b72c2555f557a0bef", func := "understudy/understudylaw1.UnitsPoints", spec := "unitsPoints", inPlace := ["internal/abi.NoEscape", "internal/bytealg.MakeNoZero"], unfollowed := true, recurses := true, apart := false, narrowed := true }
def UnitsPointsUptoSaid : Prop := unitsPointsUptoRow.holds Try.pinned (OpenSpec.upto unitsPointsSpec)

/-- 'understudylaw1.UnitsCut', WHERE WHAT IT READS IS OF BULK AT MOST 1048576: true; the input reads as it did. -/
def unitsCutUptoRow : OpenClaim := { program := "ytkhldimcegomlaa", sum := "831301438b9f70fd1d75c1613c850345bf546a104736735b72c2555f557a0bef", func := "understudy/understudylaw1.UnitsCut", spec := "unitsCut", inPlace := ["internal/abi.NoEscape", "internal/bytealg.MakeNoZero"], unfollowed := true, recurses := true, apart := false, narrowed := true }
def UnitsCutUptoSaid : Prop := unitsCutUptoRow.holds Try.pinned (OpenSpec.upto unitsCutSpec)

end Rows
end Go.Proofs.Ytkhldimcegomlaa
