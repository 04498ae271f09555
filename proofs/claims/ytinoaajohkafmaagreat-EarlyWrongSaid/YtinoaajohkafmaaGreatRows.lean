/-
  NARROWER THAN 'FOR EVERY INPUT', by the rows' own cells (each row's printed sentence says how): EarlyTrees: loops.
  DERIVED. THE GIVEN ROWS OF THIS SEAT. 4 by the template 'for every input the law returns true; each argument reads behind the call as it read before'; 0 by the template 'total and deterministic' (their statements: YtinoaajohkafmaaGreatTotals.lean).
  GIVEN WITH THE SEED: the statements are not yours to turn. If you find one false, say at which input.
  Laid BY PROGRAM, IN A SANDBOX (cutbox-rows.mjs): the forced cells as the released guide's own fill.sh prints them over the translation 3fda70b6e2783553… (all of the seat's roots in one cut). By AI agents, Wed Nov 11 2026. No macro, syntax, notation, axiom, sorry.
-/
import Derived.Test.YtinoaajohkafmaaGreatChecked
import GoSem.Claim
import GoSem.ClaimJoined
import GoSem.ClaimMapViews
import Derived.JoinedTies
import Derived.KernelRfl
namespace Go.Proofs.YtinoaajohkafmaaGreat
/- THE CELL 'sum', in the pinned program and in every row, IS THE sha256 OF THE DUMP (.gsa) THAT YtinoaajohkafmaaGreatProg.lean LOADS. Nothing in Lean hashes anything: it is a label: what it is worth is what the hold of that sum in a sandbox is worth. -/
noncomputable def Tryz.pinned : Pinned := { name := "ytinoaajohkafmaagreat", sum := "3fda70b6e278355360d4ea9f4f3182faf484b5bc3407f03be924718756e3968e", checked := Tryz.checked }
namespace Rows
def none {H : Type} : Left H := { results := [], args := [] }

/-- 'understudylaw15.EarlyTrees': WHATEVER THE INPUT: true; the input reads as it did. -/
def earlyTreesSpec : ChangeSpec := { name := "earlyTrees", fn := fun _ => fun
  | [d] => { results := [.lit (.bool true)], args := [d] }
  | _ => none }
def earlyTreesRow : OpenClaim := { program := "ytinoaajohkafmaagreat", sum := "3fda70b6e278355360d4ea9f4f3182faf484b5bc3407f03be924718756e3968e", func := "understudy/understudylaw15.EarlyTrees", spec := "earlyTrees", inPlace := ["internal/abi.NoEscape", "internal/bytealg.MakeNoZero"], unfollowed := true, recurses := true, loops := true, apart := false }
def EarlyTreesSaid : Prop := earlyTreesRow.holds Tryz.pinned (OpenSpec.ofChange earlyTreesSpec)

/-- ITS FALSE NEIGHBOUR: 'it returns false'. Refute it at one input. -/
def earlyTreesWrong : ChangeSpec := { name := "earlyTrees", fn := fun _ => fun
  | [d] => { results := [.lit (.bool false)], args := [d] }
  | _ => none }
def EarlyTreesWrongFalsely : Prop := earlyTreesRow.holds Tryz.pinned (OpenSpec.ofChange earlyTreesWrong)

/-- 'understudylaw15.EarlyPrograms': WHATEVER THE INPUT: true; the input reads as it did. -/
def earlyProgramsSpec : ChangeSpec := { name := "earlyPrograms", fn := fun _ => fun
  | [d] => { results := [.lit (.bool true)], args := [d] }
  | _ => none }
def earlyProgramsRow : OpenClaim := { program := "ytinoaajohkafmaagreat", sum := "3fda70b6e278355360d4ea9f4f3182faf484b5bc3407f03be924718756e3968e", func := "understudy/understudylaw15.EarlyPrograms", spec := "earlyPrograms", inPlace := ["internal/abi.NoEscape", "internal/bytealg.MakeNoZero"], unfollowed := true, recurses := true, apart := false }
def EarlyProgramsSaid : Prop := earlyProgramsRow.holds Tryz.pinned (OpenSpec.ofChange earlyProgramsSpec)

/-- ITS FALSE NEIGHBOUR: 'it returns false'. Refute it at one input. -/
def earlyProgramsWrong : ChangeSpec := { name := "earlyPrograms", fn := fun _ => fun
  | [d] => { results := [.lit (.bool false)], args := [d] }
  | _ => none }
def EarlyProgramsWrongFalsely : Prop := earlyProgramsRow.holds Tryz.pinned (OpenSpec.ofChange earlyProgramsWrong)

/-- 'understudylaw15.EarlyWrong': WHATEVER THE INPUT: true; the input reads as it did. -/
def earlyWrongSpec : ChangeSpec := { name := "earlyWrong", fn := fun _ => fun
  | [d] => { results := [.lit (.bool true)], args := [d] }
  | _ => none }
def earlyWrongRow : OpenClaim := { program := "ytinoaajohkafmaagreat", sum := "3fda70b6e278355360d4ea9f4f3182faf484b5bc3407f03be924718756e3968e", func := "understudy/understudylaw15.EarlyWrong", spec := "earlyWrong", inPlace := ["internal/abi.NoEscape", "internal/bytealg.MakeNoZero"], unfollowed := true, recurses := true, apart := false }
def EarlyWrongSaid : Prop := earlyWrongRow.holds Tryz.pinned (OpenSpec.ofChange earlyWrongSpec)

/-- ITS FALSE NEIGHBOUR: 'it returns false'. Refute it at one input. -/
def earlyWrongWrong : ChangeSpec := { name := "earlyWrong", fn := fun _ => fun
  | [d] => { results := [.lit (.bool false)], args := [d] }
  | _ => none }
def EarlyWrongWrongFalsely : Prop := earlyWrongRow.holds Tryz.pinned (OpenSpec.ofChange earlyWrongWrong)

/-- 'understudylaw15.EarlyBlocks': WHATEVER THE INPUT: true; the input reads as it did. -/
def earlyBlocksSpec : ChangeSpec := { name := "earlyBlocks", fn := fun _ => fun
  | [d1, d2] => { results := [.lit (.bool true)], args := [d1, d2] }
  | _ => none }
def earlyBlocksRow : OpenClaim := { program := "ytinoaajohkafmaagreat", sum := "3fda70b6e278355360d4ea9f4f3182faf484b5bc3407f03be924718756e3968e", func := "understudy/understudylaw15.EarlyBlocks", spec := "earlyBlocks", inPlace := ["internal/abi.NoEscape", "internal/bytealg.MakeNoZero"], unfollowed := true, recurses := true, apart := false }
def EarlyBlocksSaid : Prop := earlyBlocksRow.holds Tryz.pinned (OpenSpec.ofChange earlyBlocksSpec)

/-- ITS FALSE NEIGHBOUR: 'it returns false'. Refute it at one input. -/
def earlyBlocksWrong : ChangeSpec := { name := "earlyBlocks", fn := fun _ => fun
  | [d1, d2] => { results := [.lit (.bool false)], args := [d1, d2] }
  | _ => none }
def EarlyBlocksWrongFalsely : Prop := earlyBlocksRow.holds Tryz.pinned (OpenSpec.ofChange earlyBlocksWrong)

/- THE SECOND FORM. 'bulk': how many values and letters a reading holds, each counted each time it is reached (what is shared counts as often as it is met; a slice's spare places count too). A statement '..UptoSaid' is the law's where the arguments, and the package variables that the reading takes, are together of bulk at most 1048576: NARROWER than '..Said'. Prove '..Said' where nothing that the law and all that it calls make is longer than what came in: it says more and counts as full. Else prove '..UptoSaid'. A law counts once. -/
mutual
def uptoBulk {H : Type} : DataW H → Nat
  | .lit (.string bytes) => bytes.length + 1
  | .lit _ => 1
  | .nil => 1
  | .ptr d => uptoBulk d + 1
  | .slice elems spare => uptoBulkAll elems + uptoBulkAll spare + 1
  | .agg parts => uptoBulkAll parts + 1
  | .iface _ d => uptoBulk d + 1
  | .map entries => uptoBulkEntries entries + 1
  | .held _ => 1
def uptoBulkAll {H : Type} : List (DataW H) → Nat
  | [] => 0
  | d :: r => uptoBulk d + uptoBulkAll r
def uptoBulkEntries {H : Type} : List (Lit × DataW H) → Nat
  | [] => 0
  | x :: r => uptoBulkEntry x + uptoBulkEntries r
def uptoBulkEntry {H : Type} : Lit × DataW H → Nat
  | (.string bytes, d) => bytes.length + uptoBulk d + 1
  | (_, d) => uptoBulk d + 1
 end
def uptoSmall : (H : Type) → List (DataW H) → Bool := fun _ ds => decide (uptoBulkAll ds ≤ 1048576)
def OpenSpec.upto (s : _root_.Go.ChangeSpec) : _root_.Go.OpenSpec := { _root_.Go.OpenSpec.ofChange s with cond := some uptoSmall }

/-- 'understudylaw15.EarlyTrees', WHERE WHAT IT READS IS OF BULK AT MOST 1048576: true; the input reads as it did. -/
def earlyTreesUptoRow : OpenClaim := { program := "ytinoaajohkafmaagreat", sum := "3fda70b6e278355360d4ea9f4f3182faf484b5bc3407f03be924718756e3968e", func := "understudy/understudylaw15.EarlyTrees", spec := "earlyTrees", inPlace := ["internal/abi.NoEscape", "internal/bytealg.MakeNoZero"], unfollowed := true, recurses := true, loops := true, apart := false, narrowed := true }
def EarlyTreesUptoSaid : Prop := earlyTreesUptoRow.holds Tryz.pinned (OpenSpec.upto earlyTreesSpec)

/-- 'understudylaw15.EarlyPrograms', WHERE WHAT IT READS IS OF BULK AT MOST 1048576: true; the input reads as it did. -/
def earlyProgramsUptoRow : OpenClaim := { program := "ytinoaajohkafmaagreat", sum := "3fda70b6e278355360d4ea9f4f3182faf484b5bc3407f03be924718756e3968e", func := "understudy/understudylaw15.EarlyPrograms", spec := "earlyPrograms", inPlace := ["internal/abi.NoEscape", "internal/bytealg.MakeNoZero"], unfollowed := true, recurses := true, apart := false, narrowed := true }
def EarlyProgramsUptoSaid : Prop := earlyProgramsUptoRow.holds Tryz.pinned (OpenSpec.upto earlyProgramsSpec)

/-- 'understudylaw15.EarlyWrong', WHERE WHAT IT READS IS OF BULK AT MOST 1048576: true; the input reads as it did. -/
def earlyWrongUptoRow : OpenClaim := { program := "ytinoaajohkafmaagreat", sum := "3fda70b6e278355360d4ea9f4f3182faf484b5bc3407f03be924718756e3968e", func := "understudy/understudylaw15.EarlyWrong", spec := "earlyWrong", inPlace := ["internal/abi.NoEscape", "internal/bytealg.MakeNoZero"], unfollowed := true, recurses := true, apart := false, narrowed := true }
def EarlyWrongUptoSaid : Prop := earlyWrongUptoRow.holds Tryz.pinned (OpenSpec.upto earlyWrongSpec)

/-- 'understudylaw15.EarlyBlocks', WHERE WHAT IT READS IS OF BULK AT MOST 1048576: true; the input reads as it did. -/
def earlyBlocksUptoRow : OpenClaim := { program := "ytinoaajohkafmaagreat", sum := "3fda70b6e278355360d4ea9f4f3182faf484b5bc3407f03be924718756e3968e", func := "understudy/understudylaw15.EarlyBlocks", spec := "earlyBlocks", inPlace := ["internal/abi.NoEscape", "internal/bytealg.MakeNoZero"], unfollowed := true, recurses := true, apart := false, narrowed := true }
def EarlyBlocksUptoSaid : Prop := earlyBlocksUptoRow.holds Tryz.pinned (OpenSpec.upto earlyBlocksSpec)

end Rows
end Go.Proofs.YtinoaajohkafmaaGreat
