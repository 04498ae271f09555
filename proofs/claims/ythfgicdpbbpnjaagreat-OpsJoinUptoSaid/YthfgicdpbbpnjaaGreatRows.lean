/-
  No cell of these rows narrows 'for every input' (looked for: loops, veiled, ifaces, maps, wideKeys, modest, calm, conditions, laid).
  DERIVED. THE GIVEN ROWS OF THIS SEAT. 3 by the template 'for every input the law returns true; each argument reads behind the call as it read before'; 0 by the template 'total and deterministic' (their statements: YthfgicdpbbpnjaaGreatTotals.lean).
  GIVEN WITH THE SEED: the statements are not yours to turn. If you find one false, say at which input.
  Laid BY PROGRAM, IN A SANDBOX (cutbox-rows.mjs): the forced cells as the released guide's own fill.sh prints them over the translation 4fda0b79d493006b… (all of the seat's roots in one cut). By AI agents, Wed Nov 11 2026. No macro, syntax, notation, axiom, sorry.
-/
import Derived.Test.YthfgicdpbbpnjaaGreatChecked
import GoSem.Claim
import GoSem.ClaimJoined
import GoSem.ClaimMapViews
import Derived.JoinedTies
import Derived.KernelRfl
namespace Go.Proofs.YthfgicdpbbpnjaaGreat
/- THE CELL 'sum', in the pinned program and in every row, IS THE sha256 OF THE DUMP (.gsa) THAT YthfgicdpbbpnjaaGreatProg.lean LOADS. Nothing in Lean hashes anything: it is a label: what it is worth is what the hold of that sum in a sandbox is worth. -/
noncomputable def Tryz.pinned : Pinned := { name := "ythfgicdpbbpnjaagreat", sum := "4fda0b79d493006bc7982cf13b0fbfc58e90dca2e6834a3274e3609b5819823f", checked := Tryz.checked }
namespace Rows
def none {H : Type} : Left H := { results := [], args := [] }

/-- 'understudylaw16.OpsOrder': WHATEVER THE INPUT: true; the input reads as it did. -/
def opsOrderSpec : ChangeSpec := { name := "opsOrder", fn := fun _ => fun
  | [d1, d2, d3] => { results := [.lit (.bool true)], args := [d1, d2, d3] }
  | _ => none }
def opsOrderRow : OpenClaim := { program := "ythfgicdpbbpnjaagreat", sum := "4fda0b79d493006bc7982cf13b0fbfc58e90dca2e6834a3274e3609b5819823f", func := "understudy/understudylaw16.OpsOrder", spec := "opsOrder", inPlace := ["internal/abi.NoEscape", "internal/bytealg.MakeNoZero"], unfollowed := true, recurses := true, apart := false }
def OpsOrderSaid : Prop := opsOrderRow.holds Tryz.pinned (OpenSpec.ofChange opsOrderSpec)

/-- ITS FALSE NEIGHBOUR: 'it returns false'. Refute it at one input. -/
def opsOrderWrong : ChangeSpec := { name := "opsOrder", fn := fun _ => fun
  | [d1, d2, d3] => { results := [.lit (.bool false)], args := [d1, d2, d3] }
  | _ => none }
def OpsOrderWrongFalsely : Prop := opsOrderRow.holds Tryz.pinned (OpenSpec.ofChange opsOrderWrong)

/-- 'understudylaw16.OpsJoin': WHATEVER THE INPUT: true; the input reads as it did. -/
def opsJoinSpec : ChangeSpec := { name := "opsJoin", fn := fun _ => fun
  | [d1, d2, d3] => { results := [.lit (.bool true)], args := [d1, d2, d3] }
  | _ => none }
def opsJoinRow : OpenClaim := { program := "ythfgicdpbbpnjaagreat", sum := "4fda0b79d493006bc7982cf13b0fbfc58e90dca2e6834a3274e3609b5819823f", func := "understudy/understudylaw16.OpsJoin", spec := "opsJoin", inPlace := ["internal/abi.NoEscape", "internal/bytealg.MakeNoZero"], unfollowed := true, recurses := true, apart := false }
def OpsJoinSaid : Prop := opsJoinRow.holds Tryz.pinned (OpenSpec.ofChange opsJoinSpec)

/-- ITS FALSE NEIGHBOUR: 'it returns false'. Refute it at one input. -/
def opsJoinWrong : ChangeSpec := { name := "opsJoin", fn := fun _ => fun
  | [d1, d2, d3] => { results := [.lit (.bool false)], args := [d1, d2, d3] }
  | _ => none }
def OpsJoinWrongFalsely : Prop := opsJoinRow.holds Tryz.pinned (OpenSpec.ofChange opsJoinWrong)

/-- 'understudylaw16.OpsTruth': WHATEVER THE INPUT: true; the input reads as it did. -/
def opsTruthSpec : ChangeSpec := { name := "opsTruth", fn := fun _ => fun
  | [d1, d2] => { results := [.lit (.bool true)], args := [d1, d2] }
  | _ => none }
def opsTruthRow : OpenClaim := { program := "ythfgicdpbbpnjaagreat", sum := "4fda0b79d493006bc7982cf13b0fbfc58e90dca2e6834a3274e3609b5819823f", func := "understudy/understudylaw16.OpsTruth", spec := "opsTruth", inPlace := ["internal/abi.NoEscape", "internal/bytealg.MakeNoZero"], unfollowed := true, recurses := true, apart := false }
def OpsTruthSaid : Prop := opsTruthRow.holds Tryz.pinned (OpenSpec.ofChange opsTruthSpec)

/-- ITS FALSE NEIGHBOUR: 'it returns false'. Refute it at one input. -/
def opsTruthWrong : ChangeSpec := { name := "opsTruth", fn := fun _ => fun
  | [d1, d2] => { results := [.lit (.bool false)], args := [d1, d2] }
  | _ => none }
def OpsTruthWrongFalsely : Prop := opsTruthRow.holds Tryz.pinned (OpenSpec.ofChange opsTruthWrong)

/- THE SECOND FORM. 'bulk': how many values and letters a reading holds, each counted each time it is reached (what is shared counts as often as it is met; a slice's spare places count too). A statement '..UptoSaid' is the law's where the arguments, and the package variables that the reading takes, are together of bulk at most 1048576: NARROWER than '..Said'. Prove '..Said' where nothing that the law and all that it calls make is longer than what came in: it says more and counts as full. Else prove '..UptoSaid'. A law counts once. -/
mutual
def uptoBulk {H : Type} : DataW H → Nat
  | .lit (.string bytes) => bytes.length + 1
  | .lit _ => 1
  | .nil => 1
  | .ptr d => uptoBulk d + 1
  | .slice elems spare => uptoBulkAll elems + uptoBulkAll spare + 1
  | .agg parts => uptoBulkAll parts + 1
  | .iface _ d => uptoBulk d + 1
  | .map entries => uptoBulkEntries entries + 1
  | .held _ => 1
def uptoBulkAll {H : Type} : List (DataW H) → Nat
  | [] => 0
  | d :: r => uptoBulk d + uptoBulkAll r
def uptoBulkEntries {H : Type} : List (Lit × DataW H) → Nat
  | [] => 0
  | x :: r => uptoBulkEntry x + uptoBulkEntries r
def uptoBulkEntry {H : Type} : Lit × DataW H → Nat
  | (.string bytes, d) => bytes.length + uptoBulk d + 1
  | (_, d) => uptoBulk d + 1
 end
def uptoSmall : (H : Type) → List (DataW H) → Bool := fun _ ds => decide (uptoBulkAll ds ≤ 1048576)
def OpenSpec.upto (s : _root_.Go.ChangeSpec) : _root_.Go.OpenSpec := { _root_.Go.OpenSpec.ofChange s with cond := some uptoSmall }

/-- 'understudylaw16.OpsOrder', WHERE WHAT IT READS IS OF BULK AT MOST 1048576: true; the input reads as it did. -/
def opsOrderUptoRow : OpenClaim := { program := "ythfgicdpbbpnjaagreat", sum := "4fda0b79d493006bc7982cf13b0fbfc58e90dca2e6834a3274e3609b5819823f", func := "understudy/understudylaw16.OpsOrder", spec := "opsOrder", inPlace := ["internal/abi.NoEscape", "internal/bytealg.MakeNoZero"], unfollowed := true, recurses := true, apart := false, narrowed := true }
def OpsOrderUptoSaid : Prop := opsOrderUptoRow.holds Tryz.pinned (OpenSpec.upto opsOrderSpec)

/-- 'understudylaw16.OpsJoin', WHERE WHAT IT READS IS OF BULK AT MOST 1048576: true; the input reads as it did. -/
def opsJoinUptoRow : OpenClaim := { program := "ythfgicdpbbpnjaagreat", sum := "4fda0b79d493006bc7982cf13b0fbfc58e90dca2e6834a3274e3609b5819823f", func := "understudy/understudylaw16.OpsJoin", spec := "opsJoin", inPlace := ["internal/abi.NoEscape", "internal/bytealg.MakeNoZero"], unfollowed := true, recurses := true, apart := false, narrowed := true }
def OpsJoinUptoSaid : Prop := opsJoinUptoRow.holds Tryz.pinned (OpenSpec.upto opsJoinSpec)

/-- 'understudylaw16.OpsTruth', WHERE WHAT IT READS IS OF BULK AT MOST 1048576: true; the input reads as it did. -/
def opsTruthUptoRow : OpenClaim := { program := "ythfgicdpbbpnjaagreat", sum := "4fda0b79d493006bc7982cf13b0fbfc58e90dca2e6834a3274e3609b5819823f", func := "understudy/understudylaw16.OpsTruth", spec := "opsTruth", inPlace := ["internal/abi.NoEscape", "internal/bytealg.MakeNoZero"], unfollowed := true, recurses := true, apart := false, narrowed := true }
def OpsTruthUptoSaid : Prop := opsTruthUptoRow.holds Tryz.pinned (OpenSpec.upto opsTruthSpec)

end Rows
end Go.Proofs.YthfgicdpbbpnjaaGreat
