/-
  NARROWER THAN 'FOR EVERY INPUT', by the rows' own cells (each row's printed sentence says how): MopArrays: laid · MopChains: laid · MopSets: laid · MopBound: laid · MopLengths: laid · ReflectGets: laid · ReflectDefines: laid · ReflectKeys: laid · IntegrityHolds: laid · IntegrityMore: laid.
  DERIVED. THE GIVEN ROWS OF THIS SEAT. 10 by the template 'for every input the law returns true; each argument reads behind the call as it read before'; 0 by the template 'total and deterministic' (their statements: YtkadkmnolkkhgaaGreatDoorTotals.lean).
  GIVEN WITH THE SEED: the statements are not yours to turn. If you find one false, say at which input.
  Laid BY PROGRAM, IN A SANDBOX (cutbox-rows.mjs): the forced cells as the released guide's own fill.sh prints them over the translation 498cd97a5ba01747… (all of the seat's roots in one cut). By AI agents, Wed Nov 11 2026. No macro, syntax, notation, axiom, sorry.
-/
import Derived.Test.YtkadkmnolkkhgaaGreatDoorChecked
import GoSem.Claim
import GoSem.ClaimJoined
import GoSem.ClaimMapViews
import Derived.JoinedTies
import Derived.KernelRfl
namespace Go.Proofs.YtkadkmnolkkhgaaGreatDoor
/- THE CELL 'sum', in the pinned program and in every row, IS THE sha256 OF THE DUMP (.gsa) THAT YtkadkmnolkkhgaaGreatDoorProg.lean LOADS. Nothing in Lean hashes anything: it is a label: what it is worth is what the hold of that sum in a sandbox is worth. -/
noncomputable def Tryz.pinned : Pinned := { name := "ytkadkmnolkkhgaagreatdoor", sum := "498cd97a5ba01747112483b0cb3a10cbcc953d9ab7a2eedc745ba3ccfa665abc", checked := Tryz.checked }
namespace Rows
def none {H : Type} : Left H := { results := [], args := [] }

/- WHAT THE LISTED PACKAGE-LEVEL VARIABLES READ AS WHEN THE CALL BEGINS. Each datum BY PROGRAM (the guide's laid-datum.mjs) off the statement by which the dump's own 'gosem.cut.vars' lays the variable. In a bare row this is a premise. The card (YtkadkmnolkkhgaaGreatDoorCards.lean) ties it to the program's text. -/
def laid_math_bits_deBruijn32tab {H : Type} : DataW H := .agg [.lit (.int .u8 0), .lit (.int .u8 1), .lit (.int .u8 28), .lit (.int .u8 2), .lit (.int .u8 29), .lit (.int .u8 14), .lit (.int .u8 24), .lit (.int .u8 3), .lit (.int .u8 30), .lit (.int .u8 22), .lit (.int .u8 20), .lit (.int .u8 15), .lit (.int .u8 25), .lit (.int .u8 17), .lit (.int .u8 4), .lit (.int .u8 8), .lit (.int .u8 31), .lit (.int .u8 27), .lit (.int .u8 13), .lit (.int .u8 23), .lit (.int .u8 21), .lit (.int .u8 19), .lit (.int .u8 16), .lit (.int .u8 7), .lit (.int .u8 26), .lit (.int .u8 12), .lit (.int .u8 18), .lit (.int .u8 6), .lit (.int .u8 11), .lit (.int .u8 5), .lit (.int .u8 10), .lit (.int .u8 9)]
def laid_math_bits_deBruijn64tab {H : Type} : DataW H := .agg [.lit (.int .u8 0), .lit (.int .u8 1), .lit (.int .u8 56), .lit (.int .u8 2), .lit (.int .u8 57), .lit (.int .u8 49), .lit (.int .u8 28), .lit (.int .u8 3), .lit (.int .u8 61), .lit (.int .u8 58), .lit (.int .u8 42), .lit (.int .u8 50), .lit (.int .u8 38), .lit (.int .u8 29), .lit (.int .u8 17), .lit (.int .u8 4), .lit (.int .u8 62), .lit (.int .u8 47), .lit (.int .u8 59), .lit (.int .u8 36), .lit (.int .u8 45), .lit (.int .u8 43), .lit (.int .u8 51), .lit (.int .u8 22), .lit (.int .u8 53), .lit (.int .u8 39), .lit (.int .u8 33), .lit (.int .u8 30), .lit (.int .u8 24), .lit (.int .u8 18), .lit (.int .u8 12), .lit (.int .u8 5), .lit (.int .u8 63), .lit (.int .u8 55), .lit (.int .u8 48), .lit (.int .u8 27), .lit (.int .u8 60), .lit (.int .u8 41), .lit (.int .u8 37), .lit (.int .u8 16), .lit (.int .u8 46), .lit (.int .u8 35), .lit (.int .u8 44), .lit (.int .u8 21), .lit (.int .u8 52), .lit (.int .u8 32), .lit (.int .u8 23), .lit (.int .u8 11), .lit (.int .u8 54), .lit (.int .u8 26), .lit (.int .u8 40), .lit (.int .u8 15), .lit (.int .u8 34), .lit (.int .u8 20), .lit (.int .u8 31), .lit (.int .u8 10), .lit (.int .u8 25), .lit (.int .u8 14), .lit (.int .u8 19), .lit (.int .u8 9), .lit (.int .u8 13), .lit (.int .u8 8), .lit (.int .u8 7), .lit (.int .u8 6)]
def laid_internal_strconv_uint64pow10 {H : Type} : DataW H := .agg [.lit (.int .u64 1), .lit (.int .u64 10), .lit (.int .u64 100), .lit (.int .u64 1000), .lit (.int .u64 10000), .lit (.int .u64 100000), .lit (.int .u64 1000000), .lit (.int .u64 10000000), .lit (.int .u64 100000000), .lit (.int .u64 1000000000), .lit (.int .u64 10000000000), .lit (.int .u64 100000000000), .lit (.int .u64 1000000000000), .lit (.int .u64 10000000000000), .lit (.int .u64 100000000000000), .lit (.int .u64 1000000000000000), .lit (.int .u64 10000000000000000), .lit (.int .u64 100000000000000000), .lit (.int .u64 1000000000000000000), .lit (.int .u64 10000000000000000000)]
def laid_strconv_ErrRange {H : Type} : DataW H := .iface "*errors.errorString" (.ptr (.agg [.lit (.string [118, 97, 108, 117, 101, 32, 111, 117, 116, 32, 111, 102, 32, 114, 97, 110, 103, 101])]))
def laid_strconv_ErrSyntax {H : Type} : DataW H := .iface "*errors.errorString" (.ptr (.agg [.lit (.string [105, 110, 118, 97, 108, 105, 100, 32, 115, 121, 110, 116, 97, 120])]))

/-- 'understudylaw9.MopArrays': WHATEVER THE INPUT: true; the input reads as it did. -/
def mopArraysSpec : ChangeSpec := { name := "mopArrays", fn := fun _ => fun
  | [d1, d2] => { results := [.lit (.bool true)], args := [d1, d2] }
  | _ => none }
def mopArraysRow : OpenClaim := { program := "ytkadkmnolkkhgaagreatdoor", sum := "498cd97a5ba01747112483b0cb3a10cbcc953d9ab7a2eedc745ba3ccfa665abc", func := "understudy/understudylaw9.MopArrays", spec := "mopArrays", unfollowed := true, recurses := true, named := ["internal/strconv.uint64pow10", "math/bits.deBruijn32tab", "math/bits.deBruijn64tab", "strconv.ErrSyntax", "strconv.ErrRange"], plainKeys := false, apart := false, laid := [("math/bits.deBruijn32tab", laid_math_bits_deBruijn32tab), ("math/bits.deBruijn64tab", laid_math_bits_deBruijn64tab), ("internal/strconv.uint64pow10", laid_internal_strconv_uint64pow10), ("strconv.ErrRange", laid_strconv_ErrRange), ("strconv.ErrSyntax", laid_strconv_ErrSyntax)] }
def MopArraysSaid : Prop := mopArraysRow.holds Tryz.pinned (OpenSpec.ofChange mopArraysSpec)

/-- ITS FALSE NEIGHBOUR: 'it returns false'. Refute it at one input. -/
def mopArraysWrong : ChangeSpec := { name := "mopArrays", fn := fun _ => fun
  | [d1, d2] => { results := [.lit (.bool false)], args := [d1, d2] }
  | _ => none }
def MopArraysWrongFalsely : Prop := mopArraysRow.holds Tryz.pinned (OpenSpec.ofChange mopArraysWrong)

/-- 'understudylaw9.MopChains': WHATEVER THE INPUT: true; the input reads as it did. -/
def mopChainsSpec : ChangeSpec := { name := "mopChains", fn := fun _ => fun
  | [d1, d2] => { results := [.lit (.bool true)], args := [d1, d2] }
  | _ => none }
def mopChainsRow : OpenClaim := { program := "ytkadkmnolkkhgaagreatdoor", sum := "498cd97a5ba01747112483b0cb3a10cbcc953d9ab7a2eedc745ba3ccfa665abc", func := "understudy/understudylaw9.MopChains", spec := "mopChains", unfollowed := true, recurses := true, named := ["internal/strconv.uint64pow10", "math/bits.deBruijn32tab", "math/bits.deBruijn64tab", "strconv.ErrSyntax", "strconv.ErrRange"], plainKeys := false, apart := false, laid := [("math/bits.deBruijn32tab", laid_math_bits_deBruijn32tab), ("math/bits.deBruijn64tab", laid_math_bits_deBruijn64tab), ("internal/strconv.uint64pow10", laid_internal_strconv_uint64pow10), ("strconv.ErrRange", laid_strconv_ErrRange), ("strconv.ErrSyntax", laid_strconv_ErrSyntax)] }
def MopChainsSaid : Prop := mopChainsRow.holds Tryz.pinned (OpenSpec.ofChange mopChainsSpec)

/-- ITS FALSE NEIGHBOUR: 'it returns false'. Refute it at one input. -/
def mopChainsWrong : ChangeSpec := { name := "mopChains", fn := fun _ => fun
  | [d1, d2] => { results := [.lit (.bool false)], args := [d1, d2] }
  | _ => none }
def MopChainsWrongFalsely : Prop := mopChainsRow.holds Tryz.pinned (OpenSpec.ofChange mopChainsWrong)

/-- 'understudylaw9.MopSets': WHATEVER THE INPUT: true; the input reads as it did. -/
def mopSetsSpec : ChangeSpec := { name := "mopSets", fn := fun _ => fun
  | [d1, d2, d3] => { results := [.lit (.bool true)], args := [d1, d2, d3] }
  | _ => none }
def mopSetsRow : OpenClaim := { program := "ytkadkmnolkkhgaagreatdoor", sum := "498cd97a5ba01747112483b0cb3a10cbcc953d9ab7a2eedc745ba3ccfa665abc", func := "understudy/understudylaw9.MopSets", spec := "mopSets", unfollowed := true, recurses := true, named := ["internal/strconv.uint64pow10", "math/bits.deBruijn32tab", "math/bits.deBruijn64tab", "strconv.ErrSyntax", "strconv.ErrRange"], plainKeys := false, apart := false, laid := [("math/bits.deBruijn32tab", laid_math_bits_deBruijn32tab), ("math/bits.deBruijn64tab", laid_math_bits_deBruijn64tab), ("internal/strconv.uint64pow10", laid_internal_strconv_uint64pow10), ("strconv.ErrRange", laid_strconv_ErrRange), ("strconv.ErrSyntax", laid_strconv_ErrSyntax)] }
def MopSetsSaid : Prop := mopSetsRow.holds Tryz.pinned (OpenSpec.ofChange mopSetsSpec)

/-- ITS FALSE NEIGHBOUR: 'it returns false'. Refute it at one input. -/
def mopSetsWrong : ChangeSpec := { name := "mopSets", fn := fun _ => fun
  | [d1, d2, d3] => { results := [.lit (.bool false)], args := [d1, d2, d3] }
  | _ => none }
def MopSetsWrongFalsely : Prop := mopSetsRow.holds Tryz.pinned (OpenSpec.ofChange mopSetsWrong)

/-- 'understudylaw9.MopBound': WHATEVER THE INPUT: true; the input reads as it did. -/
def mopBoundSpec : ChangeSpec := { name := "mopBound", fn := fun _ => fun
  | [d1, d2, d3, d4, d5] => { results := [.lit (.bool true)], args := [d1, d2, d3, d4, d5] }
  | _ => none }
def mopBoundRow : OpenClaim := { program := "ytkadkmnolkkhgaagreatdoor", sum := "498cd97a5ba01747112483b0cb3a10cbcc953d9ab7a2eedc745ba3ccfa665abc", func := "understudy/understudylaw9.MopBound", spec := "mopBound", unfollowed := true, recurses := true, named := ["internal/strconv.uint64pow10", "math/bits.deBruijn32tab", "math/bits.deBruijn64tab", "strconv.ErrSyntax", "strconv.ErrRange"], plainKeys := false, apart := false, laid := [("math/bits.deBruijn32tab", laid_math_bits_deBruijn32tab), ("math/bits.deBruijn64tab", laid_math_bits_deBruijn64tab), ("internal/strconv.uint64pow10", laid_internal_strconv_uint64pow10), ("strconv.ErrRange", laid_strconv_ErrRange), ("strconv.ErrSyntax", laid_strconv_ErrSyntax)] }
def MopBoundSaid : Prop := mopBoundRow.holds Tryz.pinned (OpenSpec.ofChange mopBoundSpec)

/-- ITS FALSE NEIGHBOUR: 'it returns false'. Refute it at one input. -/
def mopBoundWrong : ChangeSpec := { name := "mopBound", fn := fun _ => fun
  | [d1, d2, d3, d4, d5] => { results := [.lit (.bool false)], args := [d1, d2, d3, d4, d5] }
  | _ => none }
def MopBoundWrongFalsely : Prop := mopBoundRow.holds Tryz.pinned (OpenSpec.ofChange mopBoundWrong)

/-- 'understudylaw9.MopLengths': WHATEVER THE INPUT: true; the input reads as it did. -/
def mopLengthsSpec : ChangeSpec := { name := "mopLengths", fn := fun _ => fun
  | [d] => { results := [.lit (.bool true)], args := [d] }
  | _ => none }
def mopLengthsRow : OpenClaim := { program := "ytkadkmnolkkhgaagreatdoor", sum := "498cd97a5ba01747112483b0cb3a10cbcc953d9ab7a2eedc745ba3ccfa665abc", func := "understudy/understudylaw9.MopLengths", spec := "mopLengths", unfollowed := true, recurses := true, named := ["internal/strconv.uint64pow10", "math/bits.deBruijn32tab", "math/bits.deBruijn64tab", "strconv.ErrSyntax", "strconv.ErrRange"], plainKeys := false, apart := false, laid := [("math/bits.deBruijn32tab", laid_math_bits_deBruijn32tab), ("math/bits.deBruijn64tab", laid_math_bits_deBruijn64tab), ("internal/strconv.uint64pow10", laid_internal_strconv_uint64pow10), ("strconv.ErrRange", laid_strconv_ErrRange), ("strconv.ErrSyntax", laid_strconv_ErrSyntax)] }
def MopLengthsSaid : Prop := mopLengthsRow.holds Tryz.pinned (OpenSpec.ofChange mopLengthsSpec)

/-- ITS FALSE NEIGHBOUR: 'it returns false'. Refute it at one input. -/
def mopLengthsWrong : ChangeSpec := { name := "mopLengths", fn := fun _ => fun
  | [d] => { results := [.lit (.bool false)], args := [d] }
  | _ => none }
def MopLengthsWrongFalsely : Prop := mopLengthsRow.holds Tryz.pinned (OpenSpec.ofChange mopLengthsWrong)

/-- 'understudylaw10.ReflectGets': WHATEVER THE INPUT: true; the input reads as it did. -/
def reflectGetsSpec : ChangeSpec := { name := "reflectGets", fn := fun _ => fun
  | [d1, d2] => { results := [.lit (.bool true)], args := [d1, d2] }
  | _ => none }
def reflectGetsRow : OpenClaim := { program := "ytkadkmnolkkhgaagreatdoor", sum := "498cd97a5ba01747112483b0cb3a10cbcc953d9ab7a2eedc745ba3ccfa665abc", func := "understudy/understudylaw10.ReflectGets", spec := "reflectGets", unfollowed := true, recurses := true, named := ["internal/strconv.uint64pow10", "math/bits.deBruijn32tab", "math/bits.deBruijn64tab", "strconv.ErrSyntax", "strconv.ErrRange"], plainKeys := false, apart := false, laid := [("math/bits.deBruijn32tab", laid_math_bits_deBruijn32tab), ("math/bits.deBruijn64tab", laid_math_bits_deBruijn64tab), ("internal/strconv.uint64pow10", laid_internal_strconv_uint64pow10), ("strconv.ErrRange", laid_strconv_ErrRange), ("strconv.ErrSyntax", laid_strconv_ErrSyntax)] }
def ReflectGetsSaid : Prop := reflectGetsRow.holds Tryz.pinned (OpenSpec.ofChange reflectGetsSpec)

/-- ITS FALSE NEIGHBOUR: 'it returns false'. Refute it at one input. -/
def reflectGetsWrong : ChangeSpec := { name := "reflectGets", fn := fun _ => fun
  | [d1, d2] => { results := [.lit (.bool false)], args := [d1, d2] }
  | _ => none }
def ReflectGetsWrongFalsely : Prop := reflectGetsRow.holds Tryz.pinned (OpenSpec.ofChange reflectGetsWrong)

/-- 'understudylaw10.ReflectDefines': WHATEVER THE INPUT: true; the input reads as it did. -/
def reflectDefinesSpec : ChangeSpec := { name := "reflectDefines", fn := fun _ => fun
  | [d1, d2] => { results := [.lit (.bool true)], args := [d1, d2] }
  | _ => none }
def reflectDefinesRow : OpenClaim := { program := "ytkadkmnolkkhgaagreatdoor", sum := "498cd97a5ba01747112483b0cb3a10cbcc953d9ab7a2eedc745ba3ccfa665abc", func := "understudy/understudylaw10.ReflectDefines", spec := "reflectDefines", unfollowed := true, recurses := true, named := ["internal/strconv.uint64pow10", "math/bits.deBruijn32tab", "math/bits.deBruijn64tab", "strconv.ErrSyntax", "strconv.ErrRange"], plainKeys := false, apart := false, laid := [("math/bits.deBruijn32tab", laid_math_bits_deBruijn32tab), ("math/bits.deBruijn64tab", laid_math_bits_deBruijn64tab), ("internal/strconv.uint64pow10", laid_internal_strconv_uint64pow10), ("strconv.ErrRange", laid_strconv_ErrRange), ("strconv.ErrSyntax", laid_strconv_ErrSyntax)] }
def ReflectDefinesSaid : Prop := reflectDefinesRow.holds Tryz.pinned (OpenSpec.ofChange reflectDefinesSpec)

/-- ITS FALSE NEIGHBOUR: 'it returns false'. Refute it at one input. -/
def reflectDefinesWrong : ChangeSpec := { name := "reflectDefines", fn := fun _ => fun
  | [d1, d2] => { results := [.lit (.bool false)], args := [d1, d2] }
  | _ => none }
def ReflectDefinesWrongFalsely : Prop := reflectDefinesRow.holds Tryz.pinned (OpenSpec.ofChange reflectDefinesWrong)

/-- 'understudylaw10.ReflectKeys': WHATEVER THE INPUT: true; the input reads as it did. -/
def reflectKeysSpec : ChangeSpec := { name := "reflectKeys", fn := fun _ => fun
  | [d] => { results := [.lit (.bool true)], args := [d] }
  | _ => none }
def reflectKeysRow : OpenClaim := { program := "ytkadkmnolkkhgaagreatdoor", sum := "498cd97a5ba01747112483b0cb3a10cbcc953d9ab7a2eedc745ba3ccfa665abc", func := "understudy/understudylaw10.ReflectKeys", spec := "reflectKeys", unfollowed := true, recurses := true, named := ["internal/strconv.uint64pow10", "math/bits.deBruijn32tab", "math/bits.deBruijn64tab", "strconv.ErrSyntax", "strconv.ErrRange"], plainKeys := false, apart := false, laid := [("math/bits.deBruijn32tab", laid_math_bits_deBruijn32tab), ("math/bits.deBruijn64tab", laid_math_bits_deBruijn64tab), ("internal/strconv.uint64pow10", laid_internal_strconv_uint64pow10), ("strconv.ErrRange", laid_strconv_ErrRange), ("strconv.ErrSyntax", laid_strconv_ErrSyntax)] }
def ReflectKeysSaid : Prop := reflectKeysRow.holds Tryz.pinned (OpenSpec.ofChange reflectKeysSpec)

/-- ITS FALSE NEIGHBOUR: 'it returns false'. Refute it at one input. -/
def reflectKeysWrong : ChangeSpec := { name := "reflectKeys", fn := fun _ => fun
  | [d] => { results := [.lit (.bool false)], args := [d] }
  | _ => none }
def ReflectKeysWrongFalsely : Prop := reflectKeysRow.holds Tryz.pinned (OpenSpec.ofChange reflectKeysWrong)

/-- 'understudylaw11.IntegrityHolds': WHATEVER THE INPUT: true; the input reads as it did. -/
def integrityHoldsSpec : ChangeSpec := { name := "integrityHolds", fn := fun _ => fun
  | [d1, d2, d3] => { results := [.lit (.bool true)], args := [d1, d2, d3] }
  | _ => none }
def integrityHoldsRow : OpenClaim := { program := "ytkadkmnolkkhgaagreatdoor", sum := "498cd97a5ba01747112483b0cb3a10cbcc953d9ab7a2eedc745ba3ccfa665abc", func := "understudy/understudylaw11.IntegrityHolds", spec := "integrityHolds", unfollowed := true, recurses := true, named := ["internal/strconv.uint64pow10", "math/bits.deBruijn32tab", "math/bits.deBruijn64tab", "strconv.ErrSyntax", "strconv.ErrRange"], plainKeys := false, apart := false, laid := [("math/bits.deBruijn32tab", laid_math_bits_deBruijn32tab), ("math/bits.deBruijn64tab", laid_math_bits_deBruijn64tab), ("internal/strconv.uint64pow10", laid_internal_strconv_uint64pow10), ("strconv.ErrRange", laid_strconv_ErrRange), ("strconv.ErrSyntax", laid_strconv_ErrSyntax)] }
def IntegrityHoldsSaid : Prop := integrityHoldsRow.holds Tryz.pinned (OpenSpec.ofChange integrityHoldsSpec)

/-- ITS FALSE NEIGHBOUR: 'it returns false'. Refute it at one input. -/
def integrityHoldsWrong : ChangeSpec := { name := "integrityHolds", fn := fun _ => fun
  | [d1, d2, d3] => { results := [.lit (.bool false)], args := [d1, d2, d3] }
  | _ => none }
def IntegrityHoldsWrongFalsely : Prop := integrityHoldsRow.holds Tryz.pinned (OpenSpec.ofChange integrityHoldsWrong)

/-- 'understudylaw11.IntegrityMore': WHATEVER THE INPUT: true; the input reads as it did. -/
def integrityMoreSpec : ChangeSpec := { name := "integrityMore", fn := fun _ => fun
  | [d1, d2] => { results := [.lit (.bool true)], args := [d1, d2] }
  | _ => none }
def integrityMoreRow : OpenClaim := { program := "ytkadkmnolkkhgaagreatdoor", sum := "498cd97a5ba01747112483b0cb3a10cbcc953d9ab7a2eedc745ba3ccfa665abc", func := "understudy/understudylaw11.IntegrityMore", spec := "integrityMore", unfollowed := true, recurses := true, named := ["internal/strconv.uint64pow10", "math/bits.deBruijn32tab", "math/bits.deBruijn64tab", "strconv.ErrSyntax", "strconv.ErrRange"], plainKeys := false, apart := false, laid := [("math/bits.deBruijn32tab", laid_math_bits_deBruijn32tab), ("math/bits.deBruijn64tab", laid_math_bits_deBruijn64tab), ("internal/strconv.uint64pow10", laid_internal_strconv_uint64pow10), ("strconv.ErrRange", laid_strconv_ErrRange), ("strconv.ErrSyntax", laid_strconv_ErrSyntax)] }
def IntegrityMoreSaid : Prop := integrityMoreRow.holds Tryz.pinned (OpenSpec.ofChange integrityMoreSpec)

/-- ITS FALSE NEIGHBOUR: 'it returns false'. Refute it at one input. -/
def integrityMoreWrong : ChangeSpec := { name := "integrityMore", fn := fun _ => fun
  | [d1, d2] => { results := [.lit (.bool false)], args := [d1, d2] }
  | _ => none }
def IntegrityMoreWrongFalsely : Prop := integrityMoreRow.holds Tryz.pinned (OpenSpec.ofChange integrityMoreWrong)

/- THE SECOND FORM. 'bulk': how many values and letters a reading holds, each counted each time it is reached (what is shared counts as often as it is met; a slice's spare places count too). A statement '..UptoSaid' is the law's where the arguments, and the package variables that the reading takes, are together of bulk at most 1048576: NARROWER than '..Said'. Prove '..Said' where nothing that the law and all that it calls make is longer than what came in: it says more and counts as full. Else prove '..UptoSaid'. A law counts once. -/
mutual
def uptoBulk {H : Type} : DataW H → Nat
  | .lit (.string bytes) => bytes.length + 1
  | .lit _ => 1
  | .nil => 1
  | .ptr d => uptoBulk d + 1
  | .slice elems spare => uptoBulkAll elems + uptoBulkAll spare + 1
  | .agg parts => uptoBulkAll parts + 1
  | .iface _ d => uptoBulk d + 1
  | .map entries => uptoBulkEntries entries + 1
  | .held _ => 1
def uptoBulkAll {H : Type} : List (DataW H) → Nat
  | [] => 0
  | d :: r => uptoBulk d + uptoBulkAll r
def uptoBulkEntries {H : Type} : List (Lit × DataW H) → Nat
  | [] => 0
  | x :: r => uptoBulkEntry x + uptoBulkEntries r
def uptoBulkEntry {H : Type} : Lit × DataW H → Nat
  | (.string bytes, d) => bytes.length + uptoBulk d + 1
  | (_, d) => uptoBulk d + 1
 end
def uptoSmall : (H : Type) → List (DataW H) → Bool := fun _ ds => decide (uptoBulkAll ds ≤ 1048576)
def OpenSpec.upto (s : _root_.Go.ChangeSpec) : _root_.Go.OpenSpec := { _root_.Go.OpenSpec.ofChange s with cond := some uptoSmall }

/-- 'understudylaw9.MopArrays', WHERE WHAT IT READS IS OF BULK AT MOST 1048576: true; the input reads as it did. -/
def mopArraysUptoRow : OpenClaim := { program := "ytkadkmnolkkhgaagreatdoor", sum := "498cd97a5ba01747112483b0cb3a10cbcc953d9ab7a2eedc745ba3ccfa665abc", func := "understudy/understudylaw9.MopArrays", spec := "mopArrays", unfollowed := true, recurses := true, named := ["internal/strconv.uint64pow10", "math/bits.deBruijn32tab", "math/bits.deBruijn64tab", "strconv.ErrSyntax", "strconv.ErrRange"], plainKeys := false, apart := false, laid := [("math/bits.deBruijn32tab", laid_math_bits_deBruijn32tab), ("math/bits.deBruijn64tab", laid_math_bits_deBruijn64tab), ("internal/strconv.uint64pow10", laid_internal_strconv_uint64pow10), ("strconv.ErrRange", laid_strconv_ErrRange), ("strconv.ErrSyntax", laid_strconv_ErrSyntax)], narrowed := true }
def MopArraysUptoSaid : Prop := mopArraysUptoRow.holds Tryz.pinned (OpenSpec.upto mopArraysSpec)

/-- 'understudylaw9.MopChains', WHERE WHAT IT READS IS OF BULK AT MOST 1048576: true; the input reads as it did. -/
def mopChainsUptoRow : OpenClaim := { program := "ytkadkmnolkkhgaagreatdoor", sum := "498cd97a5ba01747112483b0cb3a10cbcc953d9ab7a2eedc745ba3ccfa665abc", func := "understudy/understudylaw9.MopChains", spec := "mopChains", unfollowed := true, recurses := true, named := ["internal/strconv.uint64pow10", "math/bits.deBruijn32tab", "math/bits.deBruijn64tab", "strconv.ErrSyntax", "strconv.ErrRange"], plainKeys := false, apart := false, laid := [("math/bits.deBruijn32tab", laid_math_bits_deBruijn32tab), ("math/bits.deBruijn64tab", laid_math_bits_deBruijn64tab), ("internal/strconv.uint64pow10", laid_internal_strconv_uint64pow10), ("strconv.ErrRange", laid_strconv_ErrRange), ("strconv.ErrSyntax", laid_strconv_ErrSyntax)], narrowed := true }
def MopChainsUptoSaid : Prop := mopChainsUptoRow.holds Tryz.pinned (OpenSpec.upto mopChainsSpec)

/-- 'understudylaw9.MopSets', WHERE WHAT IT READS IS OF BULK AT MOST 1048576: true; the input reads as it did. -/
def mopSetsUptoRow : OpenClaim := { program := "ytkadkmnolkkhgaagreatdoor", sum := "498cd97a5ba01747112483b0cb3a10cbcc953d9ab7a2eedc745ba3ccfa665abc", func := "understudy/understudylaw9.MopSets", spec := "mopSets", unfollowed := true, recurses := true, named := ["internal/strconv.uint64pow10", "math/bits.deBruijn32tab", "math/bits.deBruijn64tab", "strconv.ErrSyntax", "strconv.ErrRange"], plainKeys := false, apart := false, laid := [("math/bits.deBruijn32tab", laid_math_bits_deBruijn32tab), ("math/bits.deBruijn64tab", laid_math_bits_deBruijn64tab), ("internal/strconv.uint64pow10", laid_internal_strconv_uint64pow10), ("strconv.ErrRange", laid_strconv_ErrRange), ("strconv.ErrSyntax", laid_strconv_ErrSyntax)], narrowed := true }
def MopSetsUptoSaid : Prop := mopSetsUptoRow.holds Tryz.pinned (OpenSpec.upto mopSetsSpec)

/-- 'understudylaw9.MopBound', WHERE WHAT IT READS IS OF BULK AT MOST 1048576: true; the input reads as it did. -/
def mopBoundUptoRow : OpenClaim := { program := "ytkadkmnolkkhgaagreatdoor", sum := "498cd97a5ba01747112483b0cb3a10cbcc953d9ab7a2eedc745ba3ccfa665abc", func := "understudy/understudylaw9.MopBound", spec := "mopBound", unfollowed := true, recurses := true, named := ["internal/strconv.uint64pow10", "math/bits.deBruijn32tab", "math/bits.deBruijn64tab", "strconv.ErrSyntax", "strconv.ErrRange"], plainKeys := false, apart := false, laid := [("math/bits.deBruijn32tab", laid_math_bits_deBruijn32tab), ("math/bits.deBruijn64tab", laid_math_bits_deBruijn64tab), ("internal/strconv.uint64pow10", laid_internal_strconv_uint64pow10), ("strconv.ErrRange", laid_strconv_ErrRange), ("strconv.ErrSyntax", laid_strconv_ErrSyntax)], narrowed := true }
def MopBoundUptoSaid : Prop := mopBoundUptoRow.holds Tryz.pinned (OpenSpec.upto mopBoundSpec)

/-- 'understudylaw9.MopLengths', WHERE WHAT IT READS IS OF BULK AT MOST 1048576: true; the input reads as it did. -/
def mopLengthsUptoRow : OpenClaim := { program := "ytkadkmnolkkhgaagreatdoor", sum := "498cd97a5ba01747112483b0cb3a10cbcc953d9ab7a2eedc745ba3ccfa665abc", func := "understudy/understudylaw9.MopLengths", spec := "mopLengths", unfollowed := true, recurses := true, named := ["internal/strconv.uint64pow10", "math/bits.deBruijn32tab", "math/bits.deBruijn64tab", "strconv.ErrSyntax", "strconv.ErrRange"], plainKeys := false, apart := false, laid := [("math/bits.deBruijn32tab", laid_math_bits_deBruijn32tab), ("math/bits.deBruijn64tab", laid_math_bits_deBruijn64tab), ("internal/strconv.uint64pow10", laid_internal_strconv_uint64pow10), ("strconv.ErrRange", laid_strconv_ErrRange), ("strconv.ErrSyntax", laid_strconv_ErrSyntax)], narrowed := true }
def MopLengthsUptoSaid : Prop := mopLengthsUptoRow.holds Tryz.pinned (OpenSpec.upto mopLengthsSpec)

/-- 'understudylaw10.ReflectGets', WHERE WHAT IT READS IS OF BULK AT MOST 1048576: true; the input reads as it did. -/
def reflectGetsUptoRow : OpenClaim := { program := "ytkadkmnolkkhgaagreatdoor", sum := "498cd97a5ba01747112483b0cb3a10cbcc953d9ab7a2eedc745ba3ccfa665abc", func := "understudy/understudylaw10.ReflectGets", spec := "reflectGets", unfollowed := true, recurses := true, named := ["internal/strconv.uint64pow10", "math/bits.deBruijn32tab", "math/bits.deBruijn64tab", "strconv.ErrSyntax", "strconv.ErrRange"], plainKeys := false, apart := false, laid := [("math/bits.deBruijn32tab", laid_math_bits_deBruijn32tab), ("math/bits.deBruijn64tab", laid_math_bits_deBruijn64tab), ("internal/strconv.uint64pow10", laid_internal_strconv_uint64pow10), ("strconv.ErrRange", laid_strconv_ErrRange), ("strconv.ErrSyntax", laid_strconv_ErrSyntax)], narrowed := true }
def ReflectGetsUptoSaid : Prop := reflectGetsUptoRow.holds Tryz.pinned (OpenSpec.upto reflectGetsSpec)

/-- 'understudylaw10.ReflectDefines', WHERE WHAT IT READS IS OF BULK AT MOST 1048576: true; the input reads as it did. -/
def reflectDefinesUptoRow : OpenClaim := { program := "ytkadkmnolkkhgaagreatdoor", sum := "498cd97a5ba01747112483b0cb3a10cbcc953d9ab7a2eedc745ba3ccfa665abc", func := "understudy/understudylaw10.ReflectDefines", spec := "reflectDefines", unfollowed := true, recurses := true, named := ["internal/strconv.uint64pow10", "math/bits.deBruijn32tab", "math/bits.deBruijn64tab", "strconv.ErrSyntax", "strconv.ErrRange"], plainKeys := false, apart := false, laid := [("math/bits.deBruijn32tab", laid_math_bits_deBruijn32tab), ("math/bits.deBruijn64tab", laid_math_bits_deBruijn64tab), ("internal/strconv.uint64pow10", laid_internal_strconv_uint64pow10), ("strconv.ErrRange", laid_strconv_ErrRange), ("strconv.ErrSyntax", laid_strconv_ErrSyntax)], narrowed := true }
def ReflectDefinesUptoSaid : Prop := reflectDefinesUptoRow.holds Tryz.pinned (OpenSpec.upto reflectDefinesSpec)

/-- 'understudylaw10.ReflectKeys', WHERE WHAT IT READS IS OF BULK AT MOST 1048576: true; the input reads as it did. -/
def reflectKeysUptoRow : OpenClaim := { program := "ytkadkmnolkkhgaagreatdoor", sum := "498cd97a5ba01747112483b0cb3a10cbcc953d9ab7a2eedc745ba3ccfa665abc", func := "understudy/understudylaw10.ReflectKeys", spec := "reflectKeys", unfollowed := true, recurses := true, named := ["internal/strconv.uint64pow10", "math/bits.deBruijn32tab", "math/bits.deBruijn64tab", "strconv.ErrSyntax", "strconv.ErrRange"], plainKeys := false, apart := false, laid := [("math/bits.deBruijn32tab", laid_math_bits_deBruijn32tab), ("math/bits.deBruijn64tab", laid_math_bits_deBruijn64tab), ("internal/strconv.uint64pow10", laid_internal_strconv_uint64pow10), ("strconv.ErrRange", laid_strconv_ErrRange), ("strconv.ErrSyntax", laid_strconv_ErrSyntax)], narrowed := true }
def ReflectKeysUptoSaid : Prop := reflectKeysUptoRow.holds Tryz.pinned (OpenSpec.upto reflectKeysSpec)

/-- 'understudylaw11.IntegrityHolds', WHERE WHAT IT READS IS OF BULK AT MOST 1048576: true; the input reads as it did. -/
def integrityHoldsUptoRow : OpenClaim := { program := "ytkadkmnolkkhgaagreatdoor", sum := "498cd97a5ba01747112483b0cb3a10cbcc953d9ab7a2eedc745ba3ccfa665abc", func := "understudy/understudylaw11.IntegrityHolds", spec := "integrityHolds", unfollowed := true, recurses := true, named := ["internal/strconv.uint64pow10", "math/bits.deBruijn32tab", "math/bits.deBruijn64tab", "strconv.ErrSyntax", "strconv.ErrRange"], plainKeys := false, apart := false, laid := [("math/bits.deBruijn32tab", laid_math_bits_deBruijn32tab), ("math/bits.deBruijn64tab", laid_math_bits_deBruijn64tab), ("internal/strconv.uint64pow10", laid_internal_strconv_uint64pow10), ("strconv.ErrRange", laid_strconv_ErrRange), ("strconv.ErrSyntax", laid_strconv_ErrSyntax)], narrowed := true }
def IntegrityHoldsUptoSaid : Prop := integrityHoldsUptoRow.holds Tryz.pinned (OpenSpec.upto integrityHoldsSpec)

/-- 'understudylaw11.IntegrityMore', WHERE WHAT IT READS IS OF BULK AT MOST 1048576: true; the input reads as it did. -/
def integrityMoreUptoRow : OpenClaim := { program := "ytkadkmnolkkhgaagreatdoor", sum := "498cd97a5ba01747112483b0cb3a10cbcc953d9ab7a2eedc745ba3ccfa665abc", func := "understudy/understudylaw11.IntegrityMore", spec := "integrityMore", unfollowed := true, recurses := true, named := ["internal/strconv.uint64pow10", "math/bits.deBruijn32tab", "math/bits.deBruijn64tab", "strconv.ErrSyntax", "strconv.ErrRange"], plainKeys := false, apart := false, laid := [("math/bits.deBruijn32tab", laid_math_bits_deBruijn32tab), ("math/bits.deBruijn64tab", laid_math_bits_deBruijn64tab), ("internal/strconv.uint64pow10", laid_internal_strconv_uint64pow10), ("strconv.ErrRange", laid_strconv_ErrRange), ("strconv.ErrSyntax", laid_strconv_ErrSyntax)], narrowed := true }
def IntegrityMoreUptoSaid : Prop := integrityMoreUptoRow.holds Tryz.pinned (OpenSpec.upto integrityMoreSpec)

end Rows
end Go.Proofs.YtkadkmnolkkhgaaGreatDoor
