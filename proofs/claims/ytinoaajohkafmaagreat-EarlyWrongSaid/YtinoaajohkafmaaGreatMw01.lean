/-
  Texts of this seat in build order: UnRef, UnUnits, LxLead, LxSkip, LxGap, LxRd, NmSmall, NmText, LxSign, LxHex, LxEsc, LxWord, RgInv.
-/
import Derived.Test.YtinoaajohkafmaaGreatMw00
import Derived.Lib.CutLaws
import Derived.Test.YtinoaajohkafmaaGreatProg
import Derived.WalkKit
import Derived.WalkSpells
import Derived.WalkLawsBesides
import Derived.RegionTactic
import Derived.ChangeAlike
import Derived.Deep.QuietTactic
import Derived.BigQuiet
import Derived.Lib.Hide
import Derived.KernelRfl
import Derived.Lib.AppendIntMem
import Derived.Below
import Derived.Deep.MidRow
import Derived.Lib.ConvBytes
import Derived.Orders
/-
  understudyref1.points, RightText and Units: what they give.
-/
namespace Go.Proofs.YtinoaajohkafmaaGreat.Uni
open Go.RowKit
set_option linter.unusedVariables false
end Go.Proofs.YtinoaajohkafmaaGreat.Uni

/-
  understudyref1.RightText and Units.
-/
namespace Go.Proofs.YtinoaajohkafmaaGreat.Uni
open Go.RowKit
set_option linter.unusedVariables false
end Go.Proofs.YtinoaajohkafmaaGreat.Uni

/-
  lex.leading.
-/
namespace Go.Proofs.YtinoaajohkafmaaGreat.Lx
open Go.RowKit Go.Proofs.YtinoaajohkafmaaGreat.Uni
set_option linter.unusedVariables false
set_option linter.unusedSimpArgs false
end Go.Proofs.YtinoaajohkafmaaGreat.Lx

/-
  White space and comments: what is skipped, as a relation; plain mathematics.
-/
namespace Go.Proofs.YtinoaajohkafmaaGreat.Lx
set_option linter.unusedVariables false
set_option linter.unusedSimpArgs false
end Go.Proofs.YtinoaajohkafmaaGreat.Lx

/-
  lex.gap; reader.rest, reader.skip.
-/
namespace Go.Proofs.YtinoaajohkafmaaGreat.Lx
open Go.RowKit Go.Proofs.YtinoaajohkafmaaGreat.Uni
set_option linter.unusedVariables false
set_option linter.unusedSimpArgs false
def bs (l : By) : ByteArray := ⟨l.toArray⟩
theorem bs_size (l : By) : (bs l).size = l.length := by simp [bs, ByteArray.size]
theorem bs_list (l : By) : (bs l).data.toList = l := by simp [bs]
theorem lsz (s : ByteArray) : s.data.toList.length = s.size := by simp
end Go.Proofs.YtinoaajohkafmaaGreat.Lx

/-
  The reader: its block, reader.rest, reader.skip.
-/
namespace Go.Proofs.YtinoaajohkafmaaGreat.Lx
open Go.RowKit Go.Proofs.YtinoaajohkafmaaGreat.Uni
set_option linter.unusedVariables false
set_option linter.unusedSimpArgs false
def GB (g : Nat) (w w' : World) : Prop := w.grownBy w' (some g)
theorem GB.refl (g : Nat) (w : World) : GB g w w := ⟨rfl, rfl, rfl, Nat.le_refl _, fun _ _ _ => rfl⟩
theorem GB.trans {g : Nat} {a b c : World} (h : GB g a b) (k : GB g b c) : GB g a c := ⟨k.os.trans h.os, k.tape.trans h.tape, k.output.trans h.output, Nat.le_trans h.size k.size, fun i hi hn => (k.block i (Nat.lt_of_lt_of_le hi h.size) hn).trans (h.block i hi hn)⟩
theorem GB.of {g : Nat} {w w' : World} (h : Below w.heap.size w w') : GB g w w' := ⟨h.os, h.tape, h.output, h.size, fun k hk _ => h.block k hk⟩
theorem GB.set {g : Nat} (w : World) (o : Nat) (u : Value) : GB g w (w.setCell ⟨g, o, none⟩ u) := ⟨rfl, rfl, rfl, by simp [World.setCell], fun k _ hk => Below.heap_setCell _ _ _ _ (fun e => hk (by simp [e]))⟩
theorem GB.drew {g : Nat} {w w' : World} (h : GB g w w') (n : Nat) : GB g w (w'.drewN n) := h.trans (GB.of (below_drewN (Below.refl _ _) n))
theorem GB.below {g B : Nat} {w0 w w' : World} (h : Below B w0 w) (k : GB g w w') (hB : B ≤ w.heap.size) (hg : B ≤ g) : Below B w0 w' := h.grown k hB (fun k hk => by cases hk; exact hg)
end Go.Proofs.YtinoaajohkafmaaGreat.Lx

/-
  The small functions of package numbers and their counterparts: what each call gives.
-/
namespace Go.Proofs.YtinoaajohkafmaaGreat.Nums
open Go.RowKit
set_option linter.unusedVariables false
theorem safe_any (n : Int) (w : World) :
    Calls Tryz.prog 90 #[.int .i64 n] w fun e w' => e = .returned (.bool (sf n)) ∧ w = w' := by
  by_cases h : -9007199254740991 ≤ n
  · by_cases h2 : n ≤ 9007199254740991
    · rw [sf_mk h h2]
      go_enter Tryz.func90, Tryz.ntmps90
      go_wp2
      go_ret
      exact ⟨rfl, rfl⟩
    · rw [sf_no (by omega)]
      go_enter Tryz.func90, Tryz.ntmps90
      go_wp2
      go_ret
      exact ⟨rfl, rfl⟩
  · rw [sf_no (by omega)]
    go_enter Tryz.func90, Tryz.ntmps90
    go_wp2
    go_ret
    exact ⟨rfl, rfl⟩
end Go.Proofs.YtinoaajohkafmaaGreat.Nums

/-
  numbers.Text and numbers.Read: what each call gives.
-/
namespace Go.Proofs.YtinoaajohkafmaaGreat.Nums
open Go.RowKit
set_option linter.unusedVariables false
end Go.Proofs.YtinoaajohkafmaaGreat.Nums

/-
  lex.sign; what the listed variables give, kept.
-/
namespace Go.Proofs.YtinoaajohkafmaaGreat.Lx
open Go.RowKit Go.Proofs.YtinoaajohkafmaaGreat.Uni
set_option linter.unusedVariables false
set_option linter.unusedSimpArgs false
def sgL : List Value := signs.map fun s => Value.string (bs s)
def sgA : Array Value := sgL.toArray
attribute [local irreducible] sgA
end Go.Proofs.YtinoaajohkafmaaGreat.Lx

/-
  strconv.ParseUint of four bytes in base 16.
-/
namespace Go.Proofs.YtinoaajohkafmaaGreat.Lx
open Go.RowKit Go.Proofs.YtinoaajohkafmaaGreat.Uni
set_option linter.unusedVariables false
set_option linter.unusedSimpArgs false
def HexTo (s : ByteArray) (k n : Nat) : Prop := k ≤ s.size ∧ n < 16 ^ k ∧ hexF 0 s.data.toList = hexF n (s.data.toList.drop k)
theorem HexTo.done {s : ByteArray} {k n : Nat} (h : HexTo s k n) (hk : k = s.size) : hexF 0 s.data.toList = some n := by
  obtain ⟨h1, h2, h3⟩ := h
  rw [h3, List.drop_eq_nil_of_le (by rw [lsz]; omega)]
  rfl
end Go.Proofs.YtinoaajohkafmaaGreat.Lx

/-
  strconv.ParseUint's door; lex.escape.
-/
namespace Go.Proofs.YtinoaajohkafmaaGreat.Lx
open Go.RowKit Go.Proofs.YtinoaajohkafmaaGreat.Uni
set_option linter.unusedVariables false
set_option linter.unusedSimpArgs false
end Go.Proofs.YtinoaajohkafmaaGreat.Lx

/-
  lex.Word.
-/
namespace Go.Proofs.YtinoaajohkafmaaGreat.Lx
open Go.RowKit
set_option linter.unusedVariables false
set_option linter.unusedSimpArgs false
theorem of_list {s : ByteArray} {l : By} (h : s.toList = l) : s = ⟨l.toArray⟩ := by
  apply ByteArray.ext
  apply Array.toList_inj.1
  rw [ByteArray.toList_eq] at h
  rw [h]
set_option maxRecDepth 100000 in
theorem word_0 (w : World) : Calls Tryz.prog 46 #[.string ⟨#[98, 114, 101, 97, 107]⟩] w fun e w' => e = .returned (.int .i64 1) ∧ w = w' := by
  go_enter Tryz.func46, Tryz.ntmps46
  go_wp2
  go_ret
  exact ⟨rfl, rfl⟩
set_option maxRecDepth 100000 in
theorem word_1 (w : World) : Calls Tryz.prog 46 #[.string ⟨#[99, 97, 116, 99, 104]⟩] w fun e w' => e = .returned (.int .i64 1) ∧ w = w' := by
  go_enter Tryz.func46, Tryz.ntmps46
  go_wp2
  go_ret
  exact ⟨rfl, rfl⟩
set_option maxRecDepth 100000 in
theorem word_2 (w : World) : Calls Tryz.prog 46 #[.string ⟨#[99, 111, 110, 115, 116]⟩] w fun e w' => e = .returned (.int .i64 1) ∧ w = w' := by
  go_enter Tryz.func46, Tryz.ntmps46
  go_wp2
  go_ret
  exact ⟨rfl, rfl⟩
set_option maxRecDepth 100000 in
theorem word_3 (w : World) : Calls Tryz.prog 46 #[.string ⟨#[99, 111, 110, 116, 105, 110, 117, 101]⟩] w fun e w' => e = .returned (.int .i64 1) ∧ w = w' := by
  go_enter Tryz.func46, Tryz.ntmps46
  go_wp2
  go_ret
  exact ⟨rfl, rfl⟩
set_option maxRecDepth 100000 in
theorem word_4 (w : World) : Calls Tryz.prog 46 #[.string ⟨#[100, 101, 108, 101, 116, 101]⟩] w fun e w' => e = .returned (.int .i64 1) ∧ w = w' := by
  go_enter Tryz.func46, Tryz.ntmps46
  go_wp2
  go_ret
  exact ⟨rfl, rfl⟩
set_option maxRecDepth 100000 in
theorem word_5 (w : World) : Calls Tryz.prog 46 #[.string ⟨#[101, 108, 115, 101]⟩] w fun e w' => e = .returned (.int .i64 1) ∧ w = w' := by
  go_enter Tryz.func46, Tryz.ntmps46
  go_wp2
  go_ret
  exact ⟨rfl, rfl⟩
set_option maxRecDepth 100000 in
theorem word_6 (w : World) : Calls Tryz.prog 46 #[.string ⟨#[102, 97, 108, 115, 101]⟩] w fun e w' => e = .returned (.int .i64 1) ∧ w = w' := by
  go_enter Tryz.func46, Tryz.ntmps46
  go_wp2
  go_ret
  exact ⟨rfl, rfl⟩
set_option maxRecDepth 100000 in
theorem word_7 (w : World) : Calls Tryz.prog 46 #[.string ⟨#[102, 105, 110, 97, 108, 108, 121]⟩] w fun e w' => e = .returned (.int .i64 1) ∧ w = w' := by
  go_enter Tryz.func46, Tryz.ntmps46
  go_wp2
  go_ret
  exact ⟨rfl, rfl⟩
set_option maxRecDepth 100000 in
theorem word_8 (w : World) : Calls Tryz.prog 46 #[.string ⟨#[102, 117, 110, 99, 116, 105, 111, 110]⟩] w fun e w' => e = .returned (.int .i64 1) ∧ w = w' := by
  go_enter Tryz.func46, Tryz.ntmps46
  go_wp2
  go_ret
  exact ⟨rfl, rfl⟩
set_option maxRecDepth 100000 in
theorem word_9 (w : World) : Calls Tryz.prog 46 #[.string ⟨#[105, 102]⟩] w fun e w' => e = .returned (.int .i64 1) ∧ w = w' := by
  go_enter Tryz.func46, Tryz.ntmps46
  go_wp2
  go_ret
  exact ⟨rfl, rfl⟩
set_option maxRecDepth 100000 in
theorem word_10 (w : World) : Calls Tryz.prog 46 #[.string ⟨#[105, 110]⟩] w fun e w' => e = .returned (.int .i64 1) ∧ w = w' := by
  go_enter Tryz.func46, Tryz.ntmps46
  go_wp2
  go_ret
  exact ⟨rfl, rfl⟩
set_option maxRecDepth 100000 in
theorem word_11 (w : World) : Calls Tryz.prog 46 #[.string ⟨#[108, 101, 116]⟩] w fun e w' => e = .returned (.int .i64 1) ∧ w = w' := by
  go_enter Tryz.func46, Tryz.ntmps46
  go_wp2
  go_ret
  exact ⟨rfl, rfl⟩
set_option maxRecDepth 100000 in
theorem word_12 (w : World) : Calls Tryz.prog 46 #[.string ⟨#[110, 101, 119]⟩] w fun e w' => e = .returned (.int .i64 1) ∧ w = w' := by
  go_enter Tryz.func46, Tryz.ntmps46
  go_wp2
  go_ret
  exact ⟨rfl, rfl⟩
set_option maxRecDepth 100000 in
theorem word_13 (w : World) : Calls Tryz.prog 46 #[.string ⟨#[110, 117, 108, 108]⟩] w fun e w' => e = .returned (.int .i64 1) ∧ w = w' := by
  go_enter Tryz.func46, Tryz.ntmps46
  go_wp2
  go_ret
  exact ⟨rfl, rfl⟩
set_option maxRecDepth 100000 in
theorem word_14 (w : World) : Calls Tryz.prog 46 #[.string ⟨#[114, 101, 116, 117, 114, 110]⟩] w fun e w' => e = .returned (.int .i64 1) ∧ w = w' := by
  go_enter Tryz.func46, Tryz.ntmps46
  go_wp2
  go_ret
  exact ⟨rfl, rfl⟩
set_option maxRecDepth 100000 in
theorem word_15 (w : World) : Calls Tryz.prog 46 #[.string ⟨#[116, 104, 105, 115]⟩] w fun e w' => e = .returned (.int .i64 1) ∧ w = w' := by
  go_enter Tryz.func46, Tryz.ntmps46
  go_wp2
  go_ret
  exact ⟨rfl, rfl⟩
set_option maxRecDepth 100000 in
theorem word_16 (w : World) : Calls Tryz.prog 46 #[.string ⟨#[116, 104, 114, 111, 119]⟩] w fun e w' => e = .returned (.int .i64 1) ∧ w = w' := by
  go_enter Tryz.func46, Tryz.ntmps46
  go_wp2
  go_ret
  exact ⟨rfl, rfl⟩
set_option maxRecDepth 100000 in
theorem word_17 (w : World) : Calls Tryz.prog 46 #[.string ⟨#[116, 114, 117, 101]⟩] w fun e w' => e = .returned (.int .i64 1) ∧ w = w' := by
  go_enter Tryz.func46, Tryz.ntmps46
  go_wp2
  go_ret
  exact ⟨rfl, rfl⟩
set_option maxRecDepth 100000 in
theorem word_18 (w : World) : Calls Tryz.prog 46 #[.string ⟨#[116, 114, 121]⟩] w fun e w' => e = .returned (.int .i64 1) ∧ w = w' := by
  go_enter Tryz.func46, Tryz.ntmps46
  go_wp2
  go_ret
  exact ⟨rfl, rfl⟩
set_option maxRecDepth 100000 in
theorem word_19 (w : World) : Calls Tryz.prog 46 #[.string ⟨#[116, 121, 112, 101, 111, 102]⟩] w fun e w' => e = .returned (.int .i64 1) ∧ w = w' := by
  go_enter Tryz.func46, Tryz.ntmps46
  go_wp2
  go_ret
  exact ⟨rfl, rfl⟩
set_option maxRecDepth 100000 in
theorem word_20 (w : World) : Calls Tryz.prog 46 #[.string ⟨#[117, 110, 100, 101, 102, 105, 110, 101, 100]⟩] w fun e w' => e = .returned (.int .i64 1) ∧ w = w' := by
  go_enter Tryz.func46, Tryz.ntmps46
  go_wp2
  go_ret
  exact ⟨rfl, rfl⟩
set_option maxRecDepth 100000 in
theorem word_21 (w : World) : Calls Tryz.prog 46 #[.string ⟨#[119, 104, 105, 108, 101]⟩] w fun e w' => e = .returned (.int .i64 1) ∧ w = w' := by
  go_enter Tryz.func46, Tryz.ntmps46
  go_wp2
  go_ret
  exact ⟨rfl, rfl⟩
set_option maxRecDepth 100000 in
theorem word_22 (w : World) : Calls Tryz.prog 46 #[.string ⟨#[97, 119, 97, 105, 116]⟩] w fun e w' => e = .returned (.int .i64 2) ∧ w = w' := by
  go_enter Tryz.func46, Tryz.ntmps46
  go_wp2
  go_ret
  exact ⟨rfl, rfl⟩
set_option maxRecDepth 100000 in
theorem word_23 (w : World) : Calls Tryz.prog 46 #[.string ⟨#[99, 97, 115, 101]⟩] w fun e w' => e = .returned (.int .i64 2) ∧ w = w' := by
  go_enter Tryz.func46, Tryz.ntmps46
  go_wp2
  go_ret
  exact ⟨rfl, rfl⟩
set_option maxRecDepth 100000 in
theorem word_24 (w : World) : Calls Tryz.prog 46 #[.string ⟨#[99, 108, 97, 115, 115]⟩] w fun e w' => e = .returned (.int .i64 2) ∧ w = w' := by
  go_enter Tryz.func46, Tryz.ntmps46
  go_wp2
  go_ret
  exact ⟨rfl, rfl⟩
set_option maxRecDepth 100000 in
theorem word_25 (w : World) : Calls Tryz.prog 46 #[.string ⟨#[100, 101, 98, 117, 103, 103, 101, 114]⟩] w fun e w' => e = .returned (.int .i64 2) ∧ w = w' := by
  go_enter Tryz.func46, Tryz.ntmps46
  go_wp2
  go_ret
  exact ⟨rfl, rfl⟩
set_option maxRecDepth 100000 in
theorem word_26 (w : World) : Calls Tryz.prog 46 #[.string ⟨#[100, 101, 102, 97, 117, 108, 116]⟩] w fun e w' => e = .returned (.int .i64 2) ∧ w = w' := by
  go_enter Tryz.func46, Tryz.ntmps46
  go_wp2
  go_ret
  exact ⟨rfl, rfl⟩
set_option maxRecDepth 100000 in
theorem word_27 (w : World) : Calls Tryz.prog 46 #[.string ⟨#[100, 111]⟩] w fun e w' => e = .returned (.int .i64 2) ∧ w = w' := by
  go_enter Tryz.func46, Tryz.ntmps46
  go_wp2
  go_ret
  exact ⟨rfl, rfl⟩
set_option maxRecDepth 100000 in
theorem word_28 (w : World) : Calls Tryz.prog 46 #[.string ⟨#[101, 110, 117, 109]⟩] w fun e w' => e = .returned (.int .i64 2) ∧ w = w' := by
  go_enter Tryz.func46, Tryz.ntmps46
  go_wp2
  go_ret
  exact ⟨rfl, rfl⟩
set_option maxRecDepth 100000 in
theorem word_29 (w : World) : Calls Tryz.prog 46 #[.string ⟨#[101, 120, 112, 111, 114, 116]⟩] w fun e w' => e = .returned (.int .i64 2) ∧ w = w' := by
  go_enter Tryz.func46, Tryz.ntmps46
  go_wp2
  go_ret
  exact ⟨rfl, rfl⟩
set_option maxRecDepth 100000 in
theorem word_30 (w : World) : Calls Tryz.prog 46 #[.string ⟨#[101, 120, 116, 101, 110, 100, 115]⟩] w fun e w' => e = .returned (.int .i64 2) ∧ w = w' := by
  go_enter Tryz.func46, Tryz.ntmps46
  go_wp2
  go_ret
  exact ⟨rfl, rfl⟩
set_option maxRecDepth 100000 in
theorem word_31 (w : World) : Calls Tryz.prog 46 #[.string ⟨#[102, 111, 114]⟩] w fun e w' => e = .returned (.int .i64 2) ∧ w = w' := by
  go_enter Tryz.func46, Tryz.ntmps46
  go_wp2
  go_ret
  exact ⟨rfl, rfl⟩
set_option maxRecDepth 100000 in
theorem word_32 (w : World) : Calls Tryz.prog 46 #[.string ⟨#[105, 109, 112, 108, 101, 109, 101, 110, 116, 115]⟩] w fun e w' => e = .returned (.int .i64 2) ∧ w = w' := by
  go_enter Tryz.func46, Tryz.ntmps46
  go_wp2
  go_ret
  exact ⟨rfl, rfl⟩
set_option maxRecDepth 100000 in
theorem word_33 (w : World) : Calls Tryz.prog 46 #[.string ⟨#[105, 109, 112, 111, 114, 116]⟩] w fun e w' => e = .returned (.int .i64 2) ∧ w = w' := by
  go_enter Tryz.func46, Tryz.ntmps46
  go_wp2
  go_ret
  exact ⟨rfl, rfl⟩
set_option maxRecDepth 100000 in
theorem word_34 (w : World) : Calls Tryz.prog 46 #[.string ⟨#[105, 110, 115, 116, 97, 110, 99, 101, 111, 102]⟩] w fun e w' => e = .returned (.int .i64 2) ∧ w = w' := by
  go_enter Tryz.func46, Tryz.ntmps46
  go_wp2
  go_ret
  exact ⟨rfl, rfl⟩
set_option maxRecDepth 100000 in
theorem word_35 (w : World) : Calls Tryz.prog 46 #[.string ⟨#[105, 110, 116, 101, 114, 102, 97, 99, 101]⟩] w fun e w' => e = .returned (.int .i64 2) ∧ w = w' := by
  go_enter Tryz.func46, Tryz.ntmps46
  go_wp2
  go_ret
  exact ⟨rfl, rfl⟩
set_option maxRecDepth 100000 in
theorem word_36 (w : World) : Calls Tryz.prog 46 #[.string ⟨#[112, 97, 99, 107, 97, 103, 101]⟩] w fun e w' => e = .returned (.int .i64 2) ∧ w = w' := by
  go_enter Tryz.func46, Tryz.ntmps46
  go_wp2
  go_ret
  exact ⟨rfl, rfl⟩
set_option maxRecDepth 100000 in
theorem word_37 (w : World) : Calls Tryz.prog 46 #[.string ⟨#[112, 114, 105, 118, 97, 116, 101]⟩] w fun e w' => e = .returned (.int .i64 2) ∧ w = w' := by
  go_enter Tryz.func46, Tryz.ntmps46
  go_wp2
  go_ret
  exact ⟨rfl, rfl⟩
set_option maxRecDepth 100000 in
theorem word_38 (w : World) : Calls Tryz.prog 46 #[.string ⟨#[112, 114, 111, 116, 101, 99, 116, 101, 100]⟩] w fun e w' => e = .returned (.int .i64 2) ∧ w = w' := by
  go_enter Tryz.func46, Tryz.ntmps46
  go_wp2
  go_ret
  exact ⟨rfl, rfl⟩
set_option maxRecDepth 100000 in
theorem word_39 (w : World) : Calls Tryz.prog 46 #[.string ⟨#[112, 117, 98, 108, 105, 99]⟩] w fun e w' => e = .returned (.int .i64 2) ∧ w = w' := by
  go_enter Tryz.func46, Tryz.ntmps46
  go_wp2
  go_ret
  exact ⟨rfl, rfl⟩
set_option maxRecDepth 100000 in
theorem word_40 (w : World) : Calls Tryz.prog 46 #[.string ⟨#[115, 116, 97, 116, 105, 99]⟩] w fun e w' => e = .returned (.int .i64 2) ∧ w = w' := by
  go_enter Tryz.func46, Tryz.ntmps46
  go_wp2
  go_ret
  exact ⟨rfl, rfl⟩
set_option maxRecDepth 100000 in
theorem word_41 (w : World) : Calls Tryz.prog 46 #[.string ⟨#[115, 117, 112, 101, 114]⟩] w fun e w' => e = .returned (.int .i64 2) ∧ w = w' := by
  go_enter Tryz.func46, Tryz.ntmps46
  go_wp2
  go_ret
  exact ⟨rfl, rfl⟩
set_option maxRecDepth 100000 in
theorem word_42 (w : World) : Calls Tryz.prog 46 #[.string ⟨#[115, 119, 105, 116, 99, 104]⟩] w fun e w' => e = .returned (.int .i64 2) ∧ w = w' := by
  go_enter Tryz.func46, Tryz.ntmps46
  go_wp2
  go_ret
  exact ⟨rfl, rfl⟩
set_option maxRecDepth 100000 in
theorem word_43 (w : World) : Calls Tryz.prog 46 #[.string ⟨#[118, 97, 114]⟩] w fun e w' => e = .returned (.int .i64 2) ∧ w = w' := by
  go_enter Tryz.func46, Tryz.ntmps46
  go_wp2
  go_ret
  exact ⟨rfl, rfl⟩
set_option maxRecDepth 100000 in
theorem word_44 (w : World) : Calls Tryz.prog 46 #[.string ⟨#[118, 111, 105, 100]⟩] w fun e w' => e = .returned (.int .i64 2) ∧ w = w' := by
  go_enter Tryz.func46, Tryz.ntmps46
  go_wp2
  go_ret
  exact ⟨rfl, rfl⟩
set_option maxRecDepth 100000 in
theorem word_45 (w : World) : Calls Tryz.prog 46 #[.string ⟨#[119, 105, 116, 104]⟩] w fun e w' => e = .returned (.int .i64 2) ∧ w = w' := by
  go_enter Tryz.func46, Tryz.ntmps46
  go_wp2
  go_ret
  exact ⟨rfl, rfl⟩
set_option maxRecDepth 100000 in
theorem word_46 (w : World) : Calls Tryz.prog 46 #[.string ⟨#[121, 105, 101, 108, 100]⟩] w fun e w' => e = .returned (.int .i64 2) ∧ w = w' := by
  go_enter Tryz.func46, Tryz.ntmps46
  go_wp2
  go_ret
  exact ⟨rfl, rfl⟩
set_option maxRecDepth 100000 in
theorem word_none (s : ByteArray) (w : World) (h0 : (s.toList == [98, 114, 101, 97, 107]) = false) (h1 : (s.toList == [99, 97, 116, 99, 104]) = false) (h2 : (s.toList == [99, 111, 110, 115, 116]) = false) (h3 : (s.toList == [99, 111, 110, 116, 105, 110, 117, 101]) = false) (h4 : (s.toList == [100, 101, 108, 101, 116, 101]) = false) (h5 : (s.toList == [101, 108, 115, 101]) = false) (h6 : (s.toList == [102, 97, 108, 115, 101]) = false) (h7 : (s.toList == [102, 105, 110, 97, 108, 108, 121]) = false) (h8 : (s.toList == [102, 117, 110, 99, 116, 105, 111, 110]) = false) (h9 : (s.toList == [105, 102]) = false) (h10 : (s.toList == [105, 110]) = false) (h11 : (s.toList == [108, 101, 116]) = false) (h12 : (s.toList == [110, 101, 119]) = false) (h13 : (s.toList == [110, 117, 108, 108]) = false) (h14 : (s.toList == [114, 101, 116, 117, 114, 110]) = false) (h15 : (s.toList == [116, 104, 105, 115]) = false) (h16 : (s.toList == [116, 104, 114, 111, 119]) = false) (h17 : (s.toList == [116, 114, 117, 101]) = false) (h18 : (s.toList == [116, 114, 121]) = false) (h19 : (s.toList == [116, 121, 112, 101, 111, 102]) = false) (h20 : (s.toList == [117, 110, 100, 101, 102, 105, 110, 101, 100]) = false) (h21 : (s.toList == [119, 104, 105, 108, 101]) = false) (h22 : (s.toList == [97, 119, 97, 105, 116]) = false) (h23 : (s.toList == [99, 97, 115, 101]) = false) (h24 : (s.toList == [99, 108, 97, 115, 115]) = false) (h25 : (s.toList == [100, 101, 98, 117, 103, 103, 101, 114]) = false) (h26 : (s.toList == [100, 101, 102, 97, 117, 108, 116]) = false) (h27 : (s.toList == [100, 111]) = false) (h28 : (s.toList == [101, 110, 117, 109]) = false) (h29 : (s.toList == [101, 120, 112, 111, 114, 116]) = false) (h30 : (s.toList == [101, 120, 116, 101, 110, 100, 115]) = false) (h31 : (s.toList == [102, 111, 114]) = false) (h32 : (s.toList == [105, 109, 112, 108, 101, 109, 101, 110, 116, 115]) = false) (h33 : (s.toList == [105, 109, 112, 111, 114, 116]) = false) (h34 : (s.toList == [105, 110, 115, 116, 97, 110, 99, 101, 111, 102]) = false) (h35 : (s.toList == [105, 110, 116, 101, 114, 102, 97, 99, 101]) = false) (h36 : (s.toList == [112, 97, 99, 107, 97, 103, 101]) = false) (h37 : (s.toList == [112, 114, 105, 118, 97, 116, 101]) = false) (h38 : (s.toList == [112, 114, 111, 116, 101, 99, 116, 101, 100]) = false) (h39 : (s.toList == [112, 117, 98, 108, 105, 99]) = false) (h40 : (s.toList == [115, 116, 97, 116, 105, 99]) = false) (h41 : (s.toList == [115, 117, 112, 101, 114]) = false) (h42 : (s.toList == [115, 119, 105, 116, 99, 104]) = false) (h43 : (s.toList == [118, 97, 114]) = false) (h44 : (s.toList == [118, 111, 105, 100]) = false) (h45 : (s.toList == [119, 105, 116, 104]) = false) (h46 : (s.toList == [121, 105, 101, 108, 100]) = false) : Calls Tryz.prog 46 #[.string s] w fun e w' => e = .returned (.int .i64 0) ∧ w = w' := by
  go_enter Tryz.func46, Tryz.ntmps46
  go_wp2
  go_ret
  exact ⟨rfl, rfl⟩
theorem word_at (s : ByteArray) (n : Nat) (w : World) (k : Nat) (h : Calls Tryz.prog 46 #[.string s] w fun e w' => e = .returned (.int .i64 (k : Int)) ∧ w = w') (e : wordF s.toList = k) : Calls Tryz.prog 46 #[.string s] w fun e w' => e = .returned (.int .i64 (wordF s.toList : Nat)) ∧ w = w' := by rw [e]; exact h
set_option maxRecDepth 100000 in
theorem word_any (s : ByteArray) (w : World) : Calls Tryz.prog 46 #[.string s] w fun e w' => e = .returned (.int .i64 (wordF s.toList : Nat)) ∧ w = w' := by
  by_cases h0 : s.toList = [98, 114, 101, 97, 107]
  · have e := of_list h0
    have f : wordF s.toList = 1 := by rw [h0]; decide +kernel
    subst e
    exact word_at _ 0 w 1 (word_0 w) f
  by_cases h1 : s.toList = [99, 97, 116, 99, 104]
  · have e := of_list h1
    have f : wordF s.toList = 1 := by rw [h1]; decide +kernel
    subst e
    exact word_at _ 0 w 1 (word_1 w) f
  by_cases h2 : s.toList = [99, 111, 110, 115, 116]
  · have e := of_list h2
    have f : wordF s.toList = 1 := by rw [h2]; decide +kernel
    subst e
    exact word_at _ 0 w 1 (word_2 w) f
  by_cases h3 : s.toList = [99, 111, 110, 116, 105, 110, 117, 101]
  · have e := of_list h3
    have f : wordF s.toList = 1 := by rw [h3]; decide +kernel
    subst e
    exact word_at _ 0 w 1 (word_3 w) f
  by_cases h4 : s.toList = [100, 101, 108, 101, 116, 101]
  · have e := of_list h4
    have f : wordF s.toList = 1 := by rw [h4]; decide +kernel
    subst e
    exact word_at _ 0 w 1 (word_4 w) f
  by_cases h5 : s.toList = [101, 108, 115, 101]
  · have e := of_list h5
    have f : wordF s.toList = 1 := by rw [h5]; decide +kernel
    subst e
    exact word_at _ 0 w 1 (word_5 w) f
  by_cases h6 : s.toList = [102, 97, 108, 115, 101]
  · have e := of_list h6
    have f : wordF s.toList = 1 := by rw [h6]; decide +kernel
    subst e
    exact word_at _ 0 w 1 (word_6 w) f
  by_cases h7 : s.toList = [102, 105, 110, 97, 108, 108, 121]
  · have e := of_list h7
    have f : wordF s.toList = 1 := by rw [h7]; decide +kernel
    subst e
    exact word_at _ 0 w 1 (word_7 w) f
  by_cases h8 : s.toList = [102, 117, 110, 99, 116, 105, 111, 110]
  · have e := of_list h8
    have f : wordF s.toList = 1 := by rw [h8]; decide +kernel
    subst e
    exact word_at _ 0 w 1 (word_8 w) f
  by_cases h9 : s.toList = [105, 102]
  · have e := of_list h9
    have f : wordF s.toList = 1 := by rw [h9]; decide +kernel
    subst e
    exact word_at _ 0 w 1 (word_9 w) f
  by_cases h10 : s.toList = [105, 110]
  · have e := of_list h10
    have f : wordF s.toList = 1 := by rw [h10]; decide +kernel
    subst e
    exact word_at _ 0 w 1 (word_10 w) f
  by_cases h11 : s.toList = [108, 101, 116]
  · have e := of_list h11
    have f : wordF s.toList = 1 := by rw [h11]; decide +kernel
    subst e
    exact word_at _ 0 w 1 (word_11 w) f
  by_cases h12 : s.toList = [110, 101, 119]
  · have e := of_list h12
    have f : wordF s.toList = 1 := by rw [h12]; decide +kernel
    subst e
    exact word_at _ 0 w 1 (word_12 w) f
  by_cases h13 : s.toList = [110, 117, 108, 108]
  · have e := of_list h13
    have f : wordF s.toList = 1 := by rw [h13]; decide +kernel
    subst e
    exact word_at _ 0 w 1 (word_13 w) f
  by_cases h14 : s.toList = [114, 101, 116, 117, 114, 110]
  · have e := of_list h14
    have f : wordF s.toList = 1 := by rw [h14]; decide +kernel
    subst e
    exact word_at _ 0 w 1 (word_14 w) f
  by_cases h15 : s.toList = [116, 104, 105, 115]
  · have e := of_list h15
    have f : wordF s.toList = 1 := by rw [h15]; decide +kernel
    subst e
    exact word_at _ 0 w 1 (word_15 w) f
  by_cases h16 : s.toList = [116, 104, 114, 111, 119]
  · have e := of_list h16
    have f : wordF s.toList = 1 := by rw [h16]; decide +kernel
    subst e
    exact word_at _ 0 w 1 (word_16 w) f
  by_cases h17 : s.toList = [116, 114, 117, 101]
  · have e := of_list h17
    have f : wordF s.toList = 1 := by rw [h17]; decide +kernel
    subst e
    exact word_at _ 0 w 1 (word_17 w) f
  by_cases h18 : s.toList = [116, 114, 121]
  · have e := of_list h18
    have f : wordF s.toList = 1 := by rw [h18]; decide +kernel
    subst e
    exact word_at _ 0 w 1 (word_18 w) f
  by_cases h19 : s.toList = [116, 121, 112, 101, 111, 102]
  · have e := of_list h19
    have f : wordF s.toList = 1 := by rw [h19]; decide +kernel
    subst e
    exact word_at _ 0 w 1 (word_19 w) f
  by_cases h20 : s.toList = [117, 110, 100, 101, 102, 105, 110, 101, 100]
  · have e := of_list h20
    have f : wordF s.toList = 1 := by rw [h20]; decide +kernel
    subst e
    exact word_at _ 0 w 1 (word_20 w) f
  by_cases h21 : s.toList = [119, 104, 105, 108, 101]
  · have e := of_list h21
    have f : wordF s.toList = 1 := by rw [h21]; decide +kernel
    subst e
    exact word_at _ 0 w 1 (word_21 w) f
  by_cases h22 : s.toList = [97, 119, 97, 105, 116]
  · have e := of_list h22
    have f : wordF s.toList = 2 := by rw [h22]; decide +kernel
    subst e
    exact word_at _ 0 w 2 (word_22 w) f
  by_cases h23 : s.toList = [99, 97, 115, 101]
  · have e := of_list h23
    have f : wordF s.toList = 2 := by rw [h23]; decide +kernel
    subst e
    exact word_at _ 0 w 2 (word_23 w) f
  by_cases h24 : s.toList = [99, 108, 97, 115, 115]
  · have e := of_list h24
    have f : wordF s.toList = 2 := by rw [h24]; decide +kernel
    subst e
    exact word_at _ 0 w 2 (word_24 w) f
  by_cases h25 : s.toList = [100, 101, 98, 117, 103, 103, 101, 114]
  · have e := of_list h25
    have f : wordF s.toList = 2 := by rw [h25]; decide +kernel
    subst e
    exact word_at _ 0 w 2 (word_25 w) f
  by_cases h26 : s.toList = [100, 101, 102, 97, 117, 108, 116]
  · have e := of_list h26
    have f : wordF s.toList = 2 := by rw [h26]; decide +kernel
    subst e
    exact word_at _ 0 w 2 (word_26 w) f
  by_cases h27 : s.toList = [100, 111]
  · have e := of_list h27
    have f : wordF s.toList = 2 := by rw [h27]; decide +kernel
    subst e
    exact word_at _ 0 w 2 (word_27 w) f
  by_cases h28 : s.toList = [101, 110, 117, 109]
  · have e := of_list h28
    have f : wordF s.toList = 2 := by rw [h28]; decide +kernel
    subst e
    exact word_at _ 0 w 2 (word_28 w) f
  by_cases h29 : s.toList = [101, 120, 112, 111, 114, 116]
  · have e := of_list h29
    have f : wordF s.toList = 2 := by rw [h29]; decide +kernel
    subst e
    exact word_at _ 0 w 2 (word_29 w) f
  by_cases h30 : s.toList = [101, 120, 116, 101, 110, 100, 115]
  · have e := of_list h30
    have f : wordF s.toList = 2 := by rw [h30]; decide +kernel
    subst e
    exact word_at _ 0 w 2 (word_30 w) f
  by_cases h31 : s.toList = [102, 111, 114]
  · have e := of_list h31
    have f : wordF s.toList = 2 := by rw [h31]; decide +kernel
    subst e
    exact word_at _ 0 w 2 (word_31 w) f
  by_cases h32 : s.toList = [105, 109, 112, 108, 101, 109, 101, 110, 116, 115]
  · have e := of_list h32
    have f : wordF s.toList = 2 := by rw [h32]; decide +kernel
    subst e
    exact word_at _ 0 w 2 (word_32 w) f
  by_cases h33 : s.toList = [105, 109, 112, 111, 114, 116]
  · have e := of_list h33
    have f : wordF s.toList = 2 := by rw [h33]; decide +kernel
    subst e
    exact word_at _ 0 w 2 (word_33 w) f
  by_cases h34 : s.toList = [105, 110, 115, 116, 97, 110, 99, 101, 111, 102]
  · have e := of_list h34
    have f : wordF s.toList = 2 := by rw [h34]; decide +kernel
    subst e
    exact word_at _ 0 w 2 (word_34 w) f
  by_cases h35 : s.toList = [105, 110, 116, 101, 114, 102, 97, 99, 101]
  · have e := of_list h35
    have f : wordF s.toList = 2 := by rw [h35]; decide +kernel
    subst e
    exact word_at _ 0 w 2 (word_35 w) f
  by_cases h36 : s.toList = [112, 97, 99, 107, 97, 103, 101]
  · have e := of_list h36
    have f : wordF s.toList = 2 := by rw [h36]; decide +kernel
    subst e
    exact word_at _ 0 w 2 (word_36 w) f
  by_cases h37 : s.toList = [112, 114, 105, 118, 97, 116, 101]
  · have e := of_list h37
    have f : wordF s.toList = 2 := by rw [h37]; decide +kernel
    subst e
    exact word_at _ 0 w 2 (word_37 w) f
  by_cases h38 : s.toList = [112, 114, 111, 116, 101, 99, 116, 101, 100]
  · have e := of_list h38
    have f : wordF s.toList = 2 := by rw [h38]; decide +kernel
    subst e
    exact word_at _ 0 w 2 (word_38 w) f
  by_cases h39 : s.toList = [112, 117, 98, 108, 105, 99]
  · have e := of_list h39
    have f : wordF s.toList = 2 := by rw [h39]; decide +kernel
    subst e
    exact word_at _ 0 w 2 (word_39 w) f
  by_cases h40 : s.toList = [115, 116, 97, 116, 105, 99]
  · have e := of_list h40
    have f : wordF s.toList = 2 := by rw [h40]; decide +kernel
    subst e
    exact word_at _ 0 w 2 (word_40 w) f
  by_cases h41 : s.toList = [115, 117, 112, 101, 114]
  · have e := of_list h41
    have f : wordF s.toList = 2 := by rw [h41]; decide +kernel
    subst e
    exact word_at _ 0 w 2 (word_41 w) f
  by_cases h42 : s.toList = [115, 119, 105, 116, 99, 104]
  · have e := of_list h42
    have f : wordF s.toList = 2 := by rw [h42]; decide +kernel
    subst e
    exact word_at _ 0 w 2 (word_42 w) f
  by_cases h43 : s.toList = [118, 97, 114]
  · have e := of_list h43
    have f : wordF s.toList = 2 := by rw [h43]; decide +kernel
    subst e
    exact word_at _ 0 w 2 (word_43 w) f
  by_cases h44 : s.toList = [118, 111, 105, 100]
  · have e := of_list h44
    have f : wordF s.toList = 2 := by rw [h44]; decide +kernel
    subst e
    exact word_at _ 0 w 2 (word_44 w) f
  by_cases h45 : s.toList = [119, 105, 116, 104]
  · have e := of_list h45
    have f : wordF s.toList = 2 := by rw [h45]; decide +kernel
    subst e
    exact word_at _ 0 w 2 (word_45 w) f
  by_cases h46 : s.toList = [121, 105, 101, 108, 100]
  · have e := of_list h46
    have f : wordF s.toList = 2 := by rw [h46]; decide +kernel
    subst e
    exact word_at _ 0 w 2 (word_46 w) f
  refine word_at s 0 w 0 (word_none s w (beq_eq_false_iff_ne.2 h0) (beq_eq_false_iff_ne.2 h1) (beq_eq_false_iff_ne.2 h2) (beq_eq_false_iff_ne.2 h3) (beq_eq_false_iff_ne.2 h4) (beq_eq_false_iff_ne.2 h5) (beq_eq_false_iff_ne.2 h6) (beq_eq_false_iff_ne.2 h7) (beq_eq_false_iff_ne.2 h8) (beq_eq_false_iff_ne.2 h9) (beq_eq_false_iff_ne.2 h10) (beq_eq_false_iff_ne.2 h11) (beq_eq_false_iff_ne.2 h12) (beq_eq_false_iff_ne.2 h13) (beq_eq_false_iff_ne.2 h14) (beq_eq_false_iff_ne.2 h15) (beq_eq_false_iff_ne.2 h16) (beq_eq_false_iff_ne.2 h17) (beq_eq_false_iff_ne.2 h18) (beq_eq_false_iff_ne.2 h19) (beq_eq_false_iff_ne.2 h20) (beq_eq_false_iff_ne.2 h21) (beq_eq_false_iff_ne.2 h22) (beq_eq_false_iff_ne.2 h23) (beq_eq_false_iff_ne.2 h24) (beq_eq_false_iff_ne.2 h25) (beq_eq_false_iff_ne.2 h26) (beq_eq_false_iff_ne.2 h27) (beq_eq_false_iff_ne.2 h28) (beq_eq_false_iff_ne.2 h29) (beq_eq_false_iff_ne.2 h30) (beq_eq_false_iff_ne.2 h31) (beq_eq_false_iff_ne.2 h32) (beq_eq_false_iff_ne.2 h33) (beq_eq_false_iff_ne.2 h34) (beq_eq_false_iff_ne.2 h35) (beq_eq_false_iff_ne.2 h36) (beq_eq_false_iff_ne.2 h37) (beq_eq_false_iff_ne.2 h38) (beq_eq_false_iff_ne.2 h39) (beq_eq_false_iff_ne.2 h40) (beq_eq_false_iff_ne.2 h41) (beq_eq_false_iff_ne.2 h42) (beq_eq_false_iff_ne.2 h43) (beq_eq_false_iff_ne.2 h44) (beq_eq_false_iff_ne.2 h45) (beq_eq_false_iff_ne.2 h46)) ?_
  unfold wordF
  rw [if_neg (by simp [used, h0, h1, h2, h3, h4, h5, h6, h7, h8, h9, h10, h11, h12, h13, h14, h15, h16, h17, h18, h19, h20, h21]), if_neg (by simp [unused, h22, h23, h24, h25, h26, h27, h28, h29, h30, h31, h32, h33, h34, h35, h36, h37, h38, h39, h40, h41, h42, h43, h44, h45, h46])]
end Go.Proofs.YtinoaajohkafmaaGreat.Lx

/-
  A region that draws its order, by an invariant: one step an operation, whatever the order.
-/
namespace Go.Proofs.YtinoaajohkafmaaGreat.Rg
open Go Go.RowKit
set_option linter.unusedVariables false
set_option linter.unusedSimpArgs false
section
variable {P : Program} {ops : Array Oper} {Q : Exit → Act → World → Prop} {md : Region.Mode}
def left (L : Array Bool) : Nat := L.toList.count false
end
end Go.Proofs.YtinoaajohkafmaaGreat.Rg
