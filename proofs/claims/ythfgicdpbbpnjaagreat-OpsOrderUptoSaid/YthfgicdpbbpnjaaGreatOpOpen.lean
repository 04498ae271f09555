/-
  A value of the language that came in.
-/
import Derived.Test.YthfgicdpbbpnjaaGreatRows
import Derived.Test.YthfgicdpbbpnjaaGreatOpMem
import Derived.ProofKit
import Derived.OpenShut
import Derived.ChangeArms
namespace Go.Proofs.YthfgicdpbbpnjaaGreat.Ops
open Go Go.RowKit Go.ChangeShapes Go.WideShapes
set_option linter.unusedVariables false
set_option linter.unusedSimpArgs false
set_option maxRecDepth 100000

theorem int_bds {n : Int} (h : (Lit.int .i64 n).wf = true) : -9223372036854775808 ≤ n ∧ n ≤ 9223372036854775807 := by
  have e1 : IntKind.i64.min = -9223372036854775808 := rfl
  have e2 : IntKind.i64.max = 9223372036854775807 := rfl
  simp [Lit.wf, e1, e2] at h
  omega
/-- What an int holds. -/
def I64 (n : Int) : Prop := -9223372036854775808 ≤ n ∧ n ≤ 9223372036854775807
section
variable {H : Type} {enc : TypeId × Value → H} {w : World} {base : Nat} {spare : Nat → Bool} {held : Bool}
theorem bulk_parts (l : List (DataW H × List MemPlace)) (y : DataW H × List MemPlace) (h : y ∈ l) : Rows.uptoBulk y.1 ≤ Rows.uptoBulkAll (l.map (·.1)) := by
  induction l with
  | nil => cases h
  | cons x r ih =>
    simp only [List.map_cons, Rows.uptoBulkAll]
    cases h with
    | head => omega
    | tail _ h => have := ih h; omega
theorem cellsV : Tryz.prog.cellsOf 23 = 3 := by kernel_rfl
theorem cellsI : Tryz.prog.cellsOf 3 = 1 := by kernel_rfl
theorem cellsS : Tryz.prog.cellsOf 9 = 1 := by kernel_rfl
theorem open_val {m : Nat} {cs : List Value} {y : DataW H × List MemPlace} (h : DataW.trod enc Tryz.prog w base spare held m 23 cs = some y) : ∃ v : Vl, cs = [.int .i64 v.k, .int .i64 v.n, .string v.s] ∧ I64 v.n ∧ v.s.size ≤ Rows.uptoBulk y.1 := by
  obtain ⟨xs, n, _, hx, hl, hlen, hg⟩ := DataW.trod_struct Tryz.underlying23 h
  rw [cellsV] at hl
  match cs, hl with
  | [c0, c1, c2], _ =>
    match xs, hlen with
    | [y0, y1, y2], _ =>
      have g0 : DataW.trod enc Tryz.prog w base spare held n 3 (([c0, c1, c2].drop 0).take (Tryz.prog.cellsOf 3)) = [y0, y1, y2][0]? := hg 0 _ rfl
      have g1 : DataW.trod enc Tryz.prog w base spare held n 3 (([c0, c1, c2].drop 1).take (Tryz.prog.cellsOf 3)) = [y0, y1, y2][1]? := hg 1 _ rfl
      have g2 : DataW.trod enc Tryz.prog w base spare held n 9 (([c0, c1, c2].drop 2).take (Tryz.prog.cellsOf 9)) = [y0, y1, y2][2]? := hg 2 _ rfl
      rw [cellsI] at g0 g1
      rw [cellsS] at g2
      have g0 : DataW.trod enc Tryz.prog w base spare held n 3 [c0] = some y0 := g0
      have g1 : DataW.trod enc Tryz.prog w base spare held n 3 [c1] = some y1 := g1
      have g2 : DataW.trod enc Tryz.prog w base spare held n 9 [c2] = some y2 := g2
      obtain ⟨k, hk, _, _⟩ := DataW.trod_int Tryz.underlying3 g0
      obtain ⟨q, hq, _, wq⟩ := DataW.trod_int Tryz.underlying3 g1
      obtain ⟨s, hs, e2, _⟩ := DataW.trod_string Tryz.underlying9 g2
      simp only [List.cons.injEq, and_true] at hk hq hs
      subst hk hq hs
      refine ⟨⟨k, q, s⟩, rfl, int_bds wq, ?_⟩
      rw [hx]
      have := bulk_parts [y0, y1, y2] y2 (by simp)
      rw [e2] at this
      simp only [Rows.uptoBulk] at this ⊢
      have e : s.data.toList.length = s.size := by rw [Array.length_toList]; rfl
      simp only [e2] 
      show s.size ≤ _
      omega
/-- A value that came in. -/
theorem open_value {r : Reach} {b0 : Nat} {v : Value} {dd : DataW H} {p : List MemPlace} (hv : Value.okWide Tryz.prog w r b0 23 v) (h : DataW.Trod enc Tryz.prog w base spare held 23 v dd p) :
    ∃ a : Vl, v = .agg (vcs a) ∧ (Rows.uptoBulk dd ≤ 1048576 → a.s.size ≤ 2000000 ∧ I64 a.n) := by
  obtain ⟨cs, rfl, hsz⟩ := okWide_struct Tryz.underlying23 hv
  obtain ⟨fuel, hf⟩ := h
  obtain ⟨a, ha, hq, hs⟩ := open_val hf
  refine ⟨a, ?_, fun hb => ⟨by have hb2 : Rows.uptoBulk dd ≤ 1048576 := hb; have hs2 : a.s.size ≤ Rows.uptoBulk dd := hs; omega, hq⟩⟩
  have e : cs.toList = [.int .i64 a.k, .int .i64 a.n, .string a.s] := ha
  have e2 : cs = #[.int .i64 a.k, .int .i64 a.n, .string a.s] := Array.toList_inj.1 e
  rw [e2]
  rfl
end
end Go.Proofs.YthfgicdpbbpnjaaGreat.Ops
