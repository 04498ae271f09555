/-
  A descriptor that came in: its parts, and that its strings fit.
-/
import Derived.Test.YtlpfdhmifcmhaaaRows
import Derived.Test.YtlpfdhmifcmhaaaDeMay
import Derived.ProofKit
import Derived.OpenShut
import Derived.ChangeArms
namespace Go.Proofs.Ytlpfdhmifcmhaaa.Des
open Go.RowKit Go.Proofs.Ytlpfdhmifcmhaaa.Vals Go.ChangeShapes Go.WideShapes
set_option linter.unusedVariables false
set_option linter.unusedSimpArgs false

section
variable {H : Type} {enc : TypeId × Value → H} {w : World} {base : Nat} {spare : Nat → Bool} {held : Bool}
theorem bulk_parts (l : List (DataW H × List MemPlace)) (y : DataW H × List MemPlace) (h : y ∈ l) : Rows.uptoBulk y.1 ≤ Rows.uptoBulkAll (l.map (·.1)) := by
  induction l with
  | nil => cases h
  | cons x r ih =>
    simp only [List.map_cons, Rows.uptoBulkAll]
    cases h with
    | head => omega
    | tail _ h => have := ih h; omega
theorem cellsV : Try.prog.cellsOf 23 = 3 := by kernel_rfl
theorem cellsI : Try.prog.cellsOf 3 = 1 := by kernel_rfl
theorem cellsS : Try.prog.cellsOf 9 = 1 := by kernel_rfl
theorem cellsB : Try.prog.cellsOf 4 = 1 := by kernel_rfl
theorem cellsD : Try.prog.cellsOf 28 = 18 := by kernel_rfl
theorem open_val {m : Nat} {cs : List Value} {y : DataW H × List MemPlace} (h : DataW.trod enc Try.prog w base spare held m 23 cs = some y) : ∃ v : Vl, cs = [.int .i64 v.k, .int .i64 v.n, .string v.s] ∧ v.s.size ≤ Rows.uptoBulk y.1 := by
  obtain ⟨xs, n, _, hx, hl, hlen, hg⟩ := DataW.trod_struct Try.underlying23 h
  rw [cellsV] at hl
  match cs, hl with
  | [c0, c1, c2], _ =>
    match xs, hlen with
    | [y0, y1, y2], _ =>
      have g0 : DataW.trod enc Try.prog w base spare held n 3 (([c0, c1, c2].drop 0).take (Try.prog.cellsOf 3)) = [y0, y1, y2][0]? := hg 0 _ rfl
      have g1 : DataW.trod enc Try.prog w base spare held n 3 (([c0, c1, c2].drop 1).take (Try.prog.cellsOf 3)) = [y0, y1, y2][1]? := hg 1 _ rfl
      have g2 : DataW.trod enc Try.prog w base spare held n 9 (([c0, c1, c2].drop 2).take (Try.prog.cellsOf 9)) = [y0, y1, y2][2]? := hg 2 _ rfl
      rw [cellsI] at g0 g1
      rw [cellsS] at g2
      have g0 : DataW.trod enc Try.prog w base spare held n 3 [c0] = some y0 := g0
      have g1 : DataW.trod enc Try.prog w base spare held n 3 [c1] = some y1 := g1
      have g2 : DataW.trod enc Try.prog w base spare held n 9 [c2] = some y2 := g2
      obtain ⟨k, hk, _, _⟩ := DataW.trod_int Try.underlying3 g0
      obtain ⟨q, hq, _, _⟩ := DataW.trod_int Try.underlying3 g1
      obtain ⟨s, hs, e2, _⟩ := DataW.trod_string Try.underlying9 g2
      simp only [List.cons.injEq, and_true] at hk hq hs
      subst hk hq hs
      refine ⟨⟨k, q, s⟩, rfl, ?_⟩
      rw [hx]
      have := bulk_parts [y0, y1, y2] y2 (by simp)
      rw [e2] at this
      simp only [Rows.uptoBulk] at this ⊢
      have e : s.data.toList.length = s.size := by rw [Array.length_toList]; rfl
      simp only [e2] 
      show s.size ≤ _
      omega
/-- A descriptor that came in. -/
theorem open_desc {r : Reach} {b0 : Nat} {v : Value} {dd : DataW H} {p : List MemPlace} (hv : Value.okWide Try.prog w r b0 28 v) (h : DataW.Trod enc Try.prog w base spare held 28 v dd p) :
    ∃ d : Ds, v = DV d ∧ (Rows.uptoBulk dd ≤ 1048576 → Fit d) := by
  obtain ⟨cs, rfl, hsz⟩ := okWide_struct Try.underlying28 hv
  obtain ⟨fuel, hf⟩ := h
  obtain ⟨l⟩ := cs
  rw [cellsD] at hsz
  match l, hsz with
  | [c0, c1, c2, c3, c4, c5, c6, c7, c8, c9, c10, c11, c12, c13, c14, c15, c16, c17], _ =>
    obtain ⟨xs, n, _, hx, _, hlen, hg⟩ := DataW.trod_struct Try.underlying28 hf
    match xs, hlen with
    | [y0, y1, y2, y3, y4, y5, y6, y7, y8, y9, y10, y11], _ =>
      have g0 : DataW.trod enc Try.prog w base spare held n 4 (([c0, c1, c2, c3, c4, c5, c6, c7, c8, c9, c10, c11, c12, c13, c14, c15, c16, c17].drop 0).take (Try.prog.cellsOf 4)) = [y0, y1, y2, y3, y4, y5, y6, y7, y8, y9, y10, y11][0]? := hg 0 _ rfl
      rw [cellsB] at g0
      have g0 : DataW.trod enc Try.prog w base spare held n 4 [c0] = some y0 := g0
      have g1 : DataW.trod enc Try.prog w base spare held n 4 (([c0, c1, c2, c3, c4, c5, c6, c7, c8, c9, c10, c11, c12, c13, c14, c15, c16, c17].drop 1).take (Try.prog.cellsOf 4)) = [y0, y1, y2, y3, y4, y5, y6, y7, y8, y9, y10, y11][1]? := hg 1 _ rfl
      rw [cellsB] at g1
      have g1 : DataW.trod enc Try.prog w base spare held n 4 [c1] = some y1 := g1
      have g2 : DataW.trod enc Try.prog w base spare held n 4 (([c0, c1, c2, c3, c4, c5, c6, c7, c8, c9, c10, c11, c12, c13, c14, c15, c16, c17].drop 2).take (Try.prog.cellsOf 4)) = [y0, y1, y2, y3, y4, y5, y6, y7, y8, y9, y10, y11][2]? := hg 2 _ rfl
      rw [cellsB] at g2
      have g2 : DataW.trod enc Try.prog w base spare held n 4 [c2] = some y2 := g2
      have g3 : DataW.trod enc Try.prog w base spare held n 4 (([c0, c1, c2, c3, c4, c5, c6, c7, c8, c9, c10, c11, c12, c13, c14, c15, c16, c17].drop 3).take (Try.prog.cellsOf 4)) = [y0, y1, y2, y3, y4, y5, y6, y7, y8, y9, y10, y11][3]? := hg 3 _ rfl
      rw [cellsB] at g3
      have g3 : DataW.trod enc Try.prog w base spare held n 4 [c3] = some y3 := g3
      have g4 : DataW.trod enc Try.prog w base spare held n 4 (([c0, c1, c2, c3, c4, c5, c6, c7, c8, c9, c10, c11, c12, c13, c14, c15, c16, c17].drop 4).take (Try.prog.cellsOf 4)) = [y0, y1, y2, y3, y4, y5, y6, y7, y8, y9, y10, y11][4]? := hg 4 _ rfl
      rw [cellsB] at g4
      have g4 : DataW.trod enc Try.prog w base spare held n 4 [c4] = some y4 := g4
      have g5 : DataW.trod enc Try.prog w base spare held n 4 (([c0, c1, c2, c3, c4, c5, c6, c7, c8, c9, c10, c11, c12, c13, c14, c15, c16, c17].drop 5).take (Try.prog.cellsOf 4)) = [y0, y1, y2, y3, y4, y5, y6, y7, y8, y9, y10, y11][5]? := hg 5 _ rfl
      rw [cellsB] at g5
      have g5 : DataW.trod enc Try.prog w base spare held n 4 [c5] = some y5 := g5
      have g6 : DataW.trod enc Try.prog w base spare held n 23 (([c0, c1, c2, c3, c4, c5, c6, c7, c8, c9, c10, c11, c12, c13, c14, c15, c16, c17].drop 6).take (Try.prog.cellsOf 23)) = [y0, y1, y2, y3, y4, y5, y6, y7, y8, y9, y10, y11][6]? := hg 6 _ rfl
      rw [cellsV] at g6
      have g6 : DataW.trod enc Try.prog w base spare held n 23 [c6, c7, c8] = some y6 := g6
      have g7 : DataW.trod enc Try.prog w base spare held n 23 (([c0, c1, c2, c3, c4, c5, c6, c7, c8, c9, c10, c11, c12, c13, c14, c15, c16, c17].drop 9).take (Try.prog.cellsOf 23)) = [y0, y1, y2, y3, y4, y5, y6, y7, y8, y9, y10, y11][7]? := hg 7 _ rfl
      rw [cellsV] at g7
      have g7 : DataW.trod enc Try.prog w base spare held n 23 [c9, c10, c11] = some y7 := g7
      have g8 : DataW.trod enc Try.prog w base spare held n 23 (([c0, c1, c2, c3, c4, c5, c6, c7, c8, c9, c10, c11, c12, c13, c14, c15, c16, c17].drop 12).take (Try.prog.cellsOf 23)) = [y0, y1, y2, y3, y4, y5, y6, y7, y8, y9, y10, y11][8]? := hg 8 _ rfl
      rw [cellsV] at g8
      have g8 : DataW.trod enc Try.prog w base spare held n 23 [c12, c13, c14] = some y8 := g8
      have g9 : DataW.trod enc Try.prog w base spare held n 4 (([c0, c1, c2, c3, c4, c5, c6, c7, c8, c9, c10, c11, c12, c13, c14, c15, c16, c17].drop 15).take (Try.prog.cellsOf 4)) = [y0, y1, y2, y3, y4, y5, y6, y7, y8, y9, y10, y11][9]? := hg 9 _ rfl
      rw [cellsB] at g9
      have g9 : DataW.trod enc Try.prog w base spare held n 4 [c15] = some y9 := g9
      have g10 : DataW.trod enc Try.prog w base spare held n 4 (([c0, c1, c2, c3, c4, c5, c6, c7, c8, c9, c10, c11, c12, c13, c14, c15, c16, c17].drop 16).take (Try.prog.cellsOf 4)) = [y0, y1, y2, y3, y4, y5, y6, y7, y8, y9, y10, y11][10]? := hg 10 _ rfl
      rw [cellsB] at g10
      have g10 : DataW.trod enc Try.prog w base spare held n 4 [c16] = some y10 := g10
      have g11 : DataW.trod enc Try.prog w base spare held n 4 (([c0, c1, c2, c3, c4, c5, c6, c7, c8, c9, c10, c11, c12, c13, c14, c15, c16, c17].drop 17).take (Try.prog.cellsOf 4)) = [y0, y1, y2, y3, y4, y5, y6, y7, y8, y9, y10, y11][11]? := hg 11 _ rfl
      rw [cellsB] at g11
      have g11 : DataW.trod enc Try.prog w base spare held n 4 [c17] = some y11 := g11
      obtain ⟨b0, h0, _⟩ := DataW.trod_bool Try.underlying4 g0
      obtain ⟨b1, h1, _⟩ := DataW.trod_bool Try.underlying4 g1
      obtain ⟨b2, h2, _⟩ := DataW.trod_bool Try.underlying4 g2
      obtain ⟨b3, h3, _⟩ := DataW.trod_bool Try.underlying4 g3
      obtain ⟨b4, h4, _⟩ := DataW.trod_bool Try.underlying4 g4
      obtain ⟨b5, h5, _⟩ := DataW.trod_bool Try.underlying4 g5
      obtain ⟨v6, h6, s6⟩ := open_val g6
      obtain ⟨v7, h7, s7⟩ := open_val g7
      obtain ⟨v8, h8, s8⟩ := open_val g8
      obtain ⟨b9, h9, _⟩ := DataW.trod_bool Try.underlying4 g9
      obtain ⟨b10, h10, _⟩ := DataW.trod_bool Try.underlying4 g10
      obtain ⟨b11, h11, _⟩ := DataW.trod_bool Try.underlying4 g11
      simp only [List.cons.injEq, and_true] at h0 h1 h2 h3 h4 h5 h6 h7 h8 h9 h10 h11
      obtain ⟨h6a, h6b, h6c⟩ := h6
      obtain ⟨h7a, h7b, h7c⟩ := h7
      obtain ⟨h8a, h8b, h8c⟩ := h8
      subst h0 h1 h2 h3 h4 h5 h6a h6b h6c h7a h7b h7c h8a h8b h8c h9 h10 h11
      refine ⟨⟨b0, b1, b2, b3, b4, b5, v6, v7, v8, b9, b10, b11⟩, rfl, fun hb => ?_⟩
      have hdd : dd = .agg (List.map (·.1) [y0, y1, y2, y3, y4, y5, y6, y7, y8, y9, y10, y11]) := by simpa using congrArg Prod.fst hx
      have b6 := bulk_parts [y0, y1, y2, y3, y4, y5, y6, y7, y8, y9, y10, y11] y6 (by simp)
      have b7 := bulk_parts [y0, y1, y2, y3, y4, y5, y6, y7, y8, y9, y10, y11] y7 (by simp)
      have b8 := bulk_parts [y0, y1, y2, y3, y4, y5, y6, y7, y8, y9, y10, y11] y8 (by simp)
      rw [hdd] at hb
      simp only [Rows.uptoBulk] at hb
      exact ⟨by show v6.s.size ≤ _; omega, by show v7.s.size ≤ _; omega, by show v8.s.size ≤ _; omega⟩
end
end Go.Proofs.Ytlpfdhmifcmhaaa.Des
