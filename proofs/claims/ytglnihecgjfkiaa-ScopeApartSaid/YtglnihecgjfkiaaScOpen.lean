/-
  Values and lists of calls that came in: their parts.
-/
import Derived.Test.YtglnihecgjfkiaaRows
import Derived.Test.YtglnihecgjfkiaaScAlive
import Derived.ProofKit
import Derived.OpenShut
import Derived.ChangeArms
import Derived.Deep.Slices
import Derived.Lib.SmallJoins
namespace Go.Proofs.Ytglnihecgjfkiaa.Sc
open Go Go.RowKit Go.ChangeShapes Go.WideShapes Go.Deep
set_option linter.unusedVariables false
set_option linter.unusedSimpArgs false
theorem int_bds {n : Int} (h : (Lit.int .i64 n).wf = true) : -9223372036854775808 ≤ n ∧ n ≤ 9223372036854775807 := by
  have e1 : IntKind.i64.min = -9223372036854775808 := rfl
  have e2 : IntKind.i64.max = 9223372036854775807 := rfl
  simp [Lit.wf, e1, e2] at h
  omega
theorem cellsOfV : Try.prog.cellsOf 29 = 3 := by kernel_rfl
theorem cellsOfI : Try.prog.cellsOf 3 = 1 := by kernel_rfl
theorem cellsOfS : Try.prog.cellsOf 9 = 1 := by kernel_rfl
theorem cellsOfB : Try.prog.cellsOf 4 = 1 := by kernel_rfl
theorem cellsOfA : Try.prog.cellsOf 31 = 7 := by kernel_rfl
section
variable {H : Type} {enc : TypeId × Value → H} {w : World} {base : Nat} {spare : Nat → Bool} {held : Bool}
set_option maxRecDepth 100000 in
set_option maxHeartbeats 2000000 in
theorem open_val {m : Nat} {cs : List Value} {y : DataW H × List MemPlace} (h : DataW.trod enc Try.prog w base spare held m 29 cs = some y) : ∃ v : Vl, cs = [.int .i64 v.k, .int .i64 v.n, .string v.s] ∧ True := by
  obtain ⟨xs, n, _, hx, hl, hlen, hg⟩ := DataW.trod_struct Try.underlying29 h
  rw [cellsOfV] at hl
  match cs, hl with
  | [c0, c1, c2], _ =>
    match xs, hlen with
    | [y0, y1, y2], _ =>
      have g0 : DataW.trod enc Try.prog w base spare held n 3 (([c0, c1, c2].drop 0).take (Try.prog.cellsOf 3)) = [y0, y1, y2][0]? := hg 0 _ rfl
      rw [cellsOfI] at g0
      have g0 : DataW.trod enc Try.prog w base spare held n 3 [c0] = some y0 := g0
      have g1 : DataW.trod enc Try.prog w base spare held n 3 (([c0, c1, c2].drop 1).take (Try.prog.cellsOf 3)) = [y0, y1, y2][1]? := hg 1 _ rfl
      rw [cellsOfI] at g1
      have g1 : DataW.trod enc Try.prog w base spare held n 3 [c1] = some y1 := g1
      have g2 : DataW.trod enc Try.prog w base spare held n 9 (([c0, c1, c2].drop 2).take (Try.prog.cellsOf 9)) = [y0, y1, y2][2]? := hg 2 _ rfl
      rw [cellsOfS] at g2
      have g2 : DataW.trod enc Try.prog w base spare held n 9 [c2] = some y2 := g2
      obtain ⟨x0, h0, _, q0⟩ := DataW.trod_int Try.underlying3 g0
      obtain ⟨x1, h1, _, q1⟩ := DataW.trod_int Try.underlying3 g1
      obtain ⟨x2, h2, _, q2⟩ := DataW.trod_string Try.underlying9 g2
      simp only [List.cons.injEq, and_true] at h0 h1 h2
      subst h0 h1 h2
      exact ⟨⟨x0, x1, x2⟩, rfl, trivial⟩
set_option maxRecDepth 100000 in
set_option maxHeartbeats 2000000 in
theorem open_act {m : Nat} {cs : List Value} {y : DataW H × List MemPlace} (h : DataW.trod enc Try.prog w base spare held m 31 cs = some y) : ∃ a : Ac, cs = (acs a).toList ∧ Fine a.name := by
  obtain ⟨xs, n, _, hx, hl, hlen, hg⟩ := DataW.trod_struct Try.underlying31 h
  rw [cellsOfA] at hl
  match cs, hl with
  | [c0, c1, c2, c3, c4, c5, c6], _ =>
    match xs, hlen with
    | [y0, y1, y2, y3, y4], _ =>
      have g0 : DataW.trod enc Try.prog w base spare held n 3 (([c0, c1, c2, c3, c4, c5, c6].drop 0).take (Try.prog.cellsOf 3)) = [y0, y1, y2, y3, y4][0]? := hg 0 _ rfl
      rw [cellsOfI] at g0
      have g0 : DataW.trod enc Try.prog w base spare held n 3 [c0] = some y0 := g0
      have g1 : DataW.trod enc Try.prog w base spare held n 3 (([c0, c1, c2, c3, c4, c5, c6].drop 1).take (Try.prog.cellsOf 3)) = [y0, y1, y2, y3, y4][1]? := hg 1 _ rfl
      rw [cellsOfI] at g1
      have g1 : DataW.trod enc Try.prog w base spare held n 3 [c1] = some y1 := g1
      have g2 : DataW.trod enc Try.prog w base spare held n 9 (([c0, c1, c2, c3, c4, c5, c6].drop 2).take (Try.prog.cellsOf 9)) = [y0, y1, y2, y3, y4][2]? := hg 2 _ rfl
      rw [cellsOfS] at g2
      have g2 : DataW.trod enc Try.prog w base spare held n 9 [c2] = some y2 := g2
      have g3 : DataW.trod enc Try.prog w base spare held n 4 (([c0, c1, c2, c3, c4, c5, c6].drop 3).take (Try.prog.cellsOf 4)) = [y0, y1, y2, y3, y4][3]? := hg 3 _ rfl
      rw [cellsOfB] at g3
      have g3 : DataW.trod enc Try.prog w base spare held n 4 [c3] = some y3 := g3
      have g4 : DataW.trod enc Try.prog w base spare held n 29 (([c0, c1, c2, c3, c4, c5, c6].drop 4).take (Try.prog.cellsOf 29)) = [y0, y1, y2, y3, y4][4]? := hg 4 _ rfl
      rw [cellsOfV] at g4
      have g4 : DataW.trod enc Try.prog w base spare held n 29 [c4, c5, c6] = some y4 := g4
      obtain ⟨x0, h0, _, q0⟩ := DataW.trod_int Try.underlying3 g0
      obtain ⟨x1, h1, _, q1⟩ := DataW.trod_int Try.underlying3 g1
      obtain ⟨x2, h2, _, q2⟩ := DataW.trod_string Try.underlying9 g2
      obtain ⟨x3, h3, _⟩ := DataW.trod_bool Try.underlying4 g3
      obtain ⟨x4, h4, q4⟩ := open_val g4
      simp only [List.cons.injEq, and_true] at h0 h1 h2 h3 h4
      obtain ⟨h4_0, h4_1, h4_2⟩ := h4
      subst h0 h1 h2 h3 h4_0 h4_1 h4_2
      exact ⟨⟨x0, x1, x2, x3, x4⟩, rfl, q2⟩
end
theorem list_of {α : Type} {Q : Nat → α → Prop} : ∀ n, (∀ i, i < n → ∃ x, Q i x) → ∃ l : List α, l.length = n ∧ ∀ i x, l[i]? = some x → Q i x := by
  intro n
  induction n with
  | zero => intro _; exact ⟨[], rfl, fun i x h => by simp at h⟩
  | succ n ih =>
    intro h
    obtain ⟨l, hl, hq⟩ := ih fun i hi => h i (by omega)
    obtain ⟨x, hx⟩ := h n (by omega)
    refine ⟨l ++ [x], by simp [hl], fun i y hy => ?_⟩
    rcases Nat.lt_or_ge i n with hi | hi
    · rw [List.getElem?_append_left (by omega)] at hy
      exact hq i y hy
    · rw [List.getElem?_append_right (by omega)] at hy
      have hi0 : i - l.length = 0 := by
        have := (List.getElem?_eq_some_iff.1 hy).1
        simp at this
        omega
      rw [hi0] at hy
      simp at hy
      subst hy
      rw [show i = n by omega]
      exact hx
theorem open_value {H : Type} {enc : TypeId × Value → H} {W : World} {base b0 : Nat} {r : Reach} {spare : Nat → Bool} {held : Bool} {v : Value} {d : DataW H} {p : List MemPlace} (hv : Value.okWide Try.prog W r b0 29 v) (h : DataW.Trod enc Try.prog W base spare held 29 v d p) : ∃ x : Vl, v = .agg (vcs x) := by
  obtain ⟨cs, rfl, hsz⟩ := okWide_struct Try.underlying29 hv
  obtain ⟨fuel, hf⟩ := h
  obtain ⟨x, hx, -⟩ := open_val hf
  refine ⟨x, ?_⟩
  congr 1
  exact Array.ext' (by simpa [Value.cells, vcs] using hx)
set_option maxRecDepth 100000 in
set_option maxHeartbeats 2000000 in
/-- A list of calls that came in. -/
theorem open_acts {H : Type} {enc : TypeId × Value → H} {W : World} {base b0 : Nat} {r : Reach} {spare : Nat → Bool} {held : Bool} {v : Value} {d : DataW H} {p : List MemPlace} (hv : Value.okWide Try.prog W r b0 22 v) (h : DataW.Trod enc Try.prog W base spare held 22 v d p) :
    ∃ a cap ks, v = .slice a ks.length cap ∧ ks.length ≤ maxLen ∧ ActsAt a ks W := by
  obtain ⟨a0, len0, cap0, rfl⟩ := okWide_slice Try.underlying22 hv
  obtain ⟨fuel, hf⟩ := h
  rcases open_slice Try.underlying22 hf with ⟨hcs, _⟩ | ⟨a, len, cap, m, n, D, Pl, hcs, hb, hl, hm, hmm, hx, hi⟩
  · simp [Value.cells] at hcs
    obtain ⟨rfl, rfl, rfl⟩ := hcs
    exact ⟨none, 0, [], rfl, Nat.zero_le _, fun j x hj => by simp at hj⟩
  · simp [Value.cells] at hcs
    obtain ⟨rfl, rfl, rfl⟩ := hcs
    have hlm : len0 ≤ m := by rw [hmm]; split <;> omega
    obtain ⟨ks, hel, heq⟩ := list_of (Q := fun i (k : Ac) => (∀ j v, (acs k).toList[j]? = some v → W.cell? ((a.add (i * 7)).add j) = some v) ∧ Fine k.name) len0 (fun i hil => by
      obtain ⟨cs', hc, ht⟩ := hi i (by omega)
      rw [cellsOfA] at hc
      obtain ⟨k, rfl, hs⟩ := open_act ht
      obtain ⟨_, hcl, hat⟩ := World.cells?_some hc
      exact ⟨k, fun j v hv => by
        have hj : j < 7 := by have := (List.getElem?_eq_some_iff.1 hv).1; simpa [acs] using this
        rw [hat j hj, hv], hs⟩)
    refine ⟨some a, cap0, ks, by rw [hel], by omega, fun j k hk => ?_⟩
    obtain ⟨h0, h1⟩ := heq j k hk
    obtain ⟨b, off, sp⟩ := a
    have hsp : sp = none := by
      have h00 := (heq 0 (ks[0]'(by have := (List.getElem?_eq_some_iff.1 hk).1; omega)) (by simp)).1 0 _ rfl
      simpa [Addr.add] using World.cell?_spot h00
    subst hsp
    have e2 : (⟨b, off, none⟩ : Addr).add (j * 7) = ⟨b, off + j * 7, none⟩ := by unfold Addr.add; split <;> simp_all
    rw [e2] at h0
    have hbl := World.block_lt_of_cell? W _ (h0 0 _ rfl)
    refine ⟨b, off, rfl, ?_, fun i v hv => ?_, h1⟩
    · have e3 : (⟨b, off + j * 7, none⟩ : Addr).add 0 = ⟨b, off + j * 7, none⟩ := by unfold Addr.add; split <;> simp_all
      rw [e3] at hbl
      exact hbl
    · have := h0 i v hv
      have e4 : (⟨b, off + j * 7, none⟩ : Addr).add i = ⟨b, off + j * 7 + i, none⟩ := by unfold Addr.add; split <;> simp_all
      rw [e4] at this
      exact this
end Go.Proofs.Ytglnihecgjfkiaa.Sc
