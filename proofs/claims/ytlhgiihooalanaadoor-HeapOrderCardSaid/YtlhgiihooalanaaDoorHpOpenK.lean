/-
  A list of keys that came in: its parts.
-/
import Derived.Test.YtlhgiihooalanaaDoorRows
import Derived.Test.YtlhgiihooalanaaDoorHpEqK
import Derived.ProofKit
import Derived.OpenShut
import Derived.ChangeArms
import Derived.Deep.Slices
import Derived.Lib.SmallJoins
namespace Go.Proofs.YtlhgiihooalanaaDoor.Hp
open Go Go.RowKit Go.ChangeShapes Go.WideShapes Go.Deep Go.Proofs.YtlhgiihooalanaaDoor.Keys
set_option linter.unusedVariables false
set_option linter.unusedSimpArgs false
theorem kn_bds {n : Int} (h : (Lit.int .i64 n).wf = true) : -9223372036854775808 ≤ n ∧ n ≤ 9223372036854775807 := by
  have e1 : IntKind.i64.min = -9223372036854775808 := rfl
  have e2 : IntKind.i64.max = 9223372036854775807 := rfl
  simp [Lit.wf, e1, e2] at h
  omega
theorem cellsOfK : Tryd.prog.cellsOf 35 = 2 := by kernel_rfl
theorem cellsOfI : Tryd.prog.cellsOf 3 = 1 := by kernel_rfl
theorem cellsOfS : Tryd.prog.cellsOf 9 = 1 := by kernel_rfl
section
variable {H : Type} {enc : TypeId × Value → H} {w : World} {base : Nat} {spare : Nat → Bool} {held : Bool}
set_option maxRecDepth 100000 in
set_option maxHeartbeats 2000000 in
theorem open_key {m : Nat} {cs : List Value} {y : DataW H × List MemPlace} (h : DataW.trod enc Tryd.prog w base spare held m 35 cs = some y) : ∃ (s : ByteArray) (n : Int), cs = [.string s, .int .i64 n] ∧ -9223372036854775808 ≤ n ∧ n ≤ 9223372036854775807 := by
  obtain ⟨xs, n, _, hx, hl, hlen, hg⟩ := DataW.trod_struct Tryd.underlying35 h
  rw [cellsOfK] at hl
  match cs, hl with
  | [c0, c1], _ =>
    match xs, hlen with
    | [y0, y1], _ =>
      have g0 : DataW.trod enc Tryd.prog w base spare held n 9 (([c0, c1].drop 0).take (Tryd.prog.cellsOf 9)) = [y0, y1][0]? := hg 0 _ rfl
      rw [cellsOfS] at g0
      have g0 : DataW.trod enc Tryd.prog w base spare held n 9 [c0] = some y0 := g0
      have g1 : DataW.trod enc Tryd.prog w base spare held n 3 (([c0, c1].drop 1).take (Tryd.prog.cellsOf 3)) = [y0, y1][1]? := hg 1 _ rfl
      rw [cellsOfI] at g1
      have g1 : DataW.trod enc Tryd.prog w base spare held n 3 [c1] = some y1 := g1
      obtain ⟨s, hs, _, _⟩ := DataW.trod_string Tryd.underlying9 g0
      obtain ⟨q, hq, _, wq⟩ := DataW.trod_int Tryd.underlying3 g1
      simp only [List.cons.injEq, and_true] at hs hq
      subst hs hq
      exact ⟨s, q, rfl, kn_bds wq⟩
end
theorem list_of {α : Type} {Q : Nat → α → Prop} : ∀ n, (∀ i, i < n → ∃ x, Q i x) → ∃ l : List α, l.length = n ∧ ∀ i x, l[i]? = some x → Q i x := by
  intro n
  induction n with
  | zero => intro _; exact ⟨[], rfl, fun i x h => by simp at h⟩
  | succ n ih =>
    intro h
    obtain ⟨l, hl, hq⟩ := ih fun i hi => h i (by omega)
    obtain ⟨x, hx⟩ := h n (by omega)
    refine ⟨l ++ [x], by simp [hl], fun i y hy => ?_⟩
    rcases Nat.lt_or_ge i n with hi | hi
    · rw [List.getElem?_append_left (by omega)] at hy
      exact hq i y hy
    · rw [List.getElem?_append_right (by omega)] at hy
      have hi0 : i - l.length = 0 := by
        have := (List.getElem?_eq_some_iff.1 hy).1
        simp at this
        omega
      rw [hi0] at hy
      simp at hy
      subst hy
      rw [show i = n by omega]
      exact hx
set_option maxRecDepth 100000 in
set_option maxHeartbeats 2000000 in
/-- A list of keys that came in. -/
theorem open_ks {H : Type} {enc : TypeId × Value → H} {W : World} {base b0 : Nat} {r : Reach} {spare : Nat → Bool} {held : Bool} {v : Value} {d : DataW H} {p : List MemPlace} (hv : Value.okWide Tryd.prog W r b0 22 v) (h : DataW.Trod enc Tryd.prog W base spare held 22 v d p) :
    ∃ a cap ks, v = .slice a ks.length cap ∧ ks.length ≤ maxLen ∧ KeysAt a ks W ∧ ∀ k ∈ ks, -9223372036854775808 ≤ k.2 ∧ k.2 ≤ 9223372036854775807 := by
  obtain ⟨a0, len0, cap0, rfl⟩ := okWide_slice Tryd.underlying22 hv
  obtain ⟨fuel, hf⟩ := h
  rcases open_slice Tryd.underlying22 hf with ⟨hcs, _⟩ | ⟨a, len, cap, m, n, D, Pl, hcs, hb, hl, hm, hmm, hx, hi⟩
  · simp [Value.cells] at hcs
    obtain ⟨rfl, rfl, rfl⟩ := hcs
    exact ⟨none, 0, [], rfl, Nat.zero_le _, keysAt_nil _ _, fun e he => by cases he⟩
  · simp [Value.cells] at hcs
    obtain ⟨rfl, rfl, rfl⟩ := hcs
    have hlm : len0 ≤ m := by rw [hmm]; split <;> omega
    have hd : d = .slice ((List.range len0).map D) ((List.range (m - len0)).map fun j => D (len0 + j)) := by simpa using congrArg Prod.fst hx
    obtain ⟨ks, hel, heq⟩ := list_of (Q := fun i (k : KV) => (W.cell? ((a.add (i * 2)).add 0) = some (.string k.1) ∧ W.cell? ((a.add (i * 2)).add 1) = some (.int .i64 k.2)) ∧ (-9223372036854775808 ≤ k.2 ∧ k.2 ≤ 9223372036854775807)) len0 (fun i hil => by
      obtain ⟨cs', hc, ht⟩ := hi i (by omega)
      rw [cellsOfK] at hc
      obtain ⟨s, n, rfl, hs⟩ := open_key ht
      obtain ⟨_, hcl, hat⟩ := World.cells?_some hc
      exact ⟨(s, n), ⟨by rw [hat 0 (by omega)]; rfl, by rw [hat 1 (by omega)]; rfl⟩, hs⟩)
    refine ⟨some a, cap0, ks, by rw [hel], by omega, fun j k hk => ?_, fun k hk => ?_⟩
    · obtain ⟨⟨h0, h1⟩, _⟩ := heq j k hk
      obtain ⟨b, off, sp⟩ := a
      have hsp : sp = none := by
        have h00 := (heq 0 (ks[0]'(by have := (List.getElem?_eq_some_iff.1 hk).1; omega)) (by simp)).1.1
        simpa [Addr.add] using World.cell?_spot h00
      subst hsp
      have hbl := World.block_lt_of_cell? W _ h0
      have e2 : (⟨b, off, none⟩ : Addr).add (j * 2) = ⟨b, off + j * 2, none⟩ := by unfold Addr.add; split <;> simp_all
      have e3 : (⟨b, off + j * 2, none⟩ : Addr).add 0 = ⟨b, off + j * 2, none⟩ := by unfold Addr.add; split <;> simp_all
      have e4 : (⟨b, off + j * 2, none⟩ : Addr).add 1 = ⟨b, off + j * 2 + 1, none⟩ := by unfold Addr.add; split <;> simp_all
      rw [e2, e3] at h0 hbl
      rw [e2, e4] at h1
      exact ⟨b, off, rfl, hbl, h0, h1⟩
    · obtain ⟨i, hi1, hi2⟩ := List.getElem_of_mem hk
      exact (heq i k (by rw [List.getElem?_eq_getElem hi1, hi2])).2
end Go.Proofs.YtlhgiihooalanaaDoor.Hp
