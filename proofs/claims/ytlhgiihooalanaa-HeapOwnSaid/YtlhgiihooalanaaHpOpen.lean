/-
  A Thing and a key that came in: their parts.
-/
import Derived.Test.YtlhgiihooalanaaRows
import Derived.Test.YtlhgiihooalanaaHpLawOwn
import Derived.ProofKit
import Derived.OpenShut
import Derived.ChangeArms
import Derived.Deep.Slices
import Derived.Lib.SmallJoins
namespace Go.Proofs.Ytlhgiihooalanaa.Hp
open Go Go.RowKit Go.ChangeShapes Go.WideShapes Go.Deep Go.Proofs.Ytlhgiihooalanaa.Keys
set_option linter.unusedVariables false
set_option linter.unusedSimpArgs false
theorem kn_bds {n : Int} (h : (Lit.int .i64 n).wf = true) : -9223372036854775808 ≤ n ∧ n ≤ 9223372036854775807 := by
  have e1 : IntKind.i64.min = -9223372036854775808 := rfl
  have e2 : IntKind.i64.max = 9223372036854775807 := rfl
  simp [Lit.wf, e1, e2] at h
  omega
theorem cellsOfV : Try.prog.cellsOf 23 = 3 := by kernel_rfl
theorem cellsOfI : Try.prog.cellsOf 3 = 1 := by kernel_rfl
theorem cellsOfS : Try.prog.cellsOf 9 = 1 := by kernel_rfl
theorem cellsOfB : Try.prog.cellsOf 4 = 1 := by kernel_rfl
theorem cellsOfD : Try.prog.cellsOf 38 = 18 := by kernel_rfl
theorem cellsOfK : Try.prog.cellsOf 29 = 2 := by kernel_rfl
theorem cellsOfE : Try.prog.cellsOf 40 = 20 := by kernel_rfl
theorem cellsOfT : Try.prog.cellsOf 27 = 24 := by kernel_rfl
theorem cellsOfEs : Try.prog.cellsOf 24 = 1 := by kernel_rfl
theorem cellsOfVs : Try.prog.cellsOf 25 = 1 := by kernel_rfl
section
variable {H : Type} {enc : TypeId × Value → H} {w : World} {base : Nat} {spare : Nat → Bool} {held : Bool}
set_option maxRecDepth 100000 in
set_option maxHeartbeats 2000000 in
theorem open_val {m : Nat} {cs : List Value} {y : DataW H × List MemPlace} (h : DataW.trod enc Try.prog w base spare held m 23 cs = some y) : ∃ v : Vl, cs = [.int .i64 v.k, .int .i64 v.n, .string v.s] := by
  obtain ⟨xs, n, _, hx, hl, hlen, hg⟩ := DataW.trod_struct Try.underlying23 h
  rw [cellsOfV] at hl
  match cs, hl with
  | [c0, c1, c2], _ =>
    match xs, hlen with
    | [y0, y1, y2], _ =>
      have g0 : DataW.trod enc Try.prog w base spare held n 3 (([c0, c1, c2].drop 0).take (Try.prog.cellsOf 3)) = [y0, y1, y2][0]? := hg 0 _ rfl
      rw [cellsOfI] at g0
      have g0 : DataW.trod enc Try.prog w base spare held n 3 [c0] = some y0 := g0
      have g1 : DataW.trod enc Try.prog w base spare held n 3 (([c0, c1, c2].drop 1).take (Try.prog.cellsOf 3)) = [y0, y1, y2][1]? := hg 1 _ rfl
      rw [cellsOfI] at g1
      have g1 : DataW.trod enc Try.prog w base spare held n 3 [c1] = some y1 := g1
      have g2 : DataW.trod enc Try.prog w base spare held n 9 (([c0, c1, c2].drop 2).take (Try.prog.cellsOf 9)) = [y0, y1, y2][2]? := hg 2 _ rfl
      rw [cellsOfS] at g2
      have g2 : DataW.trod enc Try.prog w base spare held n 9 [c2] = some y2 := g2
      obtain ⟨k, hk, _, _⟩ := DataW.trod_int Try.underlying3 g0
      obtain ⟨q, hq, _, _⟩ := DataW.trod_int Try.underlying3 g1
      obtain ⟨s, hs, _, _⟩ := DataW.trod_string Try.underlying9 g2
      simp only [List.cons.injEq, and_true] at hk hq hs
      subst hk hq hs
      exact ⟨⟨k, q, s⟩, rfl⟩
set_option maxRecDepth 100000 in
set_option maxHeartbeats 2000000 in
theorem open_key {m : Nat} {cs : List Value} {y : DataW H × List MemPlace} (h : DataW.trod enc Try.prog w base spare held m 29 cs = some y) : ∃ (s : ByteArray) (n : Int), cs = [.string s, .int .i64 n] ∧ -9223372036854775808 ≤ n ∧ n ≤ 9223372036854775807 := by
  obtain ⟨xs, n, _, hx, hl, hlen, hg⟩ := DataW.trod_struct Try.underlying29 h
  rw [cellsOfK] at hl
  match cs, hl with
  | [c0, c1], _ =>
    match xs, hlen with
    | [y0, y1], _ =>
      have g0 : DataW.trod enc Try.prog w base spare held n 9 (([c0, c1].drop 0).take (Try.prog.cellsOf 9)) = [y0, y1][0]? := hg 0 _ rfl
      rw [cellsOfS] at g0
      have g0 : DataW.trod enc Try.prog w base spare held n 9 [c0] = some y0 := g0
      have g1 : DataW.trod enc Try.prog w base spare held n 3 (([c0, c1].drop 1).take (Try.prog.cellsOf 3)) = [y0, y1][1]? := hg 1 _ rfl
      rw [cellsOfI] at g1
      have g1 : DataW.trod enc Try.prog w base spare held n 3 [c1] = some y1 := g1
      obtain ⟨s, hs, _, _⟩ := DataW.trod_string Try.underlying9 g0
      obtain ⟨q, hq, _, wq⟩ := DataW.trod_int Try.underlying3 g1
      simp only [List.cons.injEq, and_true] at hs hq
      subst hs hq
      exact ⟨s, q, rfl, kn_bds wq⟩
set_option maxRecDepth 100000 in
set_option maxHeartbeats 2000000 in
theorem open_desc {m : Nat} {cs : List Value} {y : DataW H × List MemPlace} (h : DataW.trod enc Try.prog w base spare held m 38 cs = some y) : ∃ d : Ds, cs = (dcs d).toList := by
  obtain ⟨xs, n, _, hx, hl, hlen, hg⟩ := DataW.trod_struct Try.underlying38 h
  rw [cellsOfD] at hl
  match cs, hl with
  | [c0, c1, c2, c3, c4, c5, c6, c7, c8, c9, c10, c11, c12, c13, c14, c15, c16, c17], _ =>
    match xs, hlen with
    | [y0, y1, y2, y3, y4, y5, y6, y7, y8, y9, y10, y11], _ =>
      have g0 : DataW.trod enc Try.prog w base spare held n 4 (([c0, c1, c2, c3, c4, c5, c6, c7, c8, c9, c10, c11, c12, c13, c14, c15, c16, c17].drop 0).take (Try.prog.cellsOf 4)) = [y0, y1, y2, y3, y4, y5, y6, y7, y8, y9, y10, y11][0]? := hg 0 _ rfl
      rw [cellsOfB] at g0
      have g0 : DataW.trod enc Try.prog w base spare held n 4 [c0] = some y0 := g0
      have g1 : DataW.trod enc Try.prog w base spare held n 4 (([c0, c1, c2, c3, c4, c5, c6, c7, c8, c9, c10, c11, c12, c13, c14, c15, c16, c17].drop 1).take (Try.prog.cellsOf 4)) = [y0, y1, y2, y3, y4, y5, y6, y7, y8, y9, y10, y11][1]? := hg 1 _ rfl
      rw [cellsOfB] at g1
      have g1 : DataW.trod enc Try.prog w base spare held n 4 [c1] = some y1 := g1
      have g2 : DataW.trod enc Try.prog w base spare held n 4 (([c0, c1, c2, c3, c4, c5, c6, c7, c8, c9, c10, c11, c12, c13, c14, c15, c16, c17].drop 2).take (Try.prog.cellsOf 4)) = [y0, y1, y2, y3, y4, y5, y6, y7, y8, y9, y10, y11][2]? := hg 2 _ rfl
      rw [cellsOfB] at g2
      have g2 : DataW.trod enc Try.prog w base spare held n 4 [c2] = some y2 := g2
      have g3 : DataW.trod enc Try.prog w base spare held n 4 (([c0, c1, c2, c3, c4, c5, c6, c7, c8, c9, c10, c11, c12, c13, c14, c15, c16, c17].drop 3).take (Try.prog.cellsOf 4)) = [y0, y1, y2, y3, y4, y5, y6, y7, y8, y9, y10, y11][3]? := hg 3 _ rfl
      rw [cellsOfB] at g3
      have g3 : DataW.trod enc Try.prog w base spare held n 4 [c3] = some y3 := g3
      have g4 : DataW.trod enc Try.prog w base spare held n 4 (([c0, c1, c2, c3, c4, c5, c6, c7, c8, c9, c10, c11, c12, c13, c14, c15, c16, c17].drop 4).take (Try.prog.cellsOf 4)) = [y0, y1, y2, y3, y4, y5, y6, y7, y8, y9, y10, y11][4]? := hg 4 _ rfl
      rw [cellsOfB] at g4
      have g4 : DataW.trod enc Try.prog w base spare held n 4 [c4] = some y4 := g4
      have g5 : DataW.trod enc Try.prog w base spare held n 4 (([c0, c1, c2, c3, c4, c5, c6, c7, c8, c9, c10, c11, c12, c13, c14, c15, c16, c17].drop 5).take (Try.prog.cellsOf 4)) = [y0, y1, y2, y3, y4, y5, y6, y7, y8, y9, y10, y11][5]? := hg 5 _ rfl
      rw [cellsOfB] at g5
      have g5 : DataW.trod enc Try.prog w base spare held n 4 [c5] = some y5 := g5
      have g6 : DataW.trod enc Try.prog w base spare held n 23 (([c0, c1, c2, c3, c4, c5, c6, c7, c8, c9, c10, c11, c12, c13, c14, c15, c16, c17].drop 6).take (Try.prog.cellsOf 23)) = [y0, y1, y2, y3, y4, y5, y6, y7, y8, y9, y10, y11][6]? := hg 6 _ rfl
      rw [cellsOfV] at g6
      have g6 : DataW.trod enc Try.prog w base spare held n 23 [c6, c7, c8] = some y6 := g6
      have g7 : DataW.trod enc Try.prog w base spare held n 23 (([c0, c1, c2, c3, c4, c5, c6, c7, c8, c9, c10, c11, c12, c13, c14, c15, c16, c17].drop 9).take (Try.prog.cellsOf 23)) = [y0, y1, y2, y3, y4, y5, y6, y7, y8, y9, y10, y11][7]? := hg 7 _ rfl
      rw [cellsOfV] at g7
      have g7 : DataW.trod enc Try.prog w base spare held n 23 [c9, c10, c11] = some y7 := g7
      have g8 : DataW.trod enc Try.prog w base spare held n 23 (([c0, c1, c2, c3, c4, c5, c6, c7, c8, c9, c10, c11, c12, c13, c14, c15, c16, c17].drop 12).take (Try.prog.cellsOf 23)) = [y0, y1, y2, y3, y4, y5, y6, y7, y8, y9, y10, y11][8]? := hg 8 _ rfl
      rw [cellsOfV] at g8
      have g8 : DataW.trod enc Try.prog w base spare held n 23 [c12, c13, c14] = some y8 := g8
      have g9 : DataW.trod enc Try.prog w base spare held n 4 (([c0, c1, c2, c3, c4, c5, c6, c7, c8, c9, c10, c11, c12, c13, c14, c15, c16, c17].drop 15).take (Try.prog.cellsOf 4)) = [y0, y1, y2, y3, y4, y5, y6, y7, y8, y9, y10, y11][9]? := hg 9 _ rfl
      rw [cellsOfB] at g9
      have g9 : DataW.trod enc Try.prog w base spare held n 4 [c15] = some y9 := g9
      have g10 : DataW.trod enc Try.prog w base spare held n 4 (([c0, c1, c2, c3, c4, c5, c6, c7, c8, c9, c10, c11, c12, c13, c14, c15, c16, c17].drop 16).take (Try.prog.cellsOf 4)) = [y0, y1, y2, y3, y4, y5, y6, y7, y8, y9, y10, y11][10]? := hg 10 _ rfl
      rw [cellsOfB] at g10
      have g10 : DataW.trod enc Try.prog w base spare held n 4 [c16] = some y10 := g10
      have g11 : DataW.trod enc Try.prog w base spare held n 4 (([c0, c1, c2, c3, c4, c5, c6, c7, c8, c9, c10, c11, c12, c13, c14, c15, c16, c17].drop 17).take (Try.prog.cellsOf 4)) = [y0, y1, y2, y3, y4, y5, y6, y7, y8, y9, y10, y11][11]? := hg 11 _ rfl
      rw [cellsOfB] at g11
      have g11 : DataW.trod enc Try.prog w base spare held n 4 [c17] = some y11 := g11
      obtain ⟨x0, h0, _⟩ := DataW.trod_bool Try.underlying4 g0
      obtain ⟨x1, h1, _⟩ := DataW.trod_bool Try.underlying4 g1
      obtain ⟨x2, h2, _⟩ := DataW.trod_bool Try.underlying4 g2
      obtain ⟨x3, h3, _⟩ := DataW.trod_bool Try.underlying4 g3
      obtain ⟨x4, h4, _⟩ := DataW.trod_bool Try.underlying4 g4
      obtain ⟨x5, h5, _⟩ := DataW.trod_bool Try.underlying4 g5
      obtain ⟨x6, h6⟩ := open_val g6
      obtain ⟨x7, h7⟩ := open_val g7
      obtain ⟨x8, h8⟩ := open_val g8
      obtain ⟨x9, h9, _⟩ := DataW.trod_bool Try.underlying4 g9
      obtain ⟨x10, h10, _⟩ := DataW.trod_bool Try.underlying4 g10
      obtain ⟨x11, h11, _⟩ := DataW.trod_bool Try.underlying4 g11
      simp only [List.cons.injEq, and_true] at h0 h1 h2 h3 h4 h5 h6 h7 h8 h9 h10 h11
      obtain ⟨h6a, h6b, h6c⟩ := h6
      obtain ⟨h7a, h7b, h7c⟩ := h7
      obtain ⟨h8a, h8b, h8c⟩ := h8
      subst h0 h1 h2 h3 h4 h5 h6a h6b h6c h7a h7b h7c h8a h8b h8c h9 h10 h11
      exact ⟨⟨x0, x1, x2, x3, x4, x5, x6, x7, x8, x9, x10, x11⟩, rfl⟩
theorem ecs_split (s : ByteArray) (n : Int) (d : Ds) : [.string s, .int .i64 n] ++ (dcs d).toList = (ecs ⟨s, n, d⟩).toList := rfl
set_option maxRecDepth 100000 in
theorem open_entry {m : Nat} {cs : List Value} {y : DataW H × List MemPlace} (h : DataW.trod enc Try.prog w base spare held m 40 cs = some y) : ∃ e : En, cs = (ecs e).toList ∧ -9223372036854775808 ≤ e.kn ∧ e.kn ≤ 9223372036854775807 := by
  obtain ⟨xs, n, _, hx, hl, hlen, hg⟩ := DataW.trod_struct Try.underlying40 h
  rw [cellsOfE] at hl
  match xs, hlen with
  | [y0, y1], _ =>
    have g0 : DataW.trod enc Try.prog w base spare held n 29 ((cs.drop 0).take (Try.prog.cellsOf 29)) = [y0, y1][0]? := hg 0 _ rfl
    have g1 : DataW.trod enc Try.prog w base spare held n 38 ((cs.drop 2).take (Try.prog.cellsOf 38)) = [y0, y1][1]? := hg 1 _ rfl
    rw [cellsOfK, List.drop_zero] at g0
    rw [cellsOfD] at g1
    obtain ⟨s, k, hk, ws⟩ := open_key (y := y0) g0
    obtain ⟨d, hd⟩ := open_desc (y := y1) g1
    refine ⟨⟨s, k, d⟩, ?_, ws⟩
    rw [← ecs_split, ← hk, ← hd, List.take_of_length_le (l := cs.drop 2) (by rw [List.length_drop, hl]; omega), List.take_append_drop]
end
theorem list_of {α : Type} {Q : Nat → α → Prop} : ∀ n, (∀ i, i < n → ∃ x, Q i x) → ∃ l : List α, l.length = n ∧ ∀ i x, l[i]? = some x → Q i x := by
  intro n
  induction n with
  | zero => intro _; exact ⟨[], rfl, fun i x h => by simp at h⟩
  | succ n ih =>
    intro h
    obtain ⟨l, hl, hq⟩ := ih fun i hi => h i (by omega)
    obtain ⟨x, hx⟩ := h n (by omega)
    refine ⟨l ++ [x], by simp [hl], fun i y hy => ?_⟩
    rcases Nat.lt_or_ge i n with hi | hi
    · rw [List.getElem?_append_left (by omega)] at hy
      exact hq i y hy
    · rw [List.getElem?_append_right (by omega)] at hy
      have hi0 : i - l.length = 0 := by
        have := (List.getElem?_eq_some_iff.1 hy).1
        simp at this
        omega
      rw [hi0] at hy
      simp at hy
      subst hy
      rw [show i = n by omega]
      exact hx
/-- Where a cell of a list laid flat comes from. -/
theorem flat_get {α : Type} (c : α → List Value) (size : Nat) (hs : ∀ x, (c x).length = size) : ∀ (l : List α) (k : Nat) (u : Value), (l.flatMap c)[k]? = some u → ∃ i j x, k = i * size + j ∧ l[i]? = some x ∧ (c x)[j]? = some u
  | [], k, u, h => by simp at h
  | a :: r, k, u, h => by
    rw [List.flatMap_cons] at h
    by_cases hk : k < size
    · rw [List.getElem?_append_left (by rw [hs]; exact hk)] at h
      exact ⟨0, k, a, by omega, rfl, h⟩
    · rw [List.getElem?_append_right (by rw [hs]; omega), hs] at h
      obtain ⟨i, j, x, e, hx, hu⟩ := flat_get c size hs r _ u h
      exact ⟨i + 1, j, x, by rw [Nat.succ_mul]; omega, hx, hu⟩
theorem add_plain (b off j : Nat) : (⟨b, off, none⟩ : Addr).add j = ⟨b, off + j, none⟩ := by
  unfold Addr.add
  split
  · next h => have : j = 0 := by simpa using h
              subst this; rfl
  · rfl
/-- The cells of a list that came in: none, or at an address without a spot. -/
theorem flat_at {α : Type} (c : α → List Value) (size : Nat) (hs : ∀ x, (c x).length = size) (hp : 0 < size) (a : Addr) (l : List α) (W : World) (h : ∀ i x, l[i]? = some x → ∀ j v, (c x)[j]? = some v → W.cell? ((a.add (i * size)).add j) = some v) :
    l = [] ∨ ∃ b off, a = ⟨b, off, none⟩ ∧ b < W.heap.size ∧ W.rangeAt b off (l.flatMap c) := by
  by_cases hl : l = []
  · exact .inl hl
  · right
    obtain ⟨b, off, sp⟩ := a
    obtain ⟨x, hx⟩ : ∃ x, l[0]? = some x := by
      cases l with
      | nil => exact absurd rfl hl
      | cons x r => exact ⟨x, rfl⟩
    obtain ⟨v, hv⟩ : ∃ v, (c x)[0]? = some v := ⟨(c x)[0]'(by rw [hs]; exact hp), by simp⟩
    have h0 := h 0 x hx 0 v hv
    have hsp : sp = none := by simpa [Addr.add] using World.cell?_spot h0
    subst hsp
    have hb := World.block_lt_of_cell? W _ h0
    have hb2 : (((⟨b, off, none⟩ : Addr).add (0 * size)).add 0).block = b := by rw [add_plain, add_plain]
    rw [hb2] at hb
    refine ⟨b, off, rfl, hb, fun k u hu => ?_⟩
    obtain ⟨i, j, y, rfl, hy, hj⟩ := flat_get c size hs l k u hu
    have := h i y hy j u hj
    have e2 : ((⟨b, off, none⟩ : Addr).add (i * size)).add j = ⟨b, off + (i * size + j), none⟩ := by
      rw [add_plain, add_plain, Nat.add_assoc]
    rwa [e2] at this
section
variable {H : Type} {enc : TypeId × Value → H} {w : World} {base : Nat} {spare : Nat → Bool} {held : Bool}
/-- A list of properties that came in. -/
theorem open_es {m : Nat} {cs : List Value} {y : DataW H × List MemPlace} (h : DataW.trod enc Try.prog w base spare held m 24 cs = some y) :
    ∃ a c es, cs = [.slice a es.length c] ∧ EsAt w.heap.size a es w ∧ Src a es.length c w.heap.size (cellsE es) w ∧ (∀ e ∈ es, -9223372036854775808 ≤ e.kn ∧ e.kn ≤ 9223372036854775807) ∧ es.length ≤ maxLen := by
  rcases open_slice Try.underlying24 h with ⟨rfl, _⟩ | ⟨a, len, cap, m, n, D, Pl, rfl, hb, hl, hm, hmm, hx, hi⟩
  · exact ⟨none, 0, [], rfl, (fun j e he => by simp at he), .inl ⟨rfl, rfl, rfl⟩, (fun e he => by cases he), Nat.zero_le _⟩
  · have hlm : len ≤ m := by rw [hmm]; split <;> omega
    obtain ⟨es, hel, heq⟩ := list_of (Q := fun i (e : En) => (∀ j v, (ecs e).toList[j]? = some v → w.cell? ((a.add (i * 20)).add j) = some v) ∧ -9223372036854775808 ≤ e.kn ∧ e.kn ≤ 9223372036854775807) len (fun i hil => by
      obtain ⟨cs', hc, ht⟩ := hi i (by omega)
      rw [cellsOfE] at hc
      obtain ⟨e, rfl, hs⟩ := open_entry ht
      obtain ⟨_, hcl, hat⟩ := World.cells?_some hc
      exact ⟨e, fun j v hv => by
        have hj : j < 20 := by have := (List.getElem?_eq_some_iff.1 hv).1; rw [ecs_list] at this; exact this
        rw [hat j hj, hv], hs⟩)
    refine ⟨some a, cap, es, by rw [hel], ?_, ?_, fun e he => ?_, by omega⟩
    · rcases flat_at (fun e : En => (ecs e).toList) 20 ecs_list (by omega) a es w (fun i x hx => (heq i x hx).1) with rfl | ⟨b, off, rfl, hlt, hr⟩
      · exact fun j e he => by simp at he
      · exact fun j e he => ⟨b, off, rfl, hlt, fun k v hv => by rw [Nat.add_assoc]; exact hr _ _ (cellsE_at es j e he k v hv)⟩
    · refine .inr ⟨a, rfl, ?_⟩
      rcases flat_at (fun e : En => (ecs e).toList) 20 ecs_list (by omega) a es w (fun i x hx => (heq i x hx).1) with rfl | ⟨b, off, rfl, hlt, hr⟩
      · exact fun j u hu => by simp [cellsE] at hu
      · exact fun j u hu => ⟨hlt, by rw [add_plain]; exact hr j u hu⟩
    · obtain ⟨i, hi1, hi2⟩ := List.getElem_of_mem he
      exact (heq i e (by rw [List.getElem?_eq_getElem hi1, hi2])).2
/-- A list of values that came in. -/
theorem open_vs {m : Nat} {cs : List Value} {y : DataW H × List MemPlace} (h : DataW.trod enc Try.prog w base spare held m 25 cs = some y) :
    ∃ a c vs, cs = [.slice a vs.length c] ∧ VsAt w.heap.size a vs w ∧ Src a vs.length c w.heap.size (cellsV vs) w ∧ vs.length ≤ maxLen := by
  rcases open_slice Try.underlying25 h with ⟨rfl, _⟩ | ⟨a, len, cap, m, n, D, Pl, rfl, hb, hl, hm, hmm, hx, hi⟩
  · exact ⟨none, 0, [], rfl, .inl rfl, .inl ⟨rfl, rfl, rfl⟩, Nat.zero_le _⟩
  · have hlm : len ≤ m := by rw [hmm]; split <;> omega
    obtain ⟨vs, hel, heq⟩ := list_of (Q := fun i (e : Vl) => ∀ j v, [Value.int .i64 e.k, .int .i64 e.n, .string e.s][j]? = some v → w.cell? ((a.add (i * 3)).add j) = some v) len (fun i hil => by
      obtain ⟨cs', hc, ht⟩ := hi i (by omega)
      rw [cellsOfV] at hc
      obtain ⟨e, rfl⟩ := open_val ht
      obtain ⟨_, hcl, hat⟩ := World.cells?_some hc
      exact ⟨e, fun j v hv => by
        have hj : j < 3 := (List.getElem?_eq_some_iff.1 hv).1
        rw [hat j hj, hv]⟩)
    have hf := flat_at (fun v : Vl => [Value.int .i64 v.k, .int .i64 v.n, .string v.s]) 3 (fun _ => rfl) (by omega) a vs w heq
    refine ⟨some a, cap, vs, by rw [hel], ?_, ?_, by omega⟩
    · rcases hf with rfl | ⟨b, off, rfl, hlt, hr⟩
      · exact .inl rfl
      · exact .inr ⟨b, off, rfl, hlt, hr⟩
    · refine .inr ⟨a, rfl, ?_⟩
      rcases hf with rfl | ⟨b, off, rfl, hlt, hr⟩
      · exact fun j u hu => by simp [cellsV] at hu
      · exact fun j u hu => ⟨hlt, by rw [add_plain]; exact hr j u hu⟩
set_option maxRecDepth 100000 in
set_option maxHeartbeats 2000000 in
theorem open_thing {m : Nat} {cs : List Value} {y : DataW H × List MemPlace} (h : DataW.trod enc Try.prog w base spare held m 27 cs = some y) : ∃ t pa aa pc ac es vs, cs = (tcs t).toList ∧ OwnIn t pa aa pc ac es vs w := by
  obtain ⟨xs, n, _, hx, hl, hlen, hg⟩ := DataW.trod_struct Try.underlying27 h
  rw [cellsOfT] at hl
  match cs, hl with
  | [c0, c1, c2, c3, c4, c5, c6, c7, c8, c9, c10, c11, c12, c13, c14, c15, c16, c17, c18, c19, c20, c21, c22, c23], _ =>
    match xs, hlen with
    | [y0, y1, y2, y3, y4, y5, y6, y7, y8, y9, y10, y11, y12, y13], _ =>
      have g0 : DataW.trod enc Try.prog w base spare held n 3 (([c0, c1, c2, c3, c4, c5, c6, c7, c8, c9, c10, c11, c12, c13, c14, c15, c16, c17, c18, c19, c20, c21, c22, c23].drop 0).take (Try.prog.cellsOf 3)) = [y0, y1, y2, y3, y4, y5, y6, y7, y8, y9, y10, y11, y12, y13][0]? := hg 0 _ rfl
      rw [cellsOfI] at g0
      have g0 : DataW.trod enc Try.prog w base spare held n 3 [c0] = some y0 := g0
      have g1 : DataW.trod enc Try.prog w base spare held n 23 (([c0, c1, c2, c3, c4, c5, c6, c7, c8, c9, c10, c11, c12, c13, c14, c15, c16, c17, c18, c19, c20, c21, c22, c23].drop 1).take (Try.prog.cellsOf 23)) = [y0, y1, y2, y3, y4, y5, y6, y7, y8, y9, y10, y11, y12, y13][1]? := hg 1 _ rfl
      rw [cellsOfV] at g1
      have g1 : DataW.trod enc Try.prog w base spare held n 23 [c1, c2, c3] = some y1 := g1
      have g2 : DataW.trod enc Try.prog w base spare held n 4 (([c0, c1, c2, c3, c4, c5, c6, c7, c8, c9, c10, c11, c12, c13, c14, c15, c16, c17, c18, c19, c20, c21, c22, c23].drop 4).take (Try.prog.cellsOf 4)) = [y0, y1, y2, y3, y4, y5, y6, y7, y8, y9, y10, y11, y12, y13][2]? := hg 2 _ rfl
      rw [cellsOfB] at g2
      have g2 : DataW.trod enc Try.prog w base spare held n 4 [c4] = some y2 := g2
      have g3 : DataW.trod enc Try.prog w base spare held n 24 (([c0, c1, c2, c3, c4, c5, c6, c7, c8, c9, c10, c11, c12, c13, c14, c15, c16, c17, c18, c19, c20, c21, c22, c23].drop 5).take (Try.prog.cellsOf 24)) = [y0, y1, y2, y3, y4, y5, y6, y7, y8, y9, y10, y11, y12, y13][3]? := hg 3 _ rfl
      rw [cellsOfEs] at g3
      have g3 : DataW.trod enc Try.prog w base spare held n 24 [c5] = some y3 := g3
      have g4 : DataW.trod enc Try.prog w base spare held n 3 (([c0, c1, c2, c3, c4, c5, c6, c7, c8, c9, c10, c11, c12, c13, c14, c15, c16, c17, c18, c19, c20, c21, c22, c23].drop 6).take (Try.prog.cellsOf 3)) = [y0, y1, y2, y3, y4, y5, y6, y7, y8, y9, y10, y11, y12, y13][4]? := hg 4 _ rfl
      rw [cellsOfI] at g4
      have g4 : DataW.trod enc Try.prog w base spare held n 3 [c6] = some y4 := g4
      have g5 : DataW.trod enc Try.prog w base spare held n 3 (([c0, c1, c2, c3, c4, c5, c6, c7, c8, c9, c10, c11, c12, c13, c14, c15, c16, c17, c18, c19, c20, c21, c22, c23].drop 7).take (Try.prog.cellsOf 3)) = [y0, y1, y2, y3, y4, y5, y6, y7, y8, y9, y10, y11, y12, y13][5]? := hg 5 _ rfl
      rw [cellsOfI] at g5
      have g5 : DataW.trod enc Try.prog w base spare held n 3 [c7] = some y5 := g5
      have g6 : DataW.trod enc Try.prog w base spare held n 23 (([c0, c1, c2, c3, c4, c5, c6, c7, c8, c9, c10, c11, c12, c13, c14, c15, c16, c17, c18, c19, c20, c21, c22, c23].drop 8).take (Try.prog.cellsOf 23)) = [y0, y1, y2, y3, y4, y5, y6, y7, y8, y9, y10, y11, y12, y13][6]? := hg 6 _ rfl
      rw [cellsOfV] at g6
      have g6 : DataW.trod enc Try.prog w base spare held n 23 [c8, c9, c10] = some y6 := g6
      have g7 : DataW.trod enc Try.prog w base spare held n 23 (([c0, c1, c2, c3, c4, c5, c6, c7, c8, c9, c10, c11, c12, c13, c14, c15, c16, c17, c18, c19, c20, c21, c22, c23].drop 11).take (Try.prog.cellsOf 23)) = [y0, y1, y2, y3, y4, y5, y6, y7, y8, y9, y10, y11, y12, y13][7]? := hg 7 _ rfl
      rw [cellsOfV] at g7
      have g7 : DataW.trod enc Try.prog w base spare held n 23 [c11, c12, c13] = some y7 := g7
      have g8 : DataW.trod enc Try.prog w base spare held n 23 (([c0, c1, c2, c3, c4, c5, c6, c7, c8, c9, c10, c11, c12, c13, c14, c15, c16, c17, c18, c19, c20, c21, c22, c23].drop 14).take (Try.prog.cellsOf 23)) = [y0, y1, y2, y3, y4, y5, y6, y7, y8, y9, y10, y11, y12, y13][8]? := hg 8 _ rfl
      rw [cellsOfV] at g8
      have g8 : DataW.trod enc Try.prog w base spare held n 23 [c14, c15, c16] = some y8 := g8
      have g9 : DataW.trod enc Try.prog w base spare held n 23 (([c0, c1, c2, c3, c4, c5, c6, c7, c8, c9, c10, c11, c12, c13, c14, c15, c16, c17, c18, c19, c20, c21, c22, c23].drop 17).take (Try.prog.cellsOf 23)) = [y0, y1, y2, y3, y4, y5, y6, y7, y8, y9, y10, y11, y12, y13][9]? := hg 9 _ rfl
      rw [cellsOfV] at g9
      have g9 : DataW.trod enc Try.prog w base spare held n 23 [c17, c18, c19] = some y9 := g9
      have g10 : DataW.trod enc Try.prog w base spare held n 25 (([c0, c1, c2, c3, c4, c5, c6, c7, c8, c9, c10, c11, c12, c13, c14, c15, c16, c17, c18, c19, c20, c21, c22, c23].drop 20).take (Try.prog.cellsOf 25)) = [y0, y1, y2, y3, y4, y5, y6, y7, y8, y9, y10, y11, y12, y13][10]? := hg 10 _ rfl
      rw [cellsOfVs] at g10
      have g10 : DataW.trod enc Try.prog w base spare held n 25 [c20] = some y10 := g10
      have g11 : DataW.trod enc Try.prog w base spare held n 4 (([c0, c1, c2, c3, c4, c5, c6, c7, c8, c9, c10, c11, c12, c13, c14, c15, c16, c17, c18, c19, c20, c21, c22, c23].drop 21).take (Try.prog.cellsOf 4)) = [y0, y1, y2, y3, y4, y5, y6, y7, y8, y9, y10, y11, y12, y13][11]? := hg 11 _ rfl
      rw [cellsOfB] at g11
      have g11 : DataW.trod enc Try.prog w base spare held n 4 [c21] = some y11 := g11
      have g12 : DataW.trod enc Try.prog w base spare held n 4 (([c0, c1, c2, c3, c4, c5, c6, c7, c8, c9, c10, c11, c12, c13, c14, c15, c16, c17, c18, c19, c20, c21, c22, c23].drop 22).take (Try.prog.cellsOf 4)) = [y0, y1, y2, y3, y4, y5, y6, y7, y8, y9, y10, y11, y12, y13][12]? := hg 12 _ rfl
      rw [cellsOfB] at g12
      have g12 : DataW.trod enc Try.prog w base spare held n 4 [c22] = some y12 := g12
      have g13 : DataW.trod enc Try.prog w base spare held n 3 (([c0, c1, c2, c3, c4, c5, c6, c7, c8, c9, c10, c11, c12, c13, c14, c15, c16, c17, c18, c19, c20, c21, c22, c23].drop 23).take (Try.prog.cellsOf 3)) = [y0, y1, y2, y3, y4, y5, y6, y7, y8, y9, y10, y11, y12, y13][13]? := hg 13 _ rfl
      rw [cellsOfI] at g13
      have g13 : DataW.trod enc Try.prog w base spare held n 3 [c23] = some y13 := g13
      obtain ⟨x0, h0, _, _⟩ := DataW.trod_int Try.underlying3 g0
      obtain ⟨x1, h1⟩ := open_val g1
      obtain ⟨x2, h2, _⟩ := DataW.trod_bool Try.underlying4 g2
      obtain ⟨pa, pc, es, h3, le0, le1, le2, le3⟩ := open_es g3
      obtain ⟨x4, h4, _, _⟩ := DataW.trod_int Try.underlying3 g4
      obtain ⟨x5, h5, _, _⟩ := DataW.trod_int Try.underlying3 g5
      obtain ⟨x6, h6⟩ := open_val g6
      obtain ⟨x7, h7⟩ := open_val g7
      obtain ⟨x8, h8⟩ := open_val g8
      obtain ⟨x9, h9⟩ := open_val g9
      obtain ⟨aa, ac, vs, h10, lv0, lv1, lv2⟩ := open_vs g10
      obtain ⟨x11, h11, _⟩ := DataW.trod_bool Try.underlying4 g11
      obtain ⟨x12, h12, _⟩ := DataW.trod_bool Try.underlying4 g12
      obtain ⟨x13, h13, _, _⟩ := DataW.trod_int Try.underlying3 g13
      simp only [List.cons.injEq, and_true] at h0 h1 h2 h3 h4 h5 h6 h7 h8 h9 h10 h11 h12 h13
      obtain ⟨h1a, h1b, h1c⟩ := h1
      obtain ⟨h6a, h6b, h6c⟩ := h6
      obtain ⟨h7a, h7b, h7c⟩ := h7
      obtain ⟨h8a, h8b, h8c⟩ := h8
      obtain ⟨h9a, h9b, h9c⟩ := h9
      subst h0 h1a h1b h1c h2 h3 h4 h5 h6a h6b h6c h7a h7b h7c h8a h8b h8c h9a h9b h9c h10 h11 h12 h13
      exact ⟨⟨x0, x1, x2, .slice pa es.length pc, x4, x5, x6, x7, x8, x9, .slice aa vs.length ac, x11, x12, x13⟩, pa, aa, pc, ac, es, vs, rfl, rfl, rfl, le0, fun _ => le1, fun _ => lv1, lv0, le2, by unfold maxLen at le3; omega, by unfold maxLen at lv2; omega⟩
/-- A Thing that came in. -/
theorem open_T {r : Reach} {b0 : Nat} {v : Value} {dd : DataW H} {p : List MemPlace} (hv : Value.okWide Try.prog w r b0 27 v) (h : DataW.Trod enc Try.prog w base spare held 27 v dd p) :
    ∃ t pa aa pc ac es vs, v = .agg (tcs t) ∧ OwnIn t pa aa pc ac es vs w := by
  obtain ⟨cs, rfl, hsz⟩ := okWide_struct Try.underlying27 hv
  obtain ⟨fuel, hf⟩ := h
  obtain ⟨t, pa, aa, pc, ac, es, vs, ha, hin⟩ := open_thing hf
  have e : cs.toList = (tcs t).toList := ha
  exact ⟨t, pa, aa, pc, ac, es, vs, by rw [Array.toList_inj.1 e], hin⟩
/-- A key that came in. -/
theorem open_K {r : Reach} {b0 : Nat} {v : Value} {dd : DataW H} {p : List MemPlace} (hv : Value.okWide Try.prog w r b0 29 v) (h : DataW.Trod enc Try.prog w base spare held 29 v dd p) :
    ∃ (s : ByteArray) (n : Int), v = .agg #[.string s, .int .i64 n] := by
  obtain ⟨cs, rfl, hsz⟩ := okWide_struct Try.underlying29 hv
  obtain ⟨fuel, hf⟩ := h
  obtain ⟨s, n, ha, _⟩ := open_key hf
  have e : cs.toList = (#[Value.string s, .int .i64 n] : Array Value).toList := ha
  exact ⟨s, n, by rw [Array.toList_inj.1 e]⟩
end
end Go.Proofs.Ytlhgiihooalanaa.Hp
