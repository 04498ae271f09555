/-
  A list of properties, and a value, that came in: their parts.
-/
import Derived.Test.YtifkfidkokdijaaDoorRows
import Derived.Test.YtifkfidkokdijaaDoorArSmall
import Derived.ProofKit
import Derived.OpenShut
import Derived.ChangeArms
import Derived.Deep.Slices
import Derived.Lib.SmallJoins
namespace Go.Proofs.YtifkfidkokdijaaDoor.Vals
open Go Go.RowKit Go.ChangeShapes Go.WideShapes
set_option linter.unusedVariables false
set_option linter.unusedSimpArgs false
theorem cells23 : Tryd.prog.cellsOf 23 = 3 := by kernel_rfl
set_option maxRecDepth 100000 in
theorem open_value {H : Type} {enc : TypeId × Value → H} {W : World} {base b0 : Nat} {held : Bool} {r : Reach} {v : Value} {d : DataW H} {p : List MemPlace} (hv : Value.okWide Tryd.prog W r b0 23 v) (h : DataW.Trod enc Tryd.prog W base (fun _ => true) held 23 v d p) :
    ∃ (k n : Int) (s : ByteArray), v = .agg #[.int .i64 k, .int .i64 n, .string s] ∧ (Lit.int .i64 k).wf = true ∧ (Lit.int .i64 n).wf = true ∧ s.size ≤ maxLen := by
  obtain ⟨v0, v1, v2, y0, y1, y2, m, rfl, rfl, rfl, h0, h1, h2⟩ := Joins.open_agg3 Tryd.underlying23 (by kernel_rfl) cells23 hv h
  obtain ⟨k, hk, _, wk⟩ := DataW.trod_int Tryd.underlying3 h0
  obtain ⟨n, hn, _, wn⟩ := DataW.trod_int Tryd.underlying3 h1
  obtain ⟨s, hs, _, ws⟩ := DataW.trod_string Tryd.underlying9 h2
  simp at hk hn hs
  subst hk hn hs
  exact ⟨k, n, s, rfl, wk, wn, ws⟩
end Go.Proofs.YtifkfidkokdijaaDoor.Vals
namespace Go.Proofs.YtifkfidkokdijaaDoor.Arrs
open Go Go.RowKit Go.ChangeShapes Go.WideShapes Go.Deep
set_option linter.unusedVariables false
set_option linter.unusedSimpArgs false

section
variable {H : Type} {enc : TypeId × Value → H} {w : World} {base : Nat} {spare : Nat → Bool} {held : Bool}
theorem cellsV : Tryd.prog.cellsOf 23 = 3 := by kernel_rfl
theorem cellsI : Tryd.prog.cellsOf 3 = 1 := by kernel_rfl
theorem cellsS : Tryd.prog.cellsOf 9 = 1 := by kernel_rfl
theorem cellsB : Tryd.prog.cellsOf 4 = 1 := by kernel_rfl
theorem cellsD : Tryd.prog.cellsOf 37 = 18 := by kernel_rfl
theorem cellsKey : Tryd.prog.cellsOf 35 = 2 := by kernel_rfl
theorem cellsEn : Tryd.prog.cellsOf 39 = 20 := by kernel_rfl
theorem open_val {m : Nat} {cs : List Value} {y : DataW H × List MemPlace} (h : DataW.trod enc Tryd.prog w base spare held m 23 cs = some y) : ∃ v : Vl, cs = [.int .i64 v.k, .int .i64 v.n, .string v.s] := by
  obtain ⟨xs, n, _, hx, hl, hlen, hg⟩ := DataW.trod_struct Tryd.underlying23 h
  rw [cellsV] at hl
  match cs, hl with
  | [c0, c1, c2], _ =>
    match xs, hlen with
    | [y0, y1, y2], _ =>
      have g0 : DataW.trod enc Tryd.prog w base spare held n 3 (([c0, c1, c2].drop 0).take (Tryd.prog.cellsOf 3)) = [y0, y1, y2][0]? := hg 0 _ rfl
      have g1 : DataW.trod enc Tryd.prog w base spare held n 3 (([c0, c1, c2].drop 1).take (Tryd.prog.cellsOf 3)) = [y0, y1, y2][1]? := hg 1 _ rfl
      have g2 : DataW.trod enc Tryd.prog w base spare held n 9 (([c0, c1, c2].drop 2).take (Tryd.prog.cellsOf 9)) = [y0, y1, y2][2]? := hg 2 _ rfl
      rw [cellsI] at g0 g1
      rw [cellsS] at g2
      have g0 : DataW.trod enc Tryd.prog w base spare held n 3 [c0] = some y0 := g0
      have g1 : DataW.trod enc Tryd.prog w base spare held n 3 [c1] = some y1 := g1
      have g2 : DataW.trod enc Tryd.prog w base spare held n 9 [c2] = some y2 := g2
      obtain ⟨k, hk, _, _⟩ := DataW.trod_int Tryd.underlying3 g0
      obtain ⟨q, hq, _, _⟩ := DataW.trod_int Tryd.underlying3 g1
      obtain ⟨s, hs, e2, _⟩ := DataW.trod_string Tryd.underlying9 g2
      simp only [List.cons.injEq, and_true] at hk hq hs
      subst hk hq hs
      exact ⟨⟨k, q, s⟩, rfl⟩
theorem open_key {m : Nat} {cs : List Value} {y : DataW H × List MemPlace} (h : DataW.trod enc Tryd.prog w base spare held m 35 cs = some y) : ∃ (s : ByteArray) (n : Int), cs = [.string s, .int .i64 n] ∧ s.size ≤ maxLen := by
  obtain ⟨xs, n, _, hx, hl, hlen, hg⟩ := DataW.trod_struct Tryd.underlying35 h
  rw [cellsKey] at hl
  match cs, hl with
  | [c0, c1], _ =>
    match xs, hlen with
    | [y0, y1], _ =>
      have g0 : DataW.trod enc Tryd.prog w base spare held n 9 (([c0, c1].drop 0).take (Tryd.prog.cellsOf 9)) = [y0, y1][0]? := hg 0 _ rfl
      have g1 : DataW.trod enc Tryd.prog w base spare held n 3 (([c0, c1].drop 1).take (Tryd.prog.cellsOf 3)) = [y0, y1][1]? := hg 1 _ rfl
      rw [cellsS] at g0
      rw [cellsI] at g1
      have g0 : DataW.trod enc Tryd.prog w base spare held n 9 [c0] = some y0 := g0
      have g1 : DataW.trod enc Tryd.prog w base spare held n 3 [c1] = some y1 := g1
      obtain ⟨s, hs, _, ws⟩ := DataW.trod_string Tryd.underlying9 g0
      obtain ⟨q, hq, _, _⟩ := DataW.trod_int Tryd.underlying3 g1
      simp only [List.cons.injEq, and_true] at hs hq
      subst hs hq
      exact ⟨s, q, rfl, ws⟩
set_option maxRecDepth 100000 in
set_option maxHeartbeats 1000000 in
theorem open_desc {m : Nat} {cs : List Value} {y : DataW H × List MemPlace} (h : DataW.trod enc Tryd.prog w base spare held m 37 cs = some y) : ∃ d : Ds, cs = (dcs d).toList := by
  obtain ⟨xs, n, _, hx, hl, hlen, hg⟩ := DataW.trod_struct Tryd.underlying37 h
  rw [cellsD] at hl
  match cs, hl with
  | [c0, c1, c2, c3, c4, c5, c6, c7, c8, c9, c10, c11, c12, c13, c14, c15, c16, c17], _ =>
    match xs, hlen with
    | [y0, y1, y2, y3, y4, y5, y6, y7, y8, y9, y10, y11], _ =>
      have g0 : DataW.trod enc Tryd.prog w base spare held n 4 (([c0, c1, c2, c3, c4, c5, c6, c7, c8, c9, c10, c11, c12, c13, c14, c15, c16, c17].drop 0).take (Tryd.prog.cellsOf 4)) = [y0, y1, y2, y3, y4, y5, y6, y7, y8, y9, y10, y11][0]? := hg 0 _ rfl
      rw [cellsB] at g0
      have g0 : DataW.trod enc Tryd.prog w base spare held n 4 [c0] = some y0 := g0
      have g1 : DataW.trod enc Tryd.prog w base spare held n 4 (([c0, c1, c2, c3, c4, c5, c6, c7, c8, c9, c10, c11, c12, c13, c14, c15, c16, c17].drop 1).take (Tryd.prog.cellsOf 4)) = [y0, y1, y2, y3, y4, y5, y6, y7, y8, y9, y10, y11][1]? := hg 1 _ rfl
      rw [cellsB] at g1
      have g1 : DataW.trod enc Tryd.prog w base spare held n 4 [c1] = some y1 := g1
      have g2 : DataW.trod enc Tryd.prog w base spare held n 4 (([c0, c1, c2, c3, c4, c5, c6, c7, c8, c9, c10, c11, c12, c13, c14, c15, c16, c17].drop 2).take (Tryd.prog.cellsOf 4)) = [y0, y1, y2, y3, y4, y5, y6, y7, y8, y9, y10, y11][2]? := hg 2 _ rfl
      rw [cellsB] at g2
      have g2 : DataW.trod enc Tryd.prog w base spare held n 4 [c2] = some y2 := g2
      have g3 : DataW.trod enc Tryd.prog w base spare held n 4 (([c0, c1, c2, c3, c4, c5, c6, c7, c8, c9, c10, c11, c12, c13, c14, c15, c16, c17].drop 3).take (Tryd.prog.cellsOf 4)) = [y0, y1, y2, y3, y4, y5, y6, y7, y8, y9, y10, y11][3]? := hg 3 _ rfl
      rw [cellsB] at g3
      have g3 : DataW.trod enc Tryd.prog w base spare held n 4 [c3] = some y3 := g3
      have g4 : DataW.trod enc Tryd.prog w base spare held n 4 (([c0, c1, c2, c3, c4, c5, c6, c7, c8, c9, c10, c11, c12, c13, c14, c15, c16, c17].drop 4).take (Tryd.prog.cellsOf 4)) = [y0, y1, y2, y3, y4, y5, y6, y7, y8, y9, y10, y11][4]? := hg 4 _ rfl
      rw [cellsB] at g4
      have g4 : DataW.trod enc Tryd.prog w base spare held n 4 [c4] = some y4 := g4
      have g5 : DataW.trod enc Tryd.prog w base spare held n 4 (([c0, c1, c2, c3, c4, c5, c6, c7, c8, c9, c10, c11, c12, c13, c14, c15, c16, c17].drop 5).take (Tryd.prog.cellsOf 4)) = [y0, y1, y2, y3, y4, y5, y6, y7, y8, y9, y10, y11][5]? := hg 5 _ rfl
      rw [cellsB] at g5
      have g5 : DataW.trod enc Tryd.prog w base spare held n 4 [c5] = some y5 := g5
      have g6 : DataW.trod enc Tryd.prog w base spare held n 23 (([c0, c1, c2, c3, c4, c5, c6, c7, c8, c9, c10, c11, c12, c13, c14, c15, c16, c17].drop 6).take (Tryd.prog.cellsOf 23)) = [y0, y1, y2, y3, y4, y5, y6, y7, y8, y9, y10, y11][6]? := hg 6 _ rfl
      rw [cellsV] at g6
      have g6 : DataW.trod enc Tryd.prog w base spare held n 23 [c6, c7, c8] = some y6 := g6
      have g7 : DataW.trod enc Tryd.prog w base spare held n 23 (([c0, c1, c2, c3, c4, c5, c6, c7, c8, c9, c10, c11, c12, c13, c14, c15, c16, c17].drop 9).take (Tryd.prog.cellsOf 23)) = [y0, y1, y2, y3, y4, y5, y6, y7, y8, y9, y10, y11][7]? := hg 7 _ rfl
      rw [cellsV] at g7
      have g7 : DataW.trod enc Tryd.prog w base spare held n 23 [c9, c10, c11] = some y7 := g7
      have g8 : DataW.trod enc Tryd.prog w base spare held n 23 (([c0, c1, c2, c3, c4, c5, c6, c7, c8, c9, c10, c11, c12, c13, c14, c15, c16, c17].drop 12).take (Tryd.prog.cellsOf 23)) = [y0, y1, y2, y3, y4, y5, y6, y7, y8, y9, y10, y11][8]? := hg 8 _ rfl
      rw [cellsV] at g8
      have g8 : DataW.trod enc Tryd.prog w base spare held n 23 [c12, c13, c14] = some y8 := g8
      have g9 : DataW.trod enc Tryd.prog w base spare held n 4 (([c0, c1, c2, c3, c4, c5, c6, c7, c8, c9, c10, c11, c12, c13, c14, c15, c16, c17].drop 15).take (Tryd.prog.cellsOf 4)) = [y0, y1, y2, y3, y4, y5, y6, y7, y8, y9, y10, y11][9]? := hg 9 _ rfl
      rw [cellsB] at g9
      have g9 : DataW.trod enc Tryd.prog w base spare held n 4 [c15] = some y9 := g9
      have g10 : DataW.trod enc Tryd.prog w base spare held n 4 (([c0, c1, c2, c3, c4, c5, c6, c7, c8, c9, c10, c11, c12, c13, c14, c15, c16, c17].drop 16).take (Tryd.prog.cellsOf 4)) = [y0, y1, y2, y3, y4, y5, y6, y7, y8, y9, y10, y11][10]? := hg 10 _ rfl
      rw [cellsB] at g10
      have g10 : DataW.trod enc Tryd.prog w base spare held n 4 [c16] = some y10 := g10
      have g11 : DataW.trod enc Tryd.prog w base spare held n 4 (([c0, c1, c2, c3, c4, c5, c6, c7, c8, c9, c10, c11, c12, c13, c14, c15, c16, c17].drop 17).take (Tryd.prog.cellsOf 4)) = [y0, y1, y2, y3, y4, y5, y6, y7, y8, y9, y10, y11][11]? := hg 11 _ rfl
      rw [cellsB] at g11
      have g11 : DataW.trod enc Tryd.prog w base spare held n 4 [c17] = some y11 := g11
      obtain ⟨b0, h0, _⟩ := DataW.trod_bool Tryd.underlying4 g0
      obtain ⟨b1, h1, _⟩ := DataW.trod_bool Tryd.underlying4 g1
      obtain ⟨b2, h2, _⟩ := DataW.trod_bool Tryd.underlying4 g2
      obtain ⟨b3, h3, _⟩ := DataW.trod_bool Tryd.underlying4 g3
      obtain ⟨b4, h4, _⟩ := DataW.trod_bool Tryd.underlying4 g4
      obtain ⟨b5, h5, _⟩ := DataW.trod_bool Tryd.underlying4 g5
      obtain ⟨v6, h6⟩ := open_val g6
      obtain ⟨v7, h7⟩ := open_val g7
      obtain ⟨v8, h8⟩ := open_val g8
      obtain ⟨b9, h9, _⟩ := DataW.trod_bool Tryd.underlying4 g9
      obtain ⟨b10, h10, _⟩ := DataW.trod_bool Tryd.underlying4 g10
      obtain ⟨b11, h11, _⟩ := DataW.trod_bool Tryd.underlying4 g11
      simp only [List.cons.injEq, and_true] at h0 h1 h2 h3 h4 h5 h6 h7 h8 h9 h10 h11
      obtain ⟨h6a, h6b, h6c⟩ := h6
      obtain ⟨h7a, h7b, h7c⟩ := h7
      obtain ⟨h8a, h8b, h8c⟩ := h8
      subst h0 h1 h2 h3 h4 h5 h6a h6b h6c h7a h7b h7c h8a h8b h8c h9 h10 h11
      exact ⟨⟨b0, b1, b2, b3, b4, b5, v6, v7, v8, b9, b10, b11⟩, rfl⟩
theorem ecs_split (s : ByteArray) (n : Int) (d : Ds) : [.string s, .int .i64 n] ++ (dcs d).toList = (ecs ⟨s, n, d⟩).toList := rfl
set_option maxRecDepth 100000 in
theorem open_entry {m : Nat} {cs : List Value} {y : DataW H × List MemPlace} (h : DataW.trod enc Tryd.prog w base spare held m 39 cs = some y) : ∃ e : En, cs = (ecs e).toList ∧ e.ks.size ≤ maxLen := by
  obtain ⟨xs, n, _, hx, hl, hlen, hg⟩ := DataW.trod_struct Tryd.underlying39 h
  rw [cellsEn] at hl
  match xs, hlen with
  | [y0, y1], _ =>
    have g0 : DataW.trod enc Tryd.prog w base spare held n 35 ((cs.drop 0).take (Tryd.prog.cellsOf 35)) = [y0, y1][0]? := hg 0 _ rfl
    have g1 : DataW.trod enc Tryd.prog w base spare held n 37 ((cs.drop 2).take (Tryd.prog.cellsOf 37)) = [y0, y1][1]? := hg 1 _ rfl
    rw [cellsKey, List.drop_zero] at g0
    rw [cellsD] at g1
    obtain ⟨s, k, hk, ws⟩ := open_key (y := y0) g0
    obtain ⟨d, hd⟩ := open_desc (y := y1) g1
    refine ⟨⟨s, k, d⟩, ?_, ws⟩
    rw [← ecs_split, ← hk, ← hd, List.take_of_length_le (l := cs.drop 2) (by rw [List.length_drop, hl]; omega), List.take_append_drop]
end
/-- What is known of a list of properties that came in. -/
def IsEs (w : World) (a : Option Addr) (len : Nat) (es : List En) : Prop := es.length = len ∧ len ≤ maxLen ∧ EsAt a es w ∧ ∀ e ∈ es, e.ks.size ≤ maxLen
theorem list_of {α : Type} {Q : Nat → α → Prop} : ∀ n, (∀ i, i < n → ∃ x, Q i x) → ∃ l : List α, l.length = n ∧ ∀ i x, l[i]? = some x → Q i x := by
  intro n
  induction n with
  | zero => intro _; exact ⟨[], rfl, fun i x h => by simp at h⟩
  | succ n ih =>
    intro h
    obtain ⟨l, hl, hq⟩ := ih fun i hi => h i (by omega)
    obtain ⟨x, hx⟩ := h n (by omega)
    refine ⟨l ++ [x], by simp [hl], fun i y hy => ?_⟩
    rcases Nat.lt_or_ge i n with hi | hi
    · rw [List.getElem?_append_left (by omega)] at hy
      exact hq i y hy
    · rw [List.getElem?_append_right (by omega)] at hy
      have hi0 : i - l.length = 0 := by
        have := (List.getElem?_eq_some_iff.1 hy).1
        simp at this
        omega
      rw [hi0] at hy
      simp at hy
      subst hy
      rw [show i = n by omega]
      exact hx
theorem open_es {H : Type} {enc : TypeId × Value → H} {W : World} {base b0 : Nat} {r : Reach} {spare : Nat → Bool} {held : Bool} {v : Value} {d : DataW H} {p : List MemPlace} (hv : Value.okWide Tryd.prog W r b0 28 v) (h : DataW.Trod enc Tryd.prog W base spare held 28 v d p) :
    ∃ a len cap es, v = .slice a len cap ∧ IsEs W a len es := by
  obtain ⟨a0, len0, cap0, rfl⟩ := okWide_slice Tryd.underlying28 hv
  obtain ⟨fuel, hf⟩ := h
  rcases open_slice Tryd.underlying28 hf with ⟨hcs, _⟩ | ⟨a, len, cap, m, n, D, Pl, hcs, hb, hl, hm, hmm, hx, hi⟩
  · simp [Value.cells] at hcs
    obtain ⟨rfl, rfl, rfl⟩ := hcs
    exact ⟨none, 0, 0, [], rfl, rfl, Nat.zero_le _, esAt_nil _ _, fun e he => by cases he⟩
  · simp [Value.cells] at hcs
    obtain ⟨rfl, rfl, rfl⟩ := hcs
    have hlm : len0 ≤ m := by rw [hmm]; split <;> omega
    obtain ⟨es, hel, heq⟩ := list_of (Q := fun i (e : En) => enAt W (a.add (i * 20)) e ∧ e.ks.size ≤ maxLen) len0 (fun i hil => by
      obtain ⟨cs', hc, ht⟩ := hi i (by omega)
      rw [cellsEn] at hc
      obtain ⟨e, rfl, hs⟩ := open_entry ht
      obtain ⟨_, hcl, hat⟩ := World.cells?_some hc
      exact ⟨e, fun j v hv => by
        have hj : j < 20 := by have := (List.getElem?_eq_some_iff.1 hv).1; rw [ecs_list] at this; exact this
        rw [hat j hj, hv], hs⟩)
    refine ⟨some a, len0, cap0, es, rfl, hel, by omega, fun j e he => ?_, fun e he => ?_⟩
    · have hq := (heq j e he).1
      have h0 := hq 0 _ (show (ecs e).toList[0]? = some (.string e.ks) from rfl)
      obtain ⟨b, off, sp⟩ := a
      have hsp : sp = none := by
        have h00 := (heq 0 (es[0]'(by have := (List.getElem?_eq_some_iff.1 he).1; omega)) (by simp)).1 0 _ (show _ = some (.string _) from rfl)
        simpa [Addr.add] using World.cell?_spot h00
      subst hsp
      have hb := World.block_lt_of_cell? W _ h0
      have e2 : (⟨b, off, none⟩ : Addr).add (j * 20) = ⟨b, off + j * 20, none⟩ := by unfold Addr.add; split <;> simp_all
      rw [e2] at hq hb
      have hb2 : ((⟨b, off + j * 20, none⟩ : Addr).add 0).block = b := by unfold Addr.add; split <;> rfl
      rw [hb2] at hb
      exact ⟨b, off, rfl, hb, hq⟩
    · obtain ⟨i, hi1, hi2⟩ := List.getElem_of_mem he
      exact (heq i e (by rw [List.getElem?_eq_getElem hi1, hi2])).2
end Go.Proofs.YtifkfidkokdijaaDoor.Arrs
