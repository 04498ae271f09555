/-
  Lists of properties and of keys, and a value, that came in: their parts, and that their strings fit.
-/
import Derived.Test.YtlpfdhmifcmhaaaRows
import Derived.Test.YtlpfdhmifcmhaaaDeOpen
import Derived.Test.YtlpfdhmifcmhaaaRuMem
import Derived.ProofKit
import Derived.OpenShut
import Derived.ChangeArms
import Derived.Deep.Slices
import Derived.Lib.SmallJoins
namespace Go.Proofs.Ytlpfdhmifcmhaaa.Arrs
open Go Go.RowKit Go.ChangeShapes Go.WideShapes Go.Deep Go.Proofs.Ytlpfdhmifcmhaaa.Keys
open Go.Proofs.Ytlpfdhmifcmhaaa.Des (Vl Ds dcs DV VV open_val bulk_parts cellsV cellsI cellsS cellsB cellsD)
set_option linter.unusedVariables false
set_option linter.unusedSimpArgs false

theorem int_bds {n : Int} (h : (Lit.int .i64 n).wf = true) : -9223372036854775808 ≤ n ∧ n ≤ 9223372036854775807 := by
  have e1 : IntKind.i64.min = -9223372036854775808 := rfl
  have e2 : IntKind.i64.max = 9223372036854775807 := rfl
  simp [Lit.wf, e1, e2] at h
  omega
section
variable {H : Type} {enc : TypeId × Value → H} {w : World} {base : Nat} {spare : Nat → Bool} {held : Bool}
theorem cellsKey : Try.prog.cellsOf 39 = 2 := by kernel_rfl
theorem cellsEn : Try.prog.cellsOf 41 = 20 := by kernel_rfl
theorem bulk_mem (l : List (DataW H)) (d : DataW H) (h : d ∈ l) : Rows.uptoBulk d ≤ Rows.uptoBulkAll l := by
  induction l with
  | nil => cases h
  | cons x r ih =>
    simp only [Rows.uptoBulkAll]
    cases h with
    | head => omega
    | tail _ h => have := ih h; omega
theorem bulk_agg (l : List (DataW H)) (d : DataW H) (h : d ∈ l) : Rows.uptoBulk d ≤ Rows.uptoBulk (.agg l) := by
  have := bulk_mem l d h
  simp only [Rows.uptoBulk]
  omega
theorem bulk_elem (D : Nat → DataW H) (sp : List (DataW H)) (n i : Nat) (h : i < n) : Rows.uptoBulk (D i) ≤ Rows.uptoBulk (.slice ((List.range n).map D) sp) := by
  have := bulk_mem ((List.range n).map D) (D i) (List.mem_map.2 ⟨i, List.mem_range.2 h, rfl⟩)
  simp only [Rows.uptoBulk]
  omega
/-- A value that came in. -/
theorem open_value {r : Reach} {b0 : Nat} {v : Value} {dd : DataW H} {p : List MemPlace} (hv : Value.okWide Try.prog w r b0 23 v) (h : DataW.Trod enc Try.prog w base spare held 23 v dd p) :
    ∃ a : Vl, v = VV a ∧ (Rows.uptoBulk dd ≤ 1048576 → a.s.size ≤ 2000000) := by
  obtain ⟨cs, rfl, hsz⟩ := okWide_struct Try.underlying23 hv
  obtain ⟨fuel, hf⟩ := h
  obtain ⟨a, ha, hs⟩ := open_val hf
  refine ⟨a, ?_, fun hb => by have hb2 : Rows.uptoBulk dd ≤ 1048576 := hb; have hs2 : a.s.size ≤ Rows.uptoBulk dd := hs; omega⟩
  have e : cs.toList = [.int .i64 a.k, .int .i64 a.n, .string a.s] := ha
  have e2 : cs = #[.int .i64 a.k, .int .i64 a.n, .string a.s] := Array.toList_inj.1 e
  rw [e2]
theorem open_key {m : Nat} {cs : List Value} {y : DataW H × List MemPlace} (h : DataW.trod enc Try.prog w base spare held m 39 cs = some y) : ∃ k : KV, cs = [.string k.1, .int .i64 k.2] ∧ (Rows.uptoBulk y.1 ≤ 1048576 → Fine k) := by
  obtain ⟨xs, n, _, hx, hl, hlen, hg⟩ := DataW.trod_struct Try.underlying39 h
  rw [cellsKey] at hl
  match cs, hl with
  | [c0, c1], _ =>
    match xs, hlen with
    | [y0, y1], _ =>
      have g0 : DataW.trod enc Try.prog w base spare held n 9 (([c0, c1].drop 0).take (Try.prog.cellsOf 9)) = [y0, y1][0]? := hg 0 _ rfl
      have g1 : DataW.trod enc Try.prog w base spare held n 3 (([c0, c1].drop 1).take (Try.prog.cellsOf 3)) = [y0, y1][1]? := hg 1 _ rfl
      rw [cellsS] at g0
      rw [cellsI] at g1
      have g0 : DataW.trod enc Try.prog w base spare held n 9 [c0] = some y0 := g0
      have g1 : DataW.trod enc Try.prog w base spare held n 3 [c1] = some y1 := g1
      obtain ⟨s, hs, e0, ws⟩ := DataW.trod_string Try.underlying9 g0
      obtain ⟨q, hq, _, wq⟩ := DataW.trod_int Try.underlying3 g1
      simp only [List.cons.injEq, and_true] at hs hq
      subst hs hq
      refine ⟨(s, q), rfl, fun hb => ⟨?_, (int_bds wq).1, (int_bds wq).2⟩⟩
      have hy : y.1 = .agg [y0.1, y1.1] := by simpa using congrArg Prod.fst hx
      have := bulk_agg [y0.1, y1.1] y0.1 (by simp)
      rw [← hy, e0] at this
      simp only [Rows.uptoBulk] at this
      have e : s.data.toList.length = s.size := by rw [Array.length_toList]; rfl
      show s.size ≤ _
      omega
set_option maxRecDepth 100000 in
set_option maxHeartbeats 1000000 in
theorem open_desc {m : Nat} {cs : List Value} {y : DataW H × List MemPlace} (h : DataW.trod enc Try.prog w base spare held m 28 cs = some y) : ∃ d : Ds, cs = (dcs d).toList := by
  obtain ⟨xs, n, _, hx, hl, hlen, hg⟩ := DataW.trod_struct Try.underlying28 h
  rw [cellsD] at hl
  match cs, hl with
  | [c0, c1, c2, c3, c4, c5, c6, c7, c8, c9, c10, c11, c12, c13, c14, c15, c16, c17], _ =>
    match xs, hlen with
    | [y0, y1, y2, y3, y4, y5, y6, y7, y8, y9, y10, y11], _ =>
      have g0 : DataW.trod enc Try.prog w base spare held n 4 (([c0, c1, c2, c3, c4, c5, c6, c7, c8, c9, c10, c11, c12, c13, c14, c15, c16, c17].drop 0).take (Try.prog.cellsOf 4)) = [y0, y1, y2, y3, y4, y5, y6, y7, y8, y9, y10, y11][0]? := hg 0 _ rfl
      rw [cellsB] at g0
      have g0 : DataW.trod enc Try.prog w base spare held n 4 [c0] = some y0 := g0
      have g1 : DataW.trod enc Try.prog w base spare held n 4 (([c0, c1, c2, c3, c4, c5, c6, c7, c8, c9, c10, c11, c12, c13, c14, c15, c16, c17].drop 1).take (Try.prog.cellsOf 4)) = [y0, y1, y2, y3, y4, y5, y6, y7, y8, y9, y10, y11][1]? := hg 1 _ rfl
      rw [cellsB] at g1
      have g1 : DataW.trod enc Try.prog w base spare held n 4 [c1] = some y1 := g1
      have g2 : DataW.trod enc Try.prog w base spare held n 4 (([c0, c1, c2, c3, c4, c5, c6, c7, c8, c9, c10, c11, c12, c13, c14, c15, c16, c17].drop 2).take (Try.prog.cellsOf 4)) = [y0, y1, y2, y3, y4, y5, y6, y7, y8, y9, y10, y11][2]? := hg 2 _ rfl
      rw [cellsB] at g2
      have g2 : DataW.trod enc Try.prog w base spare held n 4 [c2] = some y2 := g2
      have g3 : DataW.trod enc Try.prog w base spare held n 4 (([c0, c1, c2, c3, c4, c5, c6, c7, c8, c9, c10, c11, c12, c13, c14, c15, c16, c17].drop 3).take (Try.prog.cellsOf 4)) = [y0, y1, y2, y3, y4, y5, y6, y7, y8, y9, y10, y11][3]? := hg 3 _ rfl
      rw [cellsB] at g3
      have g3 : DataW.trod enc Try.prog w base spare held n 4 [c3] = some y3 := g3
      have g4 : DataW.trod enc Try.prog w base spare held n 4 (([c0, c1, c2, c3, c4, c5, c6, c7, c8, c9, c10, c11, c12, c13, c14, c15, c16, c17].drop 4).take (Try.prog.cellsOf 4)) = [y0, y1, y2, y3, y4, y5, y6, y7, y8, y9, y10, y11][4]? := hg 4 _ rfl
      rw [cellsB] at g4
      have g4 : DataW.trod enc Try.prog w base spare held n 4 [c4] = some y4 := g4
      have g5 : DataW.trod enc Try.prog w base spare held n 4 (([c0, c1, c2, c3, c4, c5, c6, c7, c8, c9, c10, c11, c12, c13, c14, c15, c16, c17].drop 5).take (Try.prog.cellsOf 4)) = [y0, y1, y2, y3, y4, y5, y6, y7, y8, y9, y10, y11][5]? := hg 5 _ rfl
      rw [cellsB] at g5
      have g5 : DataW.trod enc Try.prog w base spare held n 4 [c5] = some y5 := g5
      have g6 : DataW.trod enc Try.prog w base spare held n 23 (([c0, c1, c2, c3, c4, c5, c6, c7, c8, c9, c10, c11, c12, c13, c14, c15, c16, c17].drop 6).take (Try.prog.cellsOf 23)) = [y0, y1, y2, y3, y4, y5, y6, y7, y8, y9, y10, y11][6]? := hg 6 _ rfl
      rw [cellsV] at g6
      have g6 : DataW.trod enc Try.prog w base spare held n 23 [c6, c7, c8] = some y6 := g6
      have g7 : DataW.trod enc Try.prog w base spare held n 23 (([c0, c1, c2, c3, c4, c5, c6, c7, c8, c9, c10, c11, c12, c13, c14, c15, c16, c17].drop 9).take (Try.prog.cellsOf 23)) = [y0, y1, y2, y3, y4, y5, y6, y7, y8, y9, y10, y11][7]? := hg 7 _ rfl
      rw [cellsV] at g7
      have g7 : DataW.trod enc Try.prog w base spare held n 23 [c9, c10, c11] = some y7 := g7
      have g8 : DataW.trod enc Try.prog w base spare held n 23 (([c0, c1, c2, c3, c4, c5, c6, c7, c8, c9, c10, c11, c12, c13, c14, c15, c16, c17].drop 12).take (Try.prog.cellsOf 23)) = [y0, y1, y2, y3, y4, y5, y6, y7, y8, y9, y10, y11][8]? := hg 8 _ rfl
      rw [cellsV] at g8
      have g8 : DataW.trod enc Try.prog w base spare held n 23 [c12, c13, c14] = some y8 := g8
      have g9 : DataW.trod enc Try.prog w base spare held n 4 (([c0, c1, c2, c3, c4, c5, c6, c7, c8, c9, c10, c11, c12, c13, c14, c15, c16, c17].drop 15).take (Try.prog.cellsOf 4)) = [y0, y1, y2, y3, y4, y5, y6, y7, y8, y9, y10, y11][9]? := hg 9 _ rfl
      rw [cellsB] at g9
      have g9 : DataW.trod enc Try.prog w base spare held n 4 [c15] = some y9 := g9
      have g10 : DataW.trod enc Try.prog w base spare held n 4 (([c0, c1, c2, c3, c4, c5, c6, c7, c8, c9, c10, c11, c12, c13, c14, c15, c16, c17].drop 16).take (Try.prog.cellsOf 4)) = [y0, y1, y2, y3, y4, y5, y6, y7, y8, y9, y10, y11][10]? := hg 10 _ rfl
      rw [cellsB] at g10
      have g10 : DataW.trod enc Try.prog w base spare held n 4 [c16] = some y10 := g10
      have g11 : DataW.trod enc Try.prog w base spare held n 4 (([c0, c1, c2, c3, c4, c5, c6, c7, c8, c9, c10, c11, c12, c13, c14, c15, c16, c17].drop 17).take (Try.prog.cellsOf 4)) = [y0, y1, y2, y3, y4, y5, y6, y7, y8, y9, y10, y11][11]? := hg 11 _ rfl
      rw [cellsB] at g11
      have g11 : DataW.trod enc Try.prog w base spare held n 4 [c17] = some y11 := g11
      obtain ⟨b0, h0, _⟩ := DataW.trod_bool Try.underlying4 g0
      obtain ⟨b1, h1, _⟩ := DataW.trod_bool Try.underlying4 g1
      obtain ⟨b2, h2, _⟩ := DataW.trod_bool Try.underlying4 g2
      obtain ⟨b3, h3, _⟩ := DataW.trod_bool Try.underlying4 g3
      obtain ⟨b4, h4, _⟩ := DataW.trod_bool Try.underlying4 g4
      obtain ⟨b5, h5, _⟩ := DataW.trod_bool Try.underlying4 g5
      obtain ⟨v6, h6, _⟩ := open_val g6
      obtain ⟨v7, h7, _⟩ := open_val g7
      obtain ⟨v8, h8, _⟩ := open_val g8
      obtain ⟨b9, h9, _⟩ := DataW.trod_bool Try.underlying4 g9
      obtain ⟨b10, h10, _⟩ := DataW.trod_bool Try.underlying4 g10
      obtain ⟨b11, h11, _⟩ := DataW.trod_bool Try.underlying4 g11
      simp only [List.cons.injEq, and_true] at h0 h1 h2 h3 h4 h5 h6 h7 h8 h9 h10 h11
      obtain ⟨h6a, h6b, h6c⟩ := h6
      obtain ⟨h7a, h7b, h7c⟩ := h7
      obtain ⟨h8a, h8b, h8c⟩ := h8
      subst h0 h1 h2 h3 h4 h5 h6a h6b h6c h7a h7b h7c h8a h8b h8c h9 h10 h11
      exact ⟨⟨b0, b1, b2, b3, b4, b5, v6, v7, v8, b9, b10, b11⟩, rfl⟩
theorem ecs_split (s : ByteArray) (n : Int) (d : Ds) : [.string s, .int .i64 n] ++ (dcs d).toList = (ecs ⟨s, n, d⟩).toList := rfl
set_option maxRecDepth 100000 in
theorem open_entry {m : Nat} {cs : List Value} {y : DataW H × List MemPlace} (h : DataW.trod enc Try.prog w base spare held m 41 cs = some y) : ∃ e : En, cs = (ecs e).toList ∧ (Rows.uptoBulk y.1 ≤ 1048576 → Fine (ekey e)) := by
  obtain ⟨xs, n, _, hx, hl, hlen, hg⟩ := DataW.trod_struct Try.underlying41 h
  rw [cellsEn] at hl
  match xs, hlen with
  | [y0, y1], _ =>
    have g0 : DataW.trod enc Try.prog w base spare held n 39 ((cs.drop 0).take (Try.prog.cellsOf 39)) = [y0, y1][0]? := hg 0 _ rfl
    have g1 : DataW.trod enc Try.prog w base spare held n 28 ((cs.drop 2).take (Try.prog.cellsOf 28)) = [y0, y1][1]? := hg 1 _ rfl
    rw [cellsKey, List.drop_zero] at g0
    rw [cellsD] at g1
    obtain ⟨k, hk, fk⟩ := open_key (y := y0) g0
    obtain ⟨d, hd⟩ := open_desc (y := y1) g1
    refine ⟨⟨k.1, k.2, d⟩, ?_, fun hb => fk ?_⟩
    · rw [← ecs_split, ← hk, ← hd, List.take_of_length_le (l := cs.drop 2) (by rw [List.length_drop, hl]; omega), List.take_append_drop]
    · have hy : y.1 = .agg [y0.1, y1.1] := by simpa using congrArg Prod.fst hx
      have := bulk_agg [y0.1, y1.1] y0.1 (by simp)
      rw [← hy] at this
      omega
end
theorem list_of {α : Type} {Q : Nat → α → Prop} : ∀ n, (∀ i, i < n → ∃ x, Q i x) → ∃ l : List α, l.length = n ∧ ∀ i x, l[i]? = some x → Q i x := by
  intro n
  induction n with
  | zero => intro _; exact ⟨[], rfl, fun i x h => by simp at h⟩
  | succ n ih =>
    intro h
    obtain ⟨l, hl, hq⟩ := ih fun i hi => h i (by omega)
    obtain ⟨x, hx⟩ := h n (by omega)
    refine ⟨l ++ [x], by simp [hl], fun i y hy => ?_⟩
    rcases Nat.lt_or_ge i n with hi | hi
    · rw [List.getElem?_append_left (by omega)] at hy
      exact hq i y hy
    · rw [List.getElem?_append_right (by omega)] at hy
      have hi0 : i - l.length = 0 := by
        have := (List.getElem?_eq_some_iff.1 hy).1
        simp at this
        omega
      rw [hi0] at hy
      simp at hy
      subst hy
      rw [show i = n by omega]
      exact hx
/-- A list of properties that came in. -/
theorem open_es {H : Type} {enc : TypeId × Value → H} {W : World} {base b0 : Nat} {r : Reach} {spare : Nat → Bool} {held : Bool} {v : Value} {d : DataW H} {p : List MemPlace} (hv : Value.okWide Try.prog W r b0 33 v) (h : DataW.Trod enc Try.prog W base spare held 33 v d p) :
    ∃ a cap es, v = .slice a es.length cap ∧ es.length ≤ maxLen ∧ EsAt a es W ∧ (Rows.uptoBulk d ≤ 1048576 → ∀ e ∈ es, Fine (ekey e)) := by
  obtain ⟨a0, len0, cap0, rfl⟩ := okWide_slice Try.underlying33 hv
  obtain ⟨fuel, hf⟩ := h
  rcases open_slice Try.underlying33 hf with ⟨hcs, _⟩ | ⟨a, len, cap, m, n, D, Pl, hcs, hb, hl, hm, hmm, hx, hi⟩
  · simp [Value.cells] at hcs
    obtain ⟨rfl, rfl, rfl⟩ := hcs
    exact ⟨none, 0, [], rfl, Nat.zero_le _, esAt_nil _ _, fun _ e he => by cases he⟩
  · simp [Value.cells] at hcs
    obtain ⟨rfl, rfl, rfl⟩ := hcs
    have hlm : len0 ≤ m := by rw [hmm]; split <;> omega
    have hd : d = .slice ((List.range len0).map D) ((List.range (m - len0)).map fun j => D (len0 + j)) := by simpa using congrArg Prod.fst hx
    obtain ⟨es, hel, heq⟩ := list_of (Q := fun i (e : En) => enAt W (a.add (i * 20)) e ∧ (Rows.uptoBulk (D i) ≤ 1048576 → Fine (ekey e))) len0 (fun i hil => by
      obtain ⟨cs', hc, ht⟩ := hi i (by omega)
      rw [cellsEn] at hc
      obtain ⟨e, rfl, hs⟩ := open_entry ht
      obtain ⟨_, hcl, hat⟩ := World.cells?_some hc
      exact ⟨e, fun j v hv => by
        have hj : j < 20 := by have := (List.getElem?_eq_some_iff.1 hv).1; rw [ecs_list] at this; exact this
        rw [hat j hj, hv], hs⟩)
    refine ⟨some a, cap0, es, by rw [hel], by omega, fun j e he => ?_, fun hb e he => ?_⟩
    · have hq := (heq j e he).1
      have h0 := hq 0 _ (show (ecs e).toList[0]? = some (.string e.ks) from rfl)
      obtain ⟨b, off, sp⟩ := a
      have hsp : sp = none := by
        have h00 := (heq 0 (es[0]'(by have := (List.getElem?_eq_some_iff.1 he).1; omega)) (by simp)).1 0 _ (show _ = some (.string _) from rfl)
        simpa [Addr.add] using World.cell?_spot h00
      subst hsp
      have hb := World.block_lt_of_cell? W _ h0
      have e2 : (⟨b, off, none⟩ : Addr).add (j * 20) = ⟨b, off + j * 20, none⟩ := by unfold Addr.add; split <;> simp_all
      rw [e2] at hq hb
      have hb2 : ((⟨b, off + j * 20, none⟩ : Addr).add 0).block = b := by unfold Addr.add; split <;> rfl
      rw [hb2] at hb
      exact ⟨b, off, rfl, hb, hq⟩
    · obtain ⟨i, hi1, hi2⟩ := List.getElem_of_mem he
      have hbi := bulk_elem D ((List.range (m - len0)).map fun j => D (len0 + j)) len0 i (by omega)
      rw [← hd] at hbi
      exact (heq i e (by rw [List.getElem?_eq_getElem hi1, hi2])).2 (by omega)
/-- A list of keys that came in. -/
theorem open_ks {H : Type} {enc : TypeId × Value → H} {W : World} {base b0 : Nat} {r : Reach} {spare : Nat → Bool} {held : Bool} {v : Value} {d : DataW H} {p : List MemPlace} (hv : Value.okWide Try.prog W r b0 36 v) (h : DataW.Trod enc Try.prog W base spare held 36 v d p) :
    ∃ a cap ks, v = .slice a ks.length cap ∧ ks.length ≤ maxLen ∧ KeysAt a ks W ∧ (Rows.uptoBulk d ≤ 1048576 → ∀ k ∈ ks, Fine k) := by
  obtain ⟨a0, len0, cap0, rfl⟩ := okWide_slice Try.underlying36 hv
  obtain ⟨fuel, hf⟩ := h
  rcases open_slice Try.underlying36 hf with ⟨hcs, _⟩ | ⟨a, len, cap, m, n, D, Pl, hcs, hb, hl, hm, hmm, hx, hi⟩
  · simp [Value.cells] at hcs
    obtain ⟨rfl, rfl, rfl⟩ := hcs
    exact ⟨none, 0, [], rfl, Nat.zero_le _, keysAt_nil _ _, fun _ e he => by cases he⟩
  · simp [Value.cells] at hcs
    obtain ⟨rfl, rfl, rfl⟩ := hcs
    have hlm : len0 ≤ m := by rw [hmm]; split <;> omega
    have hd : d = .slice ((List.range len0).map D) ((List.range (m - len0)).map fun j => D (len0 + j)) := by simpa using congrArg Prod.fst hx
    obtain ⟨ks, hel, heq⟩ := list_of (Q := fun i (k : KV) => (W.cell? ((a.add (i * 2)).add 0) = some (.string k.1) ∧ W.cell? ((a.add (i * 2)).add 1) = some (.int .i64 k.2)) ∧ (Rows.uptoBulk (D i) ≤ 1048576 → Fine k)) len0 (fun i hil => by
      obtain ⟨cs', hc, ht⟩ := hi i (by omega)
      rw [cellsKey] at hc
      obtain ⟨k, rfl, hs⟩ := open_key ht
      obtain ⟨_, hcl, hat⟩ := World.cells?_some hc
      exact ⟨k, ⟨by rw [hat 0 (by omega)]; rfl, by rw [hat 1 (by omega)]; rfl⟩, hs⟩)
    refine ⟨some a, cap0, ks, by rw [hel], by omega, fun j k hk => ?_, fun hb k hk => ?_⟩
    · obtain ⟨⟨h0, h1⟩, _⟩ := heq j k hk
      obtain ⟨b, off, sp⟩ := a
      have hsp : sp = none := by
        have h00 := (heq 0 (ks[0]'(by have := (List.getElem?_eq_some_iff.1 hk).1; omega)) (by simp)).1.1
        simpa [Addr.add] using World.cell?_spot h00
      subst hsp
      have hbl := World.block_lt_of_cell? W _ h0
      have e2 : (⟨b, off, none⟩ : Addr).add (j * 2) = ⟨b, off + j * 2, none⟩ := by unfold Addr.add; split <;> simp_all
      have e3 : (⟨b, off + j * 2, none⟩ : Addr).add 0 = ⟨b, off + j * 2, none⟩ := by unfold Addr.add; split <;> simp_all
      have e4 : (⟨b, off + j * 2, none⟩ : Addr).add 1 = ⟨b, off + j * 2 + 1, none⟩ := by unfold Addr.add; split <;> simp_all
      rw [e2, e3] at h0 hbl
      rw [e2, e4] at h1
      exact ⟨b, off, rfl, hbl, h0, h1⟩
    · obtain ⟨i, hi1, hi2⟩ := List.getElem_of_mem hk
      have hbi := bulk_elem D ((List.range (m - len0)).map fun j => D (len0 + j)) len0 i (by omega)
      rw [← hd] at hbi
      exact (heq i k (by rw [List.getElem?_eq_getElem hi1, hi2])).2 (by omega)
end Go.Proofs.Ytlpfdhmifcmhaaa.Arrs
