/-
  A tree that came in: its parts, and how much it holds.
-/
import Derived.Test.YtinoaajohkafmaaGreatRows
import Derived.Test.YtinoaajohkafmaaGreatMt48
import Derived.ProofKit
import Derived.OpenShut
import Derived.ChangeArms
import Derived.DataReads
namespace Go.Proofs.YtinoaajohkafmaaGreat.Pw
open Go.Proofs.YtinoaajohkafmaaGreat.Pr
open Go Go.RowKit Go.ChangeShapes Go.WideShapes Go.Proofs.YtinoaajohkafmaaGreat.Pa Go.Proofs.YtinoaajohkafmaaGreat.Uni
open Go.Proofs.YtinoaajohkafmaaGreat.Lx
set_option linter.unusedVariables false
set_option linter.unusedSimpArgs false
section
variable {H : Type} {enc : TypeId × Value → H} {w : World} {base : Nat} {spare : Nat → Bool} {held : Bool}
theorem cellsN : Tryz.prog.cellsOf 25 = 5 := by kernel_rfl
theorem cellsIn : Tryz.prog.cellsOf 3 = 1 := by kernel_rfl
theorem cellsSt : Tryz.prog.cellsOf 9 = 1 := by kernel_rfl
theorem cellsLs : Tryz.prog.cellsOf 22 = 1 := by kernel_rfl
theorem cellsLn : Tryz.prog.cellsOf 23 = 1 := by kernel_rfl
theorem add_zero (a : Addr) : a.add 0 = a := by unfold Addr.add; simp
theorem add_spot {w : World} {a : Addr} {v : Value} (h : w.cell? a = some v) : ∃ b o, a = ⟨b, o, none⟩ ∧ b < w.heap.size ∧ ∀ i, a.add i = ⟨b, o + i, none⟩ := by
  obtain ⟨b, o, sp⟩ := a
  have hsp : sp = none := World.cell?_spot h
  subst hsp
  exact ⟨b, o, rfl, World.block_lt_of_cell? w _ h, fun i => by unfold Addr.add; split <;> simp_all⟩
theorem names_of {a : Addr} : ∀ (elems : List (DataW H × List MemPlace)) (k : Nat), (∀ i y, elems[i]? = some y → ∃ s : ByteArray, w.cell? (a.add (k + i)) = some (.string s) ∧ s.size + 1 ≤ Rows.uptoBulk y.1) →
    ∃ ns : List ByteArray, ns.length = elems.length ∧ (∀ j x, ns[j]? = some x → w.cell? (a.add (k + j)) = some (.string x)) ∧ (ns.map fun x => x.size + 1).sum ≤ Rows.uptoBulkAll (elems.map (·.1))
  | [], k, _ => ⟨[], rfl, fun j x h => by simp at h, by simp⟩
  | y :: r, k, h => by
    obtain ⟨s, h1, h2⟩ := h 0 y rfl
    obtain ⟨ns, g1, g2, g3⟩ := names_of r (k + 1) (fun i z hz => by
      have := h (i + 1) z (by simpa using hz)
      rwa [show k + (i + 1) = k + 1 + i from by omega] at this)
    refine ⟨s :: ns, by simp [g1], fun j x hx => ?_, ?_⟩
    · cases j with
      | zero => simp at hx; subst hx; exact h1
      | succ j => simp at hx; have := g2 j x hx; rwa [show k + 1 + j = k + (j + 1) from by omega] at this
    · simp only [List.map_cons, List.sum_cons, Rows.uptoBulkAll]
      omega
theorem kids_of {a : Addr} : ∀ (elems : List (DataW H × List MemPlace)) (k : Nat), (∀ i y, elems[i]? = some y → ∃ t N, (∀ j v, (ncs N).toList[j]? = some v → w.cell? ((a.add ((k + i) * 5)).add j) = some v) ∧ Pr.Rd w t N ∧ wei t + 5 * t.sz ≤ Rows.uptoBulk y.1) →
    ∃ ts xs, Rds w ts xs ∧ ts.length = elems.length ∧ (∀ i N, xs[i]? = some N → ∀ j v, (ncs N).toList[j]? = some v → w.cell? ((a.add ((k + i) * 5)).add j) = some v) ∧ weis ts + 5 * szs ts ≤ Rows.uptoBulkAll (elems.map (·.1))
  | [], k, _ => ⟨[], [], by unfold Rds; trivial, rfl, fun i N h => by simp at h, by simp [weis, szs]⟩
  | y :: r, k, h => by
    obtain ⟨t, N, h1, h2, h3⟩ := h 0 y rfl
    obtain ⟨ts, xs, g0, g1, g2, g3⟩ := kids_of r (k + 1) (fun i z hz => by
      have := h (i + 1) z (by simpa using hz)
      rwa [show k + (i + 1) = k + 1 + i from by omega] at this)
    refine ⟨t :: ts, N :: xs, by unfold Rds; exact ⟨h2, g0⟩, by simp [g1], fun i M hM => ?_, ?_⟩
    · cases i with
      | zero => simp at hM; subst hM; exact h1
      | succ i => simp at hM; have := g2 i M hM; rwa [show k + 1 + i = k + (i + 1) from by omega] at this
    · simp only [List.map_cons, Rows.uptoBulkAll, weis, szs]
      omega
set_option maxRecDepth 100000 in
theorem open_node : ∀ (m : Nat) {cs : List Value} {y : DataW H × List MemPlace}, DataW.trod enc Tryz.prog w base spare held m 25 cs = some y → ∃ t N, cs = (ncs N).toList ∧ Pr.Rd w t N ∧ wei t + 5 * t.sz ≤ Rows.uptoBulk y.1 := by
  intro m
  induction m using Nat.strongRecOn with
  | _ m ih =>
  intro cs y h
  obtain ⟨xs, n, hm, hx, hl, hlen, hg⟩ := DataW.trod_struct Tryz.underlying25 h
  rw [cellsN] at hl
  match cs, hl with
  | [c0, c1, c2, c3, c4], _ =>
    match xs, hlen with
    | [y0, y1, y2, y3, y4], _ =>
      have g0 : DataW.trod enc Tryz.prog w base spare held n 3 (([c0, c1, c2, c3, c4].drop 0).take (Tryz.prog.cellsOf 3)) = [y0, y1, y2, y3, y4][0]? := hg 0 _ rfl
      have g1 : DataW.trod enc Tryz.prog w base spare held n 3 (([c0, c1, c2, c3, c4].drop 1).take (Tryz.prog.cellsOf 3)) = [y0, y1, y2, y3, y4][1]? := hg 1 _ rfl
      have g2 : DataW.trod enc Tryz.prog w base spare held n 9 (([c0, c1, c2, c3, c4].drop 2).take (Tryz.prog.cellsOf 9)) = [y0, y1, y2, y3, y4][2]? := hg 2 _ rfl
      have g3 : DataW.trod enc Tryz.prog w base spare held n 22 (([c0, c1, c2, c3, c4].drop 3).take (Tryz.prog.cellsOf 22)) = [y0, y1, y2, y3, y4][3]? := hg 3 _ rfl
      have g4 : DataW.trod enc Tryz.prog w base spare held n 23 (([c0, c1, c2, c3, c4].drop 4).take (Tryz.prog.cellsOf 23)) = [y0, y1, y2, y3, y4][4]? := hg 4 _ rfl
      rw [cellsIn] at g0 g1
      rw [cellsSt] at g2
      rw [cellsLs] at g3
      rw [cellsLn] at g4
      have g0 : DataW.trod enc Tryz.prog w base spare held n 3 [c0] = some y0 := g0
      have g1 : DataW.trod enc Tryz.prog w base spare held n 3 [c1] = some y1 := g1
      have g2 : DataW.trod enc Tryz.prog w base spare held n 9 [c2] = some y2 := g2
      have g3 : DataW.trod enc Tryz.prog w base spare held n 22 [c3] = some y3 := g3
      have g4 : DataW.trod enc Tryz.prog w base spare held n 23 [c4] = some y4 := g4
      obtain ⟨k, hk, b0, _⟩ := DataW.trod_int Tryz.underlying3 g0
      obtain ⟨q, hq, b1, _⟩ := DataW.trod_int Tryz.underlying3 g1
      obtain ⟨s, hs, b2, _⟩ := DataW.trod_string Tryz.underlying9 g2
      simp only [List.cons.injEq, and_true] at hk hq hs
      subst hk hq hs
      obtain ⟨S3, ns, r3, e3, w3⟩ : ∃ (S : Sl) (ns : List ByteArray), c3 = S.v ∧ Txs w S ns ∧ (ns.map fun x => x.size + 1).sum + 1 ≤ Rows.uptoBulk y3.1 := by
        rcases DataW.trod_slice Tryz.underlying22 g3 with ⟨h1, h2⟩ | ⟨a, len, cap, elems, rest, n2, hn2, h1, h2, hb, hlc, hcm, hel, hi, -, -⟩
        · have h1 := (List.cons.inj h1).1
          subst h1
          rw [h2]
          exact ⟨nilSl, [], rfl, ⟨rfl, Nat.le_refl _, Nat.zero_le _, fun j x hx => by simp at hx⟩, by simp [Rows.uptoBulk]⟩
        · have h1 := (List.cons.inj h1).1
          subst h1
          rw [cellsSt] at hi
          obtain ⟨ns, q1, q2, q3⟩ := names_of (w := w) (a := a) elems 0 (fun i z hz => by
            have hil : i < elems.length := (List.getElem?_eq_some_iff.1 hz).1
            have hh := hi i (by omega)
            rw [hz, Nat.mul_one] at hh
            cases hc : w.cells? base (a.add i) 1 with
            | none => rw [hc] at hh; cases hh
            | some cs' =>
              rw [hc] at hh
              have hh : DataW.trod enc Tryz.prog w base spare held n2 9 cs' = some z := hh
              obtain ⟨s', hs', b', _⟩ := DataW.trod_string Tryz.underlying9 hh
              obtain ⟨_, _, hat⟩ := World.cells?_some hc
              have h0 := hat 0 (by omega)
              rw [hs'] at h0
              have ea : (a.add i).add 0 = a.add i := by unfold Addr.add; split <;> simp_all
              rw [ea] at h0
              refine ⟨s', by rw [Nat.zero_add]; exact h0, ?_⟩
              rw [b']
              simp only [Rows.uptoBulk]
              rw [lsz0]
              exact Nat.le_refl _)
          refine ⟨⟨some a, len, cap⟩, ns, rfl, ⟨by show len = _; omega, by show _ ≤ cap; omega, hcm, fun j x hx => ?_⟩, ?_⟩
          · have hc := q2 j x hx
            obtain ⟨x0, hx0⟩ : ∃ x0, ns[0]? = some x0 := ⟨_, List.getElem?_eq_getElem (by have := (List.getElem?_eq_some_iff.1 hx).1; omega)⟩
            have hc0 := q2 0 x0 hx0
            rw [Nat.add_zero, add_zero] at hc0
            obtain ⟨b, o, rfl, hbl, hadd⟩ := add_spot hc0
            rw [hadd, Nat.zero_add] at hc
            exact ⟨b, o, rfl, hbl, hc⟩
          · rw [h2]
            simp only [Rows.uptoBulk]
            omega
      obtain ⟨S4, ts, zs, r4, e4, f4, w4⟩ : ∃ (S : Sl) (ts : List Tree) (zs : List Nd), c4 = S.v ∧ Lst w S zs ∧ Rds w ts zs ∧ weis ts + 5 * szs ts + 1 ≤ Rows.uptoBulk y4.1 := by
        rcases DataW.trod_slice Tryz.underlying23 g4 with ⟨h1, h2⟩ | ⟨a, len, cap, elems, rest, n2, hn2, h1, h2, hb, hlc, hcm, hel, hi, -, -⟩
        · have h1 := (List.cons.inj h1).1
          subst h1
          rw [h2]
          exact ⟨nilSl, [], [], rfl, ⟨rfl, Nat.le_refl _, Nat.zero_le _, fun j x hx => by simp at hx⟩, by unfold Rds; trivial, by simp [Rows.uptoBulk, weis, szs]⟩
        · have h1 := (List.cons.inj h1).1
          subst h1
          rw [cellsN] at hi
          obtain ⟨ts, zs, q0, q1, q2, q3⟩ := kids_of (w := w) (a := a) elems 0 (fun i z hz => by
            have hil : i < elems.length := (List.getElem?_eq_some_iff.1 hz).1
            have hh := hi i (by omega)
            rw [hz] at hh
            cases hc : w.cells? base (a.add (i * 5)) 5 with
            | none => rw [hc] at hh; cases hh
            | some cs' =>
              rw [hc] at hh
              have hh : DataW.trod enc Tryz.prog w base spare held n2 25 cs' = some z := hh
              obtain ⟨t, N, rfl, hr, hw⟩ := ih n2 (by omega) hh
              obtain ⟨_, _, hat⟩ := World.cells?_some hc
              refine ⟨t, N, fun j v hv => ?_, hr, hw⟩
              have hj : j < 5 := by have := (List.getElem?_eq_some_iff.1 hv).1; rw [ncs_list] at this; exact this
              rw [Nat.zero_add, hat j hj, hv])
          have hzl := Rds.len q0
          refine ⟨⟨some a, len, cap⟩, ts, zs, rfl, ⟨by show len = _; omega, by show _ ≤ cap; omega, hcm, fun j x hx => ?_⟩, q0, ?_⟩
          · have hall := q2 j x hx
            rw [Nat.zero_add] at hall
            obtain ⟨x0, hx0⟩ : ∃ x0, zs[0]? = some x0 := ⟨_, List.getElem?_eq_getElem (by have := (List.getElem?_eq_some_iff.1 hx).1; omega)⟩
            have hc0 := q2 0 x0 hx0 0 _ rfl
            rw [Nat.add_zero, Nat.zero_mul, add_zero, add_zero] at hc0
            obtain ⟨b, o, rfl, hbl, hadd⟩ := add_spot hc0
            refine ⟨b, o, rfl, hbl, fun i v hv => ?_⟩
            have := hall i v hv
            rw [hadd] at this
            have e2 : (⟨b, o + j * 5, none⟩ : Addr).add i = ⟨b, o + j * 5 + i, none⟩ := by unfold Addr.add; split <;> simp_all
            rw [e2] at this
            exact this
          · rw [h2]
            simp only [Rows.uptoBulk]
            omega
      subst r3 r4
      refine ⟨.mk k q s ns ts, ⟨k, q, s, S3, S4⟩, rfl, ?_, ?_⟩
      · unfold Pr.Rd
        exact ⟨rfl, rfl, rfl, e3, zs, e4, f4⟩
      · have e0 : y0.1 = _ := congrArg Prod.fst b0
        have e1 : y1.1 = _ := congrArg Prod.fst b1
        have e2 : y2.1 = _ := congrArg Prod.fst b2
        rw [hx]
        simp only [List.map_cons, List.map_nil, Rows.uptoBulk, Rows.uptoBulkAll, e0, e1, e2]
        unfold wei Tree.sz
        rw [lsz0]
        omega
set_option maxRecDepth 100000 in
theorem open_tree {r : Reach} {b0 : Nat} {v : Value} {dd : DataW H} {p : List MemPlace} (hv : Value.okWide Tryz.prog w r b0 25 v) (h : DataW.Trod enc Tryz.prog w base spare held 25 v dd p) :
    ∃ t N, v = .agg (ncs N) ∧ Pr.Rd w t N ∧ wei t + 5 * t.sz ≤ Rows.uptoBulk dd := by
  obtain ⟨cs, rfl, hsz⟩ := okWide_struct Tryz.underlying25 hv
  obtain ⟨fuel, hf⟩ := h
  obtain ⟨t, N, h1, h2, h3⟩ := open_node fuel hf
  refine ⟨t, N, ?_, h2, h3⟩
  have : cs.toList = (ncs N).toList := h1
  rw [show cs = ncs N from Array.toList_inj.1 this]
end
end Go.Proofs.YtinoaajohkafmaaGreat.Pw
