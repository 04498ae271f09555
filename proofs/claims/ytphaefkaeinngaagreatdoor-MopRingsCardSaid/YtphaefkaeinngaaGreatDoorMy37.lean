/-
  Texts of this seat in build order: MwRingA, MwOpenP.
-/
import Derived.Test.YtphaefkaeinngaaGreatDoorMy36
import Derived.Deep.LoopGhost
import Derived.Test.YtphaefkaeinngaaGreatDoorRows
import Derived.ProofKit
import Derived.OpenShut
import Derived.ChangeArms
import Derived.Deep.Slices
import Derived.Lib.SmallJoins
/-
  The law MopRings: what its walk wants.
-/
namespace Go.Proofs.YtphaefkaeinngaaGreatDoor.Mw
open Go Go.RowKit Go.Maps Go.Shelf Go.Proofs.YtphaefkaeinngaaGreatDoor.Keys Go.Proofs.YtphaefkaeinngaaGreatDoor.Hp Go.Proofs.YtphaefkaeinngaaGreatDoor.Mo
open Go.Proofs.YtphaefkaeinngaaGreatDoor.Des (Vl Ds zeroV zeroD dcs dcs_size dcs_one accF rigF appF eqV)
open Go.Proofs.YtphaefkaeinngaaGreatDoor.Arrs (En ecs)
set_option linter.unusedVariables false
set_option linter.unusedSimpArgs false
theorem and1023 (z : Int) : bits .and .i64 z 1023 = z % 1024 := by
  have e1 : ((BitVec.ofInt 64 z) &&& (BitVec.ofInt 64 1023)).toNat = (z % 18446744073709551616).toNat % 1024 := by
    rw [BitVec.toNat_and, BitVec.toNat_ofInt, BitVec.toNat_ofInt]
    have := Nat.and_two_pow_sub_one_eq_mod (z % 18446744073709551616).toNat 10
    exact this
  have e : bits .and .i64 z 1023 = IntKind.i64.wrap (((BitVec.ofInt 64 z) &&& (BitVec.ofInt 64 1023)).toNat : Int) := rfl
  rw [e, e1, IntKind.wrap_i64]
  omega
def PairsAt (w : World) (a : Option Addr) (n : Nat) : Prop := ∀ i : Nat, i < n → ∃ b off x y, a = some ⟨b, off, none⟩ ∧ b < w.heap.size ∧ w.cell? ⟨b, off + i * 2, none⟩ = some (.int .i64 x) ∧ w.cell? ⟨b, off + i * 2 + 1, none⟩ = some (.int .i64 y)
def ringA (j : Nat) : Aw := { newA 1000 60 30 with objs := (List.replicate j none).map rgOb }
theorem ringA_succ (j : Nat) : makeF (bare (freshT 0 nullV)) [] [] (ringA j) = ringA (j + 1) := by
  unfold makeF ringA
  congr 1
  simp [List.replicate_succ', rgOb, pv]
  rfl
theorem ringA_len (j : Nat) : (ringA j).objs.length = j := by simp [ringA]
theorem run_bdTr (w : World) (p : Vl) : (Bd 39 #[(1, .agg (vcs p)), (2, .bool true)]).run Tryz.prog w = .ok (.agg (tcs (freshT 0 p))) w := run_build w _ _ _ (by kernel_rfl)
theorem run_bdAv (w : World) (v : Vl) : (Bd 52 #[(1, .agg (vcs v))]).run Tryz.prog w = .ok (.agg (acs { zeroQ with v := v } nilS)) w := run_build w _ _ _ (by kernel_rfl)
structure RgW (W2 : World) (wb : Nat) (ps : List (Option Nat)) (f : Int) (w : World) : Prop where
  ex : ∃ M A, WIs ⟨W2, wb, .nilIface, false, 0, min (max 30 0) 1000⟩ 100000 M w A ∧ A.objs = ps.map rgOb ∧ A.fuel = f ∧ A.depth = 0 ∧ A.deep = 30
  ends : Ends ps
section
variable {W2 w w' : World} {wb : Nat} {ps : List (Option Nat)} {f : Int}
theorem RgW.call (h : RgW W2 wb ps f w) (hb : Below w.heap.size w w') : RgW W2 wb ps f w' := by
  obtain ⟨⟨M, A, h1, h2⟩, h3⟩ := h
  exact ⟨⟨M, A, h1.call hb, h2⟩, h3⟩
theorem RgW.bel (h : RgW W2 wb ps f w) : Below W2.heap.size W2 w := by
  obtain ⟨⟨M, A, h1, h2⟩, h3⟩ := h
  exact h1.bel
def GtP (w : World) (q : Option Nat) (e : Ending) (w' : World) : Prop := ∃ t : Th, e = .returned (.tuple #[.agg (tcs t), .bool true]) ∧ t.ok ∧ t.proto = pv q ∧ Below w.heap.size w w'
theorem RgW.get (h : RgW W2 wb ps f w) {i : Nat} {q : Option Nat} (hi : ps[i]? = some q) : ∃ hb, w.cell? ⟨wb, 0, none⟩ = some (ptr hb) ∧ Calls Tryz.prog 17 #[ptr hb, .int .i64 i] w (GtP w q) := by
  obtain ⟨⟨M, A, h1, h2, h3⟩, h4⟩ := h
  refine ⟨M.hb, h1.wblk.cell 0, (wGet h1 (o := i) (x := rgOb q) (by rw [at_rg h2, hi]; rfl)).mono ?_⟩
  rintro e w' ⟨a, cc, s, rfl, k1, ⟨a2, c2, rfl, -⟩, k3⟩
  exact ⟨_, rfl, ⟨⟨a, _, cc, rfl⟩, ⟨a2, _, c2, rfl⟩⟩, rfl, k3⟩
theorem RgW.put (h : RgW W2 wb ps f w) (Xf : DoT → DoT) {o p : Nat} (ho : o < ps.length) {L : List Nat} (hL : Chn ps p L) (hf : f ≠ 0) :
    Calls Tryz.prog 16 #[ptr wb, .int .i64 2, .int .i64 o, .agg (acs { zeroQ with v := objV p } nilS)] w fun e w' => ∃ r : Rp, e = .returned (.agg (rcs r)) ∧ r.good ∧ r.flow = 0 ∧ r.ok = (decide (ps[o]? = some (some p)) || !decide (o ∈ L)) ∧ ∃ ps', ps'.length = ps.length ∧ RgW W2 wb ps' (f - 1) w' := by
  obtain ⟨⟨M, A, h1, h2, h3, h4, h5⟩, hE⟩ := h
  obtain ⟨A', e, k1, k2, k3, k4, k5⟩ := rg_do (X := Xf) (C := fun _ => none) (k := 30) h2 hE ho hL (by rw [h3]; exact hf) (by rw [h4, h5]; decide)
  have hdo := doIs_plain (X := ⟨W2, wb, .nilIface, false, 0, min (max 30 0) 1000⟩) (by show min (max (30 : Int) 0) 1000 ≤ 1000; decide) rfl rfl Xf (k := 30) (by show (0 : Int) ≤ 0; decide) (by show (0 : Int) + (30 : Nat) = min (max 30 0) 1000; decide) 99999 M w A 2 o { zeroQ with v := objV p } nilS h1 fine_zero (VsOut.nil _ _) (by simp [zeroQ])
  rw [e] at hdo
  refine hdo.mono ?_
  rintro e w' ⟨M', kv, rfl, hks, hM, hn⟩
  refine ⟨_, rfl, Rr.good _ hks, rfl, rfl, (if o ∈ L then ps else ps.set o (some p)), by split <;> simp, ⟨M', A', hM, k1, by rw [k2, h3], by rw [k3, h4], by rw [k4, h5]⟩, ?_⟩
  split
  · exact hE
  · rename_i hm
    exact hE.set hL hm ho
end
theorem rem_nat {x : Int} {n : Nat} (hn : 0 < n) : ∃ o : Nat, o < n ∧ (x % 1024) % (n : Int) = (o : Int) ∧ Int.tmod (x % 1024) n = (o : Int) := by
  have h0 : 0 ≤ x % 1024 := by omega
  have h1 : 0 ≤ (x % 1024) % (n : Int) := Int.emod_nonneg _ (by omega)
  have h2 : (x % 1024) % (n : Int) < n := Int.emod_lt_of_pos _ (by omega)
  refine ⟨((x % 1024) % (n : Int)).toNat, by omega, by omega, ?_⟩
  rw [Int.tmod_eq_emod_of_nonneg h0]
  omega
end Go.Proofs.YtphaefkaeinngaaGreatDoor.Mw

/-
  A list of pairs of numbers that came in: its parts.
-/
namespace Go.Proofs.YtphaefkaeinngaaGreatDoor.Mw
open Go Go.RowKit Go.ChangeShapes Go.WideShapes Go.Deep
set_option linter.unusedVariables false
set_option linter.unusedSimpArgs false
theorem cellsOfP : Tryz.prog.cellsOf 77 = 2 := by kernel_rfl
theorem cellsOfI : Tryz.prog.cellsOf 3 = 1 := by kernel_rfl
section
variable {H : Type} {enc : TypeId × Value → H} {w : World} {base : Nat} {spare : Nat → Bool} {held : Bool}
set_option maxRecDepth 100000 in
set_option maxHeartbeats 2000000 in
theorem open_pair {m : Nat} {cs : List Value} {y : DataW H × List MemPlace} (h : DataW.trod enc Tryz.prog w base spare held m 77 cs = some y) : ∃ (a b : Int), cs = [.int .i64 a, .int .i64 b] := by
  obtain ⟨xs, n, _, hx, hl, hlen, hg⟩ := DataW.trod_array Tryz.underlying77 h
  rw [cellsOfP] at hl
  match cs, hl with
  | [c0, c1], _ =>
    match xs, hlen with
    | [y0, y1], _ =>
      have g0 := hg 0 (by decide)
      have g1 := hg 1 (by decide)
      rw [cellsOfI] at g0 g1
      have g0 : DataW.trod enc Tryz.prog w base spare held n 3 [c0] = some y0 := g0
      have g1 : DataW.trod enc Tryz.prog w base spare held n 3 [c1] = some y1 := g1
      obtain ⟨s, hs, _, _⟩ := DataW.trod_int Tryz.underlying3 g0
      obtain ⟨q, hq, _, _⟩ := DataW.trod_int Tryz.underlying3 g1
      simp only [List.cons.injEq, and_true] at hs hq
      subst hs hq
      exact ⟨s, q, rfl⟩
end
set_option maxRecDepth 100000 in
set_option maxHeartbeats 2000000 in
theorem open_pairs {H : Type} {enc : TypeId × Value → H} {W : World} {base b0 : Nat} {r : Reach} {spare : Nat → Bool} {held : Bool} {v : Value} {d : DataW H} {p : List MemPlace} (hv : Value.okWide Tryz.prog W r b0 76 v) (h : DataW.Trod enc Tryz.prog W base spare held 76 v d p) :
    ∃ a len cap, v = .slice a len cap ∧ PairsAt W a len := by
  obtain ⟨a0, len0, cap0, rfl⟩ := okWide_slice Tryz.underlying76 hv
  obtain ⟨fuel, hf⟩ := h
  rcases open_slice Tryz.underlying76 hf with ⟨hcs, _⟩ | ⟨a, len, cap, m, n, D, Pl, hcs, hb, hl, hm, hmm, hx, hi⟩
  · simp [Value.cells] at hcs
    obtain ⟨rfl, rfl, rfl⟩ := hcs
    exact ⟨none, 0, 0, rfl, fun i hi => by omega⟩
  · simp [Value.cells] at hcs
    obtain ⟨rfl, rfl, rfl⟩ := hcs
    have hlm : len0 ≤ m := by rw [hmm]; split <;> omega
    refine ⟨some a, len0, cap0, rfl, fun j hj => ?_⟩
    obtain ⟨cs', hc, ht⟩ := hi j (by omega)
    rw [cellsOfP] at hc
    obtain ⟨x, y, rfl⟩ := open_pair ht
    obtain ⟨_, hcl, hat⟩ := World.cells?_some hc
    have h0 : W.cell? ((a.add (j * 2)).add 0) = some (.int .i64 x) := by rw [hat 0 (by omega)]; rfl
    have h1 : W.cell? ((a.add (j * 2)).add 1) = some (.int .i64 y) := by rw [hat 1 (by omega)]; rfl
    obtain ⟨b, off, sp⟩ := a
    have hsp : sp = none := by
      obtain ⟨cs0, hc0, ht0⟩ := hi 0 (by omega)
      rw [cellsOfP] at hc0
      obtain ⟨x0, y0, rfl⟩ := open_pair ht0
      obtain ⟨_, _, hat0⟩ := World.cells?_some hc0
      have h00 := hat0 0 (by omega)
      simpa [Addr.add] using World.cell?_spot (show W.cell? (((⟨b, off, sp⟩ : Addr).add (0 * 2)).add 0) = some (.int .i64 x0) by rw [h00]; rfl)
    subst hsp
    have hbl := World.block_lt_of_cell? W _ h0
    have e2 : (⟨b, off, none⟩ : Addr).add (j * 2) = ⟨b, off + j * 2, none⟩ := by unfold Addr.add; split <;> simp_all
    have e3 : (⟨b, off + j * 2, none⟩ : Addr).add 0 = ⟨b, off + j * 2, none⟩ := by unfold Addr.add; split <;> simp_all
    have e4 : (⟨b, off + j * 2, none⟩ : Addr).add 1 = ⟨b, off + j * 2 + 1, none⟩ := by unfold Addr.add; split <;> simp_all
    rw [e2, e3] at h0 hbl
    rw [e2, e4] at h1
    exact ⟨b, off, x, y, rfl, hbl, h0, h1⟩
end Go.Proofs.YtphaefkaeinngaaGreatDoor.Mw
