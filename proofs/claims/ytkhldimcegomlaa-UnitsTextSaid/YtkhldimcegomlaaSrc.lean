/-
  A slice of units that came in, read as a row of units.
-/
import Derived.Test.YtkhldimcegomlaaLawt
import Derived.ProofKit
import Derived.OpenShut
namespace Go.Proofs.Ytkhldimcegomlaa
open Go.RowKit

theorem wf_u16 {n : Int} (h : (Lit.int .u16 n).wf = true) : 0 ≤ n ∧ n ≤ 65535 := by
  simpa [Lit.wf, IntKind.min, IntKind.max, IntKind.signed, IntKind.bits] using h

theorem src_of {w : World} {a : Option Addr} {len cap : Nat} {zs : List Int}
    (h : (a = none ∧ len = 0 ∧ cap = 0 ∧ zs = []) ∨
      ∃ x, a = some x ∧ len ≤ cap ∧ cap ≤ maxLen ∧ zs.length = cap ∧ (∀ i, i < zs.length → w.cell? (x.add i) = some (.int .u16 (zs.getD i 0))) ∧ ∀ n ∈ zs, (Lit.int .u16 n).wf = true) :
    ∃ u, Src w a len cap u := by
  rcases h with ⟨rfl, rfl, rfl, rfl⟩ | ⟨x, rfl, hlc, hcm, hz, hcell, hwf⟩
  · exact ⟨[], rfl, fun x hx => by simp at hx, fun k x hx => by simp at hx, Nat.le_refl _, Nat.zero_le _, .inl ⟨rfl, rfl, rfl⟩⟩
  · have hget : ∀ (k v : Nat), ((zs.take len).map Int.toNat)[k]? = some v → k < len ∧ k < zs.length ∧ zs.getD k 0 = (v : Int) ∧ v < 65536 := by
      intro k v hk
      rw [List.getElem?_map] at hk
      by_cases hkl : k < len
      · have hkz : k < zs.length := by omega
        rw [List.getElem?_take_of_lt hkl, List.getElem?_eq_getElem hkz] at hk
        simp at hk
        have hw := wf_u16 (hwf _ (List.getElem_mem hkz))
        refine ⟨hkl, hkz, ?_, by omega⟩
        rw [List.getD_eq_getElem?_getD, List.getElem?_eq_getElem hkz]
        simp
        omega
      · rw [List.getElem?_eq_none (by rw [List.length_take]; omega)] at hk
        simp at hk
    refine ⟨(zs.take len).map Int.toNat, by simp; omega, ?_, ?_, hlc, hcm, .inr ⟨x, rfl, ?_⟩⟩
    · intro v hv
      obtain ⟨k, hk⟩ := List.getElem?_of_mem hv
      exact (hget k v hk).2.2.2
    · intro k v hk
      obtain ⟨_, h1, h2, h3⟩ := hget k v hk
      obtain ⟨b, off, rfl, hc⟩ := ints_at hcell (by omega)
      have := hc k h1
      rw [h2] at this
      exact ⟨b, off, rfl, World.block_lt_of_cell? w _ this, this, h3⟩
    · intro j v hj
      unfold uc at hj
      rw [List.getElem?_map] at hj
      cases hu : ((zs.take len).map Int.toNat)[j]? with
      | none => rw [hu] at hj; simp at hj
      | some y =>
        rw [hu] at hj
        simp at hj
        obtain ⟨_, h1, h2, h3⟩ := hget j y hu
        rw [hcell j h1, h2, ← hj]
end Go.Proofs.Ytkhldimcegomlaa
