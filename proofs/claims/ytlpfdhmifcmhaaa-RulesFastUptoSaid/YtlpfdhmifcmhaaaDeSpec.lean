/-
  Plain mathematics of descriptors: both sides' definitions agree.
-/
import Derived.Test.YtlpfdhmifcmhaaaDeDef
import Derived.Test.YtlpfdhmifcmhaaaDeAppl
namespace Go.Proofs.Ytlpfdhmifcmhaaa.Des
open Go.RowKit Go.Proofs.Ytlpfdhmifcmhaaa.Vals
set_option linter.unusedVariables false
set_option linter.unusedSimpArgs false

theorem replF_def (x y : Ds) : replF x y = ⟨y.hv || x.hv, y.hg || x.hg, y.hs || x.hs, y.hw || x.hw, y.he || x.he, y.hc || x.hc, cond y.hv y.v x.v, cond y.hg y.g x.g, cond y.hs y.s x.s, cond y.hw y.w x.w, cond y.he y.e x.e, cond y.hc y.c x.c⟩ := by
  unfold replF
  cases y.hv <;> cases y.hg <;> cases y.hs <;> rfl
theorem overF_def (y x : Ds) : overF y x = ⟨y.hv || x.hv, y.hg || x.hg, y.hs || x.hs, y.hw || x.hw, x.he, x.hc, cond y.hv y.v x.v, cond y.hg y.g x.g, cond y.hs y.s x.s, cond y.hw y.w x.w, cond y.he y.e x.e, cond y.hc y.c x.c⟩ := by
  unfold overF
  cases y.hv <;> cases y.hg <;> cases y.hs <;> rfl
theorem eqV_no {a b : Vl} (h : ¬ a = b) : eqV a b = false := by
  cases e : eqV a b
  · rfl
  · exact absurd (eqV_iff.1 e) h
theorem eqV_comm (a b : Vl) : eqV a b = eqV b a := by
  by_cases h : a = b
  · rw [h]
  · rw [eqV_no h, eqV_no (fun e => h e.symm)]
theorem zcase (g : Vl) : g = zeroV ∨ eqV g zeroV = false := by
  by_cases h : g = zeroV
  · exact .inl h
  · exact .inr (eqV_no h)
theorem can_zero : canF zeroV = true := rfl
theorem L1 (b : Bool) : ((b || false) == b) = true := by cases b <;> rfl
theorem L2 (b : Bool) (v : Vl) : eqV (cond b v zeroV) v = (b || eqV v zeroV) := by
  cases b
  · simp only [cond_false, Bool.false_or]
    exact eqV_comm _ _
  · simp only [cond_true, Bool.true_or]
    exact eqV_refl v
theorem L3 (b w : Bool) : ((cond b w false) == w) = (b || !w) := by cases b <;> cases w <;> rfl
theorem eqd0 (d : Ds) : eqD (replF zeroD d) d = ((d.hv || eqV d.v zeroV) && (d.hg || eqV d.g zeroV) && (d.hs || eqV d.s zeroV) && (d.hw || !d.w) && (d.he || !d.e) && (d.hc || !d.c)) := by
  rw [replF_def]
  simp only [eqD, zeroD, L1, L2, L3, Bool.true_and, Bool.and_assoc]
theorem rig_eq (d : Ds) : rigF d = rigR d := by
  unfold rigF rigR badF
  rw [eqd0]
  generalize (accF d && datF d) = ad
  generalize (d.hv || eqV d.v zeroV) = A
  generalize ((d.hw || !d.w)) = B
  generalize ((d.he || !d.e)) = C
  generalize ((d.hc || !d.c)) = D
  cases ad
  · cases hg : d.hg <;> cases hs : d.hs <;> rcases zcase d.g with g0 | g0 <;> rcases zcase d.s with s0 | s0 <;> cases hcg : canF d.g <;> cases hcs : canF d.s <;> simp [*, eqV_refl] <;> (try simp [g0, can_zero] at hcg) <;> (try simp [s0, can_zero] at hcs)
  · simp
theorem wh_eq (d : Ds) : whF d = whR d := by
  unfold whF whR
  rw [rig_eq]
  cases rigR d <;> cases d.he <;> cases d.hc <;> simp
/-- What a right descriptor is. -/
theorem rig_and {d : Ds} (h : rigR d = true) : (accF d && datF d) = false ∧ (d.hg = true → canF d.g = true) ∧ (d.hs = true → canF d.s = true) ∧ (d.hv = false → d.v = zeroV) ∧ (d.hg = false → d.g = zeroV) ∧ (d.hs = false → d.s = zeroV) ∧ (d.hw = false → d.w = false) ∧ (d.he = false → d.e = false) ∧ (d.hc = false → d.c = false) := by
  unfold rigR badF at h
  split at h
  · cases h
  · rename_i hb
    simp only [Bool.and_eq_true, Bool.or_eq_true, eqV_iff, Bool.not_eq_true', Bool.or_eq_true, not_or, Bool.not_eq_true] at h hb
    obtain ⟨⟨⟨⟨⟨h1, h2⟩, h3⟩, h4⟩, h5⟩, h6⟩ := h
    obtain ⟨⟨b1, b2⟩, b3⟩ := hb
    refine ⟨by simpa using b1, fun e => ?_, fun e => ?_, fun e => ?_, fun e => ?_, fun e => ?_, fun e => ?_, fun e => ?_, fun e => ?_⟩
    · simpa [e] using b2
    · simpa [e] using b3
    all_goals simp_all
theorem rig_mk {d : Ds} (h1 : (accF d && datF d) = false) (h2 : d.hg = true → canF d.g = true) (h3 : d.hs = true → canF d.s = true) (h4 : d.hv = false → d.v = zeroV) (h5 : d.hg = false → d.g = zeroV) (h6 : d.hs = false → d.s = zeroV) (h7 : d.hw = false → d.w = false) (h8 : d.he = false → d.e = false) (h9 : d.hc = false → d.c = false) : rigR d = true := by
  unfold rigR badF
  rw [h1]
  cases a1 : d.hv <;> cases a2 : d.hg <;> cases a3 : d.hs <;> cases a4 : d.hw <;> cases a5 : d.he <;> cases a6 : d.hc <;> simp_all [eqV_refl]
end Go.Proofs.Ytlpfdhmifcmhaaa.Des
