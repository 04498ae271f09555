/-
  units.Join and understudyref1.Join.
-/
import Derived.Test.YthfgicdpbbpnjaaGreatUnTx
import Derived.Test.YthfgicdpbbpnjaaGreatUnSeam
namespace Go.Proofs.YthfgicdpbbpnjaaGreat.Uni
open Go.RowKit
set_option linter.unusedVariables false

/-- Does a text end in a single surrogate? -/
def lastB (s : ByteArray) : Bool := decide (3 ≤ s.size) && surB s (s.size - 3)

def LPost (s : ByteArray) (w : World) (e : Ending) (w' : World) : Prop :=
  (∃ v : Nat, e = .returned (.tuple #[.int .i32 (v : Nat), .bool (lastB s)]) ∧ (lastB s = true → v = surV s (s.size - 3))) ∧ ∃ q, w' = w.drewN q

set_option maxHeartbeats 400000 in
theorem last_any (s : ByteArray) (w : World) (hs : s.size ≤ 100000000) :
    Calls Tryz.prog 44 #[.string s] w (LPost s w) := by
  by_cases h3 : 3 ≤ s.size
  · obtain ⟨n, hn⟩ : ∃ n, s.size = n + 3 := ⟨s.size - 3, by omega⟩
    have hsub : s.size - 3 = n := by omega
    have h3i : 3 ≤ (s.size : Int) := by omega
    cases hb : surB s n with
    | true =>
      have hlb : lastB s = true := by unfold lastB; rw [hsub, hb]; simp [h3]
      have hf := fun w => firstAt_yes s n w (by omega) hb
      rw [hn] at hf
      have HF := Lib.hid hf
      have HL := Lib.hid hlb
      have HS := Lib.hid hsub
      clear hf hlb hsub hb h3
      go_enter Tryz.func44, Tryz.ntmps44
      go_wp2_with (go_at_call 45; refine (HF.out w).mono ?_)
      rintro e w1 ⟨rfl, q, rfl⟩
      go_wp2
      go_ret2
      exact ⟨⟨surV s n, by rw [HL.out]; rfl, fun _ => by rw [HS.out]⟩, q, rfl⟩
    | false =>
      have hlb : lastB s = false := by unfold lastB; rw [hsub, hb]; simp
      have hf := fun w => firstAt_no s n w (by omega) hb
      rw [hn] at hf
      have HF := Lib.hid hf
      have HL := Lib.hid hlb
      clear hf hlb hsub hb h3
      go_enter Tryz.func44, Tryz.ntmps44
      go_wp2_with (go_at_call 45; refine (HF.out w).mono ?_)
      rintro e w1 ⟨rfl, rfl⟩
      go_wp2
      go_ret2
      exact ⟨⟨0, by rw [HL.out]; rfl, fun h => by rw [HL.out] at h; cases h⟩, 0, rfl⟩
  · have hlb : lastB s = false := by unfold lastB; simp [h3]
    have HL := Lib.hid hlb
    have h3i : (s.size : Int) < 3 := by omega
    clear hlb h3
    go_enter Tryz.func44, Tryz.ntmps44
    go_wp2
    go_ret2
    exact ⟨⟨0, by rw [HL.out]; rfl, fun h => by rw [HL.out] at h; cases h⟩, 0, rfl⟩

def FPost (s : ByteArray) (w : World) (e : Ending) (w' : World) : Prop :=
  (∃ v : Nat, e = .returned (.tuple #[.int .i32 (v : Nat), .bool (surB s 0)]) ∧ (surB s 0 = true → v = surV s 0)) ∧ ∃ q, w' = w.drewN q
theorem firstS_any (s : ByteArray) (w : World) (hs : s.size ≤ 100000000) : Calls Tryz.prog 45 #[.string s] w (FPost s w) := by
  cases hb : surB s 0 with
  | true =>
    refine (first_yes s w (by omega) hb).mono ?_
    rintro e w' ⟨rfl, q, rfl⟩
    exact ⟨⟨_, by rw [hb], fun _ => rfl⟩, q, rfl⟩
  | false =>
    refine (first_no s w (by omega) hb).mono ?_
    rintro e w' ⟨rfl, rfl⟩
    exact ⟨⟨0, by rw [hb]; rfl, fun h => by rw [hb] at h; cases h⟩, 0, rfl⟩

/-- Do two halves meet at the seam? -/
def seam (a b : ByteArray) : Bool := lastB a && surB b 0 && isHi (surV a (a.size - 3)) && isLo (surV b 0)
/-- The text that two others are, one behind the other. -/
def jn (a b : ByteArray) : ByteArray := if (pts a).isSome = true ∧ (pts b).isSome = true then tx (units a ++ units b) else ⟨#[]⟩

theorem jn_flat {a b : ByteArray} {A C : List Nat} (ha : pts a = some A) (hb : pts b = some C) (hs : seam a b = false) : text (units a ++ units b) = a.data.toList ++ b.data.toList := by
  have hA := pts_back ha
  have hC := pts_back hb
  have ua : units a = uns A := by unfold units; rw [ha]; rfl
  have ub : units b = uns C := by unfold units; rw [hb]; rfl
  rw [ua, ub, hA.1, hC.1]
  refine text_flat (pts_bd ha) (pts_bd hb) hA.2 hC.2 ?_
  cases hl : lh false A with
  | false => exact .inl rfl
  | true =>
    right
    intro c t e
    cases hc : isLo c with
    | false => rfl
    | true =>
      exfalso
      subst e
      obtain ⟨h3, h1, h2⟩ := last_hi ha hl
      obtain ⟨k1, k2⟩ := first_lo hb hc
      unfold seam lastB at hs
      rw [h1, h2, k1, k2, hc] at hs
      simp at hs
      omega
theorem jn_pair {a b : ByteArray} {A C : List Nat} (ha : pts a = some A) (hb : pts b = some C) (hs : seam a b = true) :
    3 ≤ a.size ∧ 3 ≤ b.size ∧ isHi (surV a (a.size - 3)) = true ∧ isLo (surV b 0) = true ∧
    text (units a ++ units b) = a.data.toList.take (a.size - 3) ++ enc (65536 + (surV a (a.size - 3) - 55296) * 1024 + (surV b 0 - 56320)) ++ b.data.toList.drop 3 := by
  unfold seam lastB at hs
  simp only [Bool.and_eq_true, decide_eq_true_eq] at hs
  obtain ⟨⟨⟨⟨h3, h1⟩, k1⟩, h2⟩, k2⟩ := hs
  have hA := pts_back ha
  have hC := pts_back hb
  have ua : units a = uns A := by unfold units; rw [ha]; rfl
  have ub : units b = uns C := by unfold units; rw [hb]; rfl
  have bA := pts_bd ha
  have bC := pts_bd hb
  obtain ⟨A', eA, tA⟩ := last_sur ha h3 h1
  obtain ⟨C', eC, tC⟩ := first_sur hb k1
  refine ⟨h3, (surB_iff k1).1, h2, k2, ?_⟩
  rw [eA] at ua hA bA
  rw [eC] at ub hC bC
  rw [ua, ub, tA, tC]
  exact text_pair bA bC hA.2 hC.2 h2 k2
end Go.Proofs.YthfgicdpbbpnjaaGreat.Uni
