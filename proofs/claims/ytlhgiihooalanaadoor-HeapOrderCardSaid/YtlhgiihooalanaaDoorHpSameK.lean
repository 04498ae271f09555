/-
  SameKeys of a list with its like.
-/
import Derived.Test.YtlhgiihooalanaaDoorHpKeyed
namespace Go.Proofs.YtlhgiihooalanaaDoor.Hp
open Go Go.RowKit Go.Maps Go.Proofs.YtlhgiihooalanaaDoor.Keys
set_option linter.unusedVariables false
set_option linter.unusedSimpArgs false
attribute [local go_sem ↓] run_eqK
theorem measK {n j : Nat} {v : Int} (hv : v = (j : Int) + 1) (h : (j : Int) < n) : n - (intOf (.int .i64 v)).toNat < n - (intOf (.int .i64 (j : Int))).toNat := by
  subst hv
  show n - ((j : Int) + 1).toNat < n - ((j : Int)).toNat
  omega
set_option maxRecDepth 100000 in
set_option maxHeartbeats 2000000 in
theorem sameK_any (a b : Option Addr) (ca cb : Nat) (ks : List KV) (w : World) (hlen : ks.length ≤ 1000000) (ha : KeysAt a ks w) (hb : KeysAt b ks w) :
    Calls Tryd.prog 9 #[.slice a ks.length ca, .slice b ks.length cb] w fun e w' => e = .returned (.bool true) ∧ Below w.heap.size w w' := by
  have HA := Lib.hid ha
  have HB := Lib.hid hb
  clear ha hb
  go_enter Tryd.func9, Tryd.ntmps9
  go_wp2
  go_loopw [5] (fun i wr => ∃ j : Nat, j ≤ ks.length ∧ i = .int .i64 j ∧ Below w.heap.size w wr) (fun i _ => ks.length - (intOf i).toNat)
  case atStart => exact ⟨0, Nat.zero_le _, rfl, Below.refl _ _⟩
  case round =>
    obtain ⟨j, hj, rfl, hbl⟩ := hrel
    by_cases hlt : j < ks.length
    · obtain ⟨v, hv⟩ : ∃ v, ks[j]? = some v := ⟨ks[j], by simp [hlt]⟩
      have hlt2 : (j : Int) < ks.length := by omega
      obtain ⟨b1, o1, rfl, q1, p0, p1⟩ := (HA.out.below hbl) j v hv
      obtain ⟨b2, o2, rfl, q2, r0, r1⟩ := (HB.out.below hbl) j v hv
      have hne : eqK v.1 v.2 v.1 v.2 = true := (eqK_iff (a := v) (b := v)).2 rfl
      have HV := Lib.hid hv
      clear hv q1 q2
      go_wp2
      go_region
      all_goals go_wp2
      all_goals go_roundw
      all_goals first
        | (case rel => exact ⟨j + 1, by omega, by go_num, hbl.drew⟩)
        | (case measure => exact measK rfl hlt2)
    · obtain rfl : j = ks.length := by omega
      clear hlt hj
      go_wp2
      go_ret
      exact ⟨rfl, hbl⟩
end Go.Proofs.YtlhgiihooalanaaDoor.Hp
