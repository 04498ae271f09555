/-
  Keyed: whether a key stands in a list.
-/
import Derived.Test.YtlhgiihooalanaaDoorHpEqK
import Derived.WalkSpells
import Derived.WalkLawsBesides
import Derived.RegionTactic
import Derived.Lib.Hide
namespace Go.Proofs.YtlhgiihooalanaaDoor.Hp
open Go Go.RowKit Go.Maps Go.Proofs.YtlhgiihooalanaaDoor.Keys
set_option linter.unusedVariables false
set_option linter.unusedSimpArgs false
attribute [local go_sem ↓] run_eqK

theorem memb_next {ks : List KV} {j : Nat} {k2 : KV} (h : ks[j]? = some k2) (k : KV) : memb k (ks.take (j + 1)) = (memb k (ks.take j) || decide (k2 = k)) := by
  rw [take_snoc h]
  simp [memb]
theorem memb_have {ks : List KV} {j : Nat} {k2 k : KV} (h : ks[j]? = some k2) (he : k2 = k) : memb k ks = true := (memb_iff _ _).2 (he ▸ List.mem_of_getElem? h)
set_option maxRecDepth 100000 in
set_option maxHeartbeats 2000000 in
theorem keyed_any (ao : Option Addr) (cap : Nat) (ks : List KV) (k : KV) (w : World) (hlen : (ks.length : Int) ≤ 9223372036854775807) (hc : KeysAt ao ks w) :
    Calls Tryd.prog 8 #[.slice ao ks.length cap, .agg #[.string k.1, .int .i64 k.2]] w fun x w' => x = .returned (.bool (memb k ks)) ∧ Below w.heap.size w w' := by
  have HC := Lib.hid hc
  clear hc
  go_enter Tryd.func8, Tryd.ntmps8
  go_wp2
  go_loopw [5] (fun i wr => ∃ j : Nat, j ≤ ks.length ∧ i = .int .i64 j ∧ Below w.heap.size w wr ∧ wr.cell? ⟨w.heap.size, 0, none⟩ = some (.string k.1) ∧ wr.cell? ⟨w.heap.size, 1, none⟩ = some (.int .i64 k.2) ∧ Hid (memb k (ks.take j) = false)) (fun i _ => ks.length - (intOf i).toNat)
  case atStart => exact ⟨0, Nat.zero_le _, rfl, ball _ _, by simp, by simp, Lib.hid (by simp [memb])⟩
  case round =>
    obtain ⟨j, hj, rfl, hbx, b0, b1, hno⟩ := hrel
    by_cases hlt : j < ks.length
    · obtain ⟨k2, hk2⟩ : ∃ k2, ks[j]? = some k2 := ⟨ks[j], by simp [hlt]⟩
      have hlt2 : (j : Int) < ks.length := by omega
      obtain ⟨b, off, rfl, hb, c0, c1⟩ := (HC.out.below hbx) j k2 hk2
      have HK := Lib.hid hk2
      clear hk2 hb
      cases he : eqK k2.1 k2.2 k.1 k.2
      · go_wp2
        go_region
        go_wp2
        go_roundw
        case rel => exact ⟨j + 1, by omega, by go_num, hbx.drew, b0, b1, Lib.hid (by rw [memb_next HK.out, hno.out, Bool.false_or]; exact decide_eq_false (fun e => by rw [e, eqK_iff.2 rfl] at he; cases he))⟩
        case measure => simp [intOf]; omega
      · go_wp2
        go_region
        go_wp2
        go_ret
        exact ⟨by rw [memb_have HK.out (eqK_iff.1 he)]; rfl, hbx.drew⟩
    · obtain rfl : j = ks.length := by omega
      have hn := hno.out
      rw [List.take_length] at hn
      clear hlt hj hno
      go_wp2
      go_ret
      exact ⟨by rw [hn]; rfl, hbx⟩
end Go.Proofs.YtlhgiihooalanaaDoor.Hp
