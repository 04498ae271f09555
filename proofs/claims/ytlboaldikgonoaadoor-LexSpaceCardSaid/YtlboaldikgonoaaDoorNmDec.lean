/-
  The reference's decimal text: it is the library's.
-/
import Derived.Test.YtlboaldikgonoaaDoorNmSmall
import Derived.KernelRfl
import Derived.Lib.ItoaMem
namespace Go.Proofs.YtlboaldikgonoaaDoor.Nums
open Go.RowKit
set_option linter.unusedVariables false

/-- One digit as a text. -/
def dgT (d : Nat) : ByteArray := ⟨#[UInt8.ofNat (48 + d)]⟩
theorem dg_piece (d : Nat) (h : d < 10) : (⟨#[48, 49, 50, 51, 52, 53, 54, 55, 56, 57]⟩ : ByteArray).extract d (d + 1) = dgT d := by
  match d, h with
  | 0, _ | 1, _ | 2, _ | 3, _ | 4, _ | 5, _ | 6, _ | 7, _ | 8, _ | 9, _ => rfl
theorem dg_slice (d : Nat) (h : d < 10) (w : World) : (Instr.slice 9 (.string ⟨#[48, 49, 50, 51, 52, 53, 54, 55, 56, 57]⟩) (some (.int .i64 (d : Int))) (some (.int .i64 ((d : Int) + 1))) none).run Tryd.prog w = .ok (.string (dgT d)) w := by
  rw [run_slice_string_if (h := Tryd.underlying9)]
  have hs : ((⟨#[48, 49, 50, 51, 52, 53, 54, 55, 56, 57]⟩ : ByteArray).size : Int) = 10 := rfl
  rw [hs, if_pos (by omega), if_pos (by omega), ← dg_piece d h]
  rfl

set_option maxHeartbeats 1000000 in
theorem rdec_small (u : Nat) (h : u < 10) (w : World) :
    Calls Tryd.prog 16 #[.int .i64 (u : Int)] w fun e w' => e = .returned (.string (dgT u)) ∧ w = w' := by
  have hm : (u : Int) % 10 = u := by omega
  have hd := fun w => dg_slice u h w
  go_enter Tryd.func16, Tryd.ntmps16
  go_wp2
  go_ret
  exact ⟨rfl, rfl⟩

theorem dg_size (r : Nat) : (dgT r).size = 1 := rfl
theorem minus_size : (⟨#[45]⟩ : ByteArray).size = 1 := rfl

set_option maxHeartbeats 1000000 in
theorem rdec_big (u q r : Nat) (h : 9 < u) (hu : u ≤ 9223372036854775807) (hr : r < 10) (hm : (u : Int) % 10 = r) (hq : (u : Int) / 10 = q) (s t : ByteArray)
    (hc : ∀ w, Calls Tryd.prog 16 #[.int .i64 (q : Int)] w fun e w' => e = .returned (.string s) ∧ w = w') (hz : s.size ≤ 100) (hst : s ++ dgT r = t) (w : World) :
    Calls Tryd.prog 16 #[.int .i64 (u : Int)] w fun e w' => e = .returned (.string t) ∧ w = w' := by
  have hd := fun w => dg_slice r hr w
  have h1 : s.size + (dgT r).size ≤ 9223372036854775807 := by rw [dg_size]; omega
  clear hz
  go_enter Tryd.func16, Tryd.ntmps16
  go_wp2_with (go_at_call 16; (with_reducible refine (hc _).mono ?_); rintro e w' ⟨rfl, rfl⟩)
  go_ret
  exact ⟨rfl, rfl⟩

theorem bytes_app (a b : List UInt8) : (⟨a.toArray⟩ : ByteArray) ++ ⟨b.toArray⟩ = ⟨(a ++ b).toArray⟩ := by
  apply ByteArray.ext
  simp
theorem dgT_eq (r : Nat) : dgT r = ⟨[UInt8.ofNat (48 + r)].toArray⟩ := rfl
theorem dec_size (u : Nat) (hu : u ≤ 9223372036854775808) : (⟨(Lib.decDigits u).toArray⟩ : ByteArray).size ≤ 19 := by
  show (Lib.decDigits u).toArray.size ≤ 19
  have := dec_len 18 u (by omega)
  simpa using this

theorem rdec_nonneg (u : Nat) : u ≤ 9223372036854775807 → ∀ w, Calls Tryd.prog 16 #[.int .i64 (u : Int)] w fun e w' => e = .returned (.string ⟨(Lib.decDigits u).toArray⟩) ∧ w = w' := by
  induction u using Nat.strongRecOn with
  | ind u ih =>
    intro hu w
    by_cases h : u < 10
    · rw [Lib.decDigits_one h]; exact rdec_small u h w
    · refine rdec_big u (u / 10) (u % 10) (by omega) hu (by omega) (by omega) (by omega) _ _ (ih (u / 10) (by omega) (by omega)) (by have := dec_size (u / 10) (by omega); omega) ?_ w
      rw [dgT_eq, bytes_app]
      congr 2
      rw [Lib.decDigits.eq_1 u, dif_neg h]

set_option maxHeartbeats 1000000 in
theorem rdec_neg0 (n : Int) (q r : Nat) (h : n < 0) (hn : -9223372036854775808 ≤ n) (hr : r < 10) (hm : n.tmod 10 = -(r : Int)) (hq : n.tdiv 10 = -(q : Int)) (hq1 : q ≤ 922337203685477580) (hz0 : q = 0) (w : World) :
    Calls Tryd.prog 16 #[.int .i64 n] w fun e w' => e = .returned (.string (⟨#[45]⟩ ++ dgT r)) ∧ w = w' := by
  have hd := fun w => dg_slice r hr w
  subst hz0
  have hc : ∀ w, Calls Tryd.prog 16 #[.int .i64 0] w fun e w' => e = .returned (.string ⟨#[48]⟩) ∧ w = w' := fun w => rdec_small 0 (by omega) w
  have h1 : (⟨#[45]⟩ : ByteArray).size + (dgT r).size ≤ 9223372036854775807 := by rw [dg_size, minus_size]; omega
  go_enter Tryd.func16, Tryd.ntmps16
  go_wp2_with (go_at_call 16; (with_reducible refine (hc _).mono ?_); rintro e w' ⟨rfl, rfl⟩)
  go_ret
  exact ⟨rfl, rfl⟩
set_option maxHeartbeats 1000000 in
theorem rdec_neg1 (n : Int) (q r : Nat) (h : n < 0) (hn : -9223372036854775808 ≤ n) (hr : r < 10) (hm : n.tmod 10 = -(r : Int)) (hq : n.tdiv 10 = -(q : Int)) (hq1 : q ≤ 922337203685477580) (s t : ByteArray)
    (hc : ∀ w, Calls Tryd.prog 16 #[.int .i64 (q : Int)] w fun e w' => e = .returned (.string s) ∧ w = w') (hs0 : (s.toList == [48]) = false) (hz : s.size ≤ 100) (hst : (⟨#[45]⟩ : ByteArray) ++ s ++ dgT r = t) (w : World) :
    Calls Tryd.prog 16 #[.int .i64 n] w fun e w' => e = .returned (.string t) ∧ w = w' := by
  have hd := fun w => dg_slice r hr w
  have h1 : (⟨#[45]⟩ : ByteArray).size + s.size ≤ 9223372036854775807 := by rw [minus_size]; omega
  have h2 : (⟨#[45]⟩ ++ s : ByteArray).size + (dgT r).size ≤ 9223372036854775807 := by rw [dg_size, ByteArray.size_append, minus_size]; omega
  have h3 : 1 + s.size + (dgT r).size ≤ 9223372036854775807 := by rw [dg_size]; omega
  clear hz
  go_enter Tryd.func16, Tryd.ntmps16
  go_wp2_with (go_at_call 16; (with_reducible refine (hc _).mono ?_); rintro e w' ⟨rfl, rfl⟩)
  go_ret
  exact ⟨rfl, rfl⟩

/-- The reference's text of a number is the library's. -/
theorem rdec_any (n : Int) (h0 : -9223372036854775808 ≤ n) (h1 : n ≤ 9223372036854775807) (w : World) :
    Calls Tryd.prog 16 #[.int .i64 n] w fun e w' => e = .returned (.string ⟨(Lib.itoa n).toArray⟩) ∧ w = w' := by
  by_cases hn : n < 0
  · obtain ⟨u, hu⟩ : ∃ u : Nat, u = n.natAbs := ⟨_, rfl⟩
    have hi : Lib.itoa n = 45 :: Lib.decDigits u := by rw [hu]; exact if_pos hn
    have e : n = -(u : Int) := by omega
    have hm : n.tmod 10 = -((u % 10 : Nat) : Int) := by rw [e, Int.neg_tmod]; rfl
    have hq : n.tdiv 10 = -((u / 10 : Nat) : Int) := by rw [e, Int.neg_tdiv]; rfl
    by_cases hz : u / 10 = 0
    · have hu9 : u < 10 := by omega
      have hr := rdec_neg0 n (u / 10) (u % 10) hn h0 (by omega) hm hq (by omega) hz w
      rw [hi, Lib.decDigits_one hu9]
      have e2 : u % 10 = u := by omega
      rw [e2, dgT_eq] at hr
      exact hr
    · rw [hi, Lib.decDigits.eq_1 u, dif_neg (show ¬ u < 10 by omega)]
      refine rdec_neg1 n (u / 10) (u % 10) hn h0 (by omega) hm hq (by omega) _ _ (rdec_nonneg (u / 10) (by omega)) ?_ (by have := dec_size (u / 10) (by omega); omega) ?_ w
      · rw [ByteArray.toList_mk]
        have : Lib.decDigits (u / 10) ≠ [48] := fun hh => by
          have hv := val_dec (u / 10)
          rw [hh] at hv
          have e48 : valD [48] = 0 := by decide
          omega
        simpa using this
      · rw [dgT_eq, bytes_app]
        exact bytes_app [45] _ |>.symm ▸ rfl
  · obtain ⟨u, rfl⟩ : ∃ u : Nat, n = u := ⟨n.toNat, by omega⟩
    rw [Lib.itoa_nonneg]
    exact rdec_nonneg u (by omega) w
end Go.Proofs.YtlboaldikgonoaaDoor.Nums
