/-
  slices.Compare of two rows of units.
-/
import Derived.Test.YthfgicdpbbpnjaaGreatOpOpd
import Derived.Test.YthfgicdpbbpnjaaGreatUnTx
namespace Go.Proofs.YthfgicdpbbpnjaaGreat.Ops
open Go Go.RowKit Go.Proofs.YthfgicdpbbpnjaaGreat.Uni
open Go.Proofs.YthfgicdpbbpnjaaGreat.Vals (bnext ball)
set_option linter.unusedVariables false
set_option linter.unusedSimpArgs false

/-- Two rows, compared by the first units that differ. -/
def cmpL : List Nat → List Nat → Int
  | [], [] => 0
  | [], _ :: _ => -1
  | _ :: _, [] => 1
  | a :: r, b :: s => if a < b then -1 else if b < a then 1 else cmpL r s
theorem cmpL_self (a : List Nat) : cmpL a a = 0 := by
  induction a with
  | nil => rfl
  | cons x r ih => simp [cmpL, ih]
theorem cmpL_vals (a : List Nat) : ∀ b, cmpL a b = -1 ∨ cmpL a b = 0 ∨ cmpL a b = 1 := by
  induction a with
  | nil => intro b; cases b <;> simp [cmpL]
  | cons x r ih =>
    intro b
    cases b with
    | nil => simp [cmpL]
    | cons y s =>
      simp only [cmpL]
      split
      · simp
      · split
        · simp
        · exact ih s
theorem cmpL_eq (a : List Nat) : ∀ b, cmpL a b = 0 → a = b := by
  induction a with
  | nil => intro b; cases b <;> simp [cmpL]
  | cons x r ih =>
    intro b
    cases b with
    | nil => simp [cmpL]
    | cons y s =>
      simp only [cmpL]
      split
      · intro h; cases h
      · split
        · intro h; cases h
        · intro h
          rw [ih s h]
          congr 1
          omega
theorem cmpL_trans (a : List Nat) : ∀ b c, cmpL a b = -1 → cmpL b c = -1 → cmpL a c = -1 := by
  induction a with
  | nil =>
    intro b c h1 h2
    cases c with
    | nil => cases b <;> simp [cmpL] at h2
    | cons z t => simp [cmpL]
  | cons x r ih =>
    intro b c h1 h2
    cases b with
    | nil => simp [cmpL] at h1
    | cons y s =>
      cases c with
      | nil => simp [cmpL] at h2
      | cons z t =>
        simp only [cmpL] at h1 h2 ⊢
        by_cases xy : x < y
        · by_cases yz : y < z
          · rw [if_pos (by omega)]
          · rw [if_neg yz] at h2
            by_cases zy : z < y
            · rw [if_pos zy] at h2; cases h2
            · rw [if_pos (by omega)]
        · rw [if_neg xy] at h1
          by_cases yx : y < x
          · rw [if_pos yx] at h1; cases h1
          · rw [if_neg yx] at h1
            by_cases yz : y < z
            · rw [if_pos (by omega)]
            · rw [if_neg yz] at h2
              by_cases zy : z < y
              · rw [if_pos zy] at h2; cases h2
              · rw [if_neg zy] at h2
                rw [if_neg (by omega), if_neg (by omega)]
                exact ih s t h1 h2
theorem drop_at {A : List Nat} {k x : Nat} (h : A[k]? = some x) : A.drop k = x :: A.drop (k + 1) := by
  have hk : k < A.length := (List.getElem?_eq_some_iff.1 h).1
  rw [List.drop_eq_getElem_cons hk]
  congr 1
  exact (List.getElem?_eq_some_iff.1 h).2

def CInv (w0 : World) (A C : List Nat) (i : Value) (wr : World) : Prop :=
  ∃ (k : Nat), i = .int .i64 k ∧ k ≤ A.length ∧ k ≤ C.length ∧ wr = w0 ∧ cmpL A C = cmpL (A.drop k) (C.drop k)

set_option maxRecDepth 100000 in
set_option maxHeartbeats 1000000 in
theorem compare_any (ao bo : Option Addr) (ca cb : Nat) (A C : List Nat) (w : World) (hla : A.length ≤ 1000000000) (hlc : C.length ≤ 1000000000) (ha : Rd w ao A) (hc : Rd w bo C) :
    Calls Tryz.prog 36 #[.slice ao A.length ca, .slice bo C.length cb] w fun e w' => e = .returned (.int .i64 (cmpL A C)) ∧ w' = w := by
  have HA := Lib.hid ha
  have HC := Lib.hid hc
  obtain ⟨R, hR⟩ : ∃ R, cmpL A C = R := ⟨_, rfl⟩
  rw [hR]
  have HR0 := Lib.hid hR
  clear ha hc hR
  go_enter Tryz.func36, Tryz.ntmps36
  go_wp2
  go_loopw [11] (fun i wr => CInv w A C i wr) (fun i _ => A.length - (intOf i).toNat)
  case atStart => exact ⟨0, rfl, Nat.zero_le _, Nat.zero_le _, rfl, rfl⟩
  case round =>
    obtain ⟨k, rfl, hk, hkc, rfl, hall⟩ := hrel
    have HH := Lib.hid hall
    clear hall
    by_cases hlt : k < A.length
    · have hlt2 : (k : Int) < A.length := by omega
      obtain ⟨x, hx⟩ : ∃ x, A[k]? = some x := ⟨A[k], by simp [hlt]⟩
      obtain ⟨b1, o1, rfl, hb1, hc1, hx1⟩ := HA.out k x hx
      have HX := Lib.hid hx
      clear hx
      by_cases hltc : k < C.length
      · have hlt3 : (k : Int) < C.length := by omega
        obtain ⟨y, hy⟩ : ∃ y, C[k]? = some y := ⟨C[k], by simp [hltc]⟩
        obtain ⟨b2, o2, rfl, hb2, hc2, hy1⟩ := HC.out k y hy
        have HY := Lib.hid hy
        clear hy
        have hstep : cmpL A C = if x < y then -1 else if y < x then 1 else cmpL (A.drop (k + 1)) (C.drop (k + 1)) := by
          rw [HH.out, drop_at HX.out, drop_at HY.out]; rfl
        have HS := Lib.hid hstep
        clear hstep hx1 hy1
        by_cases hxy : x < y
        · have hc : (x : Int) < y := by omega
          have hret : R = -1 := by
            rw [← HR0.out]
            rw [HS.out, if_pos hxy]
          have HF := Lib.hid hret
          clear HS hret hxy
          go_wp2_with (go_at_call 53; refine (cmp_uint16_lt _ _ hc _).mono ?_; rintro e w' ⟨rfl, rfl⟩)
          go_ret
          exact ⟨by rw [HF.out]; rfl, rfl⟩
        · by_cases hyx : y < x
          · have hc : (y : Int) < x := by omega
            have hret : R = 1 := by
              rw [← HR0.out]
              rw [HS.out, if_neg hxy, if_pos hyx]
            have HF := Lib.hid hret
            clear HS hret hxy hyx
            go_wp2_with (go_at_call 53; refine (cmp_uint16_gt _ _ hc _).mono ?_; rintro e w' ⟨rfl, rfl⟩)
            go_ret
            exact ⟨by rw [HF.out]; rfl, rfl⟩
          · have hc : (x : Int) = y := by omega
            have hret : cmpL A C = cmpL (A.drop (k + 1)) (C.drop (k + 1)) := by rw [HS.out, if_neg hxy, if_neg hyx]
            have HR := Lib.hid hret
            obtain rfl : y = x := by omega
            clear HS hret hxy hyx
            go_wp2_with (go_at_call 53; refine (cmp_uint16_eq _ _ rfl _).mono ?_; rintro e w' ⟨rfl, rfl⟩)
            go_roundw
            case rel => exact ⟨k + 1, by go_num, by omega, by omega, rfl, HR.out⟩
            case measure => simp [intOf]; omega
      · have hge : (C.length : Int) ≤ k := by omega
        have hret : R = 1 := by
          rw [← HR0.out]
          rw [HH.out, drop_at HX.out, List.drop_eq_nil_of_le (show C.length ≤ k by omega)]; rfl
        have HF := Lib.hid hret
        clear hret hltc
        go_wp2
        go_ret
        exact ⟨by rw [HF.out]; rfl, rfl⟩
    · obtain rfl : k = A.length := by omega
      have hx := HH.out
      rw [List.drop_length] at hx
      by_cases hac : A.length < C.length
      · have hac2 : (A.length : Int) < C.length := by omega
        have hret : R = -1 := by
          rw [← HR0.out]
          rw [hx]
          obtain ⟨y, hy⟩ : ∃ y, C[A.length]? = some y := ⟨C[A.length], by simp [hac]⟩
          rw [drop_at hy]; rfl
        have HF := Lib.hid hret
        clear hret hx HH hac
        go_wp2
        go_ret
        exact ⟨by rw [HF.out]; rfl, rfl⟩
      · have hac2 : decide ((A.length : Int) < C.length) = false := by simp; omega
        have hac3 : decide (A.length < C.length) = false := by simp; omega
        have hret : R = 0 := by
          rw [← HR0.out]
          rw [hx, List.drop_eq_nil_of_le (by omega)]; rfl
        have HF := Lib.hid hret
        clear hret hx HH hac
        go_wp2
        go_ret
        exact ⟨by rw [HF.out]; rfl, rfl⟩
end Go.Proofs.YthfgicdpbbpnjaaGreat.Ops
