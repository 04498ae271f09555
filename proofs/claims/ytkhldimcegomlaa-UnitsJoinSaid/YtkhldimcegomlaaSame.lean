/-
  The laws' own helpers: same, and alive.
-/
import Derived.Test.YtkhldimcegomlaaText
namespace Go.Proofs.Ytkhldimcegomlaa
open Go.RowKit

def SInv (w0 : World) (A C : List Nat) (i : Value) (wr : World) : Prop :=
  ∃ (k q : Nat), i = .int .i64 k ∧ k ≤ A.length ∧ wr = w0.drewN q ∧ ∀ j, j < k → A[j]? = C[j]?

theorem eq_of_all {A C : List Nat} (hl : A.length = C.length) (h : ∀ j, j < A.length → A[j]? = C[j]?) : A = C := by
  apply List.ext_getElem?
  intro j
  by_cases hj : j < A.length
  · exact h j hj
  · rw [List.getElem?_eq_none (by omega), List.getElem?_eq_none (by omega)]

def SamePost (A C : List Nat) (w : World) (e : Ending) (w' : World) : Prop := e = .returned (.bool (decide (A = C))) ∧ ∃ q, w' = w.drewN q

set_option maxRecDepth 100000 in
set_option maxHeartbeats 1000000 in
theorem same_any (ao bo : Option Addr) (ca cb : Nat) (A C : List Nat) (w : World) (hla : A.length ≤ 1000000000) (hlc : C.length ≤ 1000000000) (ha : Rd w ao A) (hc : Rd w bo C) :
    Calls Try.prog 12 #[.slice ao A.length ca, .slice bo C.length cb] w (SamePost A C w) := by
  have HA := Lib.hid ha
  have HC := Lib.hid hc
  clear ha hc
  by_cases hl : A.length = C.length
  · have HL := Lib.hid hl
    have hl2 : (((A.length : Nat) : Int) != (C.length : Nat)) = false := by simp [hl]
    have hl3 : C.length ≤ A.length := by omega
    have hl4 : A.length ≤ C.length := by omega
    clear hl
    go_enter Try.func12, Try.ntmps12
    go_wp2
    go_loopw [5] (fun i wr => SInv w A C i wr) (fun i _ => A.length - (intOf i).toNat)
    case atStart => exact ⟨0, 0, rfl, Nat.zero_le _, rfl, fun j h => by omega⟩
    case round =>
      obtain ⟨k, q, rfl, hk, rfl, hall⟩ := hrel
      have HH := Lib.hid hall
      clear hall
      by_cases hlt : k < A.length
      · have hlt2 : (k : Int) < A.length := by omega
        have hlt3 : (k : Int) < C.length := by omega
        have hltc : k < C.length := by omega
        obtain ⟨x, hx⟩ : ∃ x, A[k]? = some x := ⟨A[k], by simp [hlt]⟩
        obtain ⟨y, hy⟩ : ∃ y, C[k]? = some y := ⟨C[k], by simp [hltc]⟩
        obtain ⟨b1, o1, rfl, hb1, hc1, hx1⟩ := HA.out k x hx
        obtain ⟨b2, o2, rfl, hb2, hc2, hy1⟩ := HC.out k y hy
        have HX := Lib.hid hx
        have HY := Lib.hid hy
        clear hx hy
        by_cases hxy : x = y
        · subst hxy
          go_wp2
          go_quiet (fail)
          go_wp2
          go_roundw
          case rel =>
            refine ⟨k + 1, q + nq, by go_num, by omega, by first | rfl | simp, fun j hj => ?_⟩
            by_cases e : j = k
            · subst e; rw [HX.out, HY.out]
            · exact HH.out j (by omega)
          case measure => simp [intOf]; omega
        · have hne : ((x : Int) != (y : Nat)) = true := by simp; omega
          have hfin : decide (A = C) = false := decide_eq_false (by
            rintro rfl
            have := HX.out
            rw [HY.out] at this
            exact hxy (by simpa using this.symm))
          have HF := Lib.hid hfin
          clear hfin hxy
          go_wp2
          go_quiet (fail)
          go_wp2
          go_ret
          exact ⟨by rw [HF.out]; rfl, q + nq, by simp⟩
      · have hfin : decide (A = C) = true := decide_eq_true (eq_of_all HL.out (fun j hj => HH.out j (by omega)))
        have HF := Lib.hid hfin
        clear hfin
        go_wp2
        go_ret
        exact ⟨by rw [HF.out]; rfl, _, rfl⟩
  · have hl2 : (((A.length : Nat) : Int) != (C.length : Nat)) = true := by simp; omega
    have hfin : decide (A = C) = false := decide_eq_false (fun e => hl (by rw [e]))
    have HF := Lib.hid hfin
    clear hfin hl
    go_enter Try.func12, Try.ntmps12
    go_wp2
    go_ret
    exact ⟨by rw [HF.out]; rfl, 0, rfl⟩

/-- What a slice that owns its units reads as. -/
theorem rd_own {w : World} {base cp : Nat} {ao : Option Addr} {u : List Nat} (h : w.ownsRow base 32 1 (.slice ao u.length cp) u.length (uc u)) (hb : ∀ x ∈ u, x < 65536) : Rd w ao u := by
  intro k x hx
  obtain ⟨g, rfl, hc⟩ := own_at h (k := k) (u := .int .u16 (x : Nat)) (by simp [uc, hx])
  refine ⟨g, 0, rfl, World.block_lt_of_cell? w _ hc, ?_, hb x (List.mem_of_getElem? hx)⟩
  rw [Nat.zero_add]
  exact hc

theorem uns_bd {L : List Nat} (h : ∀ c ∈ L, c ≤ 1114111) : ∀ x ∈ uns L, x < 65536 := by
  intro x hx
  simp only [uns, List.mem_flatMap] at hx
  obtain ⟨c, hc, hx⟩ := hx
  have := h c hc
  unfold un at hx
  split at hx
  · simp at hx; omega
  · simp at hx; omega
theorem units_bd (s : ByteArray) : ∀ x ∈ units s, x < 65536 := by
  unfold units
  cases h : pts s with
  | none => simp
  | some L => exact uns_bd (pts_bd h)
end Go.Proofs.Ytkhldimcegomlaa
