/-
  Texts of rows of units: what the functions give of them.
-/
import Derived.Test.YtkhldimcegomlaaLawo
import Derived.Test.YtkhldimcegomlaaRtext
namespace Go.Proofs.Ytkhldimcegomlaa
open Go.RowKit

theorem encs_len (L : List Nat) : (encs L).length ≤ 4 * L.length := by
  induction L with
  | nil => simp [encs]
  | cons c r ih =>
    have := encN_len c
    rw [encs_cons, List.length_append, enc_len, List.length_cons]
    omega
theorem cps_len : ∀ u : List Nat, (cps u).length ≤ u.length
  | [] => Nat.le_refl _
  | [_] => Nat.le_refl _
  | a :: b :: r => by
    simp only [cps]
    split
    · have := cps_len r
      simp only [List.length_cons]
      omega
    · have := cps_len (b :: r)
      simp only [List.length_cons] at this ⊢
      omega

/-- The text of a row of units. -/
def tx (u : List Nat) : ByteArray := ⟨(text u).toArray⟩
theorem tx_size (u : List Nat) : (tx u).size ≤ 4 * u.length := by
  have h1 := encs_len (cps u)
  have h2 := cps_len u
  have h3 : (tx u).size = (encs (cps u)).length := by
    show ((text u).toArray).size = _
    simp [text]
  omega
theorem tx_pts {u : List Nat} (h : ∀ x ∈ u, x < 65536) : pts (tx u) = some (cps u) := pts_encs (cps_bd u h) (np_cps u)
theorem tx_units {u : List Nat} (h : ∀ x ∈ u, x < 65536) : units (tx u) = u := by
  unfold units
  rw [tx_pts h]
  exact uns_cps u h

theorem tx_text (ao : Option Addr) (cp : Nat) (u : List Nat) (w : World) (hl : u.length ≤ 10000) (hr : Rd w ao u) :
    Calls Try.prog 15 #[.slice ao u.length cp] w fun e w' => e = .returned (.string (tx u)) ∧ Below w.heap.size w w' := text_any ao cp u w hl hr
theorem tx_rtext (ao : Option Addr) (cp : Nat) (u : List Nat) (w : World) (hl : u.length ≤ 10000) (hr : Rd w ao u) :
    Calls Try.prog 16 #[.slice ao u.length cp] w fun e w' => e = .returned (.string (tx u)) ∧ Below w.heap.size w w' := rtext_any ao cp u w hl hr
theorem tx_right {u : List Nat} (h : ∀ x ∈ u, x < 65536) (hl : u.length ≤ 10000) (w : World) :
    Calls Try.prog 10 #[.string (tx u)] w fun e w' => e = .returned (.bool true) ∧ Below w.heap.size w w' := by
  have := tx_size u
  refine (right_any (tx u) w (by omega)).mono ?_
  rintro e w' ⟨rfl, hb⟩
  exact ⟨by rw [tx_pts h]; rfl, hb⟩
theorem tx_of {u : List Nat} (h : ∀ x ∈ u, x < 65536) (hl : u.length ≤ 10000) (w : World) :
    Calls Try.prog 9 #[.string (tx u)] w fun e w' => ∃ ao cp, e = .returned (.slice ao u.length cp) ∧ Rd w' ao u ∧ Below w.heap.size w w' := by
  have := tx_size u
  refine (of_rd (tx u) w (by omega)).mono ?_
  rintro e w' ⟨ao, cp, rfl, hr, hb⟩
  rw [tx_units h] at hr ⊢
  exact ⟨ao, cp, rfl, hr, hb⟩
theorem tx_length {u : List Nat} (h : ∀ x ∈ u, x < 65536) (hl : u.length ≤ 10000) (w : World) :
    Calls Try.prog 14 #[.string (tx u)] w fun e w' => e = .returned (.int .i64 (u.length : Nat)) ∧ Below w.heap.size w w' := by
  have := tx_size u
  refine (len_any (tx u) w (by omega)).mono ?_
  rintro e w' ⟨rfl, hb⟩
  exact ⟨by rw [tx_units h], hb⟩

/-- A slice that came in, read as units. -/
def Src (w : World) (a : Option Addr) (len cap : Nat) (u : List Nat) : Prop :=
  u.length = len ∧ (∀ x ∈ u, x < 65536) ∧ Rd w a u ∧ len ≤ cap ∧ cap ≤ maxLen ∧ ((a = none ∧ u = [] ∧ cap = 0) ∨ ∃ x, a = some x ∧ ∀ j v, (uc u)[j]? = some v → w.cell? (x.add j) = some v)
end Go.Proofs.Ytkhldimcegomlaa
