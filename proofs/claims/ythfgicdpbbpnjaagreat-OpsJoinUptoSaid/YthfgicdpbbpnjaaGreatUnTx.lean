/-
  Texts of rows of units.
-/
import Derived.Test.YthfgicdpbbpnjaaGreatUnWrite
import Derived.Test.YthfgicdpbbpnjaaGreatUnLen
import Derived.Test.YthfgicdpbbpnjaaGreatUnOf
namespace Go.Proofs.YthfgicdpbbpnjaaGreat.Uni
open Go.RowKit
set_option linter.unusedVariables false

/-- A slice's elements, read as units. -/
def Rd (w : World) (ao : Option Addr) (u : List Nat) : Prop :=
  ∀ k x, u[k]? = some x → ∃ b off, ao = some ⟨b, off, none⟩ ∧ b < w.heap.size ∧ w.cell? ⟨b, off + k, none⟩ = some (.int .u16 (x : Nat)) ∧ x < 65536
theorem rd_below {w w' : World} {ao : Option Addr} {u : List Nat} (h : Rd w ao u) (hb : Below w.heap.size w w') : Rd w' ao u := by
  intro k x hx
  obtain ⟨b, off, e, hlt, hc, hxb⟩ := h k x hx
  exact ⟨b, off, e, Nat.lt_of_lt_of_le hlt hb.size, (hb.cell (p := ⟨b, off + k, none⟩) hlt).trans hc, hxb⟩
/-- What a slice that owns its units reads as. -/
theorem rd_own {w : World} {base cp : Nat} {ao : Option Addr} {u : List Nat} (h : w.ownsRow base 45 1 (.slice ao u.length cp) u.length (uc u)) (hb : ∀ x ∈ u, x < 65536) : Rd w ao u := by
  intro k x hx
  obtain ⟨g, rfl, hc⟩ := own_at h (k := k) (u := .int .u16 (x : Nat)) (by simp [uc, hx])
  refine ⟨g, 0, rfl, World.block_lt_of_cell? w _ hc, ?_, hb x (List.mem_of_getElem? hx)⟩
  rw [Nat.zero_add]
  exact hc
theorem uns_bd {L : List Nat} (h : ∀ c ∈ L, c ≤ 1114111) : ∀ x ∈ uns L, x < 65536 := by
  intro x hx
  simp only [uns, List.mem_flatMap] at hx
  obtain ⟨c, hc, hx⟩ := hx
  have := h c hc
  unfold un at hx
  split at hx
  · simp at hx; omega
  · simp at hx; omega
theorem units_bd (s : ByteArray) : ∀ x ∈ units s, x < 65536 := by
  unfold units
  cases h : pts s with
  | none => simp
  | some L => exact uns_bd (pts_bd h)
/-- units.Of, by what its slice reads as. -/
theorem of_rd (s : ByteArray) (w : World) (hs : s.size ≤ 100000000) :
    Calls Tryz.prog 37 #[.string s] w fun e w' => ∃ ao cp, e = .returned (.slice ao (units s).length cp) ∧ Rd w' ao (units s) ∧ Below w.heap.size w w' := by
  refine (of_any s w hs).mono ?_
  rintro e w' ⟨v, rfl, hown, hb⟩
  obtain ⟨ao, cp, rfl⟩ := own_shape hown
  exact ⟨ao, cp, rfl, rd_own hown (units_bd s), hb⟩
theorem text_units {s : ByteArray} {L : List Nat} (h : pts s = some L) : (⟨(text (units s)).toArray⟩ : ByteArray) = s := by
  obtain ⟨h1, h2⟩ := pts_back h
  have hu : units s = uns L := by unfold units; rw [h]; rfl
  rw [hu]
  unfold text
  rw [cps_uns L (pts_bd h) h2, ← h1]
theorem rd_drewN {w : World} {ao : Option Addr} {u : List Nat} (h : Rd w ao u) (q : Nat) : Rd (w.drewN q) ao u := h
theorem encs_len (L : List Nat) : (encs L).length ≤ 4 * L.length := by
  induction L with
  | nil => simp [encs]
  | cons c r ih =>
    have := encN_len c
    rw [encs_cons, List.length_append, enc_len, List.length_cons]
    omega
theorem cps_len : ∀ u : List Nat, (cps u).length ≤ u.length
  | [] => Nat.le_refl _
  | [_] => Nat.le_refl _
  | a :: b :: r => by
    simp only [cps]
    split
    · have := cps_len r
      simp only [List.length_cons]
      omega
    · have := cps_len (b :: r)
      simp only [List.length_cons] at this ⊢
      omega
/-- The text of a row of units. -/
def tx (u : List Nat) : ByteArray := ⟨(text u).toArray⟩
theorem tx_size (u : List Nat) : (tx u).size ≤ 4 * u.length := by
  have h1 := encs_len (cps u)
  have h2 := cps_len u
  have h3 : (tx u).size = (encs (cps u)).length := by
    show ((text u).toArray).size = _
    simp [text]
  omega
theorem tx_pts {u : List Nat} (h : ∀ x ∈ u, x < 65536) : pts (tx u) = some (cps u) := pts_encs (cps_bd u h) (np_cps u)
theorem tx_units {u : List Nat} (h : ∀ x ∈ u, x < 65536) : units (tx u) = u := by
  unfold units
  rw [tx_pts h]
  exact uns_cps u h
theorem tx_of {u : List Nat} (h : ∀ x ∈ u, x < 65536) (hl : u.length ≤ 10000) (w : World) :
    Calls Tryz.prog 37 #[.string (tx u)] w fun e w' => ∃ ao cp, e = .returned (.slice ao u.length cp) ∧ Rd w' ao u ∧ Below w.heap.size w w' := by
  have := tx_size u
  refine (of_rd (tx u) w (by omega)).mono ?_
  rintro e w' ⟨ao, cp, rfl, hr, hb⟩
  rw [tx_units h] at hr ⊢
  exact ⟨ao, cp, rfl, hr, hb⟩
theorem tx_length {u : List Nat} (h : ∀ x ∈ u, x < 65536) (hl : u.length ≤ 10000) (w : World) :
    Calls Tryz.prog 31 #[.string (tx u)] w fun e w' => e = .returned (.int .i64 (u.length : Nat)) ∧ Below w.heap.size w w' := by
  have := tx_size u
  refine (len_any (tx u) w (by omega)).mono ?_
  rintro e w' ⟨rfl, hb⟩
  exact ⟨by rw [tx_units h], hb⟩
end Go.Proofs.YthfgicdpbbpnjaaGreat.Uni
