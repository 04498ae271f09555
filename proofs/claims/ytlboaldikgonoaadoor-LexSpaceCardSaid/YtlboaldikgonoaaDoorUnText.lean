/-
  units.Text.
-/
import Derived.Test.YtlboaldikgonoaaDoorUnWrite
namespace Go.Proofs.YtlboaldikgonoaaDoor.Uni
open Go.RowKit
set_option linter.unusedVariables false

/-- A slice's elements, read as units. -/
def Rd (w : World) (ao : Option Addr) (u : List Nat) : Prop :=
  ∀ k x, u[k]? = some x → ∃ b off, ao = some ⟨b, off, none⟩ ∧ b < w.heap.size ∧ w.cell? ⟨b, off + k, none⟩ = some (.int .u16 (x : Nat)) ∧ x < 65536

theorem rd_below {w w' : World} {ao : Option Addr} {u : List Nat} (h : Rd w ao u) (hb : Below w.heap.size w w') : Rd w' ao u := by
  intro k x hx
  obtain ⟨b, off, e, hlt, hc, hxb⟩ := h k x hx
  exact ⟨b, off, e, Nat.lt_of_lt_of_le hlt hb.size, (hb.cell (p := ⟨b, off + k, none⟩) hlt).trans hc, hxb⟩

theorem drop_cons {u : List Nat} {k a : Nat} (h : u[k]? = some a) : u.drop k = a :: u.drop (k + 1) := by
  obtain ⟨hlt, rfl⟩ := List.getElem?_eq_some_iff.1 h
  exact List.drop_eq_getElem_cons hlt
theorem text_one {u : List Nat} {k a : Nat} (h : u[k]? = some a) (hn : isHi a = false ∨ ∀ b, u[k + 1]? = some b → isLo b = false) : text (u.drop k) = enc a ++ text (u.drop (k + 1)) := by
  rw [drop_cons h]
  unfold text
  cases hd : u.drop (k + 1) with
  | nil => simp [cps, encs]
  | cons b r =>
    have hb : u[k + 1]? = some b := by
      have := congrArg (fun l => l[0]?) hd
      simpa [List.getElem?_drop] using this
    simp only [cps]
    rw [if_neg (by
      rintro ⟨h1, h2⟩
      rcases hn with hn | hn
      · rw [hn] at h1; cases h1
      · rw [hn b hb] at h2; cases h2), encs_cons]
theorem text_two {u : List Nat} {k a b : Nat} (h : u[k]? = some a) (h2 : u[k + 1]? = some b) (ha : isHi a = true) (hb : isLo b = true) : text (u.drop k) = enc (65536 + (a - 55296) * 1024 + (b - 56320)) ++ text (u.drop (k + 2)) := by
  rw [drop_cons h, drop_cons h2]
  unfold text
  simp only [cps]
  rw [if_pos ⟨ha, hb⟩, encs_cons]

def TInv (w0 : World) (u : List Nat) (i : Value) (wr : World) : Prop :=
  ∃ (k : Nat) (acc : List UInt8), i = .int .i64 k ∧ k ≤ u.length ∧ Bd w0.heap.size w0.heap.size (Lib.byteCells acc) wr ∧ Below w0.heap.size w0 wr ∧ acc ++ text (u.drop k) = text u ∧ acc.length ≤ 4 * k

theorem tinv_one {w0 wr w1 : World} {u : List Nat} {k a : Nat} {acc : List UInt8} (h : acc ++ text (u.drop k) = text u) (ha : acc.length ≤ 4 * k) (hbel : Below w0.heap.size w0 wr) (hk : u[k]? = some a) (hn : isHi a = false ∨ ∀ b, u[k + 1]? = some b → isLo b = false)
    (hB : Bd w0.heap.size w0.heap.size (Lib.byteCells (acc ++ enc a)) w1) (hb1 : Below w0.heap.size wr w1) : TInv w0 u (.int .i64 ((k : Int) + 1)) w1 := by
  have hlt := (List.getElem?_eq_some_iff.1 hk).1
  refine ⟨k + 1, acc ++ enc a, by go_num, by omega, hB, hbel.trans hb1, ?_, ?_⟩
  · rw [List.append_assoc, ← text_one hk hn]; exact h
  · have := encN_len a
    rw [List.length_append, enc_len]; omega
theorem tinv_two {w0 wr w1 : World} {u : List Nat} {k a b : Nat} {acc : List UInt8} (h : acc ++ text (u.drop k) = text u) (ha : acc.length ≤ 4 * k) (hbel : Below w0.heap.size w0 wr) (hk : u[k]? = some a) (hk2 : u[k + 1]? = some b) (h1 : isHi a = true) (h2 : isLo b = true)
    (hB : Bd w0.heap.size w0.heap.size (Lib.byteCells (acc ++ enc (65536 + (a - 55296) * 1024 + (b - 56320)))) w1) (hb1 : Below w0.heap.size wr w1) : TInv w0 u (.int .i64 ((k : Int) + 2)) w1 := by
  have hlt := (List.getElem?_eq_some_iff.1 hk2).1
  refine ⟨k + 2, acc ++ enc (65536 + (a - 55296) * 1024 + (b - 56320)), by go_num, by omega, hB, hbel.trans hb1, ?_, ?_⟩
  · rw [List.append_assoc, ← text_two hk hk2 h1 h2]; exact h
  · have := encN_len (65536 + (a - 55296) * 1024 + (b - 56320))
    rw [List.length_append, enc_len]; omega

set_option maxRecDepth 100000 in
set_option maxHeartbeats 1000000 in
theorem text_any (ao : Option Addr) (cp : Nat) (u : List Nat) (w : World) (hl : u.length ≤ 10000) (hr : Rd w ao u) :
    Calls Tryd.prog 44 #[.slice ao u.length cp] w fun e w' => e = .returned (.string ⟨(text u).toArray⟩) ∧ Below w.heap.size w w' := by
  have HR := Lib.hid hr
  clear hr
  go_enter Tryd.func44, Tryd.ntmps44
  go_wp2_with (go_at_call 56; refine (Tryd.Builder_Grow_fresh w.heap.size w.heap.size u.length _ (Nat.le_refl _) (heap_alloc_new w _) (by simp) (by omega)).mono ?_)
  rintro e w1 ⟨rfl, hb1, bel1⟩
  have hB0 : TInv w u (.int .i64 0) w1 := ⟨0, [], rfl, Nat.zero_le _, hb1, ((Below.refl _ _).alloc (Nat.le_refl _) _).trans bel1, rfl, by simp⟩
  have HB := Lib.hid hB0
  clear hB0 hb1 bel1
  go_wp2
  go_loopw [4] (fun i wr => TInv w u i wr) (fun i _ => u.length - (intOf i).toNat)
  case atStart => exact HB.out
  case round =>
    obtain ⟨k, acc, rfl, hk, hBd, hbel, htx, hal⟩ := hrel
    have hbs := hbel.size
    have HT := Lib.hid htx
    clear htx
    by_cases hlt : k < u.length
    · have hlt2 : (k : Int) < u.length := by omega
      obtain ⟨a, ha⟩ : ∃ a, u[k]? = some a := ⟨u[k], by simp [hlt]⟩
      obtain ⟨b, off, rfl, hblt, hcell0, hab⟩ := HR.out k a ha
      have hcell : wr.cell? ⟨b, off + k, none⟩ = some (.int .u16 (a : Nat)) := (hbel.cell (p := ⟨b, off + k, none⟩) hblt).trans hcell0
      have HA := Lib.hid ha
      have hai : (a : Int) ≤ 65535 := by omega
      clear ha hcell0 hab
      by_cases hhi : isHi a = true
      · by_cases hlt3 : k + 1 < u.length
        · have hlt4 : (k : Int) + 1 < u.length := by omega
          obtain ⟨c, hc⟩ : ∃ c, u[k + 1]? = some c := ⟨u[k + 1], by simp [hlt3]⟩
          obtain ⟨b', off', e, hblt', hcell0, hcb⟩ := HR.out (k + 1) c hc
          obtain ⟨rfl, rfl⟩ : b = b' ∧ off = off' := by simpa using e
          have hcell2 : wr.cell? ⟨b, off + (k + 1), none⟩ = some (.int .u16 (c : Nat)) := (hbel.cell (p := ⟨b, off + (k + 1), none⟩) hblt).trans hcell0
          have HC := Lib.hid hc
          have hci : (c : Int) ≤ 65535 := by omega
          clear hc hcell0 hcb e
          by_cases hlo : isLo c = true
          · have hbh := isHi_iff.1 hhi
            have hbl := isLo_iff.1 hlo
            obtain ⟨m, hm⟩ : ∃ m, 65536 + (a - 55296) * 1024 + (c - 56320) = m := ⟨_, rfl⟩
            have hmb : m ≤ 1114111 := by omega
            have hpair := fun w => paired_any a c w hhi hlo
            rw [hm] at hpair
            have HM := Lib.hid hm
            clear hbh hbl hm
            go_wp2_with (first | (go_at_call 57; refine (isHigh_any _ _).mono ?_; rintro e w' ⟨rfl, rfl⟩) | (go_at_call 58; refine (isLow_any _ _).mono ?_; rintro e w' ⟨rfl, rfl⟩) | (go_at_call 59; refine (hpair _).mono ?_; rintro e w' ⟨rfl, rfl⟩) | (go_at_call 60; refine (writePoint_any w.heap.size w.heap.size acc m wr hmb hBd (by omega) hbs).mono ?_))
            rintro e W1 ⟨rfl, hB1, hb1⟩
            have hfin := tinv_two HT.out hal hbel HA.out HC.out hhi hlo (by rw [HM.out]; exact hB1) hb1
            have HF := Lib.hid hfin
            clear hfin hB1 hb1 hBd hbel
            go_wp2
            go_roundw
            case rel => exact HF.out
            case measure => simp [intOf]; omega
          · have hlo2 : isLo c = false := by simpa using hlo
            clear hlo
            go_wp2_with (first | (go_at_call 57; refine (isHigh_any _ _).mono ?_; rintro e w' ⟨rfl, rfl⟩) | (go_at_call 58; refine (isLow_any _ _).mono ?_; rintro e w' ⟨rfl, rfl⟩) | (go_at_call 60; refine (writePoint_any w.heap.size w.heap.size acc a wr (by omega) hBd (by omega) hbs).mono ?_))
            rintro e W1 ⟨rfl, hB1, hb1⟩
            have hfin := tinv_one HT.out hal hbel HA.out (.inr (fun x hx => by rw [HC.out] at hx; cases hx; exact hlo2)) hB1 hb1
            have HF := Lib.hid hfin
            clear hfin hB1 hb1 hBd hbel
            go_wp2
            go_roundw
            case rel => exact HF.out
            case measure => simp [intOf]; omega
        · have hd : decide ((k : Int) + 1 < (u.length : Nat)) = false := decide_eq_false (by omega)
          go_wp2_with (first | (go_at_call 57; refine (isHigh_any _ _).mono ?_; rintro e w' ⟨rfl, rfl⟩) | (go_at_call 60; refine (writePoint_any w.heap.size w.heap.size acc a wr (by omega) hBd (by omega) hbs).mono ?_))
          rintro e W1 ⟨rfl, hB1, hb1⟩
          have hfin := tinv_one HT.out hal hbel HA.out (.inr (fun x hx => absurd (List.getElem?_eq_some_iff.1 hx).1 hlt3)) hB1 hb1
          have HF := Lib.hid hfin
          clear hfin hB1 hb1 hBd hbel
          go_wp2
          go_roundw
          case rel => exact HF.out
          case measure => simp [intOf]; omega
      · have hhi2 : isHi a = false := by simpa using hhi
        clear hhi
        go_wp2_with (first | (go_at_call 57; refine (isHigh_any _ _).mono ?_; rintro e w' ⟨rfl, rfl⟩) | (go_at_call 60; refine (writePoint_any w.heap.size w.heap.size acc a wr (by omega) hBd (by omega) hbs).mono ?_))
        rintro e W1 ⟨rfl, hB1, hb1⟩
        have hfin := tinv_one HT.out hal hbel HA.out (.inl hhi2) hB1 hb1
        have HF := Lib.hid hfin
        clear hfin hB1 hb1 hBd hbel
        go_wp2
        go_roundw
        case rel => exact HF.out
        case measure => simp [intOf]; omega
    · obtain rfl : k = u.length := by omega
      have htx := HT.out
      rw [List.drop_length] at htx
      have e : acc = text u := by simpa [text, cps, encs] using htx
      have HE := Lib.hid e
      clear htx e
      go_wp2_with (go_at_call 61; refine (Tryd.Builder_String_any w.heap.size w.heap.size acc _ (.inr hBd) hbs).mono ?_)
      rintro e W1 ⟨rfl, hb1⟩
      go_wp2
      go_ret
      exact ⟨by rw [← HE.out]; rfl, hbel.trans hb1⟩
end Go.Proofs.YtlboaldikgonoaaDoor.Uni
