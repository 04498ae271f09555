/-
  Texts of this seat in build order: UnText, VaHex, VaEsc.
-/
import Derived.Test.YtkknglmpdmhhjaaGreatDoorMg13
import Derived.Test.YtkknglmpdmhhjaaGreatDoorMg08
import Derived.Test.YtkknglmpdmhhjaaGreatDoorMg01
/-
  units.Text.
-/
namespace Go.Proofs.YtkknglmpdmhhjaaGreatDoor.Uni
open Go.RowKit
set_option linter.unusedVariables false

/-- A slice's elements, read as units. -/
def Rd (w : World) (ao : Option Addr) (u : List Nat) : Prop :=
  ∀ k x, u[k]? = some x → ∃ b off, ao = some ⟨b, off, none⟩ ∧ b < w.heap.size ∧ w.cell? ⟨b, off + k, none⟩ = some (.int .u16 (x : Nat)) ∧ x < 65536

theorem rd_below {w w' : World} {ao : Option Addr} {u : List Nat} (h : Rd w ao u) (hb : Below w.heap.size w w') : Rd w' ao u := by
  intro k x hx
  obtain ⟨b, off, e, hlt, hc, hxb⟩ := h k x hx
  exact ⟨b, off, e, Nat.lt_of_lt_of_le hlt hb.size, (hb.cell (p := ⟨b, off + k, none⟩) hlt).trans hc, hxb⟩

theorem drop_cons {u : List Nat} {k a : Nat} (h : u[k]? = some a) : u.drop k = a :: u.drop (k + 1) := by
  obtain ⟨hlt, rfl⟩ := List.getElem?_eq_some_iff.1 h
  exact List.drop_eq_getElem_cons hlt
theorem text_one {u : List Nat} {k a : Nat} (h : u[k]? = some a) (hn : isHi a = false ∨ ∀ b, u[k + 1]? = some b → isLo b = false) : text (u.drop k) = enc a ++ text (u.drop (k + 1)) := by
  rw [drop_cons h]
  unfold text
  cases hd : u.drop (k + 1) with
  | nil => simp [cps, encs]
  | cons b r =>
    have hb : u[k + 1]? = some b := by
      have := congrArg (fun l => l[0]?) hd
      simpa [List.getElem?_drop] using this
    simp only [cps]
    rw [if_neg (by
      rintro ⟨h1, h2⟩
      rcases hn with hn | hn
      · rw [hn] at h1; cases h1
      · rw [hn b hb] at h2; cases h2), encs_cons]
theorem text_two {u : List Nat} {k a b : Nat} (h : u[k]? = some a) (h2 : u[k + 1]? = some b) (ha : isHi a = true) (hb : isLo b = true) : text (u.drop k) = enc (65536 + (a - 55296) * 1024 + (b - 56320)) ++ text (u.drop (k + 2)) := by
  rw [drop_cons h, drop_cons h2]
  unfold text
  simp only [cps]
  rw [if_pos ⟨ha, hb⟩, encs_cons]

def TInv (w0 : World) (u : List Nat) (i : Value) (wr : World) : Prop :=
  ∃ (k : Nat) (acc : List UInt8), i = .int .i64 k ∧ k ≤ u.length ∧ Bd w0.heap.size w0.heap.size (Lib.byteCells acc) wr ∧ Below w0.heap.size w0 wr ∧ acc ++ text (u.drop k) = text u ∧ acc.length ≤ 4 * k

theorem tinv_one {w0 wr w1 : World} {u : List Nat} {k a : Nat} {acc : List UInt8} (h : acc ++ text (u.drop k) = text u) (ha : acc.length ≤ 4 * k) (hbel : Below w0.heap.size w0 wr) (hk : u[k]? = some a) (hn : isHi a = false ∨ ∀ b, u[k + 1]? = some b → isLo b = false)
    (hB : Bd w0.heap.size w0.heap.size (Lib.byteCells (acc ++ enc a)) w1) (hb1 : Below w0.heap.size wr w1) : TInv w0 u (.int .i64 ((k : Int) + 1)) w1 := by
  have hlt := (List.getElem?_eq_some_iff.1 hk).1
  refine ⟨k + 1, acc ++ enc a, by go_num, by omega, hB, hbel.trans hb1, ?_, ?_⟩
  · rw [List.append_assoc, ← text_one hk hn]; exact h
  · have := encN_len a
    rw [List.length_append, enc_len]; omega
theorem tinv_two {w0 wr w1 : World} {u : List Nat} {k a b : Nat} {acc : List UInt8} (h : acc ++ text (u.drop k) = text u) (ha : acc.length ≤ 4 * k) (hbel : Below w0.heap.size w0 wr) (hk : u[k]? = some a) (hk2 : u[k + 1]? = some b) (h1 : isHi a = true) (h2 : isLo b = true)
    (hB : Bd w0.heap.size w0.heap.size (Lib.byteCells (acc ++ enc (65536 + (a - 55296) * 1024 + (b - 56320)))) w1) (hb1 : Below w0.heap.size wr w1) : TInv w0 u (.int .i64 ((k : Int) + 2)) w1 := by
  have hlt := (List.getElem?_eq_some_iff.1 hk2).1
  refine ⟨k + 2, acc ++ enc (65536 + (a - 55296) * 1024 + (b - 56320)), by go_num, by omega, hB, hbel.trans hb1, ?_, ?_⟩
  · rw [List.append_assoc, ← text_two hk hk2 h1 h2]; exact h
  · have := encN_len (65536 + (a - 55296) * 1024 + (b - 56320))
    rw [List.length_append, enc_len]; omega

set_option maxRecDepth 100000 in
set_option maxHeartbeats 1000000 in
theorem text_any (ao : Option Addr) (cp : Nat) (u : List Nat) (w : World) (hl : u.length ≤ 10000) (hr : Rd w ao u) :
    Calls Tryz.prog 134 #[.slice ao u.length cp] w fun e w' => e = .returned (.string ⟨(text u).toArray⟩) ∧ Below w.heap.size w w' := by
  have HR := Lib.hid hr
  clear hr
  go_enter Tryz.func134, Tryz.ntmps134
  go_wp2_with (go_at_call 110; refine (Tryz.Builder_Grow_fresh w.heap.size w.heap.size u.length _ (Nat.le_refl _) (heap_alloc_new w _) (by simp) (by omega)).mono ?_)
  rintro e w1 ⟨rfl, hb1, bel1⟩
  have hB0 : TInv w u (.int .i64 0) w1 := ⟨0, [], rfl, Nat.zero_le _, hb1, ((Below.refl _ _).alloc (Nat.le_refl _) _).trans bel1, rfl, by simp⟩
  have HB := Lib.hid hB0
  clear hB0 hb1 bel1
  go_wp2
  go_loopw [4] (fun i wr => TInv w u i wr) (fun i _ => u.length - (intOf i).toNat)
  case atStart => exact HB.out
  case round =>
    obtain ⟨k, acc, rfl, hk, hBd, hbel, htx, hal⟩ := hrel
    have hbs := hbel.size
    have HT := Lib.hid htx
    clear htx
    by_cases hlt : k < u.length
    · have hlt2 : (k : Int) < u.length := by omega
      obtain ⟨a, ha⟩ : ∃ a, u[k]? = some a := ⟨u[k], by simp [hlt]⟩
      obtain ⟨b, off, rfl, hblt, hcell0, hab⟩ := HR.out k a ha
      have hcell : wr.cell? ⟨b, off + k, none⟩ = some (.int .u16 (a : Nat)) := (hbel.cell (p := ⟨b, off + k, none⟩) hblt).trans hcell0
      have HA := Lib.hid ha
      have hai : (a : Int) ≤ 65535 := by omega
      clear ha hcell0 hab
      by_cases hhi : isHi a = true
      · by_cases hlt3 : k + 1 < u.length
        · have hlt4 : (k : Int) + 1 < u.length := by omega
          obtain ⟨c, hc⟩ : ∃ c, u[k + 1]? = some c := ⟨u[k + 1], by simp [hlt3]⟩
          obtain ⟨b', off', e, hblt', hcell0, hcb⟩ := HR.out (k + 1) c hc
          obtain ⟨rfl, rfl⟩ : b = b' ∧ off = off' := by simpa using e
          have hcell2 : wr.cell? ⟨b, off + (k + 1), none⟩ = some (.int .u16 (c : Nat)) := (hbel.cell (p := ⟨b, off + (k + 1), none⟩) hblt).trans hcell0
          have HC := Lib.hid hc
          have hci : (c : Int) ≤ 65535 := by omega
          clear hc hcell0 hcb e
          by_cases hlo : isLo c = true
          · have hbh := isHi_iff.1 hhi
            have hbl := isLo_iff.1 hlo
            obtain ⟨m, hm⟩ : ∃ m, 65536 + (a - 55296) * 1024 + (c - 56320) = m := ⟨_, rfl⟩
            have hmb : m ≤ 1114111 := by omega
            have hpair := fun w => paired_any a c w hhi hlo
            rw [hm] at hpair
            have HM := Lib.hid hm
            clear hbh hbl hm
            go_wp2_with (first | (go_at_call 187; refine (isHigh_any _ _).mono ?_; rintro e w' ⟨rfl, rfl⟩) | (go_at_call 188; refine (isLow_any _ _).mono ?_; rintro e w' ⟨rfl, rfl⟩) | (go_at_call 189; refine (hpair _).mono ?_; rintro e w' ⟨rfl, rfl⟩) | (go_at_call 190; refine (writePoint_any w.heap.size w.heap.size acc m wr hmb hBd (by omega) hbs).mono ?_))
            rintro e W1 ⟨rfl, hB1, hb1⟩
            have hfin := tinv_two HT.out hal hbel HA.out HC.out hhi hlo (by rw [HM.out]; exact hB1) hb1
            have HF := Lib.hid hfin
            clear hfin hB1 hb1 hBd hbel
            go_wp2
            go_roundw
            case rel => exact HF.out
            case measure => simp [intOf]; omega
          · have hlo2 : isLo c = false := by simpa using hlo
            clear hlo
            go_wp2_with (first | (go_at_call 187; refine (isHigh_any _ _).mono ?_; rintro e w' ⟨rfl, rfl⟩) | (go_at_call 188; refine (isLow_any _ _).mono ?_; rintro e w' ⟨rfl, rfl⟩) | (go_at_call 190; refine (writePoint_any w.heap.size w.heap.size acc a wr (by omega) hBd (by omega) hbs).mono ?_))
            rintro e W1 ⟨rfl, hB1, hb1⟩
            have hfin := tinv_one HT.out hal hbel HA.out (.inr (fun x hx => by rw [HC.out] at hx; cases hx; exact hlo2)) hB1 hb1
            have HF := Lib.hid hfin
            clear hfin hB1 hb1 hBd hbel
            go_wp2
            go_roundw
            case rel => exact HF.out
            case measure => simp [intOf]; omega
        · have hd : decide ((k : Int) + 1 < (u.length : Nat)) = false := decide_eq_false (by omega)
          go_wp2_with (first | (go_at_call 187; refine (isHigh_any _ _).mono ?_; rintro e w' ⟨rfl, rfl⟩) | (go_at_call 190; refine (writePoint_any w.heap.size w.heap.size acc a wr (by omega) hBd (by omega) hbs).mono ?_))
          rintro e W1 ⟨rfl, hB1, hb1⟩
          have hfin := tinv_one HT.out hal hbel HA.out (.inr (fun x hx => absurd (List.getElem?_eq_some_iff.1 hx).1 hlt3)) hB1 hb1
          have HF := Lib.hid hfin
          clear hfin hB1 hb1 hBd hbel
          go_wp2
          go_roundw
          case rel => exact HF.out
          case measure => simp [intOf]; omega
      · have hhi2 : isHi a = false := by simpa using hhi
        clear hhi
        go_wp2_with (first | (go_at_call 187; refine (isHigh_any _ _).mono ?_; rintro e w' ⟨rfl, rfl⟩) | (go_at_call 190; refine (writePoint_any w.heap.size w.heap.size acc a wr (by omega) hBd (by omega) hbs).mono ?_))
        rintro e W1 ⟨rfl, hB1, hb1⟩
        have hfin := tinv_one HT.out hal hbel HA.out (.inl hhi2) hB1 hb1
        have HF := Lib.hid hfin
        clear hfin hB1 hb1 hBd hbel
        go_wp2
        go_roundw
        case rel => exact HF.out
        case measure => simp [intOf]; omega
    · obtain rfl : k = u.length := by omega
      have htx := HT.out
      rw [List.drop_length] at htx
      have e : acc = text u := by simpa [text, cps, encs] using htx
      have HE := Lib.hid e
      clear htx e
      go_wp2_with (go_at_call 38; refine (Tryz.Builder_String_any w.heap.size w.heap.size acc _ (.inr hBd) hbs).mono ?_)
      rintro e W1 ⟨rfl, hb1⟩
      go_wp2
      go_ret
      exact ⟨by rw [← HE.out]; rfl, hbel.trans hb1⟩
end Go.Proofs.YtkknglmpdmhhjaaGreatDoor.Uni

/-
  strconv.FormatUint in base 16, for a number of 16 bits.
-/
namespace Go.Proofs.YtkknglmpdmhhjaaGreatDoor.Vals
open Go.RowKit Go.Proofs.YtkknglmpdmhhjaaGreatDoor.Uni
set_option linter.unusedVariables false

/-- The cell of the library's table that a base of 16 reads. -/
structure Lt (w : World) : Prop where
  tz : w.cell? ⟨7, 15, none⟩ = some (.int .u8 4)
theorem Lt.below {w w' : World} (h : Lt w) (hb : Below w.heap.size w w') : Lt w' :=
  ⟨by rw [hb.cell (p := ⟨7, 15, none⟩) (World.block_lt_of_cell? w _ h.tz)]; exact h.tz⟩

theorem Lt.later {w w' : World} {base : Nat} (h : Lt w) (hb : Below base w w') (hg : 7 < base) : Lt w' :=
  ⟨by rw [hb.cell (p := ⟨7, 15, none⟩) hg]; exact h.tz⟩

set_option maxRecDepth 100000 in
theorem pow2_16 (w : World) : Calls Tryz.prog 262 #[.int .i64 16] w fun e w' => e = .returned (.bool true) ∧ w = w' := by
  have e : bits .and .i64 16 15 = 0 := by decide +kernel
  go_enter Tryz.func262, Tryz.ntmps262
  go_wp2
  go_ret
  exact ⟨rfl, rfl⟩

set_option maxRecDepth 100000 in
theorem tz64_16 (w : World) (hT : Lt w) : Calls Tryz.prog 271 #[.int .u64 16] w fun e w' => e = .returned (.int .i64 4) ∧ w = w' := by
  have e : bits .and .u64 16 (IntKind.u64.wrap (-16)) = 16 := by decide +kernel
  have e2 : IntKind.u64.wrap (16 * 285870213051353865) = 4573923408821661840 := by decide +kernel
  have e3 : (4573923408821661840 : Int) / 288230376151711744 = 15 := by decide
  have hc := hT.tz
  go_enter Tryz.func271, Tryz.ntmps271
  go_wp2
  go_ret
  exact ⟨rfl, rfl⟩

theorem tz_16 (w : World) (hT : Lt w) : Calls Tryz.prog 263 #[.int .u64 16] w fun e w' => e = .returned (.int .i64 4) ∧ w = w' := by
  go_enter Tryz.func263, Tryz.ntmps263
  go_wp2_with (go_at_call 271; refine (tz64_16 _ hT).mono ?_; rintro e w' ⟨rfl, rfl⟩)
  go_ret
  exact ⟨rfl, rfl⟩

/-- A digit of base 16. -/
def hexd (d : Nat) : Nat := if d < 10 then 48 + d else 87 + d
theorem hexd_cases {d : Nat} (h : d < 16) : (48 ≤ hexd d ∧ hexd d ≤ 57) ∨ (97 ≤ hexd d ∧ hexd d ≤ 102) := by unfold hexd; split <;> omega
theorem hexd_inj {a b : Nat} (ha : a < 16) (hb : b < 16) (h : hexd a = hexd b) : a = b := by unfold hexd at h; split at h <;> split at h <;> omega

theorem idx_hex (d : Nat) (h : d < 16) (w : World) : (Instr.index 9 (.string ⟨#[48, 49, 50, 51, 52, 53, 54, 55, 56, 57, 97, 98, 99, 100, 101, 102, 103, 104, 105, 106, 107, 108, 109, 110, 111, 112, 113, 114, 115, 116, 117, 118, 119, 120, 121, 122]⟩) (.int .u64 (d : Int))).run Tryz.prog w = .ok (.int .u8 (hexd d : Nat)) w := by
  rw [run_index_string (h := Tryz.underlying9)]
  rw [dif_pos ⟨by omega, by show (d : Int) < 36; omega⟩]
  rcases (by omega : d = 0 ∨ d = 1 ∨ d = 2 ∨ d = 3 ∨ d = 4 ∨ d = 5 ∨ d = 6 ∨ d = 7 ∨ d = 8 ∨ d = 9 ∨ d = 10 ∨ d = 11 ∨ d = 12 ∨ d = 13 ∨ d = 14 ∨ d = 15) with rfl | rfl | rfl | rfl | rfl | rfl | rfl | rfl | rfl | rfl | rfl | rfl | rfl | rfl | rfl | rfl <;> rfl

/-- The array of formatBits behind k digits. -/
def arr (k : Nat) (ds : List Nat) : List Value := List.replicate (65 - k) (Value.int .u8 0) ++ ds.map fun n : Nat => Value.int .u8 (n : Int)
theorem arr_set (k : Nat) (ds : List Nat) (d : Nat) (hk : k < 65) : (arr k ds).set (64 - k) (.int .u8 (d : Nat)) = arr (k + 1) (d :: ds) := by
  unfold arr
  obtain ⟨m, hm⟩ : ∃ m, 64 - k = m := ⟨_, rfl⟩
  have e1 : 65 - k = m + 1 := by omega
  have e2 : 65 - (k + 1) = m := by omega
  rw [hm, e1, e2, List.replicate_succ', List.append_assoc, List.set_append_right _ _ (by simp)]
  simp
theorem arr_len (k : Nat) (ds : List Nat) (hk : k ≤ 65) (h : ds.length = k) : (arr k ds).length = 65 := by unfold arr; simp [h]; omega
theorem arr_get (k : Nat) (ds : List Nat) (hk : k ≤ 65) (i : Nat) (d : Nat) (h : ds[i]? = some d) : (arr k ds)[65 - k + i]? = some (.int .u8 (d : Nat)) := by
  unfold arr
  rw [List.getElem?_append_right (by simp)]
  simp [h]

/-- The last k digits of u in base 16. -/
def dsOf (u : Nat) : Nat → List Nat
  | 0 => []
  | k + 1 => hexd (u / 16 ^ k % 16) :: dsOf u k
theorem dsOf_len (u : Nat) : ∀ k, (dsOf u k).length = k
  | 0 => rfl
  | k + 1 => by simp [dsOf, dsOf_len u k]
theorem hexd_lt {d : Nat} (h : d < 16) : hexd d < 128 := by unfold hexd; split <;> omega
theorem dsOf_lt (u : Nat) : ∀ k, ∀ x ∈ dsOf u k, x < 128
  | 0 => fun x h => by simp [dsOf] at h
  | k + 1 => fun x h => by
    simp only [dsOf, List.mem_cons] at h
    rcases h with rfl | h
    · exact hexd_lt (Nat.mod_lt _ (by decide))
    · exact dsOf_lt u k x h
theorem dsOf_pad (u : Nat) (j : Nat) (h : u < 16 ^ j) : ∀ n, dsOf u (j + n) = List.replicate n 48 ++ dsOf u j
  | 0 => rfl
  | n + 1 => by
    show hexd (u / 16 ^ (j + n) % 16) :: dsOf u (j + n) = _
    have e : u / 16 ^ (j + n) = 0 := Nat.div_eq_of_lt (Nat.lt_of_lt_of_le h (Nat.pow_le_pow_right (by decide) (by omega)))
    rw [e, dsOf_pad u j h n]
    rfl
theorem quo_step (u k : Nat) : u / 16 ^ k / 16 = u / 16 ^ (k + 1) := by rw [Nat.div_div_eq_div_mul, Nat.pow_succ]

def HInv (u : Nat) (b : Nat) (w0 : World) (uv iv : Value) (wr : World) : Prop :=
  ∃ (k q i : Nat), k + i = 64 ∧ k ≤ 3 ∧ u / 16 ^ k = q ∧ uv = .int .u64 (q : Nat) ∧ iv = .int .i64 ((i : Int) + 1) ∧ wr.heap[b]? = some (.cells (arr k (dsOf u k)).toArray 227 (0, 0)) ∧ Below w0.heap.size w0 wr
theorem hinv_bd {u k q : Nat} (hu : u < 65536) (hk : k ≤ 3) (hq : u / 16 ^ k = q) (h : 16 ≤ q) : k + 1 ≤ 3 := by
  rcases (by omega : k = 3 ∨ k + 1 ≤ 3) with rfl | h
  · omega
  · exact h
theorem store_arr {wr w0 : World} {b k d : Nat} {ds : List Nat} (hk : k ≤ 64) (hl : ds.length = k) (h : wr.heap[b]? = some (.cells (arr k ds).toArray 227 (0, 0))) (hb : w0.heap.size ≤ b) (hbel : Below w0.heap.size w0 wr) :
    (wr.setCell ⟨b, 64 - k, none⟩ (.int .u8 (d : Nat))).heap[b]? = some (.cells (arr (k + 1) (d :: ds)).toArray 227 (0, 0)) ∧ Below w0.heap.size w0 (wr.setCell ⟨b, 64 - k, none⟩ (.int .u8 (d : Nat))) := by
  refine ⟨?_, hbel.setCell hb _⟩
  rw [← arr_set k ds d (by omega)]
  simp [World.setCell, Array.getElem?_modify, h]
theorem and15 (x : Nat) (h : x < 65536) : bits .and .u64 (x : Int) 15 = ((x % 16 : Nat) : Int) := by
  have := bits_mask .u64 63 (by decide) (fun n h0 h1 => by rw [IntKind.wrap_u64]; omega) 4 (by decide) (x : Int) (by omega) (by omega)
  simpa using this

theorem arrLen65 : Tryz.prog.arrayLen 227 = 65 := by kernel_rfl
theorem arr65 : Tryz.prog.elem 227 = 5 := by kernel_rfl
theorem slice_arr (b i k : Nat) (h : k + i = 64) (w : World) : (Instr.sliceAt 227 (.pointer (some ⟨b, 0, none⟩)) (some (.int .i64 (i : Int))) none none).run Tryz.prog w = .ok (.slice (some ⟨b, i, none⟩) (k + 1) (k + 1)) w := by
  have hz : (Go.sizeOf 5).run Tryz.prog w = .ok 1 w := Tryz.sizeOf5 w
  rw [run_sliceAt_array_l (h0 := by omega) (h1 := by rw [arrLen65]; omega)]
  · rw [arrLen65, arr65, hz]
    simp only [Result.andThen]
    have e1 : ((i : Int)).toNat = i := by omega
    rw [e1]
    unfold slicedAt
    have e2 : 65 - i = k + 1 := by omega
    rw [e2, if_neg (by omega)]
    have e3 : (⟨b, 0, none⟩ : Addr).add (i * 1) = ⟨b, i, none⟩ := by
      rw [Nat.mul_one]
      unfold Addr.add
      split <;> simp_all
    rw [e3]
  · rw [arrLen65, arr65]; exact Tryz.underlying227
theorem conv_arr (b i k : Nat) (h : k + i = 64) (ds : List Nat) (hd : ds.length = k + 1) (hb : ∀ x ∈ ds, x < 256) (w : World) (hh : w.heap[b]? = some (.cells (arr (k + 1) ds).toArray 227 (0, 0))) :
    (convert 22 9 (.slice (some ⟨b, i, none⟩) (k + 1) (k + 1))).run Tryz.prog w = .ok (.string ⟨(ds.map Nat.toUInt8).toArray⟩) w := by
  have hr := run_convert_bytes_arg w 22 5 Tryz.underlying22 Tryz.underlying5 b i (k + 1) (k + 1) (ds.map fun n : Nat => (n : Int)) (by simp [hd]) (fun j hj => by
    have hj2 : j < ds.length := by omega
    obtain ⟨A, hA⟩ : ∃ A, A = arr (k + 1) ds := ⟨_, rfl⟩
    have := arr_get (k + 1) ds (by omega) j ds[j] (List.getElem?_eq_getElem hj2)
    rw [← hA] at this hh
    have e : 65 - (k + 1) + j = i + j := by omega
    rw [e] at this
    have e2 : (ds.map fun n : Nat => (n : Int)).getD j 0 = (ds[j] : Int) := by
      rw [List.getD_eq_getElem?_getD, List.getElem?_map, List.getElem?_eq_getElem hj2]
      simp
    rw [e2, ← this]
    exact (Lib.cell_of_heap hh _).trans (List.getElem?_toArray ..)) 9 Tryz.underlying9
  have e : (ds.map fun n : Nat => (n : Int)).map (fun n : Int => UInt8.ofNat n.toNat) = ds.map Nat.toUInt8 := by
    rw [List.map_map]
    apply List.map_congr_left
    intro x _
    simp
  rw [hr]
  unfold strOfNums
  rw [e]

/-- What formatBits gives: the digits of u, at least one. -/
def HexPost (u : Nat) (w : World) (e : Ending) (w' : World) : Prop :=
  ∃ j, 1 ≤ j ∧ j ≤ 4 ∧ u < 16 ^ j ∧ e = .returned (.tuple #[.slice none 0 0, .string ⟨((dsOf u j).map Nat.toUInt8).toArray⟩]) ∧ Below w.heap.size w w'

set_option maxRecDepth 100000 in
set_option maxHeartbeats 1000000 in
theorem bits_16 (u : Nat) (hu : u < 65536) (w : World) (hT : Lt w) :
    Calls Tryz.prog 250 #[.slice none 0 0, .int .u64 (u : Nat), .int .i64 16, .bool false, .bool false] w (HexPost u w) := by
  go_enter Tryz.func250, Tryz.ntmps250
  go_wp2_with (first | (go_at_call 262; refine (pow2_16 _).mono ?_; rintro e w' ⟨rfl, rfl⟩) | (go_at_call 263; refine (tz_16 _ (hT.below ((Below.refl _ _).alloc (Nat.le_refl _) _))).mono ?_; rintro e w' ⟨rfl, rfl⟩))
  go_loopw [1, 13] (fun uv iv wr => HInv u w.heap.size w uv iv wr) (fun uv _ _ => (intOf uv).toNat)
  case atStart =>
    refine ⟨0, u, 64, rfl, by omega, by simp, rfl, rfl, ?_, (Below.refl _ _).alloc (Nat.le_refl _) _⟩
    rw [heap_alloc_new]
    rfl
  case round =>
    obtain ⟨k, q, i, hki, hk, hq, rfl, rfl, hh, hbel⟩ := hrel
    have hlen := dsOf_len u k
    have hq6 : q < 65536 := by rw [← hq]; exact Nat.lt_of_le_of_lt (Nat.div_le_self _ _) hu
    obtain ⟨d, hd⟩ : ∃ d, q % 16 = d := ⟨_, rfl⟩
    have hd16 : d < 16 := by omega
    have hand : bits .and .u64 (q : Int) 15 = (d : Int) := by rw [and15 q hq6, hd]
    have hidx := fun w => idx_hex d hd16 w
    have hS := store_arr (d := hexd d) (by omega) hlen hh (Nat.le_refl _) hbel
    have hfz : wr.frozen? ⟨w.heap.size, 64 - k, none⟩ = false := Lib.frozen_of_heap hh _
    have hi : 64 - k = i := by omega
    rw [hi] at hS hfz
    have hi61 : 61 ≤ i := by omega
    have hi64 : i ≤ 64 := by omega
    have hcell : ∃ v, wr.cell? ⟨w.heap.size, i, none⟩ = some v := by
      have hl := arr_len k (dsOf u k) (by omega) hlen
      refine ⟨(arr k (dsOf u k))[i]'(by omega), ?_⟩
      rw [Lib.cell_of_heap hh]
      simp
    obtain ⟨v, hcell⟩ := hcell
    by_cases hge : 16 ≤ q
    · have hge2 : (16 : Int) ≤ (q : Int) := by omega
      have HKI := Lib.hid hki
      clear hki hi
      have HS := Lib.hid hS
      have HQ := Lib.hid hq
      have HD := Lib.hid hd
      clear hS hq hd hh hlen
      go_wp2
      go_roundw
      case rel =>
        have hk2 := hinv_bd hu hk HQ.out hge
        refine ⟨k + 1, q / 16, i - 1, by have := HKI.out; omega, hk2, by rw [← quo_step, HQ.out], ?_, ?_, ?_, HS.out.2⟩
        · go_num
        · go_num
        · have := HS.out.1
          rw [← HD.out, ← HQ.out] at this
          rw [← HD.out, ← HQ.out]
          exact this
      case measure => simp [intOf]; omega
    · have hlt2 : (q : Int) < 16 := by omega
      have hge2 : ¬ (16 : Int) ≤ (q : Int) := by omega
      have hqd : q = d := by omega
      subst hqd
      have HS := Lib.hid hS
      have HQ := Lib.hid hq
      have HD := Lib.hid hd
      have hhs := hS.1
      have hdq : hexd q :: dsOf u k = dsOf u (k + 1) := by
        show _ = hexd (u / 16 ^ k % 16) :: dsOf u k
        rw [hq, hd]
      rw [hdq] at hhs
      have hsl := fun w => slice_arr (k := k) (i := i) (b := w.heap.size) (by omega) w
      have hcv := conv_arr (k := k) (i := i) (b := w.heap.size) (by omega) (dsOf u (k + 1)) (dsOf_len u _) (fun x hx => by have := dsOf_lt u _ x hx; omega) _ hhs
      have hlast : u < 16 ^ (k + 1) := by
        have h1 : u / 16 ^ k < 16 := by omega
        rw [Nat.pow_succ, Nat.mul_comm]
        exact (Nat.div_lt_iff_lt_mul (Nat.pow_pos (by decide))).1 h1
      have HL := Lib.hid hlast
      have hsl2 := slice_arr w.heap.size i k hki
      clear hS hq hd hh hlen hand hdq hhs hlast hsl hki hi
      go_wp2
      go_ret2
      exact ⟨k + 1, by omega, by omega, HL.out, rfl, HS.out.2⟩

/-- A call that gives the digits of u in base 16. -/
def HexP (u : Nat) (w : World) (e : Ending) (w' : World) : Prop :=
  ∃ j, 1 ≤ j ∧ j ≤ 4 ∧ u < 16 ^ j ∧ e = .returned (.string ⟨((dsOf u j).map Nat.toUInt8).toArray⟩) ∧ Below w.heap.size w w'
set_option maxRecDepth 100000 in
theorem fmt_in (u : Nat) (hu : u < 65536) (w : World) (hT : Lt w) :
    Calls Tryz.prog 236 #[.int .u64 (u : Nat), .int .i64 16] w (HexP u w) := by
  go_enter Tryz.func236, Tryz.ntmps236
  go_wp2_with (go_at_call 250; refine (bits_16 u hu _ hT).mono ?_)
  rintro e w1 ⟨j, h1, h2, h3, rfl, hb⟩
  have H3 := Lib.hid h3
  clear h3
  go_wp2
  go_ret
  exact ⟨j, h1, h2, H3.out, rfl, hb⟩
theorem fmt_16 (u : Nat) (hu : u < 65536) (w : World) (hT : Lt w) :
    Calls Tryz.prog 219 #[.int .u64 (u : Nat), .int .i64 16] w (HexP u w) := by
  go_enter Tryz.func219, Tryz.ntmps219
  go_wp2_with (go_at_call 236; refine (fmt_in u hu _ hT).mono ?_)
  rintro e w1 ⟨j, h1, h2, h3, rfl, hb⟩
  have H3 := Lib.hid h3
  clear h3
  go_wp2
  go_ret
  exact ⟨j, h1, h2, H3.out, rfl, hb⟩
end Go.Proofs.YtkknglmpdmhhjaaGreatDoor.Vals

/-
  values.writeEscape.
-/
namespace Go.Proofs.YtkknglmpdmhhjaaGreatDoor.Vals
open Go.RowKit Go.Proofs.YtkknglmpdmhhjaaGreatDoor.Uni
set_option linter.unusedVariables false

theorem own_keep {w w' : World} {base e size n : Nat} {v : Value} {xs : List Value} (h : w.ownsRow base e size v n xs) (hb : Below w.heap.size w w') : w'.ownsRow base e size v n xs := by
  refine ⟨h.1, ?_⟩
  rcases h.2 with hn | ⟨g, cap, cur, rfl, hbg, hg, rest⟩
  · exact .inl hn
  · exact .inr ⟨g, cap, cur, rfl, hbg, (hb.block g (lt_of_block hg)).trans hg, rest⟩
theorem bd_keep {w w' : World} {base b : Nat} {bs : List Value} (h : Bd base b bs w) (hb : Below w.heap.size w w') : Bd base b bs w' := by
  obtain ⟨hB, v, hbk, hown, hne⟩ := h
  exact ⟨hB, v, (hb.block b (lt_of_block hbk)).trans hbk, own_keep hown hb, hne⟩

/-- A unit's escape: a backslash, the letter u and four digits. -/
def escL (u : Nat) : List UInt8 := [92, 117] ++ (dsOf u 4).map Nat.toUInt8
theorem strCells_list (l : List UInt8) : Lib.strCells ⟨l.toArray⟩ = Lib.byteCells l := rfl

set_option maxRecDepth 100000 in
set_option maxHeartbeats 1000000 in
theorem writeEscape_any (base b : Nat) (l : List UInt8) (u : Nat) (w : World) (hu : u < 65536) (hT : Lt w) (hI : Bd base b (Lib.byteCells l) w) (hl : l.length ≤ 100000000) (hb : base ≤ w.heap.size) :
    Calls Tryz.prog 201 #[.pointer (some ⟨b, 0, none⟩), .int .u16 (u : Nat)] w fun e w' => e = .returned (.tuple #[]) ∧ Bd base b (Lib.byteCells (l ++ escL u)) w' ∧ Below base w w' ∧ KeepW b w w' := by
  have hl4 : (Lib.byteCells l).length ≤ 100000000 := by rw [Lib.byteCells_length]; omega
  have hui : (u : Int) ≤ 65535 := by omega
  go_enter Tryz.func201, Tryz.ntmps201
  go_wp2_with (go_at_call 219; refine (fmt_16 u hu _ hT).mono ?_)
  rintro e w1 ⟨j, h1, h2, h3, rfl, hb1⟩
  have hI1 := bd_keep hI hb1
  have hs1 := Nat.le_trans hb hb1.size
  have hbel1 : Below base w w1 := hb1.mono hb
  have hk1 : KeepW b w w1 := KeepW.of_below hb1
  have hlen : ((dsOf u j).map Nat.toUInt8).length = j := by simp [dsOf_len]
  have hpad := dsOf_pad u j h3 (4 - j)
  have H3 := Lib.hid hpad
  obtain ⟨z, hz⟩ : ∃ z : ByteArray, z = ⟨((dsOf u j).map Nat.toUInt8).toArray⟩ := ⟨_, rfl⟩
  have hzs : z.size = j := by rw [hz]; exact hlen
  have hzc : Lib.strCells z = Lib.byteCells ((dsOf u j).map Nat.toUInt8) := by rw [hz]; rfl
  have hfin : ∀ c : List UInt8, c.length = 4 - j → c = List.replicate (4 - j) 48 → Lib.byteCells (l ++ escL u) = Lib.byteCells l ++ Lib.byteCells [92, 117] ++ Lib.byteCells c ++ Lib.strCells z := by
    intro c _ hc
    have e4 : j + (4 - j) = 4 := by omega
    rw [e4] at hpad
    have : escL u = [92, 117] ++ c ++ (dsOf u j).map Nat.toUInt8 := by
      unfold escL
      rw [hpad, List.map_append, hc, List.append_assoc]
      congr 2
      simp
    rw [hzc, this]
    simp [Lib.byteCells]
  rw [← hz]
  have HF := Lib.hid hfin
  clear h3 hpad hI hb1 hz hzc hlen hfin H3
  rcases (by omega : j = 1 ∨ j = 2 ∨ j = 3 ∨ j = 4) with rfl | rfl | rfl | rfl
  · go_wp2_with (go_at_call 60; refine (writeString_keep base b _ _ w1 hI1 (by omega) (by decide) hs1).mono ?_)
    rintro e w2 ⟨rfl, hI2, hbel2, hk2⟩
    have hs2 := Nat.le_trans hs1 hbel2.size
    have l2 : (Lib.byteCells l ++ Lib.strCells ⟨#[92, 117]⟩).length ≤ 200000000 := by rw [List.length_append, Lib.strCells_length]; show _ + 2 ≤ _; omega
    go_wp2_with (go_at_call 60; refine (writeString_keep base b _ _ w2 hI2 (by omega) (by decide) hs2).mono ?_)
    rintro e w3 ⟨rfl, hI3, hbel3, hk3⟩
    have hs3 := Nat.le_trans hs2 hbel3.size
    have l3 : (Lib.byteCells l ++ Lib.strCells ⟨#[92, 117]⟩ ++ Lib.strCells ((⟨#[48, 48, 48, 48]⟩ : ByteArray).extract 1 4)).length ≤ 300000000 := by
      have hc : ((⟨#[48, 48, 48, 48]⟩ : ByteArray).extract 1 4).size ≤ 4 := by decide
      rw [List.length_append, Lib.strCells_length]
      omega
    go_wp2_with (go_at_call 60; refine (writeString_keep base b _ z w3 hI3 (by omega) (by omega) hs3).mono ?_)
    rintro e w4 ⟨rfl, hI4, hbel4, hk4⟩
    go_wp2
    go_end0
    refine ⟨rfl, ?_, ((hbel1.trans hbel2).trans hbel3).trans hbel4, ((hk1.trans hk2).trans hk3).trans hk4⟩
    rw [HF.out [48, 48, 48] rfl rfl]
    exact hI4
  · go_wp2_with (go_at_call 60; refine (writeString_keep base b _ _ w1 hI1 (by omega) (by decide) hs1).mono ?_)
    rintro e w2 ⟨rfl, hI2, hbel2, hk2⟩
    have hs2 := Nat.le_trans hs1 hbel2.size
    have l2 : (Lib.byteCells l ++ Lib.strCells ⟨#[92, 117]⟩).length ≤ 200000000 := by rw [List.length_append, Lib.strCells_length]; show _ + 2 ≤ _; omega
    go_wp2_with (go_at_call 60; refine (writeString_keep base b _ _ w2 hI2 (by omega) (by decide) hs2).mono ?_)
    rintro e w3 ⟨rfl, hI3, hbel3, hk3⟩
    have hs3 := Nat.le_trans hs2 hbel3.size
    have l3 : (Lib.byteCells l ++ Lib.strCells ⟨#[92, 117]⟩ ++ Lib.strCells ((⟨#[48, 48, 48, 48]⟩ : ByteArray).extract 2 4)).length ≤ 300000000 := by
      have hc : ((⟨#[48, 48, 48, 48]⟩ : ByteArray).extract 2 4).size ≤ 4 := by decide
      rw [List.length_append, Lib.strCells_length]
      omega
    go_wp2_with (go_at_call 60; refine (writeString_keep base b _ z w3 hI3 (by omega) (by omega) hs3).mono ?_)
    rintro e w4 ⟨rfl, hI4, hbel4, hk4⟩
    go_wp2
    go_end0
    refine ⟨rfl, ?_, ((hbel1.trans hbel2).trans hbel3).trans hbel4, ((hk1.trans hk2).trans hk3).trans hk4⟩
    rw [HF.out [48, 48] rfl rfl]
    exact hI4
  · go_wp2_with (go_at_call 60; refine (writeString_keep base b _ _ w1 hI1 (by omega) (by decide) hs1).mono ?_)
    rintro e w2 ⟨rfl, hI2, hbel2, hk2⟩
    have hs2 := Nat.le_trans hs1 hbel2.size
    have l2 : (Lib.byteCells l ++ Lib.strCells ⟨#[92, 117]⟩).length ≤ 200000000 := by rw [List.length_append, Lib.strCells_length]; show _ + 2 ≤ _; omega
    go_wp2_with (go_at_call 60; refine (writeString_keep base b _ _ w2 hI2 (by omega) (by decide) hs2).mono ?_)
    rintro e w3 ⟨rfl, hI3, hbel3, hk3⟩
    have hs3 := Nat.le_trans hs2 hbel3.size
    have l3 : (Lib.byteCells l ++ Lib.strCells ⟨#[92, 117]⟩ ++ Lib.strCells ((⟨#[48, 48, 48, 48]⟩ : ByteArray).extract 3 4)).length ≤ 300000000 := by
      have hc : ((⟨#[48, 48, 48, 48]⟩ : ByteArray).extract 3 4).size ≤ 4 := by decide
      rw [List.length_append, Lib.strCells_length]
      omega
    go_wp2_with (go_at_call 60; refine (writeString_keep base b _ z w3 hI3 (by omega) (by omega) hs3).mono ?_)
    rintro e w4 ⟨rfl, hI4, hbel4, hk4⟩
    go_wp2
    go_end0
    refine ⟨rfl, ?_, ((hbel1.trans hbel2).trans hbel3).trans hbel4, ((hk1.trans hk2).trans hk3).trans hk4⟩
    rw [HF.out [48] rfl rfl]
    exact hI4
  · go_wp2_with (go_at_call 60; refine (writeString_keep base b _ _ w1 hI1 (by omega) (by decide) hs1).mono ?_)
    rintro e w2 ⟨rfl, hI2, hbel2, hk2⟩
    have hs2 := Nat.le_trans hs1 hbel2.size
    have l2 : (Lib.byteCells l ++ Lib.strCells ⟨#[92, 117]⟩).length ≤ 200000000 := by rw [List.length_append, Lib.strCells_length]; show _ + 2 ≤ _; omega
    go_wp2_with (go_at_call 60; refine (writeString_keep base b _ _ w2 hI2 (by omega) (by decide) hs2).mono ?_)
    rintro e w3 ⟨rfl, hI3, hbel3, hk3⟩
    have hs3 := Nat.le_trans hs2 hbel3.size
    have l3 : (Lib.byteCells l ++ Lib.strCells ⟨#[92, 117]⟩ ++ Lib.strCells ByteArray.empty).length ≤ 300000000 := by
      have hc : ByteArray.empty.size ≤ 4 := by decide
      rw [List.length_append, Lib.strCells_length]
      omega
    go_wp2_with (go_at_call 60; refine (writeString_keep base b _ z w3 hI3 (by omega) (by omega) hs3).mono ?_)
    rintro e w4 ⟨rfl, hI4, hbel4, hk4⟩
    go_wp2
    go_end0
    refine ⟨rfl, ?_, ((hbel1.trans hbel2).trans hbel3).trans hbel4, ((hk1.trans hk2).trans hk3).trans hk4⟩
    rw [HF.out [] rfl rfl]
    exact hI4
end Go.Proofs.YtkknglmpdmhhjaaGreatDoor.Vals
