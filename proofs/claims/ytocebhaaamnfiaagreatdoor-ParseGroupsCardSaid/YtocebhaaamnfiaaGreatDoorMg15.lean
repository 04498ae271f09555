/-
  Texts of this seat in build order: UnText, VaHex, VaEsc, VaQm.
-/
import Derived.Test.YtocebhaaamnfiaaGreatDoorMg14
import Derived.Test.YtocebhaaamnfiaaGreatDoorMg08
import Derived.Test.YtocebhaaamnfiaaGreatDoorMg01
import Derived.Lib.Small
/-
  units.Text.
-/
namespace Go.Proofs.YtocebhaaamnfiaaGreatDoor.Uni
open Go.RowKit
set_option linter.unusedVariables false

/-- A slice's elements, read as units. -/
def Rd (w : World) (ao : Option Addr) (u : List Nat) : Prop :=
  ∀ k x, u[k]? = some x → ∃ b off, ao = some ⟨b, off, none⟩ ∧ b < w.heap.size ∧ w.cell? ⟨b, off + k, none⟩ = some (.int .u16 (x : Nat)) ∧ x < 65536

theorem rd_below {w w' : World} {ao : Option Addr} {u : List Nat} (h : Rd w ao u) (hb : Below w.heap.size w w') : Rd w' ao u := by
  intro k x hx
  obtain ⟨b, off, e, hlt, hc, hxb⟩ := h k x hx
  exact ⟨b, off, e, Nat.lt_of_lt_of_le hlt hb.size, (hb.cell (p := ⟨b, off + k, none⟩) hlt).trans hc, hxb⟩

theorem drop_cons {u : List Nat} {k a : Nat} (h : u[k]? = some a) : u.drop k = a :: u.drop (k + 1) := by
  obtain ⟨hlt, rfl⟩ := List.getElem?_eq_some_iff.1 h
  exact List.drop_eq_getElem_cons hlt
theorem text_one {u : List Nat} {k a : Nat} (h : u[k]? = some a) (hn : isHi a = false ∨ ∀ b, u[k + 1]? = some b → isLo b = false) : text (u.drop k) = enc a ++ text (u.drop (k + 1)) := by
  rw [drop_cons h]
  unfold text
  cases hd : u.drop (k + 1) with
  | nil => simp [cps, encs]
  | cons b r =>
    have hb : u[k + 1]? = some b := by
      have := congrArg (fun l => l[0]?) hd
      simpa [List.getElem?_drop] using this
    simp only [cps]
    rw [if_neg (by
      rintro ⟨h1, h2⟩
      rcases hn with hn | hn
      · rw [hn] at h1; cases h1
      · rw [hn b hb] at h2; cases h2), encs_cons]
theorem text_two {u : List Nat} {k a b : Nat} (h : u[k]? = some a) (h2 : u[k + 1]? = some b) (ha : isHi a = true) (hb : isLo b = true) : text (u.drop k) = enc (65536 + (a - 55296) * 1024 + (b - 56320)) ++ text (u.drop (k + 2)) := by
  rw [drop_cons h, drop_cons h2]
  unfold text
  simp only [cps]
  rw [if_pos ⟨ha, hb⟩, encs_cons]

def TInv (w0 : World) (u : List Nat) (i : Value) (wr : World) : Prop :=
  ∃ (k : Nat) (acc : List UInt8), i = .int .i64 k ∧ k ≤ u.length ∧ Bd w0.heap.size w0.heap.size (Lib.byteCells acc) wr ∧ Below w0.heap.size w0 wr ∧ acc ++ text (u.drop k) = text u ∧ acc.length ≤ 4 * k

theorem tinv_one {w0 wr w1 : World} {u : List Nat} {k a : Nat} {acc : List UInt8} (h : acc ++ text (u.drop k) = text u) (ha : acc.length ≤ 4 * k) (hbel : Below w0.heap.size w0 wr) (hk : u[k]? = some a) (hn : isHi a = false ∨ ∀ b, u[k + 1]? = some b → isLo b = false)
    (hB : Bd w0.heap.size w0.heap.size (Lib.byteCells (acc ++ enc a)) w1) (hb1 : Below w0.heap.size wr w1) : TInv w0 u (.int .i64 ((k : Int) + 1)) w1 := by
  have hlt := (List.getElem?_eq_some_iff.1 hk).1
  refine ⟨k + 1, acc ++ enc a, by go_num, by omega, hB, hbel.trans hb1, ?_, ?_⟩
  · rw [List.append_assoc, ← text_one hk hn]; exact h
  · have := encN_len a
    rw [List.length_append, enc_len]; omega
theorem tinv_two {w0 wr w1 : World} {u : List Nat} {k a b : Nat} {acc : List UInt8} (h : acc ++ text (u.drop k) = text u) (ha : acc.length ≤ 4 * k) (hbel : Below w0.heap.size w0 wr) (hk : u[k]? = some a) (hk2 : u[k + 1]? = some b) (h1 : isHi a = true) (h2 : isLo b = true)
    (hB : Bd w0.heap.size w0.heap.size (Lib.byteCells (acc ++ enc (65536 + (a - 55296) * 1024 + (b - 56320)))) w1) (hb1 : Below w0.heap.size wr w1) : TInv w0 u (.int .i64 ((k : Int) + 2)) w1 := by
  have hlt := (List.getElem?_eq_some_iff.1 hk2).1
  refine ⟨k + 2, acc ++ enc (65536 + (a - 55296) * 1024 + (b - 56320)), by go_num, by omega, hB, hbel.trans hb1, ?_, ?_⟩
  · rw [List.append_assoc, ← text_two hk hk2 h1 h2]; exact h
  · have := encN_len (65536 + (a - 55296) * 1024 + (b - 56320))
    rw [List.length_append, enc_len]; omega

set_option maxRecDepth 100000 in
set_option maxHeartbeats 1000000 in
theorem text_any (ao : Option Addr) (cp : Nat) (u : List Nat) (w : World) (hl : u.length ≤ 10000) (hr : Rd w ao u) :
    Calls Tryz.prog 65 #[.slice ao u.length cp] w fun e w' => e = .returned (.string ⟨(text u).toArray⟩) ∧ Below w.heap.size w w' := by
  have HR := Lib.hid hr
  clear hr
  go_enter Tryz.func65, Tryz.ntmps65
  go_wp2_with (go_at_call 92; refine (Tryz.Builder_Grow_fresh w.heap.size w.heap.size u.length _ (Nat.le_refl _) (heap_alloc_new w _) (by simp) (by omega)).mono ?_)
  rintro e w1 ⟨rfl, hb1, bel1⟩
  have hB0 : TInv w u (.int .i64 0) w1 := ⟨0, [], rfl, Nat.zero_le _, hb1, ((Below.refl _ _).alloc (Nat.le_refl _) _).trans bel1, rfl, by simp⟩
  have HB := Lib.hid hB0
  clear hB0 hb1 bel1
  go_wp2
  go_loopw [4] (fun i wr => TInv w u i wr) (fun i _ => u.length - (intOf i).toNat)
  case atStart => exact HB.out
  case round =>
    obtain ⟨k, acc, rfl, hk, hBd, hbel, htx, hal⟩ := hrel
    have hbs := hbel.size
    have HT := Lib.hid htx
    clear htx
    by_cases hlt : k < u.length
    · have hlt2 : (k : Int) < u.length := by omega
      obtain ⟨a, ha⟩ : ∃ a, u[k]? = some a := ⟨u[k], by simp [hlt]⟩
      obtain ⟨b, off, rfl, hblt, hcell0, hab⟩ := HR.out k a ha
      have hcell : wr.cell? ⟨b, off + k, none⟩ = some (.int .u16 (a : Nat)) := (hbel.cell (p := ⟨b, off + k, none⟩) hblt).trans hcell0
      have HA := Lib.hid ha
      have hai : (a : Int) ≤ 65535 := by omega
      clear ha hcell0 hab
      by_cases hhi : isHi a = true
      · by_cases hlt3 : k + 1 < u.length
        · have hlt4 : (k : Int) + 1 < u.length := by omega
          obtain ⟨c, hc⟩ : ∃ c, u[k + 1]? = some c := ⟨u[k + 1], by simp [hlt3]⟩
          obtain ⟨b', off', e, hblt', hcell0, hcb⟩ := HR.out (k + 1) c hc
          obtain ⟨rfl, rfl⟩ : b = b' ∧ off = off' := by simpa using e
          have hcell2 : wr.cell? ⟨b, off + (k + 1), none⟩ = some (.int .u16 (c : Nat)) := (hbel.cell (p := ⟨b, off + (k + 1), none⟩) hblt).trans hcell0
          have HC := Lib.hid hc
          have hci : (c : Int) ≤ 65535 := by omega
          clear hc hcell0 hcb e
          by_cases hlo : isLo c = true
          · have hbh := isHi_iff.1 hhi
            have hbl := isLo_iff.1 hlo
            obtain ⟨m, hm⟩ : ∃ m, 65536 + (a - 55296) * 1024 + (c - 56320) = m := ⟨_, rfl⟩
            have hmb : m ≤ 1114111 := by omega
            have hpair := fun w => paired_any a c w hhi hlo
            rw [hm] at hpair
            have HM := Lib.hid hm
            clear hbh hbl hm
            go_wp2_with (first | (go_at_call 93; refine (isHigh_any _ _).mono ?_; rintro e w' ⟨rfl, rfl⟩) | (go_at_call 94; refine (isLow_any _ _).mono ?_; rintro e w' ⟨rfl, rfl⟩) | (go_at_call 95; refine (hpair _).mono ?_; rintro e w' ⟨rfl, rfl⟩) | (go_at_call 96; refine (writePoint_any w.heap.size w.heap.size acc m wr hmb hBd (by omega) hbs).mono ?_))
            rintro e W1 ⟨rfl, hB1, hb1⟩
            have hfin := tinv_two HT.out hal hbel HA.out HC.out hhi hlo (by rw [HM.out]; exact hB1) hb1
            have HF := Lib.hid hfin
            clear hfin hB1 hb1 hBd hbel
            go_wp2
            go_roundw
            case rel => exact HF.out
            case measure => simp [intOf]; omega
          · have hlo2 : isLo c = false := by simpa using hlo
            clear hlo
            go_wp2_with (first | (go_at_call 93; refine (isHigh_any _ _).mono ?_; rintro e w' ⟨rfl, rfl⟩) | (go_at_call 94; refine (isLow_any _ _).mono ?_; rintro e w' ⟨rfl, rfl⟩) | (go_at_call 96; refine (writePoint_any w.heap.size w.heap.size acc a wr (by omega) hBd (by omega) hbs).mono ?_))
            rintro e W1 ⟨rfl, hB1, hb1⟩
            have hfin := tinv_one HT.out hal hbel HA.out (.inr (fun x hx => by rw [HC.out] at hx; cases hx; exact hlo2)) hB1 hb1
            have HF := Lib.hid hfin
            clear hfin hB1 hb1 hBd hbel
            go_wp2
            go_roundw
            case rel => exact HF.out
            case measure => simp [intOf]; omega
        · have hd : decide ((k : Int) + 1 < (u.length : Nat)) = false := decide_eq_false (by omega)
          go_wp2_with (first | (go_at_call 93; refine (isHigh_any _ _).mono ?_; rintro e w' ⟨rfl, rfl⟩) | (go_at_call 96; refine (writePoint_any w.heap.size w.heap.size acc a wr (by omega) hBd (by omega) hbs).mono ?_))
          rintro e W1 ⟨rfl, hB1, hb1⟩
          have hfin := tinv_one HT.out hal hbel HA.out (.inr (fun x hx => absurd (List.getElem?_eq_some_iff.1 hx).1 hlt3)) hB1 hb1
          have HF := Lib.hid hfin
          clear hfin hB1 hb1 hBd hbel
          go_wp2
          go_roundw
          case rel => exact HF.out
          case measure => simp [intOf]; omega
      · have hhi2 : isHi a = false := by simpa using hhi
        clear hhi
        go_wp2_with (first | (go_at_call 93; refine (isHigh_any _ _).mono ?_; rintro e w' ⟨rfl, rfl⟩) | (go_at_call 96; refine (writePoint_any w.heap.size w.heap.size acc a wr (by omega) hBd (by omega) hbs).mono ?_))
        rintro e W1 ⟨rfl, hB1, hb1⟩
        have hfin := tinv_one HT.out hal hbel HA.out (.inl hhi2) hB1 hb1
        have HF := Lib.hid hfin
        clear hfin hB1 hb1 hBd hbel
        go_wp2
        go_roundw
        case rel => exact HF.out
        case measure => simp [intOf]; omega
    · obtain rfl : k = u.length := by omega
      have htx := HT.out
      rw [List.drop_length] at htx
      have e : acc = text u := by simpa [text, cps, encs] using htx
      have HE := Lib.hid e
      clear htx e
      go_wp2_with (go_at_call 97; refine (Tryz.Builder_String_any w.heap.size w.heap.size acc _ (.inr hBd) hbs).mono ?_)
      rintro e W1 ⟨rfl, hb1⟩
      go_wp2
      go_ret
      exact ⟨by rw [← HE.out]; rfl, hbel.trans hb1⟩
end Go.Proofs.YtocebhaaamnfiaaGreatDoor.Uni

/-
  strconv.FormatUint in base 16, for a number of 16 bits.
-/
namespace Go.Proofs.YtocebhaaamnfiaaGreatDoor.Vals
open Go.RowKit Go.Proofs.YtocebhaaamnfiaaGreatDoor.Uni
set_option linter.unusedVariables false

/-- The cell of the library's table that a base of 16 reads. -/
structure Lt (w : World) : Prop where
  tz : w.cell? ⟨7, 15, none⟩ = some (.int .u8 4)
theorem Lt.below {w w' : World} (h : Lt w) (hb : Below w.heap.size w w') : Lt w' :=
  ⟨by rw [hb.cell (p := ⟨7, 15, none⟩) (World.block_lt_of_cell? w _ h.tz)]; exact h.tz⟩

theorem Lt.later {w w' : World} {base : Nat} (h : Lt w) (hb : Below base w w') (hg : 7 < base) : Lt w' :=
  ⟨by rw [hb.cell (p := ⟨7, 15, none⟩) hg]; exact h.tz⟩

set_option maxRecDepth 100000 in
theorem pow2_16 (w : World) : Calls Tryz.prog 154 #[.int .i64 16] w fun e w' => e = .returned (.bool true) ∧ w = w' := by
  have e : bits .and .i64 16 15 = 0 := by decide +kernel
  go_enter Tryz.func154, Tryz.ntmps154
  go_wp2
  go_ret
  exact ⟨rfl, rfl⟩

set_option maxRecDepth 100000 in
theorem tz64_16 (w : World) (hT : Lt w) : Calls Tryz.prog 160 #[.int .u64 16] w fun e w' => e = .returned (.int .i64 4) ∧ w = w' := by
  have e : bits .and .u64 16 (IntKind.u64.wrap (-16)) = 16 := by decide +kernel
  have e2 : IntKind.u64.wrap (16 * 285870213051353865) = 4573923408821661840 := by decide +kernel
  have e3 : (4573923408821661840 : Int) / 288230376151711744 = 15 := by decide
  have hc := hT.tz
  go_enter Tryz.func160, Tryz.ntmps160
  go_wp2
  go_ret
  exact ⟨rfl, rfl⟩

theorem tz_16 (w : World) (hT : Lt w) : Calls Tryz.prog 155 #[.int .u64 16] w fun e w' => e = .returned (.int .i64 4) ∧ w = w' := by
  go_enter Tryz.func155, Tryz.ntmps155
  go_wp2_with (go_at_call 160; refine (tz64_16 _ hT).mono ?_; rintro e w' ⟨rfl, rfl⟩)
  go_ret
  exact ⟨rfl, rfl⟩

/-- A digit of base 16. -/
def hexd (d : Nat) : Nat := if d < 10 then 48 + d else 87 + d
theorem hexd_cases {d : Nat} (h : d < 16) : (48 ≤ hexd d ∧ hexd d ≤ 57) ∨ (97 ≤ hexd d ∧ hexd d ≤ 102) := by unfold hexd; split <;> omega
theorem hexd_inj {a b : Nat} (ha : a < 16) (hb : b < 16) (h : hexd a = hexd b) : a = b := by unfold hexd at h; split at h <;> split at h <;> omega

theorem idx_hex (d : Nat) (h : d < 16) (w : World) : (Instr.index 9 (.string ⟨#[48, 49, 50, 51, 52, 53, 54, 55, 56, 57, 97, 98, 99, 100, 101, 102, 103, 104, 105, 106, 107, 108, 109, 110, 111, 112, 113, 114, 115, 116, 117, 118, 119, 120, 121, 122]⟩) (.int .u64 (d : Int))).run Tryz.prog w = .ok (.int .u8 (hexd d : Nat)) w := by
  rw [run_index_string (h := Tryz.underlying9)]
  rw [dif_pos ⟨by omega, by show (d : Int) < 36; omega⟩]
  rcases (by omega : d = 0 ∨ d = 1 ∨ d = 2 ∨ d = 3 ∨ d = 4 ∨ d = 5 ∨ d = 6 ∨ d = 7 ∨ d = 8 ∨ d = 9 ∨ d = 10 ∨ d = 11 ∨ d = 12 ∨ d = 13 ∨ d = 14 ∨ d = 15) with rfl | rfl | rfl | rfl | rfl | rfl | rfl | rfl | rfl | rfl | rfl | rfl | rfl | rfl | rfl | rfl <;> rfl

/-- The array of formatBits behind k digits. -/
def arr (k : Nat) (ds : List Nat) : List Value := List.replicate (65 - k) (Value.int .u8 0) ++ ds.map fun n : Nat => Value.int .u8 (n : Int)
theorem arr_set (k : Nat) (ds : List Nat) (d : Nat) (hk : k < 65) : (arr k ds).set (64 - k) (.int .u8 (d : Nat)) = arr (k + 1) (d :: ds) := by
  unfold arr
  obtain ⟨m, hm⟩ : ∃ m, 64 - k = m := ⟨_, rfl⟩
  have e1 : 65 - k = m + 1 := by omega
  have e2 : 65 - (k + 1) = m := by omega
  rw [hm, e1, e2, List.replicate_succ', List.append_assoc, List.set_append_right _ _ (by simp)]
  simp
theorem arr_len (k : Nat) (ds : List Nat) (hk : k ≤ 65) (h : ds.length = k) : (arr k ds).length = 65 := by unfold arr; simp [h]; omega
theorem arr_get (k : Nat) (ds : List Nat) (hk : k ≤ 65) (i : Nat) (d : Nat) (h : ds[i]? = some d) : (arr k ds)[65 - k + i]? = some (.int .u8 (d : Nat)) := by
  unfold arr
  rw [List.getElem?_append_right (by simp)]
  simp [h]

/-- The last k digits of u in base 16. -/
def dsOf (u : Nat) : Nat → List Nat
  | 0 => []
  | k + 1 => hexd (u / 16 ^ k % 16) :: dsOf u k
theorem dsOf_len (u : Nat) : ∀ k, (dsOf u k).length = k
  | 0 => rfl
  | k + 1 => by simp [dsOf, dsOf_len u k]
theorem hexd_lt {d : Nat} (h : d < 16) : hexd d < 128 := by unfold hexd; split <;> omega
theorem dsOf_lt (u : Nat) : ∀ k, ∀ x ∈ dsOf u k, x < 128
  | 0 => fun x h => by simp [dsOf] at h
  | k + 1 => fun x h => by
    simp only [dsOf, List.mem_cons] at h
    rcases h with rfl | h
    · exact hexd_lt (Nat.mod_lt _ (by decide))
    · exact dsOf_lt u k x h
theorem dsOf_pad (u : Nat) (j : Nat) (h : u < 16 ^ j) : ∀ n, dsOf u (j + n) = List.replicate n 48 ++ dsOf u j
  | 0 => rfl
  | n + 1 => by
    show hexd (u / 16 ^ (j + n) % 16) :: dsOf u (j + n) = _
    have e : u / 16 ^ (j + n) = 0 := Nat.div_eq_of_lt (Nat.lt_of_lt_of_le h (Nat.pow_le_pow_right (by decide) (by omega)))
    rw [e, dsOf_pad u j h n]
    rfl
theorem quo_step (u k : Nat) : u / 16 ^ k / 16 = u / 16 ^ (k + 1) := by rw [Nat.div_div_eq_div_mul, Nat.pow_succ]

def HInv (u : Nat) (b : Nat) (w0 : World) (uv iv : Value) (wr : World) : Prop :=
  ∃ (k q i : Nat), k + i = 64 ∧ k ≤ 3 ∧ u / 16 ^ k = q ∧ uv = .int .u64 (q : Nat) ∧ iv = .int .i64 ((i : Int) + 1) ∧ wr.heap[b]? = some (.cells (arr k (dsOf u k)).toArray 153 (0, 0)) ∧ Below w0.heap.size w0 wr
theorem hinv_bd {u k q : Nat} (hu : u < 65536) (hk : k ≤ 3) (hq : u / 16 ^ k = q) (h : 16 ≤ q) : k + 1 ≤ 3 := by
  rcases (by omega : k = 3 ∨ k + 1 ≤ 3) with rfl | h
  · omega
  · exact h
theorem store_arr {wr w0 : World} {b k d : Nat} {ds : List Nat} (hk : k ≤ 64) (hl : ds.length = k) (h : wr.heap[b]? = some (.cells (arr k ds).toArray 153 (0, 0))) (hb : w0.heap.size ≤ b) (hbel : Below w0.heap.size w0 wr) :
    (wr.setCell ⟨b, 64 - k, none⟩ (.int .u8 (d : Nat))).heap[b]? = some (.cells (arr (k + 1) (d :: ds)).toArray 153 (0, 0)) ∧ Below w0.heap.size w0 (wr.setCell ⟨b, 64 - k, none⟩ (.int .u8 (d : Nat))) := by
  refine ⟨?_, hbel.setCell hb _⟩
  rw [← arr_set k ds d (by omega)]
  simp [World.setCell, Array.getElem?_modify, h]
theorem and15 (x : Nat) (h : x < 65536) : bits .and .u64 (x : Int) 15 = ((x % 16 : Nat) : Int) := by
  have := bits_mask .u64 63 (by decide) (fun n h0 h1 => by rw [IntKind.wrap_u64]; omega) 4 (by decide) (x : Int) (by omega) (by omega)
  simpa using this

theorem arrLen65 : Tryz.prog.arrayLen 153 = 65 := by kernel_rfl
theorem arr65 : Tryz.prog.elem 153 = 5 := by kernel_rfl
theorem slice_arr (b i k : Nat) (h : k + i = 64) (w : World) : (Instr.sliceAt 153 (.pointer (some ⟨b, 0, none⟩)) (some (.int .i64 (i : Int))) none none).run Tryz.prog w = .ok (.slice (some ⟨b, i, none⟩) (k + 1) (k + 1)) w := by
  have hz : (Go.sizeOf 5).run Tryz.prog w = .ok 1 w := Tryz.sizeOf5 w
  rw [run_sliceAt_array_l (h0 := by omega) (h1 := by rw [arrLen65]; omega)]
  · rw [arrLen65, arr65, hz]
    simp only [Result.andThen]
    have e1 : ((i : Int)).toNat = i := by omega
    rw [e1]
    unfold slicedAt
    have e2 : 65 - i = k + 1 := by omega
    rw [e2, if_neg (by omega)]
    have e3 : (⟨b, 0, none⟩ : Addr).add (i * 1) = ⟨b, i, none⟩ := by
      rw [Nat.mul_one]
      unfold Addr.add
      split <;> simp_all
    rw [e3]
  · rw [arrLen65, arr65]; exact Tryz.underlying153
theorem conv_arr (b i k : Nat) (h : k + i = 64) (ds : List Nat) (hd : ds.length = k + 1) (hb : ∀ x ∈ ds, x < 256) (w : World) (hh : w.heap[b]? = some (.cells (arr (k + 1) ds).toArray 153 (0, 0))) :
    (convert 22 9 (.slice (some ⟨b, i, none⟩) (k + 1) (k + 1))).run Tryz.prog w = .ok (.string ⟨(ds.map Nat.toUInt8).toArray⟩) w := by
  have hr := run_convert_bytes_arg w 22 5 Tryz.underlying22 Tryz.underlying5 b i (k + 1) (k + 1) (ds.map fun n : Nat => (n : Int)) (by simp [hd]) (fun j hj => by
    have hj2 : j < ds.length := by omega
    obtain ⟨A, hA⟩ : ∃ A, A = arr (k + 1) ds := ⟨_, rfl⟩
    have := arr_get (k + 1) ds (by omega) j ds[j] (List.getElem?_eq_getElem hj2)
    rw [← hA] at this hh
    have e : 65 - (k + 1) + j = i + j := by omega
    rw [e] at this
    have e2 : (ds.map fun n : Nat => (n : Int)).getD j 0 = (ds[j] : Int) := by
      rw [List.getD_eq_getElem?_getD, List.getElem?_map, List.getElem?_eq_getElem hj2]
      simp
    rw [e2, ← this]
    exact (Lib.cell_of_heap hh _).trans (List.getElem?_toArray ..)) 9 Tryz.underlying9
  have e : (ds.map fun n : Nat => (n : Int)).map (fun n : Int => UInt8.ofNat n.toNat) = ds.map Nat.toUInt8 := by
    rw [List.map_map]
    apply List.map_congr_left
    intro x _
    simp
  rw [hr]
  unfold strOfNums
  rw [e]

/-- What formatBits gives: the digits of u, at least one. -/
def HexPost (u : Nat) (w : World) (e : Ending) (w' : World) : Prop :=
  ∃ j, 1 ≤ j ∧ j ≤ 4 ∧ u < 16 ^ j ∧ e = .returned (.tuple #[.slice none 0 0, .string ⟨((dsOf u j).map Nat.toUInt8).toArray⟩]) ∧ Below w.heap.size w w'

set_option maxRecDepth 100000 in
set_option maxHeartbeats 1000000 in
theorem bits_16 (u : Nat) (hu : u < 65536) (w : World) (hT : Lt w) :
    Calls Tryz.prog 147 #[.slice none 0 0, .int .u64 (u : Nat), .int .i64 16, .bool false, .bool false] w (HexPost u w) := by
  go_enter Tryz.func147, Tryz.ntmps147
  go_wp2_with (first | (go_at_call 154; refine (pow2_16 _).mono ?_; rintro e w' ⟨rfl, rfl⟩) | (go_at_call 155; refine (tz_16 _ (hT.below ((Below.refl _ _).alloc (Nat.le_refl _) _))).mono ?_; rintro e w' ⟨rfl, rfl⟩))
  go_loopw [1, 13] (fun uv iv wr => HInv u w.heap.size w uv iv wr) (fun uv _ _ => (intOf uv).toNat)
  case atStart =>
    refine ⟨0, u, 64, rfl, by omega, by simp, rfl, rfl, ?_, (Below.refl _ _).alloc (Nat.le_refl _) _⟩
    rw [heap_alloc_new]
    rfl
  case round =>
    obtain ⟨k, q, i, hki, hk, hq, rfl, rfl, hh, hbel⟩ := hrel
    have hlen := dsOf_len u k
    have hq6 : q < 65536 := by rw [← hq]; exact Nat.lt_of_le_of_lt (Nat.div_le_self _ _) hu
    obtain ⟨d, hd⟩ : ∃ d, q % 16 = d := ⟨_, rfl⟩
    have hd16 : d < 16 := by omega
    have hand : bits .and .u64 (q : Int) 15 = (d : Int) := by rw [and15 q hq6, hd]
    have hidx := fun w => idx_hex d hd16 w
    have hS := store_arr (d := hexd d) (by omega) hlen hh (Nat.le_refl _) hbel
    have hfz : wr.frozen? ⟨w.heap.size, 64 - k, none⟩ = false := Lib.frozen_of_heap hh _
    have hi : 64 - k = i := by omega
    rw [hi] at hS hfz
    have hi61 : 61 ≤ i := by omega
    have hi64 : i ≤ 64 := by omega
    have hcell : ∃ v, wr.cell? ⟨w.heap.size, i, none⟩ = some v := by
      have hl := arr_len k (dsOf u k) (by omega) hlen
      refine ⟨(arr k (dsOf u k))[i]'(by omega), ?_⟩
      rw [Lib.cell_of_heap hh]
      simp
    obtain ⟨v, hcell⟩ := hcell
    by_cases hge : 16 ≤ q
    · have hge2 : (16 : Int) ≤ (q : Int) := by omega
      have HKI := Lib.hid hki
      clear hki hi
      have HS := Lib.hid hS
      have HQ := Lib.hid hq
      have HD := Lib.hid hd
      clear hS hq hd hh hlen
      go_wp2
      go_roundw
      case rel =>
        have hk2 := hinv_bd hu hk HQ.out hge
        refine ⟨k + 1, q / 16, i - 1, by have := HKI.out; omega, hk2, by rw [← quo_step, HQ.out], ?_, ?_, ?_, HS.out.2⟩
        · go_num
        · go_num
        · have := HS.out.1
          rw [← HD.out, ← HQ.out] at this
          rw [← HD.out, ← HQ.out]
          exact this
      case measure => simp [intOf]; omega
    · have hlt2 : (q : Int) < 16 := by omega
      have hge2 : ¬ (16 : Int) ≤ (q : Int) := by omega
      have hqd : q = d := by omega
      subst hqd
      have HS := Lib.hid hS
      have HQ := Lib.hid hq
      have HD := Lib.hid hd
      have hhs := hS.1
      have hdq : hexd q :: dsOf u k = dsOf u (k + 1) := by
        show _ = hexd (u / 16 ^ k % 16) :: dsOf u k
        rw [hq, hd]
      rw [hdq] at hhs
      have hsl := fun w => slice_arr (k := k) (i := i) (b := w.heap.size) (by omega) w
      have hcv := conv_arr (k := k) (i := i) (b := w.heap.size) (by omega) (dsOf u (k + 1)) (dsOf_len u _) (fun x hx => by have := dsOf_lt u _ x hx; omega) _ hhs
      have hlast : u < 16 ^ (k + 1) := by
        have h1 : u / 16 ^ k < 16 := by omega
        rw [Nat.pow_succ, Nat.mul_comm]
        exact (Nat.div_lt_iff_lt_mul (Nat.pow_pos (by decide))).1 h1
      have HL := Lib.hid hlast
      have hsl2 := slice_arr w.heap.size i k hki
      clear hS hq hd hh hlen hand hdq hhs hlast hsl hki hi
      go_wp2
      go_ret2
      exact ⟨k + 1, by omega, by omega, HL.out, rfl, HS.out.2⟩

/-- A call that gives the digits of u in base 16. -/
def HexP (u : Nat) (w : World) (e : Ending) (w' : World) : Prop :=
  ∃ j, 1 ≤ j ∧ j ≤ 4 ∧ u < 16 ^ j ∧ e = .returned (.string ⟨((dsOf u j).map Nat.toUInt8).toArray⟩) ∧ Below w.heap.size w w'
end Go.Proofs.YtocebhaaamnfiaaGreatDoor.Vals

/-
  values.writeEscape.
-/
namespace Go.Proofs.YtocebhaaamnfiaaGreatDoor.Vals
open Go.RowKit Go.Proofs.YtocebhaaamnfiaaGreatDoor.Uni
set_option linter.unusedVariables false

theorem own_keep {w w' : World} {base e size n : Nat} {v : Value} {xs : List Value} (h : w.ownsRow base e size v n xs) (hb : Below w.heap.size w w') : w'.ownsRow base e size v n xs := by
  refine ⟨h.1, ?_⟩
  rcases h.2 with hn | ⟨g, cap, cur, rfl, hbg, hg, rest⟩
  · exact .inl hn
  · exact .inr ⟨g, cap, cur, rfl, hbg, (hb.block g (lt_of_block hg)).trans hg, rest⟩
theorem bd_keep {w w' : World} {base b : Nat} {bs : List Value} (h : Bd base b bs w) (hb : Below w.heap.size w w') : Bd base b bs w' := by
  obtain ⟨hB, v, hbk, hown, hne⟩ := h
  exact ⟨hB, v, (hb.block b (lt_of_block hbk)).trans hbk, own_keep hown hb, hne⟩

/-- A unit's escape: a backslash, the letter u and four digits. -/
def escL (u : Nat) : List UInt8 := [92, 117] ++ (dsOf u 4).map Nat.toUInt8
theorem strCells_list (l : List UInt8) : Lib.strCells ⟨l.toArray⟩ = Lib.byteCells l := rfl

end Go.Proofs.YtocebhaaamnfiaaGreatDoor.Vals

/-
  Plain mathematics of a string between quotes.
-/
namespace Go.Proofs.YtocebhaaamnfiaaGreatDoor.Vals
open Go.RowKit Go.Proofs.YtocebhaaamnfiaaGreatDoor.Uni
set_option linter.unusedVariables false

/-- A unit that stands for itself between quotes. -/
def plainB (u : Nat) : Bool := decide (32 ≤ u ∧ u ≤ 126 ∧ u ≠ 34 ∧ u ≠ 92)
theorem plain_iff {u : Nat} : plainB u = true ↔ 32 ≤ u ∧ u ≤ 126 ∧ u ≠ 34 ∧ u ≠ 92 := by simp [plainB]
theorem plain_big {u : Nat} (h : 126 < u) : plainB u = false := by
  cases e : plainB u with
  | false => rfl
  | true => have := plain_iff.1 e; omega
/-- What a unit becomes between quotes; a list of them; a text. -/
def qU (u : Nat) : List UInt8 := if plainB u then [Nat.toUInt8 u] else escL u
def qUs (l : List Nat) : List UInt8 := l.flatMap qU
def quoteL (s : ByteArray) : List UInt8 := [34] ++ qUs (units s) ++ [34]
theorem qUs_append (a b : List Nat) : qUs (a ++ b) = qUs a ++ qUs b := by simp [qUs]
theorem qUs_one (u : Nat) : qUs [u] = qU u := by simp [qUs]
theorem qUs_nil : qUs [] = [] := rfl
theorem qU_plain {u : Nat} (h : plainB u = true) : qU u = [Nat.toUInt8 u] := if_pos h
theorem qU_esc {u : Nat} (h : plainB u = false) : qU u = escL u := by unfold qU; rw [h]; rfl
theorem escL_len (u : Nat) : (escL u).length = 6 := by simp [escL, dsOf_len]
theorem qU_len (u : Nat) : (qU u).length ≤ 6 := by
  unfold qU
  split
  · simp
  · rw [escL_len]; exact Nat.le_refl _
theorem qUs_len (l : List Nat) : (qUs l).length ≤ 6 * l.length := by
  induction l with
  | nil => simp [qUs]
  | cons a r ih =>
    have : qUs (a :: r) = qU a ++ qUs r := by simp [qUs]
    have h := qU_len a
    rw [this, List.length_append, List.length_cons]
    omega
/-- No unit of a code point that isn't plain is plain. -/
theorem un_esc {c : Nat} (h : plainB c = false) : ∀ u ∈ un c, plainB u = false := by
  intro u hu
  by_cases hc : c < 65536
  · rw [un_small hc] at hu
    simp at hu
    subst hu
    exact h
  · rw [un_great hc] at hu
    simp at hu
    rcases hu with e | e
    · exact plain_big (by rw [e]; exact Nat.lt_of_lt_of_le (by decide : 126 < 55296) (Nat.le_add_right _ _))
    · exact plain_big (by rw [e]; exact Nat.lt_of_lt_of_le (by decide : 126 < 56320) (Nat.le_add_right _ _))
theorem un_plain {c : Nat} (h : plainB c = true) : qUs (un c) = [Nat.toUInt8 c] := by
  have := plain_iff.1 h
  rw [un_small (by omega), qUs_one, qU_plain h]
theorem un_lt {c : Nat} (hc : c ≤ 1114111) : ∀ u ∈ un c, u < 65536 := by
  intro u hu
  by_cases h : c < 65536
  · rw [un_small h] at hu; simp at hu; omega
  · rw [un_great h] at hu; simp at hu; omega

theorem enc_cells {c : Nat} (hc : c ≤ 1114111) : Lib.byteCells (enc c) = (encN c).map fun n : Nat => Value.int .u8 (n : Int) := by
  unfold enc Lib.byteCells
  rw [List.map_map]
  apply List.map_congr_left
  intro x hx
  have := encN_byte hc x hx
  simp
  omega
theorem plain_rune {c : Nat} (h : plainB c = true) : Lib.runeCells (c : Int) = Lib.byteCells [Nat.toUInt8 c] := by
  have hp := plain_iff.1 h
  unfold Lib.runeCells Lib.byteCells
  rw [Lib.encodeRuneZ_one (by omega) (by omega)]
  simp
  omega
/-- The library's length of a code point's encoding. -/
theorem rlen {c : Nat} (hc : c ≤ 1114111) (hs : c < 55296 ∨ 57344 ≤ c) : Lib.runeLen (c : Int) = ((encN c).length : Nat) := by
  unfold Lib.runeLen
  rw [if_neg (by omega)]
  by_cases h1 : c < 128
  · rw [if_pos (by omega), encN_1 h1]; rfl
  · rw [if_neg (by omega)]
    by_cases h2 : c < 2048
    · rw [if_pos (by omega), encN_2 (by omega) h2]; rfl
    · rw [if_neg (by omega), if_neg (by omega)]
      by_cases h3 : c < 65536
      · rw [if_pos (by omega), encN_3 (by omega) h3]; rfl
      · rw [if_neg (by omega), if_pos (by omega), encN_4 (by omega)]; rfl

/-- The units of one code point's bytes. -/
theorem units_cut {s : ByteArray} {i c n : Nat} (hi : i < s.size) (h : pt s i = (c, n)) (hn : n ≠ 0) (hc : c ≤ 1114111) : units (s.extract i (i + n)) = un c := by
  have hle := pt_le s i hi
  have he := pt_enc hi (by rw [h]; exact hn)
  rw [h] at he hle
  simp only at he hle
  have hl : (s.extract i (i + n)).data.toList = encs [c] := by
    have e1 : encs [c] = enc c := by simp [encs]
    rw [e1]
    apply List.ext_getElem
    · rw [enc_len, he.1]
      simp
      omega
    · intro q h1 h2
      have hq : q < n := by rw [enc_len, he.1] at h2; exact h2
      have hb := he.2 q hq
      have hlt : q < (encN c).length := by rw [he.1]; exact hq
      have e2 : (enc c)[q] = Nat.toUInt8 ((encN c)[q]) := by simp [enc]
      rw [e2]
      have e3 : (s.extract i (i + n)).data.toList[q] = s[i + q]'(by omega) := by
        simp
        rfl
      rw [e3]
      have e4 := B_get s (i + q) (by omega)
      rw [hb, List.getD_eq_getElem?_getD, List.getElem?_eq_getElem hlt] at e4
      simp at e4
      have := encN_byte hc _ (List.getElem_mem hlt)
      apply UInt8.toNat_inj.1
      rw [e4]
      simp
      omega
  have hs : s.extract i (i + n) = ⟨(encs [c]).toArray⟩ := by
    apply ByteArray.ext
    apply Array.toList_inj.1
    rw [hl]
  have hp : pts (s.extract i (i + n)) = some [c] := by
    rw [hs]
    exact pts_encs (by intro x hx; simp at hx; omega) (by simp [np])
  unfold units
  rw [hp]
  simp [uns]
end Go.Proofs.YtocebhaaamnfiaaGreatDoor.Vals
