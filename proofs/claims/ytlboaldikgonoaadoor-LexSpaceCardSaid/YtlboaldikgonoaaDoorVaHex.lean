/-
  strconv.FormatUint in base 16, for a number of 16 bits.
-/
import Derived.Test.YtlboaldikgonoaaDoorUnBuild
import Derived.Test.YtlboaldikgonoaaDoorNmSmall
namespace Go.Proofs.YtlboaldikgonoaaDoor.Vals
open Go.RowKit Go.Proofs.YtlboaldikgonoaaDoor.Uni
set_option linter.unusedVariables false

/-- The cell of the library's table that a base of 16 reads. -/
structure Lt (w : World) : Prop where
  tz : w.cell? ⟨6, 15, none⟩ = some (.int .u8 4)
theorem Lt.below {w w' : World} (h : Lt w) (hb : Below w.heap.size w w') : Lt w' :=
  ⟨by rw [hb.cell (p := ⟨6, 15, none⟩) (World.block_lt_of_cell? w _ h.tz)]; exact h.tz⟩

theorem Lt.later {w w' : World} {base : Nat} (h : Lt w) (hb : Below base w w') (hg : 6 < base) : Lt w' :=
  ⟨by rw [hb.cell (p := ⟨6, 15, none⟩) hg]; exact h.tz⟩

set_option maxRecDepth 100000 in
theorem pow2_16 (w : World) : Calls Tryd.prog 101 #[.int .i64 16] w fun e w' => e = .returned (.bool true) ∧ w = w' := by
  have e : bits .and .i64 16 15 = 0 := by decide +kernel
  go_enter Tryd.func101, Tryd.ntmps101
  go_wp2
  go_ret
  exact ⟨rfl, rfl⟩

set_option maxRecDepth 100000 in
theorem tz64_16 (w : World) (hT : Lt w) : Calls Tryd.prog 104 #[.int .u64 16] w fun e w' => e = .returned (.int .i64 4) ∧ w = w' := by
  have e : bits .and .u64 16 (IntKind.u64.wrap (-16)) = 16 := by decide +kernel
  have e2 : IntKind.u64.wrap (16 * 285870213051353865) = 4573923408821661840 := by decide +kernel
  have e3 : (4573923408821661840 : Int) / 288230376151711744 = 15 := by decide
  have hc := hT.tz
  go_enter Tryd.func104, Tryd.ntmps104
  go_wp2
  go_ret
  exact ⟨rfl, rfl⟩

theorem tz_16 (w : World) (hT : Lt w) : Calls Tryd.prog 102 #[.int .u64 16] w fun e w' => e = .returned (.int .i64 4) ∧ w = w' := by
  go_enter Tryd.func102, Tryd.ntmps102
  go_wp2_with (go_at_call 104; refine (tz64_16 _ hT).mono ?_; rintro e w' ⟨rfl, rfl⟩)
  go_ret
  exact ⟨rfl, rfl⟩

/-- A digit of base 16. -/
def hexd (d : Nat) : Nat := if d < 10 then 48 + d else 87 + d
theorem hexd_cases {d : Nat} (h : d < 16) : (48 ≤ hexd d ∧ hexd d ≤ 57) ∨ (97 ≤ hexd d ∧ hexd d ≤ 102) := by unfold hexd; split <;> omega
theorem hexd_inj {a b : Nat} (ha : a < 16) (hb : b < 16) (h : hexd a = hexd b) : a = b := by unfold hexd at h; split at h <;> split at h <;> omega

theorem idx_hex (d : Nat) (h : d < 16) (w : World) : (Instr.index 9 (.string ⟨#[48, 49, 50, 51, 52, 53, 54, 55, 56, 57, 97, 98, 99, 100, 101, 102, 103, 104, 105, 106, 107, 108, 109, 110, 111, 112, 113, 114, 115, 116, 117, 118, 119, 120, 121, 122]⟩) (.int .u64 (d : Int))).run Tryd.prog w = .ok (.int .u8 (hexd d : Nat)) w := by
  rw [run_index_string (h := Tryd.underlying9)]
  rw [dif_pos ⟨by omega, by show (d : Int) < 36; omega⟩]
  rcases (by omega : d = 0 ∨ d = 1 ∨ d = 2 ∨ d = 3 ∨ d = 4 ∨ d = 5 ∨ d = 6 ∨ d = 7 ∨ d = 8 ∨ d = 9 ∨ d = 10 ∨ d = 11 ∨ d = 12 ∨ d = 13 ∨ d = 14 ∨ d = 15) with rfl | rfl | rfl | rfl | rfl | rfl | rfl | rfl | rfl | rfl | rfl | rfl | rfl | rfl | rfl | rfl <;> rfl

/-- The array of formatBits behind k digits. -/
def arr (k : Nat) (ds : List Nat) : List Value := List.replicate (65 - k) (Value.int .u8 0) ++ ds.map fun n : Nat => Value.int .u8 (n : Int)
theorem arr_set (k : Nat) (ds : List Nat) (d : Nat) (hk : k < 65) : (arr k ds).set (64 - k) (.int .u8 (d : Nat)) = arr (k + 1) (d :: ds) := by
  unfold arr
  obtain ⟨m, hm⟩ : ∃ m, 64 - k = m := ⟨_, rfl⟩
  have e1 : 65 - k = m + 1 := by omega
  have e2 : 65 - (k + 1) = m := by omega
  rw [hm, e1, e2, List.replicate_succ', List.append_assoc, List.set_append_right _ _ (by simp)]
  simp
theorem arr_len (k : Nat) (ds : List Nat) (hk : k ≤ 65) (h : ds.length = k) : (arr k ds).length = 65 := by unfold arr; simp [h]; omega
theorem arr_get (k : Nat) (ds : List Nat) (hk : k ≤ 65) (i : Nat) (d : Nat) (h : ds[i]? = some d) : (arr k ds)[65 - k + i]? = some (.int .u8 (d : Nat)) := by
  unfold arr
  rw [List.getElem?_append_right (by simp)]
  simp [h]

/-- The last k digits of u in base 16. -/
def dsOf (u : Nat) : Nat → List Nat
  | 0 => []
  | k + 1 => hexd (u / 16 ^ k % 16) :: dsOf u k
theorem dsOf_len (u : Nat) : ∀ k, (dsOf u k).length = k
  | 0 => rfl
  | k + 1 => by simp [dsOf, dsOf_len u k]
theorem hexd_lt {d : Nat} (h : d < 16) : hexd d < 128 := by unfold hexd; split <;> omega
theorem dsOf_lt (u : Nat) : ∀ k, ∀ x ∈ dsOf u k, x < 128
  | 0 => fun x h => by simp [dsOf] at h
  | k + 1 => fun x h => by
    simp only [dsOf, List.mem_cons] at h
    rcases h with rfl | h
    · exact hexd_lt (Nat.mod_lt _ (by decide))
    · exact dsOf_lt u k x h
theorem dsOf_pad (u : Nat) (j : Nat) (h : u < 16 ^ j) : ∀ n, dsOf u (j + n) = List.replicate n 48 ++ dsOf u j
  | 0 => rfl
  | n + 1 => by
    show hexd (u / 16 ^ (j + n) % 16) :: dsOf u (j + n) = _
    have e : u / 16 ^ (j + n) = 0 := Nat.div_eq_of_lt (Nat.lt_of_lt_of_le h (Nat.pow_le_pow_right (by decide) (by omega)))
    rw [e, dsOf_pad u j h n]
    rfl
theorem quo_step (u k : Nat) : u / 16 ^ k / 16 = u / 16 ^ (k + 1) := by rw [Nat.div_div_eq_div_mul, Nat.pow_succ]

def HInv (u : Nat) (b : Nat) (w0 : World) (uv iv : Value) (wr : World) : Prop :=
  ∃ (k q i : Nat), k + i = 64 ∧ k ≤ 3 ∧ u / 16 ^ k = q ∧ uv = .int .u64 (q : Nat) ∧ iv = .int .i64 ((i : Int) + 1) ∧ wr.heap[b]? = some (.cells (arr k (dsOf u k)).toArray 123 (0, 0)) ∧ Below w0.heap.size w0 wr
theorem hinv_bd {u k q : Nat} (hu : u < 65536) (hk : k ≤ 3) (hq : u / 16 ^ k = q) (h : 16 ≤ q) : k + 1 ≤ 3 := by
  rcases (by omega : k = 3 ∨ k + 1 ≤ 3) with rfl | h
  · omega
  · exact h
theorem store_arr {wr w0 : World} {b k d : Nat} {ds : List Nat} (hk : k ≤ 64) (hl : ds.length = k) (h : wr.heap[b]? = some (.cells (arr k ds).toArray 123 (0, 0))) (hb : w0.heap.size ≤ b) (hbel : Below w0.heap.size w0 wr) :
    (wr.setCell ⟨b, 64 - k, none⟩ (.int .u8 (d : Nat))).heap[b]? = some (.cells (arr (k + 1) (d :: ds)).toArray 123 (0, 0)) ∧ Below w0.heap.size w0 (wr.setCell ⟨b, 64 - k, none⟩ (.int .u8 (d : Nat))) := by
  refine ⟨?_, hbel.setCell hb _⟩
  rw [← arr_set k ds d (by omega)]
  simp [World.setCell, Array.getElem?_modify, h]
theorem and15 (x : Nat) (h : x < 65536) : bits .and .u64 (x : Int) 15 = ((x % 16 : Nat) : Int) := by
  have := bits_mask .u64 63 (by decide) (fun n h0 h1 => by rw [IntKind.wrap_u64]; omega) 4 (by decide) (x : Int) (by omega) (by omega)
  simpa using this

theorem arrLen65 : Tryd.prog.arrayLen 123 = 65 := by kernel_rfl
theorem arr65 : Tryd.prog.elem 123 = 5 := by kernel_rfl
theorem slice_arr (b i k : Nat) (h : k + i = 64) (w : World) : (Instr.sliceAt 123 (.pointer (some ⟨b, 0, none⟩)) (some (.int .i64 (i : Int))) none none).run Tryd.prog w = .ok (.slice (some ⟨b, i, none⟩) (k + 1) (k + 1)) w := by
  have hz : (Go.sizeOf 5).run Tryd.prog w = .ok 1 w := Tryd.sizeOf5 w
  rw [run_sliceAt_array_l (h0 := by omega) (h1 := by rw [arrLen65]; omega)]
  · rw [arrLen65, arr65, hz]
    simp only [Result.andThen]
    have e1 : ((i : Int)).toNat = i := by omega
    rw [e1]
    unfold slicedAt
    have e2 : 65 - i = k + 1 := by omega
    rw [e2, if_neg (by omega)]
    have e3 : (⟨b, 0, none⟩ : Addr).add (i * 1) = ⟨b, i, none⟩ := by
      rw [Nat.mul_one]
      unfold Addr.add
      split <;> simp_all
    rw [e3]
  · rw [arrLen65, arr65]; exact Tryd.underlying123
theorem conv_arr (b i k : Nat) (h : k + i = 64) (ds : List Nat) (hd : ds.length = k + 1) (hb : ∀ x ∈ ds, x < 256) (w : World) (hh : w.heap[b]? = some (.cells (arr (k + 1) ds).toArray 123 (0, 0))) :
    (convert 25 9 (.slice (some ⟨b, i, none⟩) (k + 1) (k + 1))).run Tryd.prog w = .ok (.string ⟨(ds.map Nat.toUInt8).toArray⟩) w := by
  have hr := run_convert_bytes_arg w 25 5 Tryd.underlying25 Tryd.underlying5 b i (k + 1) (k + 1) (ds.map fun n : Nat => (n : Int)) (by simp [hd]) (fun j hj => by
    have hj2 : j < ds.length := by omega
    obtain ⟨A, hA⟩ : ∃ A, A = arr (k + 1) ds := ⟨_, rfl⟩
    have := arr_get (k + 1) ds (by omega) j ds[j] (List.getElem?_eq_getElem hj2)
    rw [← hA] at this hh
    have e : 65 - (k + 1) + j = i + j := by omega
    rw [e] at this
    have e2 : (ds.map fun n : Nat => (n : Int)).getD j 0 = (ds[j] : Int) := by
      rw [List.getD_eq_getElem?_getD, List.getElem?_map, List.getElem?_eq_getElem hj2]
      simp
    rw [e2, ← this]
    exact (Lib.cell_of_heap hh _).trans (List.getElem?_toArray ..)) 9 Tryd.underlying9
  have e : (ds.map fun n : Nat => (n : Int)).map (fun n : Int => UInt8.ofNat n.toNat) = ds.map Nat.toUInt8 := by
    rw [List.map_map]
    apply List.map_congr_left
    intro x _
    simp
  rw [hr]
  unfold strOfNums
  rw [e]

/-- What formatBits gives: the digits of u, at least one. -/
def HexPost (u : Nat) (w : World) (e : Ending) (w' : World) : Prop :=
  ∃ j, 1 ≤ j ∧ j ≤ 4 ∧ u < 16 ^ j ∧ e = .returned (.tuple #[.slice none 0 0, .string ⟨((dsOf u j).map Nat.toUInt8).toArray⟩]) ∧ Below w.heap.size w w'

set_option maxRecDepth 100000 in
set_option maxHeartbeats 1000000 in
theorem bits_16 (u : Nat) (hu : u < 65536) (w : World) (hT : Lt w) :
    Calls Tryd.prog 97 #[.slice none 0 0, .int .u64 (u : Nat), .int .i64 16, .bool false, .bool false] w (HexPost u w) := by
  go_enter Tryd.func97, Tryd.ntmps97
  go_wp2_with (first | (go_at_call 101; refine (pow2_16 _).mono ?_; rintro e w' ⟨rfl, rfl⟩) | (go_at_call 102; refine (tz_16 _ (hT.below ((Below.refl _ _).alloc (Nat.le_refl _) _))).mono ?_; rintro e w' ⟨rfl, rfl⟩))
  go_loopw [1, 13] (fun uv iv wr => HInv u w.heap.size w uv iv wr) (fun uv _ _ => (intOf uv).toNat)
  case atStart =>
    refine ⟨0, u, 64, rfl, by omega, by simp, rfl, rfl, ?_, (Below.refl _ _).alloc (Nat.le_refl _) _⟩
    rw [heap_alloc_new]
    rfl
  case round =>
    obtain ⟨k, q, i, hki, hk, hq, rfl, rfl, hh, hbel⟩ := hrel
    have hlen := dsOf_len u k
    have hq6 : q < 65536 := by rw [← hq]; exact Nat.lt_of_le_of_lt (Nat.div_le_self _ _) hu
    obtain ⟨d, hd⟩ : ∃ d, q % 16 = d := ⟨_, rfl⟩
    have hd16 : d < 16 := by omega
    have hand : bits .and .u64 (q : Int) 15 = (d : Int) := by rw [and15 q hq6, hd]
    have hidx := fun w => idx_hex d hd16 w
    have hS := store_arr (d := hexd d) (by omega) hlen hh (Nat.le_refl _) hbel
    have hfz : wr.frozen? ⟨w.heap.size, 64 - k, none⟩ = false := Lib.frozen_of_heap hh _
    have hi : 64 - k = i := by omega
    rw [hi] at hS hfz
    have hi61 : 61 ≤ i := by omega
    have hi64 : i ≤ 64 := by omega
    have hcell : ∃ v, wr.cell? ⟨w.heap.size, i, none⟩ = some v := by
      have hl := arr_len k (dsOf u k) (by omega) hlen
      refine ⟨(arr k (dsOf u k))[i]'(by omega), ?_⟩
      rw [Lib.cell_of_heap hh]
      simp
    obtain ⟨v, hcell⟩ := hcell
    by_cases hge : 16 ≤ q
    · have hge2 : (16 : Int) ≤ (q : Int) := by omega
      have HKI := Lib.hid hki
      clear hki hi
      have HS := Lib.hid hS
      have HQ := Lib.hid hq
      have HD := Lib.hid hd
      clear hS hq hd hh hlen
      go_wp2
      go_roundw
      case rel =>
        have hk2 := hinv_bd hu hk HQ.out hge
        refine ⟨k + 1, q / 16, i - 1, by have := HKI.out; omega, hk2, by rw [← quo_step, HQ.out], ?_, ?_, ?_, HS.out.2⟩
        · go_num
        · go_num
        · have := HS.out.1
          rw [← HD.out, ← HQ.out] at this
          rw [← HD.out, ← HQ.out]
          exact this
      case measure => simp [intOf]; omega
    · have hlt2 : (q : Int) < 16 := by omega
      have hge2 : ¬ (16 : Int) ≤ (q : Int) := by omega
      have hqd : q = d := by omega
      subst hqd
      have HS := Lib.hid hS
      have HQ := Lib.hid hq
      have HD := Lib.hid hd
      have hhs := hS.1
      have hdq : hexd q :: dsOf u k = dsOf u (k + 1) := by
        show _ = hexd (u / 16 ^ k % 16) :: dsOf u k
        rw [hq, hd]
      rw [hdq] at hhs
      have hsl := fun w => slice_arr (k := k) (i := i) (b := w.heap.size) (by omega) w
      have hcv := conv_arr (k := k) (i := i) (b := w.heap.size) (by omega) (dsOf u (k + 1)) (dsOf_len u _) (fun x hx => by have := dsOf_lt u _ x hx; omega) _ hhs
      have hlast : u < 16 ^ (k + 1) := by
        have h1 : u / 16 ^ k < 16 := by omega
        rw [Nat.pow_succ, Nat.mul_comm]
        exact (Nat.div_lt_iff_lt_mul (Nat.pow_pos (by decide))).1 h1
      have HL := Lib.hid hlast
      have hsl2 := slice_arr w.heap.size i k hki
      clear hS hq hd hh hlen hand hdq hhs hlast hsl hki hi
      go_wp2
      go_ret2
      exact ⟨k + 1, by omega, by omega, HL.out, rfl, HS.out.2⟩

/-- A call that gives the digits of u in base 16. -/
def HexP (u : Nat) (w : World) (e : Ending) (w' : World) : Prop :=
  ∃ j, 1 ≤ j ∧ j ≤ 4 ∧ u < 16 ^ j ∧ e = .returned (.string ⟨((dsOf u j).map Nat.toUInt8).toArray⟩) ∧ Below w.heap.size w w'
end Go.Proofs.YtlboaldikgonoaaDoor.Vals
