/-
  units.paired, units.writePoint and understudyref1.put.
-/
import Derived.Test.YthfgicdpbbpnjaaGreatUnBuild
import Derived.Test.YthfgicdpbbpnjaaGreatUnPairs
namespace Go.Proofs.YthfgicdpbbpnjaaGreat.Uni
open Go.RowKit
set_option linter.unusedVariables false

theorem paired_any (h l : Nat) (w : World) (hh : isHi h = true) (hl : isLo l = true) :
    Calls Tryz.prog 50 #[.int .i32 h, .int .i32 l] w fun e w' => e = .returned (.int .i32 ((65536 + (h - 55296) * 1024 + (l - 56320) : Nat) : Int)) ∧ w = w' := by
  have b1 := isHi_iff.1 hh
  have b2 := isLo_iff.1 hl
  have i1 : (55296 : Int) ≤ h := by omega
  have i2 : (h : Int) < 56320 := by omega
  have i3 : (56320 : Int) ≤ l := by omega
  have i4 : (l : Int) ≤ 57343 := by omega
  have e : ((65536 + (h - 55296) * 1024 + (l - 56320) : Nat) : Int) = 65536 + ((h : Int) - 55296) * 1024 + ((l : Int) - 56320) := by omega
  have E := Lib.hid e
  clear hh hl b1 b2 e
  go_enter Tryz.func50, Tryz.ntmps50
  go_wp2
  go_ret
  exact ⟨by rw [E.out]; rfl, rfl⟩

theorem enc_cells {c : Nat} (hc : c ≤ 1114111) : Lib.byteCells (enc c) = (encN c).map fun n : Nat => Value.int .u8 (n : Int) := by
  unfold enc Lib.byteCells
  rw [List.map_map]
  apply List.map_congr_left
  intro x hx
  have := encN_byte hc x hx
  simp
  omega

theorem enc_rune {c : Nat} (hc : c ≤ 1114111) (hs : ¬ (55296 ≤ c ∧ c ≤ 57343)) : Lib.runeCells (c : Int) = Lib.byteCells (enc c) := by
  rw [enc_cells hc]
  unfold Lib.runeCells
  by_cases h1 : c < 128
  · rw [Lib.encodeRuneZ_one (by omega) (by omega), encN_1 h1]; rfl
  · by_cases h2 : c < 2048
    · rw [Lib.encodeRuneZ_two (by omega) (by omega), encN_2 (by omega) h2]; simp
    · by_cases h3 : c < 65536
      · rw [Lib.encodeRuneZ_three (by omega), encN_3 (by omega) h3]; simp
      · rw [Lib.encodeRuneZ_four (by omega) (by omega), encN_4 (by omega)]; simp

def WrPost (base b : Nat) (l : List UInt8) (c : Nat) (w : World) (e : Ending) (w' : World) : Prop :=
  e = .returned (.tuple #[]) ∧ Bd base b (Lib.byteCells (l ++ enc c)) w' ∧ Below base w w'

theorem mask6i (x : Int) (h0 : 0 ≤ x) (h1 : x < 2147483648) : bits .and .i32 x 63 = x % 64 :=
  bits_mask .i32 31 (by decide) wraps_i32 6 (by decide) x h0 h1

theorem or128 (x : Int) (h0 : 0 ≤ x) (h1 : x ≤ 63) : bits .or .u8 128 x = 128 + x :=
  bits_join .u8 8 (by decide) wraps_u8 6 128 x (by omega) (by decide) (by decide) h0 (by omega) (by omega)

set_option maxRecDepth 100000 in
set_option maxHeartbeats 400000 in
theorem writePoint_sur (base b : Nat) (bs : List Value) (c : Nat) (w : World) (h1 : 55296 ≤ c) (h2 : c ≤ 57343) (hI : Bd base b bs w) (hl : bs.length ≤ 100000000) (hb : base ≤ w.heap.size) :
    Calls Tryz.prog 49 #[.pointer (some ⟨b, 0, none⟩), .int .i32 c] w fun e w' => e = .returned (.tuple #[]) ∧ Bd base b (bs ++ [.int .u8 237] ++ [.int .u8 (128 + (c : Int) / 64 % 64)] ++ [.int .u8 (128 + (c : Int) % 64)]) w' ∧ Below base w w' := by
  have i1 : (55296 : Int) ≤ c := by omega
  have i2 : (c : Int) ≤ 57343 := by omega
  have l1 : (bs ++ [Value.int .u8 237]).length ≤ 200000000 := by simp; omega
  have l2 : (bs ++ [Value.int .u8 237] ++ [Value.int .u8 (128 + (c : Int) / 64 % 64)]).length ≤ 300000000 := by simp; omega
  have L1 := Lib.hid l1
  have L2 := Lib.hid l2
  have hor : (isHi c = true ∧ isLo c = false) ∨ (isHi c = false ∧ isLo c = true) := by
    by_cases h : c < 56320
    · left
      refine ⟨isHi_iff.2 ⟨h1, h⟩, ?_⟩
      cases x : isLo c with
      | false => rfl
      | true => have := isLo_iff.1 x; omega
    · right
      refine ⟨?_, isLo_iff.2 ⟨by omega, h2⟩⟩
      cases x : isHi c with
      | false => rfl
      | true => have := isHi_iff.1 x; omega
  obtain ⟨x1, hx1⟩ : ∃ x1, x1 = (c : Int) / 64 % 64 := ⟨_, rfl⟩
  obtain ⟨x2, hx2⟩ : ∃ x2, x2 = (c : Int) % 64 := ⟨_, rfl⟩
  have q1 : bits .and .i32 ((c : Int) / 64) 63 = x1 := by rw [hx1]; exact mask6i _ (by omega) (by omega)
  have q2 : bits .and .i32 (c : Int) 63 = x2 := by rw [hx2]; exact mask6i _ (by omega) (by omega)
  have x1a : 0 ≤ x1 := by omega
  have x1b : x1 ≤ 63 := by omega
  have x2a : 0 ≤ x2 := by omega
  have x2b : x2 ≤ 63 := by omega
  have o1 := or128 x1 x1a x1b
  have o2 := or128 x2 x2a x2b
  rw [← hx1] at L2
  rw [← hx1, ← hx2]
  clear h1 h2 l1 l2 hx1 hx2
  rcases hor with ⟨hh, hlo⟩ | ⟨hh, hlo⟩
  all_goals
    go_enter Tryz.func49, Tryz.ntmps49
    go_wp2_with (first | (go_at_call 46; refine (isHigh_any _ _).mono ?_; rintro e w' ⟨rfl, rfl⟩) | (go_at_call 47; refine (isLow_any _ _).mono ?_; rintro e w' ⟨rfl, rfl⟩) | (go_at_call 61; refine (writeByte_any base b _ 237 w hI (by omega) hb).mono ?_))
    rintro e W1 ⟨rfl, hb1, bel1⟩
    have hs1 := Nat.le_trans hb bel1.size
    go_wp2_with (go_at_call 61; refine (writeByte_any base b _ (128 + x1) W1 hb1 (by have := L1.out; omega) hs1).mono ?_)
    rintro e W2 ⟨rfl, hb2, bel2⟩
    have hs2 := Nat.le_trans hs1 bel2.size
    go_wp2_with (go_at_call 61; refine (writeByte_any base b _ (128 + x2) W2 hb2 (by have := L2.out; omega) hs2).mono ?_)
    rintro e W3 ⟨rfl, hb3, bel3⟩
    go_wp2
    go_end0
    exact ⟨rfl, hb3, (bel1.trans bel2).trans bel3⟩

theorem writePoint_any (base b : Nat) (l : List UInt8) (c : Nat) (w : World) (hc : c ≤ 1114111) (hI : Bd base b (Lib.byteCells l) w) (hl : l.length ≤ 100000000) (hb : base ≤ w.heap.size) :
    Calls Tryz.prog 49 #[.pointer (some ⟨b, 0, none⟩), .int .i32 c] w (WrPost base b l c w) := by
  have hl4 : (Lib.byteCells l).length ≤ 100000000 := by rw [Lib.byteCells_length]; omega
  have hc0 : (0 : Int) ≤ c := by omega
  have hc1 : (c : Int) ≤ 1114111 := by omega
  by_cases hs : 55296 ≤ c ∧ c ≤ 57343
  · refine (writePoint_sur base b _ c w hs.1 hs.2 hI hl4 hb).mono ?_
    rintro e w' ⟨rfl, h, k⟩
    refine ⟨rfl, ?_, k⟩
    rw [Lib.byteCells_append, enc_cells hc, encN_3 (by omega) (by omega)]
    have e1 : 224 + c / 4096 = 237 := by omega
    rw [e1]
    simpa using h
  · have h1 : isHi c = false := by cases x : isHi c with
      | false => rfl
      | true => have := isHi_iff.1 x; omega
    have h2 : isLo c = false := by cases x : isLo c with
      | false => rfl
      | true => have := isLo_iff.1 x; omega
    have hr := enc_rune hc hs
    have HR := Lib.hid hr
    clear hr
    go_enter Tryz.func49, Tryz.ntmps49
    go_wp2_with (first | (go_at_call 46; refine (isHigh_any _ _).mono ?_; rintro e w' ⟨rfl, rfl⟩) | (go_at_call 47; refine (isLow_any _ _).mono ?_; rintro e w' ⟨rfl, rfl⟩) | (go_at_call 60; refine (writeRune_any base b _ c w hI hc0 hc1 (by omega) hb).mono ?_))
    rintro e W1 ⟨⟨v, rfl⟩, hb1, bel1⟩
    go_wp2
    go_end0
    refine ⟨rfl, ?_, bel1⟩
    rw [Lib.byteCells_append, ← HR.out]
    exact hb1
end Go.Proofs.YthfgicdpbbpnjaaGreat.Uni
