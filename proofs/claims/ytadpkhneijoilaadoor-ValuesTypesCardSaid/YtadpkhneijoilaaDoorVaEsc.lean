/-
  values.writeEscape.
-/
import Derived.Test.YtadpkhneijoilaaDoorVaHex
import Derived.Test.YtadpkhneijoilaaDoorUnEnc
namespace Go.Proofs.YtadpkhneijoilaaDoor.Vals
open Go.RowKit Go.Proofs.YtadpkhneijoilaaDoor.Uni
set_option linter.unusedVariables false

theorem own_keep {w w' : World} {base e size n : Nat} {v : Value} {xs : List Value} (h : w.ownsRow base e size v n xs) (hb : Below w.heap.size w w') : w'.ownsRow base e size v n xs := by
  refine ⟨h.1, ?_⟩
  rcases h.2 with hn | ⟨g, cap, cur, rfl, hbg, hg, rest⟩
  · exact .inl hn
  · exact .inr ⟨g, cap, cur, rfl, hbg, (hb.block g (lt_of_block hg)).trans hg, rest⟩
theorem bd_keep {w w' : World} {base b : Nat} {bs : List Value} (h : Bd base b bs w) (hb : Below w.heap.size w w') : Bd base b bs w' := by
  obtain ⟨hB, v, hbk, hown, hne⟩ := h
  exact ⟨hB, v, (hb.block b (lt_of_block hbk)).trans hbk, own_keep hown hb, hne⟩

/-- A unit's escape: a backslash, the letter u and four digits. -/
def escL (u : Nat) : List UInt8 := [92, 117] ++ (dsOf u 4).map Nat.toUInt8
theorem strCells_list (l : List UInt8) : Lib.strCells ⟨l.toArray⟩ = Lib.byteCells l := rfl

set_option maxRecDepth 100000 in
set_option maxHeartbeats 1000000 in
theorem writeEscape_any (base b : Nat) (l : List UInt8) (u : Nat) (w : World) (hu : u < 65536) (hT : Lt w) (hI : Bd base b (Lib.byteCells l) w) (hl : l.length ≤ 100000000) (hb : base ≤ w.heap.size) :
    Calls Tryd.prog 57 #[.pointer (some ⟨b, 0, none⟩), .int .u16 (u : Nat)] w fun e w' => e = .returned (.tuple #[]) ∧ Bd base b (Lib.byteCells (l ++ escL u)) w' ∧ Below base w w' ∧ KeepW b w w' := by
  have hl4 : (Lib.byteCells l).length ≤ 100000000 := by rw [Lib.byteCells_length]; omega
  have hui : (u : Int) ≤ 65535 := by omega
  go_enter Tryd.func57, Tryd.ntmps57
  go_wp2_with (go_at_call 73; refine (fmt_16 u hu _ hT).mono ?_)
  rintro e w1 ⟨j, h1, h2, h3, rfl, hb1⟩
  have hI1 := bd_keep hI hb1
  have hs1 := Nat.le_trans hb hb1.size
  have hbel1 : Below base w w1 := hb1.mono hb
  have hk1 : KeepW b w w1 := KeepW.of_below hb1
  have hlen : ((dsOf u j).map Nat.toUInt8).length = j := by simp [dsOf_len]
  have hpad := dsOf_pad u j h3 (4 - j)
  have H3 := Lib.hid hpad
  obtain ⟨z, hz⟩ : ∃ z : ByteArray, z = ⟨((dsOf u j).map Nat.toUInt8).toArray⟩ := ⟨_, rfl⟩
  have hzs : z.size = j := by rw [hz]; exact hlen
  have hzc : Lib.strCells z = Lib.byteCells ((dsOf u j).map Nat.toUInt8) := by rw [hz]; rfl
  have hfin : ∀ c : List UInt8, c.length = 4 - j → c = List.replicate (4 - j) 48 → Lib.byteCells (l ++ escL u) = Lib.byteCells l ++ Lib.byteCells [92, 117] ++ Lib.byteCells c ++ Lib.strCells z := by
    intro c _ hc
    have e4 : j + (4 - j) = 4 := by omega
    rw [e4] at hpad
    have : escL u = [92, 117] ++ c ++ (dsOf u j).map Nat.toUInt8 := by
      unfold escL
      rw [hpad, List.map_append, hc, List.append_assoc]
      congr 2
      simp
    rw [hzc, this]
    simp [Lib.byteCells]
  rw [← hz]
  have HF := Lib.hid hfin
  clear h3 hpad hI hb1 hz hzc hlen hfin H3
  rcases (by omega : j = 1 ∨ j = 2 ∨ j = 3 ∨ j = 4) with rfl | rfl | rfl | rfl
  · go_wp2_with (go_at_call 74; refine (writeString_keep base b _ _ w1 hI1 (by omega) (by decide) hs1).mono ?_)
    rintro e w2 ⟨rfl, hI2, hbel2, hk2⟩
    have hs2 := Nat.le_trans hs1 hbel2.size
    have l2 : (Lib.byteCells l ++ Lib.strCells ⟨#[92, 117]⟩).length ≤ 200000000 := by rw [List.length_append, Lib.strCells_length]; show _ + 2 ≤ _; omega
    go_wp2_with (go_at_call 74; refine (writeString_keep base b _ _ w2 hI2 (by omega) (by decide) hs2).mono ?_)
    rintro e w3 ⟨rfl, hI3, hbel3, hk3⟩
    have hs3 := Nat.le_trans hs2 hbel3.size
    have l3 : (Lib.byteCells l ++ Lib.strCells ⟨#[92, 117]⟩ ++ Lib.strCells ((⟨#[48, 48, 48, 48]⟩ : ByteArray).extract 1 4)).length ≤ 300000000 := by
      have hc : ((⟨#[48, 48, 48, 48]⟩ : ByteArray).extract 1 4).size ≤ 4 := by decide
      rw [List.length_append, Lib.strCells_length]
      omega
    go_wp2_with (go_at_call 74; refine (writeString_keep base b _ z w3 hI3 (by omega) (by omega) hs3).mono ?_)
    rintro e w4 ⟨rfl, hI4, hbel4, hk4⟩
    go_wp2
    go_end0
    refine ⟨rfl, ?_, ((hbel1.trans hbel2).trans hbel3).trans hbel4, ((hk1.trans hk2).trans hk3).trans hk4⟩
    rw [HF.out [48, 48, 48] rfl rfl]
    exact hI4
  · go_wp2_with (go_at_call 74; refine (writeString_keep base b _ _ w1 hI1 (by omega) (by decide) hs1).mono ?_)
    rintro e w2 ⟨rfl, hI2, hbel2, hk2⟩
    have hs2 := Nat.le_trans hs1 hbel2.size
    have l2 : (Lib.byteCells l ++ Lib.strCells ⟨#[92, 117]⟩).length ≤ 200000000 := by rw [List.length_append, Lib.strCells_length]; show _ + 2 ≤ _; omega
    go_wp2_with (go_at_call 74; refine (writeString_keep base b _ _ w2 hI2 (by omega) (by decide) hs2).mono ?_)
    rintro e w3 ⟨rfl, hI3, hbel3, hk3⟩
    have hs3 := Nat.le_trans hs2 hbel3.size
    have l3 : (Lib.byteCells l ++ Lib.strCells ⟨#[92, 117]⟩ ++ Lib.strCells ((⟨#[48, 48, 48, 48]⟩ : ByteArray).extract 2 4)).length ≤ 300000000 := by
      have hc : ((⟨#[48, 48, 48, 48]⟩ : ByteArray).extract 2 4).size ≤ 4 := by decide
      rw [List.length_append, Lib.strCells_length]
      omega
    go_wp2_with (go_at_call 74; refine (writeString_keep base b _ z w3 hI3 (by omega) (by omega) hs3).mono ?_)
    rintro e w4 ⟨rfl, hI4, hbel4, hk4⟩
    go_wp2
    go_end0
    refine ⟨rfl, ?_, ((hbel1.trans hbel2).trans hbel3).trans hbel4, ((hk1.trans hk2).trans hk3).trans hk4⟩
    rw [HF.out [48, 48] rfl rfl]
    exact hI4
  · go_wp2_with (go_at_call 74; refine (writeString_keep base b _ _ w1 hI1 (by omega) (by decide) hs1).mono ?_)
    rintro e w2 ⟨rfl, hI2, hbel2, hk2⟩
    have hs2 := Nat.le_trans hs1 hbel2.size
    have l2 : (Lib.byteCells l ++ Lib.strCells ⟨#[92, 117]⟩).length ≤ 200000000 := by rw [List.length_append, Lib.strCells_length]; show _ + 2 ≤ _; omega
    go_wp2_with (go_at_call 74; refine (writeString_keep base b _ _ w2 hI2 (by omega) (by decide) hs2).mono ?_)
    rintro e w3 ⟨rfl, hI3, hbel3, hk3⟩
    have hs3 := Nat.le_trans hs2 hbel3.size
    have l3 : (Lib.byteCells l ++ Lib.strCells ⟨#[92, 117]⟩ ++ Lib.strCells ((⟨#[48, 48, 48, 48]⟩ : ByteArray).extract 3 4)).length ≤ 300000000 := by
      have hc : ((⟨#[48, 48, 48, 48]⟩ : ByteArray).extract 3 4).size ≤ 4 := by decide
      rw [List.length_append, Lib.strCells_length]
      omega
    go_wp2_with (go_at_call 74; refine (writeString_keep base b _ z w3 hI3 (by omega) (by omega) hs3).mono ?_)
    rintro e w4 ⟨rfl, hI4, hbel4, hk4⟩
    go_wp2
    go_end0
    refine ⟨rfl, ?_, ((hbel1.trans hbel2).trans hbel3).trans hbel4, ((hk1.trans hk2).trans hk3).trans hk4⟩
    rw [HF.out [48] rfl rfl]
    exact hI4
  · go_wp2_with (go_at_call 74; refine (writeString_keep base b _ _ w1 hI1 (by omega) (by decide) hs1).mono ?_)
    rintro e w2 ⟨rfl, hI2, hbel2, hk2⟩
    have hs2 := Nat.le_trans hs1 hbel2.size
    have l2 : (Lib.byteCells l ++ Lib.strCells ⟨#[92, 117]⟩).length ≤ 200000000 := by rw [List.length_append, Lib.strCells_length]; show _ + 2 ≤ _; omega
    go_wp2_with (go_at_call 74; refine (writeString_keep base b _ _ w2 hI2 (by omega) (by decide) hs2).mono ?_)
    rintro e w3 ⟨rfl, hI3, hbel3, hk3⟩
    have hs3 := Nat.le_trans hs2 hbel3.size
    have l3 : (Lib.byteCells l ++ Lib.strCells ⟨#[92, 117]⟩ ++ Lib.strCells ByteArray.empty).length ≤ 300000000 := by
      have hc : ByteArray.empty.size ≤ 4 := by decide
      rw [List.length_append, Lib.strCells_length]
      omega
    go_wp2_with (go_at_call 74; refine (writeString_keep base b _ z w3 hI3 (by omega) (by omega) hs3).mono ?_)
    rintro e w4 ⟨rfl, hI4, hbel4, hk4⟩
    go_wp2
    go_end0
    refine ⟨rfl, ?_, ((hbel1.trans hbel2).trans hbel3).trans hbel4, ((hk1.trans hk2).trans hk3).trans hk4⟩
    rw [HF.out [] rfl rfl]
    exact hI4
end Go.Proofs.YtadpkhneijoilaaDoor.Vals
