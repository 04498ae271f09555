/-
  LexNames.
-/
import Derived.Test.YtlboaldikgonoaaDoorLxStr
namespace Go.Proofs.YtlboaldikgonoaaDoor.Lx
open Go Go.RowKit Go.Proofs.YtlboaldikgonoaaDoor.Uni
set_option linter.unusedVariables false
set_option linter.unusedSimpArgs false

set_option maxRecDepth 100000 in
set_option maxHeartbeats 2000000 in
theorem names_long (s : ByteArray) (w : World) (hF : Fa w) (h7 : 7 ≤ w.heap.size) (hz : 100 < s.size) : Calls Tryd.prog 8 #[.string s] w fun e w' => e = .returned (.bool true) ∧ Below w.heap.size w w' := by
  have hal := alive_any w hF h7
  have HF := Lib.hid hF
  clear hF
  have hi : (100 : Int) < s.size := by omega
  clear hz
  go_enter Tryd.func8, Tryd.ntmps8
  go_wp2_with (go_at_call 9; refine hal.mono ?_; rintro e w1 ⟨rfl, hb1⟩; have hF1 := HF.out.below hb1; have h71 := Nat.le_trans h7 hb1.size)
  go_ret
  exact ⟨rfl, hb1⟩

/-- Named, at a text of which one knows what it says. -/
def NamedIs (s : ByteArray) (b : Bool) : Prop := ∀ w, Calls Tryd.prog 17 #[.string s] w fun e w' => e = .returned (.bool b) ∧ w = w'
set_option maxRecDepth 100000 in
set_option maxHeartbeats 2000000 in
theorem names_not (s : ByteArray) (w : World) (hF : Fa w) (h7 : 7 ≤ w.heap.size) (hz : s.size ≤ 100) (hnm : NamedIs s false) : Calls Tryd.prog 8 #[.string s] w fun e w' => e = .returned (.bool true) ∧ Below w.heap.size w w' := by
  have hal := alive_any w hF h7
  have HF := Lib.hid hF
  clear hF
  have hi : (s.size : Int) ≤ 100 := by omega
  clear hz
  go_enter Tryd.func8, Tryd.ntmps8
  go_wp2_with (first | (go_at_call 9; refine hal.mono ?_; rintro e w1 ⟨rfl, hb1⟩; have hF1 := HF.out.below hb1; have h71 := Nat.le_trans h7 hb1.size) | (go_at_call 17; refine (hnm _).mono ?_; rintro e w2 ⟨rfl, rfl⟩))
  go_ret
  exact ⟨rfl, hb1⟩

set_option maxRecDepth 100000 in
set_option maxHeartbeats 2000000 in
theorem names_two (s : ByteArray) (w : World) (hF : Fa w) (h7 : 7 ≤ w.heap.size) (hz : s.size ≤ 100) (hnm : NamedIs s true) (h0 : 0 < s.size) (hn : NamedTo s s.size) (hk : wordF s.toList = 2) : Calls Tryd.prog 8 #[.string s] w fun e w' => e = .returned (.bool true) ∧ Below w.heap.size w w' := by
  have hal := alive_any w hF h7
  have HF := Lib.hid hF
  clear hF
  have hi : (s.size : Int) ≤ 100 := by omega
  have hlex : lexT s = (2, 0, []) := by
    rw [lex_name (by omega) h0 hn, if_pos (by rw [← ByteArray.toList_eq]; exact hk)]
  have htk := fun w hF h7 => toks_str s w hF h7 (by omega)
  rw [hlex] at htk
  have hrw := fun w => rword_any s w
  rw [hk] at hrw
  have hcv := fun w : World => Lib.run_convert_string_bytes (P := Tryd.prog) w 9 25 5 s Tryd.underlying9 Tryd.underlying25 Tryd.underlying5
  clear hz h0 hn hlex
  go_enter Tryd.func8, Tryd.ntmps8
  go_wp2_with (first | (go_at_call 9; refine hal.mono ?_; rintro e w1 ⟨rfl, hb1⟩; have hF1 := HF.out.below hb1; have h71 := Nat.le_trans h7 hb1.size) | (go_at_call 17; refine (hnm _).mono ?_; rintro e w2 ⟨rfl, rfl⟩) | (go_at_call 12; refine (htk _ hF1 h71).mono ?_; rintro e w3 ⟨v, rfl, hown, hb3⟩; skip) | (go_at_call 11; refine (hrw _).mono ?_; rintro e w4 ⟨rfl, hb4⟩; skip) | (go_at_call 13; refine (num_any _ _).mono ?_; rintro e w5 ⟨rfl, rfl⟩))
  go_ret
  exact ⟨rfl, bnext (bnext hb1 hb3) hb4⟩

set_option maxRecDepth 100000 in
set_option maxHeartbeats 2000000 in
theorem names_one (s : ByteArray) (w : World) (hF : Fa w) (h7 : 7 ≤ w.heap.size) (hz : s.size ≤ 100) (hnm : NamedIs s true) (h0 : 0 < s.size) (hn : NamedTo s s.size) (k : Nat) (hk : wordF s.toList = k) (hk2 : k ≤ 1) : Calls Tryd.prog 8 #[.string s] w fun e w' => e = .returned (.bool true) ∧ Below w.heap.size w w' := by
  have hal := alive_any w hF h7
  have HF := Lib.hid hF
  clear hF
  have hi : (s.size : Int) ≤ 100 := by omega
  have hlex : lexT s = (0, 0, [⟨((1 + k : Nat) : Int), 0, 0, s⟩, ⟨0, s.size, 0, ⟨#[]⟩⟩]) := by
    rw [lex_name (by omega) h0 hn, if_neg (by rw [← ByteArray.toList_eq, hk]; omega), ← ByteArray.toList_eq, hk]
    rcases (by omega : k = 0 ∨ k = 1) with rfl | rfl <;> rfl
  have htk := fun w hF h7 => toks_str s w hF h7 (by omega)
  rw [hlex] at htk
  have hrw := fun w => rword_any s w
  rw [hk] at hrw
  have hki : (k : Int) ≤ 1 := by omega
  have hkn : ((k : Int) == 2) = false := by simp; omega
  have hcv := fun w : World => Lib.run_convert_string_bytes (P := Tryd.prog) w 9 25 5 s Tryd.underlying9 Tryd.underlying25 Tryd.underlying5
  clear hz h0 hn hlex hk hk2
  go_enter Tryd.func8, Tryd.ntmps8
  go_wp2_with (first | (go_at_call 9; refine hal.mono ?_; rintro e w1 ⟨rfl, hb1⟩; have hF1 := HF.out.below hb1; have h71 := Nat.le_trans h7 hb1.size) | (go_at_call 17; refine (hnm _).mono ?_; rintro e w2 ⟨rfl, rfl⟩) | (go_at_call 12; refine (htk _ hF1 h71).mono ?_; rintro e w3 ⟨v, rfl, hown, hb3⟩; obtain ⟨gg, cp, rfl, -, q0, q1, q2, q3⟩ := tok_at hown (k := 0) (t := ⟨((1 + k : Nat) : Int), 0, 0, s⟩) rfl) | (go_at_call 11; refine (hrw _).mono ?_; rintro e w4 ⟨rfl, hb4⟩; have q0b := cell_keep q0 (fun hl => hb4.block _ hl); have q3b := cell_keep q3 (fun hl => hb4.block _ hl)) | (go_at_call 13; refine (num_any _ _).mono ?_; rintro e w5 ⟨rfl, rfl⟩))
  go_ret
  exact ⟨by simp; try omega, bnext (bnext hb1 hb3) hb4⟩

theorem lawNames_walk (s : ByteArray) (w : World) (hF : Fa w) (h7 : 7 ≤ w.heap.size) : Calls Tryd.prog 8 #[.string s] w fun e w' => e = .returned (.bool true) ∧ Below w.heap.size w w' := by
  by_cases hz : 100 < s.size
  · exact names_long s w hF h7 hz
  · have hnm := fun w => named_any s w (by omega)
    obtain ⟨b, hb, hprop⟩ : ∃ b, NamedIs s b ∧ (b = true → 0 < s.size ∧ NamedTo s s.size) := by
      by_cases hp : 0 < s.size ∧ NamedTo s s.size
      · refine ⟨true, fun w => (hnm w).mono ?_, fun _ => hp⟩
        rintro e w' ⟨⟨b, rfl, hb⟩, rfl⟩
        rw [hb.2 hp]
        exact ⟨rfl, rfl⟩
      · refine ⟨false, fun w => (hnm w).mono ?_, fun h => by cases h⟩
        rintro e w' ⟨⟨b, rfl, hb⟩, rfl⟩
        cases b with
        | false => exact ⟨rfl, rfl⟩
        | true => exact absurd (hb.1 rfl) hp
    cases b with
    | false => exact names_not s w hF h7 (by omega) hb
    | true =>
      obtain ⟨h0, hn⟩ := hprop rfl
      by_cases hk : wordF s.toList = 2
      · exact names_two s w hF h7 (by omega) hb h0 hn hk
      · exact names_one s w hF h7 (by omega) hb h0 hn _ rfl (by
          have : wordF s.toList ≤ 2 := by unfold wordF; split <;> (try split) <;> omega
          omega)
end Go.Proofs.YtlboaldikgonoaaDoor.Lx
