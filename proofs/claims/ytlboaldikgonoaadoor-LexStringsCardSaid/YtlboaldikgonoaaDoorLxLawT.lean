/-
  LexStrings.
-/
import Derived.Test.YtlboaldikgonoaaDoorLxStr
import Derived.Test.YtlboaldikgonoaaDoorVaRq
namespace Go.Proofs.YtlboaldikgonoaaDoor.Lx
open Go Go.RowKit Go.Proofs.YtlboaldikgonoaaDoor.Uni
set_option linter.unusedVariables false
set_option linter.unusedSimpArgs false

set_option maxRecDepth 100000 in
set_option maxHeartbeats 2000000 in
theorem strs_long (s : ByteArray) (w : World) (hF : Fa w) (h7 : 7 ≤ w.heap.size) (hz : 300 < s.size) : Calls Tryd.prog 6 #[.string s] w fun e w' => e = .returned (.bool true) ∧ Below w.heap.size w w' := by
  have hal := alive_any w hF h7
  have HF := Lib.hid hF
  clear hF
  have hi : (300 : Int) < s.size := by omega
  clear hz
  go_enter Tryd.func6, Tryd.ntmps6
  go_wp2_with (go_at_call 9; refine hal.mono ?_; rintro e w1 ⟨rfl, hb1⟩; have hF1 := HF.out.below hb1; have h71 := Nat.le_trans h7 hb1.size)
  go_ret
  exact ⟨rfl, hb1⟩

set_option maxRecDepth 100000 in
set_option maxHeartbeats 2000000 in
theorem strs_not (s : ByteArray) (w : World) (hF : Fa w) (h7 : 7 ≤ w.heap.size) (hz : s.size ≤ 300) (hp : (pts s).isSome = false) : Calls Tryd.prog 6 #[.string s] w fun e w' => e = .returned (.bool true) ∧ Below w.heap.size w w' := by
  have hal := alive_any w hF h7
  have HF := Lib.hid hF
  clear hF
  have hi : (s.size : Int) ≤ 300 := by omega
  have hrt := fun w => rightText_any s w (by omega)
  rw [hp] at hrt
  clear hz hp
  go_enter Tryd.func6, Tryd.ntmps6
  go_wp2_with (first | (go_at_call 9; refine hal.mono ?_; rintro e w1 ⟨rfl, hb1⟩; have hF1 := HF.out.below hb1; have h71 := Nat.le_trans h7 hb1.size) | (go_at_call 14; refine (hrt _).mono ?_; rintro e w2 ⟨rfl, hb2⟩; have hF2 := hF1.below hb2; have h72 := Nat.le_trans h71 hb2.size))
  go_ret
  exact ⟨rfl, bnext hb1 hb2⟩

set_option maxRecDepth 100000 in
set_option maxHeartbeats 2000000 in
theorem strs_yes (s : ByteArray) (w : World) (hF : Fa w) (h7 : 7 ≤ w.heap.size) (hz : s.size ≤ 300) (hp : (pts s).isSome = true) : Calls Tryd.prog 6 #[.string s] w fun e w' => e = .returned (.bool true) ∧ Below w.heap.size w w' := by
  have hal := alive_any w hF h7
  have HF := Lib.hid hF
  clear hF
  have hi : (s.size : Int) ≤ 300 := by omega
  have hrt := fun w => rightText_any s w (by omega)
  have hqu := fun w => Vals.rquote_any s w (by omega)
  have hlex := lex_quote hz hp
  have hqz : (bs (Vals.quoteL s)).size ≤ 4000 := by
    have h1 := Vals.qUs_len (units s)
    have h2 := units_le s
    rw [bs_size]
    unfold Vals.quoteL
    simp
    omega
  obtain ⟨q, hq⟩ : ∃ q, bs (Vals.quoteL s) = q := ⟨_, rfl⟩
  have hq2 : Vals.bs (Vals.quoteL s) = q := hq
  rw [hq2] at hqu
  rw [hq] at hlex hqz
  rw [hp] at hrt
  have htk := fun w hF h7 => toks_str q w hF h7 (by omega)
  rw [hlex] at htk
  have hcv := fun w : World => Lib.run_convert_string_bytes (P := Tryd.prog) w 9 25 5 q Tryd.underlying9 Tryd.underlying25 Tryd.underlying5
  clear hz hp hlex hq hq2
  go_enter Tryd.func6, Tryd.ntmps6
  go_wp2_with (first | (go_at_call 9; refine hal.mono ?_; rintro e w1 ⟨rfl, hb1⟩; have hF1 := HF.out.below hb1; have h71 := Nat.le_trans h7 hb1.size) | (go_at_call 14; refine (hrt _).mono ?_; rintro e w2 ⟨rfl, hb2⟩; have hF2 := hF1.below hb2; have h72 := Nat.le_trans h71 hb2.size) | (go_at_call 15; refine (hqu _).mono ?_; rintro e w2b ⟨rfl, hb2b⟩; have hF3 := hF2.below hb2b; have h73 := Nat.le_trans h72 hb2b.size) | (go_at_call 12; refine (htk _ hF3 h73).mono ?_; rintro e w3 ⟨v, rfl, hown, hb3⟩; obtain ⟨gg, cp, rfl, -, q0, q1, q2, q3⟩ := tok_at hown (k := 0) (t := ⟨4, 0, 0, s⟩) rfl; obtain ⟨gg2, cp2, e2, -, r0, r1, r2, r3⟩ := tok_at hown (k := 1) (t := ⟨0, q.size, 0, ⟨#[]⟩⟩) rfl; obtain ⟨rfl, rfl⟩ : gg = gg2 ∧ cp = cp2 := (by simpa using e2); clear e2 hown) | (go_at_call 13; refine (num_any _ _).mono ?_; rintro e w5 ⟨rfl, rfl⟩))
  go_ret
  exact ⟨by simp, bnext (bnext (bnext hb1 hb2) hb2b) hb3⟩

theorem lawStrings_walk (s : ByteArray) (w : World) (hF : Fa w) (h7 : 7 ≤ w.heap.size) : Calls Tryd.prog 6 #[.string s] w fun e w' => e = .returned (.bool true) ∧ Below w.heap.size w w' := by
  by_cases hz : 300 < s.size
  · exact strs_long s w hF h7 hz
  · cases hp : (pts s).isSome with
    | false => exact strs_not s w hF h7 (by omega) hp
    | true => exact strs_yes s w hF h7 (by omega) hp
end Go.Proofs.YtlboaldikgonoaaDoor.Lx
