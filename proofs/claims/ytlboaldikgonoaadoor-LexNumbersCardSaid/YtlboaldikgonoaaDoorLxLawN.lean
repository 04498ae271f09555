/-
  LexNumbers.
-/
import Derived.Test.YtlboaldikgonoaaDoorLxStr
namespace Go.Proofs.YtlboaldikgonoaaDoor.Lx
open Go Go.RowKit Go.Proofs.YtlboaldikgonoaaDoor.Uni
set_option linter.unusedVariables false
set_option linter.unusedSimpArgs false

set_option maxRecDepth 100000 in
set_option maxHeartbeats 2000000 in
theorem num_neg (n : Int) (z : Bool) (w : World) (hF : Fa w) (h7 : 7 ≤ w.heap.size) (h0 : -9223372036854775808 ≤ n) (h1 : n ≤ 9223372036854775807) (hn : n < 0) : Calls Tryd.prog 7 #[.int .i64 n, .bool z] w fun e w' => e = .returned (.bool true) ∧ Below w.heap.size w w' := by
  have hal := alive_any w hF h7
  have HF := Lib.hid hF
  clear hF
  go_enter Tryd.func7, Tryd.ntmps7
  go_wp2_with (go_at_call 9; refine hal.mono ?_; rintro e w1 ⟨rfl, hb1⟩; have hF1 := HF.out.below hb1; have h71 := Nat.le_trans h7 hb1.size)
  go_ret
  exact ⟨rfl, hb1⟩

theorem itoa_bd (n : Int) (h0 : 0 ≤ n) (h1 : n ≤ 9223372036854775807) : 0 < (Lib.itoa n).length ∧ (Lib.itoa n).length ≤ 19 ∧ ∀ c ∈ Lib.itoa n, 48 ≤ c.toNat ∧ c.toNat ≤ 57 := by
  obtain ⟨u, rfl⟩ : ∃ u : Nat, n = u := ⟨n.toNat, by omega⟩
  rw [Lib.itoa_nonneg]
  have h2 := Nums.dec_size u (by omega)
  have h3 : (⟨(Lib.decDigits u).toArray⟩ : ByteArray).size = (Lib.decDigits u).length := bs_size _
  exact ⟨List.length_pos_iff.2 (Nums.dec_ne u), by omega, Nums.dec_digits u⟩
set_option maxRecDepth 100000 in
set_option maxHeartbeats 2000000 in
theorem num_zero (n : Int) (z : Bool) (w : World) (hF : Fa w) (h7 : 7 ≤ w.heap.size) (h0 : -9223372036854775808 ≤ n) (h1 : n ≤ 9223372036854775807) (hn : 0 ≤ n) (hz : z = true) : Calls Tryd.prog 7 #[.int .i64 n, .bool z] w fun e w' => e = .returned (.bool true) ∧ Below w.heap.size w w' := by
  have hal := alive_any w hF h7
  have HF := Lib.hid hF
  clear hF
  subst hz
  obtain ⟨b0, b1, b2⟩ := itoa_bd n hn h1
  obtain ⟨s, hs⟩ : ∃ s, bs (Lib.itoa n) = s := ⟨_, rfl⟩
  have hdec := fun w => Nums.rdec_any n h0 h1 w
  have e0 : (⟨(Lib.itoa n).toArray⟩ : ByteArray) = s := hs
  rw [e0] at hdec
  obtain ⟨s2, hs2⟩ : ∃ s2, bs (48 :: Lib.itoa n) = s2 := ⟨_, rfl⟩
  have hadd : (⟨#[48]⟩ : ByteArray) ++ s = s2 := by
    rw [← hs, ← hs2]
    apply ByteArray.ext
    simp [bs]
  have hss : s.size ≤ 19 := by rw [← hs, bs_size]; exact b1
  have hsum : (⟨#[48]⟩ : ByteArray).size + s.size ≤ 9223372036854775807 := by have : (⟨#[48]⟩ : ByteArray).size = 1 := rfl; omega
  have hsum2 : 1 + s.size ≤ 9223372036854775807 := by omega
  have hz2 : s2.size ≤ 20 := by rw [← hs2, bs_size]; simp; omega
  have hlex : lexT s2 = (2, 0, []) := by
    have h := lex_digits (s := s2) (by omega) (by rw [← hs2, bs_size]; simp) (by
      rw [← hs2, bs_list]
      intro c hc
      rcases List.mem_cons.1 hc with rfl | hc
      · decide
      · exact b2 c hc)
    rw [← hs2, bs_list, read_zero n hn] at h
    rw [← hs2]
    exact h
  have htk := fun w hF h7 => toks_str s2 w hF h7 (by omega)
  rw [hlex] at htk
  have hcv := fun w : World => Lib.run_convert_string_bytes (P := Tryd.prog) w 9 25 5 s2 Tryd.underlying9 Tryd.underlying25 Tryd.underlying5
  clear hs hs2 b0 b1 b2 e0 hlex hss
  go_enter Tryd.func7, Tryd.ntmps7
  go_wp2_with (first | (go_at_call 9; refine hal.mono ?_; rintro e w1 ⟨rfl, hb1⟩; have hF1 := HF.out.below hb1; have h71 := Nat.le_trans h7 hb1.size) | (go_at_call 16; refine (hdec _).mono ?_; rintro e w2 ⟨rfl, rfl⟩) | (go_at_call 12; refine (htk _ hF1 h71).mono ?_; rintro e w3 ⟨v, rfl, hown, hb3⟩; obtain ⟨ao, cp, rfl⟩ := own_shapeK hown) | (go_at_call 13; refine (num_any _ _).mono ?_; rintro e w5 ⟨rfl, rfl⟩))
  go_ret
  exact ⟨rfl, bnext hb1 hb3⟩

set_option maxRecDepth 100000 in
set_option maxHeartbeats 2000000 in
theorem num_big (n : Int) (z : Bool) (w : World) (hF : Fa w) (h7 : 7 ≤ w.heap.size) (h0 : -9223372036854775808 ≤ n) (h1 : n ≤ 9223372036854775807) (hn : 0 ≤ n) (hz : z = false) (hbig : 9007199254740991 < n) : Calls Tryd.prog 7 #[.int .i64 n, .bool z] w fun e w' => e = .returned (.bool true) ∧ Below w.heap.size w w' := by
  have hal := alive_any w hF h7
  have HF := Lib.hid hF
  clear hF
  subst hz
  obtain ⟨b0, b1, b2⟩ := itoa_bd n hn h1
  obtain ⟨s, hs⟩ : ∃ s, bs (Lib.itoa n) = s := ⟨_, rfl⟩
  have hdec := fun w => Nums.rdec_any n h0 h1 w
  have e0 : (⟨(Lib.itoa n).toArray⟩ : ByteArray) = s := hs
  rw [e0] at hdec
  have hz2 : s.size ≤ 19 := by rw [← hs, bs_size]; exact b1
  have hlex : lexT s = (2, 0, []) := by
    have h := lex_digits (s := s) (by omega) (by rw [← hs, bs_size]; exact b0) (by rw [← hs, bs_list]; exact b2)
    rw [← hs, bs_list, Nums.readF_itoa, Nums.sf_no (.inr hbig)] at h
    rw [← hs]
    exact h
  have hd : decide (9007199254740991 < n) = true := by simpa using hbig
  have htk := fun w hF h7 => toks_str s w hF h7 (by omega)
  rw [hlex] at htk
  have hcv := fun w : World => Lib.run_convert_string_bytes (P := Tryd.prog) w 9 25 5 s Tryd.underlying9 Tryd.underlying25 Tryd.underlying5
  clear hs b0 b1 b2 e0 hlex hbig
  go_enter Tryd.func7, Tryd.ntmps7
  go_wp2_with (first | (go_at_call 9; refine hal.mono ?_; rintro e w1 ⟨rfl, hb1⟩; have hF1 := HF.out.below hb1; have h71 := Nat.le_trans h7 hb1.size) | (go_at_call 16; refine (hdec _).mono ?_; rintro e w2 ⟨rfl, rfl⟩) | (go_at_call 12; refine (htk _ hF1 h71).mono ?_; rintro e w3 ⟨v, rfl, hown, hb3⟩; obtain ⟨ao, cp, rfl⟩ := own_shapeK hown) | (go_at_call 13; refine (num_any _ _).mono ?_; rintro e w5 ⟨rfl, rfl⟩))
  go_ret
  exact ⟨rfl, bnext hb1 hb3⟩

set_option maxRecDepth 100000 in
set_option maxHeartbeats 2000000 in
theorem num_good (n : Int) (z : Bool) (w : World) (hF : Fa w) (h7 : 7 ≤ w.heap.size) (h0 : -9223372036854775808 ≤ n) (h1 : n ≤ 9223372036854775807) (hn : 0 ≤ n) (hz : z = false) (hok : n ≤ 9007199254740991) : Calls Tryd.prog 7 #[.int .i64 n, .bool z] w fun e w' => e = .returned (.bool true) ∧ Below w.heap.size w w' := by
  have hal := alive_any w hF h7
  have HF := Lib.hid hF
  clear hF
  subst hz
  obtain ⟨b0, b1, b2⟩ := itoa_bd n hn h1
  obtain ⟨s, hs⟩ : ∃ s, bs (Lib.itoa n) = s := ⟨_, rfl⟩
  have hdec := fun w => Nums.rdec_any n h0 h1 w
  have e0 : (⟨(Lib.itoa n).toArray⟩ : ByteArray) = s := hs
  rw [e0] at hdec
  have hz2 : s.size ≤ 19 := by rw [← hs, bs_size]; exact b1
  have hlex : lexT s = (0, 0, [⟨3, 0, n, ⟨#[]⟩⟩, ⟨0, s.size, 0, ⟨#[]⟩⟩]) := by
    have h := lex_digits (s := s) (by omega) (by rw [← hs, bs_size]; exact b0) (by rw [← hs, bs_list]; exact b2)
    rw [show s.data.toList = Lib.itoa n by rw [← hs, bs_list], Nums.readF_itoa, Nums.sf_mk (by omega) hok] at h
    exact h
  have hd : decide (9007199254740991 < n) = false := by simp; omega
  have htk := fun w hF h7 => toks_str s w hF h7 (by omega)
  rw [hlex] at htk
  have hcv := fun w : World => Lib.run_convert_string_bytes (P := Tryd.prog) w 9 25 5 s Tryd.underlying9 Tryd.underlying25 Tryd.underlying5
  clear hs b0 b1 b2 e0 hlex hok
  go_enter Tryd.func7, Tryd.ntmps7
  go_wp2_with (first | (go_at_call 9; refine hal.mono ?_; rintro e w1 ⟨rfl, hb1⟩; have hF1 := HF.out.below hb1; have h71 := Nat.le_trans h7 hb1.size) | (go_at_call 16; refine (hdec _).mono ?_; rintro e w2 ⟨rfl, rfl⟩) | (go_at_call 12; refine (htk _ hF1 h71).mono ?_; rintro e w3 ⟨v, rfl, hown, hb3⟩; obtain ⟨gg, cp, rfl, -, q0, q1, q2, q3⟩ := tok_at hown (k := 0) (t := ⟨3, 0, n, ⟨#[]⟩⟩) rfl) | (go_at_call 13; refine (num_any _ _).mono ?_; rintro e w5 ⟨rfl, rfl⟩))
  go_ret
  exact ⟨by simp, bnext hb1 hb3⟩

theorem lawNumbers_walk (n : Int) (z : Bool) (w : World) (hF : Fa w) (h7 : 7 ≤ w.heap.size) (h0 : -9223372036854775808 ≤ n) (h1 : n ≤ 9223372036854775807) : Calls Tryd.prog 7 #[.int .i64 n, .bool z] w fun e w' => e = .returned (.bool true) ∧ Below w.heap.size w w' := by
  by_cases hn : n < 0
  · exact num_neg n z w hF h7 h0 h1 hn
  · cases hz : z with
    | true => exact num_zero n true w hF h7 h0 h1 (by omega) rfl
    | false =>
      by_cases hb : 9007199254740991 < n
      · exact num_big n false w hF h7 h0 h1 (by omega) rfl hb
      · exact num_good n false w hF h7 h0 h1 (by omega) rfl (by omega)
end Go.Proofs.YtlboaldikgonoaaDoor.Lx
