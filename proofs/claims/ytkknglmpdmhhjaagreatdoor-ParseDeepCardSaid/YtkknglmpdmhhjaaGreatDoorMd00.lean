/-
  Texts of this seat in build order: NmDec, LxPure, PrLex.
-/
import Derived.Test.YtkknglmpdmhhjaaGreatDoorMg08
import Derived.KernelRfl
import Derived.Lib.ItoaMem
import Derived.Test.YtkknglmpdmhhjaaGreatDoorMg18
import Derived.Test.YtkknglmpdmhhjaaGreatDoorMg15
/-
  The reference's decimal text: it is the library's.
-/
namespace Go.Proofs.YtkknglmpdmhhjaaGreatDoor.Nums
open Go.RowKit
set_option linter.unusedVariables false

/-- One digit as a text. -/
def dgT (d : Nat) : ByteArray := ⟨#[UInt8.ofNat (48 + d)]⟩
theorem dg_piece (d : Nat) (h : d < 10) : (⟨#[48, 49, 50, 51, 52, 53, 54, 55, 56, 57]⟩ : ByteArray).extract d (d + 1) = dgT d := by
  match d, h with
  | 0, _ | 1, _ | 2, _ | 3, _ | 4, _ | 5, _ | 6, _ | 7, _ | 8, _ | 9, _ => rfl
theorem dg_slice (d : Nat) (h : d < 10) (w : World) : (Instr.slice 9 (.string ⟨#[48, 49, 50, 51, 52, 53, 54, 55, 56, 57]⟩) (some (.int .i64 (d : Int))) (some (.int .i64 ((d : Int) + 1))) none).run Tryz.prog w = .ok (.string (dgT d)) w := by
  rw [run_slice_string_if (h := Tryz.underlying9)]
  have hs : ((⟨#[48, 49, 50, 51, 52, 53, 54, 55, 56, 57]⟩ : ByteArray).size : Int) = 10 := rfl
  rw [hs, if_pos (by omega), if_pos (by omega), ← dg_piece d h]
  rfl

set_option maxHeartbeats 1000000 in
theorem rdec_small (u : Nat) (h : u < 10) (w : World) :
    Calls Tryz.prog 112 #[.int .i64 (u : Int)] w fun e w' => e = .returned (.string (dgT u)) ∧ w = w' := by
  have hm : (u : Int) % 10 = u := by omega
  have hd := fun w => dg_slice u h w
  go_enter Tryz.func112, Tryz.ntmps112
  go_wp2
  go_ret
  exact ⟨rfl, rfl⟩

theorem dg_size (r : Nat) : (dgT r).size = 1 := rfl
theorem minus_size : (⟨#[45]⟩ : ByteArray).size = 1 := rfl

set_option maxHeartbeats 1000000 in
theorem rdec_big (u q r : Nat) (h : 9 < u) (hu : u ≤ 9223372036854775807) (hr : r < 10) (hm : (u : Int) % 10 = r) (hq : (u : Int) / 10 = q) (s t : ByteArray)
    (hc : ∀ w, Calls Tryz.prog 112 #[.int .i64 (q : Int)] w fun e w' => e = .returned (.string s) ∧ w = w') (hz : s.size ≤ 100) (hst : s ++ dgT r = t) (w : World) :
    Calls Tryz.prog 112 #[.int .i64 (u : Int)] w fun e w' => e = .returned (.string t) ∧ w = w' := by
  have hd := fun w => dg_slice r hr w
  have h1 : s.size + (dgT r).size ≤ 9223372036854775807 := by rw [dg_size]; omega
  clear hz
  go_enter Tryz.func112, Tryz.ntmps112
  go_wp2_with (go_at_call 112; (with_reducible refine (hc _).mono ?_); rintro e w' ⟨rfl, rfl⟩)
  go_ret
  exact ⟨rfl, rfl⟩

theorem bytes_app (a b : List UInt8) : (⟨a.toArray⟩ : ByteArray) ++ ⟨b.toArray⟩ = ⟨(a ++ b).toArray⟩ := by
  apply ByteArray.ext
  simp
theorem dgT_eq (r : Nat) : dgT r = ⟨[UInt8.ofNat (48 + r)].toArray⟩ := rfl
theorem dec_size (u : Nat) (hu : u ≤ 9223372036854775808) : (⟨(Lib.decDigits u).toArray⟩ : ByteArray).size ≤ 19 := by
  show (Lib.decDigits u).toArray.size ≤ 19
  have := dec_len 18 u (by omega)
  simpa using this

theorem rdec_nonneg (u : Nat) : u ≤ 9223372036854775807 → ∀ w, Calls Tryz.prog 112 #[.int .i64 (u : Int)] w fun e w' => e = .returned (.string ⟨(Lib.decDigits u).toArray⟩) ∧ w = w' := by
  induction u using Nat.strongRecOn with
  | ind u ih =>
    intro hu w
    by_cases h : u < 10
    · rw [Lib.decDigits_one h]; exact rdec_small u h w
    · refine rdec_big u (u / 10) (u % 10) (by omega) hu (by omega) (by omega) (by omega) _ _ (ih (u / 10) (by omega) (by omega)) (by have := dec_size (u / 10) (by omega); omega) ?_ w
      rw [dgT_eq, bytes_app]
      congr 2
      rw [Lib.decDigits.eq_1 u, dif_neg h]

set_option maxHeartbeats 1000000 in
theorem rdec_neg0 (n : Int) (q r : Nat) (h : n < 0) (hn : -9223372036854775808 ≤ n) (hr : r < 10) (hm : n.tmod 10 = -(r : Int)) (hq : n.tdiv 10 = -(q : Int)) (hq1 : q ≤ 922337203685477580) (hz0 : q = 0) (w : World) :
    Calls Tryz.prog 112 #[.int .i64 n] w fun e w' => e = .returned (.string (⟨#[45]⟩ ++ dgT r)) ∧ w = w' := by
  have hd := fun w => dg_slice r hr w
  subst hz0
  have hc : ∀ w, Calls Tryz.prog 112 #[.int .i64 0] w fun e w' => e = .returned (.string ⟨#[48]⟩) ∧ w = w' := fun w => rdec_small 0 (by omega) w
  have h1 : (⟨#[45]⟩ : ByteArray).size + (dgT r).size ≤ 9223372036854775807 := by rw [dg_size, minus_size]; omega
  go_enter Tryz.func112, Tryz.ntmps112
  go_wp2_with (go_at_call 112; (with_reducible refine (hc _).mono ?_); rintro e w' ⟨rfl, rfl⟩)
  go_ret
  exact ⟨rfl, rfl⟩
set_option maxHeartbeats 1000000 in
theorem rdec_neg1 (n : Int) (q r : Nat) (h : n < 0) (hn : -9223372036854775808 ≤ n) (hr : r < 10) (hm : n.tmod 10 = -(r : Int)) (hq : n.tdiv 10 = -(q : Int)) (hq1 : q ≤ 922337203685477580) (s t : ByteArray)
    (hc : ∀ w, Calls Tryz.prog 112 #[.int .i64 (q : Int)] w fun e w' => e = .returned (.string s) ∧ w = w') (hs0 : (s.toList == [48]) = false) (hz : s.size ≤ 100) (hst : (⟨#[45]⟩ : ByteArray) ++ s ++ dgT r = t) (w : World) :
    Calls Tryz.prog 112 #[.int .i64 n] w fun e w' => e = .returned (.string t) ∧ w = w' := by
  have hd := fun w => dg_slice r hr w
  have h1 : (⟨#[45]⟩ : ByteArray).size + s.size ≤ 9223372036854775807 := by rw [minus_size]; omega
  have h2 : (⟨#[45]⟩ ++ s : ByteArray).size + (dgT r).size ≤ 9223372036854775807 := by rw [dg_size, ByteArray.size_append, minus_size]; omega
  have h3 : 1 + s.size + (dgT r).size ≤ 9223372036854775807 := by rw [dg_size]; omega
  clear hz
  go_enter Tryz.func112, Tryz.ntmps112
  go_wp2_with (go_at_call 112; (with_reducible refine (hc _).mono ?_); rintro e w' ⟨rfl, rfl⟩)
  go_ret
  exact ⟨rfl, rfl⟩

/-- The reference's text of a number is the library's. -/
theorem rdec_any (n : Int) (h0 : -9223372036854775808 ≤ n) (h1 : n ≤ 9223372036854775807) (w : World) :
    Calls Tryz.prog 112 #[.int .i64 n] w fun e w' => e = .returned (.string ⟨(Lib.itoa n).toArray⟩) ∧ w = w' := by
  by_cases hn : n < 0
  · obtain ⟨u, hu⟩ : ∃ u : Nat, u = n.natAbs := ⟨_, rfl⟩
    have hi : Lib.itoa n = 45 :: Lib.decDigits u := by rw [hu]; exact if_pos hn
    have e : n = -(u : Int) := by omega
    have hm : n.tmod 10 = -((u % 10 : Nat) : Int) := by rw [e, Int.neg_tmod]; rfl
    have hq : n.tdiv 10 = -((u / 10 : Nat) : Int) := by rw [e, Int.neg_tdiv]; rfl
    by_cases hz : u / 10 = 0
    · have hu9 : u < 10 := by omega
      have hr := rdec_neg0 n (u / 10) (u % 10) hn h0 (by omega) hm hq (by omega) hz w
      rw [hi, Lib.decDigits_one hu9]
      have e2 : u % 10 = u := by omega
      rw [e2, dgT_eq] at hr
      exact hr
    · rw [hi, Lib.decDigits.eq_1 u, dif_neg (show ¬ u < 10 by omega)]
      refine rdec_neg1 n (u / 10) (u % 10) hn h0 (by omega) hm hq (by omega) _ _ (rdec_nonneg (u / 10) (by omega)) ?_ (by have := dec_size (u / 10) (by omega); omega) ?_ w
      · rw [ByteArray.toList_mk]
        have : Lib.decDigits (u / 10) ≠ [48] := fun hh => by
          have hv := val_dec (u / 10)
          rw [hh] at hv
          have e48 : valD [48] = 0 := by decide
          omega
        simpa using this
      · rw [dgT_eq, bytes_app]
        exact bytes_app [45] _ |>.symm ▸ rfl
  · obtain ⟨u, rfl⟩ : ∃ u : Nat, n = u := ⟨n.toNat, by omega⟩
    rw [Lib.itoa_nonneg]
    exact rdec_nonneg u (by omega) w
end Go.Proofs.YtkknglmpdmhhjaaGreatDoor.Nums

/-
  What the lexer gives for a name, for digits, for a quoted string: plain mathematics.
-/
namespace Go.Proofs.YtkknglmpdmhhjaaGreatDoor.Lx
open Go Go.Proofs.YtkknglmpdmhhjaaGreatDoor.Uni
set_option linter.unusedVariables false
set_option linter.unusedSimpArgs false

/-- Bytes below 128 are code points of their own. -/
theorem dec_ascii {s : ByteArray} {i : Nat} (h : B s i < 128) : Utf8.decode s i = (B s i, 1) := by rw [dec_eq, if_pos h]
theorem badF_ascii {s : ByteArray} (h : ∀ i, i < s.size → B s i < 128) : ∀ f i, badF s f i = none
  | 0, i => rfl
  | f + 1, i => by
    by_cases hi : i < s.size
    · have hb := h i hi
      rw [badF_step hi (by rw [dec_ascii hb]; simp; omega)]
      exact badF_ascii h f _
    · exact badF_end hi
theorem B_mem {s : ByteArray} {i : Nat} (h : i < s.size) : ∃ c ∈ s.data.toList, c.toNat = B s i := by
  obtain ⟨c, hc, hd⟩ := drop_B s i h
  refine ⟨c, ?_, hc⟩
  have : c ∈ s.data.toList.drop i := by rw [hd]; exact List.mem_cons_self ..
  exact List.mem_of_mem_drop this
theorem bad_ascii {s : ByteArray} (h : ∀ c ∈ s.data.toList, c.toNat < 128) : badS s = none := badF_ascii (fun i hi => by
  obtain ⟨c, hm, hc⟩ := B_mem hi
  rw [← hc]
  exact h c hm) _ _

theorem skip_stop {L : By} (h : Stop L) : skipL L = (true, L) := sk_skipL (.stop L h)
theorem next_stop {L : By} (h : Stop L) : nextF L = oneF L := by unfold nextF; rw [skip_stop h]
theorem lex_end (f : Nat) : lexF (f + 1) [] = .ok [(⟨0, 0, ⟨#[]⟩⟩, 0)] := by
  rw [lex_succ, next_stop (L := []) trivial]
  simp only [oneF, if_true]
  rw [skip_stop (L := []) trivial]
  rfl
theorem lexT_one {s : ByteArray} {t : Tk} (hz : s.size ≤ 65536) (h0 : 0 < s.size) (hb : badS s = none) (hs : Stop s.data.toList) (h1 : oneF s.data.toList = .ok t []) (hk : t.kind ≠ 0) : lexT s = (0, 0, [⟨t.kind, 0, t.num, t.text⟩, ⟨0, s.size, 0, ⟨#[]⟩⟩]) := by
  obtain ⟨m, hm⟩ : ∃ m, s.size = m + 1 := ⟨s.size - 1, by omega⟩
  have e : lexF (s.size + 1) s.data.toList = .ok [(t, s.size), (⟨0, 0, ⟨#[]⟩⟩, 0)] := by
    rw [lex_succ, next_stop hs, h1]
    simp only [hk, if_false]
    rw [hm, lex_end, skip_stop hs]
    simp only [lsz, hm]
  unfold lexT
  rw [if_neg (by omega), hb]
  simp only
  rw [e]
  simp [tokOf]
theorem lexT_bad {s : ByteArray} (hz : s.size ≤ 65536) (hb : badS s = none) (hs : Stop s.data.toList) (h1 : oneF s.data.toList = .bad s.data.toList) : lexT s = (2, 0, []) := by
  have e : lexF (s.size + 1) s.data.toList = .error s.size := by rw [lex_succ, next_stop hs, h1]; simp only [lsz]
  unfold lexT
  rw [if_neg (by omega), hb]
  simp only
  rw [e]
  simp

/-! ### Names -/
theorem cont_bd {p : Nat} (h : contN p = true) : p < 128 ∧ whiteN p = false ∧ p ≠ 47 := by
  have : (p ≤ 122 ∧ 48 ≤ p ∧ p ≠ 47) ∨ p = 36 := by
    unfold contN leadN digitN at h
    simp at h
    omega
  refine ⟨by omega, ?_, by omega⟩
  unfold whiteN endN
  simp
  omega
theorem lead_all (f : Nat → Bool) {l : By} (h : ∀ c ∈ l, f c.toNat = true) : lead f l = l := by
  have := lead_app f l [] h (.inl rfl)
  rwa [List.append_nil] at this
theorem named_list {s : ByteArray} (h0 : 0 < s.size) (hn : ∀ j, j < s.size → leadN (B s j) = true ∨ (0 < j ∧ digitN (B s j) = true)) : ∃ c r, s.data.toList = c :: r ∧ leadN c.toNat = true ∧ ∀ x ∈ c :: r, contN x.toNat = true := by
  obtain ⟨c, hc, hd⟩ := drop_B s 0 h0
  rw [List.drop_zero] at hd
  refine ⟨c, _, hd, ?_, ?_⟩
  · rw [hc]
    rcases hn 0 h0 with h | h
    · exact h
    · exact absurd h.1 (by omega)
  · intro x hx
    rw [← hd] at hx
    obtain ⟨j, hj, rfl⟩ := List.getElem_of_mem hx
    have hjs : j < s.size := by rw [lsz] at hj; exact hj
    have e : (s.data.toList[j]).toNat = B s j := by unfold B; rw [List.getElem?_eq_getElem hj]; rfl
    rw [e]
    rcases hn j hjs with h | h
    · exact lead_cont h
    · unfold contN; rw [h.2]; simp
theorem lex_name {s : ByteArray} (hz : s.size ≤ 65536) (h0 : 0 < s.size) (hn : ∀ j, j < s.size → leadN (B s j) = true ∨ (0 < j ∧ digitN (B s j) = true)) : lexT s = if wordF s.data.toList = 2 then (2, 0, []) else (0, 0, [⟨((if wordF s.data.toList = 1 then 2 else 1 : Nat) : Int), 0, 0, s⟩, ⟨0, s.size, 0, ⟨#[]⟩⟩]) := by
  obtain ⟨c, r, hl, hc, hall⟩ := named_list h0 hn
  have hb : badS s = none := bad_ascii (fun x hx => (cont_bd (hall x (by rw [← hl]; exact hx))).1)
  have hst : Stop s.data.toList := by
    rw [hl]
    have := cont_bd (lead_cont hc)
    exact ⟨this.2.1, fun h => this.2.2 (by rw [h.1]; rfl)⟩
  have hle : lead contN s.data.toList = s.data.toList := lead_all contN (by rw [hl]; exact hall)
  have ho : oneF s.data.toList = nameF s.data.toList := by rw [hl]; exact one_name hc r
  by_cases h2 : wordF s.data.toList = 2
  · rw [if_pos h2]
    refine lexT_bad hz hb hst ?_
    rw [ho]
    unfold nameF
    rw [hle, if_pos h2]
  · rw [if_neg h2]
    have h1 : oneF s.data.toList = .ok ⟨if wordF s.data.toList = 1 then 2 else 1, 0, s⟩ [] := by
      rw [ho]
      unfold nameF
      rw [hle, if_neg h2, List.drop_length]
    exact lexT_one hz h0 hb hst h1 (by simp only; split <;> decide)

/-! ### Digits -/
theorem digit_of {c : UInt8} (h : 48 ≤ c.toNat ∧ c.toNat ≤ 57) : digitN c.toNat = true := by unfold digitN; simp [h]
theorem digit_no {p : Nat} (h : digitN p = true) : p < 128 ∧ whiteN p = false ∧ p ≠ 47 ∧ leadN p = false := by
  unfold digitN at h
  simp at h
  refine ⟨by omega, by unfold whiteN endN; simp; omega, by omega, by unfold leadN; simp; omega⟩
theorem lex_digits {s : ByteArray} (hz : s.size ≤ 65536) (h0 : 0 < s.size) (hd : ∀ c ∈ s.data.toList, 48 ≤ c.toNat ∧ c.toNat ≤ 57) : lexT s = match Nums.readF s.data.toList with
    | none => (2, 0, [])
    | some n => (0, 0, [⟨3, 0, n, ⟨#[]⟩⟩, ⟨0, s.size, 0, ⟨#[]⟩⟩]) := by
  have hb : badS s = none := bad_ascii (fun x hx => by have := hd x hx; omega)
  cases hl : s.data.toList with
  | nil => have := lsz s; rw [hl] at this; simp at this; omega
  | cons c r =>
    have hc := digit_of (hd c (by rw [hl]; exact List.mem_cons_self ..))
    obtain ⟨n1, n2, n3, n4⟩ := digit_no hc
    have hst : Stop s.data.toList := by
      rw [hl]
      exact ⟨n2, fun h => n3 (by rw [h.1]; rfl)⟩
    have hle : lead digitN s.data.toList = s.data.toList := lead_all digitN (fun x hx => digit_of (hd x hx))
    have ho : oneF s.data.toList = numbF s.data.toList := by rw [hl]; exact one_numb n4 hc r
    rw [← hl]
    cases hr : Nums.readF s.data.toList with
    | none =>
      refine lexT_bad hz hb hst ?_
      rw [ho]
      unfold numbF
      rw [hle, hr]
    | some n =>
      have h1 : oneF s.data.toList = .ok ⟨3, n, ⟨#[]⟩⟩ [] := by
        rw [ho]
        unfold numbF
        rw [hle, hr, List.drop_length]
        rfl
      exact lexT_one hz h0 hb hst h1 (by simp)
theorem read_zero (n : Int) (h : 0 ≤ n) : Nums.readF (48 :: Lib.itoa n) = none := by
  apply Nums.readF_no
  intro v hv hl
  have hne : Lib.itoa n ≠ [] := by
    obtain ⟨u, rfl⟩ : ∃ u : Nat, n = u := ⟨n.toNat, by omega⟩
    rw [Lib.itoa_nonneg]
    exact Nums.dec_ne u
  by_cases hv0 : v < 0
  · have e : Lib.itoa v = 45 :: Lib.decDigits v.natAbs := if_pos hv0
    rw [e] at hl
    cases hl
  · obtain ⟨u, rfl⟩ : ∃ u : Nat, v = u := ⟨v.toNat, by omega⟩
    rw [Lib.itoa_nonneg] at hl
    by_cases hu : 1 ≤ u
    · exact Nums.dec_head u hu 48 (by rw [hl]; rfl) rfl
    · obtain rfl : u = 0 := by omega
      have : Lib.decDigits 0 = [48] := Lib.decDigits_one (by decide)
      rw [this] at hl
      simp at hl
      exact hne hl

/-! ### Strings -/
theorem hexN_hexd {d : Nat} (h : d < 16) : hexN (Vals.hexd d) = some d := by
  unfold hexN Vals.hexd
  by_cases h1 : d < 10
  · rw [if_pos h1, if_pos (by omega)]
    congr 1
    omega
  · rw [if_neg h1, if_neg (by omega), if_pos (by omega)]
    congr 1
    omega
theorem u8_hexd {d : Nat} (h : d < 16) : (Nat.toUInt8 (Vals.hexd d)).toNat = Vals.hexd d := by
  have := Vals.hexd_cases h
  simp
  omega
theorem hexF_ds (u : Nat) (hu : u < 65536) : hexF 0 ((Vals.dsOf u 4).map Nat.toUInt8) = some u := by
  simp only [Vals.dsOf, List.map_cons, List.map_nil, hexF, u8_hexd (Nat.mod_lt _ (by decide : 0 < 16)), hexN_hexd (Nat.mod_lt _ (by decide : 0 < 16))]
  congr 1
  omega
theorem escF_esc (u : Nat) (hu : u < 65536) (X : By) : escF (Vals.escL u ++ X) = (u, 6) := by
  have hl : ((Vals.dsOf u 4).map Nat.toUInt8).length = 4 := by simp [Vals.dsOf_len]
  have e : Vals.escL u ++ X = 92 :: 117 :: ((Vals.dsOf u 4).map Nat.toUInt8 ++ X) := by simp [Vals.escL]
  rw [e]
  simp only [escF]
  rw [if_neg (by decide), if_neg (by decide), if_neg (by decide), if_pos trivial, if_neg (by rw [List.length_append]; omega)]
  rw [List.take_append_of_le_length (by omega), List.take_of_length_le (by omega), hexF_ds u hu]
theorem plain_run {u : Nat} (h : Vals.plainB u = true) : runN 34 (Nat.toUInt8 u).toNat = true ∧ (Nat.toUInt8 u).toNat = u := by
  have hp := Vals.plain_iff.1 h
  have e : (Nat.toUInt8 u).toNat = u := by simp; omega
  rw [e]
  refine ⟨?_, rfl⟩
  unfold runN endN
  simp
  omega
theorem enc_small {c : Nat} (h : c < 128) : enc c = [Nat.toUInt8 c] := by unfold enc; rw [encN_1 h]; rfl
theorem encs_plain : ∀ l : List Nat, (∀ u ∈ l, Vals.plainB u = true) → encs l = l.map Nat.toUInt8
  | [], _ => rfl
  | a :: l, h => by
    have hp := Vals.plain_iff.1 (h a (List.mem_cons_self ..))
    rw [encs_cons, enc_small (by omega), encs_plain l (fun u hu => h u (List.mem_cons_of_mem _ hu))]
    rfl
theorem np_plain : ∀ (b : Bool) (l : List Nat), (∀ u ∈ l, Vals.plainB u = true) → np b l = true
  | b, [], _ => by cases b <;> rfl
  | b, a :: l, h => by
    have hp := Vals.plain_iff.1 (h a (List.mem_cons_self ..))
    have ih := np_plain (isHi a) l (fun u hu => h u (List.mem_cons_of_mem _ hu))
    have hlo : isLo a = false := by unfold isLo; simp; omega
    simp only [np, hlo]
    simp [ih]
theorem units_plain (l : List Nat) (h : ∀ u ∈ l, Vals.plainB u = true) : units ⟨(l.map Nat.toUInt8).toArray⟩ = l := by
  have hp : pts ⟨(l.map Nat.toUInt8).toArray⟩ = some l := by
    rw [← encs_plain l h]
    exact pts_encs (fun c hc => by have := Vals.plain_iff.1 (h c hc); omega) (np_plain false l h)
  unfold units
  rw [hp]
  have : uns l = l := by
    clear hp
    induction l with
    | nil => rfl
    | cons a l ih =>
      have hp := Vals.plain_iff.1 (h a (List.mem_cons_self ..))
      have e : uns (a :: l) = un a ++ uns l := by simp [uns]
      rw [e, un_small (by omega), ih (fun u hu => h u (List.mem_cons_of_mem _ hu))]
      rfl
  simpa using this
theorem qUs_plain : ∀ l : List Nat, (∀ u ∈ l, Vals.plainB u = true) → Vals.qUs l = l.map Nat.toUInt8
  | [], _ => rfl
  | a :: l, h => by
    rw [Vals.qUs_cons, Vals.qU_plain (h a (List.mem_cons_self ..)), qUs_plain l (fun u hu => h u (List.mem_cons_of_mem _ hu))]
    rfl
theorem split_plain : ∀ us : List Nat, ∃ p rest, us = p ++ rest ∧ (∀ u ∈ p, Vals.plainB u = true) ∧ (rest = [] ∨ ∃ u r, rest = u :: r ∧ Vals.plainB u = false)
  | [] => ⟨[], [], rfl, by simp, .inl rfl⟩
  | a :: us => by
    cases ha : Vals.plainB a with
    | false => exact ⟨[], a :: us, rfl, by simp, .inr ⟨a, us, rfl, ha⟩⟩
    | true =>
      obtain ⟨p, rest, h1, h2, h3⟩ := split_plain us
      refine ⟨a :: p, rest, by rw [h1]; rfl, ?_, h3⟩
      intro u hu
      rcases List.mem_cons.1 hu with rfl | hu
      · exact ha
      · exact h2 u hu
theorem quot_qUs (l0 : By) : ∀ (n : Nat) (us v : List Nat) (f : Nat), us.length ≤ n → us.length < f → (∀ u ∈ us, u < 65536) → (v ++ us).length ≤ 10000 → quotF 34 l0 f v (Vals.qUs us ++ [34]) = .ok ⟨4, 0, ⟨(text (v ++ us)).toArray⟩⟩ []
  | n, us, v, f, hn, hf, hu, hv => by
    obtain ⟨f, rfl⟩ : ∃ f', f = f' + 1 := ⟨f - 1, by omega⟩
    obtain ⟨p, rest, rfl, hp, hr⟩ := split_plain us
    have hpm : ∀ c ∈ p.map Nat.toUInt8, runN 34 c.toNat = true := by
      intro c hc
      obtain ⟨u, hu1, rfl⟩ := List.mem_map.1 hc
      exact (plain_run (hp u hu1)).1
    rw [quot_succ, Vals.qUs_append, qUs_plain p hp, List.append_assoc]
    rcases hr with rfl | ⟨u, r, rfl, hpu⟩
    · have hrun : lead (runN 34) (p.map Nat.toUInt8 ++ (Vals.qUs [] ++ [34])) = p.map Nat.toUInt8 := lead_app _ _ _ hpm (.inr ⟨34, [], rfl, by decide⟩)
      rw [hrun, List.drop_left]
      have e : Vals.qUs [] ++ [34] = [34] := rfl
      rw [e]
      simp only
      rw [if_neg (by decide), if_neg (by decide), units_plain p hp, if_neg (by simp at hv ⊢; omega)]
      simp
    · have hul : u < 65536 := hu u (by simp)
      have hrun : lead (runN 34) (p.map Nat.toUInt8 ++ (Vals.qUs (u :: r) ++ [34])) = p.map Nat.toUInt8 := lead_app _ _ _ hpm (.inr ⟨92, _, by rw [Vals.qUs_cons, Vals.qU_esc hpu]; rfl, by decide⟩)
      rw [hrun, List.drop_left, Vals.qUs_cons, Vals.qU_esc hpu, List.append_assoc]
      obtain ⟨T, hT⟩ : ∃ T, Vals.escL u ++ (Vals.qUs r ++ [34]) = 92 :: T := ⟨_, rfl⟩
      have hesc := escF_esc u hul (Vals.qUs r ++ [34])
      have hdrop : (Vals.escL u ++ (Vals.qUs r ++ [34])).drop 6 = Vals.qUs r ++ [34] := by
        conv => lhs; arg 1; rw [← Vals.escL_len u]
        rw [List.drop_left]
      rw [hT] at hesc hdrop ⊢
      simp only
      rw [if_neg (by decide), if_pos trivial, hesc]
      simp only
      rw [if_neg (by decide), hdrop, units_plain p hp]
      have hlen : r.length < n := by simp at hn; omega
      have := quot_qUs l0 (n - 1) r (v ++ p ++ [u]) f (by omega) (by simp at hf; omega) (fun x hx => hu x (by simp [hx])) (by simp at hv ⊢; omega)
      rw [this]
      simp
termination_by n => n
theorem text_units {s : ByteArray} (h : (pts s).isSome = true) : (⟨(text (units s)).toArray⟩ : ByteArray) = s := by
  cases hp : pts s with
  | none => rw [hp] at h; cases h
  | some A =>
    have pa := pts_back hp
    have e : units s = uns A := by unfold units; rw [hp]; rfl
    rw [e]
    unfold text
    rw [cps_uns A (pts_bd hp) pa.2, ← pa.1]
theorem lex_quote {s : ByteArray} (hz : s.size ≤ 300) (h : (pts s).isSome = true) : lexT (bs (Vals.quoteL s)) = (0, 0, [⟨4, 0, 0, s⟩, ⟨0, (bs (Vals.quoteL s)).size, 0, ⟨#[]⟩⟩]) := by
  have hul := units_le s
  have hq : (Vals.quoteL s).length ≤ 6 * (units s).length + 2 := by
    unfold Vals.quoteL
    have := Vals.qUs_len (units s)
    simp
    omega
  have hll : (bs (Vals.quoteL s)).data.toList = Vals.quoteL s := bs_list _
  have hsz : (bs (Vals.quoteL s)).size = (Vals.quoteL s).length := bs_size _
  have h2 := Vals.quote_two s
  have hb : badS (bs (Vals.quoteL s)) = none := bad_ascii (fun c hc => by
    rw [hll] at hc
    have := Vals.quote_print s c hc
    omega)
  have hst : Stop (Vals.quoteL s) := ⟨by decide, fun h => by cases h.1⟩
  have ho : oneF (Vals.quoteL s) = .ok ⟨4, 0, s⟩ [] := by
    have e : Vals.quoteL s = 34 :: (Vals.qUs (units s) ++ [34]) := by simp [Vals.quoteL]
    rw [e, one_quot (by decide) (by decide) (.inl rfl)]
    have hqq := quot_qUs (34 :: (Vals.qUs (units s) ++ [34])) (units s).length (units s) [] ((Vals.qUs (units s) ++ [34]).length + 1) (Nat.le_refl _) (by
      have : (units s).length ≤ (Vals.qUs (units s)).length := by
        clear hul hq hll hsz h2 hb hst e
        generalize units s = us
        induction us with
        | nil => simp
        | cons a r ih =>
          rw [Vals.qUs_cons, List.length_append, List.length_cons]
          have : 0 < (Vals.qU a).length := List.length_pos_iff.2 (Vals.qU_ne a)
          omega
      simp
      omega) (units_lt s) (by simp; omega)
    rw [show (34 : UInt8).toNat = 34 from rfl, hqq, List.nil_append, text_units h]
  refine lexT_one (by rw [hsz]; omega) (by rw [hsz]; omega) hb (by rw [hll]; exact hst) (by rw [hll]; exact ho) (by simp)
end Go.Proofs.YtkknglmpdmhhjaaGreatDoor.Lx

/-
  Plain mathematics: what the lexer gives for signs, names and numbers before whatever follows.
-/
namespace Go.Proofs.YtkknglmpdmhhjaaGreatDoor.Pr
open Go.Proofs.YtkknglmpdmhhjaaGreatDoor.Lx Go.Proofs.YtkknglmpdmhhjaaGreatDoor.Uni Go.Proofs.YtkknglmpdmhhjaaGreatDoor.Nums
set_option linter.unusedVariables false
set_option linter.unusedSimpArgs false

def endTk : Tk := ⟨0, 0, ⟨#[]⟩⟩
/-- The tokens of a text. -/
def Lexes (l : By) (ks : List Tk) : Prop := ∀ f, l.length < f → ∃ ts, lexF f l = .ok ts ∧ ts.map Prod.fst = ks
theorem lexes_end {l : By} (h : Sk l true []) : Lexes l [endTk] := by
  intro f hf
  obtain ⟨f, rfl⟩ : ∃ g, f = g + 1 := ⟨f - 1, by omega⟩
  refine ⟨[(endTk, 0)], ?_, rfl⟩
  have e : nextF l = oneF [] := by unfold nextF; rw [sk_skipL h]
  rw [lex_succ, e]
  simp only [oneF, if_true, sk_skipL h]
  rfl
theorem lexes_cons {l x r : By} {t : Tk} {ks : List Tk} (hs : Sk l true x) (h1 : oneF x = .ok t r) (hk : t.kind ≠ 0) (h : Lexes r ks) : Lexes l (t :: ks) := by
  intro f hf
  obtain ⟨f, rfl⟩ : ∃ g, f = g + 1 := ⟨f - 1, by omega⟩
  have e : nextF l = .ok t r := by unfold nextF; rw [sk_skipL hs]; exact h1
  have hlt : r.length < l.length := by
    rcases next_prog e with ⟨h0, _⟩ | ⟨_, h2⟩
    · exact absurd h0 hk
    · exact h2
  obtain ⟨ts, ht, hts⟩ := h f (by omega)
  refine ⟨(t, (skipL l).2.length) :: ts, ?_, by rw [← hts]; rfl⟩
  rw [lex_succ, e]
  simp only [hk, if_false, ht]
theorem sk_here {c : UInt8} {r : By} (h : Stop (c :: r)) : Sk (c :: r) true (c :: r) := .stop _ h
theorem sk_sp {c : UInt8} {r : By} (h : Stop (c :: r)) : Sk (32 :: c :: r) true (c :: r) := .white 32 _ _ _ (by decide) (.stop _ h)

/-- What no name and no number goes on with. -/
def Brk (r : By) : Prop := r = [] ∨ ∃ c r', r = c :: r' ∧ contN c.toNat = false
theorem brk {c : UInt8} {r : By} (h : contN c.toNat = false) : Brk (c :: r) := .inr ⟨c, r, rfl, h⟩
theorem lead_app {f : Nat → Bool} {n r : By} (hn : ∀ c ∈ n, f c.toNat = true) (hr : r = [] ∨ ∃ c r', r = c :: r' ∧ f c.toNat = false) : lead f (n ++ r) = n := by
  induction n with
  | nil =>
    rcases hr with rfl | ⟨c, r', rfl, h⟩
    · rfl
    · rw [List.nil_append, lead_cons, if_neg (by simp [h])]
  | cons c n ih =>
    rw [List.cons_append, lead_cons, if_pos (hn c (by simp)), ih (fun x hx => hn x (by simp [hx]))]
theorem one_name {c : UInt8} {n r : By} (h0 : leadN c.toNat = true) (hn : ∀ x ∈ c :: n, contN x.toNat = true) (hw : wordF (c :: n) ≠ 2) (hr : Brk r) : oneF (c :: n ++ r) = .ok ⟨if wordF (c :: n) = 1 then 2 else 1, 0, ⟨(c :: n).toArray⟩⟩ r := by
  have hl : lead contN (c :: n ++ r) = c :: n := lead_app hn hr
  show oneF (c :: (n ++ r)) = _
  unfold oneF
  simp only [h0, if_true]
  have e : c :: (n ++ r) = c :: n ++ r := rfl
  unfold Lx.nameF
  rw [e, hl, if_neg hw]
  simp
theorem one_digits {n : Int} {d r : By} (hd : Nums.readF d = some n) (hn : ∀ x ∈ d, digitN x.toNat = true) (hne : d ≠ []) (hr : Brk r) : oneF (d ++ r) = .ok ⟨3, n, ⟨#[]⟩⟩ r := by
  obtain ⟨c, d', rfl⟩ : ∃ c d', d = c :: d' := by cases d with | nil => exact absurd rfl hne | cons c d => exact ⟨c, d, rfl⟩
  have hc := hn c (by simp)
  have hr2 : r = [] ∨ ∃ c r', r = c :: r' ∧ digitN c.toNat = false := by
    rcases hr with rfl | ⟨x, r', rfl, h⟩
    · exact .inl rfl
    · refine .inr ⟨x, r', rfl, ?_⟩
      unfold contN at h
      rw [Bool.or_eq_false_iff] at h
      exact h.2
  have hr3 : lead leadN r = [] := by
    rcases hr with rfl | ⟨x, r', rfl, h⟩
    · rfl
    · unfold contN at h
      rw [Bool.or_eq_false_iff] at h
      rw [lead_cons, h.1]; rfl
  have hl : lead digitN (c :: d' ++ r) = c :: d' := lead_app hn hr2
  show oneF (c :: (d' ++ r)) = _
  unfold oneF
  have e : c :: (d' ++ r) = c :: d' ++ r := rfl
  simp only [(digit_no hc).2.2.2, hc, Bool.false_eq_true, if_false, if_true]
  unfold numbF
  rw [e, hl, hd]
  simp only
  rw [List.drop_left, hr3]
  rfl
def tSign (l : By) : Tk := ⟨5, 0, ⟨l.toArray⟩⟩
theorem one_of_sign {c : UInt8} {r s x : By} (h1 : leadN c.toNat = false) (h2 : digitN c.toNat = false) (h3 : c ≠ 34 ∧ c ≠ 39) (hs : signF (c :: r) = some s) (hx : (c :: r).drop s.length = x) : oneF (c :: r) = .ok (tSign s) x := by
  unfold oneF
  simp only [h1, h2, Bool.false_eq_true, if_false]
  rw [if_neg (by rintro (h | h); exact h3.1 h; exact h3.2 h)]
  unfold signT
  rw [hs]
  simp only
  rw [hx]
  rfl
theorem lex_sign1 {c : UInt8} {r : By} {ks : List Tk} (hs : Stop (c :: r)) (h1 : leadN c.toNat = false) (h2 : digitN c.toNat = false) (h3 : c ≠ 34 ∧ c ≠ 39) (hf : signF (c :: r) = some [c]) (h : Lexes r ks) : Lexes (c :: r) (tSign [c] :: ks) ∧ Lexes (32 :: c :: r) (tSign [c] :: ks) :=
  ⟨lexes_cons (sk_here hs) (one_of_sign h1 h2 h3 hf rfl) (by show (5 : Nat) ≠ 0; decide) h, lexes_cons (sk_sp hs) (one_of_sign h1 h2 h3 hf rfl) (by show (5 : Nat) ≠ 0; decide) h⟩
theorem stop_of {c : UInt8} {r : By} (h1 : whiteN c.toNat = false) (h2 : c ≠ 47) : Stop (c :: r) := by
  exact ⟨h1, fun h => h2 h.1⟩
theorem lex_name1 {c : UInt8} {n r : By} {ks : List Tk} (h0 : leadN c.toNat = true) (hn : ∀ x ∈ c :: n, contN x.toNat = true) (hw : wordF (c :: n) ≠ 2) (hr : Brk r) (h : Lexes r ks) : Lexes (c :: n ++ r) (⟨if wordF (c :: n) = 1 then 2 else 1, 0, ⟨(c :: n).toArray⟩⟩ :: ks) ∧ Lexes (32 :: (c :: n ++ r)) (⟨if wordF (c :: n) = 1 then 2 else 1, 0, ⟨(c :: n).toArray⟩⟩ :: ks) := by
  have hc := cont_bd (hn c (by simp))
  have hs : Stop (c :: (n ++ r)) := stop_of hc.2.1 (by rintro rfl; exact hc.2.2 rfl)
  have hk : (⟨if wordF (c :: n) = 1 then 2 else 1, 0, ⟨(c :: n).toArray⟩⟩ : Tk).kind ≠ 0 := by show (if wordF (c :: n) = 1 then 2 else 1) ≠ 0; split <;> decide
  exact ⟨lexes_cons (sk_here hs) (one_name h0 hn hw hr) hk h, lexes_cons (sk_sp hs) (one_name h0 hn hw hr) hk h⟩
theorem lex_digits1 {n : Int} {d r : By} {ks : List Tk} (hd : Nums.readF d = some n) (hn : ∀ x ∈ d, digitN x.toNat = true) (hne : d ≠ []) (hr : Brk r) (h : Lexes r ks) : Lexes (d ++ r) (⟨3, n, ⟨#[]⟩⟩ :: ks) ∧ Lexes (32 :: (d ++ r)) (⟨3, n, ⟨#[]⟩⟩ :: ks) := by
  have h1 := one_digits hd hn hne hr
  obtain ⟨c, d', rfl⟩ : ∃ c d', d = c :: d' := by cases d with | nil => exact absurd rfl hne | cons c d => exact ⟨c, d, rfl⟩
  have hc := digit_no (hn c (by simp))
  have hs : Stop (c :: (d' ++ r)) := stop_of hc.2.1 (by rintro rfl; exact hc.2.2.1 rfl)
  exact ⟨lexes_cons (sk_here hs) h1 (by show (3 : Nat) ≠ 0; decide) h, lexes_cons (sk_sp hs) h1 (by show (3 : Nat) ≠ 0; decide) h⟩
/-- From the text to lexT. -/
theorem lexT_of {s : ByteArray} {ks : List Tk} (hz : s.size ≤ 65536) (hb : badS s = none) (h : Lexes s.data.toList ks) : ∃ ts : List (Tk × Nat), lexT s = (0, 0, ts.map (tokOf s.size)) ∧ ts.map Prod.fst = ks := by
  obtain ⟨ts, h1, h2⟩ := h (s.size + 1) (by simp)
  refine ⟨ts, ?_, h2⟩
  unfold lexT
  rw [if_neg (by omega), hb]
  simp only
  rw [h1]
end Go.Proofs.YtkknglmpdmhhjaaGreatDoor.Pr
