/-
  The walk of the law on single code points.
-/
import Derived.Test.YtkhldimcegomlaaAlive
namespace Go.Proofs.Ytkhldimcegomlaa
open Go.RowKit

/-- units.Of, by what its slice reads as. -/
theorem of_rd (s : ByteArray) (w : World) (hs : s.size ≤ 100000000) :
    Calls Try.prog 9 #[.string s] w fun e w' => ∃ ao cp, e = .returned (.slice ao (units s).length cp) ∧ Rd w' ao (units s) ∧ Below w.heap.size w w' := by
  refine (of_any s w hs).mono ?_
  rintro e w' ⟨v, rfl, hown, hb⟩
  obtain ⟨ao, cp, rfl⟩ := own_shape hown
  exact ⟨ao, cp, rfl, rd_own hown (units_bd s), hb⟩

theorem text_un {c : Nat} (hc : c ≤ 1114111) : text (un c) = enc c := by
  unfold text
  have := cps_un c hc [] (fun b t h => by cases h)
  rw [List.append_nil] at this
  rw [this]
  simp [cps, encs]

theorem one_pts {c : Nat} (hc : c ≤ 1114111) : pts ⟨(enc c).toArray⟩ = some [c] := by
  have := pts_encs (L := [c]) (by simpa using hc) (by simp [np])
  simpa [encs] using this
theorem one_units {c : Nat} (hc : c ≤ 1114111) : units ⟨(enc c).toArray⟩ = un c := by
  unfold units
  rw [one_pts hc]
  simp [uns]
theorem one_size (c : Nat) : (ByteArray.mk (enc c).toArray).size = (encN c).length := by
  show (enc c).toArray.size = _
  simp [enc_len]

theorem rd_one (w : World) (c : Nat) (t : TypeId) (h : c < 65536) : Rd (w.alloc (.cells #[.int .u16 (c : Nat)] t)) (some ⟨w.heap.size, 0, none⟩) [c] := by
  intro k x hx
  obtain rfl : k = 0 := by
    have := (List.getElem?_eq_some_iff.1 hx).1
    simp at this
    exact this
  simp at hx
  subst hx
  exact ⟨_, _, rfl, by simp, by simp, h⟩
theorem rd_two (w : World) (a c : Nat) (t : TypeId) (h : a < 65536) (h2 : c < 65536) : Rd (w.alloc (.cells #[.int .u16 (a : Nat), .int .u16 (c : Nat)] t)) (some ⟨w.heap.size, 0, none⟩) [a, c] := by
  intro k x hx
  have hk := (List.getElem?_eq_some_iff.1 hx).1
  simp at hk
  obtain rfl | rfl : k = 0 ∨ k = 1 := by omega
  · simp at hx
    subst hx
    exact ⟨_, _, rfl, by simp, by simp, h⟩
  · simp at hx
    subst hx
    exact ⟨_, _, rfl, by simp, by simp, h2⟩

set_option maxRecDepth 100000 in
set_option maxHeartbeats 1000000 in
theorem points_small (c : Nat) (w : World) (hc : c ≤ 65535) :
    Calls Try.prog 6 #[.int .i64 c] w fun e w' => e = .returned (.bool true) ∧ Below w.heap.size w w' := by
  obtain ⟨s, hs⟩ : ∃ s : ByteArray, s = ⟨(text [c]).toArray⟩ := ⟨_, rfl⟩
  have htx : text [c] = enc c := by rw [← un_small (by omega : c < 65536)]; exact text_un (by omega)
  have hs2 : s = ⟨(enc c).toArray⟩ := by rw [hs, htx]
  have hu : units s = [c] := by rw [hs2, one_units (by omega), un_small (by omega)]
  have hp : (pts s).isSome = true := by rw [hs2, one_pts (by omega)]; rfl
  have hz : s.size = (encN c).length := by rw [hs2]; exact one_size c
  have hz9 : s.size ≤ 4 := by rw [hz]; exact (encN_len c).2
  have hm : bits .and .i64 (c : Int) 65535 = (c : Int) := by
    have := bits_mask .i64 63 (by decide) wraps_i64 16 (by decide) (c : Int) (by omega) (by omega)
    rw [show ((2 : Int) ^ 16 - 1) = 65535 from rfl] at this
    rw [this]; omega
  have hci : (c : Int) ≤ 65535 := by omega
  have hci2 : (c : Int) ≤ 1114111 := by omega
  have hci4 : 0 ≤ (c : Int) := by omega
  have HU := Lib.hid hu
  have HS := Lib.hid hs
  have HC := Lib.hid hc
  have text1 : ∀ w, Calls Try.prog 15 #[.slice (some ⟨World.heap w |>.size, 0, none⟩) 1 1] (w.alloc (.cells #[.int .u16 (c : Nat)] 32)) fun e w' => e = .returned (.string s) ∧ Below (w.alloc (.cells #[.int .u16 (c : Nat)] 32)).heap.size (w.alloc (.cells #[.int .u16 (c : Nat)] 32)) w' := by
    intro w
    refine (text_any (some ⟨w.heap.size, 0, none⟩) 1 [c] _ (by simp) (rd_one w c 32 (by have := HC.out; omega))).mono ?_
    rintro e w' ⟨rfl, hb⟩
    exact ⟨by rw [HS.out], hb⟩
  have same1 : ∀ ao bo ca w, Rd w ao (units s) → Rd w bo [c] → Calls Try.prog 12 #[.slice ao (units s).length ca, .slice bo 1 1] w fun e w' => e = .returned (.bool true) ∧ ∃ q, w' = w.drewN q := by
    intro ao bo ca w h1 h2
    refine (same_any ao bo ca 1 (units s) [c] w (by rw [HU.out]; simp) (by simp) h1 h2).mono ?_
    rintro e w' ⟨rfl, q, rfl⟩
    exact ⟨by rw [HU.out]; simp, q, rfl⟩
  have T1 := Lib.hid text1
  have S1 := Lib.hid same1
  clear hu hs hs2 htx hc text1 same1
  rcases Int.lt_or_le 127 c with h1 | h1
  · rcases Int.lt_or_le 2047 c with h2 | h2
    · rw [encN_3 (by omega) (by omega)] at hz
      have hz1 : s.size = 3 := hz
      clear hz
      go_enter Try.func6, Try.ntmps6
      go_wp2_with (first | (go_at_call 8; refine (alive_any w).mono ?_))
      rintro e w1 ⟨rfl, hb1⟩
      go_wp2_with (first | (go_at_call 15; refine (T1.out w1).mono ?_))
      rintro e w2 ⟨rfl, hb2⟩
      have hr2 := rd_below (rd_one w1 c 32 (by omega)) hb2
      go_wp2_with (first | (go_at_call 10; refine (right_any s w2 (by omega)).mono ?_))
      rintro e w3 ⟨rfl, hb3⟩
      have hr3 := rd_below hr2 hb3
      go_wp2_with (first | (go_at_call 9; refine (of_rd s w3 (by omega)).mono ?_))
      rintro e w4 ⟨ao, cp, rfl, hra, hb4⟩
      have hr4 := rd_below hr3 hb4
      go_wp2_with (first | (go_at_call 12; refine (S1.out ao _ cp w4 hra hr4).mono ?_))
      rintro e w5 ⟨rfl, q, rfl⟩
      go_wp2
      go_ret
      refine ⟨rfl, below_drewN ?_ q⟩
      have k1 := (hb1.alloc hb1.size (.cells #[.int .u16 (c : Nat)] 32)).trans (hb2.mono (by have := hb1.size; simp; omega))
      have k2 := k1.trans (hb3.mono k1.size)
      exact k2.trans (hb4.mono k2.size)
    · rw [encN_2 (by omega) (by omega)] at hz
      have hz1 : s.size = 2 := hz
      clear hz
      go_enter Try.func6, Try.ntmps6
      go_wp2_with (first | (go_at_call 8; refine (alive_any w).mono ?_))
      rintro e w1 ⟨rfl, hb1⟩
      go_wp2_with (first | (go_at_call 15; refine (T1.out w1).mono ?_))
      rintro e w2 ⟨rfl, hb2⟩
      have hr2 := rd_below (rd_one w1 c 32 (by omega)) hb2
      go_wp2_with (first | (go_at_call 10; refine (right_any s w2 (by omega)).mono ?_))
      rintro e w3 ⟨rfl, hb3⟩
      have hr3 := rd_below hr2 hb3
      go_wp2_with (first | (go_at_call 9; refine (of_rd s w3 (by omega)).mono ?_))
      rintro e w4 ⟨ao, cp, rfl, hra, hb4⟩
      have hr4 := rd_below hr3 hb4
      go_wp2_with (first | (go_at_call 12; refine (S1.out ao _ cp w4 hra hr4).mono ?_))
      rintro e w5 ⟨rfl, q, rfl⟩
      go_wp2
      go_ret
      refine ⟨rfl, below_drewN ?_ q⟩
      have k1 := (hb1.alloc hb1.size (.cells #[.int .u16 (c : Nat)] 32)).trans (hb2.mono (by have := hb1.size; simp; omega))
      have k2 := k1.trans (hb3.mono k1.size)
      exact k2.trans (hb4.mono k2.size)
  · rw [encN_1 (by omega)] at hz
    have hz1 : s.size = 1 := hz
    clear hz
    go_enter Try.func6, Try.ntmps6
    go_wp2_with (first | (go_at_call 8; refine (alive_any w).mono ?_))
    rintro e w1 ⟨rfl, hb1⟩
    go_wp2_with (first | (go_at_call 15; refine (T1.out w1).mono ?_))
    rintro e w2 ⟨rfl, hb2⟩
    have hr2 := rd_below (rd_one w1 c 32 (by omega)) hb2
    go_wp2_with (first | (go_at_call 10; refine (right_any s w2 (by omega)).mono ?_))
    rintro e w3 ⟨rfl, hb3⟩
    have hr3 := rd_below hr2 hb3
    go_wp2_with (first | (go_at_call 9; refine (of_rd s w3 (by omega)).mono ?_))
    rintro e w4 ⟨ao, cp, rfl, hra, hb4⟩
    have hr4 := rd_below hr3 hb4
    go_wp2_with (first | (go_at_call 12; refine (S1.out ao _ cp w4 hra hr4).mono ?_))
    rintro e w5 ⟨rfl, q, rfl⟩
    go_wp2
    go_ret
    refine ⟨rfl, below_drewN ?_ q⟩
    have k1 := (hb1.alloc hb1.size (.cells #[.int .u16 (c : Nat)] 32)).trans (hb2.mono (by have := hb1.size; simp; omega))
    have k2 := k1.trans (hb3.mono k1.size)
    exact k2.trans (hb4.mono k2.size)

set_option maxRecDepth 100000 in
set_option maxHeartbeats 1000000 in
theorem points_great (c : Nat) (w : World) (hc0 : 65536 ≤ c) (hc : c ≤ 1114111) :
    Calls Try.prog 6 #[.int .i64 c] w fun e w' => e = .returned (.bool true) ∧ Below w.heap.size w w' := by
  obtain ⟨a, ha⟩ : ∃ a, a = 55296 + (c - 65536) / 1024 := ⟨_, rfl⟩
  obtain ⟨b, hb⟩ : ∃ b, b = 56320 + (c - 65536) % 1024 := ⟨_, rfl⟩
  have hun : un c = [a, b] := by rw [un_great (by omega), ha, hb]
  obtain ⟨s, hs⟩ : ∃ s : ByteArray, s = ⟨(text [a, b]).toArray⟩ := ⟨_, rfl⟩
  have htx : text [a, b] = enc c := by rw [← hun]; exact text_un hc
  have hs2 : s = ⟨(enc c).toArray⟩ := by rw [hs, htx]
  have hu : units s = [a, b] := by rw [hs2, one_units hc, hun]
  have hp : (pts s).isSome = true := by rw [hs2, one_pts hc]; rfl
  have hz : s.size = 4 := by rw [hs2, one_size c, encN_4 hc0]; rfl
  obtain ⟨x0, hx0⟩ : ∃ x0, x0 = (c : Int) % 65536 := ⟨_, rfl⟩
  have hm : bits .and .i64 (c : Int) 65535 = x0 := by
    have := bits_mask .i64 63 (by decide) wraps_i64 16 (by decide) (c : Int) (by omega) (by omega)
    rw [show ((2 : Int) ^ 16 - 1) = 65535 from rfl] at this
    rw [this]; omega
  have hx1 : 0 ≤ x0 := by omega
  have hx2 : x0 ≤ 65535 := by omega
  obtain ⟨d, hd⟩ : ∃ d, d = (c - 65536) / 1024 := ⟨_, rfl⟩
  obtain ⟨f, hf⟩ : ∃ f, f = (c - 65536) % 1024 := ⟨_, rfl⟩
  have hm2 : bits .and .i64 ((c : Int) - 65536) 1023 = (f : Int) := by
    rw [and1024 _ (by omega) (by omega)]; omega
  have hd2 : ((c : Int) - 65536) / 1024 = (d : Int) := by omega
  have ea : ((a : Nat) : Int) = 55296 + (d : Int) := by omega
  have eb : ((b : Nat) : Int) = 56320 + (f : Int) := by omega
  have hab : a < 65536 := by omega
  have hbb : b < 65536 := by omega
  have hd1 : (d : Int) ≤ 1023 := by omega
  have hf1 : (f : Int) ≤ 1023 := by omega
  have hci1 : 65535 < (c : Int) := by omega
  have hci2 : (c : Int) ≤ 1114111 := by omega
  have hci4 : 0 ≤ (c : Int) := by omega
  have HU := Lib.hid hu
  have HS := Lib.hid hs
  have T1 : Hid (∀ (w : World) (g : Nat), g = w.heap.size → Calls Try.prog 15 #[.slice (some ⟨g, 0, none⟩) 2 2] (w.alloc (.cells #[.int .u16 (55296 + (d : Int)), .int .u16 (56320 + (f : Int))] 32)) fun e w' => e = .returned (.string s) ∧ Below (w.alloc (.cells #[.int .u16 (55296 + (d : Int)), .int .u16 (56320 + (f : Int))] 32)).heap.size (w.alloc (.cells #[.int .u16 (55296 + (d : Int)), .int .u16 (56320 + (f : Int))] 32)) w') := by
    refine Lib.hid ?_
    rintro w g rfl
    refine (text_any (some ⟨w.heap.size, 0, none⟩) 2 [a, b] _ (by simp) (by have h := rd_two w a b 32 hab hbb; rw [ea, eb] at h; exact h)).mono ?_
    rintro e w' ⟨rfl, hb⟩
    exact ⟨by rw [HS.out], hb⟩
  have S1 : Hid (∀ ao bo ca w, Rd w ao (units s) → Rd w bo [a, b] → Calls Try.prog 12 #[.slice ao (units s).length ca, .slice bo 2 2] w fun e w' => e = .returned (.bool true) ∧ ∃ q, w' = w.drewN q) := by
    refine Lib.hid ?_
    intro ao bo ca w h1 h2
    refine (same_any ao bo ca 2 (units s) [a, b] w (by rw [HU.out]; simp) (by simp) h1 h2).mono ?_
    rintro e w' ⟨rfl, q, rfl⟩
    exact ⟨by rw [HU.out]; simp, q, rfl⟩
  have R1 : Hid (∀ (w : World) (g : Nat), g = w.heap.size → Rd (w.alloc (.cells #[.int .u16 (55296 + (d : Int)), .int .u16 (56320 + (f : Int))] 32)) (some ⟨g, 0, none⟩) [a, b]) := Lib.hid (fun w g hg => by rw [hg]; have h := rd_two w a b 32 hab hbb; rw [ea, eb] at h; exact h)
  have hs9 : s.size ≤ 100 := by omega
  clear hu hs hs2 htx hc hc0 ha hb hun hx0 ea eb hd hf hab hbb
  go_enter Try.func6, Try.ntmps6
  go_wp2_with (first | (go_at_call 8; refine (alive_any w).mono ?_))
  rintro e w1 ⟨rfl, hb1⟩
  go_wp2_with (first | (go_at_call 15; refine (T1.out (w1.alloc (.cells #[.int .u16 x0] 32)) (w1.heap.size + 1) (by simp)).mono ?_))
  rintro e w2 ⟨rfl, hb2⟩
  have hr2 := rd_below (R1.out (w1.alloc (.cells #[.int .u16 x0] 32)) (w1.heap.size + 1) (by simp)) hb2
  go_wp2_with (first | (go_at_call 10; refine (right_any s w2 (by omega)).mono ?_))
  rintro e w3 ⟨rfl, hb3⟩
  have hr3 := rd_below hr2 hb3
  go_wp2_with (first | (go_at_call 9; refine (of_rd s w3 (by omega)).mono ?_))
  rintro e w4 ⟨ao, cp, rfl, hra, hb4⟩
  have hr4 := rd_below hr3 hb4
  go_wp2_with (first | (go_at_call 12; refine (S1.out ao _ cp w4 hra hr4).mono ?_))
  rintro e w5 ⟨rfl, q, rfl⟩
  go_wp2
  go_ret
  refine ⟨rfl, below_drewN ?_ q⟩
  have k0 := hb1.alloc hb1.size (.cells #[.int .u16 x0] 32)
  have k1 := (k0.alloc k0.size (.cells #[.int .u16 (55296 + (d : Int)), .int .u16 (56320 + (f : Int))] 32)).trans (hb2.mono (by have := k0.size; simp at this ⊢; omega))
  have k2 := k1.trans (hb3.mono k1.size)
  exact k2.trans (hb4.mono k2.size)

set_option maxRecDepth 100000 in
theorem points_out (c : Int) (w : World) (hc : c < 0 ∨ 1114111 < c) :
    Calls Try.prog 6 #[.int .i64 c] w fun e w' => e = .returned (.bool true) ∧ Below w.heap.size w w' := by
  rcases hc with hc | hc
  · go_enter Try.func6, Try.ntmps6
    go_wp2_with (first | (go_at_call 8; refine (alive_any w).mono ?_))
    rintro e w1 ⟨rfl, hb1⟩
    go_wp2
    go_ret
    exact ⟨rfl, hb1⟩
  · have hc0 : 0 ≤ c := by omega
    go_enter Try.func6, Try.ntmps6
    go_wp2_with (first | (go_at_call 8; refine (alive_any w).mono ?_))
    rintro e w1 ⟨rfl, hb1⟩
    go_wp2
    go_ret
    exact ⟨rfl, hb1⟩

theorem points_walk (c : Int) (w : World) :
    Calls Try.prog 6 #[.int .i64 c] w fun e w' => e = .returned (.bool true) ∧ Below w.heap.size w w' := by
  by_cases h : c < 0 ∨ 1114111 < c
  · exact points_out c w h
  · obtain ⟨n, rfl⟩ := Int.eq_ofNat_of_zero_le (a := c) (by omega)
    by_cases h2 : n ≤ 65535
    · exact points_small n w h2
    · exact points_great n w (by omega) (by omega)
end Go.Proofs.Ytkhldimcegomlaa
