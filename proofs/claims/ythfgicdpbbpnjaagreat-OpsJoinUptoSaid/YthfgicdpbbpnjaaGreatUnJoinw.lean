/-
  The walk of units.Join.
-/
import Derived.Test.YthfgicdpbbpnjaaGreatUnJoin
namespace Go.Proofs.YthfgicdpbbpnjaaGreat.Uni
open Go.RowKit
set_option linter.unusedVariables false

theorem ext_head (a : ByteArray) (n : Nat) : (a.extract 0 n).data.toList = a.data.toList.take n := by simp [ByteArray.data_extract]
theorem ext_tail (b : ByteArray) : (b.extract 3 b.size).data.toList = b.data.toList.drop 3 := by
  have e : b.data.size = b.size := rfl
  simp [ByteArray.data_extract]
  rw [← e]
  exact List.take_of_length_le (by simp)
theorem bd_drewN {base b : Nat} {bs : List Value} {w : World} (h : Bd base b bs w) (q : Nat) : Bd base b bs (w.drewN q) := h

set_option maxRecDepth 100000 in
set_option maxHeartbeats 1000000 in
theorem join_bad (a b : ByteArray) (w : World) (ha : a.size ≤ 100000) (hb : b.size ≤ 100000) (h : ¬ ((pts a).isSome = true ∧ (pts b).isSome = true)) :
    Calls Tryz.prog 34 #[.string a, .string b] w fun e w' => e = .returned (.string ⟨#[]⟩) ∧ Below w.heap.size w w' := by
  cases hp : (pts a).isSome with
  | false =>
    clear h
    go_enter Tryz.func34, Tryz.ntmps34
    go_wp2_with (go_at_call 30; refine (right_any a w (by omega)).mono ?_)
    rintro e w1 ⟨rfl, b1⟩
    go_wp2
    go_ret
    exact ⟨rfl, b1⟩
  | true =>
    have hq : (pts b).isSome = false := by
      cases x : (pts b).isSome with
      | false => rfl
      | true => exact absurd ⟨hp, x⟩ h
    clear h
    go_enter Tryz.func34, Tryz.ntmps34
    go_wp2_with (go_at_call 30; refine (right_any a w (by omega)).mono ?_)
    rintro e w1 ⟨rfl, b1⟩
    go_wp2_with (go_at_call 30; refine (right_any b w1 (by omega)).mono ?_)
    rintro e w2 ⟨rfl, c2⟩
    have b2 := b1.trans (c2.mono b1.size)
    go_wp2
    go_ret
    exact ⟨rfl, b2⟩

set_option maxRecDepth 100000 in
set_option maxHeartbeats 2000000 in
theorem join_good (a b : ByteArray) (w : World) (ha : a.size ≤ 100000) (hb : b.size ≤ 100000) (hp : (pts a).isSome = true) (hq : (pts b).isSome = true) :
    Calls Tryz.prog 34 #[.string a, .string b] w fun e w' => e = .returned (.string (tx (units a ++ units b))) ∧ Below w.heap.size w w' := by
  obtain ⟨A, hA⟩ := Option.isSome_iff_exists.1 hp
  obtain ⟨C, hC⟩ := Option.isSome_iff_exists.1 hq
  have HA := Lib.hid hA
  have HC := Lib.hid hC
  clear hA hC
  go_enter Tryz.func34, Tryz.ntmps34
  go_wp2_with (go_at_call 30; refine (right_any a w (by omega)).mono ?_)
  rintro e w1 ⟨rfl, b1⟩
  go_wp2_with (go_at_call 30; refine (right_any b w1 (by omega)).mono ?_)
  rintro e w2 ⟨rfl, c2⟩
  have b2 := b1.trans (c2.mono b1.size)
  have hg := Tryz.Builder_Grow_fresh w2.heap.size w2.heap.size (a.size + b.size) (w2.alloc (.cells #[.pointer none, .slice none 0 0] 75)) (Nat.le_refl _) (heap_alloc_new w2 _) (by simp) (by omega)
  rw [Int.natCast_add] at hg
  have HG := Lib.hid hg
  clear hg
  go_wp2_with (go_at_call 43; refine HG.out.mono ?_)
  rintro e w3 ⟨rfl, hB3, c3⟩
  have b3 : Below w2.heap.size w2 w3 := ((Below.refl _ _).alloc (Nat.le_refl _) _).trans c3
  have z3 := b3.size
  clear HG c3
  go_wp2_with (go_at_call 44; refine (last_any a w3 (by omega)).mono ?_)
  rintro e w4 ⟨⟨v1, rfl, hv1⟩, q1, rfl⟩
  go_wp2_with (go_at_call 45; refine (firstS_any b (w3.drewN q1) (by omega)).mono ?_)
  rintro e w5 ⟨⟨v2, rfl, hv2⟩, q2, rfl⟩
  have hB5 : Bd w2.heap.size w2.heap.size [] ((w3.drewN q1).drewN q2) := hB3
  have b5 : Below w2.heap.size w2 ((w3.drewN q1).drewN q2) := below_drewN (below_drewN b3 q1) q2
  have z5 : w2.heap.size ≤ ((w3.drewN q1).drewN q2).heap.size := z3
  clear hB3 b3 z3
  obtain ⟨W, hW⟩ : ∃ W, W = (w3.drewN q1).drewN q2 := ⟨_, rfl⟩
  rw [← hW] at hB5 b5 z5 ⊢
  clear hW
  have HV1 := Lib.hid hv1
  have HV2 := Lib.hid hv2
  clear hv1 hv2
  cases hs : seam a b with
  | true =>
    obtain ⟨h3, k3, hh, hl, ht⟩ := jn_pair HA.out HC.out hs
    unfold seam at hs
    simp only [Bool.and_eq_true] at hs
    obtain ⟨⟨⟨s1, s2⟩, s3⟩, s4⟩ := hs
    have e1 := HV1.out s1
    have e2 := HV2.out s2
    rw [← e1] at hh ht
    rw [← e2] at hl ht
    obtain ⟨n, hn⟩ : ∃ n, a.size = n + 3 := ⟨a.size - 3, by omega⟩
    have hsub : a.size - 3 = n := by omega
    rw [hsub] at ht
    have k3i : 3 ≤ (b.size : Int) := by omega
    obtain ⟨m, hm⟩ : ∃ m, 65536 + (v1 - 55296) * 1024 + (v2 - 56320) = m := ⟨_, rfl⟩
    have hmb : m ≤ 1114111 := by
      have := isHi_iff.1 hh
      have := isLo_iff.1 hl
      omega
    have hpair := fun w => paired_any v1 v2 w hh hl
    rw [hm] at hpair ht
    have HP := Lib.hid hpair
    have HT := Lib.hid ht
    clear h3 ht s3 s4 e1 e2 hsub hm hpair
    go_wp2_with (first | (go_at_call 46; refine (isHigh_any _ _).mono ?_; rintro e w' ⟨rfl, rfl⟩) | (go_at_call 47; refine (isLow_any _ _).mono ?_; rintro e w' ⟨rfl, rfl⟩))
    have hna : (a.extract 0 n).size ≤ 1000000 := by simp; omega
    have hnb : (b.extract 3 b.size).size ≤ 1000000 := by simp; omega
    have HNA := Lib.hid hna
    have HNB := Lib.hid hnb
    clear hna hnb
    go_wp2_with (go_at_call 48; refine (writeString_any w2.heap.size w2.heap.size [] (a.extract 0 n) W hB5 (by simp) (by have := HNA.out; omega) z5).mono ?_)
    rintro e w6 ⟨rfl, hB6, c6⟩
    have b6 := b5.trans c6
    have z6 := b6.size
    have l6 : (a.extract 0 n).data.toList.length ≤ 1000000 := HNA.out
    have L6 := Lib.hid l6
    clear hB5 b5 c6 z5 l6
    go_wp2_with (first | (go_at_call 50; refine (HP.out _).mono ?_; rintro e w' ⟨rfl, rfl⟩) | (go_at_call 49; refine (writePoint_any w2.heap.size w2.heap.size (a.extract 0 n).data.toList m w6 hmb hB6 (by have := L6.out; omega) z6).mono ?_))
    rintro e w7 ⟨rfl, hB7, c7⟩
    have b7 := b6.trans c7
    have z7 := b7.size
    have l7 : (Lib.byteCells ((a.extract 0 n).data.toList ++ enc m)).length ≤ 1000000000 := by
      have := L6.out
      have := encN_len m
      rw [Lib.byteCells_length, List.length_append, enc_len]
      omega
    have L7 := Lib.hid l7
    clear hB6 b6 c7 z6 l7
    go_wp2_with (go_at_call 48; refine (writeString_any w2.heap.size w2.heap.size _ (b.extract 3 b.size) w7 hB7 L7.out (by have := HNB.out; omega) z7).mono ?_)
    rintro e w8 ⟨rfl, hB8, c8⟩
    have b8 := b7.trans c8
    have z8 := b8.size
    obtain ⟨l9, hl9⟩ : ∃ l9, l9 = (a.extract 0 n).data.toList ++ enc m ++ (b.extract 3 b.size).data.toList := ⟨_, rfl⟩
    have hB9 : Bd w2.heap.size w2.heap.size (Lib.byteCells l9) w8 := by
      rw [hl9, Lib.byteCells_append]; exact hB8
    have H9 := Lib.hid hl9
    have HB := Lib.hid hB9
    clear hB7 b7 c8 z7 hB8 hB9 hl9
    go_wp2_with (go_at_call 51; refine (Tryz.Builder_String_any w2.heap.size w2.heap.size _ w8 (.inr HB.out) z8).mono ?_)
    rintro e w9 ⟨rfl, c9⟩
    have b9 := b2.trans ((b8.trans c9).mono b2.size)
    go_wp2
    go_ret
    refine ⟨?_, b9⟩
    have e : tx (units a ++ units b) = ⟨l9.toArray⟩ := by
      rw [H9.out]
      unfold tx
      rw [HT.out, ext_head, ext_tail]
    rw [e]
    rfl
  | false =>
    have ht := jn_flat HA.out HC.out hs
    have HT := Lib.hid ht
    have hna : a.size ≤ 1000000 := by omega
    have l6 : (Lib.byteCells a.data.toList).length ≤ 1000000000 := by
      have : a.data.toList.length = a.size := rfl
      rw [Lib.byteCells_length]; omega
    have L6 := Lib.hid l6
    clear ht l6 hna
    have hcase : lastB a = false ∨ (lastB a = true ∧ surB b 0 = false) ∨ (lastB a = true ∧ surB b 0 = true ∧ isHi v1 = false) ∨ (lastB a = true ∧ surB b 0 = true ∧ isHi v1 = true ∧ isLo v2 = false) := by
      unfold seam at hs
      cases x1 : lastB a with
      | false => exact .inl rfl
      | true =>
        cases x2 : surB b 0 with
        | false => exact .inr (.inl ⟨rfl, rfl⟩)
        | true =>
          have y1 := HV1.out x1
          have y2 := HV2.out x2
          rw [x1, x2, ← y1, ← y2] at hs
          cases x3 : isHi v1 with
          | false => exact .inr (.inr (.inl ⟨rfl, rfl, rfl⟩))
          | true =>
            rw [x3] at hs
            exact .inr (.inr (.inr ⟨rfl, rfl, rfl, by simpa using hs⟩))
    clear hs HV1 HV2
    rcases hcase with s1 | ⟨s1, s2⟩ | ⟨s1, s2, s3⟩ | ⟨s1, s2, s3, s4⟩
    all_goals
      go_wp2_with (first | (go_at_call 46; refine (isHigh_any _ _).mono ?_; rintro e w' ⟨rfl, rfl⟩) | (go_at_call 47; refine (isLow_any _ _).mono ?_; rintro e w' ⟨rfl, rfl⟩) | (go_at_call 48; refine (writeString_any w2.heap.size w2.heap.size [] a W hB5 (by simp) (by omega) z5).mono ?_))
      rintro e w6 ⟨rfl, hB6, c6⟩
      have b6 := b5.trans c6
      have z6 := b6.size
      clear hB5 b5 c6 z5
      go_wp2_with (go_at_call 48; refine (writeString_any w2.heap.size w2.heap.size (Lib.byteCells a.data.toList) b w6 hB6 L6.out (by omega) z6).mono ?_)
      rintro e w8 ⟨rfl, hB8, c8⟩
      have b8 := b6.trans c8
      have z8 := b8.size
      obtain ⟨l9, hl9⟩ : ∃ l9, l9 = a.data.toList ++ b.data.toList := ⟨_, rfl⟩
      have hB9 : Bd w2.heap.size w2.heap.size (Lib.byteCells l9) w8 := by
        rw [hl9, Lib.byteCells_append]; exact hB8
      have H9 := Lib.hid hl9
      have HB := Lib.hid hB9
      clear hB6 b6 c8 z6 hB8 hB9 hl9
      go_wp2_with (go_at_call 51; refine (Tryz.Builder_String_any w2.heap.size w2.heap.size _ w8 (.inr HB.out) z8).mono ?_)
      rintro e w9 ⟨rfl, c9⟩
      have b9 := b2.trans ((b8.trans c9).mono b2.size)
      go_wp2
      go_ret
      refine ⟨?_, b9⟩
      have e : tx (units a ++ units b) = ⟨l9.toArray⟩ := by
        rw [H9.out]
        unfold tx
        rw [HT.out]
      rw [e]
      rfl

theorem join_any (a b : ByteArray) (w : World) (ha : a.size ≤ 100000) (hb : b.size ≤ 100000) :
    Calls Tryz.prog 34 #[.string a, .string b] w fun e w' => e = .returned (.string (jn a b)) ∧ Below w.heap.size w w' := by
  by_cases h : (pts a).isSome = true ∧ (pts b).isSome = true
  · have e : jn a b = tx (units a ++ units b) := if_pos h
    rw [e]
    exact join_good a b w ha hb h.1 h.2
  · have e : jn a b = ⟨#[]⟩ := if_neg h
    rw [e]
    exact join_bad a b w ha hb h
end Go.Proofs.YthfgicdpbbpnjaaGreat.Uni
