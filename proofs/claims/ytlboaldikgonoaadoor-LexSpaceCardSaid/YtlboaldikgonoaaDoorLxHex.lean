/-
  strconv.ParseUint of four bytes in base 16.
-/
import Derived.Test.YtlboaldikgonoaaDoorLxSign
import Derived.Lib.ConvBytes
namespace Go.Proofs.YtlboaldikgonoaaDoor.Lx
open Go.RowKit Go.Proofs.YtlboaldikgonoaaDoor.Uni
set_option linter.unusedVariables false
set_option linter.unusedSimpArgs false

theorem or32 : ∀ a : Fin 256, ∃ l : Fin 256, bits .or .u8 (a.val : Int) 32 = (l.val : Int) ∧ (48 ≤ a.val → a.val ≤ 57 → True) ∧
    (hexN a.val = if 48 ≤ a.val ∧ a.val ≤ 57 then some (a.val - 48) else if 97 ≤ l.val ∧ l.val ≤ 102 then some (l.val - 87) else none) := by
  intro a
  have e : ∀ a : Fin 256, (a.val ||| 32) < 256 ∧ (hexN a.val = if 48 ≤ a.val ∧ a.val ≤ 57 then some (a.val - 48) else if 97 ≤ (a.val ||| 32) ∧ (a.val ||| 32) ≤ 102 then some ((a.val ||| 32) - 87) else none) := by decide +kernel
  refine ⟨⟨a.val ||| 32, (e a).1⟩, ?_, fun _ _ => trivial, (e a).2⟩
  have h : (bits .or .u8 (a.val : Int) 32) = ((a.val ||| 32 : Nat) : Int) := by
    have e2 : ∀ a : Fin 256, bits .or .u8 (a.val : Int) 32 = ((a.val ||| 32 : Nat) : Int) := by decide +kernel
    exact e2 a
  exact h

/-- The digits before a place make a number. -/
def HexTo (s : ByteArray) (k n : Nat) : Prop := k ≤ s.size ∧ n < 16 ^ k ∧ hexF 0 s.data.toList = hexF n (s.data.toList.drop k)
theorem hexF_cons (u : Nat) (c : UInt8) (r : By) : hexF u (c :: r) = match hexN c.toNat with | none => none | some d => hexF (u * 16 + d) r := rfl
theorem drop_B (s : ByteArray) (k : Nat) (hk : k < s.size) : ∃ c : UInt8, c.toNat = B s k ∧ s.data.toList.drop k = c :: s.data.toList.drop (k + 1) := by
  have hk' : k < s.data.toList.length := by rw [lsz]; exact hk
  refine ⟨s.data.toList[k], ?_, List.drop_eq_getElem_cons hk'⟩
  unfold B
  rw [List.getElem?_eq_getElem hk']
  rfl
theorem hexN_lt {p d : Nat} (h : hexN p = some d) : d < 16 := by
  unfold hexN at h
  split at h
  · cases h; omega
  · split at h
    · cases h; omega
    · split at h
      · cases h; omega
      · cases h
theorem HexTo.step {s : ByteArray} {k n d : Nat} (h : HexTo s k n) (hk : k < s.size) (hd : hexN (B s k) = some d) : HexTo s (k + 1) (n * 16 + d) := by
  obtain ⟨h1, h2, h3⟩ := h
  obtain ⟨c, hc, he⟩ := drop_B s k hk
  have := hexN_lt hd
  refine ⟨by omega, by rw [Nat.pow_succ]; omega, ?_⟩
  rw [h3, he, hexF_cons, hc, hd]
theorem HexTo.halt {s : ByteArray} {k n : Nat} (h : HexTo s k n) (hk : k < s.size) (hd : hexN (B s k) = none) : hexF 0 s.data.toList = none := by
  obtain ⟨h1, h2, h3⟩ := h
  obtain ⟨c, hc, he⟩ := drop_B s k hk
  rw [h3, he, hexF_cons, hc, hd]
theorem HexTo.done {s : ByteArray} {k n : Nat} (h : HexTo s k n) (hk : k = s.size) : hexF 0 s.data.toList = some n := by
  obtain ⟨h1, h2, h3⟩ := h
  rw [h3, List.drop_eq_nil_of_le (by rw [lsz]; omega)]
  rfl

def hexR : Option Nat → Value
  | some u => .tuple #[.int .u64 (u : Int), .nilIface]
  | none => .tuple #[.int .u64 0, .iface 93 (.int .i64 2)]

theorem empty_no {s : ByteArray} (h : s.size = 4) : s.toList.isEmpty = false := by
  rw [ByteArray.toList_eq]
  cases hl : s.data.toList with
  | nil => have := lsz s; rw [hl] at this; simp at this; omega
  | cons _ _ => rfl

theorem bw_below (w : World) (s : ByteArray) : Below w.heap.size w (Lib.bytesWorld w 5 s) := ⟨by simp [Lib.bytesWorld, World.freeze]; rfl, by simp [Lib.bytesWorld, World.freeze], by simp [Lib.bytesWorld, World.freeze]; rfl, by rw [Lib.bytesWorld_size]; omega, fun k hk => Lib.bytesWorld_at_old w _ s k hk⟩
theorem bw_cell (w : World) (s : ByteArray) (j : Nat) (hj : j < s.size) : (Lib.bytesWorld w 5 s).cell? ⟨w.heap.size, j, none⟩ = some (.int .u8 (B s j : Nat)) := by
  rw [Lib.bytesWorld_cell w _ s j hj]
  unfold B
  rw [List.getD_eq_getElem?_getD]
theorem hex_bd {s : ByteArray} {k n : Nat} (h : HexTo s k n) (hk : k < 4) : n ≤ 4095 := by
  have h1 := h.2.1
  have h2 : 16 ^ k ≤ 16 ^ 3 := Nat.pow_le_pow_right (by decide) (by omega)
  omega

set_option maxRecDepth 100000 in
set_option maxHeartbeats 4000000 in
theorem hex_any (s : ByteArray) (w : World) (hs : s.size = 4) :
    Calls Tryd.prog 67 #[.string s, .int .i64 16, .int .i64 16] w fun e w' => e = .returned (hexR (hexF 0 s.data.toList)) ∧ Below w.heap.size w w' := by
  have he := empty_no hs
  have hcv := Lib.run_convert_string_bytes (P := Tryd.prog) w 9 25 5 s Tryd.underlying9 Tryd.underlying25 Tryd.underlying5
  have hcell := bw_cell w s
  have hbel := bw_below w s
  obtain ⟨W1, hW⟩ : ∃ W1, Lib.bytesWorld w 5 s = W1 := ⟨_, rfl⟩
  rw [hW] at hcv hcell hbel
  obtain ⟨cap, hcap⟩ : ∃ cap, grownCap w s.size 0 5 = cap := ⟨_, rfl⟩
  rw [hcap] at hcv
  rw [hs] at hcv hcell
  have HB := Lib.hid hbel
  have HS := Lib.hid hs
  have H0 : Hid (HexTo s 0 0) := Lib.hid ⟨Nat.zero_le _, by decide, rfl⟩
  clear hW hcap hbel hs
  go_enter Tryd.func67, Tryd.ntmps67
  go_wp2
  go_loopw [12, 13, 101] (fun us n i wr => ∃ k m : Nat, us = .bool false ∧ n = .int .u64 (m : Int) ∧ i = .int .i64 (k : Int) ∧ k ≤ 4 ∧ wr = W1 ∧ Hid (HexTo s k m)) (fun _ _ i _ => 4 - (intOf i).toNat)
  case atStart => exact ⟨0, 0, rfl, rfl, rfl, by omega, rfl, H0⟩
  case round =>
    obtain ⟨k, m, rfl, rfl, rfl, hk, rfl, hx⟩ := hrel
    by_cases hlt : k < 4
    · have hki : (k : Int) < 4 := by omega
      have hm := hex_bd hx.out hlt
      have hm1 : (m : Int) ≤ 4095 := by omega
      have hcl := hcell k hlt
      have hb := B_lt s k
      obtain ⟨b, hbe⟩ : ∃ b, B s k = b := ⟨_, rfl⟩
      rw [hbe] at hcl hb
      obtain ⟨l, hor, -, hdig⟩ := or32 ⟨b, hb⟩
      obtain ⟨lv, hlb⟩ := l
      simp only at hor hdig
      have HBE := Lib.hid hbe
      have n95 : b = 95 → lv = 127 := by
        rintro rfl
        have e : bits .or .u8 (95 : Int) 32 = 127 := by decide +kernel
        have h2 : bits .or .u8 ((95 : Nat) : Int) 32 = 127 := e
        rw [hor] at h2
        omega
      have hlow := fun w => Tryd.internal_strconv_lower (b : Int) w
      rw [hor] at hlow
      clear hbe hor hcell hcv
      by_cases c1 : 48 ≤ b ∧ b ≤ 57
      · have g1 : 48 ≤ (b : Int) := by omega
        have g2 : (b : Int) ≤ 57 := by omega
        have f0 : ((b : Int) == 95) = false := by simp; omega
        have f1 : decide (48 ≤ (b : Int)) = true := by simp; omega
        have f2 : decide ((b : Int) ≤ 57) = true := by simp; omega
        have hd : hexN (B s k) = some (b - 48) := by rw [HBE.out, hdig]; rw [if_pos c1]
        have HX : Hid (HexTo s (k + 1) (m * 16 + (b - 48))) := Lib.hid (hx.out.step (by rw [HS.out]; exact hlt) hd)
        obtain ⟨d, hde⟩ : ∃ d, d = (b - 48) := ⟨_, rfl⟩
        have e1 : decide (1152921504606846976 ≤ (m : Int)) = false := by simp; omega
        have e2 : decide ((m : Int) * 16 + ((b : Int) - 48) < (m : Int) * 16) = false := by simp; omega
        have e3 : decide (65535 < (m : Int) * 16 + ((b : Int) - 48)) = false := by simp; omega
        have e4 : decide (16 ≤ (b : Int) - 48) = false := by simp; omega
        clear hd hdig n95 hm hb hlow
        go_wp2_with (fail)
        go_roundw
        case rel => exact ⟨k + 1, m * 16 + (b - 48), rfl, congrArg (Value.int .u64) (by omega), by go_num, by omega, trivial, HX⟩
        case measure => simp [intOf]; omega
      · by_cases h95 : b = 95
        · have l7 := n95 h95
          subst h95 l7
          have hd : hexN (B s k) = none := by rw [HBE.out]; rfl
          have HX := Lib.hid (hx.out.halt (by rw [HS.out]; exact hlt) hd)
          clear hd hdig hm hb hlb n95 c1
          go_wp2_with (go_at_call 79; refine (hlow _).mono ?_; rintro e w' ⟨rfl, rfl⟩)
          go_ret2
          exact ⟨by rw [HX.out]; rfl, HB.out⟩
        · have e0 : ((b : Int) == 95) = false := by simp; omega
          by_cases c2 : b < 48
          · have p1 : decide (48 ≤ (b : Int)) = false := by simp; omega
            by_cases l1 : lv < 97
            · have q1 : decide (97 ≤ (lv : Int)) = false := by simp; omega
              have hd : hexN (B s k) = none := by rw [HBE.out, hdig, if_neg c1, if_neg (by omega)]
              have HX := Lib.hid (hx.out.halt (by rw [HS.out]; exact hlt) hd)
              clear hd hdig hm hb l1 hlb n95
              go_wp2_with (go_at_call 79; refine (hlow _).mono ?_; rintro e w' ⟨rfl, rfl⟩)
              go_ret2
              exact ⟨by rw [HX.out]; rfl, HB.out⟩
            · have q1 : decide (97 ≤ (lv : Int)) = true := by simp; omega
              by_cases l2 : 122 < lv
              · have q2 : decide ((lv : Int) ≤ 122) = false := by simp; omega
                have hd : hexN (B s k) = none := by rw [HBE.out, hdig, if_neg c1, if_neg (by omega)]
                have HX := Lib.hid (hx.out.halt (by rw [HS.out]; exact hlt) hd)
                clear hd hdig hm hb l1 l2 hlb n95
                go_wp2_with (go_at_call 79; refine (hlow _).mono ?_; rintro e w' ⟨rfl, rfl⟩)
                go_ret2
                exact ⟨by rw [HX.out]; rfl, HB.out⟩
              · have q2 : decide ((lv : Int) ≤ 122) = true := by simp; omega
                have q3 : 97 ≤ (lv : Int) := by omega
                have q4 : (lv : Int) ≤ 122 := by omega
                by_cases l3 : 102 < lv
                · have e4 : decide (16 ≤ (lv : Int) - 97 + 10) = true := by simp; omega
                  have hd : hexN (B s k) = none := by rw [HBE.out, hdig, if_neg c1, if_neg (by omega)]
                  have HX := Lib.hid (hx.out.halt (by rw [HS.out]; exact hlt) hd)
                  clear hd hdig hm hb l1 l2 l3 hlb n95
                  go_wp2_with (go_at_call 79; refine (hlow _).mono ?_; rintro e w' ⟨rfl, rfl⟩)
                  go_ret2
                  exact ⟨by rw [HX.out]; rfl, HB.out⟩
                · have e4 : decide (16 ≤ (lv : Int) - 97 + 10) = false := by simp; omega
                  have hd : hexN (B s k) = some (lv - 87) := by rw [HBE.out, hdig, if_neg c1, if_pos (by omega)]
                  have HX : Hid (HexTo s (k + 1) (m * 16 + (lv - 87))) := Lib.hid (hx.out.step (by rw [HS.out]; exact hlt) hd)
                  have e1 : decide (1152921504606846976 ≤ (m : Int)) = false := by simp; omega
                  have e2 : decide ((m : Int) * 16 + ((lv : Int) - 97 + 10) < (m : Int) * 16) = false := by simp; omega
                  have e3 : decide (65535 < (m : Int) * 16 + ((lv : Int) - 97 + 10)) = false := by simp; omega
                  have q5 : (lv : Int) ≤ 102 := by omega
                  have hql : m * 16 + (lv - 87) = m * 16 + (lv - 87) ∧ 97 ≤ lv := ⟨rfl, by omega⟩
                  have HQ := Lib.hid hql
                  clear hd hdig hm hb l1 l2 l3 hlb n95 hql
                  go_wp2_with (go_at_call 79; refine (hlow _).mono ?_; rintro e w' ⟨rfl, rfl⟩)
                  go_roundw
                  case rel => exact ⟨k + 1, m * 16 + (lv - 87), rfl, congrArg (Value.int .u64) (by have := HQ.out.2; omega), by go_num, by omega, trivial, HX⟩
                  case measure => simp [intOf]; omega
          · have p1 : decide (48 ≤ (b : Int)) = true := by simp; omega
            have p2 : decide ((b : Int) ≤ 57) = false := by simp; omega
            by_cases l1 : lv < 97
            · have q1 : decide (97 ≤ (lv : Int)) = false := by simp; omega
              have hd : hexN (B s k) = none := by rw [HBE.out, hdig, if_neg c1, if_neg (by omega)]
              have HX := Lib.hid (hx.out.halt (by rw [HS.out]; exact hlt) hd)
              clear hd hdig hm hb l1 hlb n95
              go_wp2_with (go_at_call 79; refine (hlow _).mono ?_; rintro e w' ⟨rfl, rfl⟩)
              go_ret2
              exact ⟨by rw [HX.out]; rfl, HB.out⟩
            · have q1 : decide (97 ≤ (lv : Int)) = true := by simp; omega
              by_cases l2 : 122 < lv
              · have q2 : decide ((lv : Int) ≤ 122) = false := by simp; omega
                have hd : hexN (B s k) = none := by rw [HBE.out, hdig, if_neg c1, if_neg (by omega)]
                have HX := Lib.hid (hx.out.halt (by rw [HS.out]; exact hlt) hd)
                clear hd hdig hm hb l1 l2 hlb n95
                go_wp2_with (go_at_call 79; refine (hlow _).mono ?_; rintro e w' ⟨rfl, rfl⟩)
                go_ret2
                exact ⟨by rw [HX.out]; rfl, HB.out⟩
              · have q2 : decide ((lv : Int) ≤ 122) = true := by simp; omega
                have q3 : 97 ≤ (lv : Int) := by omega
                have q4 : (lv : Int) ≤ 122 := by omega
                by_cases l3 : 102 < lv
                · have e4 : decide (16 ≤ (lv : Int) - 97 + 10) = true := by simp; omega
                  have hd : hexN (B s k) = none := by rw [HBE.out, hdig, if_neg c1, if_neg (by omega)]
                  have HX := Lib.hid (hx.out.halt (by rw [HS.out]; exact hlt) hd)
                  clear hd hdig hm hb l1 l2 l3 hlb n95
                  go_wp2_with (go_at_call 79; refine (hlow _).mono ?_; rintro e w' ⟨rfl, rfl⟩)
                  go_ret2
                  exact ⟨by rw [HX.out]; rfl, HB.out⟩
                · have e4 : decide (16 ≤ (lv : Int) - 97 + 10) = false := by simp; omega
                  have hd : hexN (B s k) = some (lv - 87) := by rw [HBE.out, hdig, if_neg c1, if_pos (by omega)]
                  have HX : Hid (HexTo s (k + 1) (m * 16 + (lv - 87))) := Lib.hid (hx.out.step (by rw [HS.out]; exact hlt) hd)
                  have e1 : decide (1152921504606846976 ≤ (m : Int)) = false := by simp; omega
                  have e2 : decide ((m : Int) * 16 + ((lv : Int) - 97 + 10) < (m : Int) * 16) = false := by simp; omega
                  have e3 : decide (65535 < (m : Int) * 16 + ((lv : Int) - 97 + 10)) = false := by simp; omega
                  have q5 : (lv : Int) ≤ 102 := by omega
                  have hql : m * 16 + (lv - 87) = m * 16 + (lv - 87) ∧ 97 ≤ lv := ⟨rfl, by omega⟩
                  have HQ := Lib.hid hql
                  clear hd hdig hm hb l1 l2 l3 hlb n95 hql
                  go_wp2_with (go_at_call 79; refine (hlow _).mono ?_; rintro e w' ⟨rfl, rfl⟩)
                  go_roundw
                  case rel => exact ⟨k + 1, m * 16 + (lv - 87), rfl, congrArg (Value.int .u64) (by have := HQ.out.2; omega), by go_num, by omega, trivial, HX⟩
                  case measure => simp [intOf]; omega
    · obtain rfl : k = 4 := by omega
      have HX := Lib.hid (hx.out.done HS.out.symm)
      go_wp2
      go_ret2
      exact ⟨by rw [HX.out]; rfl, HB.out⟩
end Go.Proofs.YtlboaldikgonoaaDoor.Lx
