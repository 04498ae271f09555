/-
  Texts of this seat in build order: LxHex, LxEsc.
-/
import Derived.Test.YtkknglmpdmhhjaaGreatDoorMg08
import Derived.Lib.ConvBytes
/-
  strconv.ParseUint of four bytes in base 16.
-/
namespace Go.Proofs.YtkknglmpdmhhjaaGreatDoor.Lx
open Go.RowKit Go.Proofs.YtkknglmpdmhhjaaGreatDoor.Uni
set_option linter.unusedVariables false
set_option linter.unusedSimpArgs false

theorem or32 : ∀ a : Fin 256, ∃ l : Fin 256, bits .or .u8 (a.val : Int) 32 = (l.val : Int) ∧ (48 ≤ a.val → a.val ≤ 57 → True) ∧
    (hexN a.val = if 48 ≤ a.val ∧ a.val ≤ 57 then some (a.val - 48) else if 97 ≤ l.val ∧ l.val ≤ 102 then some (l.val - 87) else none) := by
  intro a
  have e : ∀ a : Fin 256, (a.val ||| 32) < 256 ∧ (hexN a.val = if 48 ≤ a.val ∧ a.val ≤ 57 then some (a.val - 48) else if 97 ≤ (a.val ||| 32) ∧ (a.val ||| 32) ≤ 102 then some ((a.val ||| 32) - 87) else none) := by decide +kernel
  refine ⟨⟨a.val ||| 32, (e a).1⟩, ?_, fun _ _ => trivial, (e a).2⟩
  have h : (bits .or .u8 (a.val : Int) 32) = ((a.val ||| 32 : Nat) : Int) := by
    have e2 : ∀ a : Fin 256, bits .or .u8 (a.val : Int) 32 = ((a.val ||| 32 : Nat) : Int) := by decide +kernel
    exact e2 a
  exact h

/-- The digits before a place make a number. -/
def HexTo (s : ByteArray) (k n : Nat) : Prop := k ≤ s.size ∧ n < 16 ^ k ∧ hexF 0 s.data.toList = hexF n (s.data.toList.drop k)
theorem hexF_cons (u : Nat) (c : UInt8) (r : By) : hexF u (c :: r) = match hexN c.toNat with | none => none | some d => hexF (u * 16 + d) r := rfl
theorem drop_B (s : ByteArray) (k : Nat) (hk : k < s.size) : ∃ c : UInt8, c.toNat = B s k ∧ s.data.toList.drop k = c :: s.data.toList.drop (k + 1) := by
  have hk' : k < s.data.toList.length := by rw [lsz]; exact hk
  refine ⟨s.data.toList[k], ?_, List.drop_eq_getElem_cons hk'⟩
  unfold B
  rw [List.getElem?_eq_getElem hk']
  rfl
theorem hexN_lt {p d : Nat} (h : hexN p = some d) : d < 16 := by
  unfold hexN at h
  split at h
  · cases h; omega
  · split at h
    · cases h; omega
    · split at h
      · cases h; omega
      · cases h
theorem HexTo.step {s : ByteArray} {k n d : Nat} (h : HexTo s k n) (hk : k < s.size) (hd : hexN (B s k) = some d) : HexTo s (k + 1) (n * 16 + d) := by
  obtain ⟨h1, h2, h3⟩ := h
  obtain ⟨c, hc, he⟩ := drop_B s k hk
  have := hexN_lt hd
  refine ⟨by omega, by rw [Nat.pow_succ]; omega, ?_⟩
  rw [h3, he, hexF_cons, hc, hd]
theorem HexTo.halt {s : ByteArray} {k n : Nat} (h : HexTo s k n) (hk : k < s.size) (hd : hexN (B s k) = none) : hexF 0 s.data.toList = none := by
  obtain ⟨h1, h2, h3⟩ := h
  obtain ⟨c, hc, he⟩ := drop_B s k hk
  rw [h3, he, hexF_cons, hc, hd]
theorem HexTo.done {s : ByteArray} {k n : Nat} (h : HexTo s k n) (hk : k = s.size) : hexF 0 s.data.toList = some n := by
  obtain ⟨h1, h2, h3⟩ := h
  rw [h3, List.drop_eq_nil_of_le (by rw [lsz]; omega)]
  rfl

def hexR : Option Nat → Value
  | some u => .tuple #[.int .u64 (u : Int), .nilIface]
  | none => .tuple #[.int .u64 0, .iface 194 (.int .i64 2)]

theorem empty_no {s : ByteArray} (h : s.size = 4) : s.toList.isEmpty = false := by
  rw [ByteArray.toList_eq]
  cases hl : s.data.toList with
  | nil => have := lsz s; rw [hl] at this; simp at this; omega
  | cons _ _ => rfl

theorem bw_below (w : World) (s : ByteArray) : Below w.heap.size w (Lib.bytesWorld w 5 s) := ⟨by simp [Lib.bytesWorld, World.freeze]; rfl, by simp [Lib.bytesWorld, World.freeze], by simp [Lib.bytesWorld, World.freeze]; rfl, by rw [Lib.bytesWorld_size]; omega, fun k hk => Lib.bytesWorld_at_old w _ s k hk⟩
theorem bw_cell (w : World) (s : ByteArray) (j : Nat) (hj : j < s.size) : (Lib.bytesWorld w 5 s).cell? ⟨w.heap.size, j, none⟩ = some (.int .u8 (B s j : Nat)) := by
  rw [Lib.bytesWorld_cell w _ s j hj]
  unfold B
  rw [List.getD_eq_getElem?_getD]
theorem hex_bd {s : ByteArray} {k n : Nat} (h : HexTo s k n) (hk : k < 4) : n ≤ 4095 := by
  have h1 := h.2.1
  have h2 : 16 ^ k ≤ 16 ^ 3 := Nat.pow_le_pow_right (by decide) (by omega)
  omega

set_option maxRecDepth 100000 in
set_option maxHeartbeats 4000000 in
theorem hex_any (s : ByteArray) (w : World) (hs : s.size = 4) :
    Calls Tryz.prog 214 #[.string s, .int .i64 16, .int .i64 16] w fun e w' => e = .returned (hexR (hexF 0 s.data.toList)) ∧ Below w.heap.size w w' := by
  have he := empty_no hs
  have hcv := Lib.run_convert_string_bytes (P := Tryz.prog) w 9 22 5 s Tryz.underlying9 Tryz.underlying22 Tryz.underlying5
  have hcell := bw_cell w s
  have hbel := bw_below w s
  obtain ⟨W1, hW⟩ : ∃ W1, Lib.bytesWorld w 5 s = W1 := ⟨_, rfl⟩
  rw [hW] at hcv hcell hbel
  obtain ⟨cap, hcap⟩ : ∃ cap, grownCap w s.size 0 5 = cap := ⟨_, rfl⟩
  rw [hcap] at hcv
  rw [hs] at hcv hcell
  have HB := Lib.hid hbel
  have HS := Lib.hid hs
  have H0 : Hid (HexTo s 0 0) := Lib.hid ⟨Nat.zero_le _, by decide, rfl⟩
  clear hW hcap hbel hs
  go_enter Tryz.func214, Tryz.ntmps214
  go_wp2
  go_loopw [12, 13, 101] (fun us n i wr => ∃ k m : Nat, us = .bool false ∧ n = .int .u64 (m : Int) ∧ i = .int .i64 (k : Int) ∧ k ≤ 4 ∧ wr = W1 ∧ Hid (HexTo s k m)) (fun _ _ i _ => 4 - (intOf i).toNat)
  case atStart => exact ⟨0, 0, rfl, rfl, rfl, by omega, rfl, H0⟩
  case round =>
    obtain ⟨k, m, rfl, rfl, rfl, hk, rfl, hx⟩ := hrel
    by_cases hlt : k < 4
    · have hki : (k : Int) < 4 := by omega
      have hm := hex_bd hx.out hlt
      have hm1 : (m : Int) ≤ 4095 := by omega
      have hcl := hcell k hlt
      have hb := B_lt s k
      obtain ⟨b, hbe⟩ : ∃ b, B s k = b := ⟨_, rfl⟩
      rw [hbe] at hcl hb
      obtain ⟨l, hor, -, hdig⟩ := or32 ⟨b, hb⟩
      obtain ⟨lv, hlb⟩ := l
      simp only at hor hdig
      have HBE := Lib.hid hbe
      have n95 : b = 95 → lv = 127 := by
        rintro rfl
        have e : bits .or .u8 (95 : Int) 32 = 127 := by decide +kernel
        have h2 : bits .or .u8 ((95 : Nat) : Int) 32 = 127 := e
        rw [hor] at h2
        omega
      have hlow := fun w => Tryz.internal_strconv_lower (b : Int) w
      rw [hor] at hlow
      clear hbe hor hcell hcv
      by_cases c1 : 48 ≤ b ∧ b ≤ 57
      · have g1 : 48 ≤ (b : Int) := by omega
        have g2 : (b : Int) ≤ 57 := by omega
        have f0 : ((b : Int) == 95) = false := by simp; omega
        have f1 : decide (48 ≤ (b : Int)) = true := by simp; omega
        have f2 : decide ((b : Int) ≤ 57) = true := by simp; omega
        have hd : hexN (B s k) = some (b - 48) := by rw [HBE.out, hdig]; rw [if_pos c1]
        have HX : Hid (HexTo s (k + 1) (m * 16 + (b - 48))) := Lib.hid (hx.out.step (by rw [HS.out]; exact hlt) hd)
        obtain ⟨d, hde⟩ : ∃ d, d = (b - 48) := ⟨_, rfl⟩
        have e1 : decide (1152921504606846976 ≤ (m : Int)) = false := by simp; omega
        have e2 : decide ((m : Int) * 16 + ((b : Int) - 48) < (m : Int) * 16) = false := by simp; omega
        have e3 : decide (65535 < (m : Int) * 16 + ((b : Int) - 48)) = false := by simp; omega
        have e4 : decide (16 ≤ (b : Int) - 48) = false := by simp; omega
        clear hd hdig n95 hm hb hlow
        go_wp2_with (fail)
        go_roundw
        case rel => exact ⟨k + 1, m * 16 + (b - 48), rfl, congrArg (Value.int .u64) (by omega), by go_num, by omega, trivial, HX⟩
        case measure => simp [intOf]; omega
      · by_cases h95 : b = 95
        · have l7 := n95 h95
          subst h95 l7
          have hd : hexN (B s k) = none := by rw [HBE.out]; rfl
          have HX := Lib.hid (hx.out.halt (by rw [HS.out]; exact hlt) hd)
          clear hd hdig hm hb hlb n95 c1
          go_wp2_with (go_at_call 228; refine (hlow _).mono ?_; rintro e w' ⟨rfl, rfl⟩)
          go_ret2
          exact ⟨by rw [HX.out]; rfl, HB.out⟩
        · have e0 : ((b : Int) == 95) = false := by simp; omega
          by_cases c2 : b < 48
          · have p1 : decide (48 ≤ (b : Int)) = false := by simp; omega
            by_cases l1 : lv < 97
            · have q1 : decide (97 ≤ (lv : Int)) = false := by simp; omega
              have hd : hexN (B s k) = none := by rw [HBE.out, hdig, if_neg c1, if_neg (by omega)]
              have HX := Lib.hid (hx.out.halt (by rw [HS.out]; exact hlt) hd)
              clear hd hdig hm hb l1 hlb n95
              go_wp2_with (go_at_call 228; refine (hlow _).mono ?_; rintro e w' ⟨rfl, rfl⟩)
              go_ret2
              exact ⟨by rw [HX.out]; rfl, HB.out⟩
            · have q1 : decide (97 ≤ (lv : Int)) = true := by simp; omega
              by_cases l2 : 122 < lv
              · have q2 : decide ((lv : Int) ≤ 122) = false := by simp; omega
                have hd : hexN (B s k) = none := by rw [HBE.out, hdig, if_neg c1, if_neg (by omega)]
                have HX := Lib.hid (hx.out.halt (by rw [HS.out]; exact hlt) hd)
                clear hd hdig hm hb l1 l2 hlb n95
                go_wp2_with (go_at_call 228; refine (hlow _).mono ?_; rintro e w' ⟨rfl, rfl⟩)
                go_ret2
                exact ⟨by rw [HX.out]; rfl, HB.out⟩
              · have q2 : decide ((lv : Int) ≤ 122) = true := by simp; omega
                have q3 : 97 ≤ (lv : Int) := by omega
                have q4 : (lv : Int) ≤ 122 := by omega
                by_cases l3 : 102 < lv
                · have e4 : decide (16 ≤ (lv : Int) - 97 + 10) = true := by simp; omega
                  have hd : hexN (B s k) = none := by rw [HBE.out, hdig, if_neg c1, if_neg (by omega)]
                  have HX := Lib.hid (hx.out.halt (by rw [HS.out]; exact hlt) hd)
                  clear hd hdig hm hb l1 l2 l3 hlb n95
                  go_wp2_with (go_at_call 228; refine (hlow _).mono ?_; rintro e w' ⟨rfl, rfl⟩)
                  go_ret2
                  exact ⟨by rw [HX.out]; rfl, HB.out⟩
                · have e4 : decide (16 ≤ (lv : Int) - 97 + 10) = false := by simp; omega
                  have hd : hexN (B s k) = some (lv - 87) := by rw [HBE.out, hdig, if_neg c1, if_pos (by omega)]
                  have HX : Hid (HexTo s (k + 1) (m * 16 + (lv - 87))) := Lib.hid (hx.out.step (by rw [HS.out]; exact hlt) hd)
                  have e1 : decide (1152921504606846976 ≤ (m : Int)) = false := by simp; omega
                  have e2 : decide ((m : Int) * 16 + ((lv : Int) - 97 + 10) < (m : Int) * 16) = false := by simp; omega
                  have e3 : decide (65535 < (m : Int) * 16 + ((lv : Int) - 97 + 10)) = false := by simp; omega
                  have q5 : (lv : Int) ≤ 102 := by omega
                  have hql : m * 16 + (lv - 87) = m * 16 + (lv - 87) ∧ 97 ≤ lv := ⟨rfl, by omega⟩
                  have HQ := Lib.hid hql
                  clear hd hdig hm hb l1 l2 l3 hlb n95 hql
                  go_wp2_with (go_at_call 228; refine (hlow _).mono ?_; rintro e w' ⟨rfl, rfl⟩)
                  go_roundw
                  case rel => exact ⟨k + 1, m * 16 + (lv - 87), rfl, congrArg (Value.int .u64) (by have := HQ.out.2; omega), by go_num, by omega, trivial, HX⟩
                  case measure => simp [intOf]; omega
          · have p1 : decide (48 ≤ (b : Int)) = true := by simp; omega
            have p2 : decide ((b : Int) ≤ 57) = false := by simp; omega
            by_cases l1 : lv < 97
            · have q1 : decide (97 ≤ (lv : Int)) = false := by simp; omega
              have hd : hexN (B s k) = none := by rw [HBE.out, hdig, if_neg c1, if_neg (by omega)]
              have HX := Lib.hid (hx.out.halt (by rw [HS.out]; exact hlt) hd)
              clear hd hdig hm hb l1 hlb n95
              go_wp2_with (go_at_call 228; refine (hlow _).mono ?_; rintro e w' ⟨rfl, rfl⟩)
              go_ret2
              exact ⟨by rw [HX.out]; rfl, HB.out⟩
            · have q1 : decide (97 ≤ (lv : Int)) = true := by simp; omega
              by_cases l2 : 122 < lv
              · have q2 : decide ((lv : Int) ≤ 122) = false := by simp; omega
                have hd : hexN (B s k) = none := by rw [HBE.out, hdig, if_neg c1, if_neg (by omega)]
                have HX := Lib.hid (hx.out.halt (by rw [HS.out]; exact hlt) hd)
                clear hd hdig hm hb l1 l2 hlb n95
                go_wp2_with (go_at_call 228; refine (hlow _).mono ?_; rintro e w' ⟨rfl, rfl⟩)
                go_ret2
                exact ⟨by rw [HX.out]; rfl, HB.out⟩
              · have q2 : decide ((lv : Int) ≤ 122) = true := by simp; omega
                have q3 : 97 ≤ (lv : Int) := by omega
                have q4 : (lv : Int) ≤ 122 := by omega
                by_cases l3 : 102 < lv
                · have e4 : decide (16 ≤ (lv : Int) - 97 + 10) = true := by simp; omega
                  have hd : hexN (B s k) = none := by rw [HBE.out, hdig, if_neg c1, if_neg (by omega)]
                  have HX := Lib.hid (hx.out.halt (by rw [HS.out]; exact hlt) hd)
                  clear hd hdig hm hb l1 l2 l3 hlb n95
                  go_wp2_with (go_at_call 228; refine (hlow _).mono ?_; rintro e w' ⟨rfl, rfl⟩)
                  go_ret2
                  exact ⟨by rw [HX.out]; rfl, HB.out⟩
                · have e4 : decide (16 ≤ (lv : Int) - 97 + 10) = false := by simp; omega
                  have hd : hexN (B s k) = some (lv - 87) := by rw [HBE.out, hdig, if_neg c1, if_pos (by omega)]
                  have HX : Hid (HexTo s (k + 1) (m * 16 + (lv - 87))) := Lib.hid (hx.out.step (by rw [HS.out]; exact hlt) hd)
                  have e1 : decide (1152921504606846976 ≤ (m : Int)) = false := by simp; omega
                  have e2 : decide ((m : Int) * 16 + ((lv : Int) - 97 + 10) < (m : Int) * 16) = false := by simp; omega
                  have e3 : decide (65535 < (m : Int) * 16 + ((lv : Int) - 97 + 10)) = false := by simp; omega
                  have q5 : (lv : Int) ≤ 102 := by omega
                  have hql : m * 16 + (lv - 87) = m * 16 + (lv - 87) ∧ 97 ≤ lv := ⟨rfl, by omega⟩
                  have HQ := Lib.hid hql
                  clear hd hdig hm hb l1 l2 l3 hlb n95 hql
                  go_wp2_with (go_at_call 228; refine (hlow _).mono ?_; rintro e w' ⟨rfl, rfl⟩)
                  go_roundw
                  case rel => exact ⟨k + 1, m * 16 + (lv - 87), rfl, congrArg (Value.int .u64) (by have := HQ.out.2; omega), by go_num, by omega, trivial, HX⟩
                  case measure => simp [intOf]; omega
    · obtain rfl : k = 4 := by omega
      have HX := Lib.hid (hx.out.done HS.out.symm)
      go_wp2
      go_ret2
      exact ⟨by rw [HX.out]; rfl, HB.out⟩
end Go.Proofs.YtkknglmpdmhhjaaGreatDoor.Lx

/-
  strconv.ParseUint's door; lex.escape.
-/
namespace Go.Proofs.YtkknglmpdmhhjaaGreatDoor.Lx
open Go.RowKit Go.Proofs.YtkknglmpdmhhjaaGreatDoor.Uni
set_option linter.unusedVariables false
set_option linter.unusedSimpArgs false

theorem es_cell {w : World} (h : Nums.Lw w) : ∃ t p, w.cell? ⟨3, 0, none⟩ = some (.iface t p) := by
  obtain ⟨t, p, h2⟩ := h.es
  exact ⟨t, p, by rw [World.var?_cell gSyn h2 0]; rfl⟩

set_option maxHeartbeats 1000000 in
theorem pu_yes (s : ByteArray) (w : World) (hs : s.size = 4) (u : Nat) (h : hexF 0 s.data.toList = some u) :
    Calls Tryz.prog 186 #[.string s, .int .i64 16, .int .i64 16] w fun e w' => e = .returned (.tuple #[.int .u64 (u : Int), .nilIface]) ∧ Below w.heap.size w w' := by
  have hc := fun w => hex_any s w hs
  rw [h] at hc
  clear h hs
  go_enter Tryz.func186, Tryz.ntmps186
  go_wp2_with (go_at_call 214; refine (hc _).mono ?_; rintro e w' ⟨rfl, hb⟩; unfold hexR)
  go_ret2
  exact ⟨rfl, hb⟩

set_option maxHeartbeats 1000000 in
theorem pu_no (s : ByteArray) (w : World) (hs : s.size = 4) (h : hexF 0 s.data.toList = none) (hF : Nums.Lw w) :
    Calls Tryz.prog 186 #[.string s, .int .i64 16, .int .i64 16] w fun e w' => (∃ N, e = .returned (.tuple #[.int .u64 0, .iface 197 (.pointer (some ⟨N, 0, none⟩))])) ∧ Below w.heap.size w w' := by
  have hc := fun w => hex_any s w hs
  rw [h] at hc
  obtain ⟨t, p, hcell⟩ := es_cell hF
  have hte := fun (w' : World) (hb : Below w.heap.size w w') => Tryz.strconv_toError_syntax ⟨#[80, 97, 114, 115, 101, 85, 105, 110, 116]⟩ s 16 16 (.iface t p) w' (by omega) (by rw [hb.cell (p := ⟨3, 0, none⟩) (World.block_lt_of_cell? w _ hcell)]; exact hcell) (.inr ⟨t, p, rfl⟩)
  clear h hs hF hcell
  go_enter Tryz.func186, Tryz.ntmps186
  go_wp2_with (first | (go_at_call 214; refine (hc _).mono ?_; rintro e w' ⟨rfl, hb⟩; unfold hexR) | (go_at_call 211; refine (hte _ hb).mono ?_; rintro e w2 ⟨N, rfl, -, -, hb2⟩))
  go_ret2
  exact ⟨⟨N, rfl⟩, hb.trans (hb2.mono hb.size)⟩

theorem two_list {s : ByteArray} (h : 2 ≤ s.size) : ∃ (a c : UInt8) (r : By), s.data.toList = a :: c :: r ∧ c.toNat = B s 1 ∧ r = s.data.toList.drop 2 := by
  obtain ⟨a, ha, h0⟩ := drop_B s 0 (by omega)
  obtain ⟨c, hc, h1⟩ := drop_B s 1 (by omega)
  refine ⟨a, c, s.data.toList.drop 2, ?_, hc, rfl⟩
  rw [List.drop_zero] at h0
  exact h0.trans (congrArg (a :: ·) h1)
theorem u8_eq {c : UInt8} {n b : Nat} (h : c.toNat = b) (hn : n < 256) : c = UInt8.ofNat n ↔ b = n := by
  subst h
  constructor
  · rintro rfl; simp; omega
  · intro h; apply UInt8.toNat_inj.1; simp; omega
/-- escF by the number of the second byte. -/
theorem esc_B {s : ByteArray} (h : 2 ≤ s.size) : escF s.data.toList =
    if B s 1 = 110 then (10, 2) else if B s 1 = 116 then (9, 2) else if B s 1 = 92 ∨ B s 1 = 34 ∨ B s 1 = 39 then (B s 1, 2)
    else if B s 1 = 117 then (if s.size < 6 then (0, 0) else match hexF 0 ((s.data.toList.drop 2).take 4) with | none => (0, 0) | some u => (u, 6))
    else (0, 0) := by
  obtain ⟨a, c, r, hl, hc, hr⟩ := two_list h
  have e : escF s.data.toList = escF (a :: c :: r) := by rw [hl]
  rw [e, ← hr]
  simp only [escF]
  have k (n : Nat) (hn : n < 256) := u8_eq hc hn
  have k1 : c = 110 ↔ B s 1 = 110 := k 110 (by decide)
  have k2 : c = 116 ↔ B s 1 = 116 := k 116 (by decide)
  have k3 : c = 92 ↔ B s 1 = 92 := k 92 (by decide)
  have k4 : c = 34 ↔ B s 1 = 34 := k 34 (by decide)
  have k5 : c = 39 ↔ B s 1 = 39 := k 39 (by decide)
  have k6 : c = 117 ↔ B s 1 = 117 := k 117 (by decide)
  simp only [k1, k2, k3, k4, k5, k6, hc]
  have hz : r.length < 4 ↔ s.size < 6 := by rw [hr, List.length_drop, lsz]; omega
  simp only [hz]
  rfl
theorem esc_short {s : ByteArray} (h : s.size < 2) : escF s.data.toList = (0, 0) := by
  have hl := lsz s
  match hm : s.data.toList with
  | [] => rfl
  | [a] => rfl
  | a :: b :: r => rw [hm] at hl; simp at hl; omega

def EscPost (s : ByteArray) (w : World) (e : Ending) (w' : World) : Prop := e = .returned (.tuple #[.int .u16 ((escF s.data.toList).1 : Int), .int .i64 ((escF s.data.toList).2 : Int)]) ∧ Below w.heap.size w w'
theorem esc_post {s : ByteArray} {w w' : World} {u n : Nat} {x y : Int} (h : escF s.data.toList = (u, n)) (hx : x = u) (hy : y = n) (hb : Below w.heap.size w w') : EscPost s w (.returned (.tuple #[.int .u16 x, .int .i64 y])) w' := by
  subst hx hy
  unfold EscPost
  rw [h]
  exact ⟨rfl, hb⟩

theorem escape_short (s : ByteArray) (w : World) (h : s.size < 2) : Calls Tryz.prog 133 #[.string s] w (EscPost s w) := by
  have HE := Lib.hid (esc_short h)
  have hi : (s.size : Int) < 2 := by omega
  clear h
  go_enter Tryz.func133, Tryz.ntmps133
  go_wp2
  go_ret2
  exact esc_post HE.out rfl rfl (Below.refl _ _)

set_option maxHeartbeats 1000000 in
theorem escape_110 (s : ByteArray) (w : World) (hs : s.size ≤ 1000000) (h : 2 ≤ s.size) (hc : B s 1 = 110) : Calls Tryz.prog 133 #[.string s] w (EscPost s w) := by
  have hB := gB s
  have hi : (2 : Int) ≤ s.size := by omega
  have b110 : (((B s 1 : Nat) : Int) == 110) = true := by simp; omega
  have he : escF s.data.toList = (10, 2) := by rw [esc_B h]; simp [hc]
  have HE := Lib.hid he
  have HC := Lib.hid hc
  have h1s : 1 < s.size := by omega
  clear he hc
  go_enter Tryz.func133, Tryz.ntmps133
  go_wp2
  go_quiet (fail)
  go_wp2
  go_ret2
  exact esc_post HE.out rfl rfl (below_drewN (Below.refl _ _) _)

set_option maxHeartbeats 1000000 in
theorem escape_116 (s : ByteArray) (w : World) (hs : s.size ≤ 1000000) (h : 2 ≤ s.size) (hc : B s 1 = 116) : Calls Tryz.prog 133 #[.string s] w (EscPost s w) := by
  have hB := gB s
  have hi : (2 : Int) ≤ s.size := by omega
  have b110 : (((B s 1 : Nat) : Int) == 110) = false := by simp; omega
  have b116 : (((B s 1 : Nat) : Int) == 116) = true := by simp; omega
  have he : escF s.data.toList = (9, 2) := by rw [esc_B h]; simp [hc]
  have HE := Lib.hid he
  have HC := Lib.hid hc
  have h1s : 1 < s.size := by omega
  clear he hc
  go_enter Tryz.func133, Tryz.ntmps133
  go_wp2
  go_quiet (fail)
  go_wp2
  go_ret2
  exact esc_post HE.out rfl rfl (below_drewN (Below.refl _ _) _)

set_option maxHeartbeats 1000000 in
theorem escape_92 (s : ByteArray) (w : World) (hs : s.size ≤ 1000000) (h : 2 ≤ s.size) (hc : B s 1 = 92) : Calls Tryz.prog 133 #[.string s] w (EscPost s w) := by
  have hB := gB s
  have hi : (2 : Int) ≤ s.size := by omega
  have b110 : (((B s 1 : Nat) : Int) == 110) = false := by simp; omega
  have b116 : (((B s 1 : Nat) : Int) == 116) = false := by simp; omega
  have b92 : (((B s 1 : Nat) : Int) == 92) = true := by simp; omega
  have he : escF s.data.toList = (92, 2) := by rw [esc_B h]; simp [hc]
  have HE := Lib.hid he
  have HC := Lib.hid hc
  have h1s : 1 < s.size := by omega
  clear he hc
  go_enter Tryz.func133, Tryz.ntmps133
  go_wp2
  go_quiet (fail)
  go_wp2
  go_ret2
  exact esc_post HE.out (by rw [HC.out]; rfl) rfl (below_drewN (Below.refl _ _) _)

set_option maxHeartbeats 1000000 in
theorem escape_34 (s : ByteArray) (w : World) (hs : s.size ≤ 1000000) (h : 2 ≤ s.size) (hc : B s 1 = 34) : Calls Tryz.prog 133 #[.string s] w (EscPost s w) := by
  have hB := gB s
  have hi : (2 : Int) ≤ s.size := by omega
  have b110 : (((B s 1 : Nat) : Int) == 110) = false := by simp; omega
  have b116 : (((B s 1 : Nat) : Int) == 116) = false := by simp; omega
  have b92 : (((B s 1 : Nat) : Int) == 92) = false := by simp; omega
  have b34 : (((B s 1 : Nat) : Int) == 34) = true := by simp; omega
  have he : escF s.data.toList = (34, 2) := by rw [esc_B h]; simp [hc]
  have HE := Lib.hid he
  have HC := Lib.hid hc
  have h1s : 1 < s.size := by omega
  clear he hc
  go_enter Tryz.func133, Tryz.ntmps133
  go_wp2
  go_quiet (fail)
  go_wp2
  go_ret2
  exact esc_post HE.out (by rw [HC.out]; rfl) rfl (below_drewN (Below.refl _ _) _)

set_option maxHeartbeats 1000000 in
theorem escape_39 (s : ByteArray) (w : World) (hs : s.size ≤ 1000000) (h : 2 ≤ s.size) (hc : B s 1 = 39) : Calls Tryz.prog 133 #[.string s] w (EscPost s w) := by
  have hB := gB s
  have hi : (2 : Int) ≤ s.size := by omega
  have b110 : (((B s 1 : Nat) : Int) == 110) = false := by simp; omega
  have b116 : (((B s 1 : Nat) : Int) == 116) = false := by simp; omega
  have b92 : (((B s 1 : Nat) : Int) == 92) = false := by simp; omega
  have b34 : (((B s 1 : Nat) : Int) == 34) = false := by simp; omega
  have b39 : (((B s 1 : Nat) : Int) == 39) = true := by simp; omega
  have he : escF s.data.toList = (39, 2) := by rw [esc_B h]; simp [hc]
  have HE := Lib.hid he
  have HC := Lib.hid hc
  have h1s : 1 < s.size := by omega
  clear he hc
  go_enter Tryz.func133, Tryz.ntmps133
  go_wp2
  go_quiet (fail)
  go_wp2
  go_ret2
  exact esc_post HE.out (by rw [HC.out]; rfl) rfl (below_drewN (Below.refl _ _) _)

set_option maxHeartbeats 1000000 in
theorem escape_other (s : ByteArray) (w : World) (hs : s.size ≤ 1000000) (h : 2 ≤ s.size) (hc : B s 1 ≠ 110 ∧ B s 1 ≠ 116 ∧ B s 1 ≠ 92 ∧ B s 1 ≠ 34 ∧ B s 1 ≠ 39 ∧ B s 1 ≠ 117) : Calls Tryz.prog 133 #[.string s] w (EscPost s w) := by
  have hB := gB s
  have hi : (2 : Int) ≤ s.size := by omega
  have b110 : (((B s 1 : Nat) : Int) == 110) = false := by simp; omega
  have b116 : (((B s 1 : Nat) : Int) == 116) = false := by simp; omega
  have b92 : (((B s 1 : Nat) : Int) == 92) = false := by simp; omega
  have b34 : (((B s 1 : Nat) : Int) == 34) = false := by simp; omega
  have b39 : (((B s 1 : Nat) : Int) == 39) = false := by simp; omega
  have b117 : (((B s 1 : Nat) : Int) == 117) = false := by simp; omega
  have he : escF s.data.toList = (0, 0) := by rw [esc_B h]; simp [hc]
  have HE := Lib.hid he
  have h1s : 1 < s.size := by omega
  clear he hc
  go_enter Tryz.func133, Tryz.ntmps133
  go_wp2
  go_quiet (fail)
  go_wp2
  go_ret2
  exact esc_post HE.out rfl rfl (below_drewN (Below.refl _ _) _)

set_option maxHeartbeats 1000000 in
theorem escape_ushort (s : ByteArray) (w : World) (hs : s.size ≤ 1000000) (h : 2 ≤ s.size) (hc : B s 1 = 117) (hz : s.size < 6) : Calls Tryz.prog 133 #[.string s] w (EscPost s w) := by
  have hB := gB s
  have hi : (2 : Int) ≤ s.size := by omega
  have b110 : (((B s 1 : Nat) : Int) == 110) = false := by simp; omega
  have b116 : (((B s 1 : Nat) : Int) == 116) = false := by simp; omega
  have b92 : (((B s 1 : Nat) : Int) == 92) = false := by simp; omega
  have b34 : (((B s 1 : Nat) : Int) == 34) = false := by simp; omega
  have b39 : (((B s 1 : Nat) : Int) == 39) = false := by simp; omega
  have b117 : (((B s 1 : Nat) : Int) == 117) = true := by simp; omega
  have he : escF s.data.toList = (0, 0) := by rw [esc_B h]; simp [hc, hz]
  have HE := Lib.hid he
  have h1s : 1 < s.size := by omega
  have hzi : (s.size : Int) - 2 < 4 := by omega
  clear he hc hz
  go_enter Tryz.func133, Tryz.ntmps133
  go_wp2
  go_quiet (fail)
  go_wp2
  go_ret2
  exact esc_post HE.out rfl rfl (below_drewN (Below.refl _ _) _)

theorem ext_four (s : ByteArray) (h : 6 ≤ s.size) : ((s.extract 2 s.size).extract 0 4).size = 4 ∧ ((s.extract 2 s.size).extract 0 4).data.toList = (s.data.toList.drop 2).take 4 := by
  constructor
  · simp; omega
  · rw [ext_take, ext_drop]
theorem hexF_lt : ∀ (l : By) (u v : Nat), hexF u l = some v → v < (u + 1) * 16 ^ l.length
  | [], u, v, h => by simp only [hexF] at h; cases h; simp
  | c :: r, u, v, h => by
    rw [hexF_cons] at h
    cases hd : hexN c.toNat with
    | none => rw [hd] at h; cases h
    | some d =>
      rw [hd] at h
      have := hexF_lt r _ v h
      have hd2 := hexN_lt hd
      rw [List.length_cons, Nat.pow_succ]
      have e : (u * 16 + d + 1) * 16 ^ r.length ≤ ((u + 1) * 16) * 16 ^ r.length := Nat.mul_le_mul_right _ (by omega)
      rw [Nat.mul_assoc, Nat.mul_comm 16] at e
      omega

set_option maxHeartbeats 1000000 in
theorem escape_uyes (s : ByteArray) (w : World) (hs : s.size ≤ 1000000) (h : 2 ≤ s.size) (hc : B s 1 = 117) (hz : 6 ≤ s.size) (u : Nat) (hu : hexF 0 ((s.data.toList.drop 2).take 4) = some u) : Calls Tryz.prog 133 #[.string s] w (EscPost s w) := by
  have hB := gB s
  have hi : (2 : Int) ≤ s.size := by omega
  have b110 : (((B s 1 : Nat) : Int) == 110) = false := by simp; omega
  have b116 : (((B s 1 : Nat) : Int) == 116) = false := by simp; omega
  have b92 : (((B s 1 : Nat) : Int) == 92) = false := by simp; omega
  have b34 : (((B s 1 : Nat) : Int) == 34) = false := by simp; omega
  have b39 : (((B s 1 : Nat) : Int) == 39) = false := by simp; omega
  have b117 : (((B s 1 : Nat) : Int) == 117) = true := by simp; omega
  have he : escF s.data.toList = (u, 6) := by rw [esc_B h, if_neg (by omega), if_neg (by omega), if_neg (by omega), if_pos hc, if_neg (by omega), hu]
  have hub : u < 65536 := by
    have := hexF_lt _ _ _ hu
    have e : ((s.data.toList.drop 2).take 4).length = 4 := by rw [List.length_take, List.length_drop, lsz]; omega
    rw [e] at this
    omega
  obtain ⟨x1, x2⟩ := ext_four s hz
  have hp := fun w => pu_yes _ w x1 u (by rw [x2]; exact hu)
  have HE := Lib.hid he
  have h1s : 1 < s.size := by omega
  have hzi : (4 : Int) ≤ (s.size : Int) - 2 := by omega
  have hui : (u : Int) ≤ 65535 := by omega
  clear he hc hz hu hub x1 x2
  go_enter Tryz.func133, Tryz.ntmps133
  go_wp2
  go_quiet (fail)
  go_wp2_with (go_at_call 186; refine (hp _).mono ?_; rintro e w' ⟨rfl, hb⟩)
  go_ret2
  exact esc_post HE.out rfl rfl ((below_drewN (Below.refl _ _) _).trans hb)

set_option maxHeartbeats 1000000 in
theorem escape_uno (s : ByteArray) (w : World) (hs : s.size ≤ 1000000) (h : 2 ≤ s.size) (hc : B s 1 = 117) (hz : 6 ≤ s.size) (hu : hexF 0 ((s.data.toList.drop 2).take 4) = none) (hF : Nums.Lw w) : Calls Tryz.prog 133 #[.string s] w (EscPost s w) := by
  have hB := gB s
  have hi : (2 : Int) ≤ s.size := by omega
  have b110 : (((B s 1 : Nat) : Int) == 110) = false := by simp; omega
  have b116 : (((B s 1 : Nat) : Int) == 116) = false := by simp; omega
  have b92 : (((B s 1 : Nat) : Int) == 92) = false := by simp; omega
  have b34 : (((B s 1 : Nat) : Int) == 34) = false := by simp; omega
  have b39 : (((B s 1 : Nat) : Int) == 39) = false := by simp; omega
  have b117 : (((B s 1 : Nat) : Int) == 117) = true := by simp; omega
  have he : escF s.data.toList = (0, 0) := by rw [esc_B h, if_neg (by omega), if_neg (by omega), if_neg (by omega), if_pos hc, if_neg (by omega), hu]
  obtain ⟨x1, x2⟩ := ext_four s hz
  have hp := fun (w' : World) (hb : Below w.heap.size w w') => pu_no _ w' x1 (by rw [x2]; exact hu) (hF.below hb)
  have HE := Lib.hid he
  have h1s : 1 < s.size := by omega
  have hzi : (4 : Int) ≤ (s.size : Int) - 2 := by omega
  clear he hc hz hu x1 x2 hF
  go_enter Tryz.func133, Tryz.ntmps133
  go_wp2
  go_quiet (fail)
  go_wp2_with (go_at_call 186; refine (hp _ (below_drewN (Below.refl _ _) _)).mono ?_; rintro e w' ⟨⟨N, rfl⟩, hb⟩)
  go_ret2
  exact esc_post HE.out rfl rfl ((below_drewN (Below.refl _ _) _).trans hb)

theorem escape_any (s : ByteArray) (w : World) (hs : s.size ≤ 1000000) (hF : Nums.Lw w) : Calls Tryz.prog 133 #[.string s] w (EscPost s w) := by
  by_cases h : s.size < 2
  · exact escape_short s w h
  · have h2 : 2 ≤ s.size := by omega
    rcases (by omega : B s 1 = 110 ∨ B s 1 = 116 ∨ B s 1 = 92 ∨ B s 1 = 34 ∨ B s 1 = 39 ∨ B s 1 = 117 ∨ (B s 1 ≠ 110 ∧ B s 1 ≠ 116 ∧ B s 1 ≠ 92 ∧ B s 1 ≠ 34 ∧ B s 1 ≠ 39 ∧ B s 1 ≠ 117)) with c | c | c | c | c | c | c
    · exact escape_110 s w hs h2 c
    · exact escape_116 s w hs h2 c
    · exact escape_92 s w hs h2 c
    · exact escape_34 s w hs h2 c
    · exact escape_39 s w hs h2 c
    · by_cases hz : s.size < 6
      · exact escape_ushort s w hs h2 c hz
      · cases hu : hexF 0 ((s.data.toList.drop 2).take 4) with
        | some u => exact escape_uyes s w hs h2 c (by omega) u hu
        | none => exact escape_uno s w hs h2 c (by omega) hu hF
    · exact escape_other s w hs h2 c
end Go.Proofs.YtkknglmpdmhhjaaGreatDoor.Lx
