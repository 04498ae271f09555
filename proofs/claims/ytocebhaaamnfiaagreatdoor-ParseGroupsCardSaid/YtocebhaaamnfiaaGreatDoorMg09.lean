/-
  Texts of this seat in build order: LxSign, LxHex.
-/
import Derived.Test.YtocebhaaamnfiaaGreatDoorMg08
import Derived.Deep.MidRow
import Derived.Lib.ConvBytes
/-
  lex.sign; what the listed variables give, kept.
-/
namespace Go.Proofs.YtocebhaaamnfiaaGreatDoor.Lx
open Go.RowKit Go.Proofs.YtocebhaaamnfiaaGreatDoor.Uni
set_option linter.unusedVariables false
set_option linter.unusedSimpArgs false

/-- The punctuators as cells. -/
def sgL : List Value := signs.map fun s => Value.string (bs s)
def sgA : Array Value := sgL.toArray

/-- What a call of the lexer reads of the package's and the library's variables. -/
structure Fa (w : World) : Prop where
  lw : Nums.Lw w
  ml : Ml w
  sg : w.rangeAt 0 0 sgL

theorem var_keep {w w' : World} {n : String} {g : Nat} {cs : Array Value} (hg : Tryz.prog.globalNamed n = some g) (h : w.var? Tryz.prog n = some cs) (hk : g < w.heap.size → w'.heap[g]? = w.heap[g]?) : w'.var? Tryz.prog n = some cs := by
  unfold World.var? at *
  simp only [hg, Option.bind_some] at h ⊢
  have hlt : g < w.heap.size := by
    rcases Nat.lt_or_ge g w.heap.size with h' | h'
    · exact h'
    · rw [Array.getElem?_eq_none h'] at h; cases h
  rw [hk hlt]
  exact h
theorem cell_keep {w w' : World} {b o : Nat} {v : Value} (h : w.cell? ⟨b, o, none⟩ = some v) (hk : b < w.heap.size → w'.heap[b]? = w.heap[b]?) : w'.cell? ⟨b, o, none⟩ = some v := by
  rw [World.cell?_of_block (w := w) (hk (World.block_lt_of_cell? w _ h))]
  exact h
theorem gPow : Tryz.prog.globalNamed "internal/strconv.uint64pow10" = some 5 := by kernel_rfl
theorem gSyn : Tryz.prog.globalNamed "strconv.ErrSyntax" = some 3 := by kernel_rfl
theorem gRan : Tryz.prog.globalNamed "strconv.ErrRange" = some 4 := by kernel_rfl

/-- It speaks of the first few blocks alone. -/
theorem Fa.keep {w w' : World} (h : Fa w) (hk : ∀ k, k < 7 → k < w.heap.size → w'.heap[k]? = w.heap[k]?) : Fa w' := by
  obtain ⟨⟨h1, ⟨t2, p2, h2⟩, ⟨t3, p3, h3⟩⟩, ⟨m, h4⟩, h5⟩ := h
  refine ⟨⟨var_keep gPow h1 (hk _ (by decide)), ⟨t2, p2, var_keep gSyn h2 (hk _ (by decide))⟩, ⟨t3, p3, var_keep gRan h3 (hk _ (by decide))⟩⟩, ⟨m, cell_keep h4 (hk _ (by decide))⟩, fun j v hj => cell_keep (h5 j v hj) (hk _ (by decide))⟩
theorem Fa.gb {g : Nat} {w w' : World} (h : Fa w) (hg : 7 ≤ g) (k : GB g w w') : Fa w' := h.keep fun i hi hl => k.block i hl (by intro e; cases e; omega)
theorem Fa.below {w w' : World} (h : Fa w) (k : Below w.heap.size w w') : Fa w' := h.keep fun i _ hl => k.block i hl
theorem Fa.later {B : Nat} {w w' : World} (h : Fa w) (hB : 7 ≤ B) (k : Below B w w') : Fa w' := h.keep fun i hi _ => k.block i (by omega)

theorem size_sg : (Tryz.prog.info? 104).map (·.size) = some 26 := by kernel_rfl
def LdS (v : Value) : Sem Value := Instr.loadAt 104 v
theorem ldS (v : Value) : Instr.loadAt 104 v = LdS v := (rfl)
theorem load_sg {w : World} (h : w.rangeAt 0 0 sgL) : (LdS (.pointer (some ⟨0, 0, none⟩))).run Tryz.prog w = .ok (.agg sgA) w :=
  run_loadAt_mid (P := Tryz.prog) w _ 0 104 sgL _ h Tryz.underlying104 rfl size_sg
set_option maxRecDepth 100000 in
theorem index_sg (k : Nat) (hk : k < 26) (w : World) : (Instr.index 104 (.agg sgA) (.int .i64 (k : Int))).run Tryz.prog w = .ok (.string (bs (signs.getD k []))) w := by
  rcases (by omega : k = 0 ∨ k = 1 ∨ k = 2 ∨ k = 3 ∨ k = 4 ∨ k = 5 ∨ k = 6 ∨ k = 7 ∨ k = 8 ∨ k = 9 ∨ k = 10 ∨ k = 11 ∨ k = 12 ∨ k = 13 ∨ k = 14 ∨ k = 15 ∨ k = 16 ∨ k = 17 ∨ k = 18 ∨ k = 19 ∨ k = 20 ∨ k = 21 ∨ k = 22 ∨ k = 23 ∨ k = 24 ∨ k = 25) with rfl | rfl | rfl | rfl | rfl | rfl | rfl | rfl | rfl | rfl | rfl | rfl | rfl | rfl | rfl | rfl | rfl | rfl | rfl | rfl | rfl | rfl | rfl | rfl | rfl | rfl <;> rfl

theorem find_step (l : By) (k : Nat) (hk : k < 26) : (signs.drop k).find? (fun t => Lib.hasPrefix l t) = if Lib.hasPrefix l (signs.getD k []) then some (signs.getD k []) else (signs.drop (k + 1)).find? (fun t => Lib.hasPrefix l t) := by
  have hlen : signs.length = 26 := by decide
  have e : signs.drop k = signs.getD k [] :: signs.drop (k + 1) := by
    rw [List.drop_eq_getElem_cons (by omega), List.getD_eq_getElem?_getD, List.getElem?_eq_getElem (by omega)]
    rfl
  rw [e, List.find?_cons]
  cases Lib.hasPrefix l (signs.getD k []) <;> rfl

attribute [local go_sem ↓] ldS
attribute [local irreducible] sgA
set_option maxHeartbeats 1000000 in
theorem sign_any (s : ByteArray) (w : World) (hF : w.rangeAt 0 0 sgL) :
    Calls Tryz.prog 66 #[.string s] w fun e w' => e = .returned (.tuple #[.string (bs ((signF s.data.toList).getD [])), .bool (signF s.data.toList).isSome]) ∧ w = w' := by
  have hld := load_sg hF
  have hix := index_sg
  clear hF
  go_enter Tryz.func66, Tryz.ntmps66
  go_wp2
  go_loopw [7] (fun v wr => ∃ k : Nat, v = .int .i64 (k : Int) ∧ k ≤ 26 ∧ wr = w ∧ Hid (signF s.data.toList = (signs.drop k).find? (fun t => Lib.hasPrefix s.data.toList t))) (fun v _ => 26 - (intOf v).toNat)
  case atStart => exact ⟨0, rfl, by omega, rfl, Lib.hid rfl⟩
  case round =>
    obtain ⟨k, rfl, hk, rfl, hf⟩ := hrel
    by_cases hlt : k < 26
    · have hki : (k : Int) < 26 := by omega
      have hx := fun w => hix k hlt w
      have hst := find_step s.data.toList k hlt
      have hp := fun w => Tryz.strings_HasPrefix s (bs (signs.getD k [])) w
      rw [bs_list] at hp
      obtain ⟨b, hb⟩ : ∃ b, Lib.hasPrefix s.data.toList (signs.getD k []) = b := ⟨_, rfl⟩
      obtain ⟨u, hu⟩ : ∃ u, signs.getD k [] = u := ⟨_, rfl⟩
      rw [hu] at hb hst hp hx
      rw [hb] at hp hst
      have HS := Lib.hid hst
      have HU := Lib.hid hu
      clear hst hb hu hix
      cases b with
      | true =>
        have hfin : signF s.data.toList = some u := by rw [hf.out, HS.out]; rfl
        have HF := Lib.hid hfin
        clear hfin
        go_wp2_with (go_at_call 27; refine (hp _).mono ?_; rintro e w' ⟨rfl, rfl⟩)
        go_ret2
        exact ⟨by rw [HF.out]; rfl, rfl⟩
      | false =>
        have hnx : signF s.data.toList = (signs.drop (k + 1)).find? (fun t => Lib.hasPrefix s.data.toList t) := by rw [hf.out, HS.out]; rfl
        have HN := Lib.hid hnx
        clear hnx
        go_wp2_with (go_at_call 27; refine (hp _).mono ?_; rintro e w' ⟨rfl, rfl⟩)
        go_roundw
        case rel => exact ⟨k + 1, by go_num, by omega, trivial, HN⟩
        case measure => simp [intOf]; omega
    · have hk26 : k = 26 := by omega
      subst hk26
      have hfin : signF s.data.toList = none := by rw [hf.out]; rfl
      have HF := Lib.hid hfin
      clear hfin
      go_wp2
      go_ret2
      exact ⟨by rw [HF.out]; rfl, rfl⟩
end Go.Proofs.YtocebhaaamnfiaaGreatDoor.Lx

/-
  strconv.ParseUint of four bytes in base 16.
-/
namespace Go.Proofs.YtocebhaaamnfiaaGreatDoor.Lx
open Go.RowKit Go.Proofs.YtocebhaaamnfiaaGreatDoor.Uni
set_option linter.unusedVariables false
set_option linter.unusedSimpArgs false

theorem or32 : ∀ a : Fin 256, ∃ l : Fin 256, bits .or .u8 (a.val : Int) 32 = (l.val : Int) ∧ (48 ≤ a.val → a.val ≤ 57 → True) ∧
    (hexN a.val = if 48 ≤ a.val ∧ a.val ≤ 57 then some (a.val - 48) else if 97 ≤ l.val ∧ l.val ≤ 102 then some (l.val - 87) else none) := by
  intro a
  have e : ∀ a : Fin 256, (a.val ||| 32) < 256 ∧ (hexN a.val = if 48 ≤ a.val ∧ a.val ≤ 57 then some (a.val - 48) else if 97 ≤ (a.val ||| 32) ∧ (a.val ||| 32) ≤ 102 then some ((a.val ||| 32) - 87) else none) := by decide +kernel
  refine ⟨⟨a.val ||| 32, (e a).1⟩, ?_, fun _ _ => trivial, (e a).2⟩
  have h : (bits .or .u8 (a.val : Int) 32) = ((a.val ||| 32 : Nat) : Int) := by
    have e2 : ∀ a : Fin 256, bits .or .u8 (a.val : Int) 32 = ((a.val ||| 32 : Nat) : Int) := by decide +kernel
    exact e2 a
  exact h

/-- The digits before a place make a number. -/
def HexTo (s : ByteArray) (k n : Nat) : Prop := k ≤ s.size ∧ n < 16 ^ k ∧ hexF 0 s.data.toList = hexF n (s.data.toList.drop k)
theorem hexF_cons (u : Nat) (c : UInt8) (r : By) : hexF u (c :: r) = match hexN c.toNat with | none => none | some d => hexF (u * 16 + d) r := rfl
theorem drop_B (s : ByteArray) (k : Nat) (hk : k < s.size) : ∃ c : UInt8, c.toNat = B s k ∧ s.data.toList.drop k = c :: s.data.toList.drop (k + 1) := by
  have hk' : k < s.data.toList.length := by rw [lsz]; exact hk
  refine ⟨s.data.toList[k], ?_, List.drop_eq_getElem_cons hk'⟩
  unfold B
  rw [List.getElem?_eq_getElem hk']
  rfl
theorem hexN_lt {p d : Nat} (h : hexN p = some d) : d < 16 := by
  unfold hexN at h
  split at h
  · cases h; omega
  · split at h
    · cases h; omega
    · split at h
      · cases h; omega
      · cases h
theorem HexTo.step {s : ByteArray} {k n d : Nat} (h : HexTo s k n) (hk : k < s.size) (hd : hexN (B s k) = some d) : HexTo s (k + 1) (n * 16 + d) := by
  obtain ⟨h1, h2, h3⟩ := h
  obtain ⟨c, hc, he⟩ := drop_B s k hk
  have := hexN_lt hd
  refine ⟨by omega, by rw [Nat.pow_succ]; omega, ?_⟩
  rw [h3, he, hexF_cons, hc, hd]
theorem HexTo.halt {s : ByteArray} {k n : Nat} (h : HexTo s k n) (hk : k < s.size) (hd : hexN (B s k) = none) : hexF 0 s.data.toList = none := by
  obtain ⟨h1, h2, h3⟩ := h
  obtain ⟨c, hc, he⟩ := drop_B s k hk
  rw [h3, he, hexF_cons, hc, hd]
theorem HexTo.done {s : ByteArray} {k n : Nat} (h : HexTo s k n) (hk : k = s.size) : hexF 0 s.data.toList = some n := by
  obtain ⟨h1, h2, h3⟩ := h
  rw [h3, List.drop_eq_nil_of_le (by rw [lsz]; omega)]
  rfl

def hexR : Option Nat → Value
  | some u => .tuple #[.int .u64 (u : Int), .nilIface]
  | none => .tuple #[.int .u64 0, .iface 116 (.int .i64 2)]

theorem empty_no {s : ByteArray} (h : s.size = 4) : s.toList.isEmpty = false := by
  rw [ByteArray.toList_eq]
  cases hl : s.data.toList with
  | nil => have := lsz s; rw [hl] at this; simp at this; omega
  | cons _ _ => rfl

theorem bw_below (w : World) (s : ByteArray) : Below w.heap.size w (Lib.bytesWorld w 5 s) := ⟨by simp [Lib.bytesWorld, World.freeze]; rfl, by simp [Lib.bytesWorld, World.freeze], by simp [Lib.bytesWorld, World.freeze]; rfl, by rw [Lib.bytesWorld_size]; omega, fun k hk => Lib.bytesWorld_at_old w _ s k hk⟩
theorem bw_cell (w : World) (s : ByteArray) (j : Nat) (hj : j < s.size) : (Lib.bytesWorld w 5 s).cell? ⟨w.heap.size, j, none⟩ = some (.int .u8 (B s j : Nat)) := by
  rw [Lib.bytesWorld_cell w _ s j hj]
  unfold B
  rw [List.getD_eq_getElem?_getD]
theorem hex_bd {s : ByteArray} {k n : Nat} (h : HexTo s k n) (hk : k < 4) : n ≤ 4095 := by
  have h1 := h.2.1
  have h2 : 16 ^ k ≤ 16 ^ 3 := Nat.pow_le_pow_right (by decide) (by omega)
  omega

set_option maxRecDepth 100000 in
set_option maxHeartbeats 4000000 in
theorem hex_any (s : ByteArray) (w : World) (hs : s.size = 4) :
    Calls Tryz.prog 109 #[.string s, .int .i64 16, .int .i64 16] w fun e w' => e = .returned (hexR (hexF 0 s.data.toList)) ∧ Below w.heap.size w w' := by
  have he := empty_no hs
  have hcv := Lib.run_convert_string_bytes (P := Tryz.prog) w 9 22 5 s Tryz.underlying9 Tryz.underlying22 Tryz.underlying5
  have hcell := bw_cell w s
  have hbel := bw_below w s
  obtain ⟨W1, hW⟩ : ∃ W1, Lib.bytesWorld w 5 s = W1 := ⟨_, rfl⟩
  rw [hW] at hcv hcell hbel
  obtain ⟨cap, hcap⟩ : ∃ cap, grownCap w s.size 0 5 = cap := ⟨_, rfl⟩
  rw [hcap] at hcv
  rw [hs] at hcv hcell
  have HB := Lib.hid hbel
  have HS := Lib.hid hs
  have H0 : Hid (HexTo s 0 0) := Lib.hid ⟨Nat.zero_le _, by decide, rfl⟩
  clear hW hcap hbel hs
  go_enter Tryz.func109, Tryz.ntmps109
  go_wp2
  go_loopw [12, 13, 101] (fun us n i wr => ∃ k m : Nat, us = .bool false ∧ n = .int .u64 (m : Int) ∧ i = .int .i64 (k : Int) ∧ k ≤ 4 ∧ wr = W1 ∧ Hid (HexTo s k m)) (fun _ _ i _ => 4 - (intOf i).toNat)
  case atStart => exact ⟨0, 0, rfl, rfl, rfl, by omega, rfl, H0⟩
  case round =>
    obtain ⟨k, m, rfl, rfl, rfl, hk, rfl, hx⟩ := hrel
    by_cases hlt : k < 4
    · have hki : (k : Int) < 4 := by omega
      have hm := hex_bd hx.out hlt
      have hm1 : (m : Int) ≤ 4095 := by omega
      have hcl := hcell k hlt
      have hb := B_lt s k
      obtain ⟨b, hbe⟩ : ∃ b, B s k = b := ⟨_, rfl⟩
      rw [hbe] at hcl hb
      obtain ⟨l, hor, -, hdig⟩ := or32 ⟨b, hb⟩
      obtain ⟨lv, hlb⟩ := l
      simp only at hor hdig
      have HBE := Lib.hid hbe
      have n95 : b = 95 → lv = 127 := by
        rintro rfl
        have e : bits .or .u8 (95 : Int) 32 = 127 := by decide +kernel
        have h2 : bits .or .u8 ((95 : Nat) : Int) 32 = 127 := e
        rw [hor] at h2
        omega
      have hlow := fun w => Tryz.internal_strconv_lower (b : Int) w
      rw [hor] at hlow
      clear hbe hor hcell hcv
      by_cases c1 : 48 ≤ b ∧ b ≤ 57
      · have g1 : 48 ≤ (b : Int) := by omega
        have g2 : (b : Int) ≤ 57 := by omega
        have f0 : ((b : Int) == 95) = false := by simp; omega
        have f1 : decide (48 ≤ (b : Int)) = true := by simp; omega
        have f2 : decide ((b : Int) ≤ 57) = true := by simp; omega
        have hd : hexN (B s k) = some (b - 48) := by rw [HBE.out, hdig]; rw [if_pos c1]
        have HX : Hid (HexTo s (k + 1) (m * 16 + (b - 48))) := Lib.hid (hx.out.step (by rw [HS.out]; exact hlt) hd)
        obtain ⟨d, hde⟩ : ∃ d, d = (b - 48) := ⟨_, rfl⟩
        have e1 : decide (1152921504606846976 ≤ (m : Int)) = false := by simp; omega
        have e2 : decide ((m : Int) * 16 + ((b : Int) - 48) < (m : Int) * 16) = false := by simp; omega
        have e3 : decide (65535 < (m : Int) * 16 + ((b : Int) - 48)) = false := by simp; omega
        have e4 : decide (16 ≤ (b : Int) - 48) = false := by simp; omega
        clear hd hdig n95 hm hb hlow
        go_wp2_with (fail)
        go_roundw
        case rel => exact ⟨k + 1, m * 16 + (b - 48), rfl, congrArg (Value.int .u64) (by omega), by go_num, by omega, trivial, HX⟩
        case measure => simp [intOf]; omega
      · by_cases h95 : b = 95
        · have l7 := n95 h95
          subst h95 l7
          have hd : hexN (B s k) = none := by rw [HBE.out]; rfl
          have HX := Lib.hid (hx.out.halt (by rw [HS.out]; exact hlt) hd)
          clear hd hdig hm hb hlb n95 c1
          go_wp2_with (go_at_call 123; refine (hlow _).mono ?_; rintro e w' ⟨rfl, rfl⟩)
          go_ret2
          exact ⟨by rw [HX.out]; rfl, HB.out⟩
        · have e0 : ((b : Int) == 95) = false := by simp; omega
          by_cases c2 : b < 48
          · have p1 : decide (48 ≤ (b : Int)) = false := by simp; omega
            by_cases l1 : lv < 97
            · have q1 : decide (97 ≤ (lv : Int)) = false := by simp; omega
              have hd : hexN (B s k) = none := by rw [HBE.out, hdig, if_neg c1, if_neg (by omega)]
              have HX := Lib.hid (hx.out.halt (by rw [HS.out]; exact hlt) hd)
              clear hd hdig hm hb l1 hlb n95
              go_wp2_with (go_at_call 123; refine (hlow _).mono ?_; rintro e w' ⟨rfl, rfl⟩)
              go_ret2
              exact ⟨by rw [HX.out]; rfl, HB.out⟩
            · have q1 : decide (97 ≤ (lv : Int)) = true := by simp; omega
              by_cases l2 : 122 < lv
              · have q2 : decide ((lv : Int) ≤ 122) = false := by simp; omega
                have hd : hexN (B s k) = none := by rw [HBE.out, hdig, if_neg c1, if_neg (by omega)]
                have HX := Lib.hid (hx.out.halt (by rw [HS.out]; exact hlt) hd)
                clear hd hdig hm hb l1 l2 hlb n95
                go_wp2_with (go_at_call 123; refine (hlow _).mono ?_; rintro e w' ⟨rfl, rfl⟩)
                go_ret2
                exact ⟨by rw [HX.out]; rfl, HB.out⟩
              · have q2 : decide ((lv : Int) ≤ 122) = true := by simp; omega
                have q3 : 97 ≤ (lv : Int) := by omega
                have q4 : (lv : Int) ≤ 122 := by omega
                by_cases l3 : 102 < lv
                · have e4 : decide (16 ≤ (lv : Int) - 97 + 10) = true := by simp; omega
                  have hd : hexN (B s k) = none := by rw [HBE.out, hdig, if_neg c1, if_neg (by omega)]
                  have HX := Lib.hid (hx.out.halt (by rw [HS.out]; exact hlt) hd)
                  clear hd hdig hm hb l1 l2 l3 hlb n95
                  go_wp2_with (go_at_call 123; refine (hlow _).mono ?_; rintro e w' ⟨rfl, rfl⟩)
                  go_ret2
                  exact ⟨by rw [HX.out]; rfl, HB.out⟩
                · have e4 : decide (16 ≤ (lv : Int) - 97 + 10) = false := by simp; omega
                  have hd : hexN (B s k) = some (lv - 87) := by rw [HBE.out, hdig, if_neg c1, if_pos (by omega)]
                  have HX : Hid (HexTo s (k + 1) (m * 16 + (lv - 87))) := Lib.hid (hx.out.step (by rw [HS.out]; exact hlt) hd)
                  have e1 : decide (1152921504606846976 ≤ (m : Int)) = false := by simp; omega
                  have e2 : decide ((m : Int) * 16 + ((lv : Int) - 97 + 10) < (m : Int) * 16) = false := by simp; omega
                  have e3 : decide (65535 < (m : Int) * 16 + ((lv : Int) - 97 + 10)) = false := by simp; omega
                  have q5 : (lv : Int) ≤ 102 := by omega
                  have hql : m * 16 + (lv - 87) = m * 16 + (lv - 87) ∧ 97 ≤ lv := ⟨rfl, by omega⟩
                  have HQ := Lib.hid hql
                  clear hd hdig hm hb l1 l2 l3 hlb n95 hql
                  go_wp2_with (go_at_call 123; refine (hlow _).mono ?_; rintro e w' ⟨rfl, rfl⟩)
                  go_roundw
                  case rel => exact ⟨k + 1, m * 16 + (lv - 87), rfl, congrArg (Value.int .u64) (by have := HQ.out.2; omega), by go_num, by omega, trivial, HX⟩
                  case measure => simp [intOf]; omega
          · have p1 : decide (48 ≤ (b : Int)) = true := by simp; omega
            have p2 : decide ((b : Int) ≤ 57) = false := by simp; omega
            by_cases l1 : lv < 97
            · have q1 : decide (97 ≤ (lv : Int)) = false := by simp; omega
              have hd : hexN (B s k) = none := by rw [HBE.out, hdig, if_neg c1, if_neg (by omega)]
              have HX := Lib.hid (hx.out.halt (by rw [HS.out]; exact hlt) hd)
              clear hd hdig hm hb l1 hlb n95
              go_wp2_with (go_at_call 123; refine (hlow _).mono ?_; rintro e w' ⟨rfl, rfl⟩)
              go_ret2
              exact ⟨by rw [HX.out]; rfl, HB.out⟩
            · have q1 : decide (97 ≤ (lv : Int)) = true := by simp; omega
              by_cases l2 : 122 < lv
              · have q2 : decide ((lv : Int) ≤ 122) = false := by simp; omega
                have hd : hexN (B s k) = none := by rw [HBE.out, hdig, if_neg c1, if_neg (by omega)]
                have HX := Lib.hid (hx.out.halt (by rw [HS.out]; exact hlt) hd)
                clear hd hdig hm hb l1 l2 hlb n95
                go_wp2_with (go_at_call 123; refine (hlow _).mono ?_; rintro e w' ⟨rfl, rfl⟩)
                go_ret2
                exact ⟨by rw [HX.out]; rfl, HB.out⟩
              · have q2 : decide ((lv : Int) ≤ 122) = true := by simp; omega
                have q3 : 97 ≤ (lv : Int) := by omega
                have q4 : (lv : Int) ≤ 122 := by omega
                by_cases l3 : 102 < lv
                · have e4 : decide (16 ≤ (lv : Int) - 97 + 10) = true := by simp; omega
                  have hd : hexN (B s k) = none := by rw [HBE.out, hdig, if_neg c1, if_neg (by omega)]
                  have HX := Lib.hid (hx.out.halt (by rw [HS.out]; exact hlt) hd)
                  clear hd hdig hm hb l1 l2 l3 hlb n95
                  go_wp2_with (go_at_call 123; refine (hlow _).mono ?_; rintro e w' ⟨rfl, rfl⟩)
                  go_ret2
                  exact ⟨by rw [HX.out]; rfl, HB.out⟩
                · have e4 : decide (16 ≤ (lv : Int) - 97 + 10) = false := by simp; omega
                  have hd : hexN (B s k) = some (lv - 87) := by rw [HBE.out, hdig, if_neg c1, if_pos (by omega)]
                  have HX : Hid (HexTo s (k + 1) (m * 16 + (lv - 87))) := Lib.hid (hx.out.step (by rw [HS.out]; exact hlt) hd)
                  have e1 : decide (1152921504606846976 ≤ (m : Int)) = false := by simp; omega
                  have e2 : decide ((m : Int) * 16 + ((lv : Int) - 97 + 10) < (m : Int) * 16) = false := by simp; omega
                  have e3 : decide (65535 < (m : Int) * 16 + ((lv : Int) - 97 + 10)) = false := by simp; omega
                  have q5 : (lv : Int) ≤ 102 := by omega
                  have hql : m * 16 + (lv - 87) = m * 16 + (lv - 87) ∧ 97 ≤ lv := ⟨rfl, by omega⟩
                  have HQ := Lib.hid hql
                  clear hd hdig hm hb l1 l2 l3 hlb n95 hql
                  go_wp2_with (go_at_call 123; refine (hlow _).mono ?_; rintro e w' ⟨rfl, rfl⟩)
                  go_roundw
                  case rel => exact ⟨k + 1, m * 16 + (lv - 87), rfl, congrArg (Value.int .u64) (by have := HQ.out.2; omega), by go_num, by omega, trivial, HX⟩
                  case measure => simp [intOf]; omega
    · obtain rfl : k = 4 := by omega
      have HX := Lib.hid (hx.out.done HS.out.symm)
      go_wp2
      go_ret2
      exact ⟨by rw [HX.out]; rfl, HB.out⟩
end Go.Proofs.YtocebhaaamnfiaaGreatDoor.Lx
