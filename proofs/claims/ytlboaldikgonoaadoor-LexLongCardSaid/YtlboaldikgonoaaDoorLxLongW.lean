/-
  LexLong: the walk.
-/
import Derived.Test.YtlboaldikgonoaaDoorLxLong
namespace Go.Proofs.YtlboaldikgonoaaDoor.Lx
open Go Go.RowKit Go.Maps Go.Proofs.YtlboaldikgonoaaDoor.Uni
set_option linter.unusedVariables false
set_option linter.unusedSimpArgs false

theorem long_out (n : Int) (w : World) (hF : Fa w) (h7 : 7 ≤ w.heap.size) (h : n < 0 ∨ 70000 < n) : Calls Tryd.prog 5 #[.int .i64 n] w fun e w' => e = .returned (.bool true) ∧ Below w.heap.size w w' := by
  have hal := alive_any w hF h7
  rcases h with h | h
  · go_enter Tryd.func5, Tryd.ntmps5
    go_wp2_with (go_at_call 9; refine hal.mono ?_; rintro e w1 ⟨rfl, hb1⟩; skip)
    go_ret
    exact ⟨rfl, hb1⟩
  · have h0 : decide (n < 0) = false := by simp; omega
    go_enter Tryd.func5, Tryd.ntmps5
    go_wp2_with (go_at_call 9; refine hal.mono ?_; rintro e w1 ⟨rfl, hb1⟩; skip)
    go_ret
    exact ⟨rfl, hb1⟩

/-- What is kept while the bytes are laid: the row, the old blocks, what the library's variables hold. -/
structure LI (l : By) (n g cp : Nat) (w wr : World) : Prop where
  own : wr.ownsRow w.heap.size 5 1 (.slice (some ⟨g, 0, none⟩) n cp) n (Lib.byteCells l)
  len : l.length = n
  bel : Below w.heap.size w wr
theorem LI.cell {l : By} {n g cp : Nat} {w wr : World} (h : LI l n g cp w wr) {k : Nat} (hk : k < n) : ∃ x : Int, wr.cell? ⟨g, k, none⟩ = some (.int .u8 x) := by
  refine ⟨((l[k]'(by rw [h.len]; exact hk)).toNat : Int), ?_⟩
  rw [h.own.cellAt k (by omega)]
  unfold Lib.byteCells
  rw [List.getElem?_map, List.getElem?_eq_getElem (by rw [h.len]; exact hk)]
  rfl
theorem LI.free {l : By} {n g cp : Nat} {w wr : World} (h : LI l n g cp w wr) (k : Nat) : wr.frozen? ⟨g, k, none⟩ = false := h.own.frozenAt k
theorem LI.base {l : By} {n g cp : Nat} {w wr : World} (h : LI l n g cp w wr) : w.heap.size ≤ g := (h.own.lt g rfl).1
theorem LI.set {l l' : By} {n g cp : Nat} {w wr : World} (h : LI l n g cp w wr) (k : Nat) (c : UInt8) {v : Int} (hv : v = (c.toNat : Nat)) (hl : l.set k c = l') : LI l' n g cp w (wr.setCell ⟨g, k, none⟩ (.int .u8 v)) := by
  subst hv hl
  have h2 := (h.own.stored k (.int .u8 (c.toNat : Nat))).1
  rw [bc_set] at h2
  exact ⟨h2, by rw [List.length_set]; exact h.len, h.bel.setCell (p := ⟨g, k, none⟩) h.base _⟩
theorem LI.call {l : By} {n g cp : Nat} {w wr w2 : World} (h : LI l n g cp w wr) (hb : Below wr.heap.size wr w2) : LI l n g cp w w2 := ⟨own_below h.own hb, h.len, h.bel.trans (hb.mono h.bel.size)⟩
theorem li_make {n : Nat} {w w1 w2 : World} (hb : Below w.heap.size w w1) (hown : w2.ownsRow w.heap.size 5 1 (.slice (some ⟨w1.heap.size, 0, none⟩) n n) n (madeCells #[.int .u8 0] (n * 1)).toList) (hg : w1.grownBy w2 none) : LI (B1 n 0) n w1.heap.size n w w2 := by
  refine ⟨?_, B1_len n 0 (Nat.zero_le _), hb.grown hg hb.size (fun k hk => by cases hk)⟩
  have e : Lib.byteCells (B1 n 0) = (madeCells #[.int .u8 0] (n * 1)).toList := by
    rw [toList_madeCells_one, Nat.mul_one, B1_zero]
    unfold Lib.byteCells
    rw [List.map_replicate]
    rfl
  rw [e]
  exact hown
theorem LI.app {l : By} {n : Nat} {v : Value} {w w2 w3 : World} (hb : Below w.heap.size w w2) (hlen : l.length = n) (hn : 0 < n) (hown : w3.ownsRow w.heap.size 5 1 v (0 + n) ([] ++ Lib.byteCells l)) (hg : w2.grownBy w3 (Value.slice none 0 0).ownBlock) : ∃ g cp, v = .slice (some ⟨g, 0, none⟩) n cp ∧ LI l n g cp w w3 := by
  rw [Nat.zero_add, List.nil_append] at hown
  have hbw : Below w.heap.size w w3 := hb.grown hg hb.size (fun k hk => by cases hk)
  rcases hown.2 with ⟨_, hv⟩ | ⟨g, cap, cur, rfl, _⟩
  · omega
  · exact ⟨g, cap, rfl, hown, hlen, hbw⟩
theorem info8 : (Tryd.prog.info? 5).map (fun i => (i.zero, i.size, i.bytes)) = some (some (.int .u8 0), 1, 1) := by kernel_rfl
theorem byte_one (l : By) : ∀ u ∈ Lib.byteCells l, u.oneCell' = true := by
  intro u hu
  unfold Lib.byteCells at hu
  obtain ⟨n, _, rfl⟩ := List.mem_map.1 hu
  rfl

theorem C1_open (k : Nat) (h : 2 ≤ k) : ((List.replicate k (32 : UInt8)).set 0 34).set (k - 1) 34 = C1 (k - 2) 0 := by
  obtain ⟨m, rfl⟩ : ∃ m, k = m + 2 := ⟨k - 2, by omega⟩
  exact C1_start m
theorem C1_next (k i : Nat) (h1 : 1 ≤ i) (h2 : i < k - 1) : (C1 (k - 2) (i - 1)).set i 120 = C1 (k - 2) (i + 1 - 1) := by
  obtain ⟨j, rfl⟩ : ∃ j, i = j + 1 := ⟨i - 1, by omega⟩
  exact C1_set (k - 2) j (by omega)
theorem qx_huge {k : Nat} (h : 65536 < k) : lexT (bs (qx (k - 2))) = (3, 0, []) := lexT_huge (by rw [bs_size]; simp [qx]; omega)
theorem qx_long {k : Nat} (h : 10002 < k) (h2 : k ≤ 65536) : lexT (bs (qx (k - 2))) = (2, 0, []) := by rw [lex_qx _ (by omega), if_pos (by omega)]
theorem qx_good {k : Nat} (h : 2 ≤ k) (h2 : k ≤ 10002) : ∃ tx : ByteArray, tx.size = k - 2 ∧ lexT (bs (qx (k - 2))) = (0, 0, [⟨4, 0, 0, tx⟩, ⟨0, (k : Int), 0, ⟨#[]⟩⟩]) := by
  refine ⟨⟨(text (List.replicate (k - 2) 120)).toArray⟩, ?_, ?_⟩
  · show (text (List.replicate (k - 2) 120)).toArray.size = k - 2
    rw [List.size_toArray, text_x]
  · rw [lex_qx _ (by omega), if_neg (by omega), show k - 2 + 2 = k by omega]
theorem row_form {w : World} {base n : Nat} {v : Value} {xs : List Value} (h : w.ownsRow base 5 1 v n xs) : ∃ ao cp, v = .slice ao n cp := by
  rcases h.2 with ⟨rfl, hv⟩ | ⟨g, cap, cur, rfl, _⟩
  · subst hv
    exact ⟨none, 0, rfl⟩
  · exact ⟨some ⟨g, 0, none⟩, cap, rfl⟩

set_option maxRecDepth 100000 in
set_option maxHeartbeats 8000000 in
theorem long_huge (n : Nat) (w : World) (hF : Fa w) (h7 : 7 ≤ w.heap.size) (hn : n ≤ 70000) (hbig : 65536 < n) : Calls Tryd.prog 5 #[.int .i64 (n : Int)] w fun e w' => e = .returned (.bool true) ∧ Below w.heap.size w w' := by
  obtain ⟨i0, hi, hz0, hz1, hz2⟩ := info_parts info8
  have hal := alive_any w hF h7
  have hni : (n : Int) ≤ 70000 := by omega
  have HF := Lib.hid hF
  clear hF
  go_enter Tryd.func5, Tryd.ntmps5
  go_wp2_with (go_at_call 9; refine hal.mono ?_; rintro e w1 ⟨rfl, hb1⟩; obtain ⟨w2, hmk, hown, hgrow⟩ := run_make_full (P := Tryd.prog) w1 w.heap.size 25 5 i0 (.int .u8 0) 1 Tryd.underlying25 hi hz0 hz1 .i64 .i64 n (by rw [hz2]; omega) (by unfold maxLen; omega) hb1.size; have hL0 := li_make hb1 hown hgrow; have HL0 := Lib.hid hL0; clear hown hgrow hL0)
  go_loopw [5] (fun v wr => ∃ k : Nat, v = .int .i64 (k : Int) ∧ k ≤ n ∧ LI (B1 n k) n w1.heap.size n w wr) (fun v _ => n - (intOf v).toNat)
  case atStart => exact ⟨0, rfl, Nat.zero_le _, HL0.out⟩
  case round =>
    obtain ⟨k, rfl, hk, hL⟩ := hrel
    by_cases hlt : k < n
    · have hki : (k : Int) < n := by omega
      obtain ⟨x, hx⟩ := hL.cell hlt
      have hf := hL.free k
      have hL2 := hL.set k 32 (v := 32) rfl (B1_set n k hlt)
      have HL2 := Lib.hid hL2
      clear hL hL2
      go_wp2
      go_roundw
      case rel => exact ⟨k + 1, by go_num, by omega, HL2.out⟩
      case measure => simp [intOf]; omega
    · obtain rfl : k = n := by omega
      rw [B1_full] at hL
      have htb := toks_row (List.replicate k 32) k k w.heap.size (some ⟨w1.heap.size, 0, none⟩) wr (HF.out.later h7 hL.bel) (Nat.le_trans h7 hL.bel.size) (by simp) (by omega) hL.own
      unfold TokPost at htb
      rw [lex_spaces, if_pos hbig] at htb
      have HL := Lib.hid hL
      have hki : ¬ (k : Int) < k := by omega
      clear hlt hk
      have hc1 : (65536 : Int) < k := by omega
      have hki2 : (2 : Int) ≤ k := by omega
      go_wp2_with (first | (go_at_call 12; refine htb.mono ?_; rintro e w2 ⟨v2, rfl, hown2, hb2⟩; have hL2 := HL.out.call hb2; have hlo := hL2.own; have hs2 := hL2.bel.size; have HL2 := Lib.hid hL2; clear hL2 hown2) | (at_builtin; refine wp_append_two rfl _ _ 25 rfl w.heap.size 5 i0 (.int .u8 0) 1 1 Tryd.underlying25 hi hz0 hz1 hz2 rfl (by decide) _ _ _ rfl (World.ownsRow_nil _ _ _ _) _ _ _ _ rfl hlo (byte_one _) (by unfold maxLen; omega) (by omega) hs2 ?_; intro v3 w3 hown3 hgrow3 _; obtain ⟨g3, c3, rfl, hL3⟩ := LI.app HL2.out.bel (by simp) (by omega) hown3 hgrow3; clear hown3 hgrow3; obtain ⟨x0, hx0⟩ := hL3.cell (k := 0) (by omega); have hf0 := hL3.free 0; have hL4 := hL3.set 0 34 (v := 34) rfl rfl; obtain ⟨x1, hx1⟩ := hL4.cell (k := k - 1) (by omega); have hf1 := hL4.free (k - 1); have hL5 := hL4.set (k - 1) 34 (v := 34) rfl (C1_open k (by omega)); have HL5 := Lib.hid hL5; clear hL3 hL4 hL5))
      go_loopw [10] (fun v wr => ∃ i : Nat, v = .int .i64 (i : Int) ∧ 1 ≤ i ∧ i ≤ k - 1 ∧ LI (C1 (k - 2) (i - 1)) k g3 c3 w wr) (fun v _ => k - (intOf v).toNat)
      case atStart => exact ⟨1, rfl, Nat.le_refl _, by omega, HL5.out⟩
      case round =>
        obtain ⟨i, rfl, hi1, hik, hM⟩ := hrel
        by_cases hlt : i < k - 1
        · have hii : (i : Int) < (k : Int) - 1 := by omega
          obtain ⟨y, hy⟩ := hM.cell (k := i) (by omega)
          have hfy := hM.free i
          have hM2 := hM.set i 120 (v := 120) rfl (C1_next k i hi1 hlt)
          have HM2 := Lib.hid hM2
          have hik2 : i < k := by omega
          have hik3 : (i : Int) < k := by omega
          clear hM hM2 hlt
          go_wp2
          go_roundw
          case rel => exact ⟨i + 1, by go_num, by omega, by omega, HM2.out⟩
          case measure => simp [intOf]; omega
        · obtain rfl : i = k - 1 := by omega
          rw [show k - 1 - 1 = k - 2 by omega, C1_full] at hM
          have htc := toks_row (qx (k - 2)) k c3 w.heap.size (some ⟨g3, 0, none⟩) _ (HF.out.later h7 hM.bel) (Nat.le_trans h7 hM.bel.size) (by simp [qx]; omega) (by omega) hM.own
          unfold TokPost at htc
          rw [qx_huge hbig] at htc
          have hbM := hM.bel
          clear hM hlt hi1 hik
          have hii : ¬ ((k - 1 : Nat) : Int) < (k : Int) - 1 := by omega
          go_wp2_with (first | (go_at_call 12; refine htc.mono ?_; rintro e w4 ⟨v4, rfl, hown4, hb4⟩) | (go_at_call 13; refine (num_any _ _).mono ?_; rintro e w5 ⟨rfl, rfl⟩))
          go_ret
          exact ⟨by simp, hbM.trans (hb4.mono hbM.size)⟩
set_option maxRecDepth 100000 in
set_option maxHeartbeats 8000000 in
theorem long_far (n : Nat) (w : World) (hF : Fa w) (h7 : 7 ≤ w.heap.size) (hn : n ≤ 70000) (hbig : 10002 < n) (htop : n ≤ 65536) : Calls Tryd.prog 5 #[.int .i64 (n : Int)] w fun e w' => e = .returned (.bool true) ∧ Below w.heap.size w w' := by
  obtain ⟨i0, hi, hz0, hz1, hz2⟩ := info_parts info8
  have hal := alive_any w hF h7
  have hni : (n : Int) ≤ 70000 := by omega
  have HF := Lib.hid hF
  clear hF
  go_enter Tryd.func5, Tryd.ntmps5
  go_wp2_with (go_at_call 9; refine hal.mono ?_; rintro e w1 ⟨rfl, hb1⟩; obtain ⟨w2, hmk, hown, hgrow⟩ := run_make_full (P := Tryd.prog) w1 w.heap.size 25 5 i0 (.int .u8 0) 1 Tryd.underlying25 hi hz0 hz1 .i64 .i64 n (by rw [hz2]; omega) (by unfold maxLen; omega) hb1.size; have hL0 := li_make hb1 hown hgrow; have HL0 := Lib.hid hL0; clear hown hgrow hL0)
  go_loopw [5] (fun v wr => ∃ k : Nat, v = .int .i64 (k : Int) ∧ k ≤ n ∧ LI (B1 n k) n w1.heap.size n w wr) (fun v _ => n - (intOf v).toNat)
  case atStart => exact ⟨0, rfl, Nat.zero_le _, HL0.out⟩
  case round =>
    obtain ⟨k, rfl, hk, hL⟩ := hrel
    by_cases hlt : k < n
    · have hki : (k : Int) < n := by omega
      obtain ⟨x, hx⟩ := hL.cell hlt
      have hf := hL.free k
      have hL2 := hL.set k 32 (v := 32) rfl (B1_set n k hlt)
      have HL2 := Lib.hid hL2
      clear hL hL2
      go_wp2
      go_roundw
      case rel => exact ⟨k + 1, by go_num, by omega, HL2.out⟩
      case measure => simp [intOf]; omega
    · obtain rfl : k = n := by omega
      rw [B1_full] at hL
      have htb := toks_row (List.replicate k 32) k k w.heap.size (some ⟨w1.heap.size, 0, none⟩) wr (HF.out.later h7 hL.bel) (Nat.le_trans h7 hL.bel.size) (by simp) (by omega) hL.own
      unfold TokPost at htb
      rw [lex_spaces, if_neg (by omega)] at htb
      have HL := Lib.hid hL
      have hki : ¬ (k : Int) < k := by omega
      clear hlt hk
      have hc1 : (k : Int) ≤ 65536 := by omega
      have hc2 : (10000 : Int) < (k : Int) - 2 := by omega
      have hki2 : (2 : Int) ≤ k := by omega
      go_wp2_with (first | (go_at_call 12; refine htb.mono ?_; rintro e w2 ⟨v2, rfl, hown2, hb2⟩; have hL2 := HL.out.call hb2; have hlo := hL2.own; have hs2 := hL2.bel.size; have HL2 := Lib.hid hL2; clear hL2 hown2) | (at_builtin; refine wp_append_two rfl _ _ 25 rfl w.heap.size 5 i0 (.int .u8 0) 1 1 Tryd.underlying25 hi hz0 hz1 hz2 rfl (by decide) _ _ _ rfl (World.ownsRow_nil _ _ _ _) _ _ _ _ rfl hlo (byte_one _) (by unfold maxLen; omega) (by omega) hs2 ?_; intro v3 w3 hown3 hgrow3 _; obtain ⟨g3, c3, rfl, hL3⟩ := LI.app HL2.out.bel (by simp) (by omega) hown3 hgrow3; clear hown3 hgrow3; obtain ⟨x0, hx0⟩ := hL3.cell (k := 0) (by omega); have hf0 := hL3.free 0; have hL4 := hL3.set 0 34 (v := 34) rfl rfl; obtain ⟨x1, hx1⟩ := hL4.cell (k := k - 1) (by omega); have hf1 := hL4.free (k - 1); have hL5 := hL4.set (k - 1) 34 (v := 34) rfl (C1_open k (by omega)); have HL5 := Lib.hid hL5; clear hL3 hL4 hL5))
      go_loopw [10] (fun v wr => ∃ i : Nat, v = .int .i64 (i : Int) ∧ 1 ≤ i ∧ i ≤ k - 1 ∧ LI (C1 (k - 2) (i - 1)) k g3 c3 w wr) (fun v _ => k - (intOf v).toNat)
      case atStart => exact ⟨1, rfl, Nat.le_refl _, by omega, HL5.out⟩
      case round =>
        obtain ⟨i, rfl, hi1, hik, hM⟩ := hrel
        by_cases hlt : i < k - 1
        · have hii : (i : Int) < (k : Int) - 1 := by omega
          obtain ⟨y, hy⟩ := hM.cell (k := i) (by omega)
          have hfy := hM.free i
          have hM2 := hM.set i 120 (v := 120) rfl (C1_next k i hi1 hlt)
          have HM2 := Lib.hid hM2
          have hik2 : i < k := by omega
          have hik3 : (i : Int) < k := by omega
          clear hM hM2 hlt
          go_wp2
          go_roundw
          case rel => exact ⟨i + 1, by go_num, by omega, by omega, HM2.out⟩
          case measure => simp [intOf]; omega
        · obtain rfl : i = k - 1 := by omega
          rw [show k - 1 - 1 = k - 2 by omega, C1_full] at hM
          have htc := toks_row (qx (k - 2)) k c3 w.heap.size (some ⟨g3, 0, none⟩) _ (HF.out.later h7 hM.bel) (Nat.le_trans h7 hM.bel.size) (by simp [qx]; omega) (by omega) hM.own
          unfold TokPost at htc
          rw [qx_long hbig htop] at htc
          have hbM := hM.bel
          clear hM hlt hi1 hik
          have hii : ¬ ((k - 1 : Nat) : Int) < (k : Int) - 1 := by omega
          go_wp2_with (first | (go_at_call 12; refine htc.mono ?_; rintro e w4 ⟨v4, rfl, hown4, hb4⟩) | (go_at_call 13; refine (num_any _ _).mono ?_; rintro e w5 ⟨rfl, rfl⟩))
          go_ret
          exact ⟨by simp, hbM.trans (hb4.mono hbM.size)⟩
set_option maxRecDepth 100000 in
set_option maxHeartbeats 8000000 in
theorem long_good (n : Nat) (w : World) (hF : Fa w) (h7 : 7 ≤ w.heap.size) (hn : n ≤ 70000) (hbig : 2 ≤ n) (htop : n ≤ 10002) : Calls Tryd.prog 5 #[.int .i64 (n : Int)] w fun e w' => e = .returned (.bool true) ∧ Below w.heap.size w w' := by
  obtain ⟨i0, hi, hz0, hz1, hz2⟩ := info_parts info8
  have hal := alive_any w hF h7
  have hni : (n : Int) ≤ 70000 := by omega
  have HF := Lib.hid hF
  clear hF
  go_enter Tryd.func5, Tryd.ntmps5
  go_wp2_with (go_at_call 9; refine hal.mono ?_; rintro e w1 ⟨rfl, hb1⟩; obtain ⟨w2, hmk, hown, hgrow⟩ := run_make_full (P := Tryd.prog) w1 w.heap.size 25 5 i0 (.int .u8 0) 1 Tryd.underlying25 hi hz0 hz1 .i64 .i64 n (by rw [hz2]; omega) (by unfold maxLen; omega) hb1.size; have hL0 := li_make hb1 hown hgrow; have HL0 := Lib.hid hL0; clear hown hgrow hL0)
  go_loopw [5] (fun v wr => ∃ k : Nat, v = .int .i64 (k : Int) ∧ k ≤ n ∧ LI (B1 n k) n w1.heap.size n w wr) (fun v _ => n - (intOf v).toNat)
  case atStart => exact ⟨0, rfl, Nat.zero_le _, HL0.out⟩
  case round =>
    obtain ⟨k, rfl, hk, hL⟩ := hrel
    by_cases hlt : k < n
    · have hki : (k : Int) < n := by omega
      obtain ⟨x, hx⟩ := hL.cell hlt
      have hf := hL.free k
      have hL2 := hL.set k 32 (v := 32) rfl (B1_set n k hlt)
      have HL2 := Lib.hid hL2
      clear hL hL2
      go_wp2
      go_roundw
      case rel => exact ⟨k + 1, by go_num, by omega, HL2.out⟩
      case measure => simp [intOf]; omega
    · obtain rfl : k = n := by omega
      rw [B1_full] at hL
      have htb := toks_row (List.replicate k 32) k k w.heap.size (some ⟨w1.heap.size, 0, none⟩) wr (HF.out.later h7 hL.bel) (Nat.le_trans h7 hL.bel.size) (by simp) (by omega) hL.own
      unfold TokPost at htb
      rw [lex_spaces, if_neg (by omega)] at htb
      have HL := Lib.hid hL
      have hki : ¬ (k : Int) < k := by omega
      clear hlt hk
      have hc1 : (k : Int) ≤ 65536 := by omega
      have hc2 : (k : Int) - 2 ≤ 10000 := by omega
      obtain ⟨tx, htz, hqx⟩ := qx_good hbig htop
      have hki2 : (2 : Int) ≤ k := by omega
      go_wp2_with (first | (go_at_call 12; refine htb.mono ?_; rintro e w2 ⟨v2, rfl, hown2, hb2⟩; have hL2 := HL.out.call hb2; have hlo := hL2.own; have hs2 := hL2.bel.size; have HL2 := Lib.hid hL2; clear hL2 hown2) | (at_builtin; refine wp_append_two rfl _ _ 25 rfl w.heap.size 5 i0 (.int .u8 0) 1 1 Tryd.underlying25 hi hz0 hz1 hz2 rfl (by decide) _ _ _ rfl (World.ownsRow_nil _ _ _ _) _ _ _ _ rfl hlo (byte_one _) (by unfold maxLen; omega) (by omega) hs2 ?_; intro v3 w3 hown3 hgrow3 _; obtain ⟨g3, c3, rfl, hL3⟩ := LI.app HL2.out.bel (by simp) (by omega) hown3 hgrow3; clear hown3 hgrow3; obtain ⟨x0, hx0⟩ := hL3.cell (k := 0) (by omega); have hf0 := hL3.free 0; have hL4 := hL3.set 0 34 (v := 34) rfl rfl; obtain ⟨x1, hx1⟩ := hL4.cell (k := k - 1) (by omega); have hf1 := hL4.free (k - 1); have hL5 := hL4.set (k - 1) 34 (v := 34) rfl (C1_open k (by omega)); have HL5 := Lib.hid hL5; clear hL3 hL4 hL5))
      go_loopw [10] (fun v wr => ∃ i : Nat, v = .int .i64 (i : Int) ∧ 1 ≤ i ∧ i ≤ k - 1 ∧ LI (C1 (k - 2) (i - 1)) k g3 c3 w wr) (fun v _ => k - (intOf v).toNat)
      case atStart => exact ⟨1, rfl, Nat.le_refl _, by omega, HL5.out⟩
      case round =>
        obtain ⟨i, rfl, hi1, hik, hM⟩ := hrel
        by_cases hlt : i < k - 1
        · have hii : (i : Int) < (k : Int) - 1 := by omega
          obtain ⟨y, hy⟩ := hM.cell (k := i) (by omega)
          have hfy := hM.free i
          have hM2 := hM.set i 120 (v := 120) rfl (C1_next k i hi1 hlt)
          have HM2 := Lib.hid hM2
          have hik2 : i < k := by omega
          have hik3 : (i : Int) < k := by omega
          clear hM hM2 hlt
          go_wp2
          go_roundw
          case rel => exact ⟨i + 1, by go_num, by omega, by omega, HM2.out⟩
          case measure => simp [intOf]; omega
        · obtain rfl : i = k - 1 := by omega
          rw [show k - 1 - 1 = k - 2 by omega, C1_full] at hM
          have htc := toks_row (qx (k - 2)) k c3 w.heap.size (some ⟨g3, 0, none⟩) _ (HF.out.later h7 hM.bel) (Nat.le_trans h7 hM.bel.size) (by simp [qx]; omega) (by omega) hM.own
          unfold TokPost at htc
          rw [hqx] at htc
          have hbM := hM.bel
          clear hM hlt hi1 hik
          have hii : ¬ ((k - 1 : Nat) : Int) < (k : Int) - 1 := by omega
          go_wp2_with (first | (go_at_call 12; refine htc.mono ?_; rintro e w4 ⟨v4, rfl, hown4, hb4⟩; obtain ⟨gg, cp, rfl, -, q0, q1, q2, q3⟩ := tok_at hown4 (k := 0) (t := ⟨4, 0, 0, tx⟩) rfl; clear hown4) | (go_at_call 13; refine (num_any _ _).mono ?_; rintro e w5 ⟨rfl, rfl⟩))
          go_ret
          exact ⟨by simp; omega, hbM.trans (hb4.mono hbM.size)⟩
set_option maxRecDepth 100000 in
set_option maxHeartbeats 8000000 in
theorem long_tiny (n : Nat) (w : World) (hF : Fa w) (h7 : 7 ≤ w.heap.size) (hn : n ≤ 70000) (hbig : n < 2) : Calls Tryd.prog 5 #[.int .i64 (n : Int)] w fun e w' => e = .returned (.bool true) ∧ Below w.heap.size w w' := by
  obtain ⟨i0, hi, hz0, hz1, hz2⟩ := info_parts info8
  have hal := alive_any w hF h7
  have hni : (n : Int) ≤ 70000 := by omega
  have HF := Lib.hid hF
  clear hF
  go_enter Tryd.func5, Tryd.ntmps5
  go_wp2_with (go_at_call 9; refine hal.mono ?_; rintro e w1 ⟨rfl, hb1⟩; obtain ⟨w2, hmk, hown, hgrow⟩ := run_make_full (P := Tryd.prog) w1 w.heap.size 25 5 i0 (.int .u8 0) 1 Tryd.underlying25 hi hz0 hz1 .i64 .i64 n (by rw [hz2]; omega) (by unfold maxLen; omega) hb1.size; have hL0 := li_make hb1 hown hgrow; have HL0 := Lib.hid hL0; clear hown hgrow hL0)
  go_loopw [5] (fun v wr => ∃ k : Nat, v = .int .i64 (k : Int) ∧ k ≤ n ∧ LI (B1 n k) n w1.heap.size n w wr) (fun v _ => n - (intOf v).toNat)
  case atStart => exact ⟨0, rfl, Nat.zero_le _, HL0.out⟩
  case round =>
    obtain ⟨k, rfl, hk, hL⟩ := hrel
    by_cases hlt : k < n
    · have hki : (k : Int) < n := by omega
      obtain ⟨x, hx⟩ := hL.cell hlt
      have hf := hL.free k
      have hL2 := hL.set k 32 (v := 32) rfl (B1_set n k hlt)
      have HL2 := Lib.hid hL2
      clear hL hL2
      go_wp2
      go_roundw
      case rel => exact ⟨k + 1, by go_num, by omega, HL2.out⟩
      case measure => simp [intOf]; omega
    · obtain rfl : k = n := by omega
      rw [B1_full] at hL
      have htb := toks_row (List.replicate k 32) k k w.heap.size (some ⟨w1.heap.size, 0, none⟩) wr (HF.out.later h7 hL.bel) (Nat.le_trans h7 hL.bel.size) (by simp) (by omega) hL.own
      unfold TokPost at htb
      rw [lex_spaces, if_neg (by omega)] at htb
      have HL := Lib.hid hL
      have hki : ¬ (k : Int) < k := by omega
      clear hlt hk
      have hc1 : (k : Int) ≤ 65536 := by omega
      have hc2 : (k : Int) - 2 ≤ 10000 := by omega
      have hki2 : (k : Int) < 2 := by omega
      have hsp := lex_spaces k
      rw [if_neg (by omega)] at hsp
      go_wp2_with (first | (go_at_call 12; first | (refine htb.mono ?_; rintro e w2 ⟨v2, rfl, hown2, hb2⟩; have hL2 := HL.out.call hb2; have hlo := hL2.own; have hs2 := hL2.bel.size; have HL2 := Lib.hid hL2; clear hL2 hown2 htb) | (refine htc.mono ?_; rintro e w4 ⟨v4, rfl, hown4, hb4⟩)) | (at_builtin; refine wp_append_two rfl _ _ 25 rfl w.heap.size 5 i0 (.int .u8 0) 1 1 Tryd.underlying25 hi hz0 hz1 hz2 rfl (by decide) _ _ _ rfl (World.ownsRow_nil _ _ _ _) _ _ _ _ rfl hlo (byte_one _) (by unfold maxLen; omega) (by omega) hs2 ?_; intro v3 w3 hown3 hgrow3 _; have hb3 := HL2.out.bel.grown hgrow3 HL2.out.bel.size (fun k hk => by cases hk); rw [Nat.zero_add, List.nil_append] at hown3; obtain ⟨ao, c3, rfl⟩ := row_form hown3; have htc := toks_row (List.replicate k 32) k c3 w.heap.size ao _ (HF.out.later h7 hb3) (Nat.le_trans h7 hb3.size) (by simp) (by omega) hown3; unfold TokPost at htc; rw [hsp] at htc; clear hown3 hgrow3) | (go_at_call 13; refine (num_any _ _).mono ?_; rintro e w5 ⟨rfl, rfl⟩))
      go_ret
      exact ⟨by simp, hb3.trans (hb4.mono hb3.size)⟩

theorem lawLong_walk (n : Int) (w : World) (hF : Fa w) (h7 : 7 ≤ w.heap.size) : Calls Tryd.prog 5 #[.int .i64 n] w fun e w' => e = .returned (.bool true) ∧ Below w.heap.size w w' := by
  by_cases h : n < 0 ∨ 70000 < n
  · exact long_out n w hF h7 h
  · obtain ⟨k, rfl⟩ : ∃ k : Nat, n = (k : Int) := ⟨n.toNat, by omega⟩
    by_cases h1 : k < 2
    · exact long_tiny k w hF h7 (by omega) h1
    · by_cases h2 : k ≤ 10002
      · exact long_good k w hF h7 (by omega) (by omega) h2
      · by_cases h3 : k ≤ 65536
        · exact long_far k w hF h7 (by omega) (by omega) h3
        · exact long_huge k w hF h7 (by omega) (by omega)
end Go.Proofs.YtlboaldikgonoaaDoor.Lx
