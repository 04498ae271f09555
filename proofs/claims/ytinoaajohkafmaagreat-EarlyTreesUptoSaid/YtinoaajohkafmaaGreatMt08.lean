/-
  Texts of this seat in build order: LxRw, PrSm.
-/
import Derived.Test.YtinoaajohkafmaaGreatMt07
import Derived.Test.YtinoaajohkafmaaGreatMt02
/-
  The reference's Word and Named.
-/
namespace Go.Proofs.YtinoaajohkafmaaGreat.Lx
open Go Go.RowKit Go.Proofs.YtinoaajohkafmaaGreat.Uni
set_option linter.unusedVariables false
set_option linter.unusedSimpArgs false
def strs (l : List By) : List Value := l.map fun s => Value.string (bs s)
theorem infoS : (Tryz.prog.info? 9).map (fun i => (i.zero, i.size, i.bytes)) = some (some (.string ⟨#[]⟩), 1, 16) := by kernel_rfl
def BsS (n : Nat) (ps : Array (Nat × Value)) : Sem Value := Instr.buildSlice 22 n ps
theorem bs22 (ps : Array (Nat × Value)) : Instr.buildSlice 22 22 ps = BsS 22 ps := (rfl)
theorem bs25 (ps : Array (Nat × Value)) : Instr.buildSlice 22 25 ps = BsS 25 ps := (rfl)
def used_cs : Array Value := (strs used).toArray
theorem run_used (w : World) : (BsS 22 #[(0, .string ⟨#[98, 114, 101, 97, 107]⟩), (1, .string ⟨#[99, 97, 116, 99, 104]⟩), (2, .string ⟨#[99, 111, 110, 115, 116]⟩), (3, .string ⟨#[99, 111, 110, 116, 105, 110, 117, 101]⟩), (4, .string ⟨#[100, 101, 108, 101, 116, 101]⟩), (5, .string ⟨#[101, 108, 115, 101]⟩), (6, .string ⟨#[102, 97, 108, 115, 101]⟩), (7, .string ⟨#[102, 105, 110, 97, 108, 108, 121]⟩), (8, .string ⟨#[102, 117, 110, 99, 116, 105, 111, 110]⟩), (9, .string ⟨#[105, 102]⟩), (10, .string ⟨#[105, 110]⟩), (11, .string ⟨#[108, 101, 116]⟩), (12, .string ⟨#[110, 101, 119]⟩), (13, .string ⟨#[110, 117, 108, 108]⟩), (14, .string ⟨#[114, 101, 116, 117, 114, 110]⟩), (15, .string ⟨#[116, 104, 105, 115]⟩), (16, .string ⟨#[116, 104, 114, 111, 119]⟩), (17, .string ⟨#[116, 114, 117, 101]⟩), (18, .string ⟨#[116, 114, 121]⟩), (19, .string ⟨#[116, 121, 112, 101, 111, 102]⟩), (20, .string ⟨#[117, 110, 100, 101, 102, 105, 110, 101, 100]⟩), (21, .string ⟨#[119, 104, 105, 108, 101]⟩)]).run Tryz.prog w = .ok (.slice (some ⟨w.heap.size, 0, none⟩) 22 22) (w.alloc (.cells used_cs 9)) := by
  obtain ⟨i, hi, hz, hs, hb⟩ := info_parts infoS
  exact run_buildSlice w 22 9 22 _ used_cs i (.string ⟨#[]⟩) Tryz.underlying22 hi hz (by rw [hs]; decide) (by rw [hs]; decide) (by rw [hs]; kernel_rfl)
def unused_cs : Array Value := (strs unused).toArray
theorem run_unused (w : World) : (BsS 25 #[(0, .string ⟨#[97, 119, 97, 105, 116]⟩), (1, .string ⟨#[99, 97, 115, 101]⟩), (2, .string ⟨#[99, 108, 97, 115, 115]⟩), (3, .string ⟨#[100, 101, 98, 117, 103, 103, 101, 114]⟩), (4, .string ⟨#[100, 101, 102, 97, 117, 108, 116]⟩), (5, .string ⟨#[100, 111]⟩), (6, .string ⟨#[101, 110, 117, 109]⟩), (7, .string ⟨#[101, 120, 112, 111, 114, 116]⟩), (8, .string ⟨#[101, 120, 116, 101, 110, 100, 115]⟩), (9, .string ⟨#[102, 111, 114]⟩), (10, .string ⟨#[105, 109, 112, 108, 101, 109, 101, 110, 116, 115]⟩), (11, .string ⟨#[105, 109, 112, 111, 114, 116]⟩), (12, .string ⟨#[105, 110, 115, 116, 97, 110, 99, 101, 111, 102]⟩), (13, .string ⟨#[105, 110, 116, 101, 114, 102, 97, 99, 101]⟩), (14, .string ⟨#[112, 97, 99, 107, 97, 103, 101]⟩), (15, .string ⟨#[112, 114, 105, 118, 97, 116, 101]⟩), (16, .string ⟨#[112, 114, 111, 116, 101, 99, 116, 101, 100]⟩), (17, .string ⟨#[112, 117, 98, 108, 105, 99]⟩), (18, .string ⟨#[115, 116, 97, 116, 105, 99]⟩), (19, .string ⟨#[115, 117, 112, 101, 114]⟩), (20, .string ⟨#[115, 119, 105, 116, 99, 104]⟩), (21, .string ⟨#[118, 97, 114]⟩), (22, .string ⟨#[118, 111, 105, 100]⟩), (23, .string ⟨#[119, 105, 116, 104]⟩), (24, .string ⟨#[121, 105, 101, 108, 100]⟩)]).run Tryz.prog w = .ok (.slice (some ⟨w.heap.size, 0, none⟩) 25 25) (w.alloc (.cells unused_cs 9)) := by
  obtain ⟨i, hi, hz, hs, hb⟩ := info_parts infoS
  exact run_buildSlice w 22 9 25 _ unused_cs i (.string ⟨#[]⟩) Tryz.underlying22 hi hz (by rw [hs]; decide) (by rw [hs]; decide) (by rw [hs]; kernel_rfl)
theorem cs_at {w : World} {o : Nat} {cs : Array Value} {ws : List By} (hcs : cs = (strs ws).toArray) (h : Blk w o cs 9) : ∀ k, k < ws.length → w.cell? ⟨o, k, none⟩ = some (.string (bs (ws.getD k []))) := fun k hk => by
  subst hcs
  rw [h.cell]
  simp [strs, hk]
theorem used_at {w : World} {o : Nat} (h : Blk w o used_cs 9) : ∀ k, k < 22 → w.cell? ⟨o, k, none⟩ = some (.string (bs (used.getD k []))) := cs_at rfl h
theorem unused_at {w : World} {o : Nat} (h : Blk w o unused_cs 9) : ∀ k, k < 25 → w.cell? ⟨o, k, none⟩ = some (.string (bs (unused.getD k []))) := cs_at rfl h
attribute [local go_sem ↓] bs22 bs25
attribute [local irreducible] used_cs unused_cs
attribute [local go_sem] run_used run_unused
theorem tl_bs (l : By) : (bs l).toList = l := by rw [ByteArray.toList_eq, bs_list]
set_option maxHeartbeats 2000000 in
theorem has_any (b n : Nat) (ws : List By) (s : ByteArray) (w : World) (hn : ws.length = n) (hn2 : n ≤ 1000) (hc : ∀ k, k < n → w.cell? ⟨b, k, none⟩ = some (.string (bs (ws.getD k [])))) :
    Calls Tryz.prog 53 #[.slice (some ⟨b, 0, none⟩) n n, .string s] w fun e w' => e = .returned (.bool (decide (s.toList ∈ ws))) ∧ w = w' := by
  have HN := Lib.hid hn
  have hni : (n : Int) ≤ 1000 := by omega
  clear hn
  go_enter Tryz.func53, Tryz.ntmps53
  go_wp2
  go_loopw [5] (fun v wr => ∃ k : Nat, v = .int .i64 (k : Int) ∧ k ≤ n ∧ wr = w ∧ Hid (∀ j, j < k → ws.getD j [] ≠ s.toList)) (fun v _ => n - (intOf v).toNat)
  case atStart => exact ⟨0, rfl, by omega, rfl, Lib.hid (fun j hj => by omega)⟩
  case round =>
    obtain ⟨k, rfl, hk, rfl, hno⟩ := hrel
    by_cases hlt : k < n
    · have hki : (k : Int) < n := by omega
      have hck := hc k hlt
      obtain ⟨u, hu⟩ : ∃ u, bs (ws.getD k []) = u := ⟨_, rfl⟩
      have hul : u.toList = ws.getD k [] := by rw [← hu, tl_bs]
      rw [hu] at hck
      by_cases heq : u.toList = s.toList
      · have hb : (u.toList == s.toList) = true := by simpa using heq
        have hm : decide (s.toList ∈ ws) = true := by
          rw [decide_eq_true_eq, ← heq, hul, List.getD_eq_getElem?_getD, List.getElem?_eq_getElem (by have := HN.out; omega)]
          exact List.getElem_mem _
        have HM := Lib.hid hm
        clear hm heq hul hu hc
        go_wp2
        go_ret
        exact ⟨by rw [HM.out]; rfl, rfl⟩
      · have hb : (u.toList == s.toList) = false := by simpa using heq
        have hno2 : ∀ j, j < k + 1 → ws.getD j [] ≠ s.toList := fun j hj => by
          by_cases e : j = k
          · subst e; rw [← hul]; exact heq
          · exact hno.out j (by omega)
        have HN2 := Lib.hid hno2
        clear hno2 heq hul hu hc
        go_wp2
        go_roundw
        case rel => exact ⟨k + 1, by go_num, by omega, trivial, HN2⟩
        case measure => simp [intOf]; omega
    · obtain rfl : k = n := by omega
      have hm : decide (s.toList ∈ ws) = false := by
        rw [decide_eq_false_iff_not]
        intro h
        obtain ⟨j, hj, he⟩ := List.getElem_of_mem h
        refine hno.out j (by have := HN.out; omega) ?_
        rw [List.getD_eq_getElem?_getD, List.getElem?_eq_getElem hj]
        exact he
      have HM := Lib.hid hm
      clear hm hc
      go_wp2
      go_ret
      exact ⟨by rw [HM.out]; rfl, rfl⟩
set_option maxRecDepth 100000 in
set_option maxHeartbeats 2000000 in
theorem rword_any (s : ByteArray) (w : World) : Calls Tryz.prog 59 #[.string s] w fun e w' => e = .returned (.int .i64 (wordF s.toList : Nat)) ∧ Below w.heap.size w w' := by
  have h1 := has_any w.heap.size 22 used s (w.alloc (.cells used_cs 9)) (by decide) (by decide) (used_at (Blk.new w _ _))
  have h2 := has_any (w.heap.size + 1) 25 unused s ((w.alloc (.cells used_cs 9)).alloc (.cells unused_cs 9)) (by decide) (by decide) (unused_at (blk_newg (by simp)))
  by_cases m1 : s.toList ∈ used
  · have e : wordF s.toList = 1 := if_pos m1
    rw [decide_eq_true m1] at h1
    rw [e]
    clear m1 e h2
    go_enter Tryz.func59, Tryz.ntmps59
    go_wp2_with (go_at_call 53; refine h1.mono ?_; rintro e w1 ⟨rfl, rfl⟩)
    go_ret
    exact ⟨rfl, bel1⟩
  · rw [decide_eq_false m1] at h1
    by_cases m2 : s.toList ∈ unused
    · have e : wordF s.toList = 2 := by unfold wordF; rw [if_neg m1, if_pos m2]
      rw [decide_eq_true m2] at h2
      rw [e]
      clear m1 m2 e
      go_enter Tryz.func59, Tryz.ntmps59
      go_wp2_with (first | (go_at_call 53; (with_reducible refine h1.mono ?_); rintro e w1 ⟨rfl, rfl⟩) | (go_at_call 53; (with_reducible refine h2.mono ?_); rintro e w1 ⟨rfl, rfl⟩))
      go_ret
      exact ⟨rfl, bl_alloc bel1⟩
    · have e : wordF s.toList = 0 := by unfold wordF; rw [if_neg m1, if_neg m2]
      rw [decide_eq_false m2] at h2
      rw [e]
      clear m1 m2 e
      go_enter Tryz.func59, Tryz.ntmps59
      go_wp2_with (first | (go_at_call 53; (with_reducible refine h1.mono ?_); rintro e w1 ⟨rfl, rfl⟩) | (go_at_call 53; (with_reducible refine h2.mono ?_); rintro e w1 ⟨rfl, rfl⟩))
      go_ret
      exact ⟨rfl, bl_alloc bel1⟩
theorem rlead_0 (p : Nat) (w : World) (h : 97 ≤ p ∧ p ≤ 122) : Calls Tryz.prog 57 #[.int .u8 (p : Int)] w fun e w' => e = .returned (.bool (leadN p)) ∧ w = w' := by
  have f0 : decide (97 ≤ (p : Int)) = true := by simp; omega
  have f1 : decide ((p : Int) ≤ 122) = true := by simp; omega
  go_enter Tryz.func57, Tryz.ntmps57
  go_wp2
  go_ret
  exact ⟨ret_b (by simp [digitN, leadN]; try omega), rfl⟩
theorem rlead_1 (p : Nat) (w : World) (h : 122 < p) : Calls Tryz.prog 57 #[.int .u8 (p : Int)] w fun e w' => e = .returned (.bool (leadN p)) ∧ w = w' := by
  have f0 : decide (97 ≤ (p : Int)) = true := by simp; omega
  have f1 : decide ((p : Int) ≤ 122) = false := by simp; omega
  have f2 : decide (65 ≤ (p : Int)) = true := by simp; omega
  have f3 : decide ((p : Int) ≤ 90) = false := by simp; omega
  have f4 : ((p : Int) == 95) = false := by simp; omega
  have f5 : ((p : Int) == 36) = false := by simp; omega
  go_enter Tryz.func57, Tryz.ntmps57
  go_wp2
  go_ret
  exact ⟨ret_b (by simp [digitN, leadN]; try omega), rfl⟩
theorem rlead_2 (p : Nat) (w : World) (h : 65 ≤ p ∧ p ≤ 90) : Calls Tryz.prog 57 #[.int .u8 (p : Int)] w fun e w' => e = .returned (.bool (leadN p)) ∧ w = w' := by
  have f0 : decide (97 ≤ (p : Int)) = false := by simp; omega
  have f1 : decide (65 ≤ (p : Int)) = true := by simp; omega
  have f2 : decide ((p : Int) ≤ 90) = true := by simp; omega
  go_enter Tryz.func57, Tryz.ntmps57
  go_wp2
  go_ret
  exact ⟨ret_b (by simp [digitN, leadN]; try omega), rfl⟩
theorem rlead_3 (p : Nat) (w : World) (h : p = 95) : Calls Tryz.prog 57 #[.int .u8 (p : Int)] w fun e w' => e = .returned (.bool (leadN p)) ∧ w = w' := by
  have f0 : decide (97 ≤ (p : Int)) = false := by simp; omega
  have f1 : decide (65 ≤ (p : Int)) = true := by simp; omega
  have f2 : decide ((p : Int) ≤ 90) = false := by simp; omega
  have f3 : ((p : Int) == 95) = true := by simp; omega
  go_enter Tryz.func57, Tryz.ntmps57
  go_wp2
  go_ret
  exact ⟨ret_b (by simp [digitN, leadN]; try omega), rfl⟩
theorem rlead_4 (p : Nat) (w : World) (h : 90 < p ∧ p < 97 ∧ p ≠ 95) : Calls Tryz.prog 57 #[.int .u8 (p : Int)] w fun e w' => e = .returned (.bool (leadN p)) ∧ w = w' := by
  have f0 : decide (97 ≤ (p : Int)) = false := by simp; omega
  have f1 : decide (65 ≤ (p : Int)) = true := by simp; omega
  have f2 : decide ((p : Int) ≤ 90) = false := by simp; omega
  have f3 : ((p : Int) == 95) = false := by simp; omega
  have f4 : ((p : Int) == 36) = false := by simp; omega
  go_enter Tryz.func57, Tryz.ntmps57
  go_wp2
  go_ret
  exact ⟨ret_b (by simp [digitN, leadN]; try omega), rfl⟩
theorem rlead_5 (p : Nat) (w : World) (h : p = 36) : Calls Tryz.prog 57 #[.int .u8 (p : Int)] w fun e w' => e = .returned (.bool (leadN p)) ∧ w = w' := by
  have f0 : decide (97 ≤ (p : Int)) = false := by simp; omega
  have f1 : decide (65 ≤ (p : Int)) = false := by simp; omega
  have f2 : ((p : Int) == 95) = false := by simp; omega
  have f3 : ((p : Int) == 36) = true := by simp; omega
  go_enter Tryz.func57, Tryz.ntmps57
  go_wp2
  go_ret
  exact ⟨ret_b (by simp [digitN, leadN]; try omega), rfl⟩
theorem rlead_6 (p : Nat) (w : World) (h : p < 65 ∧ p ≠ 36) : Calls Tryz.prog 57 #[.int .u8 (p : Int)] w fun e w' => e = .returned (.bool (leadN p)) ∧ w = w' := by
  have f0 : decide (97 ≤ (p : Int)) = false := by simp; omega
  have f1 : decide (65 ≤ (p : Int)) = false := by simp; omega
  have f2 : ((p : Int) == 95) = false := by simp; omega
  have f3 : ((p : Int) == 36) = false := by simp; omega
  go_enter Tryz.func57, Tryz.ntmps57
  go_wp2
  go_ret
  exact ⟨ret_b (by simp [digitN, leadN]; try omega), rfl⟩
theorem rlead_any (p : Nat) (w : World) : Calls Tryz.prog 57 #[.int .u8 (p : Int)] w fun e w' => e = .returned (.bool (leadN p)) ∧ w = w' := by
  rcases (by omega : (97 ≤ p ∧ p ≤ 122) ∨ 122 < p ∨ (65 ≤ p ∧ p ≤ 90) ∨ p = 95 ∨ (90 < p ∧ p < 97 ∧ p ≠ 95) ∨ p = 36 ∨ (p < 65 ∧ p ≠ 36)) with h | h | h | h | h | h | h
  · exact rlead_0 p w h
  · exact rlead_1 p w h
  · exact rlead_2 p w h
  · exact rlead_3 p w h
  · exact rlead_4 p w h
  · exact rlead_5 p w h
  · exact rlead_6 p w h
theorem rdig_0 (p : Nat) (w : World) (h : p < 48) : Calls Tryz.prog 58 #[.int .u8 (p : Int)] w fun e w' => e = .returned (.bool (digitN p)) ∧ w = w' := by
  have f0 : decide (48 ≤ (p : Int)) = false := by simp; omega
  go_enter Tryz.func58, Tryz.ntmps58
  go_wp2
  go_ret
  exact ⟨ret_b (by simp [digitN, leadN]; try omega), rfl⟩
theorem rdig_1 (p : Nat) (w : World) (h : 48 ≤ p ∧ p ≤ 57) : Calls Tryz.prog 58 #[.int .u8 (p : Int)] w fun e w' => e = .returned (.bool (digitN p)) ∧ w = w' := by
  have f0 : decide (48 ≤ (p : Int)) = true := by simp; omega
  have f1 : decide ((p : Int) ≤ 57) = true := by simp; omega
  go_enter Tryz.func58, Tryz.ntmps58
  go_wp2
  go_ret
  exact ⟨ret_b (by simp [digitN, leadN]; try omega), rfl⟩
theorem rdig_2 (p : Nat) (w : World) (h : 57 < p) : Calls Tryz.prog 58 #[.int .u8 (p : Int)] w fun e w' => e = .returned (.bool (digitN p)) ∧ w = w' := by
  have f0 : decide (48 ≤ (p : Int)) = true := by simp; omega
  have f1 : decide ((p : Int) ≤ 57) = false := by simp; omega
  go_enter Tryz.func58, Tryz.ntmps58
  go_wp2
  go_ret
  exact ⟨ret_b (by simp [digitN, leadN]; try omega), rfl⟩
theorem rdig_any (p : Nat) (w : World) : Calls Tryz.prog 58 #[.int .u8 (p : Int)] w fun e w' => e = .returned (.bool (digitN p)) ∧ w = w' := by
  by_cases h1 : p < 48
  · exact rdig_0 p w h1
  · by_cases h2 : p ≤ 57
    · exact rdig_1 p w ⟨by omega, h2⟩
    · exact rdig_2 p w (by omega)
def NamedTo (s : ByteArray) (k : Nat) : Prop := ∀ j, j < k → leadN (B s j) = true ∨ (0 < j ∧ digitN (B s j) = true)
theorem idx_u (t : ByteArray) (k : Nat) (hk : k < t.size) (w : World) : (Instr.index 9 (.string t) (.int .i64 (k : Int))).run Tryz.prog w = .ok (.int .u8 (B t k : Nat)) w := idx_at t k hk k rfl w
set_option maxHeartbeats 2000000 in
theorem named_any (s : ByteArray) (w : World) (hs : s.size ≤ 2000000) : Calls Tryz.prog 97 #[.string s] w fun e w' => (∃ b, e = .returned (.bool b) ∧ (b = true ↔ 0 < s.size ∧ NamedTo s s.size)) ∧ w = w' := by
  go_enter Tryz.func97, Tryz.ntmps97
  go_wp2
  go_loopw [3] (fun v wr => ∃ k : Nat, v = .int .i64 (k : Int) ∧ k ≤ s.size ∧ wr = w ∧ Hid (NamedTo s k)) (fun v _ => s.size - (intOf v).toNat)
  case atStart => exact ⟨0, rfl, by omega, rfl, Lib.hid (fun j hj => by omega)⟩
  case round =>
    obtain ⟨k, rfl, hk, rfl, hn⟩ := hrel
    by_cases hlt : k < s.size
    · have hki : (k : Int) < s.size := by omega
      have hix := fun w => idx_u s k hlt w
      obtain ⟨y, hy⟩ : ∃ y, B s k = y := ⟨_, rfl⟩
      rw [hy] at hix
      have hbad : leadN y = false → (k = 0 ∨ digitN y = false) → Hid (∃ b, Ending.returned (.bool false) = .returned (.bool b) ∧ (b = true ↔ 0 < s.size ∧ NamedTo s s.size)) := fun g1 g2 => Lib.hid ⟨false, rfl, fun h => (by cases h), fun h => by
        rcases h.2 k hlt with h3 | h3
        · rw [hy, g1] at h3; cases h3
        · rcases g2 with g2 | g2
          · omega
          · rw [hy, g2] at h3; cases h3.2⟩
      have HY := Lib.hid hy
      clear hy
      cases h1 : leadN y with
      | true =>
        clear hbad
        have hn2 : NamedTo s (k + 1) := fun j hj => by
          by_cases e : j = k
          · subst e; rw [HY.out]; exact .inl h1
          · exact hn.out j (by omega)
        have HN2 := Lib.hid hn2
        clear hn2
        go_wp2_with (go_at_call 57; refine (rlead_any _ _).mono ?_; rintro e w1 ⟨rfl, rfl⟩; rw [h1])
        go_roundw
        case rel => exact ⟨k + 1, by go_num, by omega, trivial, HN2⟩
        case measure => simp [intOf]; omega
      | false =>
        by_cases h0 : k = 0
        · have hk0 : (k : Int) ≤ 0 := by omega
          have hbad := hbad h1 (.inl h0)
          clear h0
          go_wp2_with (go_at_call 57; refine (rlead_any _ _).mono ?_; rintro e w1 ⟨rfl, rfl⟩; rw [h1])
          go_ret
          exact ⟨hbad.out, rfl⟩
        · have hk0 : 0 < (k : Int) := by omega
          cases h2 : digitN y with
          | true =>
            clear hbad
            have hn2 : NamedTo s (k + 1) := fun j hj => by
              by_cases e : j = k
              · subst e; rw [HY.out]; exact .inr ⟨by omega, h2⟩
              · exact hn.out j (by omega)
            have HN2 := Lib.hid hn2
            clear hn2 h0
            go_wp2_with (first | (go_at_call 57; refine (rlead_any _ _).mono ?_; rintro e w1 ⟨rfl, rfl⟩; rw [h1]) | (go_at_call 58; refine (rdig_any _ _).mono ?_; rintro e w1 ⟨rfl, rfl⟩; rw [h2]))
            go_roundw
            case rel => exact ⟨k + 1, by go_num, by omega, trivial, HN2⟩
            case measure => simp [intOf]; omega
          | false =>
            have hbad := hbad h1 (.inr h2)
            clear h0
            go_wp2_with (first | (go_at_call 57; refine (rlead_any _ _).mono ?_; rintro e w1 ⟨rfl, rfl⟩; rw [h1]) | (go_at_call 58; refine (rdig_any _ _).mono ?_; rintro e w1 ⟨rfl, rfl⟩; rw [h2]))
            go_ret
            exact ⟨hbad.out, rfl⟩
    · obtain rfl : k = s.size := by omega
      by_cases he : s.size = 0
      · have e1 : s.toList.isEmpty = true := by
          rw [ByteArray.toList_eq]
          have := lsz s
          rw [he] at this
          rw [List.length_eq_zero_iff.1 this]; rfl
        have e2 : s.toList = [] := by simpa using e1
        have HZ := Lib.hid he
        clear he hlt
        go_wp2
        go_ret
        exact ⟨⟨false, rfl, fun h => (by cases h), fun h => (by have := HZ.out; omega)⟩, rfl⟩
      · have e1 : s.toList.isEmpty = false := by
          rw [ByteArray.toList_eq]
          have := lsz s
          cases hq : s.data.toList with
          | nil => rw [hq] at this; simp at this; omega
          | cons _ _ => rfl
        have e2 : s.toList ≠ [] := fun h => by rw [h] at e1; cases e1
        have HE : Hid (0 < s.size) := Lib.hid (by omega)
        clear he hlt
        go_wp2
        go_ret
        exact ⟨⟨true, rfl, fun _ => ⟨HE.out, hn.out⟩, fun _ => rfl⟩, rfl⟩
end Go.Proofs.YtinoaajohkafmaaGreat.Lx

/-
  The reference's small functions of chapter 14: only, plainName, plainText, target, has.
-/
namespace Go.Proofs.YtinoaajohkafmaaGreat.Pr
open Go Go.RowKit Go.Proofs.YtinoaajohkafmaaGreat.Pa Go.Proofs.YtinoaajohkafmaaGreat.Uni
open Go.Proofs.YtinoaajohkafmaaGreat.Lx
set_option linter.unusedVariables false
set_option linter.unusedSimpArgs false
attribute [local go_sem ↓] ldK stK alK bdK bsK ldN stN alN bdN bsN
attribute [local irreducible] kcs ncs ncells
attribute [local go_sem] run_alN run_stNg run_ldNg run_bdN0
theorem nameL_iff : ∀ l : By, nameL l = true ↔ 0 < l.length ∧ ∀ j, j < l.length → leadN (l[j]?.getD 0).toNat = true ∨ (0 < j ∧ digitN (l[j]?.getD 0).toNat = true)
  | [] => by simp [nameL]
  | c :: r => by
    unfold nameL
    rw [Bool.and_eq_true, List.all_eq_true]
    constructor
    · rintro ⟨h1, h2⟩
      refine ⟨by simp, fun j hj => ?_⟩
      cases j with
      | zero => left; simpa using h1
      | succ j =>
        have hj2 : j < r.length := by simpa using hj
        have := h2 r[j] (List.getElem_mem hj2)
        unfold contN at this
        rw [Bool.or_eq_true] at this
        simp only [List.getElem?_cons_succ, List.getElem?_eq_getElem hj2, Option.getD_some]
        rcases this with h | h
        · exact .inl h
        · exact .inr ⟨by omega, h⟩
    · rintro ⟨-, h⟩
      refine ⟨?_, fun x hx => ?_⟩
      · rcases h 0 (by simp) with h | h
        · simpa using h
        · omega
      · obtain ⟨j, hj, rfl⟩ := List.getElem_of_mem hx
        have := h (j + 1) (by simp; omega)
        simp only [List.getElem?_cons_succ, List.getElem?_eq_getElem hj, Option.getD_some] at this
        unfold contN
        rw [Bool.or_eq_true]
        rcases this with h | h
        · exact .inl h
        · exact .inr h.2
theorem nameB_iff {s : ByteArray} (hs : s.size ≤ 1048576) : nameB s = true ↔ 0 < s.size ∧ NamedTo s s.size := by
  unfold nameB
  rw [decide_eq_true hs, Bool.and_true, nameL_iff]
  have e : s.data.toList.length = s.size := by simp
  rw [e]
  exact Iff.rfl
theorem named_b (s : ByteArray) (w : World) (hs : s.size ≤ 1048576) : Calls Tryz.prog 97 #[.string s] w fun e w' => e = .returned (.bool (nameB s)) ∧ w = w' := by
  refine (named_any s w (by omega)).mono ?_
  rintro e w' ⟨⟨b, rfl, hb⟩, rfl⟩
  refine ⟨?_, rfl⟩
  have := (nameB_iff hs)
  cases b with
  | true => rw [this.2 (hb.1 rfl)]
  | false =>
    cases h : nameB s with
    | false => rfl
    | true => exact absurd (hb.2 (this.1 h)) (by simp)
theorem tl_data (s : ByteArray) : s.toList = s.data.toList := ByteArray.toList_eq s
theorem plainName_0 (s : ByteArray) (w : World) (hs : s.size ≤ 1048576) (h : nameB s = false) : Calls Tryz.prog 68 #[.string s] w (PostR w (.bool false)) := by
  have c1 := named_b s w hs
  rw [h] at c1
  clear h hs
  go_enter Tryz.func68, Tryz.ntmps68
  go_wp2_with (go_at_call 97; (with_reducible refine c1.mono ?_); rintro e w1 ⟨rfl, rfl⟩)
  go_ret
  exact ⟨rfl, Below.refl _ _⟩
theorem plainName_10 (s : ByteArray) (w : World) (hs : s.size ≤ 1048576) (h : nameB s = true) (hw : wordF s.toList = 0) : Calls Tryz.prog 68 #[.string s] w (PostR w (.bool true)) := by
  have c1 := named_b s w hs
  have c2 := rword_any s w
  rw [h] at c1
  rw [hw] at c2
  clear h hs hw
  go_enter Tryz.func68, Tryz.ntmps68
  go_wp2_with (first | (go_at_call 97; (with_reducible refine c1.mono ?_); rintro e w1 ⟨rfl, rfl⟩) | (go_at_call 59; (with_reducible refine c2.mono ?_); rintro e w1 ⟨rfl, hb⟩; have HB := Lib.hid hb; clear hb))
  go_ret
  exact ⟨rfl, HB.out⟩
theorem plainName_11 (s : ByteArray) (w : World) (hs : s.size ≤ 1048576) (h : nameB s = true) (hw : wordF s.toList = 1) : Calls Tryz.prog 68 #[.string s] w (PostR w (.bool false)) := by
  have c1 := named_b s w hs
  have c2 := rword_any s w
  rw [h] at c1
  rw [hw] at c2
  clear h hs hw
  go_enter Tryz.func68, Tryz.ntmps68
  go_wp2_with (first | (go_at_call 97; (with_reducible refine c1.mono ?_); rintro e w1 ⟨rfl, rfl⟩) | (go_at_call 59; (with_reducible refine c2.mono ?_); rintro e w1 ⟨rfl, hb⟩; have HB := Lib.hid hb; clear hb))
  go_ret
  exact ⟨rfl, HB.out⟩
theorem plainName_12 (s : ByteArray) (w : World) (hs : s.size ≤ 1048576) (h : nameB s = true) (hw : wordF s.toList = 2) : Calls Tryz.prog 68 #[.string s] w (PostR w (.bool false)) := by
  have c1 := named_b s w hs
  have c2 := rword_any s w
  rw [h] at c1
  rw [hw] at c2
  clear h hs hw
  go_enter Tryz.func68, Tryz.ntmps68
  go_wp2_with (first | (go_at_call 97; (with_reducible refine c1.mono ?_); rintro e w1 ⟨rfl, rfl⟩) | (go_at_call 59; (with_reducible refine c2.mono ?_); rintro e w1 ⟨rfl, hb⟩; have HB := Lib.hid hb; clear hb))
  go_ret
  exact ⟨rfl, HB.out⟩
theorem plainName_any (s : ByteArray) (w : World) (hs : s.size ≤ 1048576) : Calls Tryz.prog 68 #[.string s] w (PostR w (.bool (varB s))) := by
  unfold varB
  rw [← tl_data]
  cases h : nameB s with
  | false => exact plainName_0 s w hs h
  | true =>
    rcases (by unfold wordF; split; exact .inr (.inl rfl); split; exact .inr (.inr rfl); exact .inl rfl : wordF s.toList = 0 ∨ wordF s.toList = 1 ∨ wordF s.toList = 2) with h2 | h2 | h2
    · rw [h2]; exact plainName_10 s w hs h h2
    · rw [h2]; exact plainName_11 s w hs h h2
    · rw [h2]; exact plainName_12 s w hs h h2
theorem plainText_0 (s : ByteArray) (w : World) (hs : s.size ≤ 1048576) (h : (pts s).isSome = false) : Calls Tryz.prog 98 #[.string s] w (PostR w (.bool false)) := by
  have c1 := rightText_any s w (by omega)
  rw [h] at c1
  clear h hs
  go_enter Tryz.func98, Tryz.ntmps98
  go_wp2_with (go_at_call 112; (with_reducible refine c1.mono ?_); rintro e w1 ⟨rfl, hb⟩; have HB := Lib.hid hb; clear hb)
  go_ret
  exact ⟨rfl, HB.out⟩
theorem plainText_1 (s : ByteArray) (w : World) (hs : s.size ≤ 1048576) (h : (pts s).isSome = true) : Calls Tryz.prog 98 #[.string s] w (PostR w (.bool (decide ((units s).length ≤ 10000)))) := by
  have c1 := rightText_any s w (by omega)
  have c2 := fun w => runits_any s w (by omega)
  rw [h] at c1
  obtain ⟨m, hm⟩ : ∃ m, (units s).length = m := ⟨_, rfl⟩
  obtain ⟨b, hb⟩ : ∃ b, decide ((m : Int) ≤ 10000) = b := ⟨_, rfl⟩
  have hb2 : decide (m ≤ 10000) = b := by rw [← hb]; exact decide_eq_decide.2 (by omega)
  rw [hm, hb2]
  have HM := Lib.hid hm
  clear h hs hm hb2
  go_enter Tryz.func98, Tryz.ntmps98
  go_wp2_with (first | (go_at_call 112; (with_reducible refine c1.mono ?_); rintro e w1 ⟨rfl, hb⟩; have HB := Lib.hid hb; clear hb) | (go_at_call 76; (with_reducible refine (c2 _).mono ?_); rintro e w2 ⟨v, rfl, hown, hb3⟩; obtain ⟨ao, cp, rfl⟩ := own_shape hown; rw [HM.out]; have HB2 := Lib.hid (HB.out.trans (hb3.mono HB.out.size)); clear hb3 hown))
  go_ret
  exact ⟨rfl, HB2.out⟩
theorem plainText_any (s : ByteArray) (w : World) (hs : s.size ≤ 1048576) : Calls Tryz.prog 98 #[.string s] w (PostR w (.bool (rtB s))) := by
  unfold rtB
  cases h : (pts s).isSome with
  | false => exact plainText_0 s w hs h
  | true => exact plainText_1 s w hs h
def onlyB (a b c : Bool) (N : Nd) : Bool := (a || N.num == 0) && ((b || N.text.toList.isEmpty) && (c || N.names.n == 0))
set_option maxRecDepth 100000 in
theorem only_fff (N : Nd) (w : World) : Calls Tryz.prog 29 #[.agg (ncs N), .bool false, .bool false, .bool false] w (PostR w (.bool (onlyB false false false N))) := by
  unfold onlyB
  obtain ⟨m, hm⟩ : ∃ m, N.names.n = m := ⟨_, rfl⟩
  obtain ⟨q, hq⟩ : ∃ q, ((m : Int) == 0) = q := ⟨_, rfl⟩
  have hq2 : (m == 0) = q := by rw [← hq, Bool.eq_iff_iff]; simp
  have hB : Below w.heap.size w (w.alloc (.cells (ncs N) 25)) := bel1
  have bN := Blk.new w (ncs N) 25
  have n0 := (bN.cell 0).trans (ncs_0 N)
  have n1 := (bN.cell 1).trans (ncs_1 N)
  have n2 := (bN.cell 2).trans (ncs_2 N)
  have n3 := (bN.cell 3).trans (ncs_3 N)
  have n4 := (bN.cell 4).trans (ncs_4 N)
  have HB := Lib.hid hB
  clear hB bN
  rw [hm] at n3 ⊢
  rw [hq2]
  clear hq2 hm
  cases h1 : N.num == 0 <;> cases h2 : N.text.toList.isEmpty <;> cases q <;> (
    go_enter Tryz.func29, Tryz.ntmps29
    go_wp2
    go_ret
    exact ⟨rfl, HB.out⟩)
set_option maxRecDepth 100000 in
theorem only_tff (N : Nd) (w : World) : Calls Tryz.prog 29 #[.agg (ncs N), .bool true, .bool false, .bool false] w (PostR w (.bool (onlyB true false false N))) := by
  unfold onlyB
  obtain ⟨m, hm⟩ : ∃ m, N.names.n = m := ⟨_, rfl⟩
  obtain ⟨q, hq⟩ : ∃ q, ((m : Int) == 0) = q := ⟨_, rfl⟩
  have hq2 : (m == 0) = q := by rw [← hq, Bool.eq_iff_iff]; simp
  have hB : Below w.heap.size w (w.alloc (.cells (ncs N) 25)) := bel1
  have bN := Blk.new w (ncs N) 25
  have n0 := (bN.cell 0).trans (ncs_0 N)
  have n1 := (bN.cell 1).trans (ncs_1 N)
  have n2 := (bN.cell 2).trans (ncs_2 N)
  have n3 := (bN.cell 3).trans (ncs_3 N)
  have n4 := (bN.cell 4).trans (ncs_4 N)
  have HB := Lib.hid hB
  clear hB bN
  rw [hm] at n3 ⊢
  rw [hq2]
  clear hq2 hm
  cases h1 : N.num == 0 <;> cases h2 : N.text.toList.isEmpty <;> cases q <;> (
    go_enter Tryz.func29, Tryz.ntmps29
    go_wp2
    go_ret
    exact ⟨rfl, HB.out⟩)
set_option maxRecDepth 100000 in
theorem only_ftf (N : Nd) (w : World) : Calls Tryz.prog 29 #[.agg (ncs N), .bool false, .bool true, .bool false] w (PostR w (.bool (onlyB false true false N))) := by
  unfold onlyB
  obtain ⟨m, hm⟩ : ∃ m, N.names.n = m := ⟨_, rfl⟩
  obtain ⟨q, hq⟩ : ∃ q, ((m : Int) == 0) = q := ⟨_, rfl⟩
  have hq2 : (m == 0) = q := by rw [← hq, Bool.eq_iff_iff]; simp
  have hB : Below w.heap.size w (w.alloc (.cells (ncs N) 25)) := bel1
  have bN := Blk.new w (ncs N) 25
  have n0 := (bN.cell 0).trans (ncs_0 N)
  have n1 := (bN.cell 1).trans (ncs_1 N)
  have n2 := (bN.cell 2).trans (ncs_2 N)
  have n3 := (bN.cell 3).trans (ncs_3 N)
  have n4 := (bN.cell 4).trans (ncs_4 N)
  have HB := Lib.hid hB
  clear hB bN
  rw [hm] at n3 ⊢
  rw [hq2]
  clear hq2 hm
  cases h1 : N.num == 0 <;> cases h2 : N.text.toList.isEmpty <;> cases q <;> (
    go_enter Tryz.func29, Tryz.ntmps29
    go_wp2
    go_ret
    exact ⟨rfl, HB.out⟩)
set_option maxRecDepth 100000 in
theorem target_any (N : Nd) (w : World) : Calls Tryz.prog 100 #[.agg (ncs N)] w (PostR w (.bool (N.kind == 8 || (N.kind == 15 || N.kind == 16)))) := by
  have hB : Below w.heap.size w (w.alloc (.cells (ncs N) 25)) := bel1
  have bN := Blk.new w (ncs N) 25
  have n0 := (bN.cell 0).trans (ncs_0 N)
  have n1 := (bN.cell 1).trans (ncs_1 N)
  have n2 := (bN.cell 2).trans (ncs_2 N)
  have n3 := (bN.cell 3).trans (ncs_3 N)
  have n4 := (bN.cell 4).trans (ncs_4 N)
  have HB := Lib.hid hB
  clear hB bN
  cases h1 : N.kind == 8 <;> cases h2 : N.kind == 15 <;> cases h3 : N.kind == 16 <;> (
    go_enter Tryz.func100, Tryz.ntmps100
    go_wp2
    go_ret
    exact ⟨rfl, HB.out⟩)
def un3L : List By := [[33], [45], [116, 121, 112, 101, 111, 102]]
def un3_cs : Array Value := (strs un3L).toArray
theorem bs_un3 (ps : Array (Nat × Value)) : Instr.buildSlice 22 3 ps = Lx.BsS 3 ps := (rfl)
theorem run_un3 (w : World) : (Lx.BsS 3 #[(0, .string ⟨#[33]⟩), (1, .string ⟨#[45]⟩), (2, .string ⟨#[116, 121, 112, 101, 111, 102]⟩)]).run Tryz.prog w = .ok (.slice (some ⟨w.heap.size, 0, none⟩) 3 3) (w.alloc (.cells un3_cs 9)) := by
  obtain ⟨i, hi, hz, hs, hb⟩ := info_parts infoS
  exact run_buildSlice w 22 9 3 _ un3_cs i (.string ⟨#[]⟩) Tryz.underlying22 hi hz (by rw [hs]; decide) (by rw [hs]; decide) (by rw [hs]; kernel_rfl)
theorem un3_at {w : World} {o : Nat} (h : Blk w o un3_cs 9) : ∀ k, k < 3 → w.cell? ⟨o, k, none⟩ = some (.string (bs (un3L.getD k []))) := cs_at rfl h
theorem has_un3 (b : Nat) (s : ByteArray) (w : World) (h : Blk w b un3_cs 9) : Calls Tryz.prog 53 #[.slice (some ⟨b, 0, none⟩) 3 3, .string s] w (PostR w (.bool (un3L.contains s.data.toList))) := by
  refine (has_any b 3 un3L s w (by decide) (by decide) (un3_at h)).mono ?_
  rintro e w' ⟨rfl, rfl⟩
  refine ⟨?_, Below.refl _ _⟩
  rw [tl_data]
  congr 2
  cases hq : un3L.contains s.data.toList with
  | true => exact decide_eq_true (by simpa using hq)
  | false => exact decide_eq_false (by simpa using hq)
def bin12L : List By := [[61, 61, 61], [33, 61, 61], [60], [62], [60, 61], [62, 61], [105, 110], [43], [45], [42], [47], [37]]
def bin12_cs : Array Value := (strs bin12L).toArray
theorem bs_bin12 (ps : Array (Nat × Value)) : Instr.buildSlice 22 12 ps = Lx.BsS 12 ps := (rfl)
theorem run_bin12 (w : World) : (Lx.BsS 12 #[(0, .string ⟨#[61, 61, 61]⟩), (1, .string ⟨#[33, 61, 61]⟩), (2, .string ⟨#[60]⟩), (3, .string ⟨#[62]⟩), (4, .string ⟨#[60, 61]⟩), (5, .string ⟨#[62, 61]⟩), (6, .string ⟨#[105, 110]⟩), (7, .string ⟨#[43]⟩), (8, .string ⟨#[45]⟩), (9, .string ⟨#[42]⟩), (10, .string ⟨#[47]⟩), (11, .string ⟨#[37]⟩)]).run Tryz.prog w = .ok (.slice (some ⟨w.heap.size, 0, none⟩) 12 12) (w.alloc (.cells bin12_cs 9)) := by
  obtain ⟨i, hi, hz, hs, hb⟩ := info_parts infoS
  exact run_buildSlice w 22 9 12 _ bin12_cs i (.string ⟨#[]⟩) Tryz.underlying22 hi hz (by rw [hs]; decide) (by rw [hs]; decide) (by rw [hs]; kernel_rfl)
theorem bin12_at {w : World} {o : Nat} (h : Blk w o bin12_cs 9) : ∀ k, k < 12 → w.cell? ⟨o, k, none⟩ = some (.string (bs (bin12L.getD k []))) := cs_at rfl h
theorem has_bin12 (b : Nat) (s : ByteArray) (w : World) (h : Blk w b bin12_cs 9) : Calls Tryz.prog 53 #[.slice (some ⟨b, 0, none⟩) 12 12, .string s] w (PostR w (.bool (bin12L.contains s.data.toList))) := by
  refine (has_any b 12 bin12L s w (by decide) (by decide) (bin12_at h)).mono ?_
  rintro e w' ⟨rfl, rfl⟩
  refine ⟨?_, Below.refl _ _⟩
  rw [tl_data]
  congr 2
  cases hq : bin12L.contains s.data.toList with
  | true => exact decide_eq_true (by simpa using hq)
  | false => exact decide_eq_false (by simpa using hq)
end Go.Proofs.YtinoaajohkafmaaGreat.Pr
