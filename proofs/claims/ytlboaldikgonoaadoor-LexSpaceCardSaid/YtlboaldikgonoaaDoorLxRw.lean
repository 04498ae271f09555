/-
  The reference's Word and Named.
-/
import Derived.Test.YtlboaldikgonoaaDoorLxAlive
namespace Go.Proofs.YtlboaldikgonoaaDoor.Lx
open Go Go.RowKit Go.Proofs.YtlboaldikgonoaaDoor.Uni
set_option linter.unusedVariables false
set_option linter.unusedSimpArgs false

/-! ### Word -/
def strs (l : List By) : List Value := l.map fun s => Value.string (bs s)
theorem infoS : (Tryd.prog.info? 9).map (fun i => (i.zero, i.size, i.bytes)) = some (some (.string ⟨#[]⟩), 1, 16) := by kernel_rfl
def BsS (n : Nat) (ps : Array (Nat × Value)) : Sem Value := Instr.buildSlice 26 n ps
theorem bs22 (ps : Array (Nat × Value)) : Instr.buildSlice 26 22 ps = BsS 22 ps := (rfl)
theorem bs25 (ps : Array (Nat × Value)) : Instr.buildSlice 26 25 ps = BsS 25 ps := (rfl)

def used_ps : Array (Nat × Value) := #[(0, .string ⟨#[98, 114, 101, 97, 107]⟩), (1, .string ⟨#[99, 97, 116, 99, 104]⟩), (2, .string ⟨#[99, 111, 110, 115, 116]⟩), (3, .string ⟨#[99, 111, 110, 116, 105, 110, 117, 101]⟩), (4, .string ⟨#[100, 101, 108, 101, 116, 101]⟩), (5, .string ⟨#[101, 108, 115, 101]⟩), (6, .string ⟨#[102, 97, 108, 115, 101]⟩), (7, .string ⟨#[102, 105, 110, 97, 108, 108, 121]⟩), (8, .string ⟨#[102, 117, 110, 99, 116, 105, 111, 110]⟩), (9, .string ⟨#[105, 102]⟩), (10, .string ⟨#[105, 110]⟩), (11, .string ⟨#[108, 101, 116]⟩), (12, .string ⟨#[110, 101, 119]⟩), (13, .string ⟨#[110, 117, 108, 108]⟩), (14, .string ⟨#[114, 101, 116, 117, 114, 110]⟩), (15, .string ⟨#[116, 104, 105, 115]⟩), (16, .string ⟨#[116, 104, 114, 111, 119]⟩), (17, .string ⟨#[116, 114, 117, 101]⟩), (18, .string ⟨#[116, 114, 121]⟩), (19, .string ⟨#[116, 121, 112, 101, 111, 102]⟩), (20, .string ⟨#[117, 110, 100, 101, 102, 105, 110, 101, 100]⟩), (21, .string ⟨#[119, 104, 105, 108, 101]⟩)]
def used_cs : Array Value := (strs used).toArray
theorem run_used (w : World) : (BsS 22 #[(0, .string ⟨#[98, 114, 101, 97, 107]⟩), (1, .string ⟨#[99, 97, 116, 99, 104]⟩), (2, .string ⟨#[99, 111, 110, 115, 116]⟩), (3, .string ⟨#[99, 111, 110, 116, 105, 110, 117, 101]⟩), (4, .string ⟨#[100, 101, 108, 101, 116, 101]⟩), (5, .string ⟨#[101, 108, 115, 101]⟩), (6, .string ⟨#[102, 97, 108, 115, 101]⟩), (7, .string ⟨#[102, 105, 110, 97, 108, 108, 121]⟩), (8, .string ⟨#[102, 117, 110, 99, 116, 105, 111, 110]⟩), (9, .string ⟨#[105, 102]⟩), (10, .string ⟨#[105, 110]⟩), (11, .string ⟨#[108, 101, 116]⟩), (12, .string ⟨#[110, 101, 119]⟩), (13, .string ⟨#[110, 117, 108, 108]⟩), (14, .string ⟨#[114, 101, 116, 117, 114, 110]⟩), (15, .string ⟨#[116, 104, 105, 115]⟩), (16, .string ⟨#[116, 104, 114, 111, 119]⟩), (17, .string ⟨#[116, 114, 117, 101]⟩), (18, .string ⟨#[116, 114, 121]⟩), (19, .string ⟨#[116, 121, 112, 101, 111, 102]⟩), (20, .string ⟨#[117, 110, 100, 101, 102, 105, 110, 101, 100]⟩), (21, .string ⟨#[119, 104, 105, 108, 101]⟩)]).run Tryd.prog w = .ok (.slice (some ⟨w.heap.size, 0, none⟩) 22 22) (w.alloc (.cells used_cs 9)) := by
  obtain ⟨i, hi, hz, hs, hb⟩ := info_parts infoS
  exact run_buildSlice w 26 9 22 _ used_cs i (.string ⟨#[]⟩) Tryd.underlying26 hi hz (by rw [hs]; decide) (by rw [hs]; decide) (by rw [hs]; kernel_rfl)

def unused_ps : Array (Nat × Value) := #[(0, .string ⟨#[97, 119, 97, 105, 116]⟩), (1, .string ⟨#[99, 97, 115, 101]⟩), (2, .string ⟨#[99, 108, 97, 115, 115]⟩), (3, .string ⟨#[100, 101, 98, 117, 103, 103, 101, 114]⟩), (4, .string ⟨#[100, 101, 102, 97, 117, 108, 116]⟩), (5, .string ⟨#[100, 111]⟩), (6, .string ⟨#[101, 110, 117, 109]⟩), (7, .string ⟨#[101, 120, 112, 111, 114, 116]⟩), (8, .string ⟨#[101, 120, 116, 101, 110, 100, 115]⟩), (9, .string ⟨#[102, 111, 114]⟩), (10, .string ⟨#[105, 109, 112, 108, 101, 109, 101, 110, 116, 115]⟩), (11, .string ⟨#[105, 109, 112, 111, 114, 116]⟩), (12, .string ⟨#[105, 110, 115, 116, 97, 110, 99, 101, 111, 102]⟩), (13, .string ⟨#[105, 110, 116, 101, 114, 102, 97, 99, 101]⟩), (14, .string ⟨#[112, 97, 99, 107, 97, 103, 101]⟩), (15, .string ⟨#[112, 114, 105, 118, 97, 116, 101]⟩), (16, .string ⟨#[112, 114, 111, 116, 101, 99, 116, 101, 100]⟩), (17, .string ⟨#[112, 117, 98, 108, 105, 99]⟩), (18, .string ⟨#[115, 116, 97, 116, 105, 99]⟩), (19, .string ⟨#[115, 117, 112, 101, 114]⟩), (20, .string ⟨#[115, 119, 105, 116, 99, 104]⟩), (21, .string ⟨#[118, 97, 114]⟩), (22, .string ⟨#[118, 111, 105, 100]⟩), (23, .string ⟨#[119, 105, 116, 104]⟩), (24, .string ⟨#[121, 105, 101, 108, 100]⟩)]
def unused_cs : Array Value := (strs unused).toArray
theorem run_unused (w : World) : (BsS 25 #[(0, .string ⟨#[97, 119, 97, 105, 116]⟩), (1, .string ⟨#[99, 97, 115, 101]⟩), (2, .string ⟨#[99, 108, 97, 115, 115]⟩), (3, .string ⟨#[100, 101, 98, 117, 103, 103, 101, 114]⟩), (4, .string ⟨#[100, 101, 102, 97, 117, 108, 116]⟩), (5, .string ⟨#[100, 111]⟩), (6, .string ⟨#[101, 110, 117, 109]⟩), (7, .string ⟨#[101, 120, 112, 111, 114, 116]⟩), (8, .string ⟨#[101, 120, 116, 101, 110, 100, 115]⟩), (9, .string ⟨#[102, 111, 114]⟩), (10, .string ⟨#[105, 109, 112, 108, 101, 109, 101, 110, 116, 115]⟩), (11, .string ⟨#[105, 109, 112, 111, 114, 116]⟩), (12, .string ⟨#[105, 110, 115, 116, 97, 110, 99, 101, 111, 102]⟩), (13, .string ⟨#[105, 110, 116, 101, 114, 102, 97, 99, 101]⟩), (14, .string ⟨#[112, 97, 99, 107, 97, 103, 101]⟩), (15, .string ⟨#[112, 114, 105, 118, 97, 116, 101]⟩), (16, .string ⟨#[112, 114, 111, 116, 101, 99, 116, 101, 100]⟩), (17, .string ⟨#[112, 117, 98, 108, 105, 99]⟩), (18, .string ⟨#[115, 116, 97, 116, 105, 99]⟩), (19, .string ⟨#[115, 117, 112, 101, 114]⟩), (20, .string ⟨#[115, 119, 105, 116, 99, 104]⟩), (21, .string ⟨#[118, 97, 114]⟩), (22, .string ⟨#[118, 111, 105, 100]⟩), (23, .string ⟨#[119, 105, 116, 104]⟩), (24, .string ⟨#[121, 105, 101, 108, 100]⟩)]).run Tryd.prog w = .ok (.slice (some ⟨w.heap.size, 0, none⟩) 25 25) (w.alloc (.cells unused_cs 9)) := by
  obtain ⟨i, hi, hz, hs, hb⟩ := info_parts infoS
  exact run_buildSlice w 26 9 25 _ unused_cs i (.string ⟨#[]⟩) Tryd.underlying26 hi hz (by rw [hs]; decide) (by rw [hs]; decide) (by rw [hs]; kernel_rfl)

theorem cs_at {w : World} {o : Nat} {cs : Array Value} {ws : List By} (hcs : cs = (strs ws).toArray) (h : Blk w o cs 9) : ∀ k, k < ws.length → w.cell? ⟨o, k, none⟩ = some (.string (bs (ws.getD k []))) := fun k hk => by
  subst hcs
  rw [h.cell]
  simp [strs, hk]
theorem used_at {w : World} {o : Nat} (h : Blk w o used_cs 9) : ∀ k, k < 22 → w.cell? ⟨o, k, none⟩ = some (.string (bs (used.getD k []))) := cs_at rfl h
theorem unused_at {w : World} {o : Nat} (h : Blk w o unused_cs 9) : ∀ k, k < 25 → w.cell? ⟨o, k, none⟩ = some (.string (bs (unused.getD k []))) := cs_at rfl h
attribute [local go_sem ↓] bs22 bs25
attribute [local irreducible] used_cs unused_cs
attribute [local go_sem] run_used run_unused

theorem tl_bs (l : By) : (bs l).toList = l := by rw [ByteArray.toList_eq, bs_list]
set_option maxHeartbeats 1000000 in
theorem has_any (b n : Nat) (ws : List By) (s : ByteArray) (w : World) (hn : ws.length = n) (hn2 : n ≤ 1000) (hc : ∀ k, k < n → w.cell? ⟨b, k, none⟩ = some (.string (bs (ws.getD k [])))) :
    Calls Tryd.prog 18 #[.slice (some ⟨b, 0, none⟩) n n, .string s] w fun e w' => e = .returned (.bool (decide (s.toList ∈ ws))) ∧ w = w' := by
  have HN := Lib.hid hn
  have hni : (n : Int) ≤ 1000 := by omega
  clear hn
  go_enter Tryd.func18, Tryd.ntmps18
  go_wp2
  go_loopw [5] (fun v wr => ∃ k : Nat, v = .int .i64 (k : Int) ∧ k ≤ n ∧ wr = w ∧ Hid (∀ j, j < k → ws.getD j [] ≠ s.toList)) (fun v _ => n - (intOf v).toNat)
  case atStart => exact ⟨0, rfl, by omega, rfl, Lib.hid (fun j hj => by omega)⟩
  case round =>
    obtain ⟨k, rfl, hk, rfl, hno⟩ := hrel
    by_cases hlt : k < n
    · have hki : (k : Int) < n := by omega
      have hck := hc k hlt
      obtain ⟨u, hu⟩ : ∃ u, bs (ws.getD k []) = u := ⟨_, rfl⟩
      have hul : u.toList = ws.getD k [] := by rw [← hu, tl_bs]
      rw [hu] at hck
      by_cases heq : u.toList = s.toList
      · have hb : (u.toList == s.toList) = true := by simpa using heq
        have hm : decide (s.toList ∈ ws) = true := by
          rw [decide_eq_true_eq, ← heq, hul, List.getD_eq_getElem?_getD, List.getElem?_eq_getElem (by have := HN.out; omega)]
          exact List.getElem_mem _
        have HM := Lib.hid hm
        clear hm heq hul hu hc
        go_wp2
        go_ret
        exact ⟨by rw [HM.out]; rfl, rfl⟩
      · have hb : (u.toList == s.toList) = false := by simpa using heq
        have hno2 : ∀ j, j < k + 1 → ws.getD j [] ≠ s.toList := fun j hj => by
          by_cases e : j = k
          · subst e; rw [← hul]; exact heq
          · exact hno.out j (by omega)
        have HN2 := Lib.hid hno2
        clear hno2 heq hul hu hc
        go_wp2
        go_roundw
        case rel => exact ⟨k + 1, by go_num, by omega, trivial, HN2⟩
        case measure => simp [intOf]; omega
    · obtain rfl : k = n := by omega
      have hm : decide (s.toList ∈ ws) = false := by
        rw [decide_eq_false_iff_not]
        intro h
        obtain ⟨j, hj, he⟩ := List.getElem_of_mem h
        refine hno.out j (by have := HN.out; omega) ?_
        rw [List.getD_eq_getElem?_getD, List.getElem?_eq_getElem hj]
        exact he
      have HM := Lib.hid hm
      clear hm hc
      go_wp2
      go_ret
      exact ⟨by rw [HM.out]; rfl, rfl⟩

set_option maxRecDepth 100000 in
set_option maxHeartbeats 1000000 in
theorem rword_any (s : ByteArray) (w : World) : Calls Tryd.prog 11 #[.string s] w fun e w' => e = .returned (.int .i64 (wordF s.toList : Nat)) ∧ Below w.heap.size w w' := by
  have h1 := has_any w.heap.size 22 used s (w.alloc (.cells used_cs 9)) (by decide) (by decide) (used_at (Blk.new w _ _))
  have h2 := has_any (w.heap.size + 1) 25 unused s ((w.alloc (.cells used_cs 9)).alloc (.cells unused_cs 9)) (by decide) (by decide) (unused_at (blk_newg (by simp)))
  by_cases m1 : s.toList ∈ used
  · have e : wordF s.toList = 1 := if_pos m1
    rw [decide_eq_true m1] at h1
    rw [e]
    clear m1 e h2
    go_enter Tryd.func11, Tryd.ntmps11
    go_wp2_with (go_at_call 18; refine h1.mono ?_; rintro e w1 ⟨rfl, rfl⟩)
    go_ret
    exact ⟨rfl, bel1⟩
  · rw [decide_eq_false m1] at h1
    by_cases m2 : s.toList ∈ unused
    · have e : wordF s.toList = 2 := by unfold wordF; rw [if_neg m1, if_pos m2]
      rw [decide_eq_true m2] at h2
      rw [e]
      clear m1 m2 e
      go_enter Tryd.func11, Tryd.ntmps11
      go_wp2_with (first | (go_at_call 18; (with_reducible refine h1.mono ?_); rintro e w1 ⟨rfl, rfl⟩) | (go_at_call 18; (with_reducible refine h2.mono ?_); rintro e w1 ⟨rfl, rfl⟩))
      go_ret
      exact ⟨rfl, bl_alloc bel1⟩
    · have e : wordF s.toList = 0 := by unfold wordF; rw [if_neg m1, if_neg m2]
      rw [decide_eq_false m2] at h2
      rw [e]
      clear m1 m2 e
      go_enter Tryd.func11, Tryd.ntmps11
      go_wp2_with (first | (go_at_call 18; (with_reducible refine h1.mono ?_); rintro e w1 ⟨rfl, rfl⟩) | (go_at_call 18; (with_reducible refine h2.mono ?_); rintro e w1 ⟨rfl, rfl⟩))
      go_ret
      exact ⟨rfl, bl_alloc bel1⟩

/-! ### Named -/
theorem rlead_0 (p : Nat) (w : World) (h : 97 ≤ p ∧ p ≤ 122) : Calls Tryd.prog 23 #[.int .u8 (p : Int)] w fun e w' => e = .returned (.bool (leadN p)) ∧ w = w' := by
  have f0 : decide (97 ≤ (p : Int)) = true := by simp; omega
  have f1 : decide ((p : Int) ≤ 122) = true := by simp; omega
  go_enter Tryd.func23, Tryd.ntmps23
  go_wp2
  go_ret
  exact ⟨ret_b (by simp [digitN, leadN]; try omega), rfl⟩

theorem rlead_1 (p : Nat) (w : World) (h : 122 < p) : Calls Tryd.prog 23 #[.int .u8 (p : Int)] w fun e w' => e = .returned (.bool (leadN p)) ∧ w = w' := by
  have f0 : decide (97 ≤ (p : Int)) = true := by simp; omega
  have f1 : decide ((p : Int) ≤ 122) = false := by simp; omega
  have f2 : decide (65 ≤ (p : Int)) = true := by simp; omega
  have f3 : decide ((p : Int) ≤ 90) = false := by simp; omega
  have f4 : ((p : Int) == 95) = false := by simp; omega
  have f5 : ((p : Int) == 36) = false := by simp; omega
  go_enter Tryd.func23, Tryd.ntmps23
  go_wp2
  go_ret
  exact ⟨ret_b (by simp [digitN, leadN]; try omega), rfl⟩

theorem rlead_2 (p : Nat) (w : World) (h : 65 ≤ p ∧ p ≤ 90) : Calls Tryd.prog 23 #[.int .u8 (p : Int)] w fun e w' => e = .returned (.bool (leadN p)) ∧ w = w' := by
  have f0 : decide (97 ≤ (p : Int)) = false := by simp; omega
  have f1 : decide (65 ≤ (p : Int)) = true := by simp; omega
  have f2 : decide ((p : Int) ≤ 90) = true := by simp; omega
  go_enter Tryd.func23, Tryd.ntmps23
  go_wp2
  go_ret
  exact ⟨ret_b (by simp [digitN, leadN]; try omega), rfl⟩

theorem rlead_3 (p : Nat) (w : World) (h : p = 95) : Calls Tryd.prog 23 #[.int .u8 (p : Int)] w fun e w' => e = .returned (.bool (leadN p)) ∧ w = w' := by
  have f0 : decide (97 ≤ (p : Int)) = false := by simp; omega
  have f1 : decide (65 ≤ (p : Int)) = true := by simp; omega
  have f2 : decide ((p : Int) ≤ 90) = false := by simp; omega
  have f3 : ((p : Int) == 95) = true := by simp; omega
  go_enter Tryd.func23, Tryd.ntmps23
  go_wp2
  go_ret
  exact ⟨ret_b (by simp [digitN, leadN]; try omega), rfl⟩

theorem rlead_4 (p : Nat) (w : World) (h : 90 < p ∧ p < 97 ∧ p ≠ 95) : Calls Tryd.prog 23 #[.int .u8 (p : Int)] w fun e w' => e = .returned (.bool (leadN p)) ∧ w = w' := by
  have f0 : decide (97 ≤ (p : Int)) = false := by simp; omega
  have f1 : decide (65 ≤ (p : Int)) = true := by simp; omega
  have f2 : decide ((p : Int) ≤ 90) = false := by simp; omega
  have f3 : ((p : Int) == 95) = false := by simp; omega
  have f4 : ((p : Int) == 36) = false := by simp; omega
  go_enter Tryd.func23, Tryd.ntmps23
  go_wp2
  go_ret
  exact ⟨ret_b (by simp [digitN, leadN]; try omega), rfl⟩

theorem rlead_5 (p : Nat) (w : World) (h : p = 36) : Calls Tryd.prog 23 #[.int .u8 (p : Int)] w fun e w' => e = .returned (.bool (leadN p)) ∧ w = w' := by
  have f0 : decide (97 ≤ (p : Int)) = false := by simp; omega
  have f1 : decide (65 ≤ (p : Int)) = false := by simp; omega
  have f2 : ((p : Int) == 95) = false := by simp; omega
  have f3 : ((p : Int) == 36) = true := by simp; omega
  go_enter Tryd.func23, Tryd.ntmps23
  go_wp2
  go_ret
  exact ⟨ret_b (by simp [digitN, leadN]; try omega), rfl⟩

theorem rlead_6 (p : Nat) (w : World) (h : p < 65 ∧ p ≠ 36) : Calls Tryd.prog 23 #[.int .u8 (p : Int)] w fun e w' => e = .returned (.bool (leadN p)) ∧ w = w' := by
  have f0 : decide (97 ≤ (p : Int)) = false := by simp; omega
  have f1 : decide (65 ≤ (p : Int)) = false := by simp; omega
  have f2 : ((p : Int) == 95) = false := by simp; omega
  have f3 : ((p : Int) == 36) = false := by simp; omega
  go_enter Tryd.func23, Tryd.ntmps23
  go_wp2
  go_ret
  exact ⟨ret_b (by simp [digitN, leadN]; try omega), rfl⟩

theorem rlead_any (p : Nat) (w : World) : Calls Tryd.prog 23 #[.int .u8 (p : Int)] w fun e w' => e = .returned (.bool (leadN p)) ∧ w = w' := by
  rcases (by omega : (97 ≤ p ∧ p ≤ 122) ∨ 122 < p ∨ (65 ≤ p ∧ p ≤ 90) ∨ p = 95 ∨ (90 < p ∧ p < 97 ∧ p ≠ 95) ∨ p = 36 ∨ (p < 65 ∧ p ≠ 36)) with h | h | h | h | h | h | h
  · exact rlead_0 p w h
  · exact rlead_1 p w h
  · exact rlead_2 p w h
  · exact rlead_3 p w h
  · exact rlead_4 p w h
  · exact rlead_5 p w h
  · exact rlead_6 p w h

theorem rdig_0 (p : Nat) (w : World) (h : p < 48) : Calls Tryd.prog 24 #[.int .u8 (p : Int)] w fun e w' => e = .returned (.bool (digitN p)) ∧ w = w' := by
  have f0 : decide (48 ≤ (p : Int)) = false := by simp; omega
  go_enter Tryd.func24, Tryd.ntmps24
  go_wp2
  go_ret
  exact ⟨ret_b (by simp [digitN, leadN]; try omega), rfl⟩

theorem rdig_1 (p : Nat) (w : World) (h : 48 ≤ p ∧ p ≤ 57) : Calls Tryd.prog 24 #[.int .u8 (p : Int)] w fun e w' => e = .returned (.bool (digitN p)) ∧ w = w' := by
  have f0 : decide (48 ≤ (p : Int)) = true := by simp; omega
  have f1 : decide ((p : Int) ≤ 57) = true := by simp; omega
  go_enter Tryd.func24, Tryd.ntmps24
  go_wp2
  go_ret
  exact ⟨ret_b (by simp [digitN, leadN]; try omega), rfl⟩

theorem rdig_2 (p : Nat) (w : World) (h : 57 < p) : Calls Tryd.prog 24 #[.int .u8 (p : Int)] w fun e w' => e = .returned (.bool (digitN p)) ∧ w = w' := by
  have f0 : decide (48 ≤ (p : Int)) = true := by simp; omega
  have f1 : decide ((p : Int) ≤ 57) = false := by simp; omega
  go_enter Tryd.func24, Tryd.ntmps24
  go_wp2
  go_ret
  exact ⟨ret_b (by simp [digitN, leadN]; try omega), rfl⟩

theorem rdig_any (p : Nat) (w : World) : Calls Tryd.prog 24 #[.int .u8 (p : Int)] w fun e w' => e = .returned (.bool (digitN p)) ∧ w = w' := by
  by_cases h1 : p < 48
  · exact rdig_0 p w h1
  · by_cases h2 : p ≤ 57
    · exact rdig_1 p w ⟨by omega, h2⟩
    · exact rdig_2 p w (by omega)

/-- A name's text: a first byte and the others. -/
def NamedTo (s : ByteArray) (k : Nat) : Prop := ∀ j, j < k → leadN (B s j) = true ∨ (0 < j ∧ digitN (B s j) = true)
theorem idx_u (t : ByteArray) (k : Nat) (hk : k < t.size) (w : World) : (Instr.index 9 (.string t) (.int .i64 (k : Int))).run Tryd.prog w = .ok (.int .u8 (B t k : Nat)) w := idx_at t k hk k rfl w
set_option maxHeartbeats 1000000 in
theorem named_any (s : ByteArray) (w : World) (hs : s.size ≤ 1000000) : Calls Tryd.prog 17 #[.string s] w fun e w' => (∃ b, e = .returned (.bool b) ∧ (b = true ↔ 0 < s.size ∧ NamedTo s s.size)) ∧ w = w' := by
  go_enter Tryd.func17, Tryd.ntmps17
  go_wp2
  go_loopw [3] (fun v wr => ∃ k : Nat, v = .int .i64 (k : Int) ∧ k ≤ s.size ∧ wr = w ∧ Hid (NamedTo s k)) (fun v _ => s.size - (intOf v).toNat)
  case atStart => exact ⟨0, rfl, by omega, rfl, Lib.hid (fun j hj => by omega)⟩
  case round =>
    obtain ⟨k, rfl, hk, rfl, hn⟩ := hrel
    by_cases hlt : k < s.size
    · have hki : (k : Int) < s.size := by omega
      have hix := fun w => idx_u s k hlt w
      obtain ⟨y, hy⟩ : ∃ y, B s k = y := ⟨_, rfl⟩
      rw [hy] at hix
      have hbad : leadN y = false → (k = 0 ∨ digitN y = false) → Hid (∃ b, Ending.returned (.bool false) = .returned (.bool b) ∧ (b = true ↔ 0 < s.size ∧ NamedTo s s.size)) := fun g1 g2 => Lib.hid ⟨false, rfl, fun h => (by cases h), fun h => by
        rcases h.2 k hlt with h3 | h3
        · rw [hy, g1] at h3; cases h3
        · rcases g2 with g2 | g2
          · omega
          · rw [hy, g2] at h3; cases h3.2⟩
      have HY := Lib.hid hy
      clear hy
      cases h1 : leadN y with
      | true =>
        clear hbad
        have hn2 : NamedTo s (k + 1) := fun j hj => by
          by_cases e : j = k
          · subst e; rw [HY.out]; exact .inl h1
          · exact hn.out j (by omega)
        have HN2 := Lib.hid hn2
        clear hn2
        go_wp2_with (go_at_call 23; refine (rlead_any _ _).mono ?_; rintro e w1 ⟨rfl, rfl⟩; rw [h1])
        go_roundw
        case rel => exact ⟨k + 1, by go_num, by omega, trivial, HN2⟩
        case measure => simp [intOf]; omega
      | false =>
        by_cases h0 : k = 0
        · have hk0 : (k : Int) ≤ 0 := by omega
          have hbad := hbad h1 (.inl h0)
          clear h0
          go_wp2_with (go_at_call 23; refine (rlead_any _ _).mono ?_; rintro e w1 ⟨rfl, rfl⟩; rw [h1])
          go_ret
          exact ⟨hbad.out, rfl⟩
        · have hk0 : 0 < (k : Int) := by omega
          cases h2 : digitN y with
          | true =>
            clear hbad
            have hn2 : NamedTo s (k + 1) := fun j hj => by
              by_cases e : j = k
              · subst e; rw [HY.out]; exact .inr ⟨by omega, h2⟩
              · exact hn.out j (by omega)
            have HN2 := Lib.hid hn2
            clear hn2 h0
            go_wp2_with (first | (go_at_call 23; refine (rlead_any _ _).mono ?_; rintro e w1 ⟨rfl, rfl⟩; rw [h1]) | (go_at_call 24; refine (rdig_any _ _).mono ?_; rintro e w1 ⟨rfl, rfl⟩; rw [h2]))
            go_roundw
            case rel => exact ⟨k + 1, by go_num, by omega, trivial, HN2⟩
            case measure => simp [intOf]; omega
          | false =>
            have hbad := hbad h1 (.inr h2)
            clear h0
            go_wp2_with (first | (go_at_call 23; refine (rlead_any _ _).mono ?_; rintro e w1 ⟨rfl, rfl⟩; rw [h1]) | (go_at_call 24; refine (rdig_any _ _).mono ?_; rintro e w1 ⟨rfl, rfl⟩; rw [h2]))
            go_ret
            exact ⟨hbad.out, rfl⟩
    · obtain rfl : k = s.size := by omega
      by_cases he : s.size = 0
      · have e1 : s.toList.isEmpty = true := by
          rw [ByteArray.toList_eq]
          have := lsz s
          rw [he] at this
          rw [List.length_eq_zero_iff.1 this]; rfl
        have e2 : s.toList = [] := by simpa using e1
        have HZ := Lib.hid he
        clear he hlt
        go_wp2
        go_ret
        exact ⟨⟨false, rfl, fun h => (by cases h), fun h => (by have := HZ.out; omega)⟩, rfl⟩
      · have e1 : s.toList.isEmpty = false := by
          rw [ByteArray.toList_eq]
          have := lsz s
          cases hq : s.data.toList with
          | nil => rw [hq] at this; simp at this; omega
          | cons _ _ => rfl
        have e2 : s.toList ≠ [] := fun h => by rw [h] at e1; cases e1
        have HE : Hid (0 < s.size) := Lib.hid (by omega)
        clear he hlt
        go_wp2
        go_ret
        exact ⟨⟨true, rfl, fun _ => ⟨HE.out, hn.out⟩, fun _ => rfl⟩, rfl⟩
end Go.Proofs.YtlboaldikgonoaaDoor.Lx
