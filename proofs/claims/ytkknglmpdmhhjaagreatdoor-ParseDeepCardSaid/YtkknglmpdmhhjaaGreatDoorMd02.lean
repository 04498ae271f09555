/-
  ParseDeep: the walk.
-/
import Derived.Test.YtkknglmpdmhhjaaGreatDoorMd01
import Derived.Test.YtkknglmpdmhhjaaGreatDoorMg35
import Derived.Lib.SlBytesConst
import Derived.Lib.SlBytesRow
import Derived.Maps.AppendAt
namespace Go.Proofs.YtkknglmpdmhhjaaGreatDoor.Pr
open Go Go.RowKit Go.Proofs.YtkknglmpdmhhjaaGreatDoor.Pa Go.Proofs.YtkknglmpdmhhjaaGreatDoor.Uni
open Go.Proofs.YtkknglmpdmhhjaaGreatDoor.Lx hiding nameF
set_option linter.unusedVariables false
set_option linter.unusedSimpArgs false
def AddS (a b : ByteArray) : Sem Value := Op.stringOp .add a b
theorem adS (a b : ByteArray) : Op.stringOp .add a b = AddS a b := (rfl)
theorem bs_app (a b : By) : bs a ++ bs b = bs (a ++ b) := by
  unfold bs
  apply ByteArray.ext
  simp
theorem run_adB (a b : By) (ha : a.length ≤ 10000) (hb : b.length ≤ 10000) (w : World) : (AddS (bs a) (bs b)).run Tryz.prog w = .ok (.string (bs (a ++ b))) w := by
  rw [← bs_app]
  have h1 : (bs a).size ≤ 10000 := by rw [bs_size]; exact ha
  have h2 : (bs b).size ≤ 10000 := by rw [bs_size]; exact hb
  unfold AddS
  exact run_string_add w (bs a) (bs b) (by omega) (by omega)
attribute [local go_sem ↓] ldK stK alK bdK bsK ldN stN alN bdN bsN adS
attribute [local irreducible] kcs ncs ncells AddS
attribute [local go_sem] run_alN run_stNg run_ldNg run_bdN0
def hdB (which n : Nat) : By := if which = 0 then List.replicate n 40 else if which = 1 then List.replicate n 33 else if which = 2 then List.replicate n 123 else if which = 3 then repB [97, 32, 61, 32] n else repB [119, 104, 105, 108, 101, 32, 40, 49, 41, 32] n
def tlB (which n : Nat) : By := if which = 0 then List.replicate n 41 else if which = 2 then List.replicate n 125 else []
theorem rep_succ (l : By) : ∀ n, repB l (n + 1) = repB l n ++ l
  | 0 => by simp [repB]
  | n + 1 => by
    show l ++ repB l (n + 1) = (l ++ repB l n) ++ l
    rw [rep_succ l n, List.append_assoc]
theorem hd_len (which n : Nat) (h : n ≤ 300) : (hdB which n).length ≤ 3000 := by
  unfold hdB
  split
  · simp; omega
  split
  · simp; omega
  split
  · simp; omega
  split
  · rw [rep_len]; simp; omega
  · rw [rep_len]; simp; omega
theorem tl_len (which n : Nat) (h : n ≤ 300) : (tlB which n).length ≤ 300 := by
  unfold tlB
  split
  · simp; omega
  split
  · simp; omega
  · simp
theorem hd_0 (n : Nat) : hdB 0 (n + 1) = hdB 0 n ++ [40] := by simp [hdB, List.replicate_succ']
theorem hd_1 (n : Nat) : hdB 1 (n + 1) = hdB 1 n ++ [33] := by simp [hdB, List.replicate_succ']
theorem hd_2 (n : Nat) : hdB 2 (n + 1) = hdB 2 n ++ [123] := by simp [hdB, List.replicate_succ']
theorem hd_3 (n : Nat) : hdB 3 (n + 1) = hdB 3 n ++ [97, 32, 61, 32] := by simp [hdB, rep_succ]
theorem hd_4 (n : Nat) : hdB 4 (n + 1) = hdB 4 n ++ [119, 104, 105, 108, 101, 32, 40, 49, 41, 32] := by simp [hdB, rep_succ]
theorem tl_0 (n : Nat) : tlB 0 (n + 1) = tlB 0 n ++ [41] := by simp [tlB, List.replicate_succ']
theorem tl_1 (n : Nat) : tlB 1 n = [] := by simp [tlB]
theorem tl_2 (n : Nat) : tlB 2 (n + 1) = tlB 2 n ++ [125] := by simp [tlB, List.replicate_succ']
theorem tl_3 (n : Nat) : tlB 3 n = [] := by simp [tlB]
theorem tl_4 (n : Nat) : tlB 4 n = [] := by simp [tlB]
theorem deepT_eq (which n : Nat) : deepT which n = if which = 2 then hdB which n ++ [97, 59] ++ tlB which n else hdB which n ++ [97] ++ tlB which n ++ [59] := by
  unfold deepT hdB tlB
  by_cases h0 : which = 0
  · subst h0; simp
  by_cases h1 : which = 1
  · subst h1; simp
  by_cases h2 : which = 2
  · subst h2; simp
  by_cases h3 : which = 3
  · subst h3; simp
  · simp [h0, h1, h2, h3]
theorem deep_any (which n : Nat) (hn : n ≤ 300) (hw : which ≤ 4) : (parseF (bs (deepT which n))).2.2 = if 3 + (if which = 0 then 2 else 1) * n ≤ 100 then 0 else 4 := by
  rcases (by omega : which = 0 ∨ which = 1 ∨ which = 2 ∨ which = 3 ∨ which = 4) with rfl | rfl | rfl | rfl | rfl
  · exact deep_0 n hn
  · exact deep_1 n hn
  · exact deep_2 n hn
  · exact deep_3 n hn
  · exact deep_4 n hn
/-- The loop's state. -/
def DI (which i : Nat) (h t a : Value) : Prop := h = .string (bs (hdB which i)) ∧ t = .string (bs (tlB which i)) ∧ a = .int .i64 (if which = 0 ∧ 0 < i then 2 else 1)
theorem parse_cv (s : ByteArray) (w : World) (hX : Gp w) (hm : s.size ≤ 9223372036854775807) :
    Calls Tryz.prog 10 #[.slice (some ⟨w.heap.size, 0, none⟩) s.size (grownCap w s.size 0 5)] (Lib.bytesWorld w 5 s) fun e w' => ∃ N, e = .returned (.tuple #[.agg (ncs N), .int .i64 (parseF s).2.1, .int .i64 (parseF s).2.2]) ∧ Below w.heap.size w w' := by
  refine (parse_str s w hX hm).mono ?_
  rintro e w' ⟨N, h1, -, h3⟩
  exact ⟨N, h1, h3⟩

set_option maxRecDepth 100000 in
set_option maxHeartbeats 4000000 in
theorem deep_out (n x : Int) (w : World) (hX : Gp w) (h : n < 0 ∨ 300 < n ∨ x < 0 ∨ 4 < x) : Calls Tryz.prog 4 #[.int .i64 n, .int .i64 x] w fun e w' => e = .returned (.bool true) ∧ Below w.heap.size w w' := by
  have hal := alive_any w hX
  clear hX
  by_cases h1 : n < 0
  · have e1 : decide (n < 0) = true := decide_eq_true h1
    clear h h1
    go_enter Tryz.func4, Tryz.ntmps4
    go_wp2_with (go_at_call 9; (with_reducible refine hal.mono ?_); rintro e w1 ⟨rfl, hb1⟩; have HB := Lib.hid hb1; clear hb1)
    go_ret
    exact ⟨rfl, HB.out⟩
  have e1 : decide (n < 0) = false := decide_eq_false h1
  by_cases h2 : 300 < n
  · have e2 : decide (300 < n) = true := decide_eq_true h2
    clear h h1 h2
    go_enter Tryz.func4, Tryz.ntmps4
    go_wp2_with (go_at_call 9; (with_reducible refine hal.mono ?_); rintro e w1 ⟨rfl, hb1⟩; have HB := Lib.hid hb1; clear hb1)
    go_ret
    exact ⟨rfl, HB.out⟩
  have e2 : decide (300 < n) = false := decide_eq_false h2
  by_cases h3 : x < 0
  · have e3 : decide (x < 0) = true := decide_eq_true h3
    clear h h1 h2 h3
    go_enter Tryz.func4, Tryz.ntmps4
    go_wp2_with (go_at_call 9; (with_reducible refine hal.mono ?_); rintro e w1 ⟨rfl, hb1⟩; have HB := Lib.hid hb1; clear hb1)
    go_ret
    exact ⟨rfl, HB.out⟩
  have e3 : decide (x < 0) = false := decide_eq_false h3
  have e4 : decide (4 < x) = true := decide_eq_true (by omega)
  clear h h1 h2 h3
  go_enter Tryz.func4, Tryz.ntmps4
  go_wp2_with (go_at_call 9; (with_reducible refine hal.mono ?_); rintro e w1 ⟨rfl, hb1⟩; have HB := Lib.hid hb1; clear hb1)
  go_ret
  exact ⟨rfl, HB.out⟩

set_option maxRecDepth 100000 in
set_option maxHeartbeats 4000000 in
theorem deep_w0 (n : Nat) (w : World) (hX : Gp w) (hn : n ≤ 300) : Calls Tryz.prog 4 #[.int .i64 (n : Int), .int .i64 0] w fun e w' => e = .returned (.bool true) ∧ Below w.heap.size w w' := by
  have hal := alive_any w hX
  have e1 : decide ((n : Int) < 0) = false := by simp
  have e2 : decide (300 < (n : Int)) = false := by simp; omega
  have hl1 := hd_len 0 n hn
  have hl2 := tl_len 0 n hn
  have hlen : (bs (deepT 0 n)).size ≤ 9223372036854775807 := by rw [bs_size]; have := deep_len 0 n hn; omega
  have hpa := fun (W : World) (hb : Below w.heap.size w W) => parse_cv (bs (deepT 0 n)) W (hX.below hb) hlen
  have hpf := deep_any 0 n hn (by decide)
  have hcv := fun w : World => Lib.run_convert_string_bytes (P := Tryz.prog) w 9 22 5 (bs (deepT 0 n)) Tryz.underlying9 Tryz.underlying22 Tryz.underlying5
  have ah : ∀ i, i ≤ 300 → ∀ w, (AddS (bs (hdB 0 i)) ⟨#[40]⟩).run Tryz.prog w = .ok (.string (bs (hdB 0 (i + 1)))) w := fun i hi w => by rw [hd_0]; exact run_adB _ [40] (by have := hd_len 0 i hi; omega) (by decide) w
  have at_ : ∀ i, i ≤ 300 → ∀ w, (AddS (bs (tlB 0 i)) ⟨#[41]⟩).run Tryz.prog w = .ok (.string (bs (tlB 0 (i + 1)))) w := fun i hi w => by rw [tl_0]; exact run_adB _ [41] (by have := tl_len 0 i hi; omega) (by decide) w
  have z1 : ∀ w, (AddS (bs (hdB 0 n)) ⟨#[97]⟩).run Tryz.prog w = .ok (.string (bs (hdB 0 n ++ [97]))) w := fun w => run_adB _ [97] (by omega) (by decide) w
  have z2 : ∀ w, (AddS (bs (hdB 0 n ++ [97])) (bs (tlB 0 n))).run Tryz.prog w = .ok (.string (bs (hdB 0 n ++ [97] ++ tlB 0 n))) w := fun w => run_adB _ _ (by simp; omega) (by omega) w
  have z3 : ∀ w, (AddS (bs (hdB 0 n ++ [97] ++ tlB 0 n)) ⟨#[59]⟩).run Tryz.prog w = .ok (.string (bs (deepT 0 n))) w := fun w => by rw [deepT_eq, if_neg (by decide)]; exact run_adB _ [59] (by simp; omega) (by decide) w
  obtain ⟨X1, hX1⟩ : ∃ X, bs (hdB 0 n ++ [97]) = X := ⟨_, rfl⟩
  obtain ⟨X2, hX2⟩ : ∃ X, bs (hdB 0 n ++ [97] ++ tlB 0 n) = X := ⟨_, rfl⟩
  rw [hX1] at z1 z2
  rw [hX2] at z2 z3
  clear hX1 hX2
  obtain ⟨p, hp⟩ : ∃ p, (parseF (bs (deepT 0 n))).2.1 = p := ⟨_, rfl⟩
  obtain ⟨f, hf⟩ : ∃ f, (parseF (bs (deepT 0 n))).2.2 = f := ⟨_, rfl⟩
  rw [hf] at hpf
  have HP := Lib.hid hp
  have HF := Lib.hid hf
  have HPF := Lib.hid hpf
  have HN := Lib.hid hn
  have hni : (n : Int) ≤ 300 := by omega
  clear hX hn hl1 hl2 hlen hp hf hpf
  go_enter Tryz.func4, Tryz.ntmps4
  go_wp2_with (go_at_call 9; (with_reducible refine hal.mono ?_); rintro e w1 ⟨rfl, hb1⟩; have HB := Lib.hid hb1; clear hb1)
  go_loopw [6, 7, 8, 10] (fun h t a v wr => ∃ i : Nat, v = .int .i64 (i : Int) ∧ i ≤ n ∧ DI 0 i h t a ∧ Below w.heap.size w wr) (fun _ _ _ v _ => n - (intOf v).toNat)
  case atStart => exact ⟨0, rfl, Nat.zero_le _, ⟨rfl, rfl, rfl⟩, HB.out⟩
  case round =>
    obtain ⟨i, rfl, hle, ⟨rfl, rfl, rfl⟩, hbw⟩ := hrel
    by_cases hlt : i < n
    · have hii : (i : Int) < (n : Int) := by omega
      have ah2 := ah i (by have := HN.out; omega)
      have at2 := at_ i (by have := HN.out; omega)
      have HBW := Lib.hid hbw
      clear hbw ah at_ z1 z2 z3
      go_wp2
      go_roundw
      case rel => exact ⟨i + 1, by go_num, by omega, ⟨rfl, rfl, by simp⟩, HBW.out⟩
      case measure => simp [intOf]; omega
    · have hin : i = n := by omega
      subst hin
      have hii : decide ((i : Int) < (i : Int)) = false := by simp
      clear hle
      have HBW := Lib.hid hbw
      obtain ⟨A, hA⟩ : ∃ A : Int, (if 0 = 0 ∧ 0 < i then 2 else 1) = A := ⟨_, rfl⟩
      obtain ⟨D, hD⟩ : ∃ D : Int, A * (i : Int) = D := ⟨_, rfl⟩
      have hD2 : D = 2 * (i : Int) := by
        rw [← hD, ← hA]
        by_cases h0 : 0 < i
        · simp [h0]
        · have : i = 0 := by omega
          subst this; simp
      have hD0 : 0 ≤ D := by omega
      have hD6 : D ≤ 600 := by have := HN.out; omega
      rw [hA]
      have HD := Lib.hid hD2
      clear hbw ah at_ hlt hA hD2
      by_cases hdp : 100 < 3 + D
      · have e5 : decide (100 < 3 + D) = true := decide_eq_true hdp
        have hf4 : (f == 4) = true := by have h1 := HPF.out; have h2 := HD.out; rw [if_neg (by simp; omega)] at h1; rw [h1]; rfl
        clear hdp
        go_wp2_with (first | (go_at_call 10; (with_reducible refine (hpa _ HBW.out).mono ?_); rintro e w2 ⟨N, rfl, hb⟩; rw [HP.out, HF.out]; have HB := Lib.hid (HBW.out.trans (hb.mono HBW.out.size)); clear hb) | (go_at_call 11; (with_reducible refine (num_any _ _).mono ?_); rintro e w3 ⟨rfl, rfl⟩))
        go_ret
        exact ⟨rfl, bl_alloc HB.out⟩
      · have e5 : decide (100 < 3 + D) = false := decide_eq_false hdp
        have hf4 : (f == 0) = true := by have h1 := HPF.out; have h2 := HD.out; rw [if_pos (by simp; omega)] at h1; rw [h1]; rfl
        clear hdp
        go_wp2_with (first | (go_at_call 10; (with_reducible refine (hpa _ HBW.out).mono ?_); rintro e w2 ⟨N, rfl, hb⟩; rw [HP.out, HF.out]; have HB := Lib.hid (HBW.out.trans (hb.mono HBW.out.size)); clear hb) | (go_at_call 11; (with_reducible refine (num_any _ _).mono ?_); rintro e w3 ⟨rfl, rfl⟩))
        go_ret
        exact ⟨rfl, bl_alloc HB.out⟩

set_option maxRecDepth 100000 in
set_option maxHeartbeats 4000000 in
theorem deep_w1 (n : Nat) (w : World) (hX : Gp w) (hn : n ≤ 300) : Calls Tryz.prog 4 #[.int .i64 (n : Int), .int .i64 1] w fun e w' => e = .returned (.bool true) ∧ Below w.heap.size w w' := by
  have hal := alive_any w hX
  have e1 : decide ((n : Int) < 0) = false := by simp
  have e2 : decide (300 < (n : Int)) = false := by simp; omega
  have hl1 := hd_len 1 n hn
  have hl2 := tl_len 1 n hn
  have hlen : (bs (deepT 1 n)).size ≤ 9223372036854775807 := by rw [bs_size]; have := deep_len 1 n hn; omega
  have hpa := fun (W : World) (hb : Below w.heap.size w W) => parse_cv (bs (deepT 1 n)) W (hX.below hb) hlen
  have hpf := deep_any 1 n hn (by decide)
  have hcv := fun w : World => Lib.run_convert_string_bytes (P := Tryz.prog) w 9 22 5 (bs (deepT 1 n)) Tryz.underlying9 Tryz.underlying22 Tryz.underlying5
  have ah : ∀ i, i ≤ 300 → ∀ w, (AddS (bs (hdB 1 i)) ⟨#[33]⟩).run Tryz.prog w = .ok (.string (bs (hdB 1 (i + 1)))) w := fun i hi w => by rw [hd_1]; exact run_adB _ [33] (by have := hd_len 1 i hi; omega) (by decide) w
  have z1 : ∀ w, (AddS (bs (hdB 1 n)) ⟨#[97]⟩).run Tryz.prog w = .ok (.string (bs (hdB 1 n ++ [97]))) w := fun w => run_adB _ [97] (by omega) (by decide) w
  have z2 : ∀ w, (AddS (bs (hdB 1 n ++ [97])) (bs (tlB 1 n))).run Tryz.prog w = .ok (.string (bs (hdB 1 n ++ [97] ++ tlB 1 n))) w := fun w => run_adB _ _ (by simp; omega) (by omega) w
  have z3 : ∀ w, (AddS (bs (hdB 1 n ++ [97] ++ tlB 1 n)) ⟨#[59]⟩).run Tryz.prog w = .ok (.string (bs (deepT 1 n))) w := fun w => by rw [deepT_eq, if_neg (by decide)]; exact run_adB _ [59] (by simp; omega) (by decide) w
  obtain ⟨X1, hX1⟩ : ∃ X, bs (hdB 1 n ++ [97]) = X := ⟨_, rfl⟩
  obtain ⟨X2, hX2⟩ : ∃ X, bs (hdB 1 n ++ [97] ++ tlB 1 n) = X := ⟨_, rfl⟩
  rw [hX1] at z1 z2
  rw [hX2] at z2 z3
  clear hX1 hX2
  obtain ⟨p, hp⟩ : ∃ p, (parseF (bs (deepT 1 n))).2.1 = p := ⟨_, rfl⟩
  obtain ⟨f, hf⟩ : ∃ f, (parseF (bs (deepT 1 n))).2.2 = f := ⟨_, rfl⟩
  rw [hf] at hpf
  have HP := Lib.hid hp
  have HF := Lib.hid hf
  have HPF := Lib.hid hpf
  have HN := Lib.hid hn
  have hni : (n : Int) ≤ 300 := by omega
  clear hX hn hl1 hl2 hlen hp hf hpf
  go_enter Tryz.func4, Tryz.ntmps4
  go_wp2_with (go_at_call 9; (with_reducible refine hal.mono ?_); rintro e w1 ⟨rfl, hb1⟩; have HB := Lib.hid hb1; clear hb1)
  go_loopw [6, 7, 8, 10] (fun h t a v wr => ∃ i : Nat, v = .int .i64 (i : Int) ∧ i ≤ n ∧ DI 1 i h t a ∧ Below w.heap.size w wr) (fun _ _ _ v _ => n - (intOf v).toNat)
  case atStart => exact ⟨0, rfl, Nat.zero_le _, ⟨rfl, rfl, rfl⟩, HB.out⟩
  case round =>
    obtain ⟨i, rfl, hle, ⟨rfl, rfl, rfl⟩, hbw⟩ := hrel
    by_cases hlt : i < n
    · have hii : (i : Int) < (n : Int) := by omega
      have ah2 := ah i (by have := HN.out; omega)

      have HBW := Lib.hid hbw
      clear hbw ah z1 z2 z3
      go_wp2
      go_roundw
      case rel => exact ⟨i + 1, by go_num, by omega, ⟨rfl, by rw [tl_1, tl_1], by simp⟩, HBW.out⟩
      case measure => simp [intOf]; omega
    · have hin : i = n := by omega
      subst hin
      have hii : decide ((i : Int) < (i : Int)) = false := by simp
      clear hle
      have HBW := Lib.hid hbw
      obtain ⟨A, hA⟩ : ∃ A : Int, (if 1 = 0 ∧ 0 < i then 2 else 1) = A := ⟨_, rfl⟩
      obtain ⟨D, hD⟩ : ∃ D : Int, A * (i : Int) = D := ⟨_, rfl⟩
      have hD2 : D = 1 * (i : Int) := by
        rw [← hD, ← hA]
        simp
        
        
        
      have hD0 : 0 ≤ D := by omega
      have hD6 : D ≤ 600 := by have := HN.out; omega
      rw [hA]
      have HD := Lib.hid hD2
      clear hbw ah hlt hA hD2
      by_cases hdp : 100 < 3 + D
      · have e5 : decide (100 < 3 + D) = true := decide_eq_true hdp
        have hf4 : (f == 4) = true := by have h1 := HPF.out; have h2 := HD.out; rw [if_neg (by simp; omega)] at h1; rw [h1]; rfl
        clear hdp
        go_wp2_with (first | (go_at_call 10; (with_reducible refine (hpa _ HBW.out).mono ?_); rintro e w2 ⟨N, rfl, hb⟩; rw [HP.out, HF.out]; have HB := Lib.hid (HBW.out.trans (hb.mono HBW.out.size)); clear hb) | (go_at_call 11; (with_reducible refine (num_any _ _).mono ?_); rintro e w3 ⟨rfl, rfl⟩))
        go_ret
        exact ⟨rfl, bl_alloc HB.out⟩
      · have e5 : decide (100 < 3 + D) = false := decide_eq_false hdp
        have hf4 : (f == 0) = true := by have h1 := HPF.out; have h2 := HD.out; rw [if_pos (by simp; omega)] at h1; rw [h1]; rfl
        clear hdp
        go_wp2_with (first | (go_at_call 10; (with_reducible refine (hpa _ HBW.out).mono ?_); rintro e w2 ⟨N, rfl, hb⟩; rw [HP.out, HF.out]; have HB := Lib.hid (HBW.out.trans (hb.mono HBW.out.size)); clear hb) | (go_at_call 11; (with_reducible refine (num_any _ _).mono ?_); rintro e w3 ⟨rfl, rfl⟩))
        go_ret
        exact ⟨rfl, bl_alloc HB.out⟩

set_option maxRecDepth 100000 in
set_option maxHeartbeats 4000000 in
theorem deep_w2 (n : Nat) (w : World) (hX : Gp w) (hn : n ≤ 300) : Calls Tryz.prog 4 #[.int .i64 (n : Int), .int .i64 2] w fun e w' => e = .returned (.bool true) ∧ Below w.heap.size w w' := by
  have hal := alive_any w hX
  have e1 : decide ((n : Int) < 0) = false := by simp
  have e2 : decide (300 < (n : Int)) = false := by simp; omega
  have hl1 := hd_len 2 n hn
  have hl2 := tl_len 2 n hn
  have hlen : (bs (deepT 2 n)).size ≤ 9223372036854775807 := by rw [bs_size]; have := deep_len 2 n hn; omega
  have hpa := fun (W : World) (hb : Below w.heap.size w W) => parse_cv (bs (deepT 2 n)) W (hX.below hb) hlen
  have hpf := deep_any 2 n hn (by decide)
  have hcv := fun w : World => Lib.run_convert_string_bytes (P := Tryz.prog) w 9 22 5 (bs (deepT 2 n)) Tryz.underlying9 Tryz.underlying22 Tryz.underlying5
  have ah : ∀ i, i ≤ 300 → ∀ w, (AddS (bs (hdB 2 i)) ⟨#[123]⟩).run Tryz.prog w = .ok (.string (bs (hdB 2 (i + 1)))) w := fun i hi w => by rw [hd_2]; exact run_adB _ [123] (by have := hd_len 2 i hi; omega) (by decide) w
  have at_ : ∀ i, i ≤ 300 → ∀ w, (AddS (bs (tlB 2 i)) ⟨#[125]⟩).run Tryz.prog w = .ok (.string (bs (tlB 2 (i + 1)))) w := fun i hi w => by rw [tl_2]; exact run_adB _ [125] (by have := tl_len 2 i hi; omega) (by decide) w
  have z1 : ∀ w, (AddS (bs (hdB 2 n)) ⟨#[97]⟩).run Tryz.prog w = .ok (.string (bs (hdB 2 n ++ [97]))) w := fun w => run_adB _ [97] (by omega) (by decide) w
  have z2 : ∀ w, (AddS (bs (hdB 2 n ++ [97])) (bs (tlB 2 n))).run Tryz.prog w = .ok (.string (bs (hdB 2 n ++ [97] ++ tlB 2 n))) w := fun w => run_adB _ _ (by simp; omega) (by omega) w
  have z3 : ∀ w, (AddS (bs (hdB 2 n ++ [97] ++ tlB 2 n)) ⟨#[59]⟩).run Tryz.prog w = .ok (.string (bs (hdB 2 n ++ [97] ++ tlB 2 n ++ [59]))) w := fun w => run_adB _ [59] (by simp; omega) (by decide) w
  have z4 : ∀ w, (AddS (bs (hdB 2 n)) ⟨#[97, 59]⟩).run Tryz.prog w = .ok (.string (bs (hdB 2 n ++ [97, 59]))) w := fun w => run_adB _ [97, 59] (by omega) (by decide) w
  have z5 : ∀ w, (AddS (bs (hdB 2 n ++ [97, 59])) (bs (tlB 2 n))).run Tryz.prog w = .ok (.string (bs (deepT 2 n))) w := fun w => by rw [deepT_eq, if_pos rfl]; exact run_adB _ _ (by simp; omega) (by omega) w
  obtain ⟨X1, hX1⟩ : ∃ X, bs (hdB 2 n ++ [97]) = X := ⟨_, rfl⟩
  obtain ⟨X2, hX2⟩ : ∃ X, bs (hdB 2 n ++ [97] ++ tlB 2 n) = X := ⟨_, rfl⟩
  rw [hX1] at z1 z2
  rw [hX2] at z2 z3
  obtain ⟨X3, hX3⟩ : ∃ X, bs (hdB 2 n ++ [97] ++ tlB 2 n ++ [59]) = X := ⟨_, rfl⟩
  obtain ⟨X4, hX4⟩ : ∃ X, bs (hdB 2 n ++ [97, 59]) = X := ⟨_, rfl⟩
  rw [hX3] at z3
  rw [hX4] at z4 z5
  clear hX3 hX4
  clear hX1 hX2
  obtain ⟨p, hp⟩ : ∃ p, (parseF (bs (deepT 2 n))).2.1 = p := ⟨_, rfl⟩
  obtain ⟨f, hf⟩ : ∃ f, (parseF (bs (deepT 2 n))).2.2 = f := ⟨_, rfl⟩
  rw [hf] at hpf
  have HP := Lib.hid hp
  have HF := Lib.hid hf
  have HPF := Lib.hid hpf
  have HN := Lib.hid hn
  have hni : (n : Int) ≤ 300 := by omega
  clear hX hn hl1 hl2 hlen hp hf hpf
  go_enter Tryz.func4, Tryz.ntmps4
  go_wp2_with (go_at_call 9; (with_reducible refine hal.mono ?_); rintro e w1 ⟨rfl, hb1⟩; have HB := Lib.hid hb1; clear hb1)
  go_loopw [6, 7, 8, 10] (fun h t a v wr => ∃ i : Nat, v = .int .i64 (i : Int) ∧ i ≤ n ∧ DI 2 i h t a ∧ Below w.heap.size w wr) (fun _ _ _ v _ => n - (intOf v).toNat)
  case atStart => exact ⟨0, rfl, Nat.zero_le _, ⟨rfl, rfl, rfl⟩, HB.out⟩
  case round =>
    obtain ⟨i, rfl, hle, ⟨rfl, rfl, rfl⟩, hbw⟩ := hrel
    by_cases hlt : i < n
    · have hii : (i : Int) < (n : Int) := by omega
      have ah2 := ah i (by have := HN.out; omega)
      have at2 := at_ i (by have := HN.out; omega)
      have HBW := Lib.hid hbw
      clear hbw ah at_ z1 z2 z3 z4 z5
      go_wp2
      go_roundw
      case rel => exact ⟨i + 1, by go_num, by omega, ⟨rfl, rfl, by simp⟩, HBW.out⟩
      case measure => simp [intOf]; omega
    · have hin : i = n := by omega
      subst hin
      have hii : decide ((i : Int) < (i : Int)) = false := by simp
      clear hle
      have HBW := Lib.hid hbw
      obtain ⟨A, hA⟩ : ∃ A : Int, (if 2 = 0 ∧ 0 < i then 2 else 1) = A := ⟨_, rfl⟩
      obtain ⟨D, hD⟩ : ∃ D : Int, A * (i : Int) = D := ⟨_, rfl⟩
      have hD2 : D = 1 * (i : Int) := by
        rw [← hD, ← hA]
        simp
        
        
        
      have hD0 : 0 ≤ D := by omega
      have hD6 : D ≤ 600 := by have := HN.out; omega
      rw [hA]
      have HD := Lib.hid hD2
      clear hbw ah at_ hlt hA hD2
      by_cases hdp : 100 < 3 + D
      · have e5 : decide (100 < 3 + D) = true := decide_eq_true hdp
        have hf4 : (f == 4) = true := by have h1 := HPF.out; have h2 := HD.out; rw [if_neg (by simp; omega)] at h1; rw [h1]; rfl
        clear hdp
        go_wp2_with (first | (go_at_call 10; (with_reducible refine (hpa _ HBW.out).mono ?_); rintro e w2 ⟨N, rfl, hb⟩; rw [HP.out, HF.out]; have HB := Lib.hid (HBW.out.trans (hb.mono HBW.out.size)); clear hb) | (go_at_call 11; (with_reducible refine (num_any _ _).mono ?_); rintro e w3 ⟨rfl, rfl⟩))
        go_ret
        exact ⟨rfl, bl_alloc HB.out⟩
      · have e5 : decide (100 < 3 + D) = false := decide_eq_false hdp
        have hf4 : (f == 0) = true := by have h1 := HPF.out; have h2 := HD.out; rw [if_pos (by simp; omega)] at h1; rw [h1]; rfl
        clear hdp
        go_wp2_with (first | (go_at_call 10; (with_reducible refine (hpa _ HBW.out).mono ?_); rintro e w2 ⟨N, rfl, hb⟩; rw [HP.out, HF.out]; have HB := Lib.hid (HBW.out.trans (hb.mono HBW.out.size)); clear hb) | (go_at_call 11; (with_reducible refine (num_any _ _).mono ?_); rintro e w3 ⟨rfl, rfl⟩))
        go_ret
        exact ⟨rfl, bl_alloc HB.out⟩

set_option maxRecDepth 100000 in
set_option maxHeartbeats 4000000 in
theorem deep_w3 (n : Nat) (w : World) (hX : Gp w) (hn : n ≤ 300) : Calls Tryz.prog 4 #[.int .i64 (n : Int), .int .i64 3] w fun e w' => e = .returned (.bool true) ∧ Below w.heap.size w w' := by
  have hal := alive_any w hX
  have e1 : decide ((n : Int) < 0) = false := by simp
  have e2 : decide (300 < (n : Int)) = false := by simp; omega
  have hl1 := hd_len 3 n hn
  have hl2 := tl_len 3 n hn
  have hlen : (bs (deepT 3 n)).size ≤ 9223372036854775807 := by rw [bs_size]; have := deep_len 3 n hn; omega
  have hpa := fun (W : World) (hb : Below w.heap.size w W) => parse_cv (bs (deepT 3 n)) W (hX.below hb) hlen
  have hpf := deep_any 3 n hn (by decide)
  have hcv := fun w : World => Lib.run_convert_string_bytes (P := Tryz.prog) w 9 22 5 (bs (deepT 3 n)) Tryz.underlying9 Tryz.underlying22 Tryz.underlying5
  have ah : ∀ i, i ≤ 300 → ∀ w, (AddS (bs (hdB 3 i)) ⟨#[97, 32, 61, 32]⟩).run Tryz.prog w = .ok (.string (bs (hdB 3 (i + 1)))) w := fun i hi w => by rw [hd_3]; exact run_adB _ [97, 32, 61, 32] (by have := hd_len 3 i hi; omega) (by decide) w
  have z1 : ∀ w, (AddS (bs (hdB 3 n)) ⟨#[97]⟩).run Tryz.prog w = .ok (.string (bs (hdB 3 n ++ [97]))) w := fun w => run_adB _ [97] (by omega) (by decide) w
  have z2 : ∀ w, (AddS (bs (hdB 3 n ++ [97])) (bs (tlB 3 n))).run Tryz.prog w = .ok (.string (bs (hdB 3 n ++ [97] ++ tlB 3 n))) w := fun w => run_adB _ _ (by simp; omega) (by omega) w
  have z3 : ∀ w, (AddS (bs (hdB 3 n ++ [97] ++ tlB 3 n)) ⟨#[59]⟩).run Tryz.prog w = .ok (.string (bs (deepT 3 n))) w := fun w => by rw [deepT_eq, if_neg (by decide)]; exact run_adB _ [59] (by simp; omega) (by decide) w
  obtain ⟨X1, hX1⟩ : ∃ X, bs (hdB 3 n ++ [97]) = X := ⟨_, rfl⟩
  obtain ⟨X2, hX2⟩ : ∃ X, bs (hdB 3 n ++ [97] ++ tlB 3 n) = X := ⟨_, rfl⟩
  rw [hX1] at z1 z2
  rw [hX2] at z2 z3
  clear hX1 hX2
  obtain ⟨p, hp⟩ : ∃ p, (parseF (bs (deepT 3 n))).2.1 = p := ⟨_, rfl⟩
  obtain ⟨f, hf⟩ : ∃ f, (parseF (bs (deepT 3 n))).2.2 = f := ⟨_, rfl⟩
  rw [hf] at hpf
  have HP := Lib.hid hp
  have HF := Lib.hid hf
  have HPF := Lib.hid hpf
  have HN := Lib.hid hn
  have hni : (n : Int) ≤ 300 := by omega
  clear hX hn hl1 hl2 hlen hp hf hpf
  go_enter Tryz.func4, Tryz.ntmps4
  go_wp2_with (go_at_call 9; (with_reducible refine hal.mono ?_); rintro e w1 ⟨rfl, hb1⟩; have HB := Lib.hid hb1; clear hb1)
  go_loopw [6, 7, 8, 10] (fun h t a v wr => ∃ i : Nat, v = .int .i64 (i : Int) ∧ i ≤ n ∧ DI 3 i h t a ∧ Below w.heap.size w wr) (fun _ _ _ v _ => n - (intOf v).toNat)
  case atStart => exact ⟨0, rfl, Nat.zero_le _, ⟨rfl, rfl, rfl⟩, HB.out⟩
  case round =>
    obtain ⟨i, rfl, hle, ⟨rfl, rfl, rfl⟩, hbw⟩ := hrel
    by_cases hlt : i < n
    · have hii : (i : Int) < (n : Int) := by omega
      have ah2 := ah i (by have := HN.out; omega)

      have HBW := Lib.hid hbw
      clear hbw ah z1 z2 z3
      go_wp2
      go_roundw
      case rel => exact ⟨i + 1, by go_num, by omega, ⟨rfl, by rw [tl_3, tl_3], by simp⟩, HBW.out⟩
      case measure => simp [intOf]; omega
    · have hin : i = n := by omega
      subst hin
      have hii : decide ((i : Int) < (i : Int)) = false := by simp
      clear hle
      have HBW := Lib.hid hbw
      obtain ⟨A, hA⟩ : ∃ A : Int, (if 3 = 0 ∧ 0 < i then 2 else 1) = A := ⟨_, rfl⟩
      obtain ⟨D, hD⟩ : ∃ D : Int, A * (i : Int) = D := ⟨_, rfl⟩
      have hD2 : D = 1 * (i : Int) := by
        rw [← hD, ← hA]
        simp
        
        
        
      have hD0 : 0 ≤ D := by omega
      have hD6 : D ≤ 600 := by have := HN.out; omega
      rw [hA]
      have HD := Lib.hid hD2
      clear hbw ah hlt hA hD2
      by_cases hdp : 100 < 3 + D
      · have e5 : decide (100 < 3 + D) = true := decide_eq_true hdp
        have hf4 : (f == 4) = true := by have h1 := HPF.out; have h2 := HD.out; rw [if_neg (by simp; omega)] at h1; rw [h1]; rfl
        clear hdp
        go_wp2_with (first | (go_at_call 10; (with_reducible refine (hpa _ HBW.out).mono ?_); rintro e w2 ⟨N, rfl, hb⟩; rw [HP.out, HF.out]; have HB := Lib.hid (HBW.out.trans (hb.mono HBW.out.size)); clear hb) | (go_at_call 11; (with_reducible refine (num_any _ _).mono ?_); rintro e w3 ⟨rfl, rfl⟩))
        go_ret
        exact ⟨rfl, bl_alloc HB.out⟩
      · have e5 : decide (100 < 3 + D) = false := decide_eq_false hdp
        have hf4 : (f == 0) = true := by have h1 := HPF.out; have h2 := HD.out; rw [if_pos (by simp; omega)] at h1; rw [h1]; rfl
        clear hdp
        go_wp2_with (first | (go_at_call 10; (with_reducible refine (hpa _ HBW.out).mono ?_); rintro e w2 ⟨N, rfl, hb⟩; rw [HP.out, HF.out]; have HB := Lib.hid (HBW.out.trans (hb.mono HBW.out.size)); clear hb) | (go_at_call 11; (with_reducible refine (num_any _ _).mono ?_); rintro e w3 ⟨rfl, rfl⟩))
        go_ret
        exact ⟨rfl, bl_alloc HB.out⟩

set_option maxRecDepth 100000 in
set_option maxHeartbeats 4000000 in
theorem deep_w4 (n : Nat) (w : World) (hX : Gp w) (hn : n ≤ 300) : Calls Tryz.prog 4 #[.int .i64 (n : Int), .int .i64 4] w fun e w' => e = .returned (.bool true) ∧ Below w.heap.size w w' := by
  have hal := alive_any w hX
  have e1 : decide ((n : Int) < 0) = false := by simp
  have e2 : decide (300 < (n : Int)) = false := by simp; omega
  have hl1 := hd_len 4 n hn
  have hl2 := tl_len 4 n hn
  have hlen : (bs (deepT 4 n)).size ≤ 9223372036854775807 := by rw [bs_size]; have := deep_len 4 n hn; omega
  have hpa := fun (W : World) (hb : Below w.heap.size w W) => parse_cv (bs (deepT 4 n)) W (hX.below hb) hlen
  have hpf := deep_any 4 n hn (by decide)
  have hcv := fun w : World => Lib.run_convert_string_bytes (P := Tryz.prog) w 9 22 5 (bs (deepT 4 n)) Tryz.underlying9 Tryz.underlying22 Tryz.underlying5
  have ah : ∀ i, i ≤ 300 → ∀ w, (AddS (bs (hdB 4 i)) ⟨#[119, 104, 105, 108, 101, 32, 40, 49, 41, 32]⟩).run Tryz.prog w = .ok (.string (bs (hdB 4 (i + 1)))) w := fun i hi w => by rw [hd_4]; exact run_adB _ [119, 104, 105, 108, 101, 32, 40, 49, 41, 32] (by have := hd_len 4 i hi; omega) (by decide) w
  have z1 : ∀ w, (AddS (bs (hdB 4 n)) ⟨#[97]⟩).run Tryz.prog w = .ok (.string (bs (hdB 4 n ++ [97]))) w := fun w => run_adB _ [97] (by omega) (by decide) w
  have z2 : ∀ w, (AddS (bs (hdB 4 n ++ [97])) (bs (tlB 4 n))).run Tryz.prog w = .ok (.string (bs (hdB 4 n ++ [97] ++ tlB 4 n))) w := fun w => run_adB _ _ (by simp; omega) (by omega) w
  have z3 : ∀ w, (AddS (bs (hdB 4 n ++ [97] ++ tlB 4 n)) ⟨#[59]⟩).run Tryz.prog w = .ok (.string (bs (deepT 4 n))) w := fun w => by rw [deepT_eq, if_neg (by decide)]; exact run_adB _ [59] (by simp; omega) (by decide) w
  obtain ⟨X1, hX1⟩ : ∃ X, bs (hdB 4 n ++ [97]) = X := ⟨_, rfl⟩
  obtain ⟨X2, hX2⟩ : ∃ X, bs (hdB 4 n ++ [97] ++ tlB 4 n) = X := ⟨_, rfl⟩
  rw [hX1] at z1 z2
  rw [hX2] at z2 z3
  clear hX1 hX2
  obtain ⟨p, hp⟩ : ∃ p, (parseF (bs (deepT 4 n))).2.1 = p := ⟨_, rfl⟩
  obtain ⟨f, hf⟩ : ∃ f, (parseF (bs (deepT 4 n))).2.2 = f := ⟨_, rfl⟩
  rw [hf] at hpf
  have HP := Lib.hid hp
  have HF := Lib.hid hf
  have HPF := Lib.hid hpf
  have HN := Lib.hid hn
  have hni : (n : Int) ≤ 300 := by omega
  clear hX hn hl1 hl2 hlen hp hf hpf
  go_enter Tryz.func4, Tryz.ntmps4
  go_wp2_with (go_at_call 9; (with_reducible refine hal.mono ?_); rintro e w1 ⟨rfl, hb1⟩; have HB := Lib.hid hb1; clear hb1)
  go_loopw [6, 7, 8, 10] (fun h t a v wr => ∃ i : Nat, v = .int .i64 (i : Int) ∧ i ≤ n ∧ DI 4 i h t a ∧ Below w.heap.size w wr) (fun _ _ _ v _ => n - (intOf v).toNat)
  case atStart => exact ⟨0, rfl, Nat.zero_le _, ⟨rfl, rfl, rfl⟩, HB.out⟩
  case round =>
    obtain ⟨i, rfl, hle, ⟨rfl, rfl, rfl⟩, hbw⟩ := hrel
    by_cases hlt : i < n
    · have hii : (i : Int) < (n : Int) := by omega
      have ah2 := ah i (by have := HN.out; omega)

      have HBW := Lib.hid hbw
      clear hbw ah z1 z2 z3
      go_wp2
      go_roundw
      case rel => exact ⟨i + 1, by go_num, by omega, ⟨rfl, by rw [tl_4, tl_4], by simp⟩, HBW.out⟩
      case measure => simp [intOf]; omega
    · have hin : i = n := by omega
      subst hin
      have hii : decide ((i : Int) < (i : Int)) = false := by simp
      clear hle
      have HBW := Lib.hid hbw
      obtain ⟨A, hA⟩ : ∃ A : Int, (if 4 = 0 ∧ 0 < i then 2 else 1) = A := ⟨_, rfl⟩
      obtain ⟨D, hD⟩ : ∃ D : Int, A * (i : Int) = D := ⟨_, rfl⟩
      have hD2 : D = 1 * (i : Int) := by
        rw [← hD, ← hA]
        simp
        
        
        
      have hD0 : 0 ≤ D := by omega
      have hD6 : D ≤ 600 := by have := HN.out; omega
      rw [hA]
      have HD := Lib.hid hD2
      clear hbw ah hlt hA hD2
      by_cases hdp : 100 < 3 + D
      · have e5 : decide (100 < 3 + D) = true := decide_eq_true hdp
        have hf4 : (f == 4) = true := by have h1 := HPF.out; have h2 := HD.out; rw [if_neg (by simp; omega)] at h1; rw [h1]; rfl
        clear hdp
        go_wp2_with (first | (go_at_call 10; (with_reducible refine (hpa _ HBW.out).mono ?_); rintro e w2 ⟨N, rfl, hb⟩; rw [HP.out, HF.out]; have HB := Lib.hid (HBW.out.trans (hb.mono HBW.out.size)); clear hb) | (go_at_call 11; (with_reducible refine (num_any _ _).mono ?_); rintro e w3 ⟨rfl, rfl⟩))
        go_ret
        exact ⟨rfl, bl_alloc HB.out⟩
      · have e5 : decide (100 < 3 + D) = false := decide_eq_false hdp
        have hf4 : (f == 0) = true := by have h1 := HPF.out; have h2 := HD.out; rw [if_pos (by simp; omega)] at h1; rw [h1]; rfl
        clear hdp
        go_wp2_with (first | (go_at_call 10; (with_reducible refine (hpa _ HBW.out).mono ?_); rintro e w2 ⟨N, rfl, hb⟩; rw [HP.out, HF.out]; have HB := Lib.hid (HBW.out.trans (hb.mono HBW.out.size)); clear hb) | (go_at_call 11; (with_reducible refine (num_any _ _).mono ?_); rintro e w3 ⟨rfl, rfl⟩))
        go_ret
        exact ⟨rfl, bl_alloc HB.out⟩
theorem lawDeep_walk (n x : Int) (w : World) (hX : Gp w) : Calls Tryz.prog 4 #[.int .i64 n, .int .i64 x] w fun e w' => e = .returned (.bool true) ∧ Below w.heap.size w w' := by
  by_cases h : n < 0 ∨ 300 < n ∨ x < 0 ∨ 4 < x
  · exact deep_out n x w hX h
  · obtain ⟨k, rfl⟩ : ∃ k : Nat, n = (k : Int) := ⟨n.toNat, by omega⟩
    have hk : k ≤ 300 := by omega
    rcases (by omega : x = 0 ∨ x = 1 ∨ x = 2 ∨ x = 3 ∨ x = 4) with rfl | rfl | rfl | rfl | rfl
    · exact deep_w0 k w hX hk
    · exact deep_w1 k w hX hk
    · exact deep_w2 k w hX hk
    · exact deep_w3 k w hX hk
    · exact deep_w4 k w hX hk
end Go.Proofs.YtkknglmpdmhhjaaGreatDoor.Pr
