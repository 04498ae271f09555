/-
  understudyref1.point: what it gives.
-/
import Derived.Test.YthfgicdpbbpnjaaGreatUnLow
import Derived.Test.YthfgicdpbbpnjaaGreatUnPtm
namespace Go.Proofs.YthfgicdpbbpnjaaGreat.Uni
open Go.RowKit
set_option linter.unusedVariables false

def PtPost (s : ByteArray) (i : Nat) (w : World) (e : Ending) (w' : World) : Prop :=
  e = .returned (.tuple #[.int .i64 ((pt s i).1 : Nat), .int .i64 ((pt s i).2 : Nat)]) ∧ w = w'
theorem int_eq {k : IntKind} {a b : Int} (h : a = b) : Value.int k a = Value.int k b := by rw [h]
theorem conts_snoc {s : ByteArray} {i q : Nat} (h : Conts s i q) (hq : B s (i + q) / 64 = 2) : Conts s i (q + 1) := by
  intro j h1 h2
  by_cases e : j = q
  · subst e; exact hq
  · exact h j h1 (by omega)

theorem wraps_i64 (n : Int) (h0 : 0 ≤ n) (h1 : n < 2 ^ 63) : IntKind.i64.wrap n = n := by rw [IntKind.wrap_i64]; omega
theorem and64 (x : Int) (h0 : 0 ≤ x) (h1 : x < 1000000000) : bits .and .i64 x 63 = x % 64 := bits_mask .i64 63 (by decide) wraps_i64 6 (by decide) x h0 (by omega)
theorem and32 (x : Int) (h0 : 0 ≤ x) (h1 : x < 1000000000) : bits .and .i64 x 31 = x % 32 := bits_mask .i64 63 (by decide) wraps_i64 5 (by decide) x h0 (by omega)
theorem and16 (x : Int) (h0 : 0 ≤ x) (h1 : x < 1000000000) : bits .and .i64 x 15 = x % 16 := bits_mask .i64 63 (by decide) wraps_i64 4 (by decide) x h0 (by omega)
theorem and8 (x : Int) (h0 : 0 ≤ x) (h1 : x < 1000000000) : bits .and .i64 x 7 = x % 8 := bits_mask .i64 63 (by decide) wraps_i64 3 (by decide) x h0 (by omega)
theorem and1024 (x : Int) (h0 : 0 ≤ x) (h1 : x < 1000000000) : bits .and .i64 x 1023 = x % 1024 := bits_mask .i64 63 (by decide) wraps_i64 10 (by decide) x h0 (by omega)
theorem or64 (x y : Int) (h0 : 0 ≤ x) (h1 : x < 1000000000) (h2 : 0 ≤ y) (h3 : y < 64) : bits .or .i64 (x * 64) y = x * 64 + y := bits_join .i64 63 (by decide) wraps_i64 6 (x * 64) y (by omega) (by omega) (by omega) h2 (by omega) (by omega)

theorem point_1 (s : ByteArray) (i : Nat) (w : World) (_hs : s.size ≤ 100000000) (hi : i < s.size) (h1 : B s i < 128) :
    Calls Tryz.prog 29 #[.string s, .int .i64 i] w (PtPost s i w) := by
  have hpt := pt_ascii h1
  have HP := Lib.hid hpt
  have hb := gB s
  have c1 : ((B s i : Nat) : Int) < 128 := by omega
  have hi0 : (i : Int) < s.size := by omega
  clear hpt
  go_enter Tryz.func29, Tryz.ntmps29
  go_wp2
  go_ret2
  exact ⟨by rw [HP.out]; rfl, rfl⟩

set_option maxRecDepth 100000 in
set_option maxHeartbeats 1000000 in
theorem point_2 (s : ByteArray) (i : Nat) (w : World) (hs : s.size ≤ 100000000) (hi : i < s.size) (h1 : 194 ≤ B s i) (h2 : B s i ≤ 223) :
    Calls Tryz.prog 29 #[.string s, .int .i64 i] w (PtPost s i w) := by
  have hcls0 : Cls (B s i) 2 (B s i % 32) 128 := .inl ⟨h1, h2, rfl, rfl, rfl⟩
  have hb := gB s
  have hB0 := B_lt s i
  have hm0 := and32 (B s i : Nat) (by omega) (by omega)
  have c1 : (194 : Int) ≤ (B s i : Nat) := by omega
  have c2 : ((B s i : Nat) : Int) ≤ 223 := by omega
  have hi0 : (i : Int) < s.size := by omega
  have HCL := Lib.hid hcls0
  clear hcls0 h1 h2
  by_cases hz : i + 2 ≤ s.size
  · have hz1 : ¬ ((s.size : Int) - i < 2) := by omega
    go_enter Tryz.func29, Tryz.ntmps29
    go_wp2
    go_loop [6, 9] (fun c k => ∃ q : Nat, 1 ≤ q ∧ q ≤ 2 ∧ k = .int .i64 q ∧ c = .int .i64 (acc s i (B s i % 32) q : Nat) ∧ Conts s i q) (fun _ k => 2 - (intOf k).toNat)
    case atStart => exact ⟨1, by omega, by omega, rfl, int_eq rfl, fun q h1 h2 => by omega⟩
    case round =>
      obtain ⟨q, hq1, hq2, rfl, rfl, hcs⟩ := hrel
      have ha := acc_le s i (B s i % 32) (by omega) q (by omega)
      have hs1 := acc_succ s i (B s i % 32) q hq1
      have hbq := B_lt s (i + q)
      by_cases hlt : q < 2
      · have hiq : ((i : Int) + q) < s.size := by omega
        have hiq2 : i + q < s.size := by omega
        by_cases hcont : B s (i + q) / 64 = 2
        · have d1 : ¬ ((B s (i + q) : Nat) : Int) < 128 := by omega
          have m1 := and64 (B s (i + q) : Nat) (by omega) (by omega)
          have m2 := or64 (acc s i (B s i % 32) q : Nat) ((B s (i + q) : Nat) % 64) (by omega) (by omega) (by omega) (by omega)
          have d2 : ((B s (i + q) : Nat) : Int) ≤ 191 := by omega
          have HS := Lib.hid hs1
          have HC := Lib.hid hcont
          clear hs1 hcont
          go_wp2
          go_round
          case rel => exact ⟨q + 1, by omega, by omega, by go_num, by rw [HS.out]; go_num, conts_snoc hcs HC.out⟩
          case measure => simp [intOf]; omega
        · have hpt := pt_bad (s := s) (i := i) HCL.out (fun x => hcont (x.2.1 q hq1 hlt))
          have HP := Lib.hid hpt
          clear hpt hs1
          by_cases d1 : ((B s (i + q) : Nat) : Int) < 128
          · clear hcont
            go_wp2
            go_ret2
            exact ⟨by rw [HP.out]; rfl, rfl⟩
          · have d2 : ¬ ((B s (i + q) : Nat) : Int) ≤ 191 := by omega
            clear hcont
            go_wp2
            go_ret2
            exact ⟨by rw [HP.out]; rfl, rfl⟩
      · obtain rfl : q = 2 := by omega
        clear hs1
        by_cases hl : 128 ≤ acc s i (B s i % 32) 2 ∧ acc s i (B s i % 32) 2 ≤ 1114111
        · have hpt := pt_ok (s := s) (i := i) HCL.out (by omega) hcs hl.1 hl.2
          have HP := Lib.hid hpt
          have l1 : ¬ ((acc s i (B s i % 32) 2 : Nat) : Int) < 128 := by omega
          have l2 : ¬ 1114111 < ((acc s i (B s i % 32) 2 : Nat) : Int) := by omega
          clear hpt hl
          go_wp2
          go_ret2
          exact ⟨by rw [HP.out]; rfl, rfl⟩
        · have hpt := pt_bad (s := s) (i := i) HCL.out (fun x => hl x.2.2)
          have HP := Lib.hid hpt
          clear hpt
          by_cases l1 : ((acc s i (B s i % 32) 2 : Nat) : Int) < 128
          · clear hl
            go_wp2
            go_ret2
            exact ⟨by rw [HP.out]; rfl, rfl⟩
          · have l2 : 1114111 < ((acc s i (B s i % 32) 2 : Nat) : Int) := by omega
            clear hl
            go_wp2
            go_ret2
            exact ⟨by rw [HP.out]; rfl, rfl⟩

  · have hpt := pt_bad HCL.out (fun x => hz x.1)
    have HP := Lib.hid hpt
    have hz1 : (s.size : Int) - i < 2 := by omega
    clear hpt hz
    go_enter Tryz.func29, Tryz.ntmps29
    go_wp2
    go_ret2
    exact ⟨by rw [HP.out]; rfl, rfl⟩

set_option maxRecDepth 100000 in
set_option maxHeartbeats 1000000 in
theorem point_3 (s : ByteArray) (i : Nat) (w : World) (hs : s.size ≤ 100000000) (hi : i < s.size) (h1 : 224 ≤ B s i) (h2 : B s i ≤ 239) :
    Calls Tryz.prog 29 #[.string s, .int .i64 i] w (PtPost s i w) := by
  have hcls0 : Cls (B s i) 3 (B s i % 16) 2048 := .inr (.inl ⟨h1, h2, rfl, rfl, rfl⟩)
  have hb := gB s
  have hB0 := B_lt s i
  have hm0 := and16 (B s i : Nat) (by omega) (by omega)
  have c1 : (224 : Int) ≤ (B s i : Nat) := by omega
  have c2 : ((B s i : Nat) : Int) ≤ 239 := by omega
  have hi0 : (i : Int) < s.size := by omega
  have HCL := Lib.hid hcls0
  clear hcls0 h1 h2
  by_cases hz : i + 3 ≤ s.size
  · have hz1 : ¬ ((s.size : Int) - i < 3) := by omega
    go_enter Tryz.func29, Tryz.ntmps29
    go_wp2
    go_loop [6, 9] (fun c k => ∃ q : Nat, 1 ≤ q ∧ q ≤ 3 ∧ k = .int .i64 q ∧ c = .int .i64 (acc s i (B s i % 16) q : Nat) ∧ Conts s i q) (fun _ k => 3 - (intOf k).toNat)
    case atStart => exact ⟨1, by omega, by omega, rfl, int_eq rfl, fun q h1 h2 => by omega⟩
    case round =>
      obtain ⟨q, hq1, hq2, rfl, rfl, hcs⟩ := hrel
      have ha := acc_le s i (B s i % 16) (by omega) q (by omega)
      have hs1 := acc_succ s i (B s i % 16) q hq1
      have hbq := B_lt s (i + q)
      by_cases hlt : q < 3
      · have hiq : ((i : Int) + q) < s.size := by omega
        have hiq2 : i + q < s.size := by omega
        by_cases hcont : B s (i + q) / 64 = 2
        · have d1 : ¬ ((B s (i + q) : Nat) : Int) < 128 := by omega
          have m1 := and64 (B s (i + q) : Nat) (by omega) (by omega)
          have m2 := or64 (acc s i (B s i % 16) q : Nat) ((B s (i + q) : Nat) % 64) (by omega) (by omega) (by omega) (by omega)
          have d2 : ((B s (i + q) : Nat) : Int) ≤ 191 := by omega
          have HS := Lib.hid hs1
          have HC := Lib.hid hcont
          clear hs1 hcont
          go_wp2
          go_round
          case rel => exact ⟨q + 1, by omega, by omega, by go_num, by rw [HS.out]; go_num, conts_snoc hcs HC.out⟩
          case measure => simp [intOf]; omega
        · have hpt := pt_bad (s := s) (i := i) HCL.out (fun x => hcont (x.2.1 q hq1 hlt))
          have HP := Lib.hid hpt
          clear hpt hs1
          by_cases d1 : ((B s (i + q) : Nat) : Int) < 128
          · clear hcont
            go_wp2
            go_ret2
            exact ⟨by rw [HP.out]; rfl, rfl⟩
          · have d2 : ¬ ((B s (i + q) : Nat) : Int) ≤ 191 := by omega
            clear hcont
            go_wp2
            go_ret2
            exact ⟨by rw [HP.out]; rfl, rfl⟩
      · obtain rfl : q = 3 := by omega
        clear hs1
        by_cases hl : 2048 ≤ acc s i (B s i % 16) 3 ∧ acc s i (B s i % 16) 3 ≤ 1114111
        · have hpt := pt_ok (s := s) (i := i) HCL.out (by omega) hcs hl.1 hl.2
          have HP := Lib.hid hpt
          have l1 : ¬ ((acc s i (B s i % 16) 3 : Nat) : Int) < 2048 := by omega
          have l2 : ¬ 1114111 < ((acc s i (B s i % 16) 3 : Nat) : Int) := by omega
          clear hpt hl
          go_wp2
          go_ret2
          exact ⟨by rw [HP.out]; rfl, rfl⟩
        · have hpt := pt_bad (s := s) (i := i) HCL.out (fun x => hl x.2.2)
          have HP := Lib.hid hpt
          clear hpt
          by_cases l1 : ((acc s i (B s i % 16) 3 : Nat) : Int) < 2048
          · clear hl
            go_wp2
            go_ret2
            exact ⟨by rw [HP.out]; rfl, rfl⟩
          · have l2 : 1114111 < ((acc s i (B s i % 16) 3 : Nat) : Int) := by omega
            clear hl
            go_wp2
            go_ret2
            exact ⟨by rw [HP.out]; rfl, rfl⟩

  · have hpt := pt_bad HCL.out (fun x => hz x.1)
    have HP := Lib.hid hpt
    have hz1 : (s.size : Int) - i < 3 := by omega
    clear hpt hz
    go_enter Tryz.func29, Tryz.ntmps29
    go_wp2
    go_ret2
    exact ⟨by rw [HP.out]; rfl, rfl⟩

set_option maxRecDepth 100000 in
set_option maxHeartbeats 1000000 in
theorem point_4 (s : ByteArray) (i : Nat) (w : World) (hs : s.size ≤ 100000000) (hi : i < s.size) (h1 : 240 ≤ B s i) (h2 : B s i ≤ 244) :
    Calls Tryz.prog 29 #[.string s, .int .i64 i] w (PtPost s i w) := by
  have hcls0 : Cls (B s i) 4 (B s i % 8) 65536 := .inr (.inr ⟨h1, h2, rfl, rfl, rfl⟩)
  have hb := gB s
  have hB0 := B_lt s i
  have hm0 := and8 (B s i : Nat) (by omega) (by omega)
  have c1 : (240 : Int) ≤ (B s i : Nat) := by omega
  have c2 : ((B s i : Nat) : Int) ≤ 244 := by omega
  have hi0 : (i : Int) < s.size := by omega
  have HCL := Lib.hid hcls0
  clear hcls0 h1 h2
  by_cases hz : i + 4 ≤ s.size
  · have hz1 : ¬ ((s.size : Int) - i < 4) := by omega
    go_enter Tryz.func29, Tryz.ntmps29
    go_wp2
    go_loop [6, 9] (fun c k => ∃ q : Nat, 1 ≤ q ∧ q ≤ 4 ∧ k = .int .i64 q ∧ c = .int .i64 (acc s i (B s i % 8) q : Nat) ∧ Conts s i q) (fun _ k => 4 - (intOf k).toNat)
    case atStart => exact ⟨1, by omega, by omega, rfl, int_eq rfl, fun q h1 h2 => by omega⟩
    case round =>
      obtain ⟨q, hq1, hq2, rfl, rfl, hcs⟩ := hrel
      have ha := acc_le s i (B s i % 8) (by omega) q (by omega)
      have hs1 := acc_succ s i (B s i % 8) q hq1
      have hbq := B_lt s (i + q)
      by_cases hlt : q < 4
      · have hiq : ((i : Int) + q) < s.size := by omega
        have hiq2 : i + q < s.size := by omega
        by_cases hcont : B s (i + q) / 64 = 2
        · have d1 : ¬ ((B s (i + q) : Nat) : Int) < 128 := by omega
          have m1 := and64 (B s (i + q) : Nat) (by omega) (by omega)
          have m2 := or64 (acc s i (B s i % 8) q : Nat) ((B s (i + q) : Nat) % 64) (by omega) (by omega) (by omega) (by omega)
          have d2 : ((B s (i + q) : Nat) : Int) ≤ 191 := by omega
          have HS := Lib.hid hs1
          have HC := Lib.hid hcont
          clear hs1 hcont
          go_wp2
          go_round
          case rel => exact ⟨q + 1, by omega, by omega, by go_num, by rw [HS.out]; go_num, conts_snoc hcs HC.out⟩
          case measure => simp [intOf]; omega
        · have hpt := pt_bad (s := s) (i := i) HCL.out (fun x => hcont (x.2.1 q hq1 hlt))
          have HP := Lib.hid hpt
          clear hpt hs1
          by_cases d1 : ((B s (i + q) : Nat) : Int) < 128
          · clear hcont
            go_wp2
            go_ret2
            exact ⟨by rw [HP.out]; rfl, rfl⟩
          · have d2 : ¬ ((B s (i + q) : Nat) : Int) ≤ 191 := by omega
            clear hcont
            go_wp2
            go_ret2
            exact ⟨by rw [HP.out]; rfl, rfl⟩
      · obtain rfl : q = 4 := by omega
        clear hs1
        by_cases hl : 65536 ≤ acc s i (B s i % 8) 4 ∧ acc s i (B s i % 8) 4 ≤ 1114111
        · have hpt := pt_ok (s := s) (i := i) HCL.out (by omega) hcs hl.1 hl.2
          have HP := Lib.hid hpt
          have l1 : ¬ ((acc s i (B s i % 8) 4 : Nat) : Int) < 65536 := by omega
          have l2 : ¬ 1114111 < ((acc s i (B s i % 8) 4 : Nat) : Int) := by omega
          clear hpt hl
          go_wp2
          go_ret2
          exact ⟨by rw [HP.out]; rfl, rfl⟩
        · have hpt := pt_bad (s := s) (i := i) HCL.out (fun x => hl x.2.2)
          have HP := Lib.hid hpt
          clear hpt
          by_cases l1 : ((acc s i (B s i % 8) 4 : Nat) : Int) < 65536
          · clear hl
            go_wp2
            go_ret2
            exact ⟨by rw [HP.out]; rfl, rfl⟩
          · have l2 : 1114111 < ((acc s i (B s i % 8) 4 : Nat) : Int) := by omega
            clear hl
            go_wp2
            go_ret2
            exact ⟨by rw [HP.out]; rfl, rfl⟩

  · have hpt := pt_bad HCL.out (fun x => hz x.1)
    have HP := Lib.hid hpt
    have hz1 : (s.size : Int) - i < 4 := by omega
    clear hpt hz
    go_enter Tryz.func29, Tryz.ntmps29
    go_wp2
    go_ret2
    exact ⟨by rw [HP.out]; rfl, rfl⟩

set_option maxRecDepth 100000 in
theorem point_0 (s : ByteArray) (i : Nat) (w : World) (_hs : s.size ≤ 100000000) (hi : i < s.size) (h1 : 128 ≤ B s i) (h2 : B s i < 194 ∨ 244 < B s i) :
    Calls Tryz.prog 29 #[.string s, .int .i64 i] w (PtPost s i w) := by
  have hpt : pt s i = (0, 0) := pt_out h1 (fun n c0 low h => by rcases h with h | h | h <;> omega)
  have HP := Lib.hid hpt
  have hb := gB s
  have hi0 : (i : Int) < s.size := by omega
  have c1 : ¬ ((B s i : Nat) : Int) < 128 := by omega
  clear hpt
  rcases h2 with h2 | h2
  · have c2 : ¬ (194 : Int) ≤ (B s i : Nat) := by omega
    have c3 : ¬ (224 : Int) ≤ (B s i : Nat) := by omega
    have c4 : ¬ (240 : Int) ≤ (B s i : Nat) := by omega
    clear h1 h2
    go_enter Tryz.func29, Tryz.ntmps29
    go_wp2
    go_ret2
    exact ⟨by rw [HP.out]; rfl, rfl⟩
  · have hB0 := B_lt s i
    have c2 : (244 : Int) < (B s i : Nat) := by omega
    have c3 : ¬ ((B s i : Nat) : Int) ≤ 223 := by omega
    have c4 : ¬ ((B s i : Nat) : Int) ≤ 239 := by omega
    have c5 : ¬ ((B s i : Nat) : Int) ≤ 244 := by omega
    clear h1 h2
    go_enter Tryz.func29, Tryz.ntmps29
    go_wp2
    go_ret2
    exact ⟨by rw [HP.out]; rfl, rfl⟩

theorem point_any (s : ByteArray) (i : Nat) (w : World) (hs : s.size ≤ 100000000) (hi : i < s.size) :
    Calls Tryz.prog 29 #[.string s, .int .i64 i] w (PtPost s i w) := by
  by_cases h1 : B s i < 128
  · exact point_1 s i w hs hi h1
  · by_cases h2 : 194 ≤ B s i ∧ B s i ≤ 223
    · exact point_2 s i w hs hi h2.1 h2.2
    · by_cases h3 : 224 ≤ B s i ∧ B s i ≤ 239
      · exact point_3 s i w hs hi h3.1 h3.2
      · by_cases h4 : 240 ≤ B s i ∧ B s i ≤ 244
        · exact point_4 s i w hs hi h4.1 h4.2
        · exact point_0 s i w hs hi (by omega) (by omega)
end Go.Proofs.YthfgicdpbbpnjaaGreat.Uni
