/-
  understudyref1.put.
-/
import Derived.Test.YtkhldimcegomlaaText
namespace Go.Proofs.Ytkhldimcegomlaa
open Go.RowKit

/-- The bytes of a code point, as cells of integers. -/
def pcells (c : Int) : List Value :=
  if c < 128 then [.int .u8 c] else if c < 2048 then [.int .u8 (192 + c / 64), .int .u8 (128 + c % 64)]
  else if c < 65536 then [.int .u8 (224 + c / 4096), .int .u8 (128 + c / 64 % 64), .int .u8 (128 + c % 64)]
  else [.int .u8 (240 + c / 262144), .int .u8 (128 + c / 4096 % 64), .int .u8 (128 + c / 64 % 64), .int .u8 (128 + c % 64)]
theorem pcells_enc {c : Nat} (hc : c ≤ 1114111) : pcells (c : Int) = Lib.byteCells (enc c) := by
  rw [enc_cells hc]
  unfold pcells
  by_cases h1 : c < 128
  · rw [if_pos (by omega), encN_1 h1]; rfl
  · rw [if_neg (by omega)]
    by_cases h2 : c < 2048
    · rw [if_pos (by omega), encN_2 (by omega) h2]; simp
    · rw [if_neg (by omega)]
      by_cases h3 : c < 65536
      · rw [if_pos (by omega), encN_3 (by omega) h3]; simp
      · rw [if_neg (by omega), encN_4 (by omega)]; simp

theorem three_new (w : World) (k : IntKind) (a b c : Int) (t : TypeId) : ∀ j u, [Value.int k a, Value.int k b, Value.int k c][j]? = some u → (w.alloc (.cells #[.int k a, .int k b, .int k c] t)).cell? ((⟨w.heap.size, 0, none⟩ : Addr).add j) = some u := by
  intro j u hj
  match j, hj with
  | 0, hj => simp at hj; subst hj; simp [Addr.add]
  | 1, hj => simp at hj; subst hj; simp [Addr.add]
  | 2, hj => simp at hj; subst hj; simp [Addr.add]
theorem four_new (w : World) (k : IntKind) (a b c d : Int) (t : TypeId) : ∀ j u, [Value.int k a, Value.int k b, Value.int k c, Value.int k d][j]? = some u → (w.alloc (.cells #[.int k a, .int k b, .int k c, .int k d] t)).cell? ((⟨w.heap.size, 0, none⟩ : Addr).add j) = some u := by
  intro j u hj
  match j, hj with
  | 0, hj => simp at hj; subst hj; simp [Addr.add]
  | 1, hj => simp at hj; subst hj; simp [Addr.add]
  | 2, hj => simp at hj; subst hj; simp [Addr.add]
  | 3, hj => simp at hj; subst hj; simp [Addr.add]
theorem three_cells (k : IntKind) (a b c : Int) : ∀ u ∈ [Value.int k a, Value.int k b, Value.int k c], u.oneCell' = true := by
  intro u hu
  simp at hu
  rcases hu with rfl | rfl | rfl <;> rfl
theorem four_cells (k : IntKind) (a b c d : Int) : ∀ u ∈ [Value.int k a, Value.int k b, Value.int k c, Value.int k d], u.oneCell' = true := by
  intro u hu
  simp at hu
  rcases hu with rfl | rfl | rfl | rfl <;> rfl

theorem orj (k i : Nat) (x y : Int) (hx₀ : 0 ≤ x) (hx : x % 2 ^ i = 0) (hx₁ : x < 2 ^ 63) (hy₀ : 0 ≤ y) (hy : y < 2 ^ i) (hy₁ : y < 2 ^ 63) (_h : k = i) : bits .or .i64 x y = x + y :=
  bits_join .i64 63 (by decide) wraps_i64 i x y hx₀ hx hx₁ hy₀ hy hy₁

def PutPost (base : Nat) (v : Value) (n : Nat) (xs : List Value) (c : Nat) (w : World) (e : Ending) (w' : World) : Prop :=
  ∃ v', e = .returned v' ∧ w'.ownsRow base 5 1 v' (n + (enc c).length) (xs ++ Lib.byteCells (enc c)) ∧ w.grownBy w' v.ownBlock

theorem put_close {base n m : Nat} {v v' : Value} {xs ys : List Value} {c : Nat} {w w1 : World} {o : Obj} (hc : c ≤ 1114111) (he : pcells (c : Int) = ys) (hm : ys.length = m) (h : w1.ownsRow base 5 1 v' (n + m) (xs ++ ys)) (hg : (w.alloc o).grownBy w1 v.ownBlock) :
    PutPost base v n xs c w (.returned v') w1 := by
  refine ⟨v', rfl, ?_, grownBy_of_alloc hg⟩
  have e2 : (enc c).length = m := by rw [← hm, ← he, pcells_enc hc, Lib.byteCells_length]
  rw [e2, ← pcells_enc hc, he]
  exact h

set_option maxRecDepth 100000 in
set_option maxHeartbeats 1000000 in
theorem put_any (base : Nat) (v : Value) (n : Nat) (xs : List Value) (c : Nat) (w : World) (hc : c ≤ 1114111) (hown : w.ownsRow base 5 1 v n xs) (hn : n ≤ 100000000) (hb : base ≤ w.heap.size) :
    Calls Try.prog 32 #[v, .int .i64 c] w (PutPost base v n xs c w) := by
  obtain ⟨i0, hi, hz0, hz1, hz2⟩ := info_parts info5
  have hc0 : 0 ≤ (c : Int) := by omega
  have hc1 : (c : Int) ≤ 1114111 := by omega
  have HC := Lib.hid hc
  clear hc
  rcases Int.lt_or_le c 128 with h1 | h1
  · go_enter Try.func32, Try.ntmps32
    go_wp2_with (at_builtin; refine wpList_append_own _ rfl _ _ 44 rfl base 5 i0 (.int .u8 0) 1 1 Try.underlying44 hi hz0 hz1 hz2 rfl (by decide) _ _ _ rfl (hown.alloc _) ⟨w.heap.size, 0, none⟩ 1 1 [.int .u8 (c : Nat)] rfl rfl (cell_one_new _ _ _) (one_cells _ _) (by unfold maxLen; omega) (by omega) (size_alloc_le _ hb) ?_)
    intro v' w1 hown' hgrow _
    have R := put_close HC.out (if_pos h1) rfl hown' hgrow
    have HR := Lib.hid R
    clear hown' hgrow R
    go_wp2
    go_ret
    exact HR.out
  · rcases Int.lt_or_le c 2048 with h2 | h2
    · have e1 := orj 6 6 192 ((c : Int) / 64) (by omega) (by decide) (by decide) (by omega) (by omega) (by omega) rfl
      have e2 := and64 (c : Int) (by omega) (by omega)
      have e3 := orj 6 6 128 ((c : Int) % 64) (by omega) (by decide) (by decide) (by omega) (by omega) (by omega) rfl
      go_enter Try.func32, Try.ntmps32
      go_wp2_with (at_builtin; refine wpList_append_own _ rfl _ _ 44 rfl base 5 i0 (.int .u8 0) 1 1 Try.underlying44 hi hz0 hz1 hz2 rfl (by decide) _ _ _ rfl (hown.alloc _) ⟨w.heap.size, 0, none⟩ 2 2 [.int .u8 (192 + (c : Int) / 64), .int .u8 (128 + (c : Int) % 64)] rfl rfl (two_new _ _ _ _ _) (two_cells _ _ _) (by unfold maxLen; omega) (by omega) (size_alloc_le _ hb) ?_)
      intro v' w1 hown' hgrow _
      have R := put_close HC.out ((if_neg (by omega)).trans (if_pos h2)) rfl hown' hgrow
      have HR := Lib.hid R
      clear hown' hgrow R
      go_wp2
      go_ret
      exact HR.out
    · rcases Int.lt_or_le c 65536 with h3 | h3
      · have e1 := orj 5 5 224 ((c : Int) / 4096) (by omega) (by decide) (by decide) (by omega) (by omega) (by omega) rfl
        have e2 := and64 (c : Int) (by omega) (by omega)
        have e3 := orj 6 6 128 ((c : Int) % 64) (by omega) (by decide) (by decide) (by omega) (by omega) (by omega) rfl
        have e4 := and64 ((c : Int) / 64) (by omega) (by omega)
        have e5 := orj 6 6 128 ((c : Int) / 64 % 64) (by omega) (by decide) (by decide) (by omega) (by omega) (by omega) rfl
        have d1 : decide ((c : Int) < 128) = false := decide_eq_false (by omega)
        have d2 : decide ((c : Int) < 2048) = false := decide_eq_false (by omega)
        have H1 := Lib.hid h1
        have H2 := Lib.hid h2
        clear h1 h2
        go_enter Try.func32, Try.ntmps32
        go_wp2_with (at_builtin; refine wpList_append_own _ rfl _ _ 44 rfl base 5 i0 (.int .u8 0) 1 1 Try.underlying44 hi hz0 hz1 hz2 rfl (by decide) _ _ _ rfl (hown.alloc _) ⟨w.heap.size, 0, none⟩ 3 3 [.int .u8 (224 + (c : Int) / 4096), .int .u8 (128 + (c : Int) / 64 % 64), .int .u8 (128 + (c : Int) % 64)] rfl rfl (three_new _ _ _ _ _ _) (three_cells _ _ _ _) (by unfold maxLen; omega) (by omega) (size_alloc_le _ hb) ?_)
        intro v' w1 hown' hgrow _
        have R := put_close HC.out ((if_neg (by have := H1.out; omega)).trans ((if_neg (by have := H2.out; omega)).trans (if_pos h3))) rfl hown' hgrow
        have HR := Lib.hid R
        clear hown' hgrow R
        go_wp2
        go_ret
        exact HR.out
      · have e1 := orj 4 4 240 ((c : Int) / 262144) (by omega) (by decide) (by decide) (by omega) (by omega) (by omega) rfl
        have e2 := and64 (c : Int) (by omega) (by omega)
        have e3 := orj 6 6 128 ((c : Int) % 64) (by omega) (by decide) (by decide) (by omega) (by omega) (by omega) rfl
        have e4 := and64 ((c : Int) / 64) (by omega) (by omega)
        have e5 := orj 6 6 128 ((c : Int) / 64 % 64) (by omega) (by decide) (by decide) (by omega) (by omega) (by omega) rfl
        have e6 := and64 ((c : Int) / 4096) (by omega) (by omega)
        have e7 := orj 6 6 128 ((c : Int) / 4096 % 64) (by omega) (by decide) (by decide) (by omega) (by omega) (by omega) rfl
        have d1 : decide ((c : Int) < 128) = false := decide_eq_false (by omega)
        have d2 : decide ((c : Int) < 2048) = false := decide_eq_false (by omega)
        have d3 : decide ((c : Int) < 65536) = false := decide_eq_false (by omega)
        have H1 := Lib.hid h1
        have H2 := Lib.hid h2
        have H3 := Lib.hid h3
        clear h1 h2 h3
        go_enter Try.func32, Try.ntmps32
        go_wp2_with (at_builtin; refine wpList_append_own _ rfl _ _ 44 rfl base 5 i0 (.int .u8 0) 1 1 Try.underlying44 hi hz0 hz1 hz2 rfl (by decide) _ _ _ rfl (hown.alloc _) ⟨w.heap.size, 0, none⟩ 4 4 [.int .u8 (240 + (c : Int) / 262144), .int .u8 (128 + (c : Int) / 4096 % 64), .int .u8 (128 + (c : Int) / 64 % 64), .int .u8 (128 + (c : Int) % 64)] rfl rfl (four_new _ _ _ _ _ _ _) (four_cells _ _ _ _ _) (by unfold maxLen; omega) (by omega) (size_alloc_le _ hb) ?_)
        intro v' w1 hown' hgrow _
        have R := put_close HC.out ((if_neg (by have := H1.out; omega)).trans ((if_neg (by have := H2.out; omega)).trans (if_neg (by have := H3.out; omega)))) rfl hown' hgrow
        have HR := Lib.hid R
        clear hown' hgrow R
        go_wp2
        go_ret
        exact HR.out
end Go.Proofs.Ytkhldimcegomlaa
