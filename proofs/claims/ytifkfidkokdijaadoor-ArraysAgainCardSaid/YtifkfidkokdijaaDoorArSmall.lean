/-
  Length, the reference's Length, Big, same, the document's example.
-/
import Derived.Test.YtifkfidkokdijaaDoorArCut
namespace Go.Proofs.YtifkfidkokdijaaDoor.Arrs
open Go Go.RowKit Go.Maps Go.Proofs.YtifkfidkokdijaaDoor.Nums Go.Proofs.YtifkfidkokdijaaDoor.Keys
set_option linter.unusedVariables false
set_option linter.unusedSimpArgs false
attribute [local go_sem ↓] to_ldE to_alE to_stE to_bsE run_eqE
attribute [local irreducible] ecs zer
attribute [local go_sem] run_alE run_stE run_bsE ecs_0 ecs_1 ecs_10 ecs_19

/-- The length that a value is, if it is one. -/
def lenF (k n : Int) : Int × Bool := if k = 3 ∧ 0 ≤ n ∧ n ≤ 4294967295 then (n, true) else (0, false)
theorem lenF_yes {k n : Int} (hk : k = 3) (h0 : 0 ≤ n) (h1 : n ≤ 4294967295) : lenF k n = (n, true) := if_pos ⟨hk, h0, h1⟩
theorem lenF_no {k n : Int} (h : k ≠ 3 ∨ n < 0 ∨ 4294967295 < n) : lenF k n = (0, false) := if_neg (by omega)
theorem len_any (k n : Int) (s : ByteArray) (w : World) : Calls Tryd.prog 6 #[.agg #[.int .i64 k, .int .i64 n, .string s]] w fun x w' => x = .returned (.tuple #[.int .i64 (lenF k n).1, .bool (lenF k n).2]) ∧ Below w.heap.size w w' := by
  by_cases hk : k = 3
  · by_cases h0 : n < 0
    · rw [lenF_no (.inr (.inl h0))]
      subst hk
      go_enter Tryd.func6, Tryd.ntmps6
      go_wp2
      go_ret2
      exact ⟨rfl, ball _ _⟩
    · have h0' : 0 ≤ n := by omega
      clear h0
      by_cases h1 : n ≤ 4294967295
      · rw [lenF_yes hk h0' h1]
        subst hk
        go_enter Tryd.func6, Tryd.ntmps6
        go_wp2
        go_ret2
        exact ⟨rfl, ball _ _⟩
      · have h1' : 4294967295 < n := by omega
        clear h1
        rw [lenF_no (.inr (.inr h1'))]
        subst hk
        go_enter Tryd.func6, Tryd.ntmps6
        go_wp2
        go_ret2
        exact ⟨rfl, ball _ _⟩
  · rw [lenF_no (.inl hk)]
    have hk' : (k == 3) = false := by simpa using hk
    go_enter Tryd.func6, Tryd.ntmps6
    go_wp2
    go_ret2
    exact ⟨rfl, ball _ _⟩
theorem rlen_any (k n : Int) (s : ByteArray) (w : World) : Calls Tryd.prog 7 #[.agg #[.int .i64 k, .int .i64 n, .string s]] w fun x w' => x = .returned (.tuple #[.int .i64 (lenF k n).1, .bool (lenF k n).2]) ∧ Below w.heap.size w w' := by
  by_cases hk : k = 3
  · by_cases h0 : n < 0
    · rw [lenF_no (.inr (.inl h0))]
      subst hk
      go_enter Tryd.func7, Tryd.ntmps7
      go_wp2
      go_ret2
      exact ⟨rfl, ball _ _⟩
    · have h0' : 0 ≤ n := by omega
      clear h0
      by_cases h1 : n ≤ 4294967295
      · rw [lenF_yes hk h0' h1]
        subst hk
        go_enter Tryd.func7, Tryd.ntmps7
        go_wp2
        go_ret2
        exact ⟨rfl, ball _ _⟩
      · have h1' : 4294967295 < n := by omega
        clear h1
        rw [lenF_no (.inr (.inr h1'))]
        subst hk
        go_enter Tryd.func7, Tryd.ntmps7
        go_wp2
        go_ret2
        exact ⟨rfl, ball _ _⟩
  · rw [lenF_no (.inl hk)]
    have hk' : (k == 3) = false := by simpa using hk
    go_enter Tryd.func7, Tryd.ntmps7
    go_wp2
    go_ret2
    exact ⟨rfl, ball _ _⟩

theorem idx0 (v : Value) : v = v := rfl
theorem left_nil (t : Int) : leftF [] t = [] := rfl
theorem reach_nil (t : Int) : reachF [] t = t := rfl
def CutNil : Prop := ∀ w, Lw w → Calls Tryd.prog 9 #[.slice none 0 0, .int .i64 3] w fun x w' => (∃ ao cp, x = .returned (.tuple #[.slice ao 0 cp, .int .i64 3])) ∧ Below w.heap.size w w'
theorem CutNil.at (h : CutNil) {w : World} (hL : Lw w) : Calls Tryd.prog 9 #[.slice none 0 0, .int .i64 3] w fun x w' => (∃ ao cp, x = .returned (.tuple #[.slice ao 0 cp, .int .i64 3])) ∧ Below w.heap.size w w' := h w hL
theorem cut_nil : CutNil := fun w hL => by
  refine (cut_any none 0 [] w 3 hL (by simp) (esAt_nil _ _) (fun e he => by cases he) (by omega) (by omega)).mono fun x w' ⟨ao, cp, hx, _, hb⟩ => ⟨⟨ao, cp, hx⟩, hb⟩
def Len5 : Prop := ∀ w, Calls Tryd.prog 6 #[.agg #[.int .i64 3, .int .i64 5, .string ⟨#[]⟩]] w fun x w' => x = .returned (.tuple #[.int .i64 5, .bool true]) ∧ Below w.heap.size w w'
theorem Len5.at (h : Len5) {w : World} : Calls Tryd.prog 6 #[.agg #[.int .i64 3, .int .i64 5, .string ⟨#[]⟩]] w fun x w' => x = .returned (.tuple #[.int .i64 5, .bool true]) ∧ Below w.heap.size w w' := h w
theorem len5 : Len5 := fun w => len_any 3 5 ⟨#[]⟩ w
set_option maxHeartbeats 1000000 in
theorem alive_any (w : World) (hL : Lw w) :
    Calls Tryd.prog 5 #[] w fun x w' => x = .returned (.bool true) ∧ Below w.heap.size w w' := by
  have HC := Lib.hid cut_nil
  have HN := Lib.hid len5
  have HL := Lib.hid hL
  clear hL
  go_enter Tryd.func5, Tryd.ntmps5
  go_wp2_with (go_at_call 9; (with_reducible refine (HC.out.at HL.out).mono ?_); rintro x w1 ⟨⟨ao, cp, rfl⟩, hb1⟩; refine Hid.out ?_)
  refine Lib.hid ?_
  go_wp2_with (go_at_call 6; (with_reducible refine HN.out.at.mono ?_); rintro x w2 ⟨rfl, hb2⟩)
  go_ret
  exact ⟨rfl, bnext hb1 hb2⟩

/-- Big: at a list of which it says no there are at most sixty properties. -/
def BigPost (es : List En) (w : World) (x : Ending) (w' : World) : Prop := ∃ b, x = .returned (.bool b) ∧ (b = false → es.length ≤ 60 ∧ ∀ e ∈ es, e.ks.size ≤ 100) ∧ w = w'
theorem small_next {es : List En} {j : Nat} {e : En} (he : es[j]? = some e) (h : ∀ x ∈ es.take j, x.ks.size ≤ 100) (hs : e.ks.size ≤ 100) : ∀ x ∈ es.take (j + 1), x.ks.size ≤ 100 := fun x hx => by
  rw [List.take_add_one, he] at hx
  simp at hx
  rcases hx with hx | rfl
  · exact h x hx
  · exact hs
theorem size_bound (s : ByteArray) : 100 < (s.size : Int) ∨ (s.size : Int) ≤ 100 := by omega
set_option maxRecDepth 100000 in
set_option maxHeartbeats 2000000 in
theorem big_any (ao : Option Addr) (cap : Nat) (es : List En) (w : World) (hlen : (es.length : Int) ≤ 9223372036854775807) (hc : EsAt ao es w) :
    Calls Tryd.prog 8 #[.slice ao es.length cap] w (BigPost es w) := by
  have HC := Lib.hid hc
  clear hc
  go_enter Tryd.func8, Tryd.ntmps8
  go_wp2
  go_loopw [3] (fun i wr => ∃ j : Nat, j ≤ es.length ∧ i = .int .i64 j ∧ wr = w ∧ Hid (∀ e ∈ es.take j, e.ks.size ≤ 100)) (fun i _ => es.length - (intOf i).toNat)
  case atStart => exact ⟨0, Nat.zero_le _, rfl, rfl, Lib.hid (fun e he => by simp at he)⟩
  case round =>
    obtain ⟨j, hj, rfl, rfl, hsm⟩ := hrel
    by_cases hlt : j < es.length
    · obtain ⟨e, he⟩ : ∃ e, es[j]? = some e := ⟨es[j], by simp [hlt]⟩
      have hlt2 : (j : Int) < es.length := by omega
      obtain ⟨b, off, rfl, hb, hat⟩ := HC.out j e he
      have c0 := enAt_cell hat 0 _ (ecs_0 e)
      have c10 := enAt_cell hat 10 _ (ecs_10 e)
      rw [Nat.add_zero] at c0
      have HE := Lib.hid he
      clear he hat hb
      rcases size_bound e.ks with h1 | h1
      · go_wp2
        go_ret
        exact ⟨true, rfl, (fun h => by cases h), rfl⟩
      · rcases size_bound e.d.v.s with h2 | h2
        · go_wp2
          go_ret
          exact ⟨true, rfl, (fun h => by cases h), rfl⟩
        · go_wp2
          go_roundw
          case rel => exact ⟨j + 1, by omega, by go_num, trivial, Lib.hid (small_next HE.out hsm.out (by omega))⟩
          case measure => simp [intOf]; omega
    · obtain rfl : j = es.length := by omega
      clear hlt hj
      by_cases h : (es.length : Int) ≤ 60
      · have h60 : decide (60 < (es.length : Int)) = false := by simp; omega
        go_wp2
        go_ret
        exact ⟨false, rfl, (fun _ => ⟨by omega, by have := hsm.out; rwa [List.take_length] at this⟩), rfl⟩
      · have h' : 60 < (es.length : Int) := by omega
        clear h
        go_wp2
        go_ret
        exact ⟨true, rfl, (fun h => by cases h), rfl⟩

set_option maxRecDepth 100000 in
set_option maxHeartbeats 2000000 in
theorem same_any (a1 a2 : Option Addr) (c1 c2 : Nat) (es : List En) (w : World) (hlen : (es.length : Int) ≤ 1000000) (h1 : EsAt a1 es w) (h2 : EsAt a2 es w) :
    Calls Tryd.prog 10 #[.slice a1 es.length c1, .slice a2 es.length c2] w fun x w' => x = .returned (.bool true) ∧ Below w.heap.size w w' := by
  have H1 := Lib.hid h1
  have H2 := Lib.hid h2
  clear h1 h2
  go_enter Tryd.func10, Tryd.ntmps10
  go_wp2
  go_loopw [5] (fun i wr => ∃ j : Nat, j ≤ es.length ∧ i = .int .i64 j ∧ Below w.heap.size w wr) (fun i _ => es.length - (intOf i).toNat)
  case atStart => exact ⟨0, Nat.zero_le _, rfl, Below.refl _ _⟩
  case round =>
    obtain ⟨j, hj, rfl, hbx⟩ := hrel
    by_cases hlt : j < es.length
    · obtain ⟨e, he⟩ : ∃ e, es[j]? = some e := ⟨es[j], by simp [hlt]⟩
      have hlt2 : (j : Int) < es.length := by omega
      obtain ⟨b1, o1, rfl, hb1, hat1⟩ := (H1.out.below hbx) j e he
      obtain ⟨b2, o2, rfl, hb2, hat2⟩ := (H2.out.below hbx) j e he
      have l1 := run_ldE (w := wr.drew) hat1
      have l2 := run_ldE (w := wr.drew) hat2
      clear he hat1 hat2 hb1 hb2
      go_wp2
      go_region
      go_wp2
      go_roundw
      case rel => exact ⟨j + 1, by omega, by go_num, hbx.drew⟩
      case measure => simp [intOf]; omega
    · obtain rfl : j = es.length := by omega
      clear hlt hj
      go_wp2
      go_ret
      exact ⟨rfl, hbx⟩
end Go.Proofs.YtifkfidkokdijaaDoor.Arrs
