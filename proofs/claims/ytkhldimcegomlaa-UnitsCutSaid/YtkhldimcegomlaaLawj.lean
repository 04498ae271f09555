/-
  The walks of the laws on joins.
-/
import Derived.Test.YtkhldimcegomlaaRjoin
namespace Go.Proofs.Ytkhldimcegomlaa
open Go.RowKit

theorem len_of (s : ByteArray) (w : World) (n : Nat) (hs : s.size ≤ 100000000) (hn : (units s).length = n) :
    Calls Try.prog 14 #[.string s] w fun e w' => e = .returned (.int .i64 (n : Nat)) ∧ Below w.heap.size w w' := by
  subst hn
  exact len_any s w hs

set_option maxRecDepth 100000 in
set_option maxHeartbeats 2000000 in
theorem join_walk (a b : ByteArray) (w : World) (ha : a.size ≤ 9223372036854775807) (hb : b.size ≤ 9223372036854775807) :
    Calls Try.prog 5 #[.string a, .string b] w fun e w' => e = .returned (.bool true) ∧ Below w.heap.size w w' := by
  rcases Int.lt_or_le 300 (a.size : Nat) with h1 | h1
  · go_enter Try.func5, Try.ntmps5
    go_wp2_with (go_at_call 8; refine (alive_any w).mono ?_)
    rintro e w1 ⟨rfl, b1⟩
    go_wp2
    go_ret
    exact ⟨rfl, b1⟩
  rcases Int.lt_or_le 300 (b.size : Nat) with h2 | h2
  · go_enter Try.func5, Try.ntmps5
    go_wp2_with (go_at_call 8; refine (alive_any w).mono ?_)
    rintro e w1 ⟨rfl, b1⟩
    go_wp2
    go_ret
    exact ⟨rfl, b1⟩
  obtain ⟨J, hJ⟩ : ∃ J, J = jn a b := ⟨_, rfl⟩
  have j1 := fun w => join_any a b w (by omega) (by omega)
  have j2 := fun w => rjoin_any a b w (by omega) (by omega)
  rw [← hJ] at j1 j2
  have J1 := Lib.hid j1
  have J2 := Lib.hid j2
  clear j1 j2
  cases hp : (pts a).isSome with
  | false =>
    clear hJ
    go_enter Try.func5, Try.ntmps5
    go_wp2_with (go_at_call 8; refine (alive_any w).mono ?_)
    rintro e w1 ⟨rfl, b1⟩
    go_wp2_with (go_at_call 17; refine (J1.out w1).mono ?_)
    rintro e w2 ⟨rfl, c2⟩
    have b2 := b1.trans (c2.mono b1.size)
    go_wp2_with (go_at_call 18; refine (J2.out w2).mono ?_)
    rintro e w3 ⟨rfl, c3⟩
    have b3 := b2.trans (c3.mono b2.size)
    go_wp2_with (go_at_call 10; refine (right_any a w3 (by omega)).mono ?_)
    rintro e w4 ⟨rfl, c4⟩
    have b4 := b3.trans (c4.mono b3.size)
    go_wp2
    go_ret
    exact ⟨rfl, b4⟩
  | true =>
    cases hq : (pts b).isSome with
    | false =>
      clear hJ
      go_enter Try.func5, Try.ntmps5
      go_wp2_with (go_at_call 8; refine (alive_any w).mono ?_)
      rintro e w1 ⟨rfl, b1⟩
      go_wp2_with (go_at_call 17; refine (J1.out w1).mono ?_)
      rintro e w2 ⟨rfl, c2⟩
      have b2 := b1.trans (c2.mono b1.size)
      go_wp2_with (go_at_call 18; refine (J2.out w2).mono ?_)
      rintro e w3 ⟨rfl, c3⟩
      have b3 := b2.trans (c3.mono b2.size)
      go_wp2_with (go_at_call 10; refine (right_any a w3 (by omega)).mono ?_)
      rintro e w4 ⟨rfl, c4⟩
      have b4 := b3.trans (c4.mono b3.size)
      go_wp2_with (go_at_call 10; refine (right_any b w4 (by omega)).mono ?_)
      rintro e w5 ⟨rfl, c5⟩
      have b5 := b4.trans (c5.mono b4.size)
      go_wp2
      go_ret
      exact ⟨rfl, b5⟩
    | true =>
      have hjt : J = tx (units a ++ units b) := by rw [hJ]; exact if_pos ⟨hp, hq⟩
      have hub : ∀ x ∈ units a ++ units b, x < 65536 := fun x hx => (List.mem_append.1 hx).elim (units_bd a x) (units_bd b x)
      have la := units_le a
      have lb := units_le b
      obtain ⟨n1, hn1⟩ : ∃ n, (units a).length = n := ⟨_, rfl⟩
      obtain ⟨n2, hn2⟩ : ∃ n, (units b).length = n := ⟨_, rfl⟩
      have n19 : n1 ≤ 600 := by omega
      have n29 : n2 ≤ 600 := by omega
      have hju : (units J).length = n1 + n2 := by rw [hjt, tx_units hub, List.length_append, hn1, hn2]
      have hjz : J.size ≤ 100000 := by
        have := tx_size (units a ++ units b)
        rw [← hjt, List.length_append, hn1, hn2] at this
        omega
      have L1 := Lib.hid (fun w => len_of a w n1 (by omega) hn1)
      have L2 := Lib.hid (fun w => len_of b w n2 (by omega) hn2)
      have L3 := Lib.hid (fun w => len_of J w (n1 + n2) (by omega) hju)
      clear hJ hjt hub la lb hn1 hn2 hju hjz
      go_enter Try.func5, Try.ntmps5
      go_wp2_with (go_at_call 8; refine (alive_any w).mono ?_)
      rintro e w1 ⟨rfl, b1⟩
      go_wp2_with (go_at_call 17; refine (J1.out w1).mono ?_)
      rintro e w2 ⟨rfl, c2⟩
      have b2 := b1.trans (c2.mono b1.size)
      go_wp2_with (go_at_call 18; refine (J2.out w2).mono ?_)
      rintro e w3 ⟨rfl, c3⟩
      have b3 := b2.trans (c3.mono b2.size)
      go_wp2_with (go_at_call 10; refine (right_any a w3 (by omega)).mono ?_)
      rintro e w4 ⟨rfl, c4⟩
      have b4 := b3.trans (c4.mono b3.size)
      go_wp2_with (go_at_call 10; refine (right_any b w4 (by omega)).mono ?_)
      rintro e w5 ⟨rfl, c5⟩
      have b5 := b4.trans (c5.mono b4.size)
      go_wp2_with (go_at_call 14; refine (L3.out w5).mono ?_)
      rintro e w6 ⟨rfl, c6⟩
      have b6 := b5.trans (c6.mono b5.size)
      go_wp2_with (go_at_call 14; refine (L1.out w6).mono ?_)
      rintro e w7 ⟨rfl, c7⟩
      have b7 := b6.trans (c7.mono b6.size)
      go_wp2_with (go_at_call 14; refine (L2.out w7).mono ?_)
      rintro e w8 ⟨rfl, c8⟩
      have b8 := b7.trans (c8.mono b7.size)
      go_wp2
      go_ret
      exact ⟨rfl, b8⟩
end Go.Proofs.Ytkhldimcegomlaa
