/-
  understudyref1.Join.
-/
import Derived.Test.YtkhldimcegomlaaJoinw
import Derived.Laws.AppendOwnNone
namespace Go.Proofs.Ytkhldimcegomlaa
open Go.RowKit

theorem own_below {w w' : World} {base e n : Nat} {v : Value} {xs : List Value} (h : w.ownsRow base e 1 v n xs) (hb : Below w.heap.size w w') : w'.ownsRow base e 1 v n xs := by
  refine ⟨h.1, ?_⟩
  rcases h.2 with hn | ⟨g, cap, cur, hv, hbg, hg, rest⟩
  · exact .inl hn
  · exact .inr ⟨g, cap, cur, hv, hbg, (hb.block g (lt_of_block hg)).trans hg, rest⟩

theorem units_one (u : List Nat) : ∀ x ∈ uc u, x.oneCell' = true := by
  intro x hx
  simp only [uc, List.mem_map] at hx
  obtain ⟨n, _, rfl⟩ := hx
  rfl

set_option maxRecDepth 100000 in
set_option maxHeartbeats 1000000 in
theorem rjoin_bad (a b : ByteArray) (w : World) (ha : a.size ≤ 2000) (hb : b.size ≤ 2000) (h : ¬ ((pts a).isSome = true ∧ (pts b).isSome = true)) :
    Calls Try.prog 18 #[.string a, .string b] w fun e w' => e = .returned (.string ⟨#[]⟩) ∧ Below w.heap.size w w' := by
  cases hp : (pts a).isSome with
  | false =>
    clear h
    go_enter Try.func18, Try.ntmps18
    go_wp2_with (go_at_call 11; refine (rightText_any a w (by omega)).mono ?_)
    rintro e w1 ⟨rfl, b1⟩
    go_wp2
    go_ret
    exact ⟨rfl, b1⟩
  | true =>
    have hq : (pts b).isSome = false := by
      cases x : (pts b).isSome with
      | false => rfl
      | true => exact absurd ⟨hp, x⟩ h
    clear h
    go_enter Try.func18, Try.ntmps18
    go_wp2_with (go_at_call 11; refine (rightText_any a w (by omega)).mono ?_)
    rintro e w1 ⟨rfl, b1⟩
    go_wp2_with (go_at_call 11; refine (rightText_any b w1 (by omega)).mono ?_)
    rintro e w2 ⟨rfl, c2⟩
    have b2 := b1.trans (c2.mono b1.size)
    go_wp2
    go_ret
    exact ⟨rfl, b2⟩

set_option maxRecDepth 100000 in
set_option maxHeartbeats 2000000 in
theorem rjoin_good (a b : ByteArray) (w : World) (ha : a.size ≤ 2000) (hb : b.size ≤ 2000) (hp : (pts a).isSome = true) (hq : (pts b).isSome = true) :
    Calls Try.prog 18 #[.string a, .string b] w fun e w' => e = .returned (.string (tx (units a ++ units b))) ∧ Below w.heap.size w w' := by
  obtain ⟨i0, hi, hz0, hz1, hz2⟩ := info_parts info32
  have la := units_le a
  have lb := units_le b
  obtain ⟨n1, hn1⟩ : ∃ n, (units a).length = n := ⟨_, rfl⟩
  obtain ⟨n2, hn2⟩ : ∃ n, (units b).length = n := ⟨_, rfl⟩
  have n19 : n1 ≤ 4000 := by omega
  have n29 : n2 ≤ 4000 := by omega
  have hul : (units a ++ units b).length = n1 + n2 := by rw [List.length_append, hn1, hn2]
  have hub : ∀ x ∈ units a ++ units b, x < 65536 := fun x hx => (List.mem_append.1 hx).elim (units_bd a x) (units_bd b x)
  have HUL := Lib.hid hul
  have HUB := Lib.hid hub
  have H1 := Lib.hid hn1
  have H2 := Lib.hid hn2
  clear la lb hul hub hn1 hn2
  go_enter Try.func18, Try.ntmps18
  go_wp2_with (go_at_call 11; refine (rightText_any a w (by omega)).mono ?_)
  rintro e w1 ⟨rfl, b1⟩
  go_wp2_with (go_at_call 11; refine (rightText_any b w1 (by omega)).mono ?_)
  rintro e w2 ⟨rfl, c2⟩
  have b2 := b1.trans (c2.mono b1.size)
  go_wp2_with (go_at_call 13; refine (runits_any a w2 (by omega)).mono ?_)
  rintro e w3 ⟨v1, rfl, o3, c3⟩
  rw [H1.out] at o3
  have b3 := b2.trans (c3.mono b2.size)
  go_wp2_with (go_at_call 13; refine (runits_any b w3 (by omega)).mono ?_)
  rintro e w4 ⟨v2, rfl, p4, c4⟩
  rw [H2.out] at p4
  have o4 := own_below o3 c4
  have b4 := b3.trans (c4.mono b3.size)
  have z4 : w2.heap.size ≤ w4.heap.size := Nat.le_trans c3.size c4.size
  have lt1 : ∀ k, v1.ownBlock = some k → w.heap.size ≤ k := fun k hk => Nat.le_trans b2.size (o3.lt k hk).1
  have LT := Lib.hid lt1
  obtain ⟨ao1, cp1, rfl⟩ := own_shape o4
  clear o3 c2 c3 c4 b3 lt1 b1
  have B4 := Lib.hid b4
  have Z := Lib.hid b2.size
  clear b4 b2
  have final : ∀ ao cp w5, w5.ownsRow w2.heap.size 32 1 (.slice ao (n1 + n2) cp) (n1 + n2) (uc (units a) ++ uc (units b)) → Calls Try.prog 16 #[.slice ao (n1 + n2) cp] w5 fun e w' => e = .returned (.string (tx (units a ++ units b))) ∧ Below w5.heap.size w5 w' := by
    intro ao cp w5 h
    have T := tx_rtext ao cp (units a ++ units b) w5 (by rw [HUL.out]; omega) (rd_own (base := w2.heap.size) (cp := cp) (by rw [HUL.out, uc_append]; exact h) HUB.out)
    rw [HUL.out] at T
    exact T
  have FIN := Lib.hid final
  clear final
  rcases p4.2 with ⟨hv, h0⟩ | ⟨g, cap, cur, hv, hbg, hg, hrest⟩
  · subst hv
    subst h0
    have he : uc (units b) = [] := by
      have := H2.out
      have e : units b = [] := List.eq_nil_of_length_eq_zero this
      rw [e]
      rfl
    have o5 : w4.ownsRow w2.heap.size 32 1 (.slice ao1 n1 cp1) (n1 + 0) (uc (units a) ++ uc (units b)) := by rw [he, List.append_nil]; exact o4
    have T := FIN.out ao1 cp1 w4 o5
    rw [Nat.add_zero] at T
    have TT := Lib.hid T
    clear T o5 he p4
    go_wp2_with (first | (at_builtin; go_loud (refine wpList_append_own_none rfl _ _ 23 rfl w2.heap.size 32 i0 1 Try.underlying23 hi _ _ _ rfl o4 rfl ?_)) | (go_at_call 16; refine TT.out.mono ?_))
    rintro e w5 ⟨rfl, c5⟩
    have b5 := B4.out.trans (c5.mono B4.out.size)
    go_wp2
    go_ret
    exact ⟨rfl, b5⟩
  · subst hv
    have hcells : ∀ j u, (uc (units b))[j]? = some u → w4.cell? ((⟨g, 0, none⟩ : Addr).add j) = some u := p4.cells rfl
    have HC := Lib.hid hcells
    clear hcells hrest hbg hg p4
    go_wp2_with (at_builtin; refine wpList_append_own _ rfl _ _ 23 rfl w2.heap.size 32 i0 (.int .u16 0) 1 2 Try.underlying23 hi hz0 hz1 hz2 rfl (by decide) _ _ _ rfl o4 ⟨g, 0, none⟩ n2 cap (uc (units b)) rfl (by rw [uc_length, H2.out]; simp) HC.out (units_one _) (by unfold maxLen; omega) (by omega) z4 ?_)
    rintro v' w5 o5 hg5 _
    obtain ⟨ao5, cp5, rfl⟩ := own_shape o5
    have T := FIN.out ao5 cp5 w5 o5
    have TT := Lib.hid T
    have b5 := B4.out.grown hg5 B4.out.size (fun k hk => LT.out k hk)
    have z5 := b5.size
    clear T o5 hg5 o4
    go_wp2_with (go_at_call 16; refine TT.out.mono ?_)
    rintro e w6 ⟨rfl, c6⟩
    have b6 := b5.trans (c6.mono z5)
    go_wp2
    go_ret
    exact ⟨rfl, b6⟩

theorem rjoin_any (a b : ByteArray) (w : World) (ha : a.size ≤ 2000) (hb : b.size ≤ 2000) :
    Calls Try.prog 18 #[.string a, .string b] w fun e w' => e = .returned (.string (jn a b)) ∧ Below w.heap.size w w' := by
  by_cases h : (pts a).isSome = true ∧ (pts b).isSome = true
  · have e : jn a b = tx (units a ++ units b) := if_pos h
    rw [e]
    exact rjoin_good a b w ha hb h.1 h.2
  · have e : jn a b = ⟨#[]⟩ := if_neg h
    rw [e]
    exact rjoin_bad a b w ha hb h
end Go.Proofs.Ytkhldimcegomlaa
