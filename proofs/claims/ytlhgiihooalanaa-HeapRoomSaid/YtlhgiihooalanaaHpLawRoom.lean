/-
  The walk of the law HeapRoom.
-/
import Derived.Test.YtlhgiihooalanaaHpAlive
namespace Go.Proofs.Ytlhgiihooalanaa.Hp
open Go Go.RowKit Go.Maps Go.Shelf Go.Proofs.Ytlhgiihooalanaa.Keys
set_option linter.unusedVariables false
set_option linter.unusedSimpArgs false
attribute [local go_sem ↓] ldE ldT bxT bxO bdO bdT alE alT stE stT
attribute [local irreducible] ecs ncs hcs tcs ocs
attribute [local go_sem] run_bx run_alE run_alT run_bdO run_bdT0 run_bdT1 run_bdT5 tcs_0 tcs_5 tcs_20 tcs_set5 tcs_set20 ocs_24

theorem lawRoom_out (room n : Int) (w : World) (h : n < 0 ∨ 100 < n) : Calls Try.prog 4 #[.int .i64 room, .int .i64 n] w fun e w' => e = .returned (.bool true) ∧ Below w.heap.size w w' := by
  by_cases h0 : n < 0
  · clear h
    go_enter Try.func4, Try.ntmps4
    go_wp2_with (go_at_call 5; refine (alive_any _).mono ?_; rintro e w1 ⟨rfl, hb⟩)
    go_ret
    exact ⟨rfl, hb⟩
  · have h1 : 100 < n := by omega
    have h2 : decide (n < 0) = false := by simp; omega
    clear h h0
    go_enter Try.func4, Try.ntmps4
    go_wp2_with (go_at_call 5; refine (alive_any _).mono ?_; rintro e w1 ⟨rfl, hb⟩)
    go_ret
    exact ⟨rfl, hb⟩
/-- How many objects there are when j were asked for. -/
def made (room : Int) (j : Nat) : Nat := if (j : Int) ≤ room then j else room.toNat
/-- Between two rounds. -/
structure RoomInv (w0 : World) (hb : Nat) (room : Int) (j : Nat) (wr : World) : Prop where
  is : ∃ a c xs, Blk wr hb (hp room (.slice a (made room j) c) j) 49 ∧ wr.ownsRow w0.heap.size 50 1 (.slice a (made room j) c) (made room j) xs
  below : Below w0.heap.size w0 wr
theorem made_yes {room : Int} {j : Nat} (h : (j : Int) < room) : made room j = j ∧ made room (j + 1) = j + 1 := by unfold made; rw [if_pos (by omega), if_pos (by omega)]; exact ⟨rfl, rfl⟩
theorem made_no {room : Int} {j : Nat} (h : room ≤ (j : Int)) : made room (j + 1) = made room j ∧ room ≤ (made room j : Int) := by
  unfold made
  by_cases h1 : (j : Int) ≤ room
  · rw [if_pos h1, if_neg (by omega)]
    omega
  · rw [if_neg h1, if_neg (by omega)]
    exact ⟨rfl, by omega⟩
theorem hp_sym (room : Int) (s : Value) (a b : Int) : (hp room s a).setIfInBounds 2 (.int .i64 b) = hp room s b := rfl
theorem RoomInv.next {w0 w1 w2 : World} {hb : Nat} {room : Int} {j : Nat} {a : Option Addr} {c : Nat} {xs : List Value} (h1 : Blk w1 hb (hp room (.slice a (made room (j + 1)) c) j) 49) (h2 : w1.ownsRow w0.heap.size 50 1 (.slice a (made room (j + 1)) c) (made room (j + 1)) xs) (h3 : Below w0.heap.size w0 w1) (hlow : w0.heap.size ≤ hb) (hw : w2 = w1.setCell ⟨hb, 2, none⟩ (.int .i64 (j + 1))) : RoomInv w0 hb room (j + 1) w2 := by
  subst hw
  refine ⟨⟨a, c, xs, ?_, own_set h2 h1 (by decide) _ _⟩, h3.setCell (p := ⟨hb, 2, none⟩) hlow _⟩
  have := h1.set 2 (.int .i64 (j + 1))
  rw [hp_sym] at this
  exact this
theorem meas {n j : Nat} {v : Int} (hv : v = (j : Int) + 1) (h : (j : Int) < n) : n - (intOf (.int .i64 v)).toNat < n - (intOf (.int .i64 (j : Int))).toNat := by
  subst hv
  show n - ((j : Int) + 1).toNat < n - ((j : Int)).toNat
  omega
set_option maxRecDepth 100000 in
set_option maxHeartbeats 2000000 in
theorem lawRoom_main (room : Int) (n : Nat) (w : World) (hn : n ≤ 100) (hr : -9223372036854775808 ≤ room ∧ room ≤ 9223372036854775807) : Calls Try.prog 4 #[.int .i64 room, .int .i64 n] w fun e w' => e = .returned (.bool true) ∧ Below w.heap.size w w' := by
  have hn2 : decide (100 < (n : Int)) = false := by simp; omega
  have hn3 : decide ((n : Int) < 0) = false := by simp
  have HR := Lib.hid hr
  have HN := Lib.hid hn
  clear hr hn
  go_enter Try.func4, Try.ntmps4
  go_wp2_with (go_at_call 5; refine (alive_any _).mono ?_; rintro e w1 ⟨rfl, hb1⟩; refine Hid.out ?_)
  refine Lib.hid ?_
  have s1 := hb1.size
  have hst : RoomInv w w1.heap.size room 0 (w1.alloc (.cells (hp room nilS 0) 49)) := by
    refine ⟨⟨none, 0, [], ?_, ?_⟩, hb1.alloc s1 _⟩
    · have e : made room 0 = 0 := by unfold made; split <;> omega
      rw [e]
      exact Blk.new w1 _ _
    · have e : made room 0 = 0 := by unfold made; split <;> omega
      rw [e]
      exact World.ownsRow_nil _ _ _ _
  have HST := Lib.hid hst
  clear hst hb1
  go_wp2_with (go_at_call 7; refine (new_any _ _).mono ?_; rintro e wz ⟨rfl, rfl⟩)
  go_loopw [7] (fun i wr => ∃ j : Nat, j ≤ n ∧ i = .int .i64 j ∧ RoomInv w w1.heap.size room j wr) (fun i _ => n - (intOf i).toNat)
  case atStart => exact ⟨0, Nat.zero_le _, rfl, HST.out⟩
  case round =>
    obtain ⟨j, hj, rfl, hinv⟩ := hrel
    by_cases hlt : j < n
    · have hlt2 : (j : Int) < n := by omega
      obtain ⟨a, c, xs, hblk, hrow⟩ := hinv.is
      have hbl := hinv.below
      have hj100 : j ≤ 100 := by have := HN.out; omega
      have hwr := wrap_one (s := (j : Int)) (by omega) (by omega)
      obtain ⟨th, hth⟩ : ∃ th : Th, th = { zeroT with n := (j : Int) } := ⟨_, rfl⟩
      have hbd := run_bdT5 wr j
      rw [← hth] at hbd
      by_cases hroom : (j : Int) < room
      · obtain ⟨m1, m2⟩ := made_yes hroom
        rw [m1] at hblk hrow
        have hmk := make_any w.heap.size w1.heap.size room a j c j xs th [] [] wr hblk s1 hrow (by omega) hroom (fun w' _ => store_zero th (by rw [hth]; rfl) (by rw [hth]; rfl) w')
        have M2 := Lib.hid m2
        have HTH := Lib.hid hth
        have HJ := Lib.hid hj100
        clear hblk hrow hinv m1 m2 hth hj100 hj
        go_wp2_with (go_at_call 9; refine hmk.mono ?_; rintro e w4 ⟨rfl, g, c4, hbk, ob, pb, mb, ns, a4, m4, c5, hrow4, hat, hb4⟩; refine Hid.out ?_)
        refine Lib.hid ?_
        have hsy := symbol_any w1.heap.size room _ j w4 hbk (by omega) (by have := HJ.out; omega)
        have hb5 := hbl.trans hb4
        rw [← M2.out] at hbk hrow4
        have HNX : Hid (∀ w2, w2 = w4.setCell ⟨w1.heap.size, 2, none⟩ (.int .i64 (j + 1)) → RoomInv w w1.heap.size room (j + 1) w2) := Lib.hid fun w2 h => RoomInv.next hbk hrow4 hb5 s1 h
        clear hbk hrow4 hb5 hb4 hat hmk hbd hbl
        go_wp2_with (go_at_call 12; refine hsy.mono ?_; rintro e w5 ⟨rfl, hw5⟩; have HI := Lib.hid (HNX.out _ hw5); clear hw5)
        go_roundw
        case rel => exact ⟨j + 1, by omega, by go_num, HI.out⟩
        case measure => exact meas hwr hlt2
      · have hge : room ≤ (j : Int) := by omega
        have hdc : decide ((j : Int) < room) = false := by simp; omega
        obtain ⟨m1, m2⟩ := made_no hge
        have hmk := make_full w1.heap.size room a _ c j th wr hblk m2
        have M1 := Lib.hid m1
        have M2 := Lib.hid m2
        have HJ := Lib.hid hj100
        have HB := Lib.hid hblk
        have HR2 := Lib.hid hrow
        have HGE := Lib.hid hge
        clear hblk hrow hinv m1 m2 hth hj100 hj hge hroom
        go_wp2_with (go_at_call 9; refine hmk.mono ?_; rintro e w4 ⟨rfl, hb4⟩; refine Hid.out ?_)
        refine Lib.hid ?_
        have hbk := HB.out.call hb4
        have hrow4 := own_below HR2.out hb4
        have hsy := symbol_any w1.heap.size room _ j w4 hbk (by omega) (by have := HJ.out; omega)
        have hb5 := hbl.trans (hb4.mono hbl.size)
        rw [← M1.out] at hbk hrow4
        have HNX : Hid (∀ w2, w2 = w4.setCell ⟨w1.heap.size, 2, none⟩ (.int .i64 (j + 1)) → RoomInv w w1.heap.size room (j + 1) w2) := Lib.hid fun w2 h => RoomInv.next hbk hrow4 hb5 s1 h
        clear hbk hrow4 hb5 hb4 hmk hbd hbl
        go_wp2_with (go_at_call 12; refine hsy.mono ?_; rintro e w5 ⟨rfl, hw5⟩; have HI := Lib.hid (HNX.out _ hw5); clear hw5)
        go_roundw
        case rel => exact ⟨j + 1, by omega, by go_num, HI.out⟩
        case measure => exact meas hwr hlt2
    · obtain rfl : j = n := by omega
      obtain ⟨a, c, xs, hblk, hrow⟩ := hinv.is
      have hbl := hinv.below
      clear hlt hj hinv hn2 hn3
      have hstz := fun wz : World => run_stT wz zeroT zeroT zeroT_ok
      by_cases h1 : room < (j : Int)
      · have e : made room j = room.toNat := by unfold made; rw [if_neg (by omega)]
        by_cases h2 : room < 0
        · have e0 : made room j = 0 := by rw [e]; omega
          rw [e0] at hblk
          have hg := get_none w1.heap.size room a 0 c j 0 wr hblk (.inr (by omega))
          have HBK := Lib.hid hblk
          clear e e0 hblk hrow
          go_wp2_with (go_at_call 10; refine hg.mono ?_; rintro e w5 ⟨rfl, hb5⟩; refine Hid.out ?_)
          refine Lib.hid ?_
          have hln := len_any w1.heap.size room a 0 c j (w5.alloc (.cells (tcs zeroT) 27)) ((HBK.out.call hb5).old _)
          have hst5 := hstz w5
          have B5 := Lib.hid ((hbl.trans (hb5.mono hbl.size)).alloc (Nat.le_trans hbl.size hb5.size) (.cells (tcs zeroT) 27))
          clear hb5 hg
          go_wp2_with (go_at_call 13; refine hln.mono ?_; rintro e w6 ⟨rfl, rfl⟩)
          go_ret
          exact ⟨rfl, B5.out⟩
        · have h3 : 0 ≤ room := by omega
          obtain ⟨r, hr⟩ : ∃ r : Nat, room = r := ⟨room.toNat, by omega⟩
          have e0 : made room j = r := by rw [e]; omega
          have h4 : decide (room < 0) = false := by simp; omega
          rw [e0] at hblk
          have hg := get_none w1.heap.size room a r c j room wr hblk (.inr (by omega))
          have HBK := Lib.hid hblk
          have HRR := Lib.hid hr
          clear e e0 hblk hrow hr h2 h3
          go_wp2_with (go_at_call 10; refine hg.mono ?_; rintro e w5 ⟨rfl, hb5⟩; refine Hid.out ?_)
          refine Lib.hid ?_
          have hln := len_any w1.heap.size room a r c j (w5.alloc (.cells (tcs zeroT) 27)) ((HBK.out.call hb5).old _)
          rw [← HRR.out] at hln
          have hst5 := hstz w5
          have B5 := Lib.hid ((hbl.trans (hb5.mono hbl.size)).alloc (Nat.le_trans hbl.size hb5.size) (.cells (tcs zeroT) 27))
          clear hb5 hg
          go_wp2_with (go_at_call 13; refine hln.mono ?_; rintro e w6 ⟨rfl, rfl⟩)
          go_ret
          exact ⟨rfl, B5.out⟩
      · have e0 : made room j = j := by unfold made; rw [if_pos (by omega)]
        have h4 : decide (room < (j : Int)) = false := by simp; omega
        have h5 : decide ((j : Int) < 0) = false := by simp
        rw [e0] at hblk
        have hg := get_none w1.heap.size room a j c j j wr hblk (.inr (by omega))
        have HBK := Lib.hid hblk
        clear e0 hblk hrow h1
        go_wp2_with (go_at_call 10; refine hg.mono ?_; rintro e w5 ⟨rfl, hb5⟩; refine Hid.out ?_)
        refine Lib.hid ?_
        have hln := len_any w1.heap.size room a j c j (w5.alloc (.cells (tcs zeroT) 27)) ((HBK.out.call hb5).old _)
        have hst5 := hstz w5
        have B5 := Lib.hid ((hbl.trans (hb5.mono hbl.size)).alloc (Nat.le_trans hbl.size hb5.size) (.cells (tcs zeroT) 27))
        clear hb5 hg
        go_wp2_with (go_at_call 13; refine hln.mono ?_; rintro e w6 ⟨rfl, rfl⟩)
        go_ret
        exact ⟨rfl, B5.out⟩
theorem lawRoom_walk (room n : Int) (w : World) (hr : -9223372036854775808 ≤ room ∧ room ≤ 9223372036854775807) : Calls Try.prog 4 #[.int .i64 room, .int .i64 n] w fun e w' => e = .returned (.bool true) ∧ Below w.heap.size w w' := by
  by_cases h : n < 0 ∨ 100 < n
  · exact lawRoom_out room n w h
  · obtain ⟨m, rfl⟩ : ∃ m : Nat, n = m := ⟨n.toNat, by omega⟩
    exact lawRoom_main room m w (by omega) hr
end Go.Proofs.Ytlhgiihooalanaa.Hp
