/-
  The walk of ValuesShow.
-/
import Derived.Test.YtadpkhneijoilaaDoorVaAlive
import Derived.Test.YtadpkhneijoilaaDoorVaQi
import Derived.Test.YtadpkhneijoilaaDoorNmRnum
namespace Go.Proofs.YtadpkhneijoilaaDoor.Vals
open Go.RowKit
open Go.Proofs.YtadpkhneijoilaaDoor.Uni (right_any of_any pts rightText_any)
set_option linter.unusedVariables false

theorem rt_any {s : ByteArray} {r : Option (List Nat)} (hs : s.size ≤ 100000000) (hp : pts s = r) : ∀ w, Calls Tryd.prog 22 #[.string s] w fun e w' => e = .returned (.bool r.isSome) ∧ Below w.heap.size w w' := fun w => by
  have := rightText_any s w hs
  rw [hp] at this
  exact this
theorem toList_inj {a b : ByteArray} (h : a.toList = b.toList) : a = b := by
  rw [ByteArray.toList_eq, ByteArray.toList_eq] at h
  exact ByteArray.ext (Array.toList_inj.1 h)
/-- What a call of RightText ends in. -/
def RtIs (s : ByteArray) (f : Bool) : Prop := ∀ w, Calls Tryd.prog 22 #[.string s] w fun e w' => e = .returned (.bool f) ∧ Below w.heap.size w w'
theorem RtIs.at {s : ByteArray} {f : Bool} (h : RtIs s f) {w : World} : Calls Tryd.prog 22 #[.string s] w fun e w' => e = .returned (.bool f) ∧ Below w.heap.size w w' := h w

set_option maxHeartbeats 2000000 in
set_option maxRecDepth 100000 in
theorem lawShow_a (a b : ByteArray) (w : World) (hT : Lt w) (ha : RtIs a false) : Calls Tryd.prog 5 #[.string a, .string b] w fun e w' => e = .returned (.bool true) ∧ Below w.heap.size w w' := by
  have HA := Lib.hid (fun w hT => alive_any w hT)
  go_enter Tryd.func5, Tryd.ntmps5
  go_wp2_with (first | (go_at_call 8; refine (HA.out _ hT).mono ?_; rintro e w1 ⟨rfl, hb1⟩) | (go_at_call 22; with_reducible refine ha.at.mono ?_; rintro e w2 ⟨rfl, hb2⟩))
  go_ret
  exact ⟨rfl, bnext hb1 hb2⟩
set_option maxHeartbeats 2000000 in
set_option maxRecDepth 100000 in
theorem lawShow_b (a b : ByteArray) (w : World) (hT : Lt w) (ha : RtIs a true) (hb : RtIs b false) : Calls Tryd.prog 5 #[.string a, .string b] w fun e w' => e = .returned (.bool true) ∧ Below w.heap.size w w' := by
  have HA := Lib.hid (fun w hT => alive_any w hT)
  go_enter Tryd.func5, Tryd.ntmps5
  go_wp2_with (first | (go_at_call 8; refine (HA.out _ hT).mono ?_; rintro e w1 ⟨rfl, hb1⟩) | (go_at_call 22; with_reducible refine ha.at.mono ?_; rintro e w2 ⟨rfl, hb2⟩) | (go_at_call 22; with_reducible refine hb.at.mono ?_; rintro e w3 ⟨rfl, hb3⟩))
  go_ret
  exact ⟨rfl, bnext (bnext hb1 hb2) hb3⟩
set_option maxHeartbeats 2000000 in
set_option maxRecDepth 100000 in
theorem lawShow_la (a b : ByteArray) (w : World) (hT : Lt w) (ha : RtIs a true) (hb : RtIs b true) (hl : (300 : Int) < (a.size : Int)) : Calls Tryd.prog 5 #[.string a, .string b] w fun e w' => e = .returned (.bool true) ∧ Below w.heap.size w w' := by
  have HA := Lib.hid (fun w hT => alive_any w hT)
  go_enter Tryd.func5, Tryd.ntmps5
  go_wp2_with (first | (go_at_call 8; refine (HA.out _ hT).mono ?_; rintro e w1 ⟨rfl, hb1⟩) | (go_at_call 22; with_reducible refine ha.at.mono ?_; rintro e w2 ⟨rfl, hb2⟩) | (go_at_call 22; with_reducible refine hb.at.mono ?_; rintro e w3 ⟨rfl, hb3⟩))
  go_ret
  exact ⟨rfl, bnext (bnext hb1 hb2) hb3⟩
set_option maxHeartbeats 2000000 in
set_option maxRecDepth 100000 in
theorem lawShow_lb (a b : ByteArray) (w : World) (hT : Lt w) (ha : RtIs a true) (hb : RtIs b true) (hla : ¬ (300 : Int) < (a.size : Int)) (hl : (300 : Int) < (b.size : Int)) : Calls Tryd.prog 5 #[.string a, .string b] w fun e w' => e = .returned (.bool true) ∧ Below w.heap.size w w' := by
  have HA := Lib.hid (fun w hT => alive_any w hT)
  go_enter Tryd.func5, Tryd.ntmps5
  go_wp2_with (first | (go_at_call 8; refine (HA.out _ hT).mono ?_; rintro e w1 ⟨rfl, hb1⟩) | (go_at_call 22; with_reducible refine ha.at.mono ?_; rintro e w2 ⟨rfl, hb2⟩) | (go_at_call 22; with_reducible refine hb.at.mono ?_; rintro e w3 ⟨rfl, hb3⟩))
  go_ret
  exact ⟨rfl, bnext (bnext hb1 hb2) hb3⟩

/-- What a call of Show ends in. -/
def ShIs (s : ByteArray) (c : Bool) (S : ByteArray) : Prop := ∀ w, Lt w → Calls Tryd.prog 20 #[V 4 0 s, .bool c] w fun e w' => e = .returned (.string S) ∧ Below w.heap.size w w'
theorem ShIs.at {s S : ByteArray} {c : Bool} (h : ShIs s c S) {w : World} (hT : Lt w) : Calls Tryd.prog 20 #[V 4 0 s, .bool c] w fun e w' => e = .returned (.string S) ∧ Below w.heap.size w w' := h w hT

set_option maxHeartbeats 2000000 in
set_option maxRecDepth 100000 in
theorem lawShow_main (a b S T : ByteArray) (w : World) (hT : Lt w) (ha : RtIs a true) (hb : RtIs b true) (hla : ¬ (300 : Int) < (a.size : Int)) (hlb : ¬ (300 : Int) < (b.size : Int)) (hS : ShIs a false S) (hU : ShIs b true T)
    (h2 : ¬ (S.size : Int) < 2) (hmax : S.size ≤ 100000) (heq : (S.toList == T.toList) = (a.toList == b.toList)) (hpr : ∀ i, i < S.size → 32 ≤ Nums.B S i ∧ Nums.B S i ≤ 126) :
    Calls Tryd.prog 5 #[.string a, .string b] w fun e w' => e = .returned (.bool true) ∧ Below w.heap.size w w' := by
  have HA := Lib.hid (fun w hT => alive_any w hT)
  have hgB := Nums.gB S
  have HP := Lib.hid hpr
  clear hpr
  go_enter Tryd.func5, Tryd.ntmps5
  go_wp2_with (first | (go_at_call 8; refine (HA.out _ hT).mono ?_; rintro e w1 ⟨rfl, hb1⟩; have hT1 := hT.below hb1) | (go_at_call 22; with_reducible refine ha.at.mono ?_; rintro e w2 ⟨rfl, hb2⟩; have hT2 := hT1.below hb2) | (go_at_call 22; with_reducible refine hb.at.mono ?_; rintro e w3 ⟨rfl, hb3⟩; have hT3 := hT2.below hb3) | (go_at_call 20; with_reducible refine (hS.at hT3).mono ?_; rintro e w4 ⟨rfl, hb4⟩; have hT4 := hT3.below hb4) | (go_at_call 20; with_reducible refine (hU.at hT4).mono ?_; rintro e w5 ⟨rfl, hb5⟩))
  have hbel := bnext (bnext (bnext (bnext hb1 hb2) hb3) hb4) hb5
  clear heq h2
  go_loop [8] (fun i => ∃ k : Nat, i = .int .i64 (k : Nat) ∧ k ≤ S.size) (fun i => S.size - (intOf i).toNat)
  case atStart => exact ⟨0, rfl, Nat.zero_le _⟩
  case round =>
    obtain ⟨k, rfl, hk⟩ := hrel
    by_cases hlt : k < S.size
    · have hlt2 : (k : Int) < (S.size : Int) := by omega
      obtain ⟨p1, p2⟩ := HP.out k hlt
      have i1 : (32 : Int) ≤ ((Nums.B S k : Nat) : Int) := by omega
      have i2 : ((Nums.B S k : Nat) : Int) ≤ 126 := by omega
      clear p1 p2
      go_wp2
      go_round
      case rel => exact ⟨k + 1, by go_num, by omega⟩
      case measure => simp [intOf]; omega
    · obtain rfl : k = S.size := by omega
      go_wp2
      go_ret
      exact ⟨rfl, hbel⟩

theorem B_print (s : ByteArray) (l : List UInt8) (hl : s = bs l) (h : ∀ x ∈ l, 32 ≤ x.toNat ∧ x.toNat ≤ 126) : ∀ i, i < s.size → 32 ≤ Nums.B s i ∧ Nums.B s i ≤ 126 := by
  intro i hi
  subst hl
  rw [bs_size] at hi
  unfold Nums.B
  have e : (bs l).data.toList = l := rfl
  rw [e, List.getElem?_eq_getElem hi]
  exact h _ (List.getElem_mem hi)

theorem lawShow_walk (a b : ByteArray) (w : World) (hT : Lt w) (h1 : a.size ≤ 100000000) (h2 : b.size ≤ 100000000) :
    Calls Tryd.prog 5 #[.string a, .string b] w fun e w' => e = .returned (.bool true) ∧ Below w.heap.size w w' := by
  cases ha : pts a with
  | none => exact lawShow_a a b w hT (rt_any h1 ha)
  | some A =>
    have hA : RtIs a true := rt_any h1 ha
    cases hb : pts b with
    | none => exact lawShow_b a b w hT hA (rt_any h2 hb)
    | some B =>
      have hB : RtIs b true := rt_any h2 hb
      by_cases hla : 300 < a.size
      · exact lawShow_la a b w hT hA hB (by omega)
      · by_cases hlb : 300 < b.size
        · exact lawShow_lb a b w hT hA hB (by omega) (by omega)
        · have hS : ShIs a false (bs (quoteL a)) := fun w hT => show_4 0 a false (by omega) w hT
          have hU : ShIs b true (bs (quoteL b)) := fun w hT => show_4 0 b true (by omega) w hT
          refine lawShow_main a b _ _ w hT hA hB (by omega) (by omega) hS hU ?_ ?_ ?_ (B_print _ _ rfl (quote_print a))
          · rw [bs_size]
            have := quote_two a
            omega
          · rw [bs_size]
            unfold quoteL
            have h1 := qUs_len (Uni.units a)
            have h2 := Uni.units_le a
            simp
            omega
          · by_cases e : a = b
            · subst e
              simp
            · have hne : bs (quoteL a) ≠ bs (quoteL b) := fun h => e (quoteL_inj ha hb (by
                have := congrArg (fun x : ByteArray => x.data.toList) h
                exact this))
              have e1 : ((bs (quoteL a)).toList == (bs (quoteL b)).toList) = false := by
                rw [beq_eq_false_iff_ne]
                intro h
                exact hne (toList_inj h)
              have e2 : (a.toList == b.toList) = false := by
                rw [beq_eq_false_iff_ne]
                intro h
                exact e (toList_inj h)
              rw [e1, e2]
end Go.Proofs.YtadpkhneijoilaaDoor.Vals
