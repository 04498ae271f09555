/-
  lex.gap; reader.rest, reader.skip.
-/
import Derived.Test.YtlboaldikgonoaaDoorLxLead
import Derived.Test.YtlboaldikgonoaaDoorLxSkip
import Derived.Test.YtlboaldikgonoaaDoorShelf
import Derived.Lib.CutLaws
namespace Go.Proofs.YtlboaldikgonoaaDoor.Lx
open Go.RowKit Go.Proofs.YtlboaldikgonoaaDoor.Uni
set_option linter.unusedVariables false
set_option linter.unusedSimpArgs false

theorem pred_line (w : World) (B : Nat) : Pred 46 #[] lineN B w := ⟨fun _ _ => by kernel_rfl, fun p w' _ => line_any p w'⟩
theorem pred_white (w : World) (B : Nat) : Pred 48 #[] whiteN B w := ⟨fun _ _ => by kernel_rfl, fun p w' _ => white_any p w'⟩
theorem pred_digit (w : World) (B : Nat) : Pred 30 #[] digitN B w := ⟨fun _ _ => by kernel_rfl, fun p w' _ => digit_any p w'⟩
theorem pred_start (w : World) (B : Nat) : Pred 28 #[] leadN B w := ⟨fun _ _ => by kernel_rfl, fun p w' _ => start_any p w'⟩
theorem pred_cont (w : World) (B : Nat) : Pred 38 #[] contN B w := ⟨fun _ _ => by kernel_rfl, fun p w' _ => cont_any p w'⟩

def bs (l : By) : ByteArray := ⟨l.toArray⟩
theorem bs_size (l : By) : (bs l).size = l.length := by simp [bs, ByteArray.size]
theorem bs_list (l : By) : (bs l).data.toList = l := by simp [bs]
theorem bs_of (s : ByteArray) : bs s.data.toList = s := by
  apply ByteArray.ext
  apply Array.toList_inj.1
  simp [bs]
theorem ext_drop (s : ByteArray) (i : Nat) : (s.extract i s.size).data.toList = s.data.toList.drop i := by
  simp only [ByteArray.data_extract, Array.toList_extract, List.extract_eq_take_drop]
  exact List.take_of_length_le (by simp)
theorem ext_bs (s : ByteArray) (i : Nat) : s.extract i s.size = bs (s.data.toList.drop i) := by rw [← ext_drop, bs_of]
theorem lsz (s : ByteArray) : s.data.toList.length = s.size := by simp

theorem leading_line (s : ByteArray) (w : World) (hs : s.size ≤ 9223372036854775807) : Calls Tryd.prog 37 #[.string s, .func (.func 46) #[] #[]] w fun e w' => e = .returned (.string (bs (lead lineN s.data.toList))) ∧ Below w.heap.size w w' := leading_any _ _ lineN flat_line s w hs (pred_line w _)
theorem leading_white (s : ByteArray) (w : World) (hs : s.size ≤ 9223372036854775807) : Calls Tryd.prog 37 #[.string s, .func (.func 48) #[] #[]] w fun e w' => e = .returned (.string (bs (lead whiteN s.data.toList))) ∧ Below w.heap.size w w' := leading_any _ _ whiteN flat_white s w hs (pred_white w _)
theorem leading_digit (s : ByteArray) (w : World) (hs : s.size ≤ 9223372036854775807) : Calls Tryd.prog 37 #[.string s, .func (.func 30) #[] #[]] w fun e w' => e = .returned (.string (bs (lead digitN s.data.toList))) ∧ Below w.heap.size w w' := leading_any _ _ digitN flat_digit s w hs (pred_digit w _)
theorem leading_start (s : ByteArray) (w : World) (hs : s.size ≤ 9223372036854775807) : Calls Tryd.prog 37 #[.string s, .func (.func 28) #[] #[]] w fun e w' => e = .returned (.string (bs (lead leadN s.data.toList))) ∧ Below w.heap.size w w' := leading_any _ _ leadN flat_lead s w hs (pred_start w _)
theorem leading_cont (s : ByteArray) (w : World) (hs : s.size ≤ 9223372036854775807) : Calls Tryd.prog 37 #[.string s, .func (.func 38) #[] #[]] w fun e w' => e = .returned (.string (bs (lead contN s.data.toList))) ∧ Below w.heap.size w w' := leading_any _ _ contN flat_cont s w hs (pred_cont w _)
theorem leading_run (s : ByteArray) (q c : Nat) (w : World) (hs : s.size ≤ 9223372036854775807) (hq : q < 128) (hc : w.cell? ⟨c, 0, none⟩ = some (.int .i32 (q : Int))) : Calls Tryd.prog 37 #[.string s, .func (.func 40) #[] #[.pointer (some ⟨c, 0, none⟩)]] w fun e w' => e = .returned (.string (bs (lead (runN q) s.data.toList))) ∧ Below w.heap.size w w' :=
  leading_any _ _ (runN q) (flat_run hq) s w hs ⟨fun _ _ => by kernel_rfl, fun p w' hb => run_any q p c w' (by rw [hb.cell (p := ⟨c, 0, none⟩) (World.block_lt_of_cell? w _ hc)]; exact hc)⟩

/-- The library's variable holds some number. -/
def Ml (w : World) : Prop := ∃ m, w.cell? ⟨1, 0, none⟩ = some (.int .i64 m)
theorem Ml.below {w w' : World} (h : Ml w) (hb : Below w.heap.size w w') : Ml w' := by
  obtain ⟨m, hm⟩ := h
  exact ⟨m, by rw [hb.cell (p := ⟨1, 0, none⟩) (World.block_lt_of_cell? w _ hm)]; exact hm⟩

theorem has_two {l : By} {x y : UInt8} (h : Lib.hasPrefix l [x, y] = true) : 2 ≤ l.length := by
  match l with
  | [] => simp [Lib.hasPrefix, List.isPrefixOf] at h
  | [a] => simp [Lib.hasPrefix, List.isPrefixOf] at h
  | a :: b :: r => simp

set_option maxHeartbeats 1000000 in
theorem gap_a (s : ByteArray) (w : World) (hs : s.size ≤ 1000000) (h : Lib.hasPrefix s.data.toList [47, 47] = true) :
    Calls Tryd.prog 36 #[.string s] w fun e w' => e = .returned (.tuple #[.int .i64 ((lead lineN s.data.toList).length : Nat), .bool true]) ∧ Below w.heap.size w w' := by
  have h1 := fun w => Tryd.strings_HasPrefix s ⟨#[47, 47]⟩ w
  have h2 := fun w => leading_line s w (by omega)
  simp only [h] at h1
  obtain ⟨t, ht⟩ : ∃ t, lead lineN s.data.toList = t := ⟨_, rfl⟩
  have hz : t.length ≤ s.size := by rw [← ht, ← lsz]; exact lead_len _ _
  rw [ht] at h2 ⊢
  obtain ⟨u, hu⟩ : ∃ u, bs t = u := ⟨_, rfl⟩
  have huz : u.size = t.length := by rw [← hu, bs_size]
  rw [hu] at h2
  clear hu ht h
  go_enter Tryd.func36, Tryd.ntmps36
  go_wp2_with (first | (go_at_call 25; refine (h1 _).mono ?_; rintro e w' ⟨rfl, rfl⟩) | (go_at_call 37; refine (h2 _).mono ?_; rintro e w' ⟨rfl, hb⟩))
  go_ret2
  exact ⟨by rw [← huz]; rfl, hb⟩

set_option maxHeartbeats 1000000 in
theorem gap_w (s : ByteArray) (w : World) (hs : s.size ≤ 1000000) (ha : Lib.hasPrefix s.data.toList [47, 47] = false) (hb : Lib.hasPrefix s.data.toList [47, 42] = false) :
    Calls Tryd.prog 36 #[.string s] w fun e w' => e = .returned (.tuple #[.int .i64 ((lead whiteN s.data.toList).length : Nat), .bool true]) ∧ Below w.heap.size w w' := by
  have h1 := fun w => Tryd.strings_HasPrefix s ⟨#[47, 47]⟩ w
  have h3 := fun w => Tryd.strings_HasPrefix s ⟨#[47, 42]⟩ w
  have h2 := fun w => leading_white s w (by omega)
  simp only [ha] at h1
  simp only [hb] at h3
  obtain ⟨t, ht⟩ : ∃ t, lead whiteN s.data.toList = t := ⟨_, rfl⟩
  have hz : t.length ≤ s.size := by rw [← ht, ← lsz]; exact lead_len _ _
  rw [ht] at h2 ⊢
  obtain ⟨u, hu⟩ : ∃ u, bs t = u := ⟨_, rfl⟩
  have huz : u.size = t.length := by rw [← hu, bs_size]
  rw [hu] at h2
  clear hu ht ha hb
  go_enter Tryd.func36, Tryd.ntmps36
  go_wp2_with (first | (go_at_call 25; (with_reducible refine (h1 _).mono ?_); rintro e w' ⟨rfl, rfl⟩) | (go_at_call 25; (with_reducible refine (h3 _).mono ?_); rintro e w' ⟨rfl, rfl⟩) | (go_at_call 37; refine (h2 _).mono ?_; rintro e w' ⟨rfl, hb⟩))
  go_ret2
  exact ⟨by rw [← huz]; rfl, hb⟩

set_option maxHeartbeats 1000000 in
theorem gap_b (s : ByteArray) (w : World) (hs : s.size ≤ 1000000) (hm : Ml w) (ha : Lib.hasPrefix s.data.toList [47, 47] = false) (hb : Lib.hasPrefix s.data.toList [47, 42] = true) (c1 c2 : By) (cb : Bool) (hc : Lib.cut (s.data.toList.drop 2) [42, 47] = (c1, c2, cb)) :
    Calls Tryd.prog 36 #[.string s] w fun e w' => e = .returned (.tuple #[.int .i64 (if cb then 2 + (c1.length : Int) + 2 else 0), .bool cb]) ∧ Below w.heap.size w w' := by
  have h2 := has_two hb
  have h1 := fun w => Tryd.strings_HasPrefix s ⟨#[47, 47]⟩ w
  have h3 := fun w => Tryd.strings_HasPrefix s ⟨#[47, 42]⟩ w
  obtain ⟨m, hm⟩ := hm
  have h4 := Tryd.strings_Cut (s.extract 2 s.size) ⟨#[42, 47]⟩ m w (by simp; omega) hm
  rw [ext_drop] at h4
  simp only [hc] at h4
  simp only [ha] at h1
  simp only [hb] at h3
  have hz : c1.length ≤ s.size := by
    have : c1.length ≤ (s.data.toList.drop 2).length := by
      unfold Lib.cut at hc
      split at hc
      · rw [← (Prod.mk.inj hc).1]; simp; omega
      · rw [← (Prod.mk.inj hc).1]; exact Nat.le_refl _
    rw [List.length_drop, lsz] at this
    omega
  obtain ⟨u, hu⟩ : ∃ u : ByteArray, (⟨c1.toArray⟩ : ByteArray) = u := ⟨_, rfl⟩
  have huz : u.size = c1.length := by rw [← hu]; exact bs_size c1
  rw [hu] at h4
  rw [← huz] at hz ⊢
  rw [lsz] at h2
  have h2i : (2 : Int) ≤ s.size := by omega
  clear hu huz hc ha hb
  cases cb with
  | true =>
    go_enter Tryd.func36, Tryd.ntmps36
    go_wp2_with (first | (go_at_call 25; (with_reducible refine (h1 _).mono ?_); rintro e w' ⟨rfl, rfl⟩) | (go_at_call 25; (with_reducible refine (h3 _).mono ?_); rintro e w' ⟨rfl, rfl⟩) | (go_at_call 47; refine h4.mono ?_; rintro e w' ⟨rfl, n, rfl⟩))
    go_ret2
    exact ⟨rfl, below_drewN (Below.refl _ _) n⟩
  | false =>
    go_enter Tryd.func36, Tryd.ntmps36
    go_wp2_with (first | (go_at_call 25; (with_reducible refine (h1 _).mono ?_); rintro e w' ⟨rfl, rfl⟩) | (go_at_call 25; (with_reducible refine (h3 _).mono ?_); rintro e w' ⟨rfl, rfl⟩) | (go_at_call 47; refine h4.mono ?_; rintro e w' ⟨rfl, n, rfl⟩))
    go_ret2
    exact ⟨rfl, below_drewN (Below.refl _ _) n⟩

theorem gap_any (s : ByteArray) (w : World) (hs : s.size ≤ 1000000) (hm : Ml w) :
    Calls Tryd.prog 36 #[.string s] w fun e w' => e = .returned (.tuple #[.int .i64 ((gapN s.data.toList).getD 0 : Nat), .bool (gapN s.data.toList).isSome]) ∧ Below w.heap.size w w' := by
  unfold gapN
  cases ha : Lib.hasPrefix s.data.toList [47, 47] with
  | true => exact gap_a s w hs ha
  | false =>
    cases hb : Lib.hasPrefix s.data.toList [47, 42] with
    | false => exact gap_w s w hs ha hb
    | true =>
      have hk : Lib.cut (s.data.toList.drop 2) [42, 47] = if 0 ≤ Lib.index (s.data.toList.drop 2) [42, 47] then ((s.data.toList.drop 2).take (Lib.index (s.data.toList.drop 2) [42, 47]).toNat, (s.data.toList.drop 2).drop ((Lib.index (s.data.toList.drop 2) [42, 47]).toNat + 2), true) else (s.data.toList.drop 2, [], false) := rfl
      by_cases hi : 0 ≤ Lib.index (s.data.toList.drop 2) [42, 47]
      · rw [if_pos hi] at hk
        have hroom := Lib.index_room _ [42, 47] hi
        simp only [Bool.false_eq_true, if_false, if_true, hi]
        refine (gap_b s w hs hm ha hb _ _ _ hk).mono ?_
        rintro e w' ⟨rfl, h⟩
        refine ⟨?_, h⟩
        rw [List.length_take, Nat.min_eq_left (by simp only [List.length_cons, List.length_nil] at hroom; omega)]
        simp
      · rw [if_neg hi] at hk
        simp only [Bool.false_eq_true, if_false, if_true, hi]
        exact gap_b s w hs hm ha hb _ _ _ hk
end Go.Proofs.YtlboaldikgonoaaDoor.Lx
