/-
  keys.Index: what it gives; the document's example.
-/
import Derived.Test.YtlhgiihooalanaaDoorKySmall
import Derived.Test.YtlhgiihooalanaaDoorNmText
namespace Go.Proofs.YtlhgiihooalanaaDoor.Keys
open Go.RowKit Go.Proofs.YtlhgiihooalanaaDoor.Nums
set_option linter.unusedVariables false

theorem bnext {w w1 w2 : World} (h1 : Below w.heap.size w w1) (h2 : Below w1.heap.size w1 w2) : Below w.heap.size w w2 := h1.trans (h2.mono h1.size)
theorem ball (w : World) (o : Obj) : Below w.heap.size w (w.alloc o) := (Below.refl _ _).alloc (Nat.le_refl _) _
theorem new_cell {w w1 : World} {cs : Array Value} {t : TypeId} (hb : Below (w.alloc (.cells cs t)).heap.size (w.alloc (.cells cs t)) w1) (i : Nat) : w1.cell? ⟨w.heap.size, i, none⟩ = cs[i]? := by
  rw [hb.cell (p := ⟨w.heap.size, i, none⟩) (by simp)]
  simp

/-- What a call of Read ends in. -/
def ReadIs (s : ByteArray) (n : Int) (ok : Bool) : Prop := ∀ w, Lw w → Calls Tryd.prog 35 #[.string s] w fun e w' => e = .returned (.tuple #[.int .i64 n, .bool ok]) ∧ Below w.heap.size w w'
theorem ReadIs.at {s : ByteArray} {n : Int} {ok : Bool} (h : ReadIs s n ok) {w : World} (hL : Lw w) : Calls Tryd.prog 35 #[.string s] w fun e w' => e = .returned (.tuple #[.int .i64 n, .bool ok]) ∧ Below w.heap.size w w' := h w hL

set_option maxHeartbeats 1000000 in
theorem index_sym (s : ByteArray) (y : Int) (hy : (y != 0) = true) (w : World) :
    Calls Tryd.prog 27 #[.agg #[.string s, .int .i64 y]] w fun e w' => e = two none ∧ Below w.heap.size w w' := by
  go_enter Tryd.func27, Tryd.ntmps27
  go_wp2_with (go_at_call 28; refine (sym_yes s y hy _).mono ?_; rintro e w1 ⟨rfl, hb⟩)
  go_ret2
  exact ⟨rfl, bnext (ball _ _) hb⟩

set_option maxHeartbeats 1000000 in
theorem index_none (s : ByteArray) (y : Int) (hr : ReadIs s y false) (w : World) (hL : Lw w) :
    Calls Tryd.prog 27 #[.agg #[.string s, .int .i64 0]] w fun e w' => e = two none ∧ Below w.heap.size w w' := by
  have hL0 := hL.below (ball w (.cells #[.string s, .int .i64 0] 35))
  go_enter Tryd.func27, Tryd.ntmps27
  go_wp2_with (first | (go_at_call 28; refine (sym_no s _).mono ?_; rintro e w1 ⟨rfl, hb⟩; have hL1 := hL0.below hb; have hc := new_cell hb 0) | (go_at_call 35; refine (hr.at hL1).mono ?_; rintro e w2 ⟨rfl, hb2⟩))
  go_ret2
  exact ⟨rfl, bnext (bnext (ball _ _) hb) hb2⟩
set_option maxHeartbeats 1000000 in
theorem index_neg (s : ByteArray) (n : Int) (hn : n < 0) (hr : ReadIs s n true) (w : World) (hL : Lw w) :
    Calls Tryd.prog 27 #[.agg #[.string s, .int .i64 0]] w fun e w' => e = two (none) ∧ Below w.heap.size w w' := by
  have hL0 := hL.below (ball w (.cells #[.string s, .int .i64 0] 35))
  go_enter Tryd.func27, Tryd.ntmps27
  go_wp2_with (first | (go_at_call 28; refine (sym_no s _).mono ?_; rintro e w1 ⟨rfl, hb⟩; have hL1 := hL0.below hb; have hc := new_cell hb 0) | (go_at_call 35; refine (hr.at hL1).mono ?_; rintro e w2 ⟨rfl, hb2⟩))
  go_ret2
  exact ⟨rfl, bnext (bnext (ball _ _) hb) hb2⟩
set_option maxHeartbeats 1000000 in
theorem index_big (s : ByteArray) (n : Int) (h0 : 0 ≤ n) (hn : 4294967294 < n) (hr : ReadIs s n true) (w : World) (hL : Lw w) :
    Calls Tryd.prog 27 #[.agg #[.string s, .int .i64 0]] w fun e w' => e = two (none) ∧ Below w.heap.size w w' := by
  have hL0 := hL.below (ball w (.cells #[.string s, .int .i64 0] 35))
  go_enter Tryd.func27, Tryd.ntmps27
  go_wp2_with (first | (go_at_call 28; refine (sym_no s _).mono ?_; rintro e w1 ⟨rfl, hb⟩; have hL1 := hL0.below hb; have hc := new_cell hb 0) | (go_at_call 35; refine (hr.at hL1).mono ?_; rintro e w2 ⟨rfl, hb2⟩))
  go_ret2
  exact ⟨rfl, bnext (bnext (ball _ _) hb) hb2⟩
set_option maxHeartbeats 1000000 in
theorem index_in (s : ByteArray) (n : Int) (h0 : 0 ≤ n) (hn : n ≤ 4294967294) (hr : ReadIs s n true) (w : World) (hL : Lw w) :
    Calls Tryd.prog 27 #[.agg #[.string s, .int .i64 0]] w fun e w' => e = two (some n) ∧ Below w.heap.size w w' := by
  have hL0 := hL.below (ball w (.cells #[.string s, .int .i64 0] 35))
  go_enter Tryd.func27, Tryd.ntmps27
  go_wp2_with (first | (go_at_call 28; refine (sym_no s _).mono ?_; rintro e w1 ⟨rfl, hb⟩; have hL1 := hL0.below hb; have hc := new_cell hb 0) | (go_at_call 35; refine (hr.at hL1).mono ?_; rintro e w2 ⟨rfl, hb2⟩))
  go_ret2
  exact ⟨rfl, bnext (bnext (ball _ _) hb) hb2⟩

/-- keys.Index at a string key. -/
theorem index_str (s : ByteArray) (hs : s.size ≤ 281474976710656) (w : World) (hL : Lw w) :
    Calls Tryd.prog 27 #[.agg #[.string s, .int .i64 0]] w fun e w' => e = two (idxF s.data.toList) ∧ Below w.heap.size w w' := by
  have h : ∀ w, Lw w → Calls Tryd.prog 35 #[.string s] w fun e w' => e = two (readF s.data.toList) ∧ Below w.heap.size w w' := fun w hL => read_any s hs w hL
  cases hr : readF s.data.toList with
  | none => rw [idxF_none hr]; rw [hr] at h; exact index_none s 0 h w hL
  | some n =>
    rw [hr] at h
    have hi : ReadIs s n true := h
    by_cases h0 : n < 0
    · rw [idxF_out hr (.inl h0)]; exact index_neg s n h0 hi w hL
    · by_cases h1 : n ≤ 4294967294
      · rw [idxF_in hr (by omega) h1]; exact index_in s n (by omega) h1 hi w hL
      · rw [idxF_out hr (by omega)]; exact index_big s n (by omega) (by omega) hi w hL

theorem idx_07 : idxF [48, 55] = none := by
  cases h : idxF [48, 55] with
  | none => rfl
  | some n =>
    obtain ⟨h0, h1, hl⟩ := idxF_some h
    have hv := val_itoa n
    rw [hl] at hv
    have e : val [48, 55] = 7 := by decide
    have e7 : Lib.itoa 7 = [55] := by
      have : Lib.itoa ((7 : Nat) : Int) = Lib.decDigits 7 := if_neg (by omega)
      rw [show (7 : Int) = ((7 : Nat) : Int) from rfl, this, Lib.decDigits_one (by decide)]; rfl
    rw [← hv, e, e7] at hl
    cases hl
theorem idx_7 : idxF [55] = some 7 := by
  have e7 : Lib.itoa 7 = [55] := by
    have : Lib.itoa ((7 : Nat) : Int) = Lib.decDigits 7 := if_neg (by omega)
    rw [show (7 : Int) = ((7 : Nat) : Int) from rfl, this, Lib.decDigits_one (by decide)]; rfl
  rw [← e7]
  exact idxF_itoa (by omega) (by omega)

end Go.Proofs.YtlhgiihooalanaaDoor.Keys
