/-
  values.quoted.
-/
import Derived.Test.YtadpkhneijoilaaDoorVaWr
namespace Go.Proofs.YtadpkhneijoilaaDoor.Vals
open Go.RowKit Go.Proofs.YtadpkhneijoilaaDoor.Uni
set_option linter.unusedVariables false

theorem byte34 : [Value.int .u8 34] = Lib.byteCells [34] := rfl

set_option maxRecDepth 100000 in
set_option maxHeartbeats 1000000 in
theorem quoted_any (s : ByteArray) (w : World) (hs : s.size ≤ 1000000) (hT : Lt w) :
    Calls Tryd.prog 31 #[.string s] w fun e w' => e = .returned (.string ⟨(quoteL s).toArray⟩) ∧ Below w.heap.size w w' := by
  have hg : 5 < w.heap.size := World.block_lt_of_cell? w _ hT.tz
  have hal : (w.alloc (.cells #[.pointer none, .slice none 0 0] 71)).heap[w.heap.size]? = some (.cells #[.pointer none, .slice none 0 0] 71 (0, 0)) := heap_alloc_new w _
  have HA := Lib.hid hal
  clear hal
  go_enter Tryd.func31, Tryd.ntmps31
  go_wp2_with (go_at_call 40; refine (writeByte_new w.heap.size w.heap.size 34 _ (Nat.le_refl _) HA.out (by simp)).mono ?_)
  rintro e w1 ⟨rfl, hB1, hbel0⟩
  have hbel1 : Below w.heap.size w w1 := ((Below.refl _ _).alloc (Nat.le_refl _) _).trans hbel0
  have hs1 := hbel1.size
  clear hbel0
  have hb34 : Bd w.heap.size w.heap.size (Lib.byteCells [34]) w1 := hB1
  have hTw : Lt w1 := hT.later hbel1 hg
  clear hB1
  cases hp : pts s with
  | none =>
    have hr : ∀ w, Calls Tryd.prog 34 #[.string s] w fun e w' => e = .returned (.bool false) ∧ Below w.heap.size w w' := fun w => by
      have := right_any s w (by omega)
      rw [hp] at this
      exact this
    have hu : quoteL s = [34] ++ [34] := by unfold quoteL units; rw [hp]; rfl
    have HU := Lib.hid hu
    clear hp hu
    go_wp2_with (go_at_call 34; refine (hr _).mono ?_)
    rintro e w2 ⟨rfl, hbe2⟩
    have hB2 := bd_keep hb34 hbe2
    have hbel2 := hbel1.trans (hbe2.mono hs1)
    have hs2 := hbel2.size
    clear hb34 hbe2 hbel1
    go_wp2_with (go_at_call 40; refine (writeByte_any w.heap.size w.heap.size _ 34 w2 hB2 (by decide) hs2).mono ?_)
    rintro e w3 ⟨rfl, hB3, hbel3⟩
    have hB4 : Bd w.heap.size w.heap.size (Lib.byteCells ([34] ++ [34])) w3 := hB3
    have hbel4 := hbel2.trans hbel3
    have hs3 := hbel4.size
    clear hB2 hbel2 hB3 hbel3
    go_wp2_with (go_at_call 42; refine (Tryd.Builder_String_any w.heap.size w.heap.size _ _ (.inr hB4) hs3).mono ?_)
    rintro e w4 ⟨rfl, hbel5⟩
    go_wp2
    go_ret
    exact ⟨by rw [HU.out]; rfl, hbel4.trans hbel5⟩
  | some L =>
    have hr : ∀ w, Calls Tryd.prog 34 #[.string s] w fun e w' => e = .returned (.bool true) ∧ Below w.heap.size w w' := fun w => by
      have := right_any s w (by omega)
      rw [hp] at this
      exact this
    have hu : quoteL s = [34] ++ qUs (uns L) ++ [34] := by unfold quoteL units; rw [hp]; rfl
    have hll := pts_len hp
    have hul := uns_le L
    have hql := qUs_len (uns L)
    have hlen : (Lib.byteCells ([34] ++ qUs (uns L))).length ≤ 100000000 := by rw [Lib.byteCells_length, List.length_append]; simp; omega
    have HU := Lib.hid hu
    have HP := Lib.hid hp
    clear hp hu hll hul hql
    go_wp2_with (go_at_call 34; refine (hr _).mono ?_)
    rintro e w2 ⟨rfl, hbe2⟩
    have hB2 := bd_keep hb34 hbe2
    have hbel2 := hbel1.trans (hbe2.mono hs1)
    have hs2 := hbel2.size
    have hT2 := hTw.below hbe2
    clear hb34 hbe2 hbel1
    go_wp2_with (go_at_call 41; refine (writeUnits_any w.heap.size w.heap.size [34] s L w2 HP.out hs hT2 hg hB2 (by decide) (by decide) hs2).mono ?_)
    rintro e w3 ⟨rfl, hB3, hbel3⟩
    have hbel4 := hbel2.trans hbel3
    have hs3 := hbel4.size
    clear hB2 hbel2 hbel3
    go_wp2_with (go_at_call 40; refine (writeByte_any w.heap.size w.heap.size _ 34 w3 hB3 (by omega) hs3).mono ?_)
    rintro e w4 ⟨rfl, hB4, hbel5⟩
    have hB6 : Bd w.heap.size w.heap.size (Lib.byteCells ([34] ++ qUs (uns L) ++ [34])) w4 := by rw [Lib.byteCells_append]; exact hB4
    have hbel6 := hbel4.trans hbel5
    have hs4 := hbel6.size
    clear hB3 hbel4 hB4 hbel5
    go_wp2_with (go_at_call 42; refine (Tryd.Builder_String_any w.heap.size w.heap.size _ _ (.inr hB6) hs4).mono ?_)
    rintro e w5 ⟨rfl, hbel7⟩
    go_wp2
    go_ret
    exact ⟨by rw [HU.out]; rfl, hbel6.trans hbel7⟩
end Go.Proofs.YtadpkhneijoilaaDoor.Vals
