/-
  values.Same and the walk of ValuesSame.
-/
import Derived.Test.YtadpkhneijoilaaDoorVaHeld
namespace Go.Proofs.YtadpkhneijoilaaDoor.Vals
open Go.RowKit
set_option linter.unusedVariables false

theorem two_bels (w : World) (a b : Obj) : Below w.heap.size w ((w.alloc a).alloc b) := ((Below.refl _ _).alloc (Nat.le_refl _) _).alloc (by simp) _
/-- What a call of Same ends in. -/
def SmIs (a b : Value) (f : Bool) : Prop := ∀ w, Calls Tryd.prog 11 #[a, b] w fun e w' => e = .returned (.bool f) ∧ Below w.heap.size w w'
theorem SmIs.at {a b : Value} {f : Bool} (h : SmIs a b f) {w : World} : Calls Tryd.prog 11 #[a, b] w fun e w' => e = .returned (.bool f) ∧ Below w.heap.size w w' := h w
theorem same_t (k n : Int) (s : ByteArray) : SmIs (V k n s) (V k n s) true := fun w => by
  go_enter Tryd.func11, Tryd.ntmps11
  go_wp2
  go_ret
  exact ⟨rfl, two_bels _ _ _⟩
theorem same_1 (k n : Int) (s : ByteArray) (k' n' : Int) (s' : ByteArray) (h : ¬ k = k') : SmIs (V k n s) (V k' n' s') false := fun w => by
  go_enter Tryd.func11, Tryd.ntmps11
  go_wp2
  go_ret
  exact ⟨rfl, two_bels _ _ _⟩
theorem same_2 (k n : Int) (s : ByteArray) (n' : Int) (s' : ByteArray) (h : ¬ n = n') : SmIs (V k n s) (V k n' s') false := fun w => by
  go_enter Tryd.func11, Tryd.ntmps11
  go_wp2
  go_ret
  exact ⟨rfl, two_bels _ _ _⟩
theorem same_3 (k n : Int) (s s' : ByteArray) (h : ¬ s.toList = s'.toList) : SmIs (V k n s) (V k n s') false := fun w => by
  go_enter Tryd.func11, Tryd.ntmps11
  go_wp2
  go_ret
  exact ⟨rfl, two_bels _ _ _⟩

set_option maxHeartbeats 4000000 in
set_option maxRecDepth 100000 in
theorem lawSame_t (k n : Int) (s : ByteArray) (w : World) (hT : Lt w) : Calls Tryd.prog 4 #[V k n s, V k n s] w fun e w' => e = .returned (.bool true) ∧ Below w.heap.size w w' := by
  have HA := Lib.hid (fun w hT => alive_any w hT)
  have hT0 := hT.below (two_bels w (.cells #[.int .i64 k, .int .i64 n, .string s] 23) (.cells #[.int .i64 k, .int .i64 n, .string s] 23))
  have sab : SmIs (V k n s) (V k n s) true := same_t _ _ _
  have sba : SmIs (V k n s) (V k n s) true := same_t _ _ _
  have saa : SmIs (V k n s) (V k n s) true := same_t _ _ _
  have hn := heap_alloc_new w (.cells #[.int .i64 k, .int .i64 n, .string s] 23)
  have hn2 := (heap_alloc_old (w.alloc (.cells #[.int .i64 k, .int .i64 n, .string s] 23)) (.cells #[.int .i64 k, .int .i64 n, .string s] 23) (by simp)).trans hn
  have hm := heap_alloc_new (w.alloc (.cells #[.int .i64 k, .int .i64 n, .string s] 23)) (.cells #[.int .i64 k, .int .i64 n, .string s] 23)
  have es : (w.alloc (.cells #[.int .i64 k, .int .i64 n, .string s] 23)).heap.size = w.heap.size + 1 := by simp
  rw [es] at hm
  have HN := Lib.hid hn2
  have HM := Lib.hid hm
  clear hn hn2 hm es
  go_enter Tryd.func4, Tryd.ntmps4
  go_wp2_with (go_at_call 8; refine (HA.out _ hT0).mono ?_; rintro e w1 ⟨rfl, hb1⟩)
  have c0 : w1.cell? ⟨w.heap.size, 0, none⟩ = some (.int .i64 k) := cell_keep hb1 (Lib.cell_of_heap HN.out 0)
  have c1 : w1.cell? ⟨w.heap.size, 1, none⟩ = some (.int .i64 n) := cell_keep hb1 (Lib.cell_of_heap HN.out 1)
  have c2 : w1.cell? ⟨w.heap.size, 2, none⟩ = some (.string s) := cell_keep hb1 (Lib.cell_of_heap HN.out 2)
  have d0 : w1.cell? ⟨w.heap.size + 1, 0, none⟩ = some (.int .i64 k) := cell_keep hb1 (Lib.cell_of_heap HM.out 0)
  have d1 : w1.cell? ⟨w.heap.size + 1, 1, none⟩ = some (.int .i64 n) := cell_keep hb1 (Lib.cell_of_heap HM.out 1)
  have d2 : w1.cell? ⟨w.heap.size + 1, 2, none⟩ = some (.string s) := cell_keep hb1 (Lib.cell_of_heap HM.out 2)
  have hbW : Below w.heap.size w w1 := bel_keep hb1 (two_bels _ _ _)
  clear hb1 HN HM
  go_region_held3 (fun w' => Below w.heap.size w w' ∧ w'.cell? ⟨w.heap.size, 0, none⟩ = some (.int .i64 k) ∧ w'.cell? ⟨w.heap.size, 1, none⟩ = some (.int .i64 n) ∧ w'.cell? ⟨w.heap.size, 2, none⟩ = some (.string s) ∧ w'.cell? ⟨w.heap.size + 1, 0, none⟩ = some (.int .i64 k) ∧ w'.cell? ⟨w.heap.size + 1, 1, none⟩ = some (.int .i64 n) ∧ w'.cell? ⟨w.heap.size + 1, 2, none⟩ = some (.string s))
    (first | exact ⟨hbW.drew, c0, c1, c2, d0, d1, d2⟩ | (go_split_ands; exact ⟨bel_keep (by assumption) (by assumption), cell_keep (by assumption) (by assumption), cell_keep (by assumption) (by assumption), cell_keep (by assumption) (by assumption), cell_keep (by assumption) (by assumption), cell_keep (by assumption) (by assumption), cell_keep (by assumption) (by assumption)⟩))
    (first
      | (go_at_call 11; (first | (with_reducible refine sab.at.mono ?_) | (with_reducible refine sba.at.mono ?_) | (with_reducible refine saa.at.mono ?_)); rintro e w3 ⟨rfl, hb3⟩))
  go_split_ands
  go_wp2
  go_ret
  exact ⟨rfl, by assumption⟩
set_option maxHeartbeats 4000000 in
set_option maxRecDepth 100000 in
theorem lawSame_1 (k n : Int) (s : ByteArray) (k1 n1 : Int) (s1 : ByteArray) (w : World) (hT : Lt w) (h : ¬ k = k1) : Calls Tryd.prog 4 #[V k n s, V k1 n1 s1] w fun e w' => e = .returned (.bool true) ∧ Below w.heap.size w w' := by
  have HA := Lib.hid (fun w hT => alive_any w hT)
  have hT0 := hT.below (two_bels w (.cells #[.int .i64 k, .int .i64 n, .string s] 23) (.cells #[.int .i64 k1, .int .i64 n1, .string s1] 23))
  have sab : SmIs (V k n s) (V k1 n1 s1) false := same_1 _ _ _ _ _ _ h
  have sba : SmIs (V k1 n1 s1) (V k n s) false := same_1 _ _ _ _ _ _ (fun e => h e.symm)
  have saa : SmIs (V k n s) (V k n s) true := same_t _ _ _
  have h2 : ¬ k1 = k := fun e => h e.symm
  have hn := heap_alloc_new w (.cells #[.int .i64 k, .int .i64 n, .string s] 23)
  have hn2 := (heap_alloc_old (w.alloc (.cells #[.int .i64 k, .int .i64 n, .string s] 23)) (.cells #[.int .i64 k1, .int .i64 n1, .string s1] 23) (by simp)).trans hn
  have hm := heap_alloc_new (w.alloc (.cells #[.int .i64 k, .int .i64 n, .string s] 23)) (.cells #[.int .i64 k1, .int .i64 n1, .string s1] 23)
  have es : (w.alloc (.cells #[.int .i64 k, .int .i64 n, .string s] 23)).heap.size = w.heap.size + 1 := by simp
  rw [es] at hm
  have HN := Lib.hid hn2
  have HM := Lib.hid hm
  clear hn hn2 hm es
  go_enter Tryd.func4, Tryd.ntmps4
  go_wp2_with (go_at_call 8; refine (HA.out _ hT0).mono ?_; rintro e w1 ⟨rfl, hb1⟩)
  have c0 : w1.cell? ⟨w.heap.size, 0, none⟩ = some (.int .i64 k) := cell_keep hb1 (Lib.cell_of_heap HN.out 0)
  have c1 : w1.cell? ⟨w.heap.size, 1, none⟩ = some (.int .i64 n) := cell_keep hb1 (Lib.cell_of_heap HN.out 1)
  have c2 : w1.cell? ⟨w.heap.size, 2, none⟩ = some (.string s) := cell_keep hb1 (Lib.cell_of_heap HN.out 2)
  have d0 : w1.cell? ⟨w.heap.size + 1, 0, none⟩ = some (.int .i64 k1) := cell_keep hb1 (Lib.cell_of_heap HM.out 0)
  have d1 : w1.cell? ⟨w.heap.size + 1, 1, none⟩ = some (.int .i64 n1) := cell_keep hb1 (Lib.cell_of_heap HM.out 1)
  have d2 : w1.cell? ⟨w.heap.size + 1, 2, none⟩ = some (.string s1) := cell_keep hb1 (Lib.cell_of_heap HM.out 2)
  have hbW : Below w.heap.size w w1 := bel_keep hb1 (two_bels _ _ _)
  clear hb1 HN HM
  go_region_held3 (fun w' => Below w.heap.size w w' ∧ w'.cell? ⟨w.heap.size, 0, none⟩ = some (.int .i64 k) ∧ w'.cell? ⟨w.heap.size, 1, none⟩ = some (.int .i64 n) ∧ w'.cell? ⟨w.heap.size, 2, none⟩ = some (.string s) ∧ w'.cell? ⟨w.heap.size + 1, 0, none⟩ = some (.int .i64 k1) ∧ w'.cell? ⟨w.heap.size + 1, 1, none⟩ = some (.int .i64 n1) ∧ w'.cell? ⟨w.heap.size + 1, 2, none⟩ = some (.string s1))
    (first | exact ⟨hbW.drew, c0, c1, c2, d0, d1, d2⟩ | (go_split_ands; exact ⟨bel_keep (by assumption) (by assumption), cell_keep (by assumption) (by assumption), cell_keep (by assumption) (by assumption), cell_keep (by assumption) (by assumption), cell_keep (by assumption) (by assumption), cell_keep (by assumption) (by assumption), cell_keep (by assumption) (by assumption)⟩))
    (first
      | (go_at_call 11; (first | (with_reducible refine sab.at.mono ?_) | (with_reducible refine sba.at.mono ?_) | (with_reducible refine saa.at.mono ?_)); rintro e w3 ⟨rfl, hb3⟩))
  go_split_ands
  go_wp2
  go_ret
  exact ⟨rfl, by assumption⟩
set_option maxHeartbeats 4000000 in
set_option maxRecDepth 100000 in
theorem lawSame_2 (k n : Int) (s : ByteArray) (n1 : Int) (s1 : ByteArray) (w : World) (hT : Lt w) (h : ¬ n = n1) : Calls Tryd.prog 4 #[V k n s, V k n1 s1] w fun e w' => e = .returned (.bool true) ∧ Below w.heap.size w w' := by
  have HA := Lib.hid (fun w hT => alive_any w hT)
  have hT0 := hT.below (two_bels w (.cells #[.int .i64 k, .int .i64 n, .string s] 23) (.cells #[.int .i64 k, .int .i64 n1, .string s1] 23))
  have sab : SmIs (V k n s) (V k n1 s1) false := same_2 _ _ _ _ _ h
  have sba : SmIs (V k n1 s1) (V k n s) false := same_2 _ _ _ _ _ (fun e => h e.symm)
  have saa : SmIs (V k n s) (V k n s) true := same_t _ _ _
  have h2 : ¬ n1 = n := fun e => h e.symm
  have hn := heap_alloc_new w (.cells #[.int .i64 k, .int .i64 n, .string s] 23)
  have hn2 := (heap_alloc_old (w.alloc (.cells #[.int .i64 k, .int .i64 n, .string s] 23)) (.cells #[.int .i64 k, .int .i64 n1, .string s1] 23) (by simp)).trans hn
  have hm := heap_alloc_new (w.alloc (.cells #[.int .i64 k, .int .i64 n, .string s] 23)) (.cells #[.int .i64 k, .int .i64 n1, .string s1] 23)
  have es : (w.alloc (.cells #[.int .i64 k, .int .i64 n, .string s] 23)).heap.size = w.heap.size + 1 := by simp
  rw [es] at hm
  have HN := Lib.hid hn2
  have HM := Lib.hid hm
  clear hn hn2 hm es
  go_enter Tryd.func4, Tryd.ntmps4
  go_wp2_with (go_at_call 8; refine (HA.out _ hT0).mono ?_; rintro e w1 ⟨rfl, hb1⟩)
  have c0 : w1.cell? ⟨w.heap.size, 0, none⟩ = some (.int .i64 k) := cell_keep hb1 (Lib.cell_of_heap HN.out 0)
  have c1 : w1.cell? ⟨w.heap.size, 1, none⟩ = some (.int .i64 n) := cell_keep hb1 (Lib.cell_of_heap HN.out 1)
  have c2 : w1.cell? ⟨w.heap.size, 2, none⟩ = some (.string s) := cell_keep hb1 (Lib.cell_of_heap HN.out 2)
  have d0 : w1.cell? ⟨w.heap.size + 1, 0, none⟩ = some (.int .i64 k) := cell_keep hb1 (Lib.cell_of_heap HM.out 0)
  have d1 : w1.cell? ⟨w.heap.size + 1, 1, none⟩ = some (.int .i64 n1) := cell_keep hb1 (Lib.cell_of_heap HM.out 1)
  have d2 : w1.cell? ⟨w.heap.size + 1, 2, none⟩ = some (.string s1) := cell_keep hb1 (Lib.cell_of_heap HM.out 2)
  have hbW : Below w.heap.size w w1 := bel_keep hb1 (two_bels _ _ _)
  clear hb1 HN HM
  go_region_held3 (fun w' => Below w.heap.size w w' ∧ w'.cell? ⟨w.heap.size, 0, none⟩ = some (.int .i64 k) ∧ w'.cell? ⟨w.heap.size, 1, none⟩ = some (.int .i64 n) ∧ w'.cell? ⟨w.heap.size, 2, none⟩ = some (.string s) ∧ w'.cell? ⟨w.heap.size + 1, 0, none⟩ = some (.int .i64 k) ∧ w'.cell? ⟨w.heap.size + 1, 1, none⟩ = some (.int .i64 n1) ∧ w'.cell? ⟨w.heap.size + 1, 2, none⟩ = some (.string s1))
    (first | exact ⟨hbW.drew, c0, c1, c2, d0, d1, d2⟩ | (go_split_ands; exact ⟨bel_keep (by assumption) (by assumption), cell_keep (by assumption) (by assumption), cell_keep (by assumption) (by assumption), cell_keep (by assumption) (by assumption), cell_keep (by assumption) (by assumption), cell_keep (by assumption) (by assumption), cell_keep (by assumption) (by assumption)⟩))
    (first
      | (go_at_call 11; (first | (with_reducible refine sab.at.mono ?_) | (with_reducible refine sba.at.mono ?_) | (with_reducible refine saa.at.mono ?_)); rintro e w3 ⟨rfl, hb3⟩))
  go_split_ands
  go_wp2
  go_ret
  exact ⟨rfl, by assumption⟩
set_option maxHeartbeats 4000000 in
set_option maxRecDepth 100000 in
theorem lawSame_3 (k n : Int) (s s1 : ByteArray) (w : World) (hT : Lt w) (h : ¬ s.toList = s1.toList) : Calls Tryd.prog 4 #[V k n s, V k n s1] w fun e w' => e = .returned (.bool true) ∧ Below w.heap.size w w' := by
  have HA := Lib.hid (fun w hT => alive_any w hT)
  have hT0 := hT.below (two_bels w (.cells #[.int .i64 k, .int .i64 n, .string s] 23) (.cells #[.int .i64 k, .int .i64 n, .string s1] 23))
  have sab : SmIs (V k n s) (V k n s1) false := same_3 _ _ _ _ h
  have sba : SmIs (V k n s1) (V k n s) false := same_3 _ _ _ _ (fun e => h e.symm)
  have saa : SmIs (V k n s) (V k n s) true := same_t _ _ _
  have h2 : ¬ s1.toList = s.toList := fun e => h e.symm
  have hn := heap_alloc_new w (.cells #[.int .i64 k, .int .i64 n, .string s] 23)
  have hn2 := (heap_alloc_old (w.alloc (.cells #[.int .i64 k, .int .i64 n, .string s] 23)) (.cells #[.int .i64 k, .int .i64 n, .string s1] 23) (by simp)).trans hn
  have hm := heap_alloc_new (w.alloc (.cells #[.int .i64 k, .int .i64 n, .string s] 23)) (.cells #[.int .i64 k, .int .i64 n, .string s1] 23)
  have es : (w.alloc (.cells #[.int .i64 k, .int .i64 n, .string s] 23)).heap.size = w.heap.size + 1 := by simp
  rw [es] at hm
  have HN := Lib.hid hn2
  have HM := Lib.hid hm
  clear hn hn2 hm es
  go_enter Tryd.func4, Tryd.ntmps4
  go_wp2_with (go_at_call 8; refine (HA.out _ hT0).mono ?_; rintro e w1 ⟨rfl, hb1⟩)
  have c0 : w1.cell? ⟨w.heap.size, 0, none⟩ = some (.int .i64 k) := cell_keep hb1 (Lib.cell_of_heap HN.out 0)
  have c1 : w1.cell? ⟨w.heap.size, 1, none⟩ = some (.int .i64 n) := cell_keep hb1 (Lib.cell_of_heap HN.out 1)
  have c2 : w1.cell? ⟨w.heap.size, 2, none⟩ = some (.string s) := cell_keep hb1 (Lib.cell_of_heap HN.out 2)
  have d0 : w1.cell? ⟨w.heap.size + 1, 0, none⟩ = some (.int .i64 k) := cell_keep hb1 (Lib.cell_of_heap HM.out 0)
  have d1 : w1.cell? ⟨w.heap.size + 1, 1, none⟩ = some (.int .i64 n) := cell_keep hb1 (Lib.cell_of_heap HM.out 1)
  have d2 : w1.cell? ⟨w.heap.size + 1, 2, none⟩ = some (.string s1) := cell_keep hb1 (Lib.cell_of_heap HM.out 2)
  have hbW : Below w.heap.size w w1 := bel_keep hb1 (two_bels _ _ _)
  clear hb1 HN HM
  go_region_held3 (fun w' => Below w.heap.size w w' ∧ w'.cell? ⟨w.heap.size, 0, none⟩ = some (.int .i64 k) ∧ w'.cell? ⟨w.heap.size, 1, none⟩ = some (.int .i64 n) ∧ w'.cell? ⟨w.heap.size, 2, none⟩ = some (.string s) ∧ w'.cell? ⟨w.heap.size + 1, 0, none⟩ = some (.int .i64 k) ∧ w'.cell? ⟨w.heap.size + 1, 1, none⟩ = some (.int .i64 n) ∧ w'.cell? ⟨w.heap.size + 1, 2, none⟩ = some (.string s1))
    (first | exact ⟨hbW.drew, c0, c1, c2, d0, d1, d2⟩ | (go_split_ands; exact ⟨bel_keep (by assumption) (by assumption), cell_keep (by assumption) (by assumption), cell_keep (by assumption) (by assumption), cell_keep (by assumption) (by assumption), cell_keep (by assumption) (by assumption), cell_keep (by assumption) (by assumption), cell_keep (by assumption) (by assumption)⟩))
    (first
      | (go_at_call 11; (first | (with_reducible refine sab.at.mono ?_) | (with_reducible refine sba.at.mono ?_) | (with_reducible refine saa.at.mono ?_)); rintro e w3 ⟨rfl, hb3⟩))
  go_split_ands
  go_wp2
  go_ret
  exact ⟨rfl, by assumption⟩
theorem tl_inj {a b : ByteArray} (h : a.toList = b.toList) : a = b := by
  rw [ByteArray.toList_eq, ByteArray.toList_eq] at h
  exact ByteArray.ext (Array.toList_inj.1 h)
theorem lawSame_walk (k n : Int) (s : ByteArray) (k1 n1 : Int) (s1 : ByteArray) (w : World) (hT : Lt w) : Calls Tryd.prog 4 #[V k n s, V k1 n1 s1] w fun e w' => e = .returned (.bool true) ∧ Below w.heap.size w w' := by
  by_cases hk : k = k1
  · subst hk
    by_cases hn : n = n1
    · subst hn
      by_cases hs : s.toList = s1.toList
      · obtain rfl := tl_inj hs
        exact lawSame_t k n s w hT
      · exact lawSame_3 k n s s1 w hT hs
    · exact lawSame_2 k n s n1 s1 w hT hn
  · exact lawSame_1 k n s k1 n1 s1 w hT hk
end Go.Proofs.YtadpkhneijoilaaDoor.Vals
