/-
  The walk of ValuesTypes.
-/
import Derived.Test.YtadpkhneijoilaaDoorVaHeld
namespace Go.Proofs.YtadpkhneijoilaaDoor.Vals
open Go.RowKit
set_option linter.unusedVariables false

set_option maxHeartbeats 2000000 in
set_option maxRecDepth 100000 in
theorem lawTypes_5 (w : World) (hT : Lt w) : Calls Tryd.prog 7 #[.int .i64 5] w fun e w' => e = .returned (.bool true) ∧ Below w.heap.size w w' := by
  have ha := fun w hT => alive_any w hT
  have hr : ∀ w, Calls Tryd.prog 9 #[V 3 (-1) ⟨#[]⟩] w fun e w' => e = .returned (.bool true) ∧ Below w.heap.size w w' := fun w => by
    have h := Right_any 3 (-1) ⟨#[]⟩ w (by decide)
    have e : rightF 3 (-1) ⟨#[]⟩ = true := by decide +kernel
    rw [e] at h
    exact h
  have h1 : ∀ w, Calls Tryd.prog 18 #[V 3 (-1) ⟨#[]⟩, .bool false] w fun e w' => e = .returned (.string ⟨#[110, 117, 109, 98, 101, 114]⟩) ∧ Below w.heap.size w w' := fun w => type_any 3 (-1) ⟨#[]⟩ false w
  have h2 : ∀ w, Calls Tryd.prog 18 #[V 3 (-1) ⟨#[]⟩, .bool true] w fun e w' => e = .returned (.string ⟨#[110, 117, 109, 98, 101, 114]⟩) ∧ Below w.heap.size w w' := fun w => type_any 3 (-1) ⟨#[]⟩ true w
  have h3 : ∀ w, Calls Tryd.prog 16 #[V 3 (-1) ⟨#[]⟩] w fun e w' => e = .returned (.bool true) ∧ Below w.heap.size w w' := fun w => by
    have h := truth_any 3 (-1) ⟨#[]⟩ w
    have e : truthF 3 (-1) ⟨#[]⟩ = true := by decide +kernel
    rw [e] at h
    exact h
  have HA := Lib.hid ha
  have HR := Lib.hid hr
  have H1 := Lib.hid h1
  have H2 := Lib.hid h2
  have H3 := Lib.hid h3
  clear ha hr h1 h2 h3
  go_enter Tryd.func7, Tryd.ntmps7
  go_wp2_with (go_at_call 8; refine (HA.out _ hT).mono ?_; rintro e w1 ⟨rfl, hb1⟩)
  generalize hW : World.alloc (World.alloc (World.alloc w1 _) _) _ = W
  obtain ⟨k1, k2, k3⟩ := three_cells hW
  have c0 : W.cell? ⟨w1.heap.size, 15, none⟩ = some (.int .i64 3) := k1 _
  have c1 : W.cell? ⟨w1.heap.size, 16, none⟩ = some (.int .i64 (-1)) := k1 _
  have c2 : W.cell? ⟨w1.heap.size, 17, none⟩ = some (.string ⟨#[]⟩) := k1 _
  have c3 : W.cell? ⟨w1.heap.size + 1, 5, none⟩ = some (.string ⟨#[110, 117, 109, 98, 101, 114]⟩) := k2 _
  have c4 : W.cell? ⟨w1.heap.size + 2, 5, none⟩ = some (.bool true) := k3 _
  have hbW : Below w.heap.size w W := by rw [← hW]; exact (((hb1.alloc hb1.size _).alloc (by have := hb1.size; simp; omega) _).alloc (by have := hb1.size; simp; omega) _)
  clear hW hb1 k1 k2 k3
  go_region_held3 (fun w' => Below w.heap.size w w' ∧ w'.cell? ⟨w1.heap.size, 15, none⟩ = some (.int .i64 3) ∧ w'.cell? ⟨w1.heap.size, 16, none⟩ = some (.int .i64 (-1)) ∧ w'.cell? ⟨w1.heap.size, 17, none⟩ = some (.string ⟨#[]⟩) ∧ w'.cell? ⟨w1.heap.size + 1, 5, none⟩ = some (.string ⟨#[110, 117, 109, 98, 101, 114]⟩) ∧ w'.cell? ⟨w1.heap.size + 2, 5, none⟩ = some (.bool true))
    (first | exact ⟨hbW.drew, c0, c1, c2, c3, c4⟩ | (go_split_ands; exact ⟨bel_keep (by assumption) (by assumption), cell_keep (by assumption) (by assumption), cell_keep (by assumption) (by assumption), cell_keep (by assumption) (by assumption), cell_keep (by assumption) (by assumption), cell_keep (by assumption) (by assumption)⟩))
    (first
      | (go_at_call 9; refine (HR.out _).mono ?_; rintro e w2 ⟨rfl, hb2⟩)
      | (go_at_call 16; refine (H3.out _).mono ?_; rintro e w5 ⟨rfl, hb5⟩)
      | (go_at_call 18; (first | (with_reducible refine (H1.out _).mono ?_) | (with_reducible refine (H2.out _).mono ?_)); rintro e w3 ⟨rfl, hb3⟩))
  go_split_ands
  go_wp2
  go_ret
  exact ⟨rfl, by assumption⟩
set_option maxHeartbeats 2000000 in
set_option maxRecDepth 100000 in
theorem lawTypes_6 (w : World) (hT : Lt w) : Calls Tryd.prog 7 #[.int .i64 6] w fun e w' => e = .returned (.bool true) ∧ Below w.heap.size w w' := by
  have ha := fun w hT => alive_any w hT
  have hr : ∀ w, Calls Tryd.prog 9 #[V 4 0 ⟨#[]⟩] w fun e w' => e = .returned (.bool true) ∧ Below w.heap.size w w' := fun w => by
    have h := Right_any 4 0 ⟨#[]⟩ w (by decide)
    have e : rightF 4 0 ⟨#[]⟩ = true := by decide +kernel
    rw [e] at h
    exact h
  have h1 : ∀ w, Calls Tryd.prog 18 #[V 4 0 ⟨#[]⟩, .bool false] w fun e w' => e = .returned (.string ⟨#[115, 116, 114, 105, 110, 103]⟩) ∧ Below w.heap.size w w' := fun w => type_any 4 0 ⟨#[]⟩ false w
  have h2 : ∀ w, Calls Tryd.prog 18 #[V 4 0 ⟨#[]⟩, .bool true] w fun e w' => e = .returned (.string ⟨#[115, 116, 114, 105, 110, 103]⟩) ∧ Below w.heap.size w w' := fun w => type_any 4 0 ⟨#[]⟩ true w
  have h3 : ∀ w, Calls Tryd.prog 16 #[V 4 0 ⟨#[]⟩] w fun e w' => e = .returned (.bool false) ∧ Below w.heap.size w w' := fun w => by
    have h := truth_any 4 0 ⟨#[]⟩ w
    have e : truthF 4 0 ⟨#[]⟩ = false := by decide +kernel
    rw [e] at h
    exact h
  have HA := Lib.hid ha
  have HR := Lib.hid hr
  have H1 := Lib.hid h1
  have H2 := Lib.hid h2
  have H3 := Lib.hid h3
  clear ha hr h1 h2 h3
  go_enter Tryd.func7, Tryd.ntmps7
  go_wp2_with (go_at_call 8; refine (HA.out _ hT).mono ?_; rintro e w1 ⟨rfl, hb1⟩)
  generalize hW : World.alloc (World.alloc (World.alloc w1 _) _) _ = W
  obtain ⟨k1, k2, k3⟩ := three_cells hW
  have c0 : W.cell? ⟨w1.heap.size, 18, none⟩ = some (.int .i64 4) := k1 _
  have c1 : W.cell? ⟨w1.heap.size, 19, none⟩ = some (.int .i64 0) := k1 _
  have c2 : W.cell? ⟨w1.heap.size, 20, none⟩ = some (.string ⟨#[]⟩) := k1 _
  have c3 : W.cell? ⟨w1.heap.size + 1, 6, none⟩ = some (.string ⟨#[115, 116, 114, 105, 110, 103]⟩) := k2 _
  have c4 : W.cell? ⟨w1.heap.size + 2, 6, none⟩ = some (.bool false) := k3 _
  have hbW : Below w.heap.size w W := by rw [← hW]; exact (((hb1.alloc hb1.size _).alloc (by have := hb1.size; simp; omega) _).alloc (by have := hb1.size; simp; omega) _)
  clear hW hb1 k1 k2 k3
  go_region_held3 (fun w' => Below w.heap.size w w' ∧ w'.cell? ⟨w1.heap.size, 18, none⟩ = some (.int .i64 4) ∧ w'.cell? ⟨w1.heap.size, 19, none⟩ = some (.int .i64 0) ∧ w'.cell? ⟨w1.heap.size, 20, none⟩ = some (.string ⟨#[]⟩) ∧ w'.cell? ⟨w1.heap.size + 1, 6, none⟩ = some (.string ⟨#[115, 116, 114, 105, 110, 103]⟩) ∧ w'.cell? ⟨w1.heap.size + 2, 6, none⟩ = some (.bool false))
    (first | exact ⟨hbW.drew, c0, c1, c2, c3, c4⟩ | (go_split_ands; exact ⟨bel_keep (by assumption) (by assumption), cell_keep (by assumption) (by assumption), cell_keep (by assumption) (by assumption), cell_keep (by assumption) (by assumption), cell_keep (by assumption) (by assumption), cell_keep (by assumption) (by assumption)⟩))
    (first
      | (go_at_call 9; refine (HR.out _).mono ?_; rintro e w2 ⟨rfl, hb2⟩)
      | (go_at_call 16; refine (H3.out _).mono ?_; rintro e w5 ⟨rfl, hb5⟩)
      | (go_at_call 18; (first | (with_reducible refine (H1.out _).mono ?_) | (with_reducible refine (H2.out _).mono ?_)); rintro e w3 ⟨rfl, hb3⟩))
  go_split_ands
  go_wp2
  go_ret
  exact ⟨rfl, by assumption⟩
set_option maxHeartbeats 2000000 in
set_option maxRecDepth 100000 in
theorem lawTypes_7 (w : World) (hT : Lt w) : Calls Tryd.prog 7 #[.int .i64 7] w fun e w' => e = .returned (.bool true) ∧ Below w.heap.size w w' := by
  have ha := fun w hT => alive_any w hT
  have hr : ∀ w, Calls Tryd.prog 9 #[V 4 0 ⟨#[48]⟩] w fun e w' => e = .returned (.bool true) ∧ Below w.heap.size w w' := fun w => by
    have h := Right_any 4 0 ⟨#[48]⟩ w (by decide)
    have e : rightF 4 0 ⟨#[48]⟩ = true := by decide +kernel
    rw [e] at h
    exact h
  have h1 : ∀ w, Calls Tryd.prog 18 #[V 4 0 ⟨#[48]⟩, .bool false] w fun e w' => e = .returned (.string ⟨#[115, 116, 114, 105, 110, 103]⟩) ∧ Below w.heap.size w w' := fun w => type_any 4 0 ⟨#[48]⟩ false w
  have h2 : ∀ w, Calls Tryd.prog 18 #[V 4 0 ⟨#[48]⟩, .bool true] w fun e w' => e = .returned (.string ⟨#[115, 116, 114, 105, 110, 103]⟩) ∧ Below w.heap.size w w' := fun w => type_any 4 0 ⟨#[48]⟩ true w
  have h3 : ∀ w, Calls Tryd.prog 16 #[V 4 0 ⟨#[48]⟩] w fun e w' => e = .returned (.bool true) ∧ Below w.heap.size w w' := fun w => by
    have h := truth_any 4 0 ⟨#[48]⟩ w
    have e : truthF 4 0 ⟨#[48]⟩ = true := by decide +kernel
    rw [e] at h
    exact h
  have HA := Lib.hid ha
  have HR := Lib.hid hr
  have H1 := Lib.hid h1
  have H2 := Lib.hid h2
  have H3 := Lib.hid h3
  clear ha hr h1 h2 h3
  go_enter Tryd.func7, Tryd.ntmps7
  go_wp2_with (go_at_call 8; refine (HA.out _ hT).mono ?_; rintro e w1 ⟨rfl, hb1⟩)
  generalize hW : World.alloc (World.alloc (World.alloc w1 _) _) _ = W
  obtain ⟨k1, k2, k3⟩ := three_cells hW
  have c0 : W.cell? ⟨w1.heap.size, 21, none⟩ = some (.int .i64 4) := k1 _
  have c1 : W.cell? ⟨w1.heap.size, 22, none⟩ = some (.int .i64 0) := k1 _
  have c2 : W.cell? ⟨w1.heap.size, 23, none⟩ = some (.string ⟨#[48]⟩) := k1 _
  have c3 : W.cell? ⟨w1.heap.size + 1, 7, none⟩ = some (.string ⟨#[115, 116, 114, 105, 110, 103]⟩) := k2 _
  have c4 : W.cell? ⟨w1.heap.size + 2, 7, none⟩ = some (.bool true) := k3 _
  have hbW : Below w.heap.size w W := by rw [← hW]; exact (((hb1.alloc hb1.size _).alloc (by have := hb1.size; simp; omega) _).alloc (by have := hb1.size; simp; omega) _)
  clear hW hb1 k1 k2 k3
  go_region_held3 (fun w' => Below w.heap.size w w' ∧ w'.cell? ⟨w1.heap.size, 21, none⟩ = some (.int .i64 4) ∧ w'.cell? ⟨w1.heap.size, 22, none⟩ = some (.int .i64 0) ∧ w'.cell? ⟨w1.heap.size, 23, none⟩ = some (.string ⟨#[48]⟩) ∧ w'.cell? ⟨w1.heap.size + 1, 7, none⟩ = some (.string ⟨#[115, 116, 114, 105, 110, 103]⟩) ∧ w'.cell? ⟨w1.heap.size + 2, 7, none⟩ = some (.bool true))
    (first | exact ⟨hbW.drew, c0, c1, c2, c3, c4⟩ | (go_split_ands; exact ⟨bel_keep (by assumption) (by assumption), cell_keep (by assumption) (by assumption), cell_keep (by assumption) (by assumption), cell_keep (by assumption) (by assumption), cell_keep (by assumption) (by assumption), cell_keep (by assumption) (by assumption)⟩))
    (first
      | (go_at_call 9; refine (HR.out _).mono ?_; rintro e w2 ⟨rfl, hb2⟩)
      | (go_at_call 16; refine (H3.out _).mono ?_; rintro e w5 ⟨rfl, hb5⟩)
      | (go_at_call 18; (first | (with_reducible refine (H1.out _).mono ?_) | (with_reducible refine (H2.out _).mono ?_)); rintro e w3 ⟨rfl, hb3⟩))
  go_split_ands
  go_wp2
  go_ret
  exact ⟨rfl, by assumption⟩
set_option maxHeartbeats 2000000 in
set_option maxRecDepth 100000 in
theorem lawTypes_8 (w : World) (hT : Lt w) : Calls Tryd.prog 7 #[.int .i64 8] w fun e w' => e = .returned (.bool true) ∧ Below w.heap.size w w' := by
  have ha := fun w hT => alive_any w hT
  have hr : ∀ w, Calls Tryd.prog 9 #[V 5 1 ⟨#[]⟩] w fun e w' => e = .returned (.bool true) ∧ Below w.heap.size w w' := fun w => by
    have h := Right_any 5 1 ⟨#[]⟩ w (by decide)
    have e : rightF 5 1 ⟨#[]⟩ = true := by decide +kernel
    rw [e] at h
    exact h
  have h1 : ∀ w, Calls Tryd.prog 18 #[V 5 1 ⟨#[]⟩, .bool false] w fun e w' => e = .returned (.string ⟨#[115, 121, 109, 98, 111, 108]⟩) ∧ Below w.heap.size w w' := fun w => type_any 5 1 ⟨#[]⟩ false w
  have h2 : ∀ w, Calls Tryd.prog 18 #[V 5 1 ⟨#[]⟩, .bool true] w fun e w' => e = .returned (.string ⟨#[115, 121, 109, 98, 111, 108]⟩) ∧ Below w.heap.size w w' := fun w => type_any 5 1 ⟨#[]⟩ true w
  have h3 : ∀ w, Calls Tryd.prog 16 #[V 5 1 ⟨#[]⟩] w fun e w' => e = .returned (.bool true) ∧ Below w.heap.size w w' := fun w => by
    have h := truth_any 5 1 ⟨#[]⟩ w
    have e : truthF 5 1 ⟨#[]⟩ = true := by decide +kernel
    rw [e] at h
    exact h
  have HA := Lib.hid ha
  have HR := Lib.hid hr
  have H1 := Lib.hid h1
  have H2 := Lib.hid h2
  have H3 := Lib.hid h3
  clear ha hr h1 h2 h3
  go_enter Tryd.func7, Tryd.ntmps7
  go_wp2_with (go_at_call 8; refine (HA.out _ hT).mono ?_; rintro e w1 ⟨rfl, hb1⟩)
  generalize hW : World.alloc (World.alloc (World.alloc w1 _) _) _ = W
  obtain ⟨k1, k2, k3⟩ := three_cells hW
  have c0 : W.cell? ⟨w1.heap.size, 24, none⟩ = some (.int .i64 5) := k1 _
  have c1 : W.cell? ⟨w1.heap.size, 25, none⟩ = some (.int .i64 1) := k1 _
  have c2 : W.cell? ⟨w1.heap.size, 26, none⟩ = some (.string ⟨#[]⟩) := k1 _
  have c3 : W.cell? ⟨w1.heap.size + 1, 8, none⟩ = some (.string ⟨#[115, 121, 109, 98, 111, 108]⟩) := k2 _
  have c4 : W.cell? ⟨w1.heap.size + 2, 8, none⟩ = some (.bool true) := k3 _
  have hbW : Below w.heap.size w W := by rw [← hW]; exact (((hb1.alloc hb1.size _).alloc (by have := hb1.size; simp; omega) _).alloc (by have := hb1.size; simp; omega) _)
  clear hW hb1 k1 k2 k3
  go_region_held3 (fun w' => Below w.heap.size w w' ∧ w'.cell? ⟨w1.heap.size, 24, none⟩ = some (.int .i64 5) ∧ w'.cell? ⟨w1.heap.size, 25, none⟩ = some (.int .i64 1) ∧ w'.cell? ⟨w1.heap.size, 26, none⟩ = some (.string ⟨#[]⟩) ∧ w'.cell? ⟨w1.heap.size + 1, 8, none⟩ = some (.string ⟨#[115, 121, 109, 98, 111, 108]⟩) ∧ w'.cell? ⟨w1.heap.size + 2, 8, none⟩ = some (.bool true))
    (first | exact ⟨hbW.drew, c0, c1, c2, c3, c4⟩ | (go_split_ands; exact ⟨bel_keep (by assumption) (by assumption), cell_keep (by assumption) (by assumption), cell_keep (by assumption) (by assumption), cell_keep (by assumption) (by assumption), cell_keep (by assumption) (by assumption), cell_keep (by assumption) (by assumption)⟩))
    (first
      | (go_at_call 9; refine (HR.out _).mono ?_; rintro e w2 ⟨rfl, hb2⟩)
      | (go_at_call 16; refine (H3.out _).mono ?_; rintro e w5 ⟨rfl, hb5⟩)
      | (go_at_call 18; (first | (with_reducible refine (H1.out _).mono ?_) | (with_reducible refine (H2.out _).mono ?_)); rintro e w3 ⟨rfl, hb3⟩))
  go_split_ands
  go_wp2
  go_ret
  exact ⟨rfl, by assumption⟩
set_option maxHeartbeats 2000000 in
set_option maxRecDepth 100000 in
theorem lawTypes_9 (w : World) (hT : Lt w) : Calls Tryd.prog 7 #[.int .i64 9] w fun e w' => e = .returned (.bool true) ∧ Below w.heap.size w w' := by
  have ha := fun w hT => alive_any w hT
  have hr : ∀ w, Calls Tryd.prog 9 #[V 6 0 ⟨#[]⟩] w fun e w' => e = .returned (.bool true) ∧ Below w.heap.size w w' := fun w => by
    have h := Right_any 6 0 ⟨#[]⟩ w (by decide)
    have e : rightF 6 0 ⟨#[]⟩ = true := by decide +kernel
    rw [e] at h
    exact h
  have h1 : ∀ w, Calls Tryd.prog 18 #[V 6 0 ⟨#[]⟩, .bool false] w fun e w' => e = .returned (.string ⟨#[111, 98, 106, 101, 99, 116]⟩) ∧ Below w.heap.size w w' := fun w => type_any 6 0 ⟨#[]⟩ false w
  have h2 : ∀ w, Calls Tryd.prog 18 #[V 6 0 ⟨#[]⟩, .bool true] w fun e w' => e = .returned (.string ⟨#[102, 117, 110, 99, 116, 105, 111, 110]⟩) ∧ Below w.heap.size w w' := fun w => type_any 6 0 ⟨#[]⟩ true w
  have h3 : ∀ w, Calls Tryd.prog 16 #[V 6 0 ⟨#[]⟩] w fun e w' => e = .returned (.bool true) ∧ Below w.heap.size w w' := fun w => by
    have h := truth_any 6 0 ⟨#[]⟩ w
    have e : truthF 6 0 ⟨#[]⟩ = true := by decide +kernel
    rw [e] at h
    exact h
  have HA := Lib.hid ha
  have HR := Lib.hid hr
  have H1 := Lib.hid h1
  have H2 := Lib.hid h2
  have H3 := Lib.hid h3
  clear ha hr h1 h2 h3
  go_enter Tryd.func7, Tryd.ntmps7
  go_wp2_with (go_at_call 8; refine (HA.out _ hT).mono ?_; rintro e w1 ⟨rfl, hb1⟩)
  generalize hW : World.alloc (World.alloc (World.alloc w1 _) _) _ = W
  obtain ⟨k1, k2, k3⟩ := three_cells hW
  have c0 : W.cell? ⟨w1.heap.size, 27, none⟩ = some (.int .i64 6) := k1 _
  have c1 : W.cell? ⟨w1.heap.size, 28, none⟩ = some (.int .i64 0) := k1 _
  have c2 : W.cell? ⟨w1.heap.size, 29, none⟩ = some (.string ⟨#[]⟩) := k1 _
  have c3 : W.cell? ⟨w1.heap.size + 1, 9, none⟩ = some (.string ⟨#[111, 98, 106, 101, 99, 116]⟩) := k2 _
  have c4 : W.cell? ⟨w1.heap.size + 2, 9, none⟩ = some (.bool true) := k3 _
  have hbW : Below w.heap.size w W := by rw [← hW]; exact (((hb1.alloc hb1.size _).alloc (by have := hb1.size; simp; omega) _).alloc (by have := hb1.size; simp; omega) _)
  clear hW hb1 k1 k2 k3
  go_region_held3 (fun w' => Below w.heap.size w w' ∧ w'.cell? ⟨w1.heap.size, 27, none⟩ = some (.int .i64 6) ∧ w'.cell? ⟨w1.heap.size, 28, none⟩ = some (.int .i64 0) ∧ w'.cell? ⟨w1.heap.size, 29, none⟩ = some (.string ⟨#[]⟩) ∧ w'.cell? ⟨w1.heap.size + 1, 9, none⟩ = some (.string ⟨#[111, 98, 106, 101, 99, 116]⟩) ∧ w'.cell? ⟨w1.heap.size + 2, 9, none⟩ = some (.bool true))
    (first | exact ⟨hbW.drew, c0, c1, c2, c3, c4⟩ | (go_split_ands; exact ⟨bel_keep (by assumption) (by assumption), cell_keep (by assumption) (by assumption), cell_keep (by assumption) (by assumption), cell_keep (by assumption) (by assumption), cell_keep (by assumption) (by assumption), cell_keep (by assumption) (by assumption)⟩))
    (first
      | (go_at_call 9; refine (HR.out _).mono ?_; rintro e w2 ⟨rfl, hb2⟩)
      | (go_at_call 16; refine (H3.out _).mono ?_; rintro e w5 ⟨rfl, hb5⟩)
      | (go_at_call 18; (first | (with_reducible refine (H1.out _).mono ?_) | (with_reducible refine (H2.out _).mono ?_)); rintro e w3 ⟨rfl, hb3⟩))
  go_split_ands
  go_wp2
  go_ret
  exact ⟨rfl, by assumption⟩
end Go.Proofs.YtadpkhneijoilaaDoor.Vals
