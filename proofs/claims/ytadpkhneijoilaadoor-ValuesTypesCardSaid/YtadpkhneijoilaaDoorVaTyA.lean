/-
  The walk of ValuesTypes.
-/
import Derived.Test.YtadpkhneijoilaaDoorVaHeld
namespace Go.Proofs.YtadpkhneijoilaaDoor.Vals
open Go.RowKit
set_option linter.unusedVariables false

set_option maxHeartbeats 2000000 in
set_option maxRecDepth 100000 in
theorem lawTypes_0 (w : World) (hT : Lt w) : Calls Tryd.prog 7 #[.int .i64 0] w fun e w' => e = .returned (.bool true) ∧ Below w.heap.size w w' := by
  have ha := fun w hT => alive_any w hT
  have hr : ∀ w, Calls Tryd.prog 9 #[V 0 0 ⟨#[]⟩] w fun e w' => e = .returned (.bool true) ∧ Below w.heap.size w w' := fun w => by
    have h := Right_any 0 0 ⟨#[]⟩ w (by decide)
    have e : rightF 0 0 ⟨#[]⟩ = true := by decide +kernel
    rw [e] at h
    exact h
  have h1 : ∀ w, Calls Tryd.prog 18 #[V 0 0 ⟨#[]⟩, .bool false] w fun e w' => e = .returned (.string ⟨#[117, 110, 100, 101, 102, 105, 110, 101, 100]⟩) ∧ Below w.heap.size w w' := fun w => type_any 0 0 ⟨#[]⟩ false w
  have h2 : ∀ w, Calls Tryd.prog 18 #[V 0 0 ⟨#[]⟩, .bool true] w fun e w' => e = .returned (.string ⟨#[117, 110, 100, 101, 102, 105, 110, 101, 100]⟩) ∧ Below w.heap.size w w' := fun w => type_any 0 0 ⟨#[]⟩ true w
  have h3 : ∀ w, Calls Tryd.prog 16 #[V 0 0 ⟨#[]⟩] w fun e w' => e = .returned (.bool false) ∧ Below w.heap.size w w' := fun w => by
    have h := truth_any 0 0 ⟨#[]⟩ w
    have e : truthF 0 0 ⟨#[]⟩ = false := by decide +kernel
    rw [e] at h
    exact h
  have HA := Lib.hid ha
  have HR := Lib.hid hr
  have H1 := Lib.hid h1
  have H2 := Lib.hid h2
  have H3 := Lib.hid h3
  clear ha hr h1 h2 h3
  go_enter Tryd.func7, Tryd.ntmps7
  go_wp2_with (go_at_call 8; refine (HA.out _ hT).mono ?_; rintro e w1 ⟨rfl, hb1⟩)
  generalize hW : World.alloc (World.alloc (World.alloc w1 _) _) _ = W
  obtain ⟨k1, k2, k3⟩ := three_cells hW
  have c0 : W.cell? ⟨w1.heap.size, 0, none⟩ = some (.int .i64 0) := k1 _
  have c1 : W.cell? ⟨w1.heap.size, 1, none⟩ = some (.int .i64 0) := k1 _
  have c2 : W.cell? ⟨w1.heap.size, 2, none⟩ = some (.string ⟨#[]⟩) := k1 _
  have c3 : W.cell? ⟨w1.heap.size + 1, 0, none⟩ = some (.string ⟨#[117, 110, 100, 101, 102, 105, 110, 101, 100]⟩) := k2 _
  have c4 : W.cell? ⟨w1.heap.size + 2, 0, none⟩ = some (.bool false) := k3 _
  have hbW : Below w.heap.size w W := by rw [← hW]; exact (((hb1.alloc hb1.size _).alloc (by have := hb1.size; simp; omega) _).alloc (by have := hb1.size; simp; omega) _)
  clear hW hb1 k1 k2 k3
  go_region_held3 (fun w' => Below w.heap.size w w' ∧ w'.cell? ⟨w1.heap.size, 0, none⟩ = some (.int .i64 0) ∧ w'.cell? ⟨w1.heap.size, 1, none⟩ = some (.int .i64 0) ∧ w'.cell? ⟨w1.heap.size, 2, none⟩ = some (.string ⟨#[]⟩) ∧ w'.cell? ⟨w1.heap.size + 1, 0, none⟩ = some (.string ⟨#[117, 110, 100, 101, 102, 105, 110, 101, 100]⟩) ∧ w'.cell? ⟨w1.heap.size + 2, 0, none⟩ = some (.bool false))
    (first | exact ⟨hbW.drew, c0, c1, c2, c3, c4⟩ | (go_split_ands; exact ⟨bel_keep (by assumption) (by assumption), cell_keep (by assumption) (by assumption), cell_keep (by assumption) (by assumption), cell_keep (by assumption) (by assumption), cell_keep (by assumption) (by assumption), cell_keep (by assumption) (by assumption)⟩))
    (first
      | (go_at_call 9; refine (HR.out _).mono ?_; rintro e w2 ⟨rfl, hb2⟩)
      | (go_at_call 16; refine (H3.out _).mono ?_; rintro e w5 ⟨rfl, hb5⟩)
      | (go_at_call 18; (first | (with_reducible refine (H1.out _).mono ?_) | (with_reducible refine (H2.out _).mono ?_)); rintro e w3 ⟨rfl, hb3⟩))
  go_split_ands
  go_wp2
  go_ret
  exact ⟨rfl, by assumption⟩
set_option maxHeartbeats 2000000 in
set_option maxRecDepth 100000 in
theorem lawTypes_1 (w : World) (hT : Lt w) : Calls Tryd.prog 7 #[.int .i64 1] w fun e w' => e = .returned (.bool true) ∧ Below w.heap.size w w' := by
  have ha := fun w hT => alive_any w hT
  have hr : ∀ w, Calls Tryd.prog 9 #[V 1 0 ⟨#[]⟩] w fun e w' => e = .returned (.bool true) ∧ Below w.heap.size w w' := fun w => by
    have h := Right_any 1 0 ⟨#[]⟩ w (by decide)
    have e : rightF 1 0 ⟨#[]⟩ = true := by decide +kernel
    rw [e] at h
    exact h
  have h1 : ∀ w, Calls Tryd.prog 18 #[V 1 0 ⟨#[]⟩, .bool false] w fun e w' => e = .returned (.string ⟨#[111, 98, 106, 101, 99, 116]⟩) ∧ Below w.heap.size w w' := fun w => type_any 1 0 ⟨#[]⟩ false w
  have h2 : ∀ w, Calls Tryd.prog 18 #[V 1 0 ⟨#[]⟩, .bool true] w fun e w' => e = .returned (.string ⟨#[111, 98, 106, 101, 99, 116]⟩) ∧ Below w.heap.size w w' := fun w => type_any 1 0 ⟨#[]⟩ true w
  have h3 : ∀ w, Calls Tryd.prog 16 #[V 1 0 ⟨#[]⟩] w fun e w' => e = .returned (.bool false) ∧ Below w.heap.size w w' := fun w => by
    have h := truth_any 1 0 ⟨#[]⟩ w
    have e : truthF 1 0 ⟨#[]⟩ = false := by decide +kernel
    rw [e] at h
    exact h
  have HA := Lib.hid ha
  have HR := Lib.hid hr
  have H1 := Lib.hid h1
  have H2 := Lib.hid h2
  have H3 := Lib.hid h3
  clear ha hr h1 h2 h3
  go_enter Tryd.func7, Tryd.ntmps7
  go_wp2_with (go_at_call 8; refine (HA.out _ hT).mono ?_; rintro e w1 ⟨rfl, hb1⟩)
  generalize hW : World.alloc (World.alloc (World.alloc w1 _) _) _ = W
  obtain ⟨k1, k2, k3⟩ := three_cells hW
  have c0 : W.cell? ⟨w1.heap.size, 3, none⟩ = some (.int .i64 1) := k1 _
  have c1 : W.cell? ⟨w1.heap.size, 4, none⟩ = some (.int .i64 0) := k1 _
  have c2 : W.cell? ⟨w1.heap.size, 5, none⟩ = some (.string ⟨#[]⟩) := k1 _
  have c3 : W.cell? ⟨w1.heap.size + 1, 1, none⟩ = some (.string ⟨#[111, 98, 106, 101, 99, 116]⟩) := k2 _
  have c4 : W.cell? ⟨w1.heap.size + 2, 1, none⟩ = some (.bool false) := k3 _
  have hbW : Below w.heap.size w W := by rw [← hW]; exact (((hb1.alloc hb1.size _).alloc (by have := hb1.size; simp; omega) _).alloc (by have := hb1.size; simp; omega) _)
  clear hW hb1 k1 k2 k3
  go_region_held3 (fun w' => Below w.heap.size w w' ∧ w'.cell? ⟨w1.heap.size, 3, none⟩ = some (.int .i64 1) ∧ w'.cell? ⟨w1.heap.size, 4, none⟩ = some (.int .i64 0) ∧ w'.cell? ⟨w1.heap.size, 5, none⟩ = some (.string ⟨#[]⟩) ∧ w'.cell? ⟨w1.heap.size + 1, 1, none⟩ = some (.string ⟨#[111, 98, 106, 101, 99, 116]⟩) ∧ w'.cell? ⟨w1.heap.size + 2, 1, none⟩ = some (.bool false))
    (first | exact ⟨hbW.drew, c0, c1, c2, c3, c4⟩ | (go_split_ands; exact ⟨bel_keep (by assumption) (by assumption), cell_keep (by assumption) (by assumption), cell_keep (by assumption) (by assumption), cell_keep (by assumption) (by assumption), cell_keep (by assumption) (by assumption), cell_keep (by assumption) (by assumption)⟩))
    (first
      | (go_at_call 9; refine (HR.out _).mono ?_; rintro e w2 ⟨rfl, hb2⟩)
      | (go_at_call 16; refine (H3.out _).mono ?_; rintro e w5 ⟨rfl, hb5⟩)
      | (go_at_call 18; (first | (with_reducible refine (H1.out _).mono ?_) | (with_reducible refine (H2.out _).mono ?_)); rintro e w3 ⟨rfl, hb3⟩))
  go_split_ands
  go_wp2
  go_ret
  exact ⟨rfl, by assumption⟩
set_option maxHeartbeats 2000000 in
set_option maxRecDepth 100000 in
theorem lawTypes_2 (w : World) (hT : Lt w) : Calls Tryd.prog 7 #[.int .i64 2] w fun e w' => e = .returned (.bool true) ∧ Below w.heap.size w w' := by
  have ha := fun w hT => alive_any w hT
  have hr : ∀ w, Calls Tryd.prog 9 #[V 2 0 ⟨#[]⟩] w fun e w' => e = .returned (.bool true) ∧ Below w.heap.size w w' := fun w => by
    have h := Right_any 2 0 ⟨#[]⟩ w (by decide)
    have e : rightF 2 0 ⟨#[]⟩ = true := by decide +kernel
    rw [e] at h
    exact h
  have h1 : ∀ w, Calls Tryd.prog 18 #[V 2 0 ⟨#[]⟩, .bool false] w fun e w' => e = .returned (.string ⟨#[98, 111, 111, 108, 101, 97, 110]⟩) ∧ Below w.heap.size w w' := fun w => type_any 2 0 ⟨#[]⟩ false w
  have h2 : ∀ w, Calls Tryd.prog 18 #[V 2 0 ⟨#[]⟩, .bool true] w fun e w' => e = .returned (.string ⟨#[98, 111, 111, 108, 101, 97, 110]⟩) ∧ Below w.heap.size w w' := fun w => type_any 2 0 ⟨#[]⟩ true w
  have h3 : ∀ w, Calls Tryd.prog 16 #[V 2 0 ⟨#[]⟩] w fun e w' => e = .returned (.bool false) ∧ Below w.heap.size w w' := fun w => by
    have h := truth_any 2 0 ⟨#[]⟩ w
    have e : truthF 2 0 ⟨#[]⟩ = false := by decide +kernel
    rw [e] at h
    exact h
  have HA := Lib.hid ha
  have HR := Lib.hid hr
  have H1 := Lib.hid h1
  have H2 := Lib.hid h2
  have H3 := Lib.hid h3
  clear ha hr h1 h2 h3
  go_enter Tryd.func7, Tryd.ntmps7
  go_wp2_with (go_at_call 8; refine (HA.out _ hT).mono ?_; rintro e w1 ⟨rfl, hb1⟩)
  generalize hW : World.alloc (World.alloc (World.alloc w1 _) _) _ = W
  obtain ⟨k1, k2, k3⟩ := three_cells hW
  have c0 : W.cell? ⟨w1.heap.size, 6, none⟩ = some (.int .i64 2) := k1 _
  have c1 : W.cell? ⟨w1.heap.size, 7, none⟩ = some (.int .i64 0) := k1 _
  have c2 : W.cell? ⟨w1.heap.size, 8, none⟩ = some (.string ⟨#[]⟩) := k1 _
  have c3 : W.cell? ⟨w1.heap.size + 1, 2, none⟩ = some (.string ⟨#[98, 111, 111, 108, 101, 97, 110]⟩) := k2 _
  have c4 : W.cell? ⟨w1.heap.size + 2, 2, none⟩ = some (.bool false) := k3 _
  have hbW : Below w.heap.size w W := by rw [← hW]; exact (((hb1.alloc hb1.size _).alloc (by have := hb1.size; simp; omega) _).alloc (by have := hb1.size; simp; omega) _)
  clear hW hb1 k1 k2 k3
  go_region_held3 (fun w' => Below w.heap.size w w' ∧ w'.cell? ⟨w1.heap.size, 6, none⟩ = some (.int .i64 2) ∧ w'.cell? ⟨w1.heap.size, 7, none⟩ = some (.int .i64 0) ∧ w'.cell? ⟨w1.heap.size, 8, none⟩ = some (.string ⟨#[]⟩) ∧ w'.cell? ⟨w1.heap.size + 1, 2, none⟩ = some (.string ⟨#[98, 111, 111, 108, 101, 97, 110]⟩) ∧ w'.cell? ⟨w1.heap.size + 2, 2, none⟩ = some (.bool false))
    (first | exact ⟨hbW.drew, c0, c1, c2, c3, c4⟩ | (go_split_ands; exact ⟨bel_keep (by assumption) (by assumption), cell_keep (by assumption) (by assumption), cell_keep (by assumption) (by assumption), cell_keep (by assumption) (by assumption), cell_keep (by assumption) (by assumption), cell_keep (by assumption) (by assumption)⟩))
    (first
      | (go_at_call 9; refine (HR.out _).mono ?_; rintro e w2 ⟨rfl, hb2⟩)
      | (go_at_call 16; refine (H3.out _).mono ?_; rintro e w5 ⟨rfl, hb5⟩)
      | (go_at_call 18; (first | (with_reducible refine (H1.out _).mono ?_) | (with_reducible refine (H2.out _).mono ?_)); rintro e w3 ⟨rfl, hb3⟩))
  go_split_ands
  go_wp2
  go_ret
  exact ⟨rfl, by assumption⟩
set_option maxHeartbeats 2000000 in
set_option maxRecDepth 100000 in
theorem lawTypes_3 (w : World) (hT : Lt w) : Calls Tryd.prog 7 #[.int .i64 3] w fun e w' => e = .returned (.bool true) ∧ Below w.heap.size w w' := by
  have ha := fun w hT => alive_any w hT
  have hr : ∀ w, Calls Tryd.prog 9 #[V 2 1 ⟨#[]⟩] w fun e w' => e = .returned (.bool true) ∧ Below w.heap.size w w' := fun w => by
    have h := Right_any 2 1 ⟨#[]⟩ w (by decide)
    have e : rightF 2 1 ⟨#[]⟩ = true := by decide +kernel
    rw [e] at h
    exact h
  have h1 : ∀ w, Calls Tryd.prog 18 #[V 2 1 ⟨#[]⟩, .bool false] w fun e w' => e = .returned (.string ⟨#[98, 111, 111, 108, 101, 97, 110]⟩) ∧ Below w.heap.size w w' := fun w => type_any 2 1 ⟨#[]⟩ false w
  have h2 : ∀ w, Calls Tryd.prog 18 #[V 2 1 ⟨#[]⟩, .bool true] w fun e w' => e = .returned (.string ⟨#[98, 111, 111, 108, 101, 97, 110]⟩) ∧ Below w.heap.size w w' := fun w => type_any 2 1 ⟨#[]⟩ true w
  have h3 : ∀ w, Calls Tryd.prog 16 #[V 2 1 ⟨#[]⟩] w fun e w' => e = .returned (.bool true) ∧ Below w.heap.size w w' := fun w => by
    have h := truth_any 2 1 ⟨#[]⟩ w
    have e : truthF 2 1 ⟨#[]⟩ = true := by decide +kernel
    rw [e] at h
    exact h
  have HA := Lib.hid ha
  have HR := Lib.hid hr
  have H1 := Lib.hid h1
  have H2 := Lib.hid h2
  have H3 := Lib.hid h3
  clear ha hr h1 h2 h3
  go_enter Tryd.func7, Tryd.ntmps7
  go_wp2_with (go_at_call 8; refine (HA.out _ hT).mono ?_; rintro e w1 ⟨rfl, hb1⟩)
  generalize hW : World.alloc (World.alloc (World.alloc w1 _) _) _ = W
  obtain ⟨k1, k2, k3⟩ := three_cells hW
  have c0 : W.cell? ⟨w1.heap.size, 9, none⟩ = some (.int .i64 2) := k1 _
  have c1 : W.cell? ⟨w1.heap.size, 10, none⟩ = some (.int .i64 1) := k1 _
  have c2 : W.cell? ⟨w1.heap.size, 11, none⟩ = some (.string ⟨#[]⟩) := k1 _
  have c3 : W.cell? ⟨w1.heap.size + 1, 3, none⟩ = some (.string ⟨#[98, 111, 111, 108, 101, 97, 110]⟩) := k2 _
  have c4 : W.cell? ⟨w1.heap.size + 2, 3, none⟩ = some (.bool true) := k3 _
  have hbW : Below w.heap.size w W := by rw [← hW]; exact (((hb1.alloc hb1.size _).alloc (by have := hb1.size; simp; omega) _).alloc (by have := hb1.size; simp; omega) _)
  clear hW hb1 k1 k2 k3
  go_region_held3 (fun w' => Below w.heap.size w w' ∧ w'.cell? ⟨w1.heap.size, 9, none⟩ = some (.int .i64 2) ∧ w'.cell? ⟨w1.heap.size, 10, none⟩ = some (.int .i64 1) ∧ w'.cell? ⟨w1.heap.size, 11, none⟩ = some (.string ⟨#[]⟩) ∧ w'.cell? ⟨w1.heap.size + 1, 3, none⟩ = some (.string ⟨#[98, 111, 111, 108, 101, 97, 110]⟩) ∧ w'.cell? ⟨w1.heap.size + 2, 3, none⟩ = some (.bool true))
    (first | exact ⟨hbW.drew, c0, c1, c2, c3, c4⟩ | (go_split_ands; exact ⟨bel_keep (by assumption) (by assumption), cell_keep (by assumption) (by assumption), cell_keep (by assumption) (by assumption), cell_keep (by assumption) (by assumption), cell_keep (by assumption) (by assumption), cell_keep (by assumption) (by assumption)⟩))
    (first
      | (go_at_call 9; refine (HR.out _).mono ?_; rintro e w2 ⟨rfl, hb2⟩)
      | (go_at_call 16; refine (H3.out _).mono ?_; rintro e w5 ⟨rfl, hb5⟩)
      | (go_at_call 18; (first | (with_reducible refine (H1.out _).mono ?_) | (with_reducible refine (H2.out _).mono ?_)); rintro e w3 ⟨rfl, hb3⟩))
  go_split_ands
  go_wp2
  go_ret
  exact ⟨rfl, by assumption⟩
set_option maxHeartbeats 2000000 in
set_option maxRecDepth 100000 in
theorem lawTypes_4 (w : World) (hT : Lt w) : Calls Tryd.prog 7 #[.int .i64 4] w fun e w' => e = .returned (.bool true) ∧ Below w.heap.size w w' := by
  have ha := fun w hT => alive_any w hT
  have hr : ∀ w, Calls Tryd.prog 9 #[V 3 0 ⟨#[]⟩] w fun e w' => e = .returned (.bool true) ∧ Below w.heap.size w w' := fun w => by
    have h := Right_any 3 0 ⟨#[]⟩ w (by decide)
    have e : rightF 3 0 ⟨#[]⟩ = true := by decide +kernel
    rw [e] at h
    exact h
  have h1 : ∀ w, Calls Tryd.prog 18 #[V 3 0 ⟨#[]⟩, .bool false] w fun e w' => e = .returned (.string ⟨#[110, 117, 109, 98, 101, 114]⟩) ∧ Below w.heap.size w w' := fun w => type_any 3 0 ⟨#[]⟩ false w
  have h2 : ∀ w, Calls Tryd.prog 18 #[V 3 0 ⟨#[]⟩, .bool true] w fun e w' => e = .returned (.string ⟨#[110, 117, 109, 98, 101, 114]⟩) ∧ Below w.heap.size w w' := fun w => type_any 3 0 ⟨#[]⟩ true w
  have h3 : ∀ w, Calls Tryd.prog 16 #[V 3 0 ⟨#[]⟩] w fun e w' => e = .returned (.bool false) ∧ Below w.heap.size w w' := fun w => by
    have h := truth_any 3 0 ⟨#[]⟩ w
    have e : truthF 3 0 ⟨#[]⟩ = false := by decide +kernel
    rw [e] at h
    exact h
  have HA := Lib.hid ha
  have HR := Lib.hid hr
  have H1 := Lib.hid h1
  have H2 := Lib.hid h2
  have H3 := Lib.hid h3
  clear ha hr h1 h2 h3
  go_enter Tryd.func7, Tryd.ntmps7
  go_wp2_with (go_at_call 8; refine (HA.out _ hT).mono ?_; rintro e w1 ⟨rfl, hb1⟩)
  generalize hW : World.alloc (World.alloc (World.alloc w1 _) _) _ = W
  obtain ⟨k1, k2, k3⟩ := three_cells hW
  have c0 : W.cell? ⟨w1.heap.size, 12, none⟩ = some (.int .i64 3) := k1 _
  have c1 : W.cell? ⟨w1.heap.size, 13, none⟩ = some (.int .i64 0) := k1 _
  have c2 : W.cell? ⟨w1.heap.size, 14, none⟩ = some (.string ⟨#[]⟩) := k1 _
  have c3 : W.cell? ⟨w1.heap.size + 1, 4, none⟩ = some (.string ⟨#[110, 117, 109, 98, 101, 114]⟩) := k2 _
  have c4 : W.cell? ⟨w1.heap.size + 2, 4, none⟩ = some (.bool false) := k3 _
  have hbW : Below w.heap.size w W := by rw [← hW]; exact (((hb1.alloc hb1.size _).alloc (by have := hb1.size; simp; omega) _).alloc (by have := hb1.size; simp; omega) _)
  clear hW hb1 k1 k2 k3
  go_region_held3 (fun w' => Below w.heap.size w w' ∧ w'.cell? ⟨w1.heap.size, 12, none⟩ = some (.int .i64 3) ∧ w'.cell? ⟨w1.heap.size, 13, none⟩ = some (.int .i64 0) ∧ w'.cell? ⟨w1.heap.size, 14, none⟩ = some (.string ⟨#[]⟩) ∧ w'.cell? ⟨w1.heap.size + 1, 4, none⟩ = some (.string ⟨#[110, 117, 109, 98, 101, 114]⟩) ∧ w'.cell? ⟨w1.heap.size + 2, 4, none⟩ = some (.bool false))
    (first | exact ⟨hbW.drew, c0, c1, c2, c3, c4⟩ | (go_split_ands; exact ⟨bel_keep (by assumption) (by assumption), cell_keep (by assumption) (by assumption), cell_keep (by assumption) (by assumption), cell_keep (by assumption) (by assumption), cell_keep (by assumption) (by assumption), cell_keep (by assumption) (by assumption)⟩))
    (first
      | (go_at_call 9; refine (HR.out _).mono ?_; rintro e w2 ⟨rfl, hb2⟩)
      | (go_at_call 16; refine (H3.out _).mono ?_; rintro e w5 ⟨rfl, hb5⟩)
      | (go_at_call 18; (first | (with_reducible refine (H1.out _).mono ?_) | (with_reducible refine (H2.out _).mono ?_)); rintro e w3 ⟨rfl, hb3⟩))
  go_split_ands
  go_wp2
  go_ret
  exact ⟨rfl, by assumption⟩
end Go.Proofs.YtadpkhneijoilaaDoor.Vals
