/-
  The heap's functions, as far as they do not look into a ring.
-/
import Derived.Test.YtoakiejpmcgdjaaGreatDoorHpEnt
namespace Go.Proofs.YtoakiejpmcgdjaaGreatDoor.Hp
open Go Go.RowKit Go.Maps Go.Shelf Go.Proofs.YtoakiejpmcgdjaaGreatDoor.Keys
set_option linter.unusedVariables false
set_option linter.unusedSimpArgs false
attribute [local go_sem ↓] ldE ldT bxT bxO bdO alE alT stE stT
attribute [local irreducible] ecs ncs hcs tcs ocs
attribute [local go_sem] run_bx run_alE run_alT run_bdO tcs_0 tcs_5 tcs_20 tcs_set5 tcs_set20 ocs_24

/-- A heap's own cells. -/
abbrev hp (room : Int) (objs : Value) (sy : Int) : Array Value := #[.int .i64 room, objs, .int .i64 sy]
theorem new_any (n : Int) (w : World) : Calls Tryz.prog 11 #[.int .i64 n] w fun e w' => e = .returned (.pointer (some ⟨w.heap.size, 0, none⟩)) ∧ w' = w.alloc (.cells (hp n nilS 0) 57) := by
  go_enter Tryz.func11, Tryz.ntmps11
  go_wp2
  go_ret
  exact ⟨rfl, rfl⟩
theorem wrap_one {s : Int} (h0 : 0 ≤ s) (h1 : s ≤ 1000000) : wrap64 (s + 1) = s + 1 := by unfold wrap64; omega
theorem len_any (hb : Nat) (room : Int) (a : Option Addr) (n c : Nat) (sy : Int) (w : World) (h : Blk w hb (hp room (.slice a n c) sy) 57) :
    Calls Tryz.prog 177 #[ptr hb] w fun e w' => e = .returned (.int .i64 n) ∧ w' = w := by
  have c1 : w.cell? ⟨hb, 1, none⟩ = some (.slice a n c) := h.cell 1
  go_enter Tryz.func177, Tryz.ntmps177
  go_wp2
  go_ret
  exact ⟨rfl, rfl⟩
theorem object_none (hb : Nat) (room : Int) (a : Option Addr) (n c : Nat) (sy o : Int) (w : World) (h : Blk w hb (hp room (.slice a n c) sy) 57) (ho : o < 0 ∨ (n : Int) ≤ o) :
    Calls Tryz.prog 70 #[ptr hb, .int .i64 o] w fun e w' => e = .returned (.pointer none) ∧ w' = w := by
  have c1 : w.cell? ⟨hb, 1, none⟩ = some (.slice a n c) := h.cell 1
  by_cases h0 : o < 0
  · go_enter Tryz.func70, Tryz.ntmps70
    go_wp2
    go_ret
    exact ⟨rfl, rfl⟩
  · have h1 : (n : Int) ≤ o := by omega
    have h0' : 0 ≤ o := by omega
    clear h0 ho
    go_enter Tryz.func70, Tryz.ntmps70
    go_wp2
    go_ret
    exact ⟨rfl, rfl⟩
theorem object_some (hb rb ob : Nat) (room : Int) (n c o : Nat) (sy : Int) (w : World) (h : Blk w hb (hp room (.slice (some ⟨rb, 0, none⟩) n c) sy) 57) (ho : o < n) (hc : w.cell? ⟨rb, o, none⟩ = some (ptr ob)) :
    Calls Tryz.prog 70 #[ptr hb, .int .i64 o] w fun e w' => e = .returned (ptr ob) ∧ w' = w := by
  have c1 : w.cell? ⟨hb, 1, none⟩ = some (.slice (some ⟨rb, 0, none⟩) n c) := h.cell 1
  have h1 : (o : Int) < n := by omega
  have h2 : decide ((n : Int) ≤ o) = false := by simp; omega
  have h3 : decide ((o : Int) < 0) = false := by simp
  go_enter Tryz.func70, Tryz.ntmps70
  go_wp2
  go_ret
  exact ⟨rfl, rfl⟩
theorem run_eqS (d : Nat) (a : Option Addr) (n c : Nat) (w : World) : (Op.equalIn (d + 1) 45 (.slice a n c) (.slice none 0 0)).run Tryz.prog w = .ok a.isNone w := by
  cases a <;> simp [Op.equalIn, run_underlying Tryz.underlying45]
theorem run_eqlS (a : Option Addr) (n c : Nat) (w : World) : (binOp .eql 45 (.slice a n c) (.slice none 0 0)).run Tryz.prog w = .ok (.bool a.isNone) w := by
  simp only [binOp]
  simp [Op.equal, Op.maxDepth, run_eqS 9999]
theorem clone_nil (w : World) : Calls Tryz.prog 60 #[.slice none 0 0] w fun e w' => e = .returned (.slice none 0 0) ∧ w' = w := by
  have h0 := run_eqlS none 0 0 w
  go_enter Tryz.func60, Tryz.ntmps60
  go_wp2
  go_ret
  exact ⟨rfl, rfl⟩
end Go.Proofs.YtoakiejpmcgdjaaGreatDoor.Hp
