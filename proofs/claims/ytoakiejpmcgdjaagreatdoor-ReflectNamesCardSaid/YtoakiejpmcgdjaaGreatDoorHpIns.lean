/-
  insert: a property goes into a ring.
-/
import Derived.Test.YtoakiejpmcgdjaaGreatDoorHpMap
import Derived.Deep.RegionWith
import Derived.WalkKit
namespace Go.Proofs.YtoakiejpmcgdjaaGreatDoor.Hp
open Go Go.RowKit Go.Maps Go.Proofs.YtoakiejpmcgdjaaGreatDoor.Keys
set_option linter.unusedVariables false
set_option linter.unusedSimpArgs false
attribute [local go_sem ↓] ldE bxE bxN bdN
attribute [local irreducible] ecs ncs hcs
attribute [local go_sem] run_bx run_bdN ecs_0 ecs_1 ncs_20 ncs_21 ncs_22 hcs_23

/-- The streams are as they were; no block has gone. -/
structure Fr (w w' : World) : Prop where
  os : w'.os = w.os
  tape : w'.tape = w.tape
  output : w'.output = w.output
  size : w.heap.size ≤ w'.heap.size
theorem Fr.refl (w : World) : Fr w w := ⟨rfl, rfl, rfl, Nat.le_refl _⟩
theorem Fr.trans {a b c : World} (h : Fr a b) (k : Fr b c) : Fr a c := ⟨k.os.trans h.os, k.tape.trans h.tape, k.output.trans h.output, Nat.le_trans h.size k.size⟩
theorem Fr.drew {a w : World} (h : Fr a w) : Fr a w.drew := ⟨h.os, h.tape, h.output, h.size⟩
theorem Fr.alloc {a w : World} (h : Fr a w) (o : Obj) : Fr a (w.alloc o) := h.trans ⟨rfl, rfl, rfl, by simp⟩
theorem Fr.set {a w : World} (h : Fr a w) (x : Addr) (v : Value) : Fr a (w.setCell x v) := h.trans ⟨rfl, rfl, rfl, by simp [World.setCell]⟩
theorem Fr.link {a w : World} (h : Fr a w) (x c : Nat) (f g : Value) : Fr a (link w x c f g) := (h.set _ _).set _ _
theorem Fr.turned {a w w' : World} {m : Nat} (h : Fr a w) (k : w.mapTurned w' m) : Fr a w' := h.trans ⟨k.grown.os, k.grown.tape, k.grown.output, k.grown.size⟩
theorem Fr.below {a w w' : World} {B : Nat} (h : Fr a w) (k : Below B w w') : Fr a w' := h.trans ⟨k.os, k.tape, k.output, k.size⟩
theorem Fr.grown {a w w' : World} {r : Option Nat} (h : Fr a w) (k : w.grownBy w' r) : Fr a w' := h.trans ⟨k.os, k.tape, k.output, k.size⟩
theorem link_cell (w : World) (a c : Nat) (f g : Value) (b i : Nat) (h0 : i ≠ 20) (h1 : i ≠ 21) : (link w a c f g).cell? ⟨b, i, none⟩ = w.cell? ⟨b, i, none⟩ := by
  unfold link
  rw [World.cell?_setCell_other _ _ _ _ (fun e => h0 (by cases e; rfl)), World.cell?_setCell_other _ _ _ _ (fun e => h1 (by cases e; rfl))]
theorem MapIs.drew {w : World} {m n : Nat} {f : KV → Option Nat} (h : MapIs w m n f) : MapIs w.drew m n f := h
theorem MapIs.old {w : World} {m n : Nat} {f : KV → Option Nat} (h : MapIs w m n f) (o : Obj) : MapIs (w.alloc o) m n f := h.same (heap_alloc_old w o h.lt)

/-- How insert ends. -/
def InsPost (w : World) (mb n A C : Nat) (f : KV → Option Nat) (e : En) (y : Ending) (w' : World) : Prop :=
  y = .returned (.tuple #[]) ∧ ∃ x, w.heap.size ≤ x ∧ Blk w' x (ncs e (ptr A) (ptr C) (.pointer (pto (f (ekey e))))) 162 ∧ MapIs w' mb (n + 1) (upd f (ekey e) (some x)) ∧
    (∀ b, b < w.heap.size → b ≠ mb → w'.heap[b]? = (link w A C (ptr x) (ptr x)).heap[b]?) ∧ Fr w w'

theorem link_heap {w w' : World} {a c b : Nat} {f g : Value} (h : w'.heap[b]? = w.heap[b]?) : (link w' a c f g).heap[b]? = (link w a c f g).heap[b]? := by
  unfold link
  simp only [World.setCell, Array.getElem?_modify, h]
theorem ins_post {w W1 W2 W3 w4 : World} {mb n A C : Nat} {f : KV → Option Nat} {e : En} {o1 : Obj} (h1 : w.alloc o1 = W1) (h2 : W1.alloc (.cells (ncs e (ptr A) (ptr C) (.pointer (pto (f (ekey e))))) 162) = W2)
    (h3 : link W2 A C (ptr (w.heap.size + 1)) (ptr (w.heap.size + 1)) = W3) (hA : A < w.heap.size) (hC : C < w.heap.size) (hmb : mb < w.heap.size) (hm : MapIs w4 mb (n + 1) (upd f (ekey e) (some (w.heap.size + 1)))) (ht : W3.drew.drew.drew.mapTurned w4 mb) :
    InsPost w mb n A C f e (.returned (.tuple #[])) w4 := by
  subst h1 h2 h3
  have e1 : (w.alloc o1).heap.size = w.heap.size + 1 := by simp
  have b2 := Blk.new (w.alloc o1) (ncs e (ptr A) (ptr C) (.pointer (pto (f (ekey e))))) 162
  rw [e1] at b2
  refine ⟨rfl, w.heap.size + 1, by omega, ?_, hm, fun b hb hne => ?_, ?_⟩
  · refine (turned_other ht (by omega)).trans ?_
    exact (link_other _ A C _ _ _ (by omega) (by omega)).trans b2
  · rw [turned_other ht hne]
    refine link_heap (w := w) ?_
    rw [heap_alloc_old _ _ (by rw [e1]; omega)]
    exact heap_alloc_old _ _ hb
  · refine Fr.turned ?_ ht
    exact ((((((Fr.refl w).alloc _).alloc _)).link _ _ _ _).drew).drew.drew

set_option maxRecDepth 100000 in
set_option maxHeartbeats 2000000 in
theorem insert_any (pb mb n A C : Nat) (f : KV → Option Nat) (e : En) (P Q vC : Value) (CA CC : Array Value) (tA tC : TypeId) (w : World) (hp : Blk w pb (hcs P Q mb) 164) (hA : Blk w A CA tA) (hA1 : CA[21]? = some (ptr C)) (hC : Blk w C CC tC) (hC1 : CC[20]? = some vC) (hm : MapIs w mb n f) (hn : n < 1000) (hk : Fine (ekey e)) :
    Calls Tryz.prog 82 #[ptr pb, ptr A, .agg (ecs e)] w (InsPost w mb n A C f e) := by
  obtain ⟨W1, hW1⟩ : ∃ W1, w.alloc (.cells (ecs e) 83) = W1 := ⟨_, rfl⟩
  have k1 : W1.heap.size = w.heap.size + 1 := by rw [← hW1]; simp
  have le : (Ld 83 (.pointer (some ⟨w.heap.size, 0, none⟩))).run Tryz.prog W1.drew = .ok (.agg (ecs e)) W1.drew := by
    rw [← hW1]; exact run_ldE (w := (w.alloc _).drew) (enAt_new w e _)
  have pA : W1.cell? ⟨A, 21, none⟩ = some (.pointer (some ⟨C, 0, none⟩)) := by rw [← hW1, (hA.old _).cell]; exact hA1
  have pm : W1.cell? ⟨pb, 23, none⟩ = some (.map (some mb)) := by rw [← hW1, (hp.old _).cell, hcs_23]
  have k0 : W1.cell? ⟨w.heap.size, 0, none⟩ = some (.string e.ks) := by rw [← hW1, (Blk.new w _ _).cell, ecs_0]
  have k1' : W1.cell? ⟨w.heap.size, 1, none⟩ = some (.int .i64 e.kn) := by rw [← hW1, (Blk.new w _ _).cell, ecs_1]
  have hm1 : MapIs W1.drew mb n f := by rw [← hW1]; exact (hm.old _).drew
  obtain ⟨R, hR⟩ : ∃ R, pto (f (ekey e)) = R := ⟨_, rfl⟩
  have hl : (Instr.lookup 159 (.map (some mb)) (.agg #[.string e.ks, .int .i64 e.kn]) false).run Tryz.prog W1.drew = .ok (.pointer R) W1.drew := by rw [← hR]; exact hm1.look hk
  obtain ⟨W2, hW2⟩ : ∃ W2, W1.alloc (.cells (ncs e (.pointer (some ⟨A, 0, none⟩)) (.pointer (some ⟨C, 0, none⟩)) (.pointer R)) 162) = W2 := ⟨_, rfl⟩
  have k2 : W2.heap.size = w.heap.size + 2 := by rw [← hW2]; simp [k1]
  have b2 : Blk W2 (w.heap.size + 1) (ncs e (ptr A) (ptr C) (.pointer R)) 162 := by
    have := Blk.new W1 (ncs e (ptr A) (ptr C) (.pointer R)) 162
    rw [k1] at this
    rw [← hW2]; exact this
  have old : ∀ b, b < w.heap.size → W2.heap[b]? = w.heap[b]? := fun b hb => by
    rw [← hW2, heap_alloc_old _ _ (by omega), ← hW1]
    exact heap_alloc_old _ _ hb
  have bA : Blk W2 A CA tA := (old A hA.lt).trans hA
  have bC : Blk W2 C CC tC := (old C hC.lt).trans hC
  have bp : Blk W2 pb (hcs P Q mb) 164 := (old pb hp.lt).trans hp
  have c20 : W2.cell? ⟨w.heap.size + 1, 20, none⟩ = some (.pointer (some ⟨A, 0, none⟩)) := by rw [b2.cell, ncs_20]
  have c21 : W2.cell? ⟨w.heap.size + 1, 21, none⟩ = some (.pointer (some ⟨C, 0, none⟩)) := by rw [b2.cell, ncs_21]
  have sA : W2.cell? ⟨A, 21, none⟩ = some (.pointer (some ⟨C, 0, none⟩)) := by rw [bA.cell]; exact hA1
  have sC : W2.cell? ⟨C, 20, none⟩ = some vC := by rw [bC.cell]; exact hC1
  have sA2 : (W2.setCell ⟨C, 20, none⟩ (.pointer (some ⟨w.heap.size + 1, 0, none⟩))).cell? ⟨A, 21, none⟩ = some (.pointer (some ⟨C, 0, none⟩)) := by rw [World.cell?_setCell_other _ _ _ _ (by simp)]; exact sA
  have sC2 : (W2.setCell ⟨A, 21, none⟩ (.pointer (some ⟨w.heap.size + 1, 0, none⟩))).cell? ⟨C, 20, none⟩ = some vC := by rw [World.cell?_setCell_other _ _ _ _ (by simp)]; exact sC
  have nA : A ≠ w.heap.size + 1 := by have := hA.lt; omega
  have nC : C ≠ w.heap.size + 1 := by have := hC.lt; omega
  have d21 : (W2.setCell ⟨A, 21, none⟩ (.pointer (some ⟨w.heap.size + 1, 0, none⟩))).cell? ⟨w.heap.size + 1, 21, none⟩ = some (.pointer (some ⟨C, 0, none⟩)) := by rw [World.cell?_setCell_other _ _ _ _ (by simp [nA])]; exact c21
  have d20 : (W2.setCell ⟨C, 20, none⟩ (.pointer (some ⟨w.heap.size + 1, 0, none⟩))).cell? ⟨w.heap.size + 1, 20, none⟩ = some (.pointer (some ⟨A, 0, none⟩)) := by rw [World.cell?_setCell_other _ _ _ _ (by simp [nC])]; exact c20
  have fA := bA.frozen 21
  have fC := bC.frozen 20
  obtain ⟨W3, hW3⟩ : ∃ W3, link W2 A C (ptr (w.heap.size + 1)) (ptr (w.heap.size + 1)) = W3 := ⟨_, rfl⟩
  have hlk1 : (W2.setCell ⟨A, 21, none⟩ (.pointer (some ⟨w.heap.size + 1, 0, none⟩))).setCell ⟨C, 20, none⟩ (.pointer (some ⟨w.heap.size + 1, 0, none⟩)) = W3 := hW3
  have hlk2 : (W2.setCell ⟨C, 20, none⟩ (.pointer (some ⟨w.heap.size + 1, 0, none⟩))).setCell ⟨A, 21, none⟩ (.pointer (some ⟨w.heap.size + 1, 0, none⟩)) = W3 := by rw [setCell_comm]; exact hW3
  have g0 : W3.cell? ⟨w.heap.size, 0, none⟩ = some (.string e.ks) := by rw [← hW3, link_cell _ _ _ _ _ _ _ (by omega) (by omega), ← hW2, World.cell?_alloc_lt _ _ _ (by show w.heap.size < _; omega)]; exact k0
  have g1 : W3.cell? ⟨w.heap.size, 1, none⟩ = some (.int .i64 e.kn) := by rw [← hW3, link_cell _ _ _ _ _ _ _ (by omega) (by omega), ← hW2, World.cell?_alloc_lt _ _ _ (by show w.heap.size < _; omega)]; exact k1'
  have g2 : W3.cell? ⟨pb, 23, none⟩ = some (.map (some mb)) := by rw [← hW3, link_cell _ _ _ _ _ _ _ (by omega) (by omega), bp.cell, hcs_23]
  have hm3 : MapIs W3.drew.drew.drew mb n f := by
    obtain ⟨es, c, ho⟩ := hm.obj
    refine hm.same ?_
    show W3.heap[mb]? = _
    have hob : W2.heap[mb]? = some (.map es c) := (old mb hm.lt).trans ho
    rw [← hW3, ho]
    have n1 : mb ≠ A := fun e => by rw [e, show W2.heap[A]? = _ from bA] at hob; cases hob
    have n2 : mb ≠ C := fun e => by rw [e, show W2.heap[C]? = _ from bC] at hob; cases hob
    rw [link_other _ _ _ _ _ _ n1 n2, hob]
  obtain ⟨w4, hst, hm4, ht4⟩ := hm3.store (by unfold maxLen; omega) hk (some (w.heap.size + 1))
  have hst' : (Instr.mapUpdate 159 (.map (some mb)) (.agg #[.string e.ks, .int .i64 e.kn]) (.pointer (some ⟨w.heap.size + 1, 0, none⟩))).run Tryz.prog W3.drew.drew.drew = .ok () w4 := hst
  have hend : Hid (InsPost w mb n A C f e (.returned (.tuple #[])) w4) := by
    refine ins_post hW1 (by rw [hR]; exact hW2) hW3 hA.lt hC.lt hm.lt hm4 ht4
  clear nA nC hst hm4 ht4 hm3 hW3 bp bA bC old b2 hm1 hm hC hA hp hR hC1 hA1 hk hn
  go_enter Tryz.func82, Tryz.ntmps82
  go_wp2
  go_region
  go_wp2
  go_region
  all_goals go_wp2
  all_goals go_region
  all_goals go_wp2
  all_goals go_end0
  all_goals exact hend.out
end Go.Proofs.YtoakiejpmcgdjaaGreatDoor.Hp
