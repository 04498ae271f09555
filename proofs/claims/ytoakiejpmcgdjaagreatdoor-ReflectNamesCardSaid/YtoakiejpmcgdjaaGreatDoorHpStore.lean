/-
  store: an object is laid into memory.
-/
import Derived.Test.YtoakiejpmcgdjaaGreatDoorHpHeap
import Derived.OneCell
import Derived.Deep.Onto
namespace Go.Proofs.YtoakiejpmcgdjaaGreatDoor.Hp
open Go Go.RowKit Go.Maps Go.Shelf Go.Proofs.YtoakiejpmcgdjaaGreatDoor.Keys
set_option linter.unusedVariables false
set_option linter.unusedSimpArgs false
attribute [local go_sem ↓] ldE ldT bxT bxO bdO alE alT stE stT
attribute [local irreducible] ecs ncs hcs tcs ocs
attribute [local go_sem] run_bx run_alE run_alT run_bdO tcs_0 tcs_5 tcs_20 tcs_set5 tcs_set20 ocs_24

def cellsV (l : List Vl) : List Value := l.flatMap fun v => [.int .i64 v.k, .int .i64 v.n, .string v.s]
/-- How Clone ends. -/
def ClonePost (w : World) (vs : List Vl) (y : Ending) (w' : World) : Prop := ∃ a n c, y = .returned (.slice a n c) ∧ w'.ownsRow w.heap.size 30 3 (.slice a n c) vs.length (cellsV vs) ∧ Below w.heap.size w w'
theorem clone_nil' (w : World) : Calls Tryz.prog 60 #[.slice none 0 0] w (ClonePost w []) :=
  (clone_nil w).mono fun e w' ⟨h1, h2⟩ => by subst h1 h2; exact ⟨none, 0, 0, rfl, World.ownsRow_nil _ _ _ _, Below.refl _ _⟩
/-- An object lies in memory: its own part, its ring, its arguments. -/
structure ObjAt (w : World) (base ob pb mb n : Nat) (th : Th) (es : List En) (vs : List Vl) (ns : List Nd) : Prop where
  blk : Blk w ob (ocs th pb) 154
  props : th.props = .slice none 0 0
  args : ∃ a m c, th.args = .slice a m c
  obj : Obj1 w pb mb n ns
  es : ns.map (·.e) = es
  row : w.ownsRow base 30 3 th.args vs.length (cellsV vs)
  low : ∀ b ∈ blks pb ns, base ≤ b
  lowm : base ≤ mb
  lowo : base ≤ ob
/-- How store ends. -/
def StorePost (w : World) (th : Th) (es : List En) (vs : List Vl) (y : Ending) (w' : World) : Prop := ∃ ob pb mb ns a m c, y = .returned (ptr ob) ∧ ObjAt w' w.heap.size ob pb mb es.length { th with props := .slice none 0 0, args := .slice a m c } es vs ns ∧ Below w.heap.size w w'
theorem own_below {base : Nat} {e : TypeId} {size n : Nat} {v : Value} {xs : List Value} {w w' : World} (h : w.ownsRow base e size v n xs) (hb : Below w.heap.size w w') : w'.ownsRow base e size v n xs := by
  refine h.kept (row := none) ⟨hb.os, hb.tape, hb.output, hb.size, fun k hk _ => hb.block k hk⟩ ?_
  cases v.ownBlock <;> simp
theorem own_set {w : World} {base : Nat} {e t : TypeId} {size n b : Nat} {v : Value} {xs : List Value} {cs : Array Value} (h : w.ownsRow base e size v n xs) (hb : Blk w b cs t) (hte : t ≠ e) (i : Nat) (u : Value) : (w.setCell ⟨b, i, none⟩ u).ownsRow base e size v n xs := by
  refine ownsRow_setCell_other h ?_ u
  rcases h.2 with ⟨rfl, _⟩ | ⟨g, cap, cur, rfl, _, hgb, _⟩
  · simp [Value.ownBlock]
  · simp only [Value.ownBlock, ne_eq, Option.some.injEq]
    rintro rfl
    have := (show w.heap[g]? = _ from hb).symm.trans hgb
    simp at this
    exact hte this.2
theorem Obj1.set {w : World} {pb mb n b i : Nat} {ns : List Nd} {cs : Array Value} {t : TypeId} {u : Value} (h : Obj1 w pb mb n ns) (hb : Blk w b cs t) (h1 : t ≠ 162) (h2 : t ≠ 164) : Obj1 (w.setCell ⟨b, i, none⟩ u) pb mb n ns := by
  refine ⟨h.ring.same fun c hc => heap_setCell_other w _ c u (fun e => h.ring.notblk hb h1 h2 (by simp at e; exact e ▸ hc)), h.map.same (heap_setCell_other w _ mb u fun e => ?_)⟩
  obtain ⟨es, c, ho⟩ := h.map.obj
  simp at e
  rw [e, show w.heap[b]? = _ from hb] at ho
  cases ho
set_option maxRecDepth 100000 in
set_option maxHeartbeats 2000000 in
theorem store_any (th : Th) (pa : Option Addr) (pl pc : Nat) (aa : Option Addr) (al ac : Nat) (es : List En) (vs : List Vl) (w : World) (hp : th.props = .slice pa pl pc) (ha : th.args = .slice aa al ac)
    (hcoll : ∀ w', Below w.heap.size w w' → Calls Tryz.prog 71 #[.slice pa pl pc] w' (CollPost w' es)) (hcl : ∀ w', Below w.heap.size w w' → Calls Tryz.prog 60 #[.slice aa al ac] w' (ClonePost w' vs)) :
    Calls Tryz.prog 58 #[.agg (tcs th)] w (StorePost w th es vs) := by
  obtain ⟨w1, hw1⟩ : ∃ w1, w.alloc (.cells (tcs th) 100) = w1 := ⟨_, rfl⟩
  have k1 : w1.heap.size = w.heap.size + 1 := by rw [← hw1]; simp
  have b1 : Below w.heap.size w w1 := by rw [← hw1]; exact (Below.refl _ w).alloc (Nat.le_refl _) _
  have x1 : Blk w1 w.heap.size (tcs th) 100 := by rw [← hw1]; exact Blk.new w _ _
  have c5 : w1.cell? ⟨w.heap.size, 5, none⟩ = some (.slice pa pl pc) := by rw [x1.cell, tcs_5, hp]
  have h1 := hcoll w1 b1
  have HCL := Lib.hid hcl
  have B1 := Lib.hid b1
  have X1 := Lib.hid x1
  have HP := Lib.hid hp
  have HA := Lib.hid ha
  clear hcoll hcl b1 x1 hp ha
  go_enter Tryz.func58, Tryz.ntmps58
  go_wp2_with (go_at_call 71; refine h1.mono ?_; rintro e w2 ⟨pb, mb, ns, rfl, ho, hes, hlow, hmb, hb2⟩; refine Hid.out ?_)
  refine Lib.hid ?_
  have x2 := X1.out.call hb2
  have b2 := B1.out.trans (hb2.mono (by omega))
  have d5 : w2.cell? ⟨w.heap.size, 5, none⟩ = some (.slice pa pl pc) := by rw [x2.cell, tcs_5, HP.out]
  have f5 := x2.frozen 5
  obtain ⟨w3, hw3⟩ : ∃ w3, w2.setCell ⟨w.heap.size, 5, none⟩ (.slice none 0 0) = w3 := ⟨_, rfl⟩
  have x3 : Blk w3 w.heap.size (tcs { th with props := .slice none 0 0 }) 100 := by
    have := x2.set 5 (.slice none 0 0)
    rw [tcs_set5, hw3] at this
    exact this
  have b3 : Below w.heap.size w w3 := by rw [← hw3]; exact b2.setCell (p := ⟨w.heap.size, 5, none⟩) (Nat.le_refl _) _
  have o3 : Obj1 w3 pb mb es.length ns := by rw [← hw3]; exact ho.set x2 (by decide) (by decide)
  have c20 : w3.cell? ⟨w.heap.size, 20, none⟩ = some (.slice aa al ac) := by rw [x3.cell, tcs_20]; exact congrArg some HA.out
  have h3 := HCL.out w3 b3
  have O3 := Lib.hid o3
  have B3 := Lib.hid b3
  have X3 := Lib.hid x3
  have HES := Lib.hid hes
  have HLOW := Lib.hid hlow
  clear c5 h1 hw1 ho hlow hb2 x2 b2 o3 b3 x3 hes
  go_wp2_with (go_at_call 60; refine h3.mono ?_; rintro e w4 ⟨a, m, c, rfl, hrow, hb4⟩; refine Hid.out ?_)
  refine Lib.hid ?_
  have x4 := X3.out.call hb4
  have sz3 := B3.out.size
  have b4 := B3.out.trans (hb4.mono sz3)
  have d20 : w4.cell? ⟨w.heap.size, 20, none⟩ = some (.slice aa al ac) := by rw [x4.cell, tcs_20]; exact congrArg some HA.out
  have f20 := x4.frozen 20
  obtain ⟨w5, hw5⟩ : ∃ w5, w4.setCell ⟨w.heap.size, 20, none⟩ (.slice a m c) = w5 := ⟨_, rfl⟩
  have x5 : Blk w5 w.heap.size (tcs { th with props := .slice none 0 0, args := .slice a m c }) 100 := by
    have := x4.set 20 (.slice a m c)
    rw [tcs_set20, hw5] at this
    exact this
  have b5 : Below w.heap.size w w5 := by rw [← hw5]; exact b4.setCell (p := ⟨w.heap.size, 20, none⟩) (Nat.le_refl _) _
  have o5 : Obj1 w5 pb mb es.length ns := by rw [← hw5]; exact (O3.out.call hb4).set x4 (by decide) (by decide)
  have r5 : w5.ownsRow w.heap.size 30 3 (.slice a m c) vs.length (cellsV vs) := by rw [← hw5]; exact own_set ((hrow.mono sz3)) x4 (by decide) _ _
  have lt := run_ldT x5
  obtain ⟨th', hth⟩ : ∃ th', th' = ({ th with props := .slice none 0 0, args := .slice a m c } : Th) := ⟨_, rfl⟩
  rw [← hth] at lt
  have hbd := run_bdO w5 th' pb
  have O5 := Lib.hid o5
  have B5 := Lib.hid b5
  have R5 := Lib.hid r5
  have HT := Lib.hid hth
  clear c20 h3 d5 f5 hw3 hrow hb4 x4 b4 o5 b5 x5 r5 hth
  go_wp2
  go_ret
  have sz5 := B5.out.size
  refine ⟨w5.heap.size, pb, mb, ns, a, m, c, rfl, ⟨?_, rfl, ⟨_, _, _, rfl⟩, O5.out.old _, HES.out, R5.out.alloc _, fun b hb => ?_, ?_, sz5⟩, B5.out.alloc sz5 _⟩
  · have := Blk.new w5 (ocs th' pb) 154
    rw [← HT.out]
    exact this
  · have := HLOW.out b hb
    omega
  · omega
end Go.Proofs.YtoakiejpmcgdjaaGreatDoor.Hp
