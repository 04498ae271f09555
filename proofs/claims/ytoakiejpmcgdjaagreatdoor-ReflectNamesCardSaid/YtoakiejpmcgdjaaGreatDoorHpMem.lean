/-
  Objects and properties in memory: their shapes, a whole one read, laid, boxed and built.
-/
import Derived.Test.YtoakiejpmcgdjaaGreatDoorHpBase
import Derived.Laws.Tables
import Derived.Laws.Rows
import Derived.Laws.Cells
import Derived.Laws.StructEq
import Derived.Laws.ResultCell
import Derived.Laws.OwnMore
import Derived.Deep.MidRow
import Derived.Great.BuildSlice
import Derived.Maps.AppendAt
import Derived.OwnWalk
import Derived.Maps.OwnSet
import Derived.KernelRfl
import Derived.WalkArith
import Derived.Lib.Hide
namespace Go.Proofs.YtoakiejpmcgdjaaGreatDoor.Hp
open Go Go.RowKit Go.Maps Go.Proofs.YtoakiejpmcgdjaaGreatDoor.Keys
set_option linter.unusedVariables false
set_option linter.unusedSimpArgs false

/-- A value; a descriptor; a property. -/
structure Vl where
  k : Int
  n : Int
  s : ByteArray
structure Ds where
  hv : Bool
  hg : Bool
  hs : Bool
  hw : Bool
  he : Bool
  hc : Bool
  v : Vl
  g : Vl
  s : Vl
  w : Bool
  e : Bool
  c : Bool
structure En where
  ks : ByteArray
  kn : Int
  d : Ds
/-- An object's own part: its lists as slices. -/
structure Th where
  kind : Int
  proto : Vl
  ext : Bool
  props : Value
  code : Int
  n : Int
  v : Vl
  tg : Vl
  hd : Vl
  ths : Vl
  args : Value
  calls : Bool
  makes : Bool
  env : Int
def zeroV : Vl := ⟨0, 0, ⟨#[]⟩⟩
def zeroD : Ds := ⟨false, false, false, false, false, false, zeroV, zeroV, zeroV, false, false, false⟩
def zeroE : En := ⟨⟨#[]⟩, 0, zeroD⟩
abbrev nilS : Value := .slice none 0 0
def zeroT : Th := ⟨0, zeroV, false, nilS, 0, 0, zeroV, zeroV, zeroV, zeroV, nilS, false, false, 0⟩
def ekey (e : En) : KV := (e.ks, e.kn)
def dcs (d : Ds) : Array Value := #[.bool d.hv, .bool d.hg, .bool d.hs, .bool d.hw, .bool d.he, .bool d.hc, .int .i64 d.v.k, .int .i64 d.v.n, .string d.v.s, .int .i64 d.g.k, .int .i64 d.g.n, .string d.g.s, .int .i64 d.s.k, .int .i64 d.s.n, .string d.s.s, .bool d.w, .bool d.e, .bool d.c]
def ecs (e : En) : Array Value := #[.string e.ks, .int .i64 e.kn, .bool e.d.hv, .bool e.d.hg, .bool e.d.hs, .bool e.d.hw, .bool e.d.he, .bool e.d.hc, .int .i64 e.d.v.k, .int .i64 e.d.v.n, .string e.d.v.s, .int .i64 e.d.g.k, .int .i64 e.d.g.n, .string e.d.g.s, .int .i64 e.d.s.k, .int .i64 e.d.s.n, .string e.d.s.s, .bool e.d.w, .bool e.d.e, .bool e.d.c]
def tcs (t : Th) : Array Value := #[.int .i64 t.kind, .int .i64 t.proto.k, .int .i64 t.proto.n, .string t.proto.s, .bool t.ext, t.props, .int .i64 t.code, .int .i64 t.n, .int .i64 t.v.k, .int .i64 t.v.n, .string t.v.s, .int .i64 t.tg.k, .int .i64 t.tg.n, .string t.tg.s, .int .i64 t.hd.k, .int .i64 t.hd.n, .string t.hd.s, .int .i64 t.ths.k, .int .i64 t.ths.n, .string t.ths.s, t.args, .bool t.calls, .bool t.makes, .int .i64 t.env]
abbrev ptr (b : Nat) : Value := .pointer (some ⟨b, 0, none⟩)
abbrev nilP : Value := .pointer none
/-- An object: its own part and its properties. -/
def ocs (t : Th) (pb : Nat) : Array Value := #[.int .i64 t.kind, .int .i64 t.proto.k, .int .i64 t.proto.n, .string t.proto.s, .bool t.ext, t.props, .int .i64 t.code, .int .i64 t.n, .int .i64 t.v.k, .int .i64 t.v.n, .string t.v.s, .int .i64 t.tg.k, .int .i64 t.tg.n, .string t.tg.s, .int .i64 t.hd.k, .int .i64 t.hd.n, .string t.hd.s, .int .i64 t.ths.k, .int .i64 t.ths.n, .string t.ths.s, t.args, .bool t.calls, .bool t.makes, .int .i64 t.env, ptr pb]
/-- A place of a ring: a property, the pointers before it, after it, to the next one of its key. -/
def ncs (e : En) (p q : Value) (a : Value) : Array Value := #[.string e.ks, .int .i64 e.kn, .bool e.d.hv, .bool e.d.hg, .bool e.d.hs, .bool e.d.hw, .bool e.d.he, .bool e.d.hc, .int .i64 e.d.v.k, .int .i64 e.d.v.n, .string e.d.v.s, .int .i64 e.d.g.k, .int .i64 e.d.g.n, .string e.d.g.s, .int .i64 e.d.s.k, .int .i64 e.d.s.n, .string e.d.s.s, .bool e.d.w, .bool e.d.e, .bool e.d.c, p, q, a]
/-- The head of a ring: the place between the last and the first; the map. -/
def hcs (p q : Value) (m : Nat) : Array Value := #[.string ⟨#[]⟩, .int .i64 0, .bool false, .bool false, .bool false, .bool false, .bool false, .bool false, .int .i64 0, .int .i64 0, .string ⟨#[]⟩, .int .i64 0, .int .i64 0, .string ⟨#[]⟩, .int .i64 0, .int .i64 0, .string ⟨#[]⟩, .bool false, .bool false, .bool false, p, q, nilP, .map (some m)]
theorem ecs_0 (e : En) : (ecs e)[0]? = some (.string e.ks) := rfl
theorem ecs_1 (e : En) : (ecs e)[1]? = some (.int .i64 e.kn) := rfl
theorem ecs_10 (e : En) : (ecs e)[10]? = some (.string e.d.v.s) := rfl
theorem ecs_size (e : En) : (ecs e).size = 20 := rfl
theorem ecs_list (e : En) : (ecs e).toList.length = 20 := rfl
theorem ecs_one (e : En) : (ecs e).all (·.oneCell') = true := by simp [ecs, Value.oneCell']
theorem ecs_one' (e : En) : ∀ u ∈ (ecs e).toList, u.oneCell' = true := fun u hu => by
  have h := ecs_one e
  rw [Array.all_eq_true_iff_forall_mem] at h
  exact h u (by simpa using hu)
theorem dcs_size (d : Ds) : (dcs d).size = 18 := rfl
theorem dcs_one (d : Ds) : (dcs d).all (·.oneCell') = true := by simp [dcs, Value.oneCell']
theorem tcs_size (t : Th) : (tcs t).size = 24 := rfl
theorem ocs_size (t : Th) (pb : Nat) : (ocs t pb).size = 25 := rfl
/-- Its lists are slices. -/
def Th.ok (t : Th) : Prop := (∃ a n c, t.props = .slice a n c) ∧ ∃ a n c, t.args = .slice a n c
theorem tcs_one {t : Th} (h : t.ok) : (tcs t).all (·.oneCell') = true := by
  obtain ⟨⟨a, n, c, h1⟩, ⟨a', n', c', h2⟩⟩ := h
  unfold tcs
  rw [h1, h2]
  simp [Value.oneCell']
theorem zeroT_ok : zeroT.ok := ⟨⟨_, _, _, rfl⟩, ⟨_, _, _, rfl⟩⟩
theorem tcs_0 (t : Th) : (tcs t)[0]? = some (.int .i64 t.kind) := rfl
theorem tcs_5 (t : Th) : (tcs t)[5]? = some t.props := rfl
theorem tcs_20 (t : Th) : (tcs t)[20]? = some t.args := rfl
theorem tcs_set5 (t : Th) (v : Value) : (tcs t).setIfInBounds 5 v = tcs { t with props := v } := rfl
theorem tcs_set20 (t : Th) (v : Value) : (tcs t).setIfInBounds 20 v = tcs { t with args := v } := rfl
theorem ocs_24 (t : Th) (pb : Nat) : (ocs t pb)[24]? = some (ptr pb) := rfl
theorem ocs_tcs (t : Th) (pb : Nat) : (ocs t pb).toList = (tcs t).toList ++ [ptr pb] := rfl
theorem ncs_20 (e : En) (p q a : Value) : (ncs e p q a)[20]? = some p := rfl
theorem ncs_21 (e : En) (p q a : Value) : (ncs e p q a)[21]? = some q := rfl
theorem ncs_22 (e : En) (p q a : Value) : (ncs e p q a)[22]? = some a := rfl
theorem ncs_set20 (e : En) (p q a v : Value) : (ncs e p q a).setIfInBounds 20 v = ncs e v q a := rfl
theorem ncs_set21 (e : En) (p q a v : Value) : (ncs e p q a).setIfInBounds 21 v = ncs e p v a := rfl
theorem ncs_ecs (e : En) (p q a : Value) : (ncs e p q a).toList = (ecs e).toList ++ [p, q, a] := rfl
theorem ncs_size (e : En) (p q a : Value) : (ncs e p q a).size = 23 := rfl
theorem hcs_20 (p q : Value) (m : Nat) : (hcs p q m)[20]? = some p := rfl
theorem hcs_21 (p q : Value) (m : Nat) : (hcs p q m)[21]? = some q := rfl
theorem hcs_23 (p q : Value) (m : Nat) : (hcs p q m)[23]? = some (.map (some m)) := rfl
theorem hcs_set20 (p q v : Value) (m : Nat) : (hcs p q m).setIfInBounds 20 v = hcs v q m := rfl
theorem hcs_set21 (p q v : Value) (m : Nat) : (hcs p q m).setIfInBounds 21 v = hcs p v m := rfl
theorem hcs_size (p q : Value) (m : Nat) : (hcs p q m).size = 24 := rfl

/-! ### Blocks -/
/-- A block that may be written: its cells. -/
def Blk (w : World) (b : Nat) (cs : Array Value) (t : TypeId) : Prop := w.heap[b]? = some (.cells cs t (0, 0))
theorem Blk.lt {w : World} {b : Nat} {cs : Array Value} {t : TypeId} (h : Blk w b cs t) : b < w.heap.size := (Array.getElem?_eq_some_iff.1 h).1
theorem Blk.cell {w : World} {b : Nat} {cs : Array Value} {t : TypeId} (h : Blk w b cs t) (i : Nat) : w.cell? ⟨b, i, none⟩ = cs[i]? := cell_of_row w b i cs t (0, 0) h
theorem Blk.frozen {w : World} {b : Nat} {cs : Array Value} {t : TypeId} (h : Blk w b cs t) (i : Nat) : w.frozen? ⟨b, i, none⟩ = false := frozen_of_row w b i cs t h
theorem Blk.new (w : World) (cs : Array Value) (t : TypeId) : Blk (w.alloc (.cells cs t)) w.heap.size cs t := heap_alloc_new w _
theorem Blk.old {w : World} {b : Nat} {cs : Array Value} {t : TypeId} (h : Blk w b cs t) (o : Obj) : Blk (w.alloc o) b cs t := (heap_alloc_old w o h.lt).trans h
theorem Blk.drew {w : World} {b : Nat} {cs : Array Value} {t : TypeId} (h : Blk w b cs t) : Blk w.drew b cs t := h
theorem Blk.set {w : World} {b : Nat} {cs : Array Value} {t : TypeId} (h : Blk w b cs t) (i : Nat) (v : Value) : Blk (w.setCell ⟨b, i, none⟩ v) b (cs.setIfInBounds i v) t := heap_setCell_same w b i cs t v h
theorem Blk.other {w : World} {b : Nat} {cs : Array Value} {t : TypeId} (h : Blk w b cs t) (a : Addr) (v : Value) (hne : b ≠ a.block) : Blk (w.setCell a v) b cs t := (heap_setCell_other w a b v hne).trans h
theorem Blk.below {w w' : World} {B b : Nat} {cs : Array Value} {t : TypeId} (h : Blk w b cs t) (hb : Below B w w') (hlt : b < B) : Blk w' b cs t := (hb.block b hlt).trans h
theorem Blk.call {w w' : World} {b : Nat} {cs : Array Value} {t : TypeId} (h : Blk w b cs t) (hb : Below w.heap.size w w') : Blk w' b cs t := h.below hb h.lt
theorem Blk.grown {w w' : World} {b : Nat} {cs : Array Value} {t : TypeId} {row : Option Nat} (h : Blk w b cs t) (hg : w.grownBy w' row) (hne : some b ≠ row) : Blk w' b cs t := (hg.block b h.lt hne).trans h

/-! ### Whole ones read, laid, boxed, built -/
def Ld (T : TypeId) (v : Value) : Sem Value := Instr.loadAt T v
def St (T : TypeId) (p v : Value) : Sem Unit := Instr.storeAt T p v
def Al (T : TypeId) : Sem Value := Instr.alloc T true (.tuple #[])
def Bx (T : TypeId) (v : Value) : Sem Value := Instr.box T v
def Bd (T : TypeId) (ps : Array (Nat × Value)) : Sem Value := Instr.build T ps
theorem ldE (v : Value) : Instr.loadAt 83 v = Ld 83 v := (rfl)
theorem ldT (v : Value) : Instr.loadAt 100 v = Ld 100 v := (rfl)
theorem ldD (v : Value) : Instr.loadAt 32 v = Ld 32 v := (rfl)
theorem stE (p v : Value) : Instr.storeAt 83 p v = St 83 p v := (rfl)
theorem stT (p v : Value) : Instr.storeAt 100 p v = St 100 p v := (rfl)
theorem stD (p v : Value) : Instr.storeAt 32 p v = St 32 p v := (rfl)
theorem alE : Instr.alloc 83 true (.tuple #[]) = Al 83 := (rfl)
theorem alT : Instr.alloc 100 true (.tuple #[]) = Al 100 := (rfl)
theorem alD : Instr.alloc 32 true (.tuple #[]) = Al 32 := (rfl)
theorem bxE (v : Value) : Instr.box 83 v = Bx 83 v := (rfl)
theorem bxT (v : Value) : Instr.box 100 v = Bx 100 v := (rfl)
theorem bxO (v : Value) : Instr.box 154 v = Bx 154 v := (rfl)
theorem bxN (v : Value) : Instr.box 162 v = Bx 162 v := (rfl)
theorem bxH (v : Value) : Instr.box 164 v = Bx 164 v := (rfl)
theorem bdT (ps : Array (Nat × Value)) : Instr.build 100 ps = Bd 100 ps := (rfl)
theorem bdO (ps : Array (Nat × Value)) : Instr.build 154 ps = Bd 154 ps := (rfl)
theorem bdN (ps : Array (Nat × Value)) : Instr.build 162 ps = Bd 162 ps := (rfl)
theorem bdH (ps : Array (Nat × Value)) : Instr.build 164 ps = Bd 164 ps := (rfl)

theorem infoE : (Tryz.prog.info? 83).map (fun i => (i.zero, i.size, i.bytes)) = some (some (.agg (ecs zeroE)), 20, 136) := by kernel_rfl
theorem infoT : (Tryz.prog.info? 100).map (fun i => (i.zero, i.size)) = some (some (.agg (tcs zeroT)), 24) := by kernel_rfl
theorem infoD : (Tryz.prog.info? 32).map (fun i => (i.zero, i.size)) = some (some (.agg (dcs zeroD)), 18) := by kernel_rfl
theorem sizeE : (Tryz.prog.info? 83).map (·.size) = some 20 := by kernel_rfl
theorem sizeT : (Tryz.prog.info? 100).map (·.size) = some 24 := by kernel_rfl
theorem sizeD : (Tryz.prog.info? 32).map (·.size) = some 18 := by kernel_rfl
theorem run_bx (T : TypeId) (cs : Array Value) (w : World) : (Bx T (.agg cs)).run Tryz.prog w = .ok (ptr w.heap.size) (w.alloc (.cells cs T)) := by
  unfold Bx
  simp [Instr.box, newVar, newRow, Value.cells, go_sem, ptr]
theorem run_al {T : TypeId} {z : Value} {n : Nat} (hi : (Tryz.prog.info? T).map (fun i => (i.zero, i.size)) = some (some z, n)) (w : World) : (Al T).run Tryz.prog w = .ok (ptr w.heap.size) (w.alloc (.cells z.cells T)) := by
  cases hq : Tryz.prog.info? T with
  | none => rw [hq] at hi; cases hi
  | some i =>
    rw [hq] at hi
    simp at hi
    unfold Al
    simp [Instr.alloc, zeroValue, typeInfo, hq, hi.1, newVar, newRow, go_sem, ptr]
theorem run_alE (w : World) : (Al 83).run Tryz.prog w = .ok (ptr w.heap.size) (w.alloc (.cells (ecs zeroE) 83)) := run_al (z := .agg (ecs zeroE)) (n := 20) (by kernel_rfl) w
theorem run_alT (w : World) : (Al 100).run Tryz.prog w = .ok (ptr w.heap.size) (w.alloc (.cells (tcs zeroT) 100)) := run_al infoT w
theorem run_alD (w : World) : (Al 32).run Tryz.prog w = .ok (ptr w.heap.size) (w.alloc (.cells (dcs zeroD) 32)) := run_al infoD w
/-- A whole one lies at an address. -/
def enAt (w : World) (b o : Nat) (e : En) : Prop := w.rangeAt b o (ecs e).toList
theorem run_ldE {w : World} {b o : Nat} {e : En} (h : enAt w b o e) : (Ld 83 (.pointer (some ⟨b, o, none⟩))).run Tryz.prog w = .ok (.agg (ecs e)) w := by
  have := run_loadAt_mid (P := Tryz.prog) w b o 83 (ecs e).toList _ h Tryz.underlying83 rfl sizeE
  simpa [Ld] using this
/-- The head of a block. -/
theorem Blk.range {w : World} {b : Nat} {cs : Array Value} {t : TypeId} (h : Blk w b cs t) {l r : List Value} (e : cs.toList = l ++ r) : w.rangeAt b 0 l := fun j v hv => by
  have hj : j < l.length := (List.getElem?_eq_some_iff.1 hv).1
  rw [Nat.zero_add, h.cell, ← Array.getElem?_toList, e, List.getElem?_append_left hj]
  exact hv
theorem run_ldR {w : World} {b : Nat} {t : Th} (h : w.rangeAt b 0 (tcs t).toList) : (Ld 100 (.pointer (some ⟨b, 0, none⟩))).run Tryz.prog w = .ok (.agg (tcs t)) w := by
  have := run_loadAt_mid (P := Tryz.prog) w b 0 100 _ _ h Tryz.underlying100 rfl sizeT
  simpa [Ld] using this
theorem run_ldT {w : World} {b : Nat} {t : Th} {T : TypeId} (h : Blk w b (tcs t) T) : (Ld 100 (.pointer (some ⟨b, 0, none⟩))).run Tryz.prog w = .ok (.agg (tcs t)) w := run_ldR (h.range (r := []) (by simp))
theorem run_ldO {w : World} {b : Nat} {t : Th} {pb : Nat} {T : TypeId} (h : Blk w b (ocs t pb) T) : (Ld 100 (.pointer (some ⟨b, 0, none⟩))).run Tryz.prog w = .ok (.agg (tcs t)) w := run_ldR (h.range (ocs_tcs t pb))
/-- A whole block is written anew. -/
theorem setRow_new (w : World) (c cs : Array Value) (t : TypeId) : (w.alloc (.cells c t)).setRow w.heap.size cs = w.alloc (.cells cs t) := by
  unfold World.setRow World.alloc
  simp only
  congr 1
  apply Array.ext_getElem?
  intro i
  rw [Array.getElem?_modify]
  by_cases h : w.heap.size = i
  · subst h
    simp
  · have h' : ¬ i = w.heap.size := fun e => h e.symm
    simp [h, h', Array.getElem?_push]
theorem run_st_row {w : World} {b : Nat} {T t : TypeId} {old cs : Array Value} (h : Blk w b old t) (hi : (Tryz.prog.info? T).map (·.size) = some cs.size) (hs : old.size = cs.size) (h1 : cs.all (·.oneCell') = true) : (St T (.pointer (some ⟨b, 0, none⟩)) (.agg cs)).run Tryz.prog w = .ok () (w.setRow b cs) := by
  have h := run_storeVar_row (P := Tryz.prog) w b t T old cs h hi hs h1
  unfold St
  simp only [Instr.storeAt, Instr.sureAddr, Sem.run_bind, Sem.run_pure, Result.andThen_ok, h]
theorem run_stE (w : World) (e o : En) : (St 83 (.pointer (some ⟨w.heap.size, 0, none⟩)) (.agg (ecs e))).run Tryz.prog (w.alloc (.cells (ecs o) 83)) = .ok () (w.alloc (.cells (ecs e) 83)) := by
  rw [run_st_row (Blk.new w (ecs o) _) (by rw [ecs_size]; exact sizeE) (by rw [ecs_size, ecs_size]) (ecs_one e), setRow_new]
theorem run_stT (w : World) (e o : Th) (h : e.ok) : (St 100 (.pointer (some ⟨w.heap.size, 0, none⟩)) (.agg (tcs e))).run Tryz.prog (w.alloc (.cells (tcs o) 100)) = .ok () (w.alloc (.cells (tcs e) 100)) := by
  rw [run_st_row (Blk.new w (tcs o) _) (by rw [tcs_size]; exact sizeT) (by rw [tcs_size, tcs_size]) (tcs_one h), setRow_new]
theorem run_stD (w : World) (e o : Ds) : (St 32 (.pointer (some ⟨w.heap.size, 0, none⟩)) (.agg (dcs e))).run Tryz.prog (w.alloc (.cells (dcs o) 32)) = .ok () (w.alloc (.cells (dcs e) 32)) := by
  rw [run_st_row (Blk.new w (dcs o) _) (by rw [dcs_size]; exact sizeD) (by rw [dcs_size, dcs_size]) (dcs_one e), setRow_new]
theorem Blk.row {w : World} {b : Nat} {old : Array Value} {t : TypeId} (h : Blk w b old t) (cs : Array Value) : Blk (w.setRow b cs) b cs t := setRow_heap w b old cs t _ h
theorem Blk.row_other {w : World} {b c : Nat} {old : Array Value} {t : TypeId} (h : Blk w b old t) (cs : Array Value) (hne : b ≠ c) : Blk (w.setRow c cs) b old t := (setRow_other w c b cs hne).trans h
theorem enAt_new (w : World) (e : En) (t : TypeId) : enAt (w.alloc (.cells (ecs e) t)) w.heap.size 0 e := fun j v hv => by
  rw [Nat.zero_add, (Blk.new w (ecs e) t).cell]
  simpa using hv
theorem enAt_below {B : Nat} {w w' : World} {b o : Nat} {e : En} (h : enAt w b o e) (hb : Below B w w') (hlt : b < B) : enAt w' b o e := fun j v hv => by
  rw [hb.cell (p := ⟨b, o + j, none⟩) hlt]
  exact h j v hv
theorem enAt_cell {w : World} {b o : Nat} {e : En} (h : enAt w b o e) (j : Nat) (v : Value) (hv : (ecs e)[j]? = some v) : w.cell? ⟨b, o + j, none⟩ = some v := h j v (by simpa using hv)
theorem enAt_node {w : World} {b : Nat} {e : En} {p q a : Value} {t : TypeId} (h : Blk w b (ncs e p q a) t) : enAt w b 0 e := by
  exact h.range (ncs_ecs e p q a)

/-! ### Built -/
theorem run_bdT0 (w : World) : (Bd 100 #[]).run Tryz.prog w = .ok (.agg (tcs zeroT)) w := run_build w _ _ _ (by kernel_rfl)
end Go.Proofs.YtoakiejpmcgdjaaGreatDoor.Hp
