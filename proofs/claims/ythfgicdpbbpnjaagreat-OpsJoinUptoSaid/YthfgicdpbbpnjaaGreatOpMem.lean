/-
  Values of the language in memory, as operators make them.
-/
import Derived.Test.YthfgicdpbbpnjaaGreatUnLow
import Derived.Laws.Tables
import Derived.Laws.Rows
import Derived.Laws.Cells
import Derived.Laws.ResultCell
import Derived.Laws.OwnMore
import Derived.Deep.MidRow
import Derived.KernelRfl
import Derived.Lib.Hide
namespace Go.Proofs.YthfgicdpbbpnjaaGreat.Ops
open Go Go.RowKit Go.Proofs.YthfgicdpbbpnjaaGreat.Uni
set_option linter.unusedVariables false
set_option linter.unusedSimpArgs false

abbrev ptr (b : Nat) : Value := .pointer (some ⟨b, 0, none⟩)
/-- A value of the language. -/
structure Vl where
  k : Int
  n : Int
  s : ByteArray
def zeroV : Vl := ⟨0, 0, ⟨#[]⟩⟩
def vcs (v : Vl) : Array Value := #[.int .i64 v.k, .int .i64 v.n, .string v.s]
theorem vcs_size (v : Vl) : (vcs v).size = 3 := rfl
theorem vcs_0 (v : Vl) : (vcs v)[0]? = some (.int .i64 v.k) := rfl
theorem vcs_1 (v : Vl) : (vcs v)[1]? = some (.int .i64 v.n) := rfl
theorem vcs_2 (v : Vl) : (vcs v)[2]? = some (.string v.s) := rfl
theorem vcs_set1 (v : Vl) (n : Int) : (vcs v).setIfInBounds 1 (.int .i64 n) = vcs { v with n := n } := rfl
theorem vcs_st1 (k m n : Int) (s : ByteArray) : (vcs ⟨k, m, s⟩).setIfInBounds 1 (.int .i64 n) = vcs ⟨k, n, s⟩ := rfl
theorem vcs_one (v : Vl) : (vcs v).all (·.oneCell') = true := by simp [vcs, Value.oneCell']

def Blk (w : World) (b : Nat) (cs : Array Value) (t : TypeId) : Prop := w.heap[b]? = some (.cells cs t (0, 0))
theorem Blk.lt {w : World} {b : Nat} {cs : Array Value} {t : TypeId} (h : Blk w b cs t) : b < w.heap.size := (Array.getElem?_eq_some_iff.1 h).1
theorem Blk.cell {w : World} {b : Nat} {cs : Array Value} {t : TypeId} (h : Blk w b cs t) (i : Nat) : w.cell? ⟨b, i, none⟩ = cs[i]? := cell_of_row w b i cs t (0, 0) h
theorem Blk.frozen {w : World} {b : Nat} {cs : Array Value} {t : TypeId} (h : Blk w b cs t) (i : Nat) : w.frozen? ⟨b, i, none⟩ = false := frozen_of_row w b i cs t h
theorem Blk.new (w : World) (cs : Array Value) (t : TypeId) : Blk (w.alloc (.cells cs t)) w.heap.size cs t := heap_alloc_new w _
theorem Blk.old {w : World} {b : Nat} {cs : Array Value} {t : TypeId} (h : Blk w b cs t) (o : Obj) : Blk (w.alloc o) b cs t := (heap_alloc_old w o h.lt).trans h
theorem Blk.drew {w : World} {b : Nat} {cs : Array Value} {t : TypeId} (h : Blk w b cs t) : Blk w.drew b cs t := h
theorem Blk.drewN {w : World} {b : Nat} {cs : Array Value} {t : TypeId} (h : Blk w b cs t) (n : Nat) : Blk (w.drewN n) b cs t := h
theorem Blk.set {w : World} {b : Nat} {cs : Array Value} {t : TypeId} (h : Blk w b cs t) (i : Nat) (v : Value) : Blk (w.setCell ⟨b, i, none⟩ v) b (cs.setIfInBounds i v) t := heap_setCell_same w b i cs t v h
theorem Blk.other {w : World} {b : Nat} {cs : Array Value} {t : TypeId} (h : Blk w b cs t) (a : Addr) (v : Value) (hne : b ≠ a.block) : Blk (w.setCell a v) b cs t := (heap_setCell_other w a b v hne).trans h
theorem Blk.below {w w' : World} {B b : Nat} {cs : Array Value} {t : TypeId} (h : Blk w b cs t) (hb : Below B w w') (hlt : b < B) : Blk w' b cs t := (hb.block b hlt).trans h
theorem Blk.call {w w' : World} {b : Nat} {cs : Array Value} {t : TypeId} (h : Blk w b cs t) (hb : Below w.heap.size w w') : Blk w' b cs t := h.below hb h.lt
theorem Blk.row {w : World} {b : Nat} {old : Array Value} {t : TypeId} (h : Blk w b old t) (cs : Array Value) : Blk (w.setRow b cs) b cs t := setRow_heap w b old cs t _ h
theorem Blk.row_other {w : World} {b c : Nat} {old : Array Value} {t : TypeId} (h : Blk w b old t) (cs : Array Value) (hne : b ≠ c) : Blk (w.setRow c cs) b old t := (setRow_other w c b cs hne).trans h
theorem Blk.range {w : World} {b : Nat} {cs : Array Value} {t : TypeId} (h : Blk w b cs t) {l r : List Value} (e : cs.toList = l ++ r) : w.rangeAt b 0 l := fun j v hv => by
  have hj : j < l.length := (List.getElem?_eq_some_iff.1 hv).1
  rw [Nat.zero_add, h.cell, ← Array.getElem?_toList, e, List.getElem?_append_left hj]
  exact hv
theorem size_setRow (w : World) (b : Nat) (cs : Array Value) : (w.setRow b cs).heap.size = w.heap.size := by simp [World.setRow]
theorem below_row {B : Nat} {w w' : World} (h : Below B w w') {b : Nat} (cs : Array Value) (hb : B ≤ b) : Below B w (w'.setRow b cs) := by
  refine ⟨h.os, h.tape, h.output, ?_, fun c hc => (setRow_other w' b c cs (by omega)).trans (h.block c hc)⟩
  rw [size_setRow]
  exact h.size
theorem setRow_new (w : World) (c cs : Array Value) (t : TypeId) : (w.alloc (.cells c t)).setRow w.heap.size cs = w.alloc (.cells cs t) := by
  unfold World.setRow World.alloc
  simp only
  congr 1
  apply Array.ext_getElem?
  intro i
  rw [Array.getElem?_modify]
  by_cases h : w.heap.size = i
  · subst h
    simp
  · have h' : ¬ i = w.heap.size := fun e => h e.symm
    simp [h, h', Array.getElem?_push]

theorem bl_alloc {w W : World} {o : Obj} (h : Below w.heap.size w W) : Below w.heap.size w (W.alloc o) := h.alloc h.size _
theorem bl_drew {w W : World} (h : Below w.heap.size w W) : Below w.heap.size w W.drew := h.drew
theorem bl_drewN {w W : World} {n : Nat} (h : Below w.heap.size w W) : Below w.heap.size w (W.drewN n) := below_drewN h n
theorem bel1 {w : World} {o : Obj} : Below w.heap.size w (w.alloc o) := bl_alloc (Below.refl _ w)

/-! ### The operations, by names -/
def Ld (T : TypeId) (v : Value) : Sem Value := Instr.loadAt T v
def St (T : TypeId) (p v : Value) : Sem Unit := Instr.storeAt T p v
def Al (T : TypeId) : Sem Value := Instr.alloc T true (.tuple #[])
def Bx (T : TypeId) (v : Value) : Sem Value := Instr.box T v
def Bd (T : TypeId) (ps : Array (Nat × Value)) : Sem Value := Instr.build T ps
theorem ldV (v : Value) : Instr.loadAt 23 v = Ld 23 v := (rfl)
theorem stV (p v : Value) : Instr.storeAt 23 p v = St 23 p v := (rfl)
theorem alV : Instr.alloc 23 true (.tuple #[]) = Al 23 := (rfl)
theorem bxV (v : Value) : Instr.box 23 v = Bx 23 v := (rfl)
theorem bdV (ps : Array (Nat × Value)) : Instr.build 23 ps = Bd 23 ps := (rfl)
theorem infoV : (Tryz.prog.info? 23).map (fun i => (i.zero, i.size)) = some (some (.agg (vcs zeroV)), 3) := by kernel_rfl
theorem sizeV : (Tryz.prog.info? 23).map (·.size) = some 3 := by kernel_rfl
theorem ldO (v : Value) : Instr.loadAt 50 v = Ld 50 v := (rfl)
theorem stO (p v : Value) : Instr.storeAt 50 p v = St 50 p v := (rfl)
theorem alO : Instr.alloc 50 true (.tuple #[]) = Al 50 := (rfl)
theorem bxO (v : Value) : Instr.box 50 v = Bx 50 v := (rfl)
theorem bdO (ps : Array (Nat × Value)) : Instr.build 50 ps = Bd 50 ps := (rfl)
theorem infoO : (Tryz.prog.info? 50).map (fun i => (i.zero, i.size)) = some (some (.agg (vcs zeroV)), 3) := by kernel_rfl
theorem sizeO : (Tryz.prog.info? 50).map (·.size) = some 3 := by kernel_rfl
theorem ldS (v : Value) : Instr.loadAt 52 v = Ld 52 v := (rfl)
theorem stS (p v : Value) : Instr.storeAt 52 p v = St 52 p v := (rfl)
theorem alS : Instr.alloc 52 true (.tuple #[]) = Al 52 := (rfl)
theorem bxS (v : Value) : Instr.box 52 v = Bx 52 v := (rfl)
theorem bdS (ps : Array (Nat × Value)) : Instr.build 52 ps = Bd 52 ps := (rfl)
theorem infoS : (Tryz.prog.info? 52).map (fun i => (i.zero, i.size)) = some (some (.agg (vcs zeroV)), 3) := by kernel_rfl
theorem sizeS : (Tryz.prog.info? 52).map (·.size) = some 3 := by kernel_rfl
theorem run_al {T : TypeId} {z : Value} {n : Nat} (hi : (Tryz.prog.info? T).map (fun i => (i.zero, i.size)) = some (some z, n)) (w : World) : (Al T).run Tryz.prog w = .ok (ptr w.heap.size) (w.alloc (.cells z.cells T)) := by
  cases hq : Tryz.prog.info? T with
  | none => rw [hq] at hi; cases hi
  | some i =>
    rw [hq] at hi
    simp at hi
    unfold Al
    simp [Instr.alloc, zeroValue, typeInfo, hq, hi.1, newVar, newRow, go_sem, ptr]
theorem run_st_row {w : World} {b : Nat} {T t : TypeId} {old cs : Array Value} (h : Blk w b old t) (hi : (Tryz.prog.info? T).map (·.size) = some cs.size) (hs : old.size = cs.size) (h1 : cs.all (·.oneCell') = true) : (St T (.pointer (some ⟨b, 0, none⟩)) (.agg cs)).run Tryz.prog w = .ok () (w.setRow b cs) := by
  have h := run_storeVar_row (P := Tryz.prog) w b t T old cs h hi hs h1
  unfold St
  simp only [Instr.storeAt, Instr.sureAddr, Sem.run_bind, Sem.run_pure, Result.andThen_ok, h]
theorem run_bx (T : TypeId) (cs : Array Value) (w : World) : (Bx T (.agg cs)).run Tryz.prog w = .ok (ptr w.heap.size) (w.alloc (.cells cs T)) := by
  unfold Bx
  simp [Instr.box, newVar, newRow, Value.cells, go_sem, ptr]
theorem run_alV (w : World) : (Al 23).run Tryz.prog w = .ok (ptr w.heap.size) (w.alloc (.cells (vcs zeroV) 23)) := run_al infoV w
theorem run_ldV {w : World} {b : Nat} {v : Vl} {T : TypeId} (h : Blk w b (vcs v) T) : (Ld 23 (.pointer (some ⟨b, 0, none⟩))).run Tryz.prog w = .ok (.agg (vcs v)) w := by
  have := run_loadAt_mid (P := Tryz.prog) w b 0 23 (vcs v).toList _ (h.range (r := []) (by simp)) Tryz.underlying23 rfl sizeV
  simpa [Ld] using this
theorem run_stV {w : World} {b : Nat} {o v : Vl} (h : Blk w b (vcs o) 23) : (St 23 (.pointer (some ⟨b, 0, none⟩)) (.agg (vcs v))).run Tryz.prog w = .ok () (w.setRow b (vcs v)) :=
  run_st_row h (by rw [vcs_size]; exact sizeV) (by rw [vcs_size, vcs_size]) (vcs_one v)
theorem run_stVg (w : World) (g : Nat) (r o : Vl) (hg : g = w.heap.size) : (St 23 (.pointer (some ⟨g, 0, none⟩)) (.agg (vcs r))).run Tryz.prog (w.alloc (.cells (vcs o) 23)) = .ok () (w.alloc (.cells (vcs r) 23)) := by
  subst hg
  rw [run_stV (Blk.new w (vcs o) _), setRow_new]
theorem run_alO (w : World) : (Al 50).run Tryz.prog w = .ok (ptr w.heap.size) (w.alloc (.cells (vcs zeroV) 50)) := run_al infoO w
theorem run_ldO {w : World} {b : Nat} {v : Vl} {T : TypeId} (h : Blk w b (vcs v) T) : (Ld 50 (.pointer (some ⟨b, 0, none⟩))).run Tryz.prog w = .ok (.agg (vcs v)) w := by
  have := run_loadAt_mid (P := Tryz.prog) w b 0 50 (vcs v).toList _ (h.range (r := []) (by simp)) Tryz.underlying50 rfl sizeO
  simpa [Ld] using this
theorem run_stO {w : World} {b : Nat} {o v : Vl} (h : Blk w b (vcs o) 50) : (St 50 (.pointer (some ⟨b, 0, none⟩)) (.agg (vcs v))).run Tryz.prog w = .ok () (w.setRow b (vcs v)) :=
  run_st_row h (by rw [vcs_size]; exact sizeO) (by rw [vcs_size, vcs_size]) (vcs_one v)
theorem run_stOg (w : World) (g : Nat) (r o : Vl) (hg : g = w.heap.size) : (St 50 (.pointer (some ⟨g, 0, none⟩)) (.agg (vcs r))).run Tryz.prog (w.alloc (.cells (vcs o) 50)) = .ok () (w.alloc (.cells (vcs r) 50)) := by
  subst hg
  rw [run_stO (Blk.new w (vcs o) _), setRow_new]
theorem run_alS (w : World) : (Al 52).run Tryz.prog w = .ok (ptr w.heap.size) (w.alloc (.cells (vcs zeroV) 52)) := run_al infoS w
theorem run_ldS {w : World} {b : Nat} {v : Vl} {T : TypeId} (h : Blk w b (vcs v) T) : (Ld 52 (.pointer (some ⟨b, 0, none⟩))).run Tryz.prog w = .ok (.agg (vcs v)) w := by
  have := run_loadAt_mid (P := Tryz.prog) w b 0 52 (vcs v).toList _ (h.range (r := []) (by simp)) Tryz.underlying52 rfl sizeS
  simpa [Ld] using this
theorem run_stS {w : World} {b : Nat} {o v : Vl} (h : Blk w b (vcs o) 52) : (St 52 (.pointer (some ⟨b, 0, none⟩)) (.agg (vcs v))).run Tryz.prog w = .ok () (w.setRow b (vcs v)) :=
  run_st_row h (by rw [vcs_size]; exact sizeS) (by rw [vcs_size, vcs_size]) (vcs_one v)
theorem run_stSg (w : World) (g : Nat) (r o : Vl) (hg : g = w.heap.size) : (St 52 (.pointer (some ⟨g, 0, none⟩)) (.agg (vcs r))).run Tryz.prog (w.alloc (.cells (vcs o) 52)) = .ok () (w.alloc (.cells (vcs r) 52)) := by
  subst hg
  rw [run_stS (Blk.new w (vcs o) _), setRow_new]
theorem run_bdV0 (w : World) : (Bd 23 #[]).run Tryz.prog w = .ok (.agg (vcs zeroV)) w := run_build w _ _ _ (by kernel_rfl)
theorem run_bdV1 (w : World) (k : Int) : (Bd 23 #[(0, .int .i64 k)]).run Tryz.prog w = .ok (.agg (vcs ⟨k, 0, ⟨#[]⟩⟩)) w := run_build w _ _ _ (by kernel_rfl)
theorem run_bdV2 (w : World) (k n : Int) : (Bd 23 #[(0, .int .i64 k), (1, .int .i64 n)]).run Tryz.prog w = .ok (.agg (vcs ⟨k, n, ⟨#[]⟩⟩)) w := run_build w _ _ _ (by kernel_rfl)
theorem run_bdV3 (w : World) (k : Int) (s : ByteArray) : (Bd 23 #[(0, .int .i64 k), (2, .string s)]).run Tryz.prog w = .ok (.agg (vcs ⟨k, 0, s⟩)) w := run_build w _ _ _ (by kernel_rfl)
theorem run_bdO (w : World) (v : Vl) : (Bd 50 #[(0, .agg (vcs v))]).run Tryz.prog w = .ok (.agg (vcs v)) w := run_build w _ _ _ (by kernel_rfl)
theorem run_bdS (w : World) (v : Vl) : (Bd 52 #[(0, .agg (vcs v))]).run Tryz.prog w = .ok (.agg (vcs v)) w := run_build w _ _ _ (by kernel_rfl)
/-- The results: a value in a cell, and a name. -/
theorem res_V {fn : Func} {p q : Tmp} (h : fn.results = #[.cell p 23, .tmp q]) (tmps : Array Value) (w : World) (g : Nat) (v : Vl) (b : Value) (hp : tmps.getD p undef = .pointer (some ⟨g, 0, none⟩)) (hq : tmps.getD q undef = b) {T : TypeId} (hv : Blk w g (vcs v) T) : (results fn tmps).run Tryz.prog w = .ok (.tuple #[.agg (vcs v), b]) w := by
  have e1 := run_loadVar_row (P := Tryz.prog) w g T 23 (vcs v) (0, 0) _ hv Tryz.underlying23 rfl (by exact sizeV)
  have hp' : tmps[p]?.getD undef = .pointer (some ⟨g, 0, none⟩) := by simpa using hp
  have hq' : tmps[q]?.getD undef = b := by simpa using hq
  simp only [results, h]
  simp [Sem.run_bind, Result.andThen, hp', hq', asAddr, e1]
theorem Blk.setn {w : World} {b : Nat} {v : Vl} {t : TypeId} (h : Blk w b (vcs v) t) (n : Int) : Blk (w.setCell ⟨b, 1, none⟩ (.int .i64 n)) b (vcs { v with n := n }) t := h.set 1 _
end Go.Proofs.YthfgicdpbbpnjaaGreat.Ops
