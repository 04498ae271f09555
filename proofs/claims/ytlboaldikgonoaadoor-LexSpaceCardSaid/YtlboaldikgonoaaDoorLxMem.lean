/-
  Tokens in memory: a whole one read, laid, made and built.
-/
import Derived.Test.YtlboaldikgonoaaDoorLxEsc
import Derived.Test.YtlboaldikgonoaaDoorLxWord
import Derived.Test.YtlboaldikgonoaaDoorRgInv
import Derived.Laws.Tables
import Derived.Laws.Rows
import Derived.Laws.Cells
import Derived.Laws.ResultCell
import Derived.Laws.OwnMore
import Derived.Deep.MidRow
import Derived.KernelRfl
import Derived.Great.BuildSlice
namespace Go.Proofs.YtlboaldikgonoaaDoor.Lx
open Go Go.RowKit Go.Proofs.YtlboaldikgonoaaDoor.Uni
set_option linter.unusedVariables false
set_option linter.unusedSimpArgs false

abbrev ptr (b : Nat) : Value := .pointer (some ⟨b, 0, none⟩)
/-- A token with its place. -/
structure Tok where
  kind : Int
  pos : Int
  num : Int
  text : ByteArray
def zeroK : Tok := ⟨0, 0, 0, ⟨#[]⟩⟩
def kcs (t : Tok) : Array Value := #[.int .i64 t.kind, .int .i64 t.pos, .int .i64 t.num, .string t.text]
theorem kcs_size (t : Tok) : (kcs t).size = 4 := rfl
theorem kcs_0 (t : Tok) : (kcs t)[0]? = some (.int .i64 t.kind) := rfl
theorem kcs_1 (t : Tok) : (kcs t)[1]? = some (.int .i64 t.pos) := rfl
theorem kcs_2 (t : Tok) : (kcs t)[2]? = some (.int .i64 t.num) := rfl
theorem kcs_3 (t : Tok) : (kcs t)[3]? = some (.string t.text) := rfl
theorem kcs_set0 (t : Tok) (k : Int) : (kcs t).setIfInBounds 0 (.int .i64 k) = kcs { t with kind := k } := rfl
theorem kcs_one (t : Tok) : (kcs t).all (·.oneCell') = true := by simp [kcs, Value.oneCell']

def Blk (w : World) (b : Nat) (cs : Array Value) (t : TypeId) : Prop := w.heap[b]? = some (.cells cs t (0, 0))
theorem Blk.lt {w : World} {b : Nat} {cs : Array Value} {t : TypeId} (h : Blk w b cs t) : b < w.heap.size := (Array.getElem?_eq_some_iff.1 h).1
theorem Blk.cell {w : World} {b : Nat} {cs : Array Value} {t : TypeId} (h : Blk w b cs t) (i : Nat) : w.cell? ⟨b, i, none⟩ = cs[i]? := cell_of_row w b i cs t (0, 0) h
theorem Blk.frozen {w : World} {b : Nat} {cs : Array Value} {t : TypeId} (h : Blk w b cs t) (i : Nat) : w.frozen? ⟨b, i, none⟩ = false := frozen_of_row w b i cs t h
theorem Blk.new (w : World) (cs : Array Value) (t : TypeId) : Blk (w.alloc (.cells cs t)) w.heap.size cs t := heap_alloc_new w _
theorem Blk.old {w : World} {b : Nat} {cs : Array Value} {t : TypeId} (h : Blk w b cs t) (o : Obj) : Blk (w.alloc o) b cs t := (heap_alloc_old w o h.lt).trans h
theorem Blk.drew {w : World} {b : Nat} {cs : Array Value} {t : TypeId} (h : Blk w b cs t) : Blk w.drew b cs t := h
theorem Blk.drewN {w : World} {b : Nat} {cs : Array Value} {t : TypeId} (h : Blk w b cs t) (n : Nat) : Blk (w.drewN n) b cs t := h
theorem Blk.set {w : World} {b : Nat} {cs : Array Value} {t : TypeId} (h : Blk w b cs t) (i : Nat) (v : Value) : Blk (w.setCell ⟨b, i, none⟩ v) b (cs.setIfInBounds i v) t := heap_setCell_same w b i cs t v h
theorem Blk.other {w : World} {b : Nat} {cs : Array Value} {t : TypeId} (h : Blk w b cs t) (a : Addr) (v : Value) (hne : b ≠ a.block) : Blk (w.setCell a v) b cs t := (heap_setCell_other w a b v hne).trans h
theorem Blk.below {w w' : World} {B b : Nat} {cs : Array Value} {t : TypeId} (h : Blk w b cs t) (hb : Below B w w') (hlt : b < B) : Blk w' b cs t := (hb.block b hlt).trans h
theorem Blk.call {w w' : World} {b : Nat} {cs : Array Value} {t : TypeId} (h : Blk w b cs t) (hb : Below w.heap.size w w') : Blk w' b cs t := h.below hb h.lt
theorem Blk.gb {w w' : World} {g b : Nat} {cs : Array Value} {t : TypeId} (h : Blk w b cs t) (k : GB g w w') (hne : b ≠ g) : Blk w' b cs t := (k.block b h.lt (by simpa using hne)).trans h
theorem Blk.row {w : World} {b : Nat} {old : Array Value} {t : TypeId} (h : Blk w b old t) (cs : Array Value) : Blk (w.setRow b cs) b cs t := setRow_heap w b old cs t _ h
theorem Blk.row_other {w : World} {b c : Nat} {old : Array Value} {t : TypeId} (h : Blk w b old t) (cs : Array Value) (hne : b ≠ c) : Blk (w.setRow c cs) b old t := (setRow_other w c b cs hne).trans h
theorem Blk.range {w : World} {b : Nat} {cs : Array Value} {t : TypeId} (h : Blk w b cs t) {l r : List Value} (e : cs.toList = l ++ r) : w.rangeAt b 0 l := fun j v hv => by
  have hj : j < l.length := (List.getElem?_eq_some_iff.1 hv).1
  rw [Nat.zero_add, h.cell, ← Array.getElem?_toList, e, List.getElem?_append_left hj]
  exact hv
theorem size_setRow (w : World) (b : Nat) (cs : Array Value) : (w.setRow b cs).heap.size = w.heap.size := by simp [World.setRow]
theorem below_row {B : Nat} {w w' : World} (h : Below B w w') {b : Nat} (cs : Array Value) (hb : B ≤ b) : Below B w (w'.setRow b cs) := by
  refine ⟨h.os, h.tape, h.output, ?_, fun c hc => (setRow_other w' b c cs (by omega)).trans (h.block c hc)⟩
  rw [size_setRow]
  exact h.size
theorem setRow_new (w : World) (c cs : Array Value) (t : TypeId) : (w.alloc (.cells c t)).setRow w.heap.size cs = w.alloc (.cells cs t) := by
  unfold World.setRow World.alloc
  simp only
  congr 1
  apply Array.ext_getElem?
  intro i
  rw [Array.getElem?_modify]
  by_cases h : w.heap.size = i
  · subst h
    simp
  · have h' : ¬ i = w.heap.size := fun e => h e.symm
    simp [h, h', Array.getElem?_push]

theorem bl_alloc {w W : World} {o : Obj} (h : Below w.heap.size w W) : Below w.heap.size w (W.alloc o) := h.alloc h.size _
theorem bl_drew {w W : World} (h : Below w.heap.size w W) : Below w.heap.size w W.drew := h.drew
theorem bl_drewN {w W : World} {n : Nat} (h : Below w.heap.size w W) : Below w.heap.size w (W.drewN n) := below_drewN h n
theorem bel1 {w : World} {o : Obj} : Below w.heap.size w (w.alloc o) := bl_alloc (Below.refl _ w)

/-! ### The operations, by names -/
def Ld (T : TypeId) (v : Value) : Sem Value := Instr.loadAt T v
def St (T : TypeId) (p v : Value) : Sem Unit := Instr.storeAt T p v
def Al (T : TypeId) : Sem Value := Instr.alloc T true (.tuple #[])
def Bd (T : TypeId) (ps : Array (Nat × Value)) : Sem Value := Instr.build T ps
theorem ldK (v : Value) : Instr.loadAt 33 v = Ld 33 v := (rfl)
theorem stK (p v : Value) : Instr.storeAt 33 p v = St 33 p v := (rfl)
theorem alK : Instr.alloc 33 true (.tuple #[]) = Al 33 := (rfl)
theorem bdK (ps : Array (Nat × Value)) : Instr.build 33 ps = Bd 33 ps := (rfl)
theorem infoK : (Tryd.prog.info? 33).map (fun i => (i.zero, i.size)) = some (some (.agg (kcs zeroK)), 4) := by kernel_rfl
theorem infoK3 : (Tryd.prog.info? 33).map (fun i => (i.zero, i.size, i.bytes)) = some (some (.agg (kcs zeroK)), 4, 40) := by kernel_rfl
theorem sizeK : (Tryd.prog.info? 33).map (·.size) = some 4 := by kernel_rfl
theorem run_al {T : TypeId} {z : Value} {n : Nat} (hi : (Tryd.prog.info? T).map (fun i => (i.zero, i.size)) = some (some z, n)) (w : World) : (Al T).run Tryd.prog w = .ok (ptr w.heap.size) (w.alloc (.cells z.cells T)) := by
  cases hq : Tryd.prog.info? T with
  | none => rw [hq] at hi; cases hi
  | some i =>
    rw [hq] at hi
    simp at hi
    unfold Al
    simp [Instr.alloc, zeroValue, typeInfo, hq, hi.1, newVar, newRow, go_sem, ptr]
theorem run_alK (w : World) : (Al 33).run Tryd.prog w = .ok (ptr w.heap.size) (w.alloc (.cells (kcs zeroK) 33)) := run_al infoK w
theorem run_ldK {w : World} {b : Nat} {t : Tok} {T : TypeId} (h : Blk w b (kcs t) T) : (Ld 33 (.pointer (some ⟨b, 0, none⟩))).run Tryd.prog w = .ok (.agg (kcs t)) w := by
  have := run_loadAt_mid (P := Tryd.prog) w b 0 33 (kcs t).toList _ (h.range (r := []) (by simp)) Tryd.underlying33 rfl sizeK
  simpa [Ld] using this
theorem run_st_row {w : World} {b : Nat} {T t : TypeId} {old cs : Array Value} (h : Blk w b old t) (hi : (Tryd.prog.info? T).map (·.size) = some cs.size) (hs : old.size = cs.size) (h1 : cs.all (·.oneCell') = true) : (St T (.pointer (some ⟨b, 0, none⟩)) (.agg cs)).run Tryd.prog w = .ok () (w.setRow b cs) := by
  have h := run_storeVar_row (P := Tryd.prog) w b t T old cs h hi hs h1
  unfold St
  simp only [Instr.storeAt, Instr.sureAddr, Sem.run_bind, Sem.run_pure, Result.andThen_ok, h]
theorem run_stK {w : World} {b : Nat} {o t : Tok} (h : Blk w b (kcs o) 33) : (St 33 (.pointer (some ⟨b, 0, none⟩)) (.agg (kcs t))).run Tryd.prog w = .ok () (w.setRow b (kcs t)) :=
  run_st_row h (by rw [kcs_size]; exact sizeK) (by rw [kcs_size, kcs_size]) (kcs_one t)
theorem run_stKg (w : World) (g : Nat) (r o : Tok) (hg : g = w.heap.size) : (St 33 (.pointer (some ⟨g, 0, none⟩)) (.agg (kcs r))).run Tryd.prog (w.alloc (.cells (kcs o) 33)) = .ok () (w.alloc (.cells (kcs r) 33)) := by
  subst hg
  rw [run_stK (Blk.new w (kcs o) _), setRow_new]
theorem run_bdK0 (w : World) : (Bd 33 #[]).run Tryd.prog w = .ok (.agg (kcs zeroK)) w := run_build w _ _ _ (by kernel_rfl)
theorem run_bdKe (w : World) (k a : Int) : (Bd 33 #[(0, .int .i64 k), (1, .int .i64 a)]).run Tryd.prog w = .ok (.agg (kcs ⟨k, a, 0, ⟨#[]⟩⟩)) w := run_build w _ _ _ (by kernel_rfl)
theorem run_bdKs (w : World) (k a : Int) (s : ByteArray) : (Bd 33 #[(0, .int .i64 k), (1, .int .i64 a), (3, .string s)]).run Tryd.prog w = .ok (.agg (kcs ⟨k, a, 0, s⟩)) w := run_build w _ _ _ (by kernel_rfl)
theorem run_bdKn (w : World) (k a n : Int) : (Bd 33 #[(0, .int .i64 k), (1, .int .i64 a), (2, .int .i64 n)]).run Tryd.prog w = .ok (.agg (kcs ⟨k, a, n, ⟨#[]⟩⟩)) w := run_build w _ _ _ (by kernel_rfl)
/-- The results: a token in a cell, and a bool. -/
theorem res_K {fn : Func} {p q : Tmp} (h : fn.results = #[.cell p 33, .tmp q]) (tmps : Array Value) (w : World) (g : Nat) (t : Tok) (b : Value) (hp : tmps.getD p undef = .pointer (some ⟨g, 0, none⟩)) (hq : tmps.getD q undef = b) {T : TypeId} (hv : Blk w g (kcs t) T) : (results fn tmps).run Tryd.prog w = .ok (.tuple #[.agg (kcs t), b]) w := by
  have e1 := run_loadVar_row (P := Tryd.prog) w g T 33 (kcs t) (0, 0) _ hv Tryd.underlying33 rfl (by exact sizeK)
  have hp' : tmps[p]?.getD undef = .pointer (some ⟨g, 0, none⟩) := by simpa using hp
  have hq' : tmps[q]?.getD undef = b := by simpa using hq
  simp only [results, h]
  simp [Sem.run_bind, Result.andThen, hp', hq', asAddr, e1]

/-- What a method that reads a token gives. -/
def GotP (g : Nat) (t : ByteArray) (a : Nat) (w : World) (r : Got) (e : Ending) (w' : World) : Prop :=
  match r with
  | .ok tk l => e = .returned (.tuple #[.agg (kcs ⟨tk.kind, a, tk.num, tk.text⟩), .bool true]) ∧ ∃ b, l = t.data.toList.drop b ∧ On g t b w w'
  | .bad l => e = .returned (.tuple #[.agg (kcs zeroK), .bool false]) ∧ ∃ b, l = t.data.toList.drop b ∧ On g t b w w'
end Go.Proofs.YtlboaldikgonoaaDoor.Lx
