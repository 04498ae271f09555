/-
  Texts of this seat in build order: ArMem, HpMem, DeSmall, DeMid, DeRepl, DeIn, DeRight, DeRdesc, DeWhole, DeClear, DeComp, DeAppl.
-/
import Derived.Test.YtblbeinnfbohbaaMz00
import Derived.Test.YtblbeinnfbohbaaMz02
import Derived.Laws.Tables
import Derived.Laws.Rows
import Derived.Laws.Cells
import Derived.Laws.StructEq
import Derived.Laws.OwnMore
import Derived.Great.BuildSlice
import Derived.Maps.AppendAt
import Derived.OwnWalk
import Derived.KernelRfl
import Derived.WalkArith
import Derived.Test.YtblbeinnfbohbaaMz01
import Derived.Laws.ResultCell
import Derived.Deep.MidRow
import Derived.Maps.OwnSet
import Derived.Lib.Hide
import Derived.WalkKit
import Derived.Deep.CutRange
import Derived.Deep.DeepCutAuto
import Derived.BigRegion
import Derived.BigQuiet
import Derived.Deep.RegionHeld3
/-
  Properties of objects (a key and a descriptor): their shape, a whole one read out of and laid into memory, '==' of one with itself, lists of them.
-/
namespace Go.Proofs.Ytblbeinnfbohbaa.Arrs
open Go Go.RowKit Go.Maps Go.Proofs.Ytblbeinnfbohbaa.Nums Go.Proofs.Ytblbeinnfbohbaa.Keys
open Go.Proofs.Ytblbeinnfbohbaa.Des (Vl Ds dcs zeroV zeroD VV)
set_option linter.unusedVariables false
set_option linter.unusedSimpArgs false

/-- A property. -/
structure En where
  ks : ByteArray
  kn : Int
  d : Ds
def ecs (e : En) : Array Value := #[.string e.ks, .int .i64 e.kn, .bool e.d.hv, .bool e.d.hg, .bool e.d.hs, .bool e.d.hw, .bool e.d.he, .bool e.d.hc, .int .i64 e.d.v.k, .int .i64 e.d.v.n, .string e.d.v.s, .int .i64 e.d.g.k, .int .i64 e.d.g.n, .string e.d.g.s, .int .i64 e.d.s.k, .int .i64 e.d.s.n, .string e.d.s.s, .bool e.d.w, .bool e.d.e, .bool e.d.c]
def zer : Array Value := #[.string ⟨#[]⟩, .int .i64 0, .bool false, .bool false, .bool false, .bool false, .bool false, .bool false, .int .i64 0, .int .i64 0, .string ⟨#[]⟩, .int .i64 0, .int .i64 0, .string ⟨#[]⟩, .int .i64 0, .int .i64 0, .string ⟨#[]⟩, .bool false, .bool false, .bool false]
theorem ecs_0 (e : En) : (ecs e)[0]? = some (.string e.ks) := rfl
theorem ecs_1 (e : En) : (ecs e)[1]? = some (.int .i64 e.kn) := rfl
theorem ecs_10 (e : En) : (ecs e)[10]? = some (.string e.d.v.s) := rfl
theorem ecs_19 (e : En) : (ecs e)[19]? = some (.bool e.d.c) := rfl
theorem ecs_size (e : En) : (ecs e).size = 20 := rfl
theorem zer_size : zer.size = 20 := rfl
theorem zer_cells : (Value.agg zer).cells.size = 20 := rfl
theorem ecs_one (e : En) : (ecs e).all (·.oneCell') = true := by simp [ecs, Value.oneCell']
theorem ecs_list (e : En) : (ecs e).toList.length = 20 := rfl
theorem ecs_one' (e : En) : ∀ u ∈ (ecs e).toList, u.oneCell' = true := fun u hu => by
  have h := ecs_one e
  rw [Array.all_eq_true_iff_forall_mem] at h
  exact h u (by simpa using hu)

/-! ### One read, one laid -/
theorem infoE : (Try.prog.info? 125).map (fun i => (i.zero, i.size, i.bytes)) = some (some (.agg zer), 20, 136) := by kernel_rfl
theorem sizeE : (Try.prog.info? 125).map (·.size) = some 20 := by kernel_rfl
/-- A whole one lies at an address. -/
def enAt (w : World) (a : Addr) (e : En) : Prop := ∀ j v, (ecs e).toList[j]? = some v → w.cell? (a.add j) = some v
def ldE (v : Value) : Sem Value := Instr.loadAt 125 v
theorem to_ldE (v : Value) : Instr.loadAt 125 v = ldE v := (rfl)
theorem run_ldE {w : World} {a : Addr} {e : En} (h : enAt w a e) : (ldE (.pointer (some a))).run Try.prog w = .ok (.agg (ecs e)) w := by
  have hl := run_loadCells_list (P := Try.prog) (w := w) a (ecs e).toList h
  rw [ecs_list] at hl
  obtain ⟨i, hi, hz, hs, hb⟩ := info_parts infoE
  have hagg : (isAgg 125).run Try.prog w = .ok true w := by
    unfold isAgg
    rw [Sem.run_bind, run_underlying Try.underlying125 w]
    rfl
  unfold ldE
  simp [Instr.loadAt, Instr.sureAddr, loadVar, Sem.run_bind, hagg, sizeOf, typeInfo, hi, hs, hl]
/-- A new variable for one. -/
def alE : Sem Value := Instr.alloc 125 true (.tuple #[])
theorem to_alE : Instr.alloc 125 true (.tuple #[]) = alE := (rfl)
theorem run_alE (w : World) : alE.run Try.prog w = .ok (.pointer (some ⟨w.heap.size, 0, none⟩)) (w.alloc (.cells zer 125)) := by
  obtain ⟨i, hi, hz, hs, hb⟩ := info_parts infoE
  unfold alE
  simp [Instr.alloc, zeroValue, typeInfo, hi, hz, newVar, newRow, go_sem]
def stE (p v : Value) : Sem Unit := Instr.storeAt 125 p v
theorem to_stE (p v : Value) : Instr.storeAt 125 p v = stE p v := (rfl)
theorem setRow_new (w : World) (c cs : Array Value) (t : TypeId) : (w.alloc (.cells c t)).setRow w.heap.size cs = w.alloc (.cells cs t) := by
  unfold World.setRow World.alloc
  simp only
  congr 1
  apply Array.ext_getElem?
  intro i
  rw [Array.getElem?_modify]
  by_cases h : w.heap.size = i
  · subst h
    simp
  · have h' : ¬ i = w.heap.size := fun e => h e.symm
    simp [h, h', Array.getElem?_push]
theorem run_stE (w : World) (e : En) : (stE (.pointer (some ⟨w.heap.size, 0, none⟩)) (.agg (ecs e))).run Try.prog (w.alloc (.cells zer 125)) = .ok () (w.alloc (.cells (ecs e) 125)) := by
  have h := run_storeVar_row (P := Try.prog) (w.alloc (.cells zer 125)) w.heap.size 125 125 zer (ecs e) (heap_alloc_new w _) (by rw [ecs_size]; exact sizeE) (by rw [ecs_size]; rfl) (ecs_one e)
  unfold stE
  simp only [Instr.storeAt, Instr.sureAddr, Sem.run_bind, Sem.run_pure, Result.andThen_ok, h, setRow_new]
def bsE (ps : Array (Nat × Value)) : Sem Value := Instr.buildSlice 82 1 ps
theorem to_bsE (ps : Array (Nat × Value)) : Instr.buildSlice 82 1 ps = bsE ps := (rfl)
theorem run_bsE (w : World) (e : En) : (bsE #[(0, .agg (ecs e))]).run Try.prog w = .ok (.slice (some ⟨w.heap.size, 0, none⟩) 1 1) (w.alloc (.cells (ecs e) 125)) := by
  obtain ⟨i, hi, hz, hs, hb⟩ := info_parts infoE
  exact run_buildSlice w 82 125 1 _ (ecs e) i (.agg zer) Try.underlying82 hi hz (by rw [hs]; decide) (by rw [hs]; decide) (by rw [hs]; have h := Go.Great.fill_whole (s := 20) (by decide) [.agg (ecs e)] ((Array.range (1 * 20)).map ((Value.agg zer).cells[· % (Value.agg zer).cells.size]!)) (fun v hv => by rw [List.mem_singleton.1 hv]; rfl) (by simp); simpa [Value.cells] using h)
theorem enAt_new (w : World) (e : En) (t : TypeId) : enAt (w.alloc (.cells (ecs e) t)) ⟨w.heap.size, 0, none⟩ e := fun j v hv => by
  have ha : (⟨w.heap.size, 0, none⟩ : Addr).add j = ⟨w.heap.size, j, none⟩ := by unfold Addr.add; split <;> simp_all
  rw [ha, cell_of_row (w.alloc (.cells (ecs e) t)) w.heap.size j (ecs e) t (0, 0) (heap_alloc_new w _)]
  simpa using hv
theorem enAt_below {B : Nat} {w w' : World} {a : Addr} {e : En} (h : enAt w a e) (hb : Below B w w') (ha : a.block < B) : enAt w' a e := fun j v hv => by
  have hbl : (a.add j).block = a.block := by unfold Addr.add; split <;> rfl
  rw [hb.cell (p := a.add j) (by rw [hbl]; exact ha)]
  exact h j v hv
theorem enAt_cell {w : World} {b o : Nat} {e : En} (h : enAt w ⟨b, o, none⟩ e) (j : Nat) (v : Value) (hv : (ecs e)[j]? = some v) : w.cell? ⟨b, o + j, none⟩ = some v := by
  have ha : (⟨b, o, none⟩ : Addr).add j = ⟨b, o + j, none⟩ := by unfold Addr.add; split <;> simp_all
  rw [← ha]
  exact h j v (by simpa using hv)

def cellsE (l : List En) : List Value := l.flatMap fun e => (ecs e).toList
theorem cellsE_append (a b : List En) : cellsE (a ++ b) = cellsE a ++ cellsE b := by simp [cellsE]
theorem cellsE_one (e : En) : cellsE [e] = (ecs e).toList := by simp [cellsE]
theorem cellsE_length (l : List En) : (cellsE l).length = l.length * 20 := by
  induction l with
  | nil => rfl
  | cons a r ih =>
    have e : cellsE (a :: r) = (ecs a).toList ++ cellsE r := rfl
    rw [e, List.length_append, ecs_list, ih, List.length_cons]
    omega
theorem cellsE_at (l : List En) : ∀ (j : Nat) (e : En), l[j]? = some e → ∀ k v, (ecs e).toList[k]? = some v → (cellsE l)[j * 20 + k]? = some v := by
  induction l with
  | nil => intro j e h; simp at h
  | cons a r ih =>
    intro j e h k v hv
    have e1 : cellsE (a :: r) = (ecs a).toList ++ cellsE r := rfl
    have hk : k < 20 := by have := (List.getElem?_eq_some_iff.1 hv).1; rw [ecs_list] at this; exact this
    cases j with
    | zero =>
      simp only [List.getElem?_cons_zero, Option.some.injEq] at h
      subst h
      rw [e1, List.getElem?_append_left (by rw [ecs_list]; omega), Nat.zero_mul, Nat.zero_add]
      exact hv
    | succ j =>
      rw [e1, List.getElem?_append_right (by rw [ecs_list]; omega), ecs_list, show (j + 1) * 20 + k - 20 = j * 20 + k by omega]
      exact ih j e (by simpa using h) k v hv
/-- A slice's cells hold properties. -/
def EsAt (ao : Option Addr) (es : List En) (w : World) : Prop := ∀ j e, es[j]? = some e → ∃ b off, ao = some ⟨b, off, none⟩ ∧ b < w.heap.size ∧ enAt w ⟨b, off + j * 20, none⟩ e
theorem esAt_own {w : World} {base : Nat} {ao : Option Addr} {cp : Nat} {es : List En} (h : w.ownsRow base 125 20 (.slice ao es.length cp) es.length (cellsE es)) : EsAt ao es w := fun j e he => by
  have hj : j < es.length := (List.getElem?_eq_some_iff.1 he).1
  rcases h.2 with ⟨_, hn⟩ | ⟨g, cap, cur, hv, hb, hg, _⟩
  · omega
  · simp only [Value.slice.injEq] at hv
    obtain ⟨rfl, -, rfl⟩ := hv
    refine ⟨g, 0, rfl, (Array.getElem?_eq_some_iff.1 hg).1, fun k v hv => ?_⟩
    have hk : k < 20 := by have := (List.getElem?_eq_some_iff.1 hv).1; rw [ecs_list] at this; exact this
    have ha : (⟨g, 0 + j * 20, none⟩ : Addr).add k = ⟨g, j * 20 + k, none⟩ := by unfold Addr.add; split <;> simp_all
    rw [ha, h.cellAt _ (by omega)]
    exact cellsE_at es j e he k v hv
theorem EsAt.below {ao : Option Addr} {es : List En} {w w' : World} (h : EsAt ao es w) (hb : Below w.heap.size w w') : EsAt ao es w' := fun j e he => by
  obtain ⟨b, off, ha, hlt, hat⟩ := h j e he
  exact ⟨b, off, ha, Nat.lt_of_lt_of_le hlt hb.size, enAt_below hat hb hlt⟩
theorem esAt_nil (ao : Option Addr) (w : World) : EsAt ao [] w := fun j e he => by simp at he
end Go.Proofs.Ytblbeinnfbohbaa.Arrs

/-
  Objects and properties in memory: their shapes, a whole one read, laid, boxed and built.
-/
namespace Go.Proofs.Ytblbeinnfbohbaa.Hp
open Go Go.RowKit Go.Maps Go.Proofs.Ytblbeinnfbohbaa.Keys
open Go.Proofs.Ytblbeinnfbohbaa.Des (Vl Ds zeroV zeroD dcs dcs_size dcs_one)
open Go.Proofs.Ytblbeinnfbohbaa.Arrs (En ecs ecs_0 ecs_1 ecs_10 ecs_size ecs_list ecs_one ecs_one')
set_option linter.unusedVariables false
set_option linter.unusedSimpArgs false

/-- An object's own part: its lists as slices. -/
structure Th where
  kind : Int
  proto : Vl
  ext : Bool
  props : Value
  code : Int
  n : Int
  v : Vl
  tg : Vl
  hd : Vl
  ths : Vl
  args : Value
  calls : Bool
  makes : Bool
  env : Int
def zeroE : En := ⟨⟨#[]⟩, 0, zeroD⟩
abbrev nilS : Value := .slice none 0 0
def zeroT : Th := ⟨0, zeroV, false, nilS, 0, 0, zeroV, zeroV, zeroV, zeroV, nilS, false, false, 0⟩
def ekey (e : En) : KV := (e.ks, e.kn)
def tcs (t : Th) : Array Value := #[.int .i64 t.kind, .int .i64 t.proto.k, .int .i64 t.proto.n, .string t.proto.s, .bool t.ext, t.props, .int .i64 t.code, .int .i64 t.n, .int .i64 t.v.k, .int .i64 t.v.n, .string t.v.s, .int .i64 t.tg.k, .int .i64 t.tg.n, .string t.tg.s, .int .i64 t.hd.k, .int .i64 t.hd.n, .string t.hd.s, .int .i64 t.ths.k, .int .i64 t.ths.n, .string t.ths.s, t.args, .bool t.calls, .bool t.makes, .int .i64 t.env]
abbrev ptr (b : Nat) : Value := .pointer (some ⟨b, 0, none⟩)
abbrev nilP : Value := .pointer none
/-- An object: its own part and its properties. -/
def ocs (t : Th) (pb : Nat) : Array Value := #[.int .i64 t.kind, .int .i64 t.proto.k, .int .i64 t.proto.n, .string t.proto.s, .bool t.ext, t.props, .int .i64 t.code, .int .i64 t.n, .int .i64 t.v.k, .int .i64 t.v.n, .string t.v.s, .int .i64 t.tg.k, .int .i64 t.tg.n, .string t.tg.s, .int .i64 t.hd.k, .int .i64 t.hd.n, .string t.hd.s, .int .i64 t.ths.k, .int .i64 t.ths.n, .string t.ths.s, t.args, .bool t.calls, .bool t.makes, .int .i64 t.env, ptr pb]
/-- A place of a ring: a property, the pointers before it, after it, to the next one of its key. -/
def ncs (e : En) (p q : Value) (a : Value) : Array Value := #[.string e.ks, .int .i64 e.kn, .bool e.d.hv, .bool e.d.hg, .bool e.d.hs, .bool e.d.hw, .bool e.d.he, .bool e.d.hc, .int .i64 e.d.v.k, .int .i64 e.d.v.n, .string e.d.v.s, .int .i64 e.d.g.k, .int .i64 e.d.g.n, .string e.d.g.s, .int .i64 e.d.s.k, .int .i64 e.d.s.n, .string e.d.s.s, .bool e.d.w, .bool e.d.e, .bool e.d.c, p, q, a]
/-- The head of a ring: the place between the last and the first; the map. -/
def hcs (p q : Value) (m : Nat) : Array Value := #[.string ⟨#[]⟩, .int .i64 0, .bool false, .bool false, .bool false, .bool false, .bool false, .bool false, .int .i64 0, .int .i64 0, .string ⟨#[]⟩, .int .i64 0, .int .i64 0, .string ⟨#[]⟩, .int .i64 0, .int .i64 0, .string ⟨#[]⟩, .bool false, .bool false, .bool false, p, q, nilP, .map (some m)]
theorem tcs_size (t : Th) : (tcs t).size = 24 := rfl
theorem ocs_size (t : Th) (pb : Nat) : (ocs t pb).size = 25 := rfl
/-- Its lists are slices. -/
def Th.ok (t : Th) : Prop := (∃ a n c, t.props = .slice a n c) ∧ ∃ a n c, t.args = .slice a n c
theorem tcs_one {t : Th} (h : t.ok) : (tcs t).all (·.oneCell') = true := by
  obtain ⟨⟨a, n, c, h1⟩, ⟨a', n', c', h2⟩⟩ := h
  unfold tcs
  rw [h1, h2]
  simp [Value.oneCell']
theorem zeroT_ok : zeroT.ok := ⟨⟨_, _, _, rfl⟩, ⟨_, _, _, rfl⟩⟩
theorem tcs_0 (t : Th) : (tcs t)[0]? = some (.int .i64 t.kind) := rfl
theorem tcs_5 (t : Th) : (tcs t)[5]? = some t.props := rfl
theorem tcs_20 (t : Th) : (tcs t)[20]? = some t.args := rfl
theorem tcs_set5 (t : Th) (v : Value) : (tcs t).setIfInBounds 5 v = tcs { t with props := v } := rfl
theorem tcs_set20 (t : Th) (v : Value) : (tcs t).setIfInBounds 20 v = tcs { t with args := v } := rfl
theorem ocs_24 (t : Th) (pb : Nat) : (ocs t pb)[24]? = some (ptr pb) := rfl
theorem ocs_tcs (t : Th) (pb : Nat) : (ocs t pb).toList = (tcs t).toList ++ [ptr pb] := rfl
theorem ncs_20 (e : En) (p q a : Value) : (ncs e p q a)[20]? = some p := rfl
theorem ncs_21 (e : En) (p q a : Value) : (ncs e p q a)[21]? = some q := rfl
theorem ncs_22 (e : En) (p q a : Value) : (ncs e p q a)[22]? = some a := rfl
theorem ncs_set20 (e : En) (p q a v : Value) : (ncs e p q a).setIfInBounds 20 v = ncs e v q a := rfl
theorem ncs_set21 (e : En) (p q a v : Value) : (ncs e p q a).setIfInBounds 21 v = ncs e p v a := rfl
theorem ncs_ecs (e : En) (p q a : Value) : (ncs e p q a).toList = (ecs e).toList ++ [p, q, a] := rfl
theorem ncs_size (e : En) (p q a : Value) : (ncs e p q a).size = 23 := rfl
theorem hcs_20 (p q : Value) (m : Nat) : (hcs p q m)[20]? = some p := rfl
theorem hcs_21 (p q : Value) (m : Nat) : (hcs p q m)[21]? = some q := rfl
theorem hcs_23 (p q : Value) (m : Nat) : (hcs p q m)[23]? = some (.map (some m)) := rfl
theorem hcs_set20 (p q v : Value) (m : Nat) : (hcs p q m).setIfInBounds 20 v = hcs v q m := rfl
theorem hcs_set21 (p q v : Value) (m : Nat) : (hcs p q m).setIfInBounds 21 v = hcs p v m := rfl
theorem hcs_size (p q : Value) (m : Nat) : (hcs p q m).size = 24 := rfl

/-! ### Blocks -/
/-- A block that may be written: its cells. -/
def Blk (w : World) (b : Nat) (cs : Array Value) (t : TypeId) : Prop := w.heap[b]? = some (.cells cs t (0, 0))
theorem Blk.lt {w : World} {b : Nat} {cs : Array Value} {t : TypeId} (h : Blk w b cs t) : b < w.heap.size := (Array.getElem?_eq_some_iff.1 h).1
theorem Blk.cell {w : World} {b : Nat} {cs : Array Value} {t : TypeId} (h : Blk w b cs t) (i : Nat) : w.cell? ⟨b, i, none⟩ = cs[i]? := cell_of_row w b i cs t (0, 0) h
theorem Blk.frozen {w : World} {b : Nat} {cs : Array Value} {t : TypeId} (h : Blk w b cs t) (i : Nat) : w.frozen? ⟨b, i, none⟩ = false := frozen_of_row w b i cs t h
theorem Blk.new (w : World) (cs : Array Value) (t : TypeId) : Blk (w.alloc (.cells cs t)) w.heap.size cs t := heap_alloc_new w _
theorem Blk.old {w : World} {b : Nat} {cs : Array Value} {t : TypeId} (h : Blk w b cs t) (o : Obj) : Blk (w.alloc o) b cs t := (heap_alloc_old w o h.lt).trans h
theorem Blk.drew {w : World} {b : Nat} {cs : Array Value} {t : TypeId} (h : Blk w b cs t) : Blk w.drew b cs t := h
theorem Blk.set {w : World} {b : Nat} {cs : Array Value} {t : TypeId} (h : Blk w b cs t) (i : Nat) (v : Value) : Blk (w.setCell ⟨b, i, none⟩ v) b (cs.setIfInBounds i v) t := heap_setCell_same w b i cs t v h
theorem Blk.other {w : World} {b : Nat} {cs : Array Value} {t : TypeId} (h : Blk w b cs t) (a : Addr) (v : Value) (hne : b ≠ a.block) : Blk (w.setCell a v) b cs t := (heap_setCell_other w a b v hne).trans h
theorem Blk.below {w w' : World} {B b : Nat} {cs : Array Value} {t : TypeId} (h : Blk w b cs t) (hb : Below B w w') (hlt : b < B) : Blk w' b cs t := (hb.block b hlt).trans h
theorem Blk.call {w w' : World} {b : Nat} {cs : Array Value} {t : TypeId} (h : Blk w b cs t) (hb : Below w.heap.size w w') : Blk w' b cs t := h.below hb h.lt
theorem Blk.grown {w w' : World} {b : Nat} {cs : Array Value} {t : TypeId} {row : Option Nat} (h : Blk w b cs t) (hg : w.grownBy w' row) (hne : some b ≠ row) : Blk w' b cs t := (hg.block b h.lt hne).trans h

/-! ### Whole ones read, laid, boxed, built -/
def Ld (T : TypeId) (v : Value) : Sem Value := Instr.loadAt T v
def St (T : TypeId) (p v : Value) : Sem Unit := Instr.storeAt T p v
def Al (T : TypeId) : Sem Value := Instr.alloc T true (.tuple #[])
def Bx (T : TypeId) (v : Value) : Sem Value := Instr.box T v
def Bd (T : TypeId) (ps : Array (Nat × Value)) : Sem Value := Instr.build T ps
theorem ldE (v : Value) : Instr.loadAt 125 v = Ld 125 v := (rfl)
theorem ldT (v : Value) : Instr.loadAt 85 v = Ld 85 v := (rfl)
theorem ldD (v : Value) : Instr.loadAt 34 v = Ld 34 v := (rfl)
theorem stE (p v : Value) : Instr.storeAt 125 p v = St 125 p v := (rfl)
theorem stT (p v : Value) : Instr.storeAt 85 p v = St 85 p v := (rfl)
theorem stD (p v : Value) : Instr.storeAt 34 p v = St 34 p v := (rfl)
theorem alE : Instr.alloc 125 true (.tuple #[]) = Al 125 := (rfl)
theorem alT : Instr.alloc 85 true (.tuple #[]) = Al 85 := (rfl)
theorem alD : Instr.alloc 34 true (.tuple #[]) = Al 34 := (rfl)
theorem bxE (v : Value) : Instr.box 125 v = Bx 125 v := (rfl)
theorem bxT (v : Value) : Instr.box 85 v = Bx 85 v := (rfl)
theorem bxO (v : Value) : Instr.box 102 v = Bx 102 v := (rfl)
theorem bxN (v : Value) : Instr.box 127 v = Bx 127 v := (rfl)
theorem bxH (v : Value) : Instr.box 130 v = Bx 130 v := (rfl)
theorem bdT (ps : Array (Nat × Value)) : Instr.build 85 ps = Bd 85 ps := (rfl)
theorem bdO (ps : Array (Nat × Value)) : Instr.build 102 ps = Bd 102 ps := (rfl)
theorem bdN (ps : Array (Nat × Value)) : Instr.build 127 ps = Bd 127 ps := (rfl)
theorem bdH (ps : Array (Nat × Value)) : Instr.build 130 ps = Bd 130 ps := (rfl)

theorem infoE : (Try.prog.info? 125).map (fun i => (i.zero, i.size, i.bytes)) = some (some (.agg (ecs zeroE)), 20, 136) := by kernel_rfl
theorem infoT : (Try.prog.info? 85).map (fun i => (i.zero, i.size)) = some (some (.agg (tcs zeroT)), 24) := by kernel_rfl
theorem infoD : (Try.prog.info? 34).map (fun i => (i.zero, i.size)) = some (some (.agg (dcs zeroD)), 18) := by kernel_rfl
theorem sizeE : (Try.prog.info? 125).map (·.size) = some 20 := by kernel_rfl
theorem sizeT : (Try.prog.info? 85).map (·.size) = some 24 := by kernel_rfl
theorem sizeD : (Try.prog.info? 34).map (·.size) = some 18 := by kernel_rfl
theorem run_bx (T : TypeId) (cs : Array Value) (w : World) : (Bx T (.agg cs)).run Try.prog w = .ok (ptr w.heap.size) (w.alloc (.cells cs T)) := by
  unfold Bx
  simp [Instr.box, newVar, newRow, Value.cells, go_sem, ptr]
theorem run_al {T : TypeId} {z : Value} {n : Nat} (hi : (Try.prog.info? T).map (fun i => (i.zero, i.size)) = some (some z, n)) (w : World) : (Al T).run Try.prog w = .ok (ptr w.heap.size) (w.alloc (.cells z.cells T)) := by
  cases hq : Try.prog.info? T with
  | none => rw [hq] at hi; cases hi
  | some i =>
    rw [hq] at hi
    simp at hi
    unfold Al
    simp [Instr.alloc, zeroValue, typeInfo, hq, hi.1, newVar, newRow, go_sem, ptr]
theorem run_alE (w : World) : (Al 125).run Try.prog w = .ok (ptr w.heap.size) (w.alloc (.cells (ecs zeroE) 125)) := run_al (z := .agg (ecs zeroE)) (n := 20) (by kernel_rfl) w
theorem run_alT (w : World) : (Al 85).run Try.prog w = .ok (ptr w.heap.size) (w.alloc (.cells (tcs zeroT) 85)) := run_al infoT w
theorem run_alD (w : World) : (Al 34).run Try.prog w = .ok (ptr w.heap.size) (w.alloc (.cells (dcs zeroD) 34)) := run_al infoD w
/-- A whole one lies at an address. -/
def enAt (w : World) (b o : Nat) (e : En) : Prop := w.rangeAt b o (ecs e).toList
theorem run_ldE {w : World} {b o : Nat} {e : En} (h : enAt w b o e) : (Ld 125 (.pointer (some ⟨b, o, none⟩))).run Try.prog w = .ok (.agg (ecs e)) w := by
  have := run_loadAt_mid (P := Try.prog) w b o 125 (ecs e).toList _ h Try.underlying125 rfl sizeE
  simpa [Ld] using this
/-- The head of a block. -/
theorem Blk.range {w : World} {b : Nat} {cs : Array Value} {t : TypeId} (h : Blk w b cs t) {l r : List Value} (e : cs.toList = l ++ r) : w.rangeAt b 0 l := fun j v hv => by
  have hj : j < l.length := (List.getElem?_eq_some_iff.1 hv).1
  rw [Nat.zero_add, h.cell, ← Array.getElem?_toList, e, List.getElem?_append_left hj]
  exact hv
theorem run_ldR {w : World} {b : Nat} {t : Th} (h : w.rangeAt b 0 (tcs t).toList) : (Ld 85 (.pointer (some ⟨b, 0, none⟩))).run Try.prog w = .ok (.agg (tcs t)) w := by
  have := run_loadAt_mid (P := Try.prog) w b 0 85 _ _ h Try.underlying85 rfl sizeT
  simpa [Ld] using this
theorem run_ldT {w : World} {b : Nat} {t : Th} {T : TypeId} (h : Blk w b (tcs t) T) : (Ld 85 (.pointer (some ⟨b, 0, none⟩))).run Try.prog w = .ok (.agg (tcs t)) w := run_ldR (h.range (r := []) (by simp))
theorem run_ldO {w : World} {b : Nat} {t : Th} {pb : Nat} {T : TypeId} (h : Blk w b (ocs t pb) T) : (Ld 85 (.pointer (some ⟨b, 0, none⟩))).run Try.prog w = .ok (.agg (tcs t)) w := run_ldR (h.range (ocs_tcs t pb))
/-- A whole block is written anew. -/
theorem setRow_new (w : World) (c cs : Array Value) (t : TypeId) : (w.alloc (.cells c t)).setRow w.heap.size cs = w.alloc (.cells cs t) := by
  unfold World.setRow World.alloc
  simp only
  congr 1
  apply Array.ext_getElem?
  intro i
  rw [Array.getElem?_modify]
  by_cases h : w.heap.size = i
  · subst h
    simp
  · have h' : ¬ i = w.heap.size := fun e => h e.symm
    simp [h, h', Array.getElem?_push]
theorem run_st_row {w : World} {b : Nat} {T t : TypeId} {old cs : Array Value} (h : Blk w b old t) (hi : (Try.prog.info? T).map (·.size) = some cs.size) (hs : old.size = cs.size) (h1 : cs.all (·.oneCell') = true) : (St T (.pointer (some ⟨b, 0, none⟩)) (.agg cs)).run Try.prog w = .ok () (w.setRow b cs) := by
  have h := run_storeVar_row (P := Try.prog) w b t T old cs h hi hs h1
  unfold St
  simp only [Instr.storeAt, Instr.sureAddr, Sem.run_bind, Sem.run_pure, Result.andThen_ok, h]
theorem run_stE (w : World) (e o : En) : (St 125 (.pointer (some ⟨w.heap.size, 0, none⟩)) (.agg (ecs e))).run Try.prog (w.alloc (.cells (ecs o) 125)) = .ok () (w.alloc (.cells (ecs e) 125)) := by
  rw [run_st_row (Blk.new w (ecs o) _) (by rw [ecs_size]; exact sizeE) (by rw [ecs_size, ecs_size]) (ecs_one e), setRow_new]
theorem run_stT (w : World) (e o : Th) (h : e.ok) : (St 85 (.pointer (some ⟨w.heap.size, 0, none⟩)) (.agg (tcs e))).run Try.prog (w.alloc (.cells (tcs o) 85)) = .ok () (w.alloc (.cells (tcs e) 85)) := by
  rw [run_st_row (Blk.new w (tcs o) _) (by rw [tcs_size]; exact sizeT) (by rw [tcs_size, tcs_size]) (tcs_one h), setRow_new]
theorem run_stD (w : World) (e o : Ds) : (St 34 (.pointer (some ⟨w.heap.size, 0, none⟩)) (.agg (dcs e))).run Try.prog (w.alloc (.cells (dcs o) 34)) = .ok () (w.alloc (.cells (dcs e) 34)) := by
  rw [run_st_row (Blk.new w (dcs o) _) (by rw [dcs_size]; exact sizeD) (by rw [dcs_size, dcs_size]) (dcs_one e), setRow_new]
theorem Blk.row {w : World} {b : Nat} {old : Array Value} {t : TypeId} (h : Blk w b old t) (cs : Array Value) : Blk (w.setRow b cs) b cs t := setRow_heap w b old cs t _ h
theorem Blk.row_other {w : World} {b c : Nat} {old : Array Value} {t : TypeId} (h : Blk w b old t) (cs : Array Value) (hne : b ≠ c) : Blk (w.setRow c cs) b old t := (setRow_other w c b cs hne).trans h
theorem enAt_new (w : World) (e : En) (t : TypeId) : enAt (w.alloc (.cells (ecs e) t)) w.heap.size 0 e := fun j v hv => by
  rw [Nat.zero_add, (Blk.new w (ecs e) t).cell]
  simpa using hv
theorem enAt_below {B : Nat} {w w' : World} {b o : Nat} {e : En} (h : enAt w b o e) (hb : Below B w w') (hlt : b < B) : enAt w' b o e := fun j v hv => by
  rw [hb.cell (p := ⟨b, o + j, none⟩) hlt]
  exact h j v hv
theorem enAt_cell {w : World} {b o : Nat} {e : En} (h : enAt w b o e) (j : Nat) (v : Value) (hv : (ecs e)[j]? = some v) : w.cell? ⟨b, o + j, none⟩ = some v := h j v (by simpa using hv)
theorem enAt_node {w : World} {b : Nat} {e : En} {p q a : Value} {t : TypeId} (h : Blk w b (ncs e p q a) t) : enAt w b 0 e := by
  exact h.range (ncs_ecs e p q a)

/-! ### Built -/
theorem run_bdT0 (w : World) : (Bd 85 #[]).run Try.prog w = .ok (.agg (tcs zeroT)) w := run_build w _ _ _ (by kernel_rfl)
end Go.Proofs.Ytblbeinnfbohbaa.Hp

/-
  The small functions of package desc and of the reference: what they give.
-/
namespace Go.Proofs.Ytblbeinnfbohbaa.Des
open Go.RowKit Go.Proofs.Ytblbeinnfbohbaa.Vals
set_option linter.unusedVariables false
set_option linter.unusedSimpArgs false
attribute [local go_sem ↓] to_ldD to_stD run_eqD run_eqV0

attribute [local go_sem] n2 n3 m2 m3 rowD_drew rowD_drewN rowD_alloc rowD_putc rowD_other putD_drew putD_drewN putD_size putD_alloc setObj_cells run_ldD run_stD okC_dcs okC_lit objRow_dcs one_b one_i one_s objRow_lit dcs_0 dcs_1 dcs_2 dcs_3 dcs_4 dcs_5 dcs_6 dcs_7 dcs_8 dcs_9 dcs_10 dcs_11 dcs_12 dcs_13 dcs_14 dcs_15 dcs_16 dcs_17

attribute [local go_sem low] cell_rowD

/-- What the flags say. -/
def accF (d : Ds) : Bool := d.hg || d.hs
def datF (d : Ds) : Bool := d.hv || d.hw
def canF (v : Vl) : Bool := v.k == 0 || v.k == 6
end Go.Proofs.Ytblbeinnfbohbaa.Des

/-
  isOtherSort, keepsValue, keepsFunctions, keepsFixed: what they give.
-/
namespace Go.Proofs.Ytblbeinnfbohbaa.Des
open Go.RowKit Go.Proofs.Ytblbeinnfbohbaa.Vals
set_option linter.unusedVariables false
set_option linter.unusedSimpArgs false
attribute [local go_sem ↓] to_ldD to_stD run_eqD run_eqV0

attribute [local go_sem] n2 n3 m2 m3 rowD_drew rowD_drewN rowD_alloc rowD_putc rowD_other putD_drew putD_drewN putD_size putD_alloc setObj_cells run_ldD run_stD okC_dcs okC_lit objRow_dcs one_b one_i one_s objRow_lit dcs_0 dcs_1 dcs_2 dcs_3 dcs_4 dcs_5 dcs_6 dcs_7 dcs_8 dcs_9 dcs_10 dcs_11 dcs_12 dcs_13 dcs_14 dcs_15 dcs_16 dcs_17

attribute [local go_sem low] cell_rowD

def othF (d n : Ds) : Bool := datF d && accF n || accF d && datF n
def kvF (d n : Ds) : Bool := if d.hw && d.w then false else !d.hv || eqV d.v n.v
def kfF (d n : Ds) : Bool := if d.hg && !eqV d.g n.g then false else !d.hs || eqV d.s n.s
def kxF (d n : Ds) : Bool := if (d.hc && d.c) || (d.he && (d.e != n.e)) then false else if othF d n then false else if datF n then n.w || kvF d n else kfF d n
end Go.Proofs.Ytblbeinnfbohbaa.Des

/-
  replaced: what it gives.
-/
namespace Go.Proofs.Ytblbeinnfbohbaa.Des
open Go.RowKit Go.Proofs.Ytblbeinnfbohbaa.Vals
set_option linter.unusedVariables false
set_option linter.unusedSimpArgs false
attribute [local go_sem ↓] to_ldD to_stD run_eqD run_eqV0

attribute [local go_sem] n2 n3 m2 m3 rowD_drew rowD_drewN rowD_alloc rowD_putc rowD_other putD_drew putD_drewN putD_size putD_alloc setObj_cells run_ldD run_stD okC_dcs okC_lit objRow_dcs one_b one_i one_s objRow_lit dcs_0 dcs_1 dcs_2 dcs_3 dcs_4 dcs_5 dcs_6 dcs_7 dcs_8 dcs_9 dcs_10 dcs_11 dcs_12 dcs_13 dcs_14 dcs_15 dcs_16 dcs_17

attribute [local go_sem low] cell_rowD

theorem World.setCell_drewN (w : World) (n : Nat) (a : Addr) (v : Value) : (w.drewN n).setCell a v = (w.setCell a v).drewN n := rfl
theorem World.alloc_drewN (w : World) (n : Nat) (o : Obj) : (w.drewN n).alloc o = (w.alloc o).drewN n := rfl
theorem heap3 (w : World) (a b c : Obj) : (((w.alloc a).alloc b).alloc c).heap[w.heap.size + 1 + 1]? = some c := by
  have e2 : ((w.alloc a).alloc b).heap.size = w.heap.size + 1 + 1 := by simp
  have := heap_alloc_new ((w.alloc a).alloc b) c
  rw [e2] at this
  exact this
attribute [local go_sem] World.setCell_drewN World.alloc_drewN

def replF (x y : Ds) : Ds := ⟨y.hv || x.hv, y.hg || x.hg, y.hs || x.hs, y.hw || x.hw, y.he || x.he, y.hc || x.hc, ⟨cond y.hv y.v.k x.v.k, cond y.hv y.v.n x.v.n, cond y.hv y.v.s x.v.s⟩, ⟨cond y.hg y.g.k x.g.k, cond y.hg y.g.n x.g.n, cond y.hg y.g.s x.g.s⟩, ⟨cond y.hs y.s.k x.s.k, cond y.hs y.s.n x.s.n, cond y.hs y.s.s x.s.s⟩, cond y.hw y.w x.w, cond y.he y.e x.e, cond y.hc y.c x.c⟩
end Go.Proofs.Ytblbeinnfbohbaa.Des

/-
  A region whose callees make memory, walked once, in a class of worlds that keep some rows.
-/
namespace Go.Proofs.Ytblbeinnfbohbaa.Des
open Go.RowKit Go.Proofs.Ytblbeinnfbohbaa.Vals
set_option linter.unusedVariables false
set_option linter.unusedSimpArgs false
attribute [local go_sem ↓] to_ldD to_stD run_eqD run_eqV0

attribute [local go_sem] n2 n3 m2 m3 rowD_drew rowD_drewN rowD_alloc rowD_putc rowD_other putD_drew putD_drewN putD_size putD_alloc setObj_cells run_ldD run_stD okC_dcs okC_lit objRow_dcs one_b one_i one_s objRow_lit dcs_0 dcs_1 dcs_2 dcs_3 dcs_4 dcs_5 dcs_6 dcs_7 dcs_8 dcs_9 dcs_10 dcs_11 dcs_12 dcs_13 dcs_14 dcs_15 dcs_16 dcs_17

attribute [local go_sem low] cell_rowD

/-- The worlds of a class. -/
structure Wd (S : World → Prop) where
  w : World
  ok : S w
/-- What was there stays; these rows are kept. -/
def S1 (B : World) (l : List (Nat × Array Value)) : World → Prop := fun w' => Below B.heap.size B w' ∧ ∀ x ∈ l, rowD w' x.1 = some x.2
theorem S1.call {B : World} {l : List (Nat × Array Value)} {w w' : World} (h : S1 B l w) (hb : Below w.heap.size w w') : S1 B l w' := ⟨bel_keep hb h.1, fun x hx => rowD_call hb (h.2 x hx)⟩
theorem S1.drew {B : World} {l : List (Nat × Array Value)} {w : World} (h : S1 B l w) : S1 B l w.drew := ⟨bel_drew h.1, fun x hx => (rowD_drew _ _).trans (h.2 x hx)⟩
theorem s1_nil {B w : World} (h : Below B.heap.size B w) : S1 B [] w := ⟨h, fun x hx => by cases hx⟩
theorem s1_cons {B w : World} {g : Nat} {cs : Array Value} {l : List (Nat × Array Value)} (hr : rowD w g = some cs) (h : S1 B l w) : S1 B ((g, cs) :: l) w := ⟨h.1, fun x hx => by
  cases hx with
  | head => exact hr
  | tail _ hx => exact h.2 x hx⟩
theorem S1.row {B w : World} {g : Nat} {cs : Array Value} {l : List (Nat × Array Value)} (h : S1 B l w) (hm : (g, cs) ∈ l) : rowD w g = some cs := h.2 _ hm
theorem wd_row {B : World} {g : Nat} {cs : Array Value} {l : List (Nat × Array Value)} (hm : (g, cs) ∈ l) (p : Wd (S1 B l)) : rowD p.w g = some cs := p.ok.row hm
theorem region_in {P : Program} {id : Nat} {Q : Exit → Act → World → Prop} {a : Act} {w : World} {l : List Oper} {B : World} (rows : List (Nat × Array Value)) (hm : P.follows .mixedOrders = true) (hB : Region.lexB .any l.toArray = true) (h0 : S1 B rows w)
    (h : Nonempty (Wd (S1 B rows)) → wpQuiet P l.toArray (fun w' => ∃ p : Wd (S1 B rows), w' = p.w) (fun a' => ∀ w', (∃ p : Wd (S1 B rows), w' = p.w) → Q .normal a' w') l a) : (Code.region id l.toArray true).wp P Q a w :=
  wp_region_quiet (C := fun w' => ∃ p : Wd (S1 B rows), w' = p.w) hm hB ⟨⟨_, h0.drew⟩, rfl⟩ (by simpa using h ⟨⟨_, h0.drew⟩⟩)
theorem in_call {P : Program} {B : World} {rows : List (Nat × Array Value)} {f : FuncId} {args : Array Value} {v : Value} {p : Wd (S1 B rows)} (h : Calls P f args p.w fun e w' => e = .returned v ∧ Below p.w.heap.size p.w w') :
    Calls P f args p.w fun e w'' => e = .returned v ∧ ∃ q : Wd (S1 B rows), w'' = q.w := h.mono fun _ _ ⟨he, hb⟩ => ⟨he, ⟨⟨_, p.ok.call hb⟩, rfl⟩⟩
theorem in_out {S : World → Prop} {w' : World} (h : ∃ p : Wd S, w' = p.w) : S w' := by
  obtain ⟨p, rfl⟩ := h
  exact p.ok
end Go.Proofs.Ytblbeinnfbohbaa.Des

/-
  Right: what it gives.
-/
namespace Go.Proofs.Ytblbeinnfbohbaa.Des
open Go.RowKit Go.Proofs.Ytblbeinnfbohbaa.Vals
set_option linter.unusedVariables false
set_option linter.unusedSimpArgs false
attribute [local go_sem ↓] to_ldD to_stD run_eqD run_eqV0

attribute [local go_sem] n2 n3 m2 m3 rowD_drew rowD_drewN rowD_alloc rowD_putc rowD_other putD_drew putD_drewN putD_size putD_alloc setObj_cells run_ldD run_stD okC_dcs okC_lit objRow_dcs one_b one_i one_s objRow_lit dcs_0 dcs_1 dcs_2 dcs_3 dcs_4 dcs_5 dcs_6 dcs_7 dcs_8 dcs_9 dcs_10 dcs_11 dcs_12 dcs_13 dcs_14 dcs_15 dcs_16 dcs_17

attribute [local go_sem low] cell_rowD

def rigF (d : Ds) : Bool := if accF d && datF d then false else canF d.g && canF d.s && eqD (replF zeroD d) d
end Go.Proofs.Ytblbeinnfbohbaa.Des

/-
  The reference's RightDesc: what it gives.
-/
namespace Go.Proofs.Ytblbeinnfbohbaa.Des
open Go.RowKit Go.Proofs.Ytblbeinnfbohbaa.Vals
set_option linter.unusedVariables false
set_option linter.unusedSimpArgs false
attribute [local go_sem ↓] to_ldD to_stD run_eqD run_eqV0

attribute [local go_sem] n2 n3 m2 m3 rowD_drew rowD_drewN rowD_alloc rowD_putc rowD_other putD_drew putD_drewN putD_size putD_alloc setObj_cells run_ldD run_stD okC_dcs okC_lit objRow_dcs one_b one_i one_s objRow_lit dcs_0 dcs_1 dcs_2 dcs_3 dcs_4 dcs_5 dcs_6 dcs_7 dcs_8 dcs_9 dcs_10 dcs_11 dcs_12 dcs_13 dcs_14 dcs_15 dcs_16 dcs_17

attribute [local go_sem low] cell_rowD

theorem cell_call {w w' : World} {a : Addr} {v : Value} (hb : Below w.heap.size w w') (h : w.cell? a = some v) : w'.cell? a = some v := (hb.cell (World.block_lt_of_cell? w _ h)).trans h
def badF (d : Ds) : Bool := (accF d && datF d) || (d.hg && !canF d.g) || (d.hs && !canF d.s)
def rigR (d : Ds) : Bool := if badF d then false else (d.hv || eqV d.v zeroV) && (d.hg || eqV d.g zeroV) && (d.hs || eqV d.s zeroV) && (d.hw || !d.w) && (d.he || !d.e) && (d.hc || !d.c)
end Go.Proofs.Ytblbeinnfbohbaa.Des

/-
  Whole of both sides: what it gives.
-/
namespace Go.Proofs.Ytblbeinnfbohbaa.Des
open Go.RowKit Go.Proofs.Ytblbeinnfbohbaa.Vals
set_option linter.unusedVariables false
set_option linter.unusedSimpArgs false
attribute [local go_sem ↓] to_ldD to_stD run_eqD run_eqV0

attribute [local go_sem] n2 n3 m2 m3 rowD_drew rowD_drewN rowD_alloc rowD_putc rowD_other putD_drew putD_drewN putD_size putD_alloc setObj_cells run_ldD run_stD okC_dcs okC_lit objRow_dcs one_b one_i one_s objRow_lit dcs_0 dcs_1 dcs_2 dcs_3 dcs_4 dcs_5 dcs_6 dcs_7 dcs_8 dcs_9 dcs_10 dcs_11 dcs_12 dcs_13 dcs_14 dcs_15 dcs_16 dcs_17

attribute [local go_sem low] cell_rowD

def whF (d : Ds) : Bool := if !rigF d || !d.he || !d.hc then false else (d.hv && d.hw) || (d.hg && d.hs)
def whR (d : Ds) : Bool := rigR d && d.he && d.hc && ((d.hv && d.hw) || (d.hg && d.hs))
end Go.Proofs.Ytblbeinnfbohbaa.Des

/-
  cleared and the reference's Complete: what they give.
-/
namespace Go.Proofs.Ytblbeinnfbohbaa.Des
open Go.RowKit Go.Proofs.Ytblbeinnfbohbaa.Vals
set_option linter.unusedVariables false
set_option linter.unusedSimpArgs false
attribute [local go_sem ↓] to_ldD to_stD run_eqD run_eqV0

attribute [local go_sem] n2 n3 m2 m3 rowD_drew rowD_drewN rowD_alloc rowD_putc rowD_other putD_drew putD_drewN putD_size putD_alloc setObj_cells run_ldD run_stD okC_dcs okC_lit objRow_dcs one_b one_i one_s objRow_lit dcs_0 dcs_1 dcs_2 dcs_3 dcs_4 dcs_5 dcs_6 dcs_7 dcs_8 dcs_9 dcs_10 dcs_11 dcs_12 dcs_13 dcs_14 dcs_15 dcs_16 dcs_17

attribute [local go_sem low] cell_rowD

def clearF (d : Ds) : Ds := if accF d then ⟨d.hv, true, true, d.hw, true, true, d.v, zeroV, zeroV, d.w, false, false⟩ else ⟨true, d.hg, d.hs, true, true, true, zeroV, d.g, d.s, false, false, false⟩
def compR (d : Ds) : Ds := if accF d then ⟨d.hv, true, true, d.hw, true, true, d.v, d.g, d.s, d.w, d.e, d.c⟩ else ⟨true, d.hg, d.hs, true, true, true, d.v, d.g, d.s, d.w, d.e, d.c⟩
end Go.Proofs.Ytblbeinnfbohbaa.Des

/-
  Complete, converted, added: what they give.
-/
namespace Go.Proofs.Ytblbeinnfbohbaa.Des
open Go.RowKit Go.Proofs.Ytblbeinnfbohbaa.Vals
set_option linter.unusedVariables false
set_option linter.unusedSimpArgs false
attribute [local go_sem ↓] to_ldD to_stD run_eqD run_eqV0

attribute [local go_sem] n2 n3 m2 m3 rowD_drew rowD_drewN rowD_alloc rowD_putc rowD_other putD_drew putD_drewN putD_size putD_alloc setObj_cells run_ldD run_stD okC_dcs okC_lit objRow_dcs one_b one_i one_s objRow_lit dcs_0 dcs_1 dcs_2 dcs_3 dcs_4 dcs_5 dcs_6 dcs_7 dcs_8 dcs_9 dcs_10 dcs_11 dcs_12 dcs_13 dcs_14 dcs_15 dcs_16 dcs_17

attribute [local go_sem low] cell_rowD

def compF (d : Ds) : Ds := replF (clearF d) d
def convA (d : Ds) : Ds := ⟨false, datF d, false, false, true, true, zeroV, zeroV, zeroV, false, d.e, d.c⟩
def convF (d : Ds) : Ds := compF (convA d)
def addF (x : Bool) (d : Ds) : Ds := if x then compF d else zeroD
end Go.Proofs.Ytblbeinnfbohbaa.Des

/-
  Apply: what it gives.
-/
namespace Go.Proofs.Ytblbeinnfbohbaa.Des
open Go.RowKit Go.Proofs.Ytblbeinnfbohbaa.Vals
set_option linter.unusedVariables false
set_option linter.unusedSimpArgs false
attribute [local go_sem ↓] to_ldD to_stD run_eqD run_eqV0

attribute [local go_sem] n2 n3 m2 m3 rowD_drew rowD_drewN rowD_alloc rowD_putc rowD_other putD_drew putD_drewN putD_size putD_alloc setObj_cells run_ldD run_stD okC_dcs okC_lit objRow_dcs one_b one_i one_s objRow_lit dcs_0 dcs_1 dcs_2 dcs_3 dcs_4 dcs_5 dcs_6 dcs_7 dcs_8 dcs_9 dcs_10 dcs_11 dcs_12 dcs_13 dcs_14 dcs_15 dcs_16 dcs_17

attribute [local go_sem low] cell_rowD

def appF (x : Bool) (d : Ds) (h : Bool) (n : Ds) : Ds × Bool := if !rigF d || (h && !whF n) then (zeroD, false) else if !h then (addF x d, x) else if !n.c && !kxF d n then (zeroD, false) else (replF (if othF d n then convF n else n) d, true)
/-- The two results. -/
abbrev DB (r : Ds × Bool) : Value := .tuple #[DV r.1, .bool r.2]
theorem putl {B : World} {w1 : World} (hb : Below B.heap.size B w1) (g : Nat) (h : B.heap.size ≤ g) (cs : Array Value) : Below B.heap.size B (putD w1 g cs) := bel_put hb h cs
end Go.Proofs.Ytblbeinnfbohbaa.Des
