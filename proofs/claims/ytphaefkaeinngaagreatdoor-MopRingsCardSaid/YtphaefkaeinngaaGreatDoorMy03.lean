/-
  Texts of this seat in build order: ArMem, HpMem, DeSmall, DeMid.
-/
import Derived.Test.YtphaefkaeinngaaGreatDoorMy01
import Derived.Test.YtphaefkaeinngaaGreatDoorMy02
import Derived.Laws.Tables
import Derived.Laws.Rows
import Derived.Laws.Cells
import Derived.Laws.StructEq
import Derived.Laws.OwnMore
import Derived.Great.BuildSlice
import Derived.Maps.AppendAt
import Derived.OwnWalk
import Derived.KernelRfl
import Derived.WalkArith
import Derived.Laws.ResultCell
import Derived.Deep.MidRow
import Derived.Maps.OwnSet
import Derived.Lib.Hide
import Derived.WalkKit
/-
  Properties of objects (a key and a descriptor): their shape, a whole one read out of and laid into memory, '==' of one with itself, lists of them.
-/
namespace Go.Proofs.YtphaefkaeinngaaGreatDoor.Arrs
open Go Go.RowKit Go.Maps Go.Proofs.YtphaefkaeinngaaGreatDoor.Nums Go.Proofs.YtphaefkaeinngaaGreatDoor.Keys
open Go.Proofs.YtphaefkaeinngaaGreatDoor.Des (Vl Ds dcs zeroV zeroD VV)
set_option linter.unusedVariables false
set_option linter.unusedSimpArgs false
structure En where
  ks : ByteArray
  kn : Int
  d : Ds
def ecs (e : En) : Array Value := #[.string e.ks, .int .i64 e.kn, .bool e.d.hv, .bool e.d.hg, .bool e.d.hs, .bool e.d.hw, .bool e.d.he, .bool e.d.hc, .int .i64 e.d.v.k, .int .i64 e.d.v.n, .string e.d.v.s, .int .i64 e.d.g.k, .int .i64 e.d.g.n, .string e.d.g.s, .int .i64 e.d.s.k, .int .i64 e.d.s.n, .string e.d.s.s, .bool e.d.w, .bool e.d.e, .bool e.d.c]
def zer : Array Value := #[.string ⟨#[]⟩, .int .i64 0, .bool false, .bool false, .bool false, .bool false, .bool false, .bool false, .int .i64 0, .int .i64 0, .string ⟨#[]⟩, .int .i64 0, .int .i64 0, .string ⟨#[]⟩, .int .i64 0, .int .i64 0, .string ⟨#[]⟩, .bool false, .bool false, .bool false]
theorem ecs_0 (e : En) : (ecs e)[0]? = some (.string e.ks) := rfl
theorem ecs_1 (e : En) : (ecs e)[1]? = some (.int .i64 e.kn) := rfl
theorem ecs_10 (e : En) : (ecs e)[10]? = some (.string e.d.v.s) := rfl
theorem ecs_19 (e : En) : (ecs e)[19]? = some (.bool e.d.c) := rfl
theorem ecs_size (e : En) : (ecs e).size = 20 := rfl
theorem zer_cells : (Value.agg zer).cells.size = 20 := rfl
theorem ecs_one (e : En) : (ecs e).all (·.oneCell') = true := by simp [ecs, Value.oneCell']
theorem ecs_list (e : En) : (ecs e).toList.length = 20 := rfl
theorem ecs_one' (e : En) : ∀ u ∈ (ecs e).toList, u.oneCell' = true := fun u hu => by
  have h := ecs_one e
  rw [Array.all_eq_true_iff_forall_mem] at h
  exact h u (by simpa using hu)
theorem infoE : (Tryz.prog.info? 36).map (fun i => (i.zero, i.size, i.bytes)) = some (some (.agg zer), 20, 136) := by kernel_rfl
theorem sizeE : (Tryz.prog.info? 36).map (·.size) = some 20 := by kernel_rfl
def enAt (w : World) (a : Addr) (e : En) : Prop := ∀ j v, (ecs e).toList[j]? = some v → w.cell? (a.add j) = some v
def ldE (v : Value) : Sem Value := Instr.loadAt 36 v
theorem to_ldE (v : Value) : Instr.loadAt 36 v = ldE v := (rfl)
theorem run_ldE {w : World} {a : Addr} {e : En} (h : enAt w a e) : (ldE (.pointer (some a))).run Tryz.prog w = .ok (.agg (ecs e)) w := by
  have hl := run_loadCells_list (P := Tryz.prog) (w := w) a (ecs e).toList h
  rw [ecs_list] at hl
  obtain ⟨i, hi, hz, hs, hb⟩ := info_parts infoE
  have hagg : (isAgg 36).run Tryz.prog w = .ok true w := by
    unfold isAgg
    rw [Sem.run_bind, run_underlying Tryz.underlying36 w]
    rfl
  unfold ldE
  simp [Instr.loadAt, Instr.sureAddr, loadVar, Sem.run_bind, hagg, sizeOf, typeInfo, hi, hs, hl]
def alE : Sem Value := Instr.alloc 36 true (.tuple #[])
theorem to_alE : Instr.alloc 36 true (.tuple #[]) = alE := (rfl)
theorem run_alE (w : World) : alE.run Tryz.prog w = .ok (.pointer (some ⟨w.heap.size, 0, none⟩)) (w.alloc (.cells zer 36)) := by
  obtain ⟨i, hi, hz, hs, hb⟩ := info_parts infoE
  unfold alE
  simp [Instr.alloc, zeroValue, typeInfo, hi, hz, newVar, newRow, go_sem]
def stE (p v : Value) : Sem Unit := Instr.storeAt 36 p v
theorem to_stE (p v : Value) : Instr.storeAt 36 p v = stE p v := (rfl)
theorem setRow_new (w : World) (c cs : Array Value) (t : TypeId) : (w.alloc (.cells c t)).setRow w.heap.size cs = w.alloc (.cells cs t) := by
  unfold World.setRow World.alloc
  simp only
  congr 1
  apply Array.ext_getElem?
  intro i
  rw [Array.getElem?_modify]
  by_cases h : w.heap.size = i
  · subst h
    simp
  · have h' : ¬ i = w.heap.size := fun e => h e.symm
    simp [h, h', Array.getElem?_push]
theorem run_stE (w : World) (e : En) : (stE (.pointer (some ⟨w.heap.size, 0, none⟩)) (.agg (ecs e))).run Tryz.prog (w.alloc (.cells zer 36)) = .ok () (w.alloc (.cells (ecs e) 36)) := by
  have h := run_storeVar_row (P := Tryz.prog) (w.alloc (.cells zer 36)) w.heap.size 36 36 zer (ecs e) (heap_alloc_new w _) (by rw [ecs_size]; exact sizeE) (by rw [ecs_size]; rfl) (ecs_one e)
  unfold stE
  simp only [Instr.storeAt, Instr.sureAddr, Sem.run_bind, Sem.run_pure, Result.andThen_ok, h, setRow_new]
def bsE (ps : Array (Nat × Value)) : Sem Value := Instr.buildSlice 37 1 ps
theorem to_bsE (ps : Array (Nat × Value)) : Instr.buildSlice 37 1 ps = bsE ps := (rfl)
theorem run_bsE (w : World) (e : En) : (bsE #[(0, .agg (ecs e))]).run Tryz.prog w = .ok (.slice (some ⟨w.heap.size, 0, none⟩) 1 1) (w.alloc (.cells (ecs e) 36)) := by
  obtain ⟨i, hi, hz, hs, hb⟩ := info_parts infoE
  exact run_buildSlice w 37 36 1 _ (ecs e) i (.agg zer) Tryz.underlying37 hi hz (by rw [hs]; decide) (by rw [hs]; decide) (by rw [hs]; have h := Go.Great.fill_whole (s := 20) (by decide) [.agg (ecs e)] ((Array.range (1 * 20)).map ((Value.agg zer).cells[· % (Value.agg zer).cells.size]!)) (fun v hv => by rw [List.mem_singleton.1 hv]; rfl) (by simp); simpa [Value.cells] using h)
theorem enAt_new (w : World) (e : En) (t : TypeId) : enAt (w.alloc (.cells (ecs e) t)) ⟨w.heap.size, 0, none⟩ e := fun j v hv => by
  have ha : (⟨w.heap.size, 0, none⟩ : Addr).add j = ⟨w.heap.size, j, none⟩ := by unfold Addr.add; split <;> simp_all
  rw [ha, cell_of_row (w.alloc (.cells (ecs e) t)) w.heap.size j (ecs e) t (0, 0) (heap_alloc_new w _)]
  simpa using hv
theorem enAt_below {B : Nat} {w w' : World} {a : Addr} {e : En} (h : enAt w a e) (hb : Below B w w') (ha : a.block < B) : enAt w' a e := fun j v hv => by
  have hbl : (a.add j).block = a.block := by unfold Addr.add; split <;> rfl
  rw [hb.cell (p := a.add j) (by rw [hbl]; exact ha)]
  exact h j v hv
theorem enAt_cell {w : World} {b o : Nat} {e : En} (h : enAt w ⟨b, o, none⟩ e) (j : Nat) (v : Value) (hv : (ecs e)[j]? = some v) : w.cell? ⟨b, o + j, none⟩ = some v := by
  have ha : (⟨b, o, none⟩ : Addr).add j = ⟨b, o + j, none⟩ := by unfold Addr.add; split <;> simp_all
  rw [← ha]
  exact h j v (by simpa using hv)
def cellsE (l : List En) : List Value := l.flatMap fun e => (ecs e).toList
theorem cellsE_append (a b : List En) : cellsE (a ++ b) = cellsE a ++ cellsE b := by simp [cellsE]
theorem cellsE_one (e : En) : cellsE [e] = (ecs e).toList := by simp [cellsE]
theorem cellsE_at (l : List En) : ∀ (j : Nat) (e : En), l[j]? = some e → ∀ k v, (ecs e).toList[k]? = some v → (cellsE l)[j * 20 + k]? = some v := by
  induction l with
  | nil => intro j e h; simp at h
  | cons a r ih =>
    intro j e h k v hv
    have e1 : cellsE (a :: r) = (ecs a).toList ++ cellsE r := rfl
    have hk : k < 20 := by have := (List.getElem?_eq_some_iff.1 hv).1; rw [ecs_list] at this; exact this
    cases j with
    | zero =>
      simp only [List.getElem?_cons_zero, Option.some.injEq] at h
      subst h
      rw [e1, List.getElem?_append_left (by rw [ecs_list]; omega), Nat.zero_mul, Nat.zero_add]
      exact hv
    | succ j =>
      rw [e1, List.getElem?_append_right (by rw [ecs_list]; omega), ecs_list, show (j + 1) * 20 + k - 20 = j * 20 + k by omega]
      exact ih j e (by simpa using h) k v hv
def EsAt (ao : Option Addr) (es : List En) (w : World) : Prop := ∀ j e, es[j]? = some e → ∃ b off, ao = some ⟨b, off, none⟩ ∧ b < w.heap.size ∧ enAt w ⟨b, off + j * 20, none⟩ e
theorem esAt_own {w : World} {base : Nat} {ao : Option Addr} {cp : Nat} {es : List En} (h : w.ownsRow base 36 20 (.slice ao es.length cp) es.length (cellsE es)) : EsAt ao es w := fun j e he => by
  have hj : j < es.length := (List.getElem?_eq_some_iff.1 he).1
  rcases h.2 with ⟨_, hn⟩ | ⟨g, cap, cur, hv, hb, hg, _⟩
  · omega
  · simp only [Value.slice.injEq] at hv
    obtain ⟨rfl, -, rfl⟩ := hv
    refine ⟨g, 0, rfl, (Array.getElem?_eq_some_iff.1 hg).1, fun k v hv => ?_⟩
    have hk : k < 20 := by have := (List.getElem?_eq_some_iff.1 hv).1; rw [ecs_list] at this; exact this
    have ha : (⟨g, 0 + j * 20, none⟩ : Addr).add k = ⟨g, j * 20 + k, none⟩ := by unfold Addr.add; split <;> simp_all
    rw [ha, h.cellAt _ (by omega)]
    exact cellsE_at es j e he k v hv
theorem EsAt.below {ao : Option Addr} {es : List En} {w w' : World} (h : EsAt ao es w) (hb : Below w.heap.size w w') : EsAt ao es w' := fun j e he => by
  obtain ⟨b, off, ha, hlt, hat⟩ := h j e he
  exact ⟨b, off, ha, Nat.lt_of_lt_of_le hlt hb.size, enAt_below hat hb hlt⟩
end Go.Proofs.YtphaefkaeinngaaGreatDoor.Arrs

/-
  Objects and properties in memory: their shapes, a whole one read, laid, boxed and built.
-/
namespace Go.Proofs.YtphaefkaeinngaaGreatDoor.Hp
open Go Go.RowKit Go.Maps Go.Proofs.YtphaefkaeinngaaGreatDoor.Keys
open Go.Proofs.YtphaefkaeinngaaGreatDoor.Des (Vl Ds zeroV zeroD dcs dcs_size dcs_one)
open Go.Proofs.YtphaefkaeinngaaGreatDoor.Arrs (En ecs ecs_0 ecs_1 ecs_10 ecs_size ecs_list ecs_one ecs_one')
set_option linter.unusedVariables false
set_option linter.unusedSimpArgs false
structure Th where
  kind : Int
  proto : Vl
  ext : Bool
  props : Value
  code : Int
  n : Int
  v : Vl
  tg : Vl
  hd : Vl
  ths : Vl
  args : Value
  calls : Bool
  makes : Bool
  env : Int
def zeroE : En := ⟨⟨#[]⟩, 0, zeroD⟩
abbrev nilS : Value := .slice none 0 0
def zeroT : Th := ⟨0, zeroV, false, nilS, 0, 0, zeroV, zeroV, zeroV, zeroV, nilS, false, false, 0⟩
def ekey (e : En) : KV := (e.ks, e.kn)
def tcs (t : Th) : Array Value := #[.int .i64 t.kind, .int .i64 t.proto.k, .int .i64 t.proto.n, .string t.proto.s, .bool t.ext, t.props, .int .i64 t.code, .int .i64 t.n, .int .i64 t.v.k, .int .i64 t.v.n, .string t.v.s, .int .i64 t.tg.k, .int .i64 t.tg.n, .string t.tg.s, .int .i64 t.hd.k, .int .i64 t.hd.n, .string t.hd.s, .int .i64 t.ths.k, .int .i64 t.ths.n, .string t.ths.s, t.args, .bool t.calls, .bool t.makes, .int .i64 t.env]
abbrev ptr (b : Nat) : Value := .pointer (some ⟨b, 0, none⟩)
abbrev nilP : Value := .pointer none
def ocs (t : Th) (pb : Nat) : Array Value := #[.int .i64 t.kind, .int .i64 t.proto.k, .int .i64 t.proto.n, .string t.proto.s, .bool t.ext, t.props, .int .i64 t.code, .int .i64 t.n, .int .i64 t.v.k, .int .i64 t.v.n, .string t.v.s, .int .i64 t.tg.k, .int .i64 t.tg.n, .string t.tg.s, .int .i64 t.hd.k, .int .i64 t.hd.n, .string t.hd.s, .int .i64 t.ths.k, .int .i64 t.ths.n, .string t.ths.s, t.args, .bool t.calls, .bool t.makes, .int .i64 t.env, ptr pb]
def ncs (e : En) (p q : Value) (a : Value) : Array Value := #[.string e.ks, .int .i64 e.kn, .bool e.d.hv, .bool e.d.hg, .bool e.d.hs, .bool e.d.hw, .bool e.d.he, .bool e.d.hc, .int .i64 e.d.v.k, .int .i64 e.d.v.n, .string e.d.v.s, .int .i64 e.d.g.k, .int .i64 e.d.g.n, .string e.d.g.s, .int .i64 e.d.s.k, .int .i64 e.d.s.n, .string e.d.s.s, .bool e.d.w, .bool e.d.e, .bool e.d.c, p, q, a]
def hcs (p q : Value) (m : Nat) : Array Value := #[.string ⟨#[]⟩, .int .i64 0, .bool false, .bool false, .bool false, .bool false, .bool false, .bool false, .int .i64 0, .int .i64 0, .string ⟨#[]⟩, .int .i64 0, .int .i64 0, .string ⟨#[]⟩, .int .i64 0, .int .i64 0, .string ⟨#[]⟩, .bool false, .bool false, .bool false, p, q, nilP, .map (some m)]
theorem tcs_size (t : Th) : (tcs t).size = 24 := rfl
theorem ocs_size (t : Th) (pb : Nat) : (ocs t pb).size = 25 := rfl
def Th.ok (t : Th) : Prop := (∃ a n c, t.props = .slice a n c) ∧ ∃ a n c, t.args = .slice a n c
theorem tcs_one {t : Th} (h : t.ok) : (tcs t).all (·.oneCell') = true := by
  obtain ⟨⟨a, n, c, h1⟩, ⟨a', n', c', h2⟩⟩ := h
  unfold tcs
  rw [h1, h2]
  simp [Value.oneCell']
theorem zeroT_ok : zeroT.ok := ⟨⟨_, _, _, rfl⟩, ⟨_, _, _, rfl⟩⟩
theorem tcs_0 (t : Th) : (tcs t)[0]? = some (.int .i64 t.kind) := rfl
theorem tcs_5 (t : Th) : (tcs t)[5]? = some t.props := rfl
theorem tcs_20 (t : Th) : (tcs t)[20]? = some t.args := rfl
theorem tcs_set5 (t : Th) (v : Value) : (tcs t).setIfInBounds 5 v = tcs { t with props := v } := rfl
theorem tcs_set20 (t : Th) (v : Value) : (tcs t).setIfInBounds 20 v = tcs { t with args := v } := rfl
theorem ocs_24 (t : Th) (pb : Nat) : (ocs t pb)[24]? = some (ptr pb) := rfl
theorem ocs_tcs (t : Th) (pb : Nat) : (ocs t pb).toList = (tcs t).toList ++ [ptr pb] := rfl
theorem ncs_20 (e : En) (p q a : Value) : (ncs e p q a)[20]? = some p := rfl
theorem ncs_21 (e : En) (p q a : Value) : (ncs e p q a)[21]? = some q := rfl
theorem ncs_22 (e : En) (p q a : Value) : (ncs e p q a)[22]? = some a := rfl
theorem ncs_set20 (e : En) (p q a v : Value) : (ncs e p q a).setIfInBounds 20 v = ncs e v q a := rfl
theorem ncs_set21 (e : En) (p q a v : Value) : (ncs e p q a).setIfInBounds 21 v = ncs e p v a := rfl
theorem ncs_ecs (e : En) (p q a : Value) : (ncs e p q a).toList = (ecs e).toList ++ [p, q, a] := rfl
theorem ncs_size (e : En) (p q a : Value) : (ncs e p q a).size = 23 := rfl
theorem hcs_20 (p q : Value) (m : Nat) : (hcs p q m)[20]? = some p := rfl
theorem hcs_21 (p q : Value) (m : Nat) : (hcs p q m)[21]? = some q := rfl
theorem hcs_23 (p q : Value) (m : Nat) : (hcs p q m)[23]? = some (.map (some m)) := rfl
theorem hcs_set20 (p q v : Value) (m : Nat) : (hcs p q m).setIfInBounds 20 v = hcs v q m := rfl
theorem hcs_set21 (p q v : Value) (m : Nat) : (hcs p q m).setIfInBounds 21 v = hcs p v m := rfl
def Blk (w : World) (b : Nat) (cs : Array Value) (t : TypeId) : Prop := w.heap[b]? = some (.cells cs t (0, 0))
theorem Blk.lt {w : World} {b : Nat} {cs : Array Value} {t : TypeId} (h : Blk w b cs t) : b < w.heap.size := (Array.getElem?_eq_some_iff.1 h).1
theorem Blk.cell {w : World} {b : Nat} {cs : Array Value} {t : TypeId} (h : Blk w b cs t) (i : Nat) : w.cell? ⟨b, i, none⟩ = cs[i]? := cell_of_row w b i cs t (0, 0) h
theorem Blk.frozen {w : World} {b : Nat} {cs : Array Value} {t : TypeId} (h : Blk w b cs t) (i : Nat) : w.frozen? ⟨b, i, none⟩ = false := frozen_of_row w b i cs t h
theorem Blk.new (w : World) (cs : Array Value) (t : TypeId) : Blk (w.alloc (.cells cs t)) w.heap.size cs t := heap_alloc_new w _
theorem Blk.old {w : World} {b : Nat} {cs : Array Value} {t : TypeId} (h : Blk w b cs t) (o : Obj) : Blk (w.alloc o) b cs t := (heap_alloc_old w o h.lt).trans h
theorem Blk.drew {w : World} {b : Nat} {cs : Array Value} {t : TypeId} (h : Blk w b cs t) : Blk w.drew b cs t := h
theorem Blk.set {w : World} {b : Nat} {cs : Array Value} {t : TypeId} (h : Blk w b cs t) (i : Nat) (v : Value) : Blk (w.setCell ⟨b, i, none⟩ v) b (cs.setIfInBounds i v) t := heap_setCell_same w b i cs t v h
theorem Blk.other {w : World} {b : Nat} {cs : Array Value} {t : TypeId} (h : Blk w b cs t) (a : Addr) (v : Value) (hne : b ≠ a.block) : Blk (w.setCell a v) b cs t := (heap_setCell_other w a b v hne).trans h
theorem Blk.below {w w' : World} {B b : Nat} {cs : Array Value} {t : TypeId} (h : Blk w b cs t) (hb : Below B w w') (hlt : b < B) : Blk w' b cs t := (hb.block b hlt).trans h
theorem Blk.call {w w' : World} {b : Nat} {cs : Array Value} {t : TypeId} (h : Blk w b cs t) (hb : Below w.heap.size w w') : Blk w' b cs t := h.below hb h.lt
theorem Blk.grown {w w' : World} {b : Nat} {cs : Array Value} {t : TypeId} {row : Option Nat} (h : Blk w b cs t) (hg : w.grownBy w' row) (hne : some b ≠ row) : Blk w' b cs t := (hg.block b h.lt hne).trans h
def Ld (T : TypeId) (v : Value) : Sem Value := Instr.loadAt T v
def St (T : TypeId) (p v : Value) : Sem Unit := Instr.storeAt T p v
def Al (T : TypeId) : Sem Value := Instr.alloc T true (.tuple #[])
def Bx (T : TypeId) (v : Value) : Sem Value := Instr.box T v
def Bd (T : TypeId) (ps : Array (Nat × Value)) : Sem Value := Instr.build T ps
theorem ldE (v : Value) : Instr.loadAt 36 v = Ld 36 v := (rfl)
theorem ldT (v : Value) : Instr.loadAt 39 v = Ld 39 v := (rfl)
theorem ldD (v : Value) : Instr.loadAt 34 v = Ld 34 v := (rfl)
theorem stE (p v : Value) : Instr.storeAt 36 p v = St 36 p v := (rfl)
theorem stT (p v : Value) : Instr.storeAt 39 p v = St 39 p v := (rfl)
theorem stD (p v : Value) : Instr.storeAt 34 p v = St 34 p v := (rfl)
theorem alE : Instr.alloc 36 true (.tuple #[]) = Al 36 := (rfl)
theorem alT : Instr.alloc 39 true (.tuple #[]) = Al 39 := (rfl)
theorem alD : Instr.alloc 34 true (.tuple #[]) = Al 34 := (rfl)
theorem bxE (v : Value) : Instr.box 36 v = Bx 36 v := (rfl)
theorem bxT (v : Value) : Instr.box 39 v = Bx 39 v := (rfl)
theorem bxO (v : Value) : Instr.box 107 v = Bx 107 v := (rfl)
theorem bxN (v : Value) : Instr.box 143 v = Bx 143 v := (rfl)
theorem bxH (v : Value) : Instr.box 146 v = Bx 146 v := (rfl)
theorem bdT (ps : Array (Nat × Value)) : Instr.build 39 ps = Bd 39 ps := (rfl)
theorem bdO (ps : Array (Nat × Value)) : Instr.build 107 ps = Bd 107 ps := (rfl)
theorem bdN (ps : Array (Nat × Value)) : Instr.build 143 ps = Bd 143 ps := (rfl)
theorem bdH (ps : Array (Nat × Value)) : Instr.build 146 ps = Bd 146 ps := (rfl)
theorem infoE : (Tryz.prog.info? 36).map (fun i => (i.zero, i.size, i.bytes)) = some (some (.agg (ecs zeroE)), 20, 136) := by kernel_rfl
theorem infoT : (Tryz.prog.info? 39).map (fun i => (i.zero, i.size)) = some (some (.agg (tcs zeroT)), 24) := by kernel_rfl
theorem infoD : (Tryz.prog.info? 34).map (fun i => (i.zero, i.size)) = some (some (.agg (dcs zeroD)), 18) := by kernel_rfl
theorem sizeE : (Tryz.prog.info? 36).map (·.size) = some 20 := by kernel_rfl
theorem sizeT : (Tryz.prog.info? 39).map (·.size) = some 24 := by kernel_rfl
theorem sizeD : (Tryz.prog.info? 34).map (·.size) = some 18 := by kernel_rfl
theorem run_bx (T : TypeId) (cs : Array Value) (w : World) : (Bx T (.agg cs)).run Tryz.prog w = .ok (ptr w.heap.size) (w.alloc (.cells cs T)) := by
  unfold Bx
  simp [Instr.box, newVar, newRow, Value.cells, go_sem, ptr]
theorem run_al {T : TypeId} {z : Value} {n : Nat} (hi : (Tryz.prog.info? T).map (fun i => (i.zero, i.size)) = some (some z, n)) (w : World) : (Al T).run Tryz.prog w = .ok (ptr w.heap.size) (w.alloc (.cells z.cells T)) := by
  cases hq : Tryz.prog.info? T with
  | none => rw [hq] at hi; cases hi
  | some i =>
    rw [hq] at hi
    simp at hi
    unfold Al
    simp [Instr.alloc, zeroValue, typeInfo, hq, hi.1, newVar, newRow, go_sem, ptr]
theorem run_alE (w : World) : (Al 36).run Tryz.prog w = .ok (ptr w.heap.size) (w.alloc (.cells (ecs zeroE) 36)) := run_al (z := .agg (ecs zeroE)) (n := 20) (by kernel_rfl) w
theorem run_alT (w : World) : (Al 39).run Tryz.prog w = .ok (ptr w.heap.size) (w.alloc (.cells (tcs zeroT) 39)) := run_al infoT w
theorem run_alD (w : World) : (Al 34).run Tryz.prog w = .ok (ptr w.heap.size) (w.alloc (.cells (dcs zeroD) 34)) := run_al infoD w
def enAt (w : World) (b o : Nat) (e : En) : Prop := w.rangeAt b o (ecs e).toList
theorem run_ldE {w : World} {b o : Nat} {e : En} (h : enAt w b o e) : (Ld 36 (.pointer (some ⟨b, o, none⟩))).run Tryz.prog w = .ok (.agg (ecs e)) w := by
  have := run_loadAt_mid (P := Tryz.prog) w b o 36 (ecs e).toList _ h Tryz.underlying36 rfl sizeE
  simpa [Ld] using this
theorem Blk.range {w : World} {b : Nat} {cs : Array Value} {t : TypeId} (h : Blk w b cs t) {l r : List Value} (e : cs.toList = l ++ r) : w.rangeAt b 0 l := fun j v hv => by
  have hj : j < l.length := (List.getElem?_eq_some_iff.1 hv).1
  rw [Nat.zero_add, h.cell, ← Array.getElem?_toList, e, List.getElem?_append_left hj]
  exact hv
theorem run_ldR {w : World} {b : Nat} {t : Th} (h : w.rangeAt b 0 (tcs t).toList) : (Ld 39 (.pointer (some ⟨b, 0, none⟩))).run Tryz.prog w = .ok (.agg (tcs t)) w := by
  have := run_loadAt_mid (P := Tryz.prog) w b 0 39 _ _ h Tryz.underlying39 rfl sizeT
  simpa [Ld] using this
theorem run_ldT {w : World} {b : Nat} {t : Th} {T : TypeId} (h : Blk w b (tcs t) T) : (Ld 39 (.pointer (some ⟨b, 0, none⟩))).run Tryz.prog w = .ok (.agg (tcs t)) w := run_ldR (h.range (r := []) (by simp))
theorem run_ldO {w : World} {b : Nat} {t : Th} {pb : Nat} {T : TypeId} (h : Blk w b (ocs t pb) T) : (Ld 39 (.pointer (some ⟨b, 0, none⟩))).run Tryz.prog w = .ok (.agg (tcs t)) w := run_ldR (h.range (ocs_tcs t pb))
theorem setRow_new (w : World) (c cs : Array Value) (t : TypeId) : (w.alloc (.cells c t)).setRow w.heap.size cs = w.alloc (.cells cs t) := by
  unfold World.setRow World.alloc
  simp only
  congr 1
  apply Array.ext_getElem?
  intro i
  rw [Array.getElem?_modify]
  by_cases h : w.heap.size = i
  · subst h
    simp
  · have h' : ¬ i = w.heap.size := fun e => h e.symm
    simp [h, h', Array.getElem?_push]
theorem run_st_row {w : World} {b : Nat} {T t : TypeId} {old cs : Array Value} (h : Blk w b old t) (hi : (Tryz.prog.info? T).map (·.size) = some cs.size) (hs : old.size = cs.size) (h1 : cs.all (·.oneCell') = true) : (St T (.pointer (some ⟨b, 0, none⟩)) (.agg cs)).run Tryz.prog w = .ok () (w.setRow b cs) := by
  have h := run_storeVar_row (P := Tryz.prog) w b t T old cs h hi hs h1
  unfold St
  simp only [Instr.storeAt, Instr.sureAddr, Sem.run_bind, Sem.run_pure, Result.andThen_ok, h]
theorem run_stE (w : World) (e o : En) : (St 36 (.pointer (some ⟨w.heap.size, 0, none⟩)) (.agg (ecs e))).run Tryz.prog (w.alloc (.cells (ecs o) 36)) = .ok () (w.alloc (.cells (ecs e) 36)) := by
  rw [run_st_row (Blk.new w (ecs o) _) (by rw [ecs_size]; exact sizeE) (by rw [ecs_size, ecs_size]) (ecs_one e), setRow_new]
theorem run_stT (w : World) (e o : Th) (h : e.ok) : (St 39 (.pointer (some ⟨w.heap.size, 0, none⟩)) (.agg (tcs e))).run Tryz.prog (w.alloc (.cells (tcs o) 39)) = .ok () (w.alloc (.cells (tcs e) 39)) := by
  rw [run_st_row (Blk.new w (tcs o) _) (by rw [tcs_size]; exact sizeT) (by rw [tcs_size, tcs_size]) (tcs_one h), setRow_new]
theorem run_stD (w : World) (e o : Ds) : (St 34 (.pointer (some ⟨w.heap.size, 0, none⟩)) (.agg (dcs e))).run Tryz.prog (w.alloc (.cells (dcs o) 34)) = .ok () (w.alloc (.cells (dcs e) 34)) := by
  rw [run_st_row (Blk.new w (dcs o) _) (by rw [dcs_size]; exact sizeD) (by rw [dcs_size, dcs_size]) (dcs_one e), setRow_new]
theorem Blk.row {w : World} {b : Nat} {old : Array Value} {t : TypeId} (h : Blk w b old t) (cs : Array Value) : Blk (w.setRow b cs) b cs t := setRow_heap w b old cs t _ h
theorem Blk.row_other {w : World} {b c : Nat} {old : Array Value} {t : TypeId} (h : Blk w b old t) (cs : Array Value) (hne : b ≠ c) : Blk (w.setRow c cs) b old t := (setRow_other w c b cs hne).trans h
theorem enAt_new (w : World) (e : En) (t : TypeId) : enAt (w.alloc (.cells (ecs e) t)) w.heap.size 0 e := fun j v hv => by
  rw [Nat.zero_add, (Blk.new w (ecs e) t).cell]
  simpa using hv
theorem enAt_below {B : Nat} {w w' : World} {b o : Nat} {e : En} (h : enAt w b o e) (hb : Below B w w') (hlt : b < B) : enAt w' b o e := fun j v hv => by
  rw [hb.cell (p := ⟨b, o + j, none⟩) hlt]
  exact h j v hv
theorem enAt_node {w : World} {b : Nat} {e : En} {p q a : Value} {t : TypeId} (h : Blk w b (ncs e p q a) t) : enAt w b 0 e := by
  exact h.range (ncs_ecs e p q a)
theorem run_bdT0 (w : World) : (Bd 39 #[]).run Tryz.prog w = .ok (.agg (tcs zeroT)) w := run_build w _ _ _ (by kernel_rfl)
end Go.Proofs.YtphaefkaeinngaaGreatDoor.Hp

/-
  The small functions of package desc and of the reference: what they give.
-/
namespace Go.Proofs.YtphaefkaeinngaaGreatDoor.Des
open Go.RowKit Go.Proofs.YtphaefkaeinngaaGreatDoor.Vals
set_option linter.unusedVariables false
set_option linter.unusedSimpArgs false
attribute [local go_sem ↓] to_ldD to_stD run_eqD run_eqV0
attribute [local go_sem] n2 n3 m2 m3 rowD_drew rowD_drewN rowD_alloc rowD_putc rowD_other putD_drew putD_drewN putD_size putD_alloc setObj_cells run_ldD run_stD okC_dcs okC_lit objRow_dcs one_b one_i one_s objRow_lit dcs_0 dcs_1 dcs_2 dcs_3 dcs_4 dcs_5 dcs_6 dcs_7 dcs_8 dcs_9 dcs_10 dcs_11 dcs_12 dcs_13 dcs_14 dcs_15 dcs_16 dcs_17
attribute [local go_sem low] cell_rowD
def accF (d : Ds) : Bool := d.hg || d.hs
def datF (d : Ds) : Bool := d.hv || d.hw
def canF (v : Vl) : Bool := v.k == 0 || v.k == 6
theorem acc_x (d : Ds) (w : World) : Calls Tryz.prog 116 #[DV d] w fun e w' => e = .returned (.bool (accF d)) ∧ w' = w.alloc (.cells (dcs d) 34) := by
  cases h : d.hg
  · go_enter Tryz.func116, Tryz.ntmps116
    go_wp2
    go_ret
    exact ⟨by simp [accF, h], rfl⟩
  · go_enter Tryz.func116, Tryz.ntmps116
    go_wp2
    go_ret
    exact ⟨by simp [accF, h], rfl⟩
theorem acc_any (d : Ds) (w : World) : Calls Tryz.prog 116 #[DV d] w fun e w' => e = .returned (.bool (accF d)) ∧ Below w.heap.size w w' :=
  (acc_x d w).mono fun e w' ⟨h1, h2⟩ => ⟨h1, h2 ▸ ball _ _⟩
theorem dat_x (d : Ds) (w : World) : Calls Tryz.prog 117 #[DV d] w fun e w' => e = .returned (.bool (datF d)) ∧ w' = w.alloc (.cells (dcs d) 34) := by
  cases h : d.hv
  · go_enter Tryz.func117, Tryz.ntmps117
    go_wp2
    go_ret
    exact ⟨by simp [datF, h], rfl⟩
  · go_enter Tryz.func117, Tryz.ntmps117
    go_wp2
    go_ret
    exact ⟨by simp [datF, h], rfl⟩
theorem dat_any (d : Ds) (w : World) : Calls Tryz.prog 117 #[DV d] w fun e w' => e = .returned (.bool (datF d)) ∧ Below w.heap.size w w' :=
  (dat_x d w).mono fun e w' ⟨h1, h2⟩ => ⟨h1, h2 ▸ ball _ _⟩
theorem can_any (v : Vl) (w : World) : Calls Tryz.prog 118 #[VV v] w fun e w' => e = .returned (.bool (canF v)) ∧ Below w.heap.size w w' := by
  cases h : (v.k == 0)
  · go_enter Tryz.func118, Tryz.ntmps118
    go_wp2
    go_ret
    exact ⟨by simp [canF, h], ball _ _⟩
  · go_enter Tryz.func118, Tryz.ntmps118
    go_wp2
    go_ret
    exact ⟨by simp [canF, h], ball _ _⟩
theorem same_any (a b : Vl) (w : World) : Calls Tryz.prog 131 #[VV a, VV b] w fun e w' => e = .returned (.bool (eqV a b)) ∧ Below w.heap.size w w' := by
  go_enter Tryz.func131, Tryz.ntmps131
  go_wp2
  go_ret
  exact ⟨rfl, two_bels _ _ _⟩
end Go.Proofs.YtphaefkaeinngaaGreatDoor.Des

/-
  isOtherSort, keepsValue, keepsFunctions, keepsFixed: what they give.
-/
namespace Go.Proofs.YtphaefkaeinngaaGreatDoor.Des
open Go.RowKit Go.Proofs.YtphaefkaeinngaaGreatDoor.Vals
set_option linter.unusedVariables false
set_option linter.unusedSimpArgs false
attribute [local go_sem ↓] to_ldD to_stD run_eqD run_eqV0
attribute [local go_sem] n2 n3 m2 m3 rowD_drew rowD_drewN rowD_alloc rowD_putc rowD_other putD_drew putD_drewN putD_size putD_alloc setObj_cells run_ldD run_stD okC_dcs okC_lit objRow_dcs one_b one_i one_s objRow_lit dcs_0 dcs_1 dcs_2 dcs_3 dcs_4 dcs_5 dcs_6 dcs_7 dcs_8 dcs_9 dcs_10 dcs_11 dcs_12 dcs_13 dcs_14 dcs_15 dcs_16 dcs_17
attribute [local go_sem low] cell_rowD
def othF (d n : Ds) : Bool := datF d && accF n || accF d && datF n
def kvF (d n : Ds) : Bool := if d.hw && d.w then false else !d.hv || eqV d.v n.v
def kfF (d n : Ds) : Bool := if d.hg && !eqV d.g n.g then false else !d.hs || eqV d.s n.s
def kxF (d n : Ds) : Bool := if (d.hc && d.c) || (d.he && (d.e != n.e)) then false else if othF d n then false else if datF n then n.w || kvF d n else kfF d n
set_option maxHeartbeats 2000000 in
theorem oth_any (d n : Ds) (w : World) : Calls Tryz.prog 166 #[DV d, DV n] w fun e w' => e = .returned (.bool (othF d n)) ∧ Below w.heap.size w w' := by
  go_enter Tryz.func166, Tryz.ntmps166
  go_wp2_with (first | (go_at_call 117; refine (dat_any _ _).mono ?_; rintro e w1 ⟨rfl, hb1⟩; have := rowD_call hb1 (show rowD _ (w.heap.size) = some (dcs d) by first | assumption | (simp [rowD_alloc, objRow_dcs, rowD_drew, n2, n3, m2, m3]; done) | (simp [rowD_drew, rowD_alloc, n2, n3, m2, m3, objRow_dcs, objRow_lit, rowD_putc, rowD_other, putD_size, okC_dcs, okC_lit, one_b, one_i, one_s, *]; done)); have := rowD_call hb1 (show rowD _ (w.heap.size + 1) = some (dcs n) by first | assumption | (simp [rowD_alloc, objRow_dcs, rowD_drew, n2, n3, m2, m3]; done) | (simp [rowD_drew, rowD_alloc, n2, n3, m2, m3, objRow_dcs, objRow_lit, rowD_putc, rowD_other, putD_size, okC_dcs, okC_lit, one_b, one_i, one_s, *]; done)); have hbw : Below w.heap.size w w1 := bel_keep hb1 (by first | assumption | exact two_bels _ _ _ | exact three_bels _ _ _ _ | exact ball _ _ | exact bel_drew (two_bels _ _ _) | exact bel_drew (three_bels _ _ _ _) | exact bel_drew (ball _ _) | exact bel_drew (by assumption) | exact bel_put (by assumption) (by omega) _); clear hb1) | (go_at_call 116; refine (acc_any _ _).mono ?_; rintro e w1 ⟨rfl, hb1⟩; have := rowD_call hb1 (show rowD _ (w.heap.size) = some (dcs d) by first | assumption | (simp [rowD_alloc, objRow_dcs, rowD_drew, n2, n3, m2, m3]; done) | (simp [rowD_drew, rowD_alloc, n2, n3, m2, m3, objRow_dcs, objRow_lit, rowD_putc, rowD_other, putD_size, okC_dcs, okC_lit, one_b, one_i, one_s, *]; done)); have := rowD_call hb1 (show rowD _ (w.heap.size + 1) = some (dcs n) by first | assumption | (simp [rowD_alloc, objRow_dcs, rowD_drew, n2, n3, m2, m3]; done) | (simp [rowD_drew, rowD_alloc, n2, n3, m2, m3, objRow_dcs, objRow_lit, rowD_putc, rowD_other, putD_size, okC_dcs, okC_lit, one_b, one_i, one_s, *]; done)); have hbw : Below w.heap.size w w1 := bel_keep hb1 (by first | assumption | exact two_bels _ _ _ | exact three_bels _ _ _ _ | exact ball _ _ | exact bel_drew (two_bels _ _ _) | exact bel_drew (three_bels _ _ _ _) | exact bel_drew (ball _ _) | exact bel_drew (by assumption) | exact bel_put (by assumption) (by omega) _); clear hb1))
  all_goals
    go_ret
    exact ⟨by first | (simp [othF, *]; done) | (cases hq1 : d.e <;> cases hq2 : n.e <;> simp_all [othF]), by first | assumption | exact two_bels _ _ _⟩
set_option maxHeartbeats 2000000 in
theorem kv_any (d n : Ds) (w : World) : Calls Tryz.prog 187 #[DV d, DV n] w fun e w' => e = .returned (.bool (kvF d n)) ∧ Below w.heap.size w w' := by
  go_enter Tryz.func187, Tryz.ntmps187
  go_wp2_with (first | (go_at_call 131; refine (same_any ⟨_, _, _⟩ ⟨_, _, _⟩ _).mono ?_; rintro e w1 ⟨rfl, hb1⟩; have := rowD_call hb1 (show rowD _ (w.heap.size) = some (dcs d) by first | assumption | (simp [rowD_alloc, objRow_dcs, rowD_drew, n2, n3, m2, m3]; done) | (simp [rowD_drew, rowD_alloc, n2, n3, m2, m3, objRow_dcs, objRow_lit, rowD_putc, rowD_other, putD_size, okC_dcs, okC_lit, one_b, one_i, one_s, *]; done)); have := rowD_call hb1 (show rowD _ (w.heap.size + 1) = some (dcs n) by first | assumption | (simp [rowD_alloc, objRow_dcs, rowD_drew, n2, n3, m2, m3]; done) | (simp [rowD_drew, rowD_alloc, n2, n3, m2, m3, objRow_dcs, objRow_lit, rowD_putc, rowD_other, putD_size, okC_dcs, okC_lit, one_b, one_i, one_s, *]; done)); have hbw : Below w.heap.size w w1 := bel_keep hb1 (by first | assumption | exact two_bels _ _ _ | exact three_bels _ _ _ _ | exact ball _ _ | exact bel_drew (two_bels _ _ _) | exact bel_drew (three_bels _ _ _ _) | exact bel_drew (ball _ _) | exact bel_drew (by assumption) | exact bel_put (by assumption) (by omega) _); clear hb1))
  all_goals
    go_ret
    exact ⟨by first | (simp [kvF, *]; done) | (cases hq1 : d.e <;> cases hq2 : n.e <;> simp_all [kvF]), by first | assumption | exact two_bels _ _ _⟩
set_option maxHeartbeats 2000000 in
theorem kf_any (d n : Ds) (w : World) : Calls Tryz.prog 188 #[DV d, DV n] w fun e w' => e = .returned (.bool (kfF d n)) ∧ Below w.heap.size w w' := by
  go_enter Tryz.func188, Tryz.ntmps188
  go_wp2_with (first | (go_at_call 131; refine (same_any ⟨_, _, _⟩ ⟨_, _, _⟩ _).mono ?_; rintro e w1 ⟨rfl, hb1⟩; have := rowD_call hb1 (show rowD _ (w.heap.size) = some (dcs d) by first | assumption | (simp [rowD_alloc, objRow_dcs, rowD_drew, n2, n3, m2, m3]; done) | (simp [rowD_drew, rowD_alloc, n2, n3, m2, m3, objRow_dcs, objRow_lit, rowD_putc, rowD_other, putD_size, okC_dcs, okC_lit, one_b, one_i, one_s, *]; done)); have := rowD_call hb1 (show rowD _ (w.heap.size + 1) = some (dcs n) by first | assumption | (simp [rowD_alloc, objRow_dcs, rowD_drew, n2, n3, m2, m3]; done) | (simp [rowD_drew, rowD_alloc, n2, n3, m2, m3, objRow_dcs, objRow_lit, rowD_putc, rowD_other, putD_size, okC_dcs, okC_lit, one_b, one_i, one_s, *]; done)); have hbw : Below w.heap.size w w1 := bel_keep hb1 (by first | assumption | exact two_bels _ _ _ | exact three_bels _ _ _ _ | exact ball _ _ | exact bel_drew (two_bels _ _ _) | exact bel_drew (three_bels _ _ _ _) | exact bel_drew (ball _ _) | exact bel_drew (by assumption) | exact bel_put (by assumption) (by omega) _); clear hb1))
  all_goals
    go_ret
    exact ⟨by first | (simp [kfF, *]; done) | (cases hq1 : d.e <;> cases hq2 : n.e <;> simp_all [kfF]), by first | assumption | exact two_bels _ _ _⟩
set_option maxHeartbeats 2000000 in
theorem kx_any (d n : Ds) (w : World) : Calls Tryz.prog 165 #[DV d, DV n] w fun e w' => e = .returned (.bool (kxF d n)) ∧ Below w.heap.size w w' := by
  go_enter Tryz.func165, Tryz.ntmps165
  go_wp2_with (first | (go_at_call 166; refine (oth_any _ _ _).mono ?_; rintro e w1 ⟨rfl, hb1⟩; have := rowD_call hb1 (show rowD _ (w.heap.size) = some (dcs d) by first | assumption | (simp [rowD_alloc, objRow_dcs, rowD_drew, n2, n3, m2, m3]; done) | (simp [rowD_drew, rowD_alloc, n2, n3, m2, m3, objRow_dcs, objRow_lit, rowD_putc, rowD_other, putD_size, okC_dcs, okC_lit, one_b, one_i, one_s, *]; done)); have := rowD_call hb1 (show rowD _ (w.heap.size + 1) = some (dcs n) by first | assumption | (simp [rowD_alloc, objRow_dcs, rowD_drew, n2, n3, m2, m3]; done) | (simp [rowD_drew, rowD_alloc, n2, n3, m2, m3, objRow_dcs, objRow_lit, rowD_putc, rowD_other, putD_size, okC_dcs, okC_lit, one_b, one_i, one_s, *]; done)); have hbw : Below w.heap.size w w1 := bel_keep hb1 (by first | assumption | exact two_bels _ _ _ | exact three_bels _ _ _ _ | exact ball _ _ | exact bel_drew (two_bels _ _ _) | exact bel_drew (three_bels _ _ _ _) | exact bel_drew (ball _ _) | exact bel_drew (by assumption) | exact bel_put (by assumption) (by omega) _); clear hb1) | (go_at_call 117; refine (dat_any _ _).mono ?_; rintro e w1 ⟨rfl, hb1⟩; have := rowD_call hb1 (show rowD _ (w.heap.size) = some (dcs d) by first | assumption | (simp [rowD_alloc, objRow_dcs, rowD_drew, n2, n3, m2, m3]; done) | (simp [rowD_drew, rowD_alloc, n2, n3, m2, m3, objRow_dcs, objRow_lit, rowD_putc, rowD_other, putD_size, okC_dcs, okC_lit, one_b, one_i, one_s, *]; done)); have := rowD_call hb1 (show rowD _ (w.heap.size + 1) = some (dcs n) by first | assumption | (simp [rowD_alloc, objRow_dcs, rowD_drew, n2, n3, m2, m3]; done) | (simp [rowD_drew, rowD_alloc, n2, n3, m2, m3, objRow_dcs, objRow_lit, rowD_putc, rowD_other, putD_size, okC_dcs, okC_lit, one_b, one_i, one_s, *]; done)); have hbw : Below w.heap.size w w1 := bel_keep hb1 (by first | assumption | exact two_bels _ _ _ | exact three_bels _ _ _ _ | exact ball _ _ | exact bel_drew (two_bels _ _ _) | exact bel_drew (three_bels _ _ _ _) | exact bel_drew (ball _ _) | exact bel_drew (by assumption) | exact bel_put (by assumption) (by omega) _); clear hb1) | (go_at_call 187; refine (kv_any _ _ _).mono ?_; rintro e w1 ⟨rfl, hb1⟩; have := rowD_call hb1 (show rowD _ (w.heap.size) = some (dcs d) by first | assumption | (simp [rowD_alloc, objRow_dcs, rowD_drew, n2, n3, m2, m3]; done) | (simp [rowD_drew, rowD_alloc, n2, n3, m2, m3, objRow_dcs, objRow_lit, rowD_putc, rowD_other, putD_size, okC_dcs, okC_lit, one_b, one_i, one_s, *]; done)); have := rowD_call hb1 (show rowD _ (w.heap.size + 1) = some (dcs n) by first | assumption | (simp [rowD_alloc, objRow_dcs, rowD_drew, n2, n3, m2, m3]; done) | (simp [rowD_drew, rowD_alloc, n2, n3, m2, m3, objRow_dcs, objRow_lit, rowD_putc, rowD_other, putD_size, okC_dcs, okC_lit, one_b, one_i, one_s, *]; done)); have hbw : Below w.heap.size w w1 := bel_keep hb1 (by first | assumption | exact two_bels _ _ _ | exact three_bels _ _ _ _ | exact ball _ _ | exact bel_drew (two_bels _ _ _) | exact bel_drew (three_bels _ _ _ _) | exact bel_drew (ball _ _) | exact bel_drew (by assumption) | exact bel_put (by assumption) (by omega) _); clear hb1) | (go_at_call 188; refine (kf_any _ _ _).mono ?_; rintro e w1 ⟨rfl, hb1⟩; have := rowD_call hb1 (show rowD _ (w.heap.size) = some (dcs d) by first | assumption | (simp [rowD_alloc, objRow_dcs, rowD_drew, n2, n3, m2, m3]; done) | (simp [rowD_drew, rowD_alloc, n2, n3, m2, m3, objRow_dcs, objRow_lit, rowD_putc, rowD_other, putD_size, okC_dcs, okC_lit, one_b, one_i, one_s, *]; done)); have := rowD_call hb1 (show rowD _ (w.heap.size + 1) = some (dcs n) by first | assumption | (simp [rowD_alloc, objRow_dcs, rowD_drew, n2, n3, m2, m3]; done) | (simp [rowD_drew, rowD_alloc, n2, n3, m2, m3, objRow_dcs, objRow_lit, rowD_putc, rowD_other, putD_size, okC_dcs, okC_lit, one_b, one_i, one_s, *]; done)); have hbw : Below w.heap.size w w1 := bel_keep hb1 (by first | assumption | exact two_bels _ _ _ | exact three_bels _ _ _ _ | exact ball _ _ | exact bel_drew (two_bels _ _ _) | exact bel_drew (three_bels _ _ _ _) | exact bel_drew (ball _ _) | exact bel_drew (by assumption) | exact bel_put (by assumption) (by omega) _); clear hb1))
  all_goals
    go_ret
    exact ⟨by first | (simp [kxF, *]; done) | (cases hq1 : d.e <;> cases hq2 : n.e <;> simp_all [kxF]), by first | assumption | exact two_bels _ _ _⟩
end Go.Proofs.YtphaefkaeinngaaGreatDoor.Des
