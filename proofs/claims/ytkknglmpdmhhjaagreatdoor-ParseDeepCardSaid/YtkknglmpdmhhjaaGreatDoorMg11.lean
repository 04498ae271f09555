/-
  Texts of this seat in build order: RgInv, LxMem.
-/
import Derived.Test.YtkknglmpdmhhjaaGreatDoorMg01
import Derived.Orders
import Derived.Test.YtkknglmpdmhhjaaGreatDoorMg09
import Derived.Test.YtkknglmpdmhhjaaGreatDoorMg10
import Derived.Laws.Tables
import Derived.Laws.Rows
import Derived.Laws.Cells
import Derived.Laws.ResultCell
import Derived.Laws.OwnMore
import Derived.Deep.MidRow
import Derived.KernelRfl
import Derived.Great.BuildSlice
/-
  A region that draws its order, by an invariant: one step an operation, whatever the order.
-/
namespace Go.Proofs.YtkknglmpdmhhjaaGreatDoor.Rg
open Go Go.RowKit
set_option linter.unusedVariables false
set_option linter.unusedSimpArgs false

/-- What an operation waits for. -/
def depsOf (md : Region.Mode) (ops : Array Oper) (i : Nat) : List Nat := ((ops[i]?).map fun o => (o.after.toList.filter (Region.binds md)).map (·.on)).getD []
def acyc (md : Region.Mode) (ops : Array Oper) : Bool := (List.range ops.size).all fun i => (depsOf md ops i).all fun d => decide (d < i)
section
variable {P : Program} {ops : Array Oper} {Q : Exit → Act → World → Prop} {md : Region.Mode}
theorem mem_deps {i d : Nat} {o : Oper} (ho : ops[i]? = some o) : d ∈ depsOf md ops i ↔ ∃ e ∈ o.after, Region.binds md e = true ∧ e.on = d := by
  simp [depsOf, ho, and_assoc]
theorem ready_iff {L : Array Bool} {i : Nat} : i ∈ Region.ready md ops L ↔ i < ops.size ∧ L.getD i true = false ∧ ∀ d ∈ depsOf md ops i, L.getD d false = true := by
  unfold Region.ready
  simp only [List.mem_filter, List.mem_range, Bool.and_eq_true, Bool.not_eq_true']
  constructor
  · rintro ⟨h1, h2, h3⟩
    refine ⟨h1, h2, fun d hd => ?_⟩
    have ho : ops[i]? = some ops[i] := Array.getElem?_eq_some_iff.2 ⟨h1, rfl⟩
    rw [ho] at h3
    simp only [Option.map_some, Option.getD_some, Array.all_eq_true_iff_forall_mem] at h3
    obtain ⟨e, he, hb, rfl⟩ := (mem_deps ho).1 hd
    have := h3 e he
    rw [hb] at this
    simpa using this
  · rintro ⟨h1, h2, h3⟩
    refine ⟨h1, h2, ?_⟩
    have ho : ops[i]? = some ops[i] := Array.getElem?_eq_some_iff.2 ⟨h1, rfl⟩
    rw [ho]
    simp only [Option.map_some, Option.getD_some, Array.all_eq_true_iff_forall_mem]
    intro e he
    cases hb : Region.binds md e with
    | false => rfl
    | true => simpa using h3 _ ((mem_deps ho).2 ⟨e, he, hb, rfl⟩)
theorem getD_set {L : Array Bool} {i j : Nat} (h : i ≠ j) (b : Bool) : (L.setIfInBounds i true).getD j b = L.getD j b := by
  simp [Array.getD_eq_getD_getElem?, Array.getElem?_setIfInBounds, h]
theorem all_of_stuck (hac : acyc md ops = true) {L : Array Bool} (hs : L.size = ops.size) (h : Region.ready md ops L = []) : ∀ i, i < ops.size → L.getD i false = true := by
  have hac' : ∀ i, i < ops.size → ∀ d ∈ depsOf md ops i, d < i := by
    intro i hi d hd
    unfold acyc at hac
    rw [List.all_eq_true] at hac
    have := hac i (List.mem_range.2 hi)
    rw [List.all_eq_true] at this
    simpa using this d hd
  intro i
  induction i using Nat.strongRecOn with
  | _ i ih =>
    intro hi
    cases hc : L.getD i true with
    | true =>
      have hl : i < L.size := by omega
      simp [Array.getD_eq_getD_getElem?, hl] at hc ⊢
      exact hc
    | false =>
      have : i ∈ Region.ready md ops L := ready_iff.2 ⟨hi, hc, fun d hd => ih d (hac' i hi d hd) (Nat.lt_trans (hac' i hi d hd) hi)⟩
      rw [h] at this
      cases this
def left (L : Array Bool) : Nat := L.toList.count false
theorem left_set {L : Array Bool} {i : Nat} (h : L.getD i true = false) : left (L.setIfInBounds i true) + 1 = left L := by
  have hl : i < L.size := by
    rcases Nat.lt_or_ge i L.size with h' | h'
    · exact h'
    · simp [Array.getD_eq_getD_getElem?, Array.getElem?_eq_none h'] at h
  have hv : L[i] = false := by simpa [Array.getD_eq_getD_getElem?, hl] using h
  unfold left
  simp only [Array.toList_setIfInBounds]
  have hl2 : i < L.toList.length := by simpa using hl
  rw [List.count_set hl2]
  have : L.toList[i] = false := by simpa using hv
  have hpos : 0 < L.toList.count false := List.count_pos_iff.2 (by rw [← this]; exact List.getElem_mem hl2)
  have hc : Array.count false L = L.toList.count false := by simp
  simp [hv]
  omega
theorem closed_set {L : Array Bool} {i : Nat} (hc : ∀ j, j < ops.size → L.getD j false = true → ∀ d ∈ depsOf md ops j, L.getD d false = true) (h3 : ∀ d ∈ depsOf md ops i, L.getD d false = true) : ∀ j, j < ops.size → (L.setIfInBounds i true).getD j false = true → ∀ d ∈ depsOf md ops j, (L.setIfInBounds i true).getD d false = true := by
  have up : ∀ d, L.getD d false = true → (L.setIfInBounds i true).getD d false = true := by
    intro d hd
    by_cases hid : i = d
    · subst hid
      have hl : i < L.size := by
        rcases Nat.lt_or_ge i L.size with h' | h'
        · exact h'
        · simp [Array.getD_eq_getD_getElem?, Array.getElem?_eq_none h'] at hd
      simp [Array.getD_eq_getD_getElem?, hl]
    · rw [getD_set hid]; exact hd
  intro j hj h d hd
  by_cases hij : i = j
  · subst hij
    exact up d (h3 d hd)
  · rw [getD_set hij] at h
    exact up d (hc j hj h d hd)
theorem getD_no {L : Array Bool} {i : Nat} (h : L.getD i true = false) : L.getD i false = false := by
  rcases Nat.lt_or_ge i L.size with h' | h'
  · simpa [Array.getD_eq_getD_getElem?, h'] using h
  · simp [Array.getD_eq_getD_getElem?, Array.getElem?_eq_none h'] at h
theorem getD_same {L : Array Bool} {i : Nat} (h : i < L.size) : (L.setIfInBounds i true).getD i false = true := by
  simp [Array.getD_eq_getD_getElem?, h]
theorem not_yet {L : Array Bool} {i : Nat} (h : L.getD i true = false) (k : L.getD i false = true) : False := by rw [getD_no h] at k; cases k
theorem memOf {l : List Nat} {d : Nat} (h : l.contains d = true) : d ∈ l := by simpa using h
theorem wpAny_inv (I : Array Bool → Act → World → Prop) (hac : acyc md ops = true)
    (hstep : ∀ i L a w, i < ops.size → (∀ d ∈ depsOf md ops i, L.getD d false = true) → L.getD i true = false → L.size = ops.size → (∀ j, j < ops.size → L.getD j false = true → ∀ d ∈ depsOf md ops j, L.getD d false = true) → I L a w → wpOp P ops Q i (I (L.setIfInBounds i true)) a w)
    (hend : ∀ L a w, (∀ i, i < ops.size → L.getD i false = true) → I L a w → Q .normal a w) :
    ∀ (fuel : Nat) (L : Array Bool) (a : Act) (w : World), L.size = ops.size → left L ≤ fuel → (∀ j, j < ops.size → L.getD j false = true → ∀ d ∈ depsOf md ops j, L.getD d false = true) → I L a w → wpAny P md ops Q fuel L a w
  | 0, L, a, w, hs, hf, hc, hI => by
    have hr : Region.ready md ops L = [] := by
      apply List.eq_nil_iff_forall_not_mem.2
      intro i hi
      have := left_set (ready_iff.1 hi).2.1
      omega
    exact ⟨hr, hend L a w (all_of_stuck hac hs hr) hI⟩
  | fuel + 1, L, a, w, hs, hf, hc, hI => by
    refine ⟨fun hr => hend L a w (all_of_stuck hac hs hr) hI, fun i hi => ?_⟩
    obtain ⟨h1, h2, h3⟩ := ready_iff.1 hi
    refine wpOp_mono (fun a' w' h => ?_) (hstep i L a w h1 h3 h2 hs hc hI)
    exact wpAny_inv I hac hstep hend fuel _ a' w' (by simpa using hs) (by have := left_set h2; omega) (closed_set hc h3) h
/-- The region, from the world behind the draw. -/
theorem region_inv {id : Nat} {a : Act} {w : World} (hm : P.follows .mixedOrders = true) (I : Array Bool → Act → World → Prop) (hac : acyc .any ops = true)
    (h0 : I (Array.replicate ops.size false) a w.drew)
    (hstep : ∀ i L a w, i < ops.size → (∀ d ∈ depsOf .any ops i, L.getD d false = true) → L.getD i true = false → L.size = ops.size → (∀ j, j < ops.size → L.getD j false = true → ∀ d ∈ depsOf .any ops j, L.getD d false = true) → I L a w → wpOp P ops Q i (I (L.setIfInBounds i true)) a w)
    (hend : ∀ L a w, (∀ i, i < ops.size → L.getD i false = true) → I L a w → Q .normal a w) : (Code.region id ops true).wp P Q a w :=
  wp_region_any hm (wpAny_inv I hac hstep hend _ _ _ _ (by simp) (by unfold left; refine Nat.le_trans List.count_le_length ?_; simp) (fun j hj h => by simp [Array.getD_eq_getD_getElem?, hj] at h) h0)
theorem step_run {i : Nat} {o : Oper} {K : Act → World → Prop} {a : Act} {w w' : World} {v : Value} (hi : ops[i]? = some o) (hg : o.guard = none) (hrun : (execOp a.eval o).run P w = .ok (.value v) w') (hK : K (a.put o.dst v) w') : wpOp P ops Q i K a w := by
  unfold wpOp
  simp only [hi]
  rw [if_pos (by simp [Region.wanted, hg])]
  left
  unfold Oper.wp
  rw [hrun]
  exact hK
theorem step_sk {i : Nat} {o : Oper} {K : Act → World → Prop} {a : Act} {w w' : World} (hi : ops[i]? = some o) (hg : o.guard = none) (hrun : (execOp a.eval o).run P w = .ok .skip w') (hK : K (a.put o.dst undef) w') : wpOp P ops Q i K a w := by
  unfold wpOp
  simp only [hi]
  rw [if_pos (by simp [Region.wanted, hg])]
  left
  unfold Oper.wp
  rw [hrun]
  exact hK
theorem step_call {i : Nat} {o : Oper} {K : Act → World → Prop} {a : Act} {w : World} {f : FuncId} {args : Array Value} {R : Ending → World → Prop} (hi : ops[i]? = some o) (hg : o.guard = none) (hrun : (execOp a.eval o).run P w = .ok (.enter f args) w) (hc : Calls P f args w R) (hR : ∀ e w', R e w' → ∃ v, e = .returned v ∧ K (a.put o.dst v) w') : wpOp P ops Q i K a w := by
  unfold wpOp
  simp only [hi]
  rw [if_pos (by simp [Region.wanted, hg])]
  left
  unfold Oper.wp
  rw [hrun]
  refine Calls.mono hc ?_
  intro e w' he
  obtain ⟨v, rfl, hk⟩ := hR e w' he
  exact hk
end
end Go.Proofs.YtkknglmpdmhhjaaGreatDoor.Rg

/-
  Tokens in memory: a whole one read, laid, made and built.
-/
namespace Go.Proofs.YtkknglmpdmhhjaaGreatDoor.Lx
open Go Go.RowKit Go.Proofs.YtkknglmpdmhhjaaGreatDoor.Uni
set_option linter.unusedVariables false
set_option linter.unusedSimpArgs false

abbrev ptr (b : Nat) : Value := .pointer (some ⟨b, 0, none⟩)
/-- A token with its place. -/
structure Tok where
  kind : Int
  pos : Int
  num : Int
  text : ByteArray
def zeroK : Tok := ⟨0, 0, 0, ⟨#[]⟩⟩
def kcs (t : Tok) : Array Value := #[.int .i64 t.kind, .int .i64 t.pos, .int .i64 t.num, .string t.text]
theorem kcs_size (t : Tok) : (kcs t).size = 4 := rfl
theorem kcs_0 (t : Tok) : (kcs t)[0]? = some (.int .i64 t.kind) := rfl
theorem kcs_1 (t : Tok) : (kcs t)[1]? = some (.int .i64 t.pos) := rfl
theorem kcs_2 (t : Tok) : (kcs t)[2]? = some (.int .i64 t.num) := rfl
theorem kcs_3 (t : Tok) : (kcs t)[3]? = some (.string t.text) := rfl
theorem kcs_set0 (t : Tok) (k : Int) : (kcs t).setIfInBounds 0 (.int .i64 k) = kcs { t with kind := k } := rfl
theorem kcs_one (t : Tok) : (kcs t).all (·.oneCell') = true := by simp [kcs, Value.oneCell']

def Blk (w : World) (b : Nat) (cs : Array Value) (t : TypeId) : Prop := w.heap[b]? = some (.cells cs t (0, 0))
theorem Blk.lt {w : World} {b : Nat} {cs : Array Value} {t : TypeId} (h : Blk w b cs t) : b < w.heap.size := (Array.getElem?_eq_some_iff.1 h).1
theorem Blk.cell {w : World} {b : Nat} {cs : Array Value} {t : TypeId} (h : Blk w b cs t) (i : Nat) : w.cell? ⟨b, i, none⟩ = cs[i]? := cell_of_row w b i cs t (0, 0) h
theorem Blk.frozen {w : World} {b : Nat} {cs : Array Value} {t : TypeId} (h : Blk w b cs t) (i : Nat) : w.frozen? ⟨b, i, none⟩ = false := frozen_of_row w b i cs t h
theorem Blk.new (w : World) (cs : Array Value) (t : TypeId) : Blk (w.alloc (.cells cs t)) w.heap.size cs t := heap_alloc_new w _
theorem Blk.old {w : World} {b : Nat} {cs : Array Value} {t : TypeId} (h : Blk w b cs t) (o : Obj) : Blk (w.alloc o) b cs t := (heap_alloc_old w o h.lt).trans h
theorem Blk.drew {w : World} {b : Nat} {cs : Array Value} {t : TypeId} (h : Blk w b cs t) : Blk w.drew b cs t := h
theorem Blk.drewN {w : World} {b : Nat} {cs : Array Value} {t : TypeId} (h : Blk w b cs t) (n : Nat) : Blk (w.drewN n) b cs t := h
theorem Blk.set {w : World} {b : Nat} {cs : Array Value} {t : TypeId} (h : Blk w b cs t) (i : Nat) (v : Value) : Blk (w.setCell ⟨b, i, none⟩ v) b (cs.setIfInBounds i v) t := heap_setCell_same w b i cs t v h
theorem Blk.other {w : World} {b : Nat} {cs : Array Value} {t : TypeId} (h : Blk w b cs t) (a : Addr) (v : Value) (hne : b ≠ a.block) : Blk (w.setCell a v) b cs t := (heap_setCell_other w a b v hne).trans h
theorem Blk.below {w w' : World} {B b : Nat} {cs : Array Value} {t : TypeId} (h : Blk w b cs t) (hb : Below B w w') (hlt : b < B) : Blk w' b cs t := (hb.block b hlt).trans h
theorem Blk.call {w w' : World} {b : Nat} {cs : Array Value} {t : TypeId} (h : Blk w b cs t) (hb : Below w.heap.size w w') : Blk w' b cs t := h.below hb h.lt
theorem Blk.gb {w w' : World} {g b : Nat} {cs : Array Value} {t : TypeId} (h : Blk w b cs t) (k : GB g w w') (hne : b ≠ g) : Blk w' b cs t := (k.block b h.lt (by simpa using hne)).trans h
theorem Blk.row {w : World} {b : Nat} {old : Array Value} {t : TypeId} (h : Blk w b old t) (cs : Array Value) : Blk (w.setRow b cs) b cs t := setRow_heap w b old cs t _ h
theorem Blk.row_other {w : World} {b c : Nat} {old : Array Value} {t : TypeId} (h : Blk w b old t) (cs : Array Value) (hne : b ≠ c) : Blk (w.setRow c cs) b old t := (setRow_other w c b cs hne).trans h
theorem Blk.range {w : World} {b : Nat} {cs : Array Value} {t : TypeId} (h : Blk w b cs t) {l r : List Value} (e : cs.toList = l ++ r) : w.rangeAt b 0 l := fun j v hv => by
  have hj : j < l.length := (List.getElem?_eq_some_iff.1 hv).1
  rw [Nat.zero_add, h.cell, ← Array.getElem?_toList, e, List.getElem?_append_left hj]
  exact hv
theorem size_setRow (w : World) (b : Nat) (cs : Array Value) : (w.setRow b cs).heap.size = w.heap.size := by simp [World.setRow]
theorem below_row {B : Nat} {w w' : World} (h : Below B w w') {b : Nat} (cs : Array Value) (hb : B ≤ b) : Below B w (w'.setRow b cs) := by
  refine ⟨h.os, h.tape, h.output, ?_, fun c hc => (setRow_other w' b c cs (by omega)).trans (h.block c hc)⟩
  rw [size_setRow]
  exact h.size
theorem setRow_new (w : World) (c cs : Array Value) (t : TypeId) : (w.alloc (.cells c t)).setRow w.heap.size cs = w.alloc (.cells cs t) := by
  unfold World.setRow World.alloc
  simp only
  congr 1
  apply Array.ext_getElem?
  intro i
  rw [Array.getElem?_modify]
  by_cases h : w.heap.size = i
  · subst h
    simp
  · have h' : ¬ i = w.heap.size := fun e => h e.symm
    simp [h, h', Array.getElem?_push]

theorem bl_alloc {w W : World} {o : Obj} (h : Below w.heap.size w W) : Below w.heap.size w (W.alloc o) := h.alloc h.size _
theorem bl_drew {w W : World} (h : Below w.heap.size w W) : Below w.heap.size w W.drew := h.drew
theorem bl_drewN {w W : World} {n : Nat} (h : Below w.heap.size w W) : Below w.heap.size w (W.drewN n) := below_drewN h n
theorem bel1 {w : World} {o : Obj} : Below w.heap.size w (w.alloc o) := bl_alloc (Below.refl _ w)

/-! ### The operations, by names -/
def Ld (T : TypeId) (v : Value) : Sem Value := Instr.loadAt T v
def St (T : TypeId) (p v : Value) : Sem Unit := Instr.storeAt T p v
def Al (T : TypeId) : Sem Value := Instr.alloc T true (.tuple #[])
def Bd (T : TypeId) (ps : Array (Nat × Value)) : Sem Value := Instr.build T ps
theorem ldK (v : Value) : Instr.loadAt 79 v = Ld 79 v := (rfl)
theorem stK (p v : Value) : Instr.storeAt 79 p v = St 79 p v := (rfl)
theorem alK : Instr.alloc 79 true (.tuple #[]) = Al 79 := (rfl)
theorem bdK (ps : Array (Nat × Value)) : Instr.build 79 ps = Bd 79 ps := (rfl)
theorem infoK : (Tryz.prog.info? 79).map (fun i => (i.zero, i.size)) = some (some (.agg (kcs zeroK)), 4) := by kernel_rfl
theorem infoK3 : (Tryz.prog.info? 79).map (fun i => (i.zero, i.size, i.bytes)) = some (some (.agg (kcs zeroK)), 4, 40) := by kernel_rfl
theorem sizeK : (Tryz.prog.info? 79).map (·.size) = some 4 := by kernel_rfl
theorem run_al {T : TypeId} {z : Value} {n : Nat} (hi : (Tryz.prog.info? T).map (fun i => (i.zero, i.size)) = some (some z, n)) (w : World) : (Al T).run Tryz.prog w = .ok (ptr w.heap.size) (w.alloc (.cells z.cells T)) := by
  cases hq : Tryz.prog.info? T with
  | none => rw [hq] at hi; cases hi
  | some i =>
    rw [hq] at hi
    simp at hi
    unfold Al
    simp [Instr.alloc, zeroValue, typeInfo, hq, hi.1, newVar, newRow, go_sem, ptr]
theorem run_alK (w : World) : (Al 79).run Tryz.prog w = .ok (ptr w.heap.size) (w.alloc (.cells (kcs zeroK) 79)) := run_al infoK w
theorem run_ldK {w : World} {b : Nat} {t : Tok} {T : TypeId} (h : Blk w b (kcs t) T) : (Ld 79 (.pointer (some ⟨b, 0, none⟩))).run Tryz.prog w = .ok (.agg (kcs t)) w := by
  have := run_loadAt_mid (P := Tryz.prog) w b 0 79 (kcs t).toList _ (h.range (r := []) (by simp)) Tryz.underlying79 rfl sizeK
  simpa [Ld] using this
theorem run_st_row {w : World} {b : Nat} {T t : TypeId} {old cs : Array Value} (h : Blk w b old t) (hi : (Tryz.prog.info? T).map (·.size) = some cs.size) (hs : old.size = cs.size) (h1 : cs.all (·.oneCell') = true) : (St T (.pointer (some ⟨b, 0, none⟩)) (.agg cs)).run Tryz.prog w = .ok () (w.setRow b cs) := by
  have h := run_storeVar_row (P := Tryz.prog) w b t T old cs h hi hs h1
  unfold St
  simp only [Instr.storeAt, Instr.sureAddr, Sem.run_bind, Sem.run_pure, Result.andThen_ok, h]
theorem run_stK {w : World} {b : Nat} {o t : Tok} (h : Blk w b (kcs o) 79) : (St 79 (.pointer (some ⟨b, 0, none⟩)) (.agg (kcs t))).run Tryz.prog w = .ok () (w.setRow b (kcs t)) :=
  run_st_row h (by rw [kcs_size]; exact sizeK) (by rw [kcs_size, kcs_size]) (kcs_one t)
theorem run_stKg (w : World) (g : Nat) (r o : Tok) (hg : g = w.heap.size) : (St 79 (.pointer (some ⟨g, 0, none⟩)) (.agg (kcs r))).run Tryz.prog (w.alloc (.cells (kcs o) 79)) = .ok () (w.alloc (.cells (kcs r) 79)) := by
  subst hg
  rw [run_stK (Blk.new w (kcs o) _), setRow_new]
theorem run_bdK0 (w : World) : (Bd 79 #[]).run Tryz.prog w = .ok (.agg (kcs zeroK)) w := run_build w _ _ _ (by kernel_rfl)
theorem run_bdKe (w : World) (k a : Int) : (Bd 79 #[(0, .int .i64 k), (1, .int .i64 a)]).run Tryz.prog w = .ok (.agg (kcs ⟨k, a, 0, ⟨#[]⟩⟩)) w := run_build w _ _ _ (by kernel_rfl)
theorem run_bdKs (w : World) (k a : Int) (s : ByteArray) : (Bd 79 #[(0, .int .i64 k), (1, .int .i64 a), (3, .string s)]).run Tryz.prog w = .ok (.agg (kcs ⟨k, a, 0, s⟩)) w := run_build w _ _ _ (by kernel_rfl)
theorem run_bdKn (w : World) (k a n : Int) : (Bd 79 #[(0, .int .i64 k), (1, .int .i64 a), (2, .int .i64 n)]).run Tryz.prog w = .ok (.agg (kcs ⟨k, a, n, ⟨#[]⟩⟩)) w := run_build w _ _ _ (by kernel_rfl)
/-- The results: a token in a cell, and a bool. -/
theorem res_K {fn : Func} {p q : Tmp} (h : fn.results = #[.cell p 79, .tmp q]) (tmps : Array Value) (w : World) (g : Nat) (t : Tok) (b : Value) (hp : tmps.getD p undef = .pointer (some ⟨g, 0, none⟩)) (hq : tmps.getD q undef = b) {T : TypeId} (hv : Blk w g (kcs t) T) : (results fn tmps).run Tryz.prog w = .ok (.tuple #[.agg (kcs t), b]) w := by
  have e1 := run_loadVar_row (P := Tryz.prog) w g T 79 (kcs t) (0, 0) _ hv Tryz.underlying79 rfl (by exact sizeK)
  have hp' : tmps[p]?.getD undef = .pointer (some ⟨g, 0, none⟩) := by simpa using hp
  have hq' : tmps[q]?.getD undef = b := by simpa using hq
  simp only [results, h]
  simp [Sem.run_bind, Result.andThen, hp', hq', asAddr, e1]

/-- What a method that reads a token gives. -/
def GotP (g : Nat) (t : ByteArray) (a : Nat) (w : World) (r : Got) (e : Ending) (w' : World) : Prop :=
  match r with
  | .ok tk l => e = .returned (.tuple #[.agg (kcs ⟨tk.kind, a, tk.num, tk.text⟩), .bool true]) ∧ ∃ b, l = t.data.toList.drop b ∧ On g t b w w'
  | .bad l => e = .returned (.tuple #[.agg (kcs zeroK), .bool false]) ∧ ∃ b, l = t.data.toList.drop b ∧ On g t b w w'
end Go.Proofs.YtkknglmpdmhhjaaGreatDoor.Lx
