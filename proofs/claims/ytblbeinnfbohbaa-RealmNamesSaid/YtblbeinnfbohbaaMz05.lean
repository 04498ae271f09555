/-
  Texts of this seat in build order: HpMap, HpIns, HpLook, HpAll, HpBack.
-/
import Derived.Test.YtblbeinnfbohbaaMz04
import Derived.Deep.RegionWith
import Derived.WalkKit
import Derived.RangeFuncNested
import Derived.RangeFuncBound
import Derived.RangeFuncCalls
import Derived.RangeFuncLeaves
import Derived.RangeFuncBox
import Derived.Shelf.Abstract
import Derived.Shelf.RegionOpen
import Derived.OwnWalkIn
import Derived.TacticsInMore
import Derived.LoopNIn
import Derived.LoopIn
import Derived.LaidEql
/-
  The map of a ring: which block each key leads to.
-/
namespace Go.Proofs.Ytblbeinnfbohbaa.Hp
open Go Go.RowKit Go.Maps Go.Proofs.Ytblbeinnfbohbaa.Keys
open Go.Proofs.Ytblbeinnfbohbaa.Des (Vl Ds zeroV zeroD dcs dcs_size dcs_one)
open Go.Proofs.Ytblbeinnfbohbaa.Arrs (En ecs ecs_0 ecs_1 ecs_10 ecs_size ecs_list ecs_one ecs_one')
set_option linter.unusedVariables false
set_option linter.unusedSimpArgs false

/-- How a pointer reads: by its block. -/
def Rp : Value → Option (DataW Unit × List MemPlace)
  | .pointer none => some (.nil, [])
  | .pointer (some a) => if a = ⟨a.block, 0, none⟩ then some (.lit (.int .i64 a.block), []) else none
  | _ => none
def pto : Option Nat → Option Addr
  | none => none
  | some b => some ⟨b, 0, none⟩
def rd (o : Option Nat) : DataW Unit := match o with | none => .nil | some b => .lit (.int .i64 b)
theorem rp_pto (o : Option Nat) : Rp (.pointer (pto o)) = some (rd o, []) := by cases o <;> simp [Rp, pto, rd]
theorem rp_inv {v : Value} {o : Option Nat} {ps : List MemPlace} (h : Rp v = some (rd o, ps)) : v = .pointer (pto o) := by
  unfold Rp at h
  split at h
  · cases o with
    | none => rfl
    | some b => simp [rd] at h
  · rename_i a
    split at h
    · rename_i ha
      cases o with
      | none => simp [rd] at h
      | some b =>
        simp [rd] at h
        rw [ha]
        obtain ⟨h1, -⟩ := h
        have : a.block = b := by omega
        rw [this]
        rfl
    · cases h
  · cases h
/-- Block m is a map of at most n keys, each of which leads where f says. -/
def MapIs (w : World) (m n : Nat) (f : KV → Option Nat) : Prop := ∃ D, w.ownsMap Try.prog 91 Rp m n D ∧ ∀ k, Fine k → D.atKey (klit k) .nil = rd (f k)
theorem MapIs.lt {w : World} {m n : Nat} {f : KV → Option Nat} (h : MapIs w m n f) : m < w.heap.size := h.choose_spec.1.lt
theorem MapIs.obj {w : World} {m n : Nat} {f : KV → Option Nat} (h : MapIs w m n f) : ∃ es c, w.heap[m]? = some (.map es c) := by
  obtain ⟨D, ⟨es, c, h, _⟩, _⟩ := h
  exact ⟨es, c, h⟩
theorem MapIs.same {w w' : World} {m n : Nat} {f : KV → Option Nat} (h : MapIs w m n f) (hw : w'.heap[m]? = w.heap[m]?) : MapIs w' m n f := by
  obtain ⟨D, ⟨es, c, h, hr⟩, hf⟩ := h
  exact ⟨D, ⟨es, c, hw.trans h, hr⟩, hf⟩
theorem MapIs.below {w w' : World} {B m n : Nat} {f : KV → Option Nat} (h : MapIs w m n f) (hb : Below B w w') (hlt : m < B) : MapIs w' m n f := h.same (hb.block m hlt)
theorem MapIs.call {w w' : World} {m n : Nat} {f : KV → Option Nat} (h : MapIs w m n f) (hb : Below w.heap.size w w') : MapIs w' m n f := h.below hb h.lt
theorem MapIs.made (w : World) : MapIs (w.alloc (.map #[] 0)) w.heap.size 0 (fun _ => none) := ⟨_, World.ownsMap_made _ _ _ _, fun k _ => rfl⟩
theorem MapIs.mono {w : World} {m n n' : Nat} {f : KV → Option Nat} (h : MapIs w m n f) (hn : n ≤ n') : MapIs w m n' f := by
  obtain ⟨D, hd, hf⟩ := h
  exact ⟨D, hd.mono hn, hf⟩
theorem zeroP (w : World) : (zeroValue 123).run Try.prog w = .ok (.pointer none) w := by kernel_rfl
/-- What a key leads to. -/
theorem MapIs.look {w : World} {m n : Nat} {f : KV → Option Nat} (h : MapIs w m n f) {k : KV} (hk : Fine k) : (Instr.lookup 128 (.map (some m)) (.agg #[.string k.1, .int .i64 k.2]) false).run Try.prog w = .ok (.pointer (pto (f k))) w := by
  obtain ⟨D, hd, hf⟩ := h
  obtain ⟨v, ps, hrun, hv⟩ := hd.lookup (t := 128) (e := 123) law26 Try.underlying128 (zeroP w) (zd := .nil) (zp := []) rfl hk.key
  rw [hf k hk] at hv
  rw [hrun, rp_inv hv]
def upd (f : KV → Option Nat) (k : KV) (o : Option Nat) : KV → Option Nat := fun k' => if k' = k then o else f k'
theorem key_lit {k : KV} (hk : Fine k) : WideAt.IsKeyLit (klit k) := law26.key hk.key
/-- A key led anew. -/
theorem MapIs.store {w : World} {m n : Nat} {f : KV → Option Nat} (h : MapIs w m n f) (hn : n < maxLen) {k : KV} (hk : Fine k) (o : Option Nat) : ∃ w', (Instr.mapUpdate 128 (.map (some m)) (.agg #[.string k.1, .int .i64 k.2]) (.pointer (pto o))).run Try.prog w = .ok () w' ∧ MapIs w' m (n + 1) (upd f k o) ∧ w.mapTurned w' m := by
  obtain ⟨D, hd, hf⟩ := h
  obtain ⟨w', h1, h2, h3⟩ := hd.store (t := 128) (e := 123) law26 Try.underlying128 hn hk.key (rp_pto o)
  refine ⟨w', h1, ⟨_, h2, fun k' hk' => ?_⟩, h3⟩
  unfold upd
  by_cases e : k' = k
  · subst e
    rw [if_pos rfl, atKey_put_same hd.isMap (key_lit hk)]
  · rw [if_neg e, atKey_put_other (fun h => e (klit_inj hk' hk h)), hf k' hk']
theorem MapIs.del {w : World} {m n : Nat} {f : KV → Option Nat} (h : MapIs w m n f) {k : KV} (hk : Fine k) (ty : TypeId) : ∃ w', (Builtin.delete_ #[128, 91] ty #[.map (some m), .agg #[.string k.1, .int .i64 k.2]]).run Try.prog w = .ok (.tuple #[]) w' ∧ MapIs w' m n (upd f k none) ∧ w.mapTurned w' m := by
  obtain ⟨D, hd, hf⟩ := h
  obtain ⟨w', h1, h2, h3⟩ := hd.drop (t := 128) (e := 123) law26 Try.underlying128 hk.key ty
  refine ⟨w', h1, ⟨_, h2, fun k' hk' => ?_⟩, h3⟩
  unfold upd
  by_cases e : k' = k
  · subst e
    rw [if_pos rfl, atKey_del_same]
    rfl
  · rw [if_neg e, atKey_del_other (fun h => e (klit_inj hk' hk h)), hf k' hk']
theorem turned_other {w w' : World} {m b : Nat} (h : w.mapTurned w' m) (hne : b ≠ m) : w'.heap[b]? = w.heap[b]? := by
  obtain ⟨es, clock, es', clock', hb, rfl⟩ := h
  exact Go.ChangeMaps.heap_setBlock_other hb _ hne
theorem MapIs.len {w : World} {m n : Nat} {f : KV → Option Nat} (h : MapIs w m n f) (ty : TypeId) : ∃ c : Nat, c ≤ n ∧ (Builtin.len_ #[128] ty #[.map (some m)]).run Try.prog w = .ok (.int .i64 c) w := by
  obtain ⟨D, hd, hf⟩ := h
  exact ⟨_, hd.size_le, hd.len Try.underlying128 ty⟩

/-! ### Built -/
theorem run_bdN (w : World) (e : En) (p q a : Option Addr) : (Bd 127 #[(0, .agg (ecs e)), (1, .pointer p), (2, .pointer q), (3, .pointer a)]).run Try.prog w = .ok (.agg (ncs e (.pointer p) (.pointer q) (.pointer a))) w := run_build w _ _ _ (by kernel_rfl)
theorem run_bdH (w : World) (m : Nat) : (Bd 130 #[(1, .map (some m))]).run Try.prog w = .ok (.agg (hcs nilP nilP m)) w := run_build w _ _ _ (by kernel_rfl)
theorem run_bdO (w : World) (t : Th) (pb : Nat) : (Bd 102 #[(0, .agg (tcs t)), (1, .pointer (some ⟨pb, 0, none⟩))]).run Try.prog w = .ok (.agg (ocs t pb)) w := run_build w _ _ _ (by kernel_rfl)
theorem run_bdT1 (w : World) (n : Int) : (Bd 85 #[(0, .int .i64 n)]).run Try.prog w = .ok (.agg (tcs { zeroT with kind := n })) w := run_build w _ _ _ (by kernel_rfl)
theorem run_bdT5 (w : World) (n : Int) : (Bd 85 #[(5, .int .i64 n)]).run Try.prog w = .ok (.agg (tcs { zeroT with n := n })) w := run_build w _ _ _ (by kernel_rfl)
end Go.Proofs.Ytblbeinnfbohbaa.Hp

/-
  insert: a property goes into a ring.
-/
namespace Go.Proofs.Ytblbeinnfbohbaa.Hp
open Go Go.RowKit Go.Maps Go.Proofs.Ytblbeinnfbohbaa.Keys
open Go.Proofs.Ytblbeinnfbohbaa.Des (Vl Ds zeroV zeroD dcs dcs_size dcs_one)
open Go.Proofs.Ytblbeinnfbohbaa.Arrs (En ecs ecs_0 ecs_1 ecs_10 ecs_size ecs_list ecs_one ecs_one')
set_option linter.unusedVariables false
set_option linter.unusedSimpArgs false
attribute [local go_sem ↓] ldE bxE bxN bdN

attribute [local irreducible] ecs ncs hcs

attribute [local go_sem] run_bx run_bdN ecs_0 ecs_1 ncs_20 ncs_21 ncs_22 hcs_23

/-- The streams are as they were; no block has gone. -/
structure Fr (w w' : World) : Prop where
  os : w'.os = w.os
  tape : w'.tape = w.tape
  output : w'.output = w.output
  size : w.heap.size ≤ w'.heap.size
theorem Fr.refl (w : World) : Fr w w := ⟨rfl, rfl, rfl, Nat.le_refl _⟩
theorem Fr.trans {a b c : World} (h : Fr a b) (k : Fr b c) : Fr a c := ⟨k.os.trans h.os, k.tape.trans h.tape, k.output.trans h.output, Nat.le_trans h.size k.size⟩
theorem Fr.drew {a w : World} (h : Fr a w) : Fr a w.drew := ⟨h.os, h.tape, h.output, h.size⟩
theorem Fr.alloc {a w : World} (h : Fr a w) (o : Obj) : Fr a (w.alloc o) := h.trans ⟨rfl, rfl, rfl, by simp⟩
theorem Fr.set {a w : World} (h : Fr a w) (x : Addr) (v : Value) : Fr a (w.setCell x v) := h.trans ⟨rfl, rfl, rfl, by simp [World.setCell]⟩
theorem Fr.link {a w : World} (h : Fr a w) (x c : Nat) (f g : Value) : Fr a (link w x c f g) := (h.set _ _).set _ _
theorem Fr.turned {a w w' : World} {m : Nat} (h : Fr a w) (k : w.mapTurned w' m) : Fr a w' := h.trans ⟨k.grown.os, k.grown.tape, k.grown.output, k.grown.size⟩
theorem Fr.below {a w w' : World} {B : Nat} (h : Fr a w) (k : Below B w w') : Fr a w' := h.trans ⟨k.os, k.tape, k.output, k.size⟩
theorem Fr.grown {a w w' : World} {r : Option Nat} (h : Fr a w) (k : w.grownBy w' r) : Fr a w' := h.trans ⟨k.os, k.tape, k.output, k.size⟩
theorem link_cell (w : World) (a c : Nat) (f g : Value) (b i : Nat) (h0 : i ≠ 20) (h1 : i ≠ 21) : (link w a c f g).cell? ⟨b, i, none⟩ = w.cell? ⟨b, i, none⟩ := by
  unfold link
  rw [World.cell?_setCell_other _ _ _ _ (fun e => h0 (by cases e; rfl)), World.cell?_setCell_other _ _ _ _ (fun e => h1 (by cases e; rfl))]
theorem MapIs.drew {w : World} {m n : Nat} {f : KV → Option Nat} (h : MapIs w m n f) : MapIs w.drew m n f := h
theorem MapIs.old {w : World} {m n : Nat} {f : KV → Option Nat} (h : MapIs w m n f) (o : Obj) : MapIs (w.alloc o) m n f := h.same (heap_alloc_old w o h.lt)

/-- How insert ends. -/
def InsPost (w : World) (mb n A C : Nat) (f : KV → Option Nat) (e : En) (y : Ending) (w' : World) : Prop :=
  y = .returned (.tuple #[]) ∧ ∃ x, w.heap.size ≤ x ∧ Blk w' x (ncs e (ptr A) (ptr C) (.pointer (pto (f (ekey e))))) 127 ∧ MapIs w' mb (n + 1) (upd f (ekey e) (some x)) ∧
    (∀ b, b < w.heap.size → b ≠ mb → w'.heap[b]? = (link w A C (ptr x) (ptr x)).heap[b]?) ∧ Fr w w'

theorem link_heap {w w' : World} {a c b : Nat} {f g : Value} (h : w'.heap[b]? = w.heap[b]?) : (link w' a c f g).heap[b]? = (link w a c f g).heap[b]? := by
  unfold link
  simp only [World.setCell, Array.getElem?_modify, h]
theorem ins_post {w W1 W2 W3 w4 : World} {mb n A C : Nat} {f : KV → Option Nat} {e : En} {o1 : Obj} (h1 : w.alloc o1 = W1) (h2 : W1.alloc (.cells (ncs e (ptr A) (ptr C) (.pointer (pto (f (ekey e))))) 127) = W2)
    (h3 : link W2 A C (ptr (w.heap.size + 1)) (ptr (w.heap.size + 1)) = W3) (hA : A < w.heap.size) (hC : C < w.heap.size) (hmb : mb < w.heap.size) (hm : MapIs w4 mb (n + 1) (upd f (ekey e) (some (w.heap.size + 1)))) (ht : W3.drew.drew.drew.mapTurned w4 mb) :
    InsPost w mb n A C f e (.returned (.tuple #[])) w4 := by
  subst h1 h2 h3
  have e1 : (w.alloc o1).heap.size = w.heap.size + 1 := by simp
  have b2 := Blk.new (w.alloc o1) (ncs e (ptr A) (ptr C) (.pointer (pto (f (ekey e))))) 127
  rw [e1] at b2
  refine ⟨rfl, w.heap.size + 1, by omega, ?_, hm, fun b hb hne => ?_, ?_⟩
  · refine (turned_other ht (by omega)).trans ?_
    exact (link_other _ A C _ _ _ (by omega) (by omega)).trans b2
  · rw [turned_other ht hne]
    refine link_heap (w := w) ?_
    rw [heap_alloc_old _ _ (by rw [e1]; omega)]
    exact heap_alloc_old _ _ hb
  · refine Fr.turned ?_ ht
    exact ((((((Fr.refl w).alloc _).alloc _)).link _ _ _ _).drew).drew.drew

set_option maxRecDepth 100000 in
set_option maxHeartbeats 2000000 in
theorem insert_any (pb mb n A C : Nat) (f : KV → Option Nat) (e : En) (P Q vC : Value) (CA CC : Array Value) (tA tC : TypeId) (w : World) (hp : Blk w pb (hcs P Q mb) 130) (hA : Blk w A CA tA) (hA1 : CA[21]? = some (ptr C)) (hC : Blk w C CC tC) (hC1 : CC[20]? = some vC) (hm : MapIs w mb n f) (hn : n < 1000000) (hk : Fine (ekey e)) :
    Calls Try.prog 44 #[ptr pb, ptr A, .agg (ecs e)] w (InsPost w mb n A C f e) := by
  obtain ⟨W1, hW1⟩ : ∃ W1, w.alloc (.cells (ecs e) 125) = W1 := ⟨_, rfl⟩
  have k1 : W1.heap.size = w.heap.size + 1 := by rw [← hW1]; simp
  have le : (Ld 125 (.pointer (some ⟨w.heap.size, 0, none⟩))).run Try.prog W1.drew = .ok (.agg (ecs e)) W1.drew := by
    rw [← hW1]; exact run_ldE (w := (w.alloc _).drew) (enAt_new w e _)
  have pA : W1.cell? ⟨A, 21, none⟩ = some (.pointer (some ⟨C, 0, none⟩)) := by rw [← hW1, (hA.old _).cell]; exact hA1
  have pm : W1.cell? ⟨pb, 23, none⟩ = some (.map (some mb)) := by rw [← hW1, (hp.old _).cell, hcs_23]
  have k0 : W1.cell? ⟨w.heap.size, 0, none⟩ = some (.string e.ks) := by rw [← hW1, (Blk.new w _ _).cell, ecs_0]
  have k1' : W1.cell? ⟨w.heap.size, 1, none⟩ = some (.int .i64 e.kn) := by rw [← hW1, (Blk.new w _ _).cell, ecs_1]
  have hm1 : MapIs W1.drew mb n f := by rw [← hW1]; exact (hm.old _).drew
  obtain ⟨R, hR⟩ : ∃ R, pto (f (ekey e)) = R := ⟨_, rfl⟩
  have hl : (Instr.lookup 128 (.map (some mb)) (.agg #[.string e.ks, .int .i64 e.kn]) false).run Try.prog W1.drew = .ok (.pointer R) W1.drew := by rw [← hR]; exact hm1.look hk
  obtain ⟨W2, hW2⟩ : ∃ W2, W1.alloc (.cells (ncs e (.pointer (some ⟨A, 0, none⟩)) (.pointer (some ⟨C, 0, none⟩)) (.pointer R)) 127) = W2 := ⟨_, rfl⟩
  have k2 : W2.heap.size = w.heap.size + 2 := by rw [← hW2]; simp [k1]
  have b2 : Blk W2 (w.heap.size + 1) (ncs e (ptr A) (ptr C) (.pointer R)) 127 := by
    have := Blk.new W1 (ncs e (ptr A) (ptr C) (.pointer R)) 127
    rw [k1] at this
    rw [← hW2]; exact this
  have old : ∀ b, b < w.heap.size → W2.heap[b]? = w.heap[b]? := fun b hb => by
    rw [← hW2, heap_alloc_old _ _ (by omega), ← hW1]
    exact heap_alloc_old _ _ hb
  have bA : Blk W2 A CA tA := (old A hA.lt).trans hA
  have bC : Blk W2 C CC tC := (old C hC.lt).trans hC
  have bp : Blk W2 pb (hcs P Q mb) 130 := (old pb hp.lt).trans hp
  have c20 : W2.cell? ⟨w.heap.size + 1, 20, none⟩ = some (.pointer (some ⟨A, 0, none⟩)) := by rw [b2.cell, ncs_20]
  have c21 : W2.cell? ⟨w.heap.size + 1, 21, none⟩ = some (.pointer (some ⟨C, 0, none⟩)) := by rw [b2.cell, ncs_21]
  have sA : W2.cell? ⟨A, 21, none⟩ = some (.pointer (some ⟨C, 0, none⟩)) := by rw [bA.cell]; exact hA1
  have sC : W2.cell? ⟨C, 20, none⟩ = some vC := by rw [bC.cell]; exact hC1
  have sA2 : (W2.setCell ⟨C, 20, none⟩ (.pointer (some ⟨w.heap.size + 1, 0, none⟩))).cell? ⟨A, 21, none⟩ = some (.pointer (some ⟨C, 0, none⟩)) := by rw [World.cell?_setCell_other _ _ _ _ (by simp)]; exact sA
  have sC2 : (W2.setCell ⟨A, 21, none⟩ (.pointer (some ⟨w.heap.size + 1, 0, none⟩))).cell? ⟨C, 20, none⟩ = some vC := by rw [World.cell?_setCell_other _ _ _ _ (by simp)]; exact sC
  have nA : A ≠ w.heap.size + 1 := by have := hA.lt; omega
  have nC : C ≠ w.heap.size + 1 := by have := hC.lt; omega
  have d21 : (W2.setCell ⟨A, 21, none⟩ (.pointer (some ⟨w.heap.size + 1, 0, none⟩))).cell? ⟨w.heap.size + 1, 21, none⟩ = some (.pointer (some ⟨C, 0, none⟩)) := by rw [World.cell?_setCell_other _ _ _ _ (by simp [nA])]; exact c21
  have d20 : (W2.setCell ⟨C, 20, none⟩ (.pointer (some ⟨w.heap.size + 1, 0, none⟩))).cell? ⟨w.heap.size + 1, 20, none⟩ = some (.pointer (some ⟨A, 0, none⟩)) := by rw [World.cell?_setCell_other _ _ _ _ (by simp [nC])]; exact c20
  have fA := bA.frozen 21
  have fC := bC.frozen 20
  obtain ⟨W3, hW3⟩ : ∃ W3, link W2 A C (ptr (w.heap.size + 1)) (ptr (w.heap.size + 1)) = W3 := ⟨_, rfl⟩
  have hlk1 : (W2.setCell ⟨A, 21, none⟩ (.pointer (some ⟨w.heap.size + 1, 0, none⟩))).setCell ⟨C, 20, none⟩ (.pointer (some ⟨w.heap.size + 1, 0, none⟩)) = W3 := hW3
  have hlk2 : (W2.setCell ⟨C, 20, none⟩ (.pointer (some ⟨w.heap.size + 1, 0, none⟩))).setCell ⟨A, 21, none⟩ (.pointer (some ⟨w.heap.size + 1, 0, none⟩)) = W3 := by rw [setCell_comm]; exact hW3
  have g0 : W3.cell? ⟨w.heap.size, 0, none⟩ = some (.string e.ks) := by rw [← hW3, link_cell _ _ _ _ _ _ _ (by omega) (by omega), ← hW2, World.cell?_alloc_lt _ _ _ (by show w.heap.size < _; omega)]; exact k0
  have g1 : W3.cell? ⟨w.heap.size, 1, none⟩ = some (.int .i64 e.kn) := by rw [← hW3, link_cell _ _ _ _ _ _ _ (by omega) (by omega), ← hW2, World.cell?_alloc_lt _ _ _ (by show w.heap.size < _; omega)]; exact k1'
  have g2 : W3.cell? ⟨pb, 23, none⟩ = some (.map (some mb)) := by rw [← hW3, link_cell _ _ _ _ _ _ _ (by omega) (by omega), bp.cell, hcs_23]
  have hm3 : MapIs W3.drew.drew.drew mb n f := by
    obtain ⟨es, c, ho⟩ := hm.obj
    refine hm.same ?_
    show W3.heap[mb]? = _
    have hob : W2.heap[mb]? = some (.map es c) := (old mb hm.lt).trans ho
    rw [← hW3, ho]
    have n1 : mb ≠ A := fun e => by rw [e, show W2.heap[A]? = _ from bA] at hob; cases hob
    have n2 : mb ≠ C := fun e => by rw [e, show W2.heap[C]? = _ from bC] at hob; cases hob
    rw [link_other _ _ _ _ _ _ n1 n2, hob]
  obtain ⟨w4, hst, hm4, ht4⟩ := hm3.store (by unfold maxLen; omega) hk (some (w.heap.size + 1))
  have hst' : (Instr.mapUpdate 128 (.map (some mb)) (.agg #[.string e.ks, .int .i64 e.kn]) (.pointer (some ⟨w.heap.size + 1, 0, none⟩))).run Try.prog W3.drew.drew.drew = .ok () w4 := hst
  have hend : Hid (InsPost w mb n A C f e (.returned (.tuple #[])) w4) := by
    refine ins_post hW1 (by rw [hR]; exact hW2) hW3 hA.lt hC.lt hm.lt hm4 ht4
  clear nA nC hst hm4 ht4 hm3 hW3 bp bA bC old b2 hm1 hm hC hA hp hR hC1 hA1 hk hn
  go_enter Try.func44, Try.ntmps44
  go_wp2
  go_region
  go_wp2
  go_region
  all_goals go_wp2
  all_goals go_region
  all_goals go_wp2
  all_goals go_end0
  all_goals exact hend.out
end Go.Proofs.Ytblbeinnfbohbaa.Hp

/-
  A ring with its map: what insert leaves of both.
-/
namespace Go.Proofs.Ytblbeinnfbohbaa.Hp
open Go Go.RowKit Go.Maps Go.Proofs.Ytblbeinnfbohbaa.Keys
open Go.Proofs.Ytblbeinnfbohbaa.Des (Vl Ds zeroV zeroD dcs dcs_size dcs_one)
open Go.Proofs.Ytblbeinnfbohbaa.Arrs (En ecs ecs_0 ecs_1 ecs_10 ecs_size ecs_list ecs_one ecs_one')
set_option linter.unusedVariables false
set_option linter.unusedSimpArgs false

/-- Where the first property with a key lies. -/
def look (ns : List Nd) (k : KV) : Option Nat := (ns.find? fun n => decide (ekey n.e = k)).map (·.b)
theorem look_cons (n : Nd) (ns : List Nd) : upd (look ns) (ekey n.e) (some n.b) = look (n :: ns) := by
  funext k
  unfold upd look
  rw [List.find?_cons]
  by_cases h : k = ekey n.e
  · subst h
    simp
  · have h' : ¬ ekey n.e = k := fun e => h e.symm
    simp [h, h']
theorem look_none {ns : List Nd} {k : KV} : look ns k = none ↔ ∀ n ∈ ns, ekey n.e ≠ k := by
  unfold look
  rw [Option.map_eq_none_iff, List.find?_eq_none]
  simp
theorem look_snoc {n : Nd} {ns : List Nd} (h : look ns (ekey n.e) = none) : upd (look ns) (ekey n.e) (some n.b) = look (ns ++ [n]) := by
  funext k
  unfold upd
  by_cases hk : k = ekey n.e
  · subst hk
    rw [if_pos rfl]
    unfold look at h ⊢
    rw [Option.map_eq_none_iff] at h
    rw [List.find?_append, h]
    simp
  · rw [if_neg hk]
    have h' : ¬ ekey n.e = k := fun e => hk e.symm
    unfold look
    rw [List.find?_append]
    simp [h']

theorem Ring.notmap {w : World} {pb mb n : Nat} {f : KV → Option Nat} {ns : List Nd} (h : Ring w pb mb ns) (hm : MapIs w mb n f) : mb ∉ blks pb ns := fun hb => by
  obtain ⟨es, c, ho⟩ := hm.obj
  rcases List.mem_cons.1 hb with rfl | hb
  · rw [show w.heap[mb]? = _ from h.head] at ho; cases ho
  · obtain ⟨n, hn, rfl⟩ := List.mem_map.1 hb
    obtain ⟨p, q, hq⟩ := seg_at n h.seg hn
    rw [show w.heap[n.b]? = _ from hq] at ho
    cases ho
/-- Every block of a ring holds cells. -/
theorem Ring.cells {w : World} {pb mb : Nat} {ns : List Nd} (h : Ring w pb mb ns) : ∀ b ∈ blks pb ns, ∃ cs t, Blk w b cs t ∧ (t = 127 ∨ t = 130) := fun b hb => by
  rcases List.mem_cons.1 hb with rfl | hb
  · exact ⟨_, _, h.head, .inr rfl⟩
  · obtain ⟨n, hn, rfl⟩ := List.mem_map.1 hb
    obtain ⟨p, q, hq⟩ := seg_at n h.seg hn
    exact ⟨_, _, hq, .inl rfl⟩
theorem Ring.notblk {w : World} {pb mb b : Nat} {ns : List Nd} {cs : Array Value} {t : TypeId} (h : Ring w pb mb ns) (hb : Blk w b cs t) (h1 : t ≠ 127) (h2 : t ≠ 130) : b ∉ blks pb ns := fun hm => by
  obtain ⟨cs', t', hb', ht⟩ := h.cells b hm
  have e : Obj.cells cs t (0, 0) = Obj.cells cs' t' (0, 0) := Option.some.inj (hb.symm.trans hb')
  cases e
  rcases ht with e | e
  · exact h1 e
  · exact h2 e
theorem Ring.at_a {w : World} {pb mb : Nat} {l r : List Nd} (h : Ring w pb mb (l ++ r)) : ∃ CA tA, Blk w (lst pb l) CA tA ∧ CA[21]? = some (ptr (nxt r pb)) := by
  rcases snoc_cases l with rfl | ⟨l', n, rfl⟩
  · exact ⟨_, _, h.head, hcs_21 _ _ _⟩
  · have hs := h.seg
    rw [List.append_assoc, seg_append] at hs
    rw [lst_append]
    exact ⟨_, _, hs.2.1, ncs_21 _ _ _ _⟩
theorem Ring.at_c {w : World} {pb mb : Nat} {l r : List Nd} (h : Ring w pb mb (l ++ r)) : ∃ CC tC, Blk w (nxt r pb) CC tC ∧ CC[20]? = some (ptr (lst pb l)) := by
  cases r with
  | nil =>
    have hh := h.head
    rw [List.append_nil] at hh
    exact ⟨_, _, hh, hcs_20 _ _ _⟩
  | cons n r =>
    have hs := h.seg
    rw [seg_append] at hs
    exact ⟨_, _, hs.2.1, ncs_20 _ _ _ _⟩
theorem Ring.mem_a {pb : Nat} (l r : List Nd) : lst pb l ∈ blks pb (l ++ r) := by
  rw [blks, List.map_append]
  rcases lst_mem l pb with ⟨h, _⟩ | h
  · rw [h]; simp
  · exact List.mem_cons_of_mem _ (List.mem_append_left _ h)
theorem Ring.mem_c {pb : Nat} (l r : List Nd) : nxt r pb ∈ blks pb (l ++ r) := by
  rw [blks, List.map_append]
  rcases nxt_mem r pb with ⟨h, _⟩ | h
  · rw [h]; simp
  · exact List.mem_cons_of_mem _ (List.mem_append_right _ h)

/-- What a call may have changed: the blocks of a ring, its map, what is new. -/
structure Turn (w w' : World) (pb mb : Nat) (ns : List Nd) : Prop where
  fr : Fr w w'
  same : ∀ b, b < w.heap.size → b ∉ blks pb ns → b ≠ mb → w'.heap[b]? = w.heap[b]?
theorem Turn.refl (w : World) (pb mb : Nat) (ns : List Nd) : Turn w w pb mb ns := ⟨Fr.refl w, fun _ _ _ _ => rfl⟩
theorem Turn.below {w w' : World} {pb mb B : Nat} {ns : List Nd} (h : Turn w w' pb mb ns) (hn : ∀ b ∈ blks pb ns, B ≤ b) (hm : B ≤ mb) (hs : B ≤ w.heap.size) : Below B w w' :=
  ⟨h.fr.os, h.fr.tape, h.fr.output, h.fr.size, fun k hk => h.same k (by omega) (fun hk' => by have := hn k hk'; omega) (by omega)⟩
theorem Turn.blk {w w' : World} {pb mb b : Nat} {ns : List Nd} {cs : Array Value} {t : TypeId} (h : Turn w w' pb mb ns) (hb : Blk w b cs t) (h1 : b ∉ blks pb ns) (h2 : b ≠ mb) : Blk w' b cs t := (h.same b hb.lt h1 h2).trans hb

/-- A ring with its map. -/
structure Obj1 (w : World) (pb mb n : Nat) (ns : List Nd) : Prop where
  ring : Ring w pb mb ns
  map : MapIs w mb n (look ns)
theorem Obj1.call {w w' : World} {pb mb n : Nat} {ns : List Nd} (h : Obj1 w pb mb n ns) (hb : Below w.heap.size w w') : Obj1 w' pb mb n ns := ⟨h.ring.call hb, h.map.call hb⟩
theorem Obj1.old {w : World} {pb mb n : Nat} {ns : List Nd} (h : Obj1 w pb mb n ns) (o : Obj) : Obj1 (w.alloc o) pb mb n ns := h.call ((Below.refl _ w).alloc (Nat.le_refl _) o)
theorem Obj1.drew {w : World} {pb mb n : Nat} {ns : List Nd} (h : Obj1 w pb mb n ns) : Obj1 w.drew pb mb n ns := h.call (Below.refl _ w).drew

theorem ins_ring {w w' : World} {pb mb n : Nat} {l r : List Nd} {e : En} {y : Ending} (h : Obj1 w pb mb n (l ++ r)) (hi : InsPost w mb n (lst pb l) (nxt r pb) (look (l ++ r)) e y w') (hl : l = [] ∨ r = [] ∧ look (l ++ r) (ekey e) = none) :
    y = .returned (.tuple #[]) ∧ ∃ x : Nd, x.e = e ∧ x.a = pto (look (l ++ r) (ekey e)) ∧ w.heap.size ≤ x.b ∧ Obj1 w' pb mb (n + 1) (l ++ x :: r) ∧ Turn w w' pb mb (l ++ r) := by
  obtain ⟨hy, x, hx, hb, hm, hw, hf⟩ := hi
  have hnm := h.ring.notmap h.map
  have hlt := h.ring.lt
  refine ⟨hy, ⟨x, e, pto (look (l ++ r) (ekey e))⟩, rfl, rfl, hx, ⟨h.ring.insert ⟨x, e, pto (look (l ++ r) (ekey e))⟩ (fun hm => by have := hlt _ hm; simp at this; omega) hb fun b hbm => hw b (hlt b hbm) (fun e => hnm (e ▸ hbm)), ?_⟩, hf, fun b hb h1 h2 => ?_⟩
  · rcases hl with rfl | ⟨rfl, hn⟩
    · have := look_cons ⟨x, e, pto (look ([] ++ r) (ekey e))⟩ r
      rw [List.nil_append, ← this]
      exact hm
    · rw [List.append_nil] at hm hn
      have := look_snoc (n := ⟨x, e, pto (look (l ++ []) (ekey e))⟩) hn
      rw [← this]
      exact hm
  · rw [hw b hb h2]
    exact link_other _ _ _ _ _ _ (fun e => h1 (e ▸ Ring.mem_a l r)) (fun e => h1 (e ▸ Ring.mem_c l r))
/-- insert at a place of a ring. -/
theorem insert_ring {w : World} {pb mb n : Nat} {l r : List Nd} {e : En} (h : Obj1 w pb mb n (l ++ r)) (hn : n < 1000000) (hk : Fine (ekey e)) (hl : l = [] ∨ r = [] ∧ look (l ++ r) (ekey e) = none) :
    Calls Try.prog 44 #[ptr pb, ptr (lst pb l), .agg (ecs e)] w fun y w' => y = .returned (.tuple #[]) ∧ ∃ x : Nd, x.e = e ∧ x.a = pto (look (l ++ r) (ekey e)) ∧ w.heap.size ≤ x.b ∧ Obj1 w' pb mb (n + 1) (l ++ x :: r) ∧ Turn w w' pb mb (l ++ r) := by
  obtain ⟨CA, tA, hA, hA1⟩ := h.ring.at_a
  obtain ⟨CC, tC, hC, hC1⟩ := h.ring.at_c
  exact (insert_any pb mb n _ _ _ e _ _ _ CA CC tA tC w h.ring.head hA hA1 hC hC1 h.map hn hk).mono fun y w' hi => ins_ring h hi hl
end Go.Proofs.Ytblbeinnfbohbaa.Hp

/-
  The ring's iterator: what it hands on, for every loop body that keeps the ring.
-/
namespace Go.Proofs.Ytblbeinnfbohbaa.Hp
open Go Go.RowKit Go.Maps Go.Shelf Go.Proofs.Ytblbeinnfbohbaa.Keys
open Go.Proofs.Ytblbeinnfbohbaa.Des (Vl Ds zeroV zeroD dcs dcs_size dcs_one)
open Go.Proofs.Ytblbeinnfbohbaa.Arrs (En ecs ecs_0 ecs_1 ecs_10 ecs_size ecs_list ecs_one ecs_one')
set_option linter.unusedVariables false
set_option linter.unusedSimpArgs false
attribute [local go_sem] Oper.semAt_some

attribute [local go_sem ↓] ldE bxE bxN bdN

attribute [local irreducible] ecs ncs hcs

attribute [local go_sem] run_bx run_bdN ecs_0 ecs_1 ncs_20 ncs_21 ncs_22 hcs_23

def blkOf : Value → Nat
  | .pointer (some a) => a.block
  | _ => 0
/-- How many places are still to come. -/
def left (ns : List Nd) (v : Value) : Nat := (ns.dropWhile fun n => n.b != blkOf v).length
theorem left_at {pb : Nat} {pre rest : List Nd} (h : (blks pb (pre ++ rest)).Nodup) : left (pre ++ rest) (ptr (nxt rest pb)) = rest.length := by
  simp only [blks, List.map_append, List.nodup_cons, List.mem_append, not_or, List.nodup_append] at h
  obtain ⟨⟨h1, h2⟩, h3, h4, h5⟩ := h
  have key : ∀ p ∈ pre, (p.b != blkOf (ptr (nxt rest pb))) = true := fun p hp => by
    have hm : p.b ∈ pre.map (·.b) := List.mem_map.2 ⟨p, hp, rfl⟩
    simp only [bne_iff_ne, ne_eq]
    show ¬ p.b = nxt rest pb
    rcases nxt_mem rest pb with ⟨e, _⟩ | hn
    · rw [e]; exact fun e => h1 (e ▸ hm)
    · exact h5 p.b hm _ hn
  unfold left
  rw [List.dropWhile_append_of_pos key]
  cases rest with
  | nil => rfl
  | cons n r => simp [List.dropWhile, blkOf, nxt]
/-- What a round keeps: whatever lay below n₀, and one block besides. -/
def Kept (n₀ B : Nat) (W W' : World) : Prop := Below n₀ W W' ∧ W'.heap[B]? = W.heap[B]?
theorem Kept.refl (n₀ B : Nat) (W : World) : Kept n₀ B W W := ⟨Below.refl _ _, rfl⟩
theorem Kept.trans {n₀ B : Nat} {X Y Z : World} (h : Kept n₀ B X Y) (k : Kept n₀ B Y Z) : Kept n₀ B X Z := ⟨h.1.trans k.1, k.2.trans h.2⟩
theorem kept_b {n₀ B s : Nat} (h : n₀ ≤ s) (hB : B < s) : ∀ (W : World) (l : Nat) (o o' : Obj), s ≤ l → W.heap[l]? = some o → o.isCells = false → o.isWalk = false → Kept n₀ B W (W.putObj l o') :=
  fun W l o o' hl hk hc hw => ⟨(Below.refl n₀ W).grown (grownBy_putObj' W l o') (by have := (Array.getElem?_eq_some_iff.1 hk).1; omega) (fun k e => by cases e; omega), World.putObj_heap_other (by omega)⟩
theorem sizeN : (Try.prog.info? 127).map (·.size) = some 23 := by kernel_rfl
theorem infoN : ∃ i, Try.prog.info? 127 = some i ∧ i.size = 23 := by
  cases hq : Try.prog.info? 127 with
  | none => have := sizeN; rw [hq] at this; cases this
  | some i => exact ⟨i, rfl, by have := sizeN; rw [hq] at this; simpa using this⟩
theorem run_eqP (d : Nat) {w : World} {a b : Addr} {r : Bool} (hs : (sameAddr a b).run Try.prog w = .ok r w) : (Op.equalIn (d + 1) 123 (.pointer (some a)) (.pointer (some b))).run Try.prog w = .ok r w := by
  obtain ⟨i, hq, hi⟩ := infoN
  simp [Op.equalIn, run_underlying Try.underlying123, sizeOf, typeInfo, hq, hi, hs]
theorem run_neP {w : World} {a b : Addr} {r : Bool} (hs : (sameAddr a b).run Try.prog w = .ok r w) : (binOp .neq 123 (.pointer (some a)) (.pointer (some b))).run Try.prog w = .ok (.bool !r) w := by
  simp only [binOp]
  simp [Op.equal, Op.maxDepth, run_eqP 9999 hs]
theorem run_neq_same (w : World) (b : Nat) : (binOp .neq 123 (.pointer (some ⟨b, 0, none⟩)) (.pointer (some ⟨b, 0, none⟩))).run Try.prog w = .ok (.bool false) w := run_neP (run_sameAddr_same w _)
theorem run_neq_other {w : World} {b c : Nat} {cb cc : Array Value} {tb tc : TypeId} (hb : Blk w b cb tb) (hc : Blk w c cc tc) (hne : b ≠ c) : (binOp .neq 123 (.pointer (some ⟨b, 0, none⟩)) (.pointer (some ⟨c, 0, none⟩))).run Try.prog w = .ok (.bool true) w :=
  run_neP (run_sameAddr_other w (a := ⟨b, 0, none⟩) (b := ⟨c, 0, none⟩) (fun e => hne (by cases e; rfl)) hb hc)

end Go.Proofs.Ytblbeinnfbohbaa.Hp

/-
  slices.Backward at a list of properties: what it hands on, for every loop body that keeps the list.
-/
namespace Go.Proofs.Ytblbeinnfbohbaa.Hp
open Go Go.RowKit Go.Maps Go.Shelf Go.Proofs.Ytblbeinnfbohbaa.Keys
open Go.Proofs.Ytblbeinnfbohbaa.Des (Vl Ds zeroV zeroD dcs dcs_size dcs_one)
open Go.Proofs.Ytblbeinnfbohbaa.Arrs (En ecs ecs_0 ecs_1 ecs_10 ecs_size ecs_list ecs_one ecs_one')
set_option linter.unusedVariables false
set_option linter.unusedSimpArgs false
attribute [local go_sem] Oper.semAt_some

attribute [local go_sem ↓] ldE bxE bxN bdN

attribute [local irreducible] ecs ncs hcs

attribute [local go_sem] run_bx run_bdN ecs_0 ecs_1 ncs_20 ncs_21 ncs_22 hcs_23

/-- A slice's cells hold properties, in a block below n₀. -/
def EsAt (n₀ : Nat) (ao : Option Addr) (es : List En) (w : World) : Prop := ∀ j e, es[j]? = some e → ∃ b off, ao = some ⟨b, off, none⟩ ∧ b < n₀ ∧ enAt w b (off + j * 20) e
theorem EsAt.below {n₀ : Nat} {ao : Option Addr} {es : List En} {w w' : World} (h : EsAt n₀ ao es w) (hb : Below n₀ w w') : EsAt n₀ ao es w' := fun j e he => by
  obtain ⟨b, off, ha, hlt, hat⟩ := h j e he
  exact ⟨b, off, ha, hlt, enAt_below hat hb hlt⟩
theorem EsAt.mono {n₀ n₁ : Nat} {ao : Option Addr} {es : List En} {w : World} (h : EsAt n₀ ao es w) (hn : n₀ ≤ n₁) : EsAt n₁ ao es w := fun j e he => by
  obtain ⟨b, off, ha, hlt, hat⟩ := h j e he
  exact ⟨b, off, ha, by omega, hat⟩
/-- A property whose key a map may hold. -/
abbrev FE := { e : En // Fine (ekey e) }
def zeroF : FE := ⟨zeroE, by refine ⟨?_, ?_, ?_⟩ <;> decide⟩
theorem fe_list : ∀ (es : List En), (∀ e ∈ es, Fine (ekey e)) → ∃ fs : List FE, fs.map (·.1) = es
  | [], _ => ⟨[], rfl⟩
  | e :: es, h => by
    obtain ⟨fs, hf⟩ := fe_list es fun x hx => h x (by simp [hx])
    exact ⟨⟨e, h e (by simp)⟩ :: fs, by simp [hf]⟩
/-- What has come when k rounds are over: the last k, each with its place. -/
def back (es : List FE) (k : Nat) : List (Int × FE) := (List.range k).map fun j => (((es.length - 1 - j : Nat) : Int), (es[es.length - 1 - j]?).getD zeroF)
theorem back_succ (es : List FE) (k : Nat) : back es (k + 1) = back es k ++ [(((es.length - 1 - k : Nat) : Int), (es[es.length - 1 - k]?).getD zeroF)] := by simp [back, List.range_succ]
theorem back_length (es : List FE) (k : Nat) : (back es k).length = k := by simp [back]
theorem back_all (es : List FE) : (back es es.length).map (·.2) = es.reverse := by
  apply List.ext_getElem
  · simp [back]
  · intro i h1 h2
    simp [back] at h1 h2
    simp only [back, List.map_map, List.getElem_map, List.getElem_range, Function.comp_apply, List.getElem_reverse]
    rw [List.getElem?_eq_getElem (by omega)]
    rfl

set_option maxRecDepth 100000 in
set_option maxHeartbeats 1000000 in
theorem back1_in (F : Fence) (n : Nat) (hf : F.fn 48) (hro : F.round = none) (hn : 1 ≤ n) (l Bn n₀ : Nat) (ao : Option Addr) (cap : Nat) (es : List FE) (hlen : es.length ≤ 1000000) (J Jx : List (Int × FE) → World → Prop)
    (hY : ∀ pre x W, J pre W → pre.length < es.length → YieldAt F (n - 1) Try.prog l #[.int .i64 x.1, .agg (ecs x.2.1)] W fun e W' =>
      (e = .returned (.bool true) ∧ J (pre ++ [x]) W' ∧ Kept n₀ Bn W W') ∨ (e = .returned (.bool false) ∧ Jx (pre ++ [x]) W'))
    (W : World) (hBn : Blk W Bn #[.slice ao es.length cap] 82) (hL : EsAt n₀ ao (es.map (·.1)) W) (h0 : J [] W) :
    CallsIn F n Try.prog 48 #[.func (.yield l) #[] #[], .pointer (some ⟨Bn, 0, none⟩)] W fun e W' => (∃ v, e = .returned v) ∧
      ((∃ ys, ys = back es es.length ∧ J ys W') ∨ (∃ pre, (∃ k, k ≤ es.length ∧ pre = back es k) ∧ Jx pre W')) := by
  refine callsIn_of_wp Try.func48 rfl hf ?_ hro
  simp only [Try.ntmps48, List.size_toArray, List.length_cons, List.length_nil, Nat.reduceAdd, Nat.reduceSub, Array.replicate_succ, Array.replicate_zero, List.push_toArray, List.append_toArray, List.nil_append, List.cons_append]
  have c0 : W.cell? ⟨Bn, 0, none⟩ = some (.slice ao es.length cap) := hBn.cell 0
  gi_wp2
  clear c0
  gi_loopw [3] (fun p wr => ∃ k : Nat, k ≤ es.length ∧ p = .int .i64 ((es.length : Int) - 1 - k) ∧ EsAt n₀ ao (es.map (·.1)) wr ∧ Blk wr Bn #[.slice ao es.length cap] 82 ∧ J (back es k) wr)
    (fun p wr => (intOf p + 1).toNat)
  case atStart =>
    exact ⟨0, Nat.zero_le _, by simp, hL, hBn, h0⟩
  case round =>
    clear hBn hL h0
    obtain ⟨k, hk, rfl, hr, hb, hJs⟩ := hrel
    have c0 : wr.cell? ⟨Bn, 0, none⟩ = some (.slice ao es.length cap) := hb.cell 0
    by_cases hlt : k < es.length
    · obtain ⟨i, hi⟩ : ∃ i : Nat, es.length - 1 - k = i := ⟨_, rfl⟩
      have hil : i < es.length := by omega
      have hil2 : (i : Int) < es.length := by omega
      obtain ⟨e, he⟩ : ∃ e, es[i]? = some e := ⟨es[i], by simp [hil]⟩
      obtain ⟨b, off, rfl, hbl, hat⟩ := hr i e.1 (by simp [he])
      have le := run_ldE hat
      have hie : (es.length : Int) - 1 - k = i := by omega
      have hlen2 : (back es k).length < es.length := by rw [back_length]; exact hlt
      obtain ⟨fn, tmps, assign, body, hy, hR⟩ := hY (back es k) ((i : Int), e) wr hJs hlen2
      dsimp only at hy
      have HS : Hid (back es (k + 1) = back es k ++ [((i : Int), e)]) := by rw [back_succ, hi, he]; exact Lib.hid rfl
      have HL := Lib.hid hlt
      have HI := Lib.hid hi
      have HIE := Lib.hid hie
      rw [hie]
      clear hat hbl hY hlen2 hlt hi he hie
      gi_wp2
      refine hR.mono ?_
      rintro e3 W3 (⟨rfl, hJ3, hk3⟩ | ⟨rfl, hJx3⟩)
      · have hr3 := hr.below hk3.1
        have hb3 : Blk W3 Bn _ 82 := hk3.2.trans hb
        clear le c0
        gi_wp2
        go_roundw
        case rel => exact ⟨k + 1, HL.out, by rw [← HIE.out]; simp; omega, hr3, hb3, by rw [HS.out]; exact hJ3⟩
        case measure => simp [intOf]
      · gi_wp2
        refine bodyPost_ret (results_none rfl _ _ _) rfl ?_
        exact ⟨⟨_, rfl⟩, .inr ⟨_, ⟨k + 1, HL.out, HS.out.symm⟩, hJx3⟩⟩
    · obtain rfl : k = es.length := by omega
      have hie : (es.length : Int) - 1 - es.length = -1 := by omega
      rw [hie]
      clear hie hlt
      gi_wp2
      go_end0
      exact ⟨⟨_, rfl⟩, .inl ⟨_, rfl, hJs⟩⟩

set_option maxHeartbeats 1000000 in
theorem back_any (ao : Option Addr) (len cap : Nat) (w : World) : Calls Try.prog 47 #[.slice ao len cap] w fun e w' => e = .returned (.func (.func 48) #[] #[.pointer (some ⟨w.heap.size, 0, none⟩)]) ∧ w' = w.alloc (.cells #[.slice ao len cap] 82) := by
  go_enter Try.func47, Try.ntmps47
  go_wp2
  go_ret
  exact ⟨rfl, rfl⟩
theorem back_stops (F : Fence) (n : Nat) (hf : F.fn 48) (hro : F.round = none) (hn : 1 ≤ n) (Bn n₀ : Nat) (ao : Option Addr) (cap : Nat) (es : List FE) (hlen : es.length ≤ 1000000) (w : World) (hn₀ : n₀ ≤ w.heap.size)
    (hc : Blk w Bn #[.slice ao es.length cap] 82) (hL : EsAt n₀ ao (es.map (·.1)) w) :
    SeqStopsK F n Try.prog 48 #[.pointer (some ⟨Bn, 0, none⟩)] (fun x : Int × FE => #[.int .i64 x.1, .agg (ecs x.2.1)]) (Kept n₀ Bn) (fun ys => ys = back es es.length) (fun pre => ∃ k, k ≤ es.length ∧ pre = back es k) es.length w := fun l J Jx W hW _ _ hY h0 =>
  back1_in F n hf hro hn l Bn n₀ ao cap es hlen J Jx hY W (hc.below hW hc.lt) (hL.below (hW.mono hn₀)) h0
end Go.Proofs.Ytblbeinnfbohbaa.Hp
