/-
  Texts of this seat in build order: ReSmall, ScMem, ScSpec.
-/
import Derived.Test.YtblbeinnfbohbaaMz11
import Derived.Test.YtblbeinnfbohbaaProg
import Derived.Laws.Tables
import Derived.Laws.Rows
import Derived.Laws.Cells
import Derived.Laws.StructEq
import Derived.Laws.ResultCell
import Derived.Laws.OwnMore
import Derived.Laws.AppendOwnNone
import Derived.Deep.MidRow
import Derived.Great.BuildSlice
import Derived.Maps.AppendAt
import Derived.Maps.OwnSet
import Derived.OwnWalk
import Derived.KernelRfl
import Derived.WalkArith
import Derived.WalkKit
import Derived.Below
import Derived.Lib.Hide
/-
  Small functions of realm.
-/
namespace Go.Proofs.Ytblbeinnfbohbaa.Re
open Go Go.RowKit Go.Maps Go.Shelf Go.Proofs.Ytblbeinnfbohbaa.Keys Go.Proofs.Ytblbeinnfbohbaa.Hp Go.Proofs.Ytblbeinnfbohbaa.Mo Go.Proofs.Ytblbeinnfbohbaa.Mw
open Go.Proofs.Ytblbeinnfbohbaa.Des (Vl Ds zeroV zeroD dcs dcs_size dcs_one accF rigF appF eqV)
open Go.Proofs.Ytblbeinnfbohbaa.Arrs (En ecs)
set_option linter.unusedVariables false
set_option linter.unusedSimpArgs false
attribute [local go_sem ↓] ldR stR alR bxR bdR ldV stV alV bxV bdV ldKy bxKy bdKy bdT alT stT bxT ldT bdD alD stD
attribute [local irreducible] rcs dcs ecs vcs acs kcs xcs tcs

/-- A plain object; a function. -/
def plT (p : Vl) : Th := { zeroT with proto := p, ext := true }
def fnT (code : Int) : Th := { zeroT with kind := 2, proto := objV 1, ext := true, code := code }
theorem plT_ok (p : Vl) : (plT p).ok := ⟨⟨none, 0, 0, rfl⟩, ⟨none, 0, 0, rfl⟩⟩
theorem fnT_ok (c : Int) : (fnT c).ok := ⟨⟨none, 0, 0, rfl⟩, ⟨none, 0, 0, rfl⟩⟩
theorem bxD (v : Value) : Instr.box 34 v = Bx 34 v := (rfl)
theorem run_bdTp (w : World) (p : Vl) : (Bd 85 #[(0, .int .i64 0), (1, .agg (vcs p)), (2, .bool true)]).run Try.prog w = .ok (.agg (tcs (plT p))) w := run_build w _ _ _ (by kernel_rfl)
theorem run_bdTf (w : World) (c : Int) : (Bd 85 #[(0, .int .i64 2), (1, .agg (vcs (objV 1))), (2, .bool true), (4, .int .i64 c)]).run Try.prog w = .ok (.agg (tcs (fnT c))) w := run_build w _ _ _ (by kernel_rfl)
theorem run_bdDh (w : World) (v : Vl) : (Bd 34 #[(0, .bool true), (6, .agg (vcs v)), (3, .bool true), (9, .bool true), (4, .bool true), (5, .bool true), (11, .bool true)]).run Try.prog w = .ok (.agg (dcs (wholeD v true false true))) w := run_build w _ _ _ (by kernel_rfl)
theorem run_bdO6 (w : World) (n : Int) : (Bd 32 #[(0, .int .i64 6), (1, .int .i64 n)]).run Try.prog w = .ok (.agg (vcs (objV n))) w := run_bdV2 w 6 n
theorem run_bdN1 (w : World) : (Bd 32 #[(0, .int .i64 1)]).run Try.prog w = .ok (.agg (vcs nullV)) w := run_bdV1 w 1
theorem res_T {fn : Func} {p : Tmp} (h : fn.results = #[.cell p 85]) (tmps : Array Value) (w : World) (g : Nat) (d : Th) (hp : tmps.getD p undef = .pointer (some ⟨g, 0, none⟩)) {T : TypeId} (hr : Blk w g (tcs d) T) : (results fn tmps).run Try.prog w = .ok (.agg (tcs d)) w :=
  results_cell_row h tmps w g T (tcs d) (0, 0) _ hp hr Try.underlying85 rfl (by rw [tcs_size]; kernel_rfl)
attribute [local go_sem ↓] bxD
attribute [local go_sem] run_bx run_alV run_stVg run_alT run_bdTp run_bdTf run_bdDh run_bdO6 run_bdN1 run_alD run_stDg
theorem null_v (w : World) : Calls Try.prog 27 #[] w fun e w' => e = .returned (.agg (vcs nullV)) ∧ Below w.heap.size w w' := by
  go_enter Try.func27, Try.ntmps27
  go_wp2
  refine bodyPost_ret (res_V rfl _ _ _ nullV rfl (Blk.new _ _ _)) rfl ?_
  exact ⟨rfl, (Below.refl _ w).alloc (Nat.le_refl _) _⟩
theorem obj_v (n : Int) (w : World) : Calls Try.prog 18 #[.int .i64 n] w fun e w' => e = .returned (.agg (vcs (objV n))) ∧ Below w.heap.size w w' := by
  go_enter Try.func18, Try.ntmps18
  go_wp2
  refine bodyPost_ret (res_V rfl _ _ _ (objV n) rfl (Blk.new _ _ _)) rfl ?_
  exact ⟨rfl, (Below.refl _ w).alloc (Nat.le_refl _) _⟩
set_option maxRecDepth 100000 in
set_option maxHeartbeats 4000000 in
theorem plain_v (p : Vl) (w : World) : Calls Try.prog 26 #[.agg (vcs p)] w fun e w' => e = .returned (.agg (tcs (plT p))) ∧ Below w.heap.size w w' := by
  have s1 := run_stT (w.alloc (.cells (vcs p) 32)) (plT p) zeroT (plT_ok p)
  have l1 := run_ldVp ((Blk.new w (vcs p) 32).old (.cells (tcs zeroT) 85))
  have z1 : (w.alloc (.cells (vcs p) 32)).heap.size = w.heap.size + 1 := by simp
  rw [z1] at s1
  go_enter Try.func26, Try.ntmps26
  go_wp2
  refine bodyPost_ret (res_T rfl _ _ (w.heap.size + 1) (plT p) rfl (blk_newg z1.symm)) rfl ?_
  exact ⟨rfl, ((Below.refl _ w).alloc (Nat.le_refl _) _).alloc (by simp) _⟩
set_option maxRecDepth 100000 in
set_option maxHeartbeats 4000000 in
theorem hidden_v (p : Vl) (w : World) : Calls Try.prog 30 #[.agg (vcs p)] w fun e w' => e = .returned (.agg (dcs (wholeD p true false true))) ∧ Below w.heap.size w w' := by
  have z1 : (w.alloc (.cells (vcs p) 32)).heap.size = w.heap.size + 1 := by simp
  have s1 := run_stDg (w.alloc (.cells (vcs p) 32)) (w.heap.size + 1) (wholeD p true false true) zeroD z1.symm
  have l1 := run_ldVp ((Blk.new w (vcs p) 32).old (.cells (dcs zeroD) 34))
  go_enter Try.func30, Try.ntmps30
  go_wp2
  refine bodyPost_ret (res_D rfl _ _ (w.heap.size + 1) (wholeD p true false true) rfl (blk_newg z1.symm)) rfl ?_
  exact ⟨rfl, ((Below.refl _ w).alloc (Nat.le_refl _) _).alloc (by simp) _⟩
set_option maxRecDepth 100000 in
set_option maxHeartbeats 4000000 in
theorem name_v (m : Int) (w : World) : Calls Try.prog 24 #[.int .i64 m] w fun e w' => e = .returned (.string (trapS m)) ∧ Below w.heap.size w w' := by
  go_enter Try.func24, Try.ntmps24
  go_wp2_with (go_at_call 34; (with_reducible refine (trap_any m _).mono ?_); rintro e w2 ⟨rfl, hb⟩)
  go_ret
  exact ⟨rfl, hb⟩
end Go.Proofs.Ytblbeinnfbohbaa.Re

/-
  Scopes in memory: blocks, values, variables, maps from names to pointers; what an operation leaves.
-/
namespace Go.Proofs.Ytblbeinnfbohbaa.Sc
open Go Go.RowKit Go.Maps
set_option linter.unusedVariables false
set_option linter.unusedSimpArgs false

/-- A value of the language. -/
structure Vl where
  k : Int
  n : Int
  s : ByteArray
abbrev zeroV : Vl := ⟨0, 0, ⟨#[]⟩⟩
/-- A variable. -/
structure Va where
  name : ByteArray
  fixed : Bool
  has : Bool
  v : Vl
/-- A scope: its parent's number (-1: none) and its variables in order. -/
structure Sco where
  parent : Int
  vs : List Va
abbrev ptr (b : Nat) : Value := .pointer (some ⟨b, 0, none⟩)
def vcs (v : Vl) : Array Value := #[.int .i64 v.k, .int .i64 v.n, .string v.s]
/-- A variable of the program. -/
def pcs (a : Va) : Array Value := #[.int .i64 a.v.k, .int .i64 a.v.n, .string a.v.s, .bool a.has, .bool a.fixed]
theorem vcs_size (v : Vl) : (vcs v).size = 3 := rfl
theorem vcs_one (v : Vl) : (vcs v).all (·.oneCell') = true := by simp [vcs, Value.oneCell']
theorem pcs_size (v : Va) : (pcs v).size = 5 := rfl
theorem pcs_3 (a : Va) : (pcs a)[3]? = some (.bool a.has) := rfl
theorem pcs_4 (a : Va) : (pcs a)[4]? = some (.bool a.fixed) := rfl
theorem pcs_vcs (a : Va) : (pcs a).toList = (vcs a.v).toList ++ [.bool a.has, .bool a.fixed] := rfl

/-! ### Blocks -/
/-- A block that may be written: its cells. -/
def Blk (w : World) (b : Nat) (cs : Array Value) (t : TypeId) : Prop := w.heap[b]? = some (.cells cs t (0, 0))
theorem Blk.lt {w : World} {b : Nat} {cs : Array Value} {t : TypeId} (h : Blk w b cs t) : b < w.heap.size := (Array.getElem?_eq_some_iff.1 h).1
theorem Blk.cell {w : World} {b : Nat} {cs : Array Value} {t : TypeId} (h : Blk w b cs t) (i : Nat) : w.cell? ⟨b, i, none⟩ = cs[i]? := cell_of_row w b i cs t (0, 0) h
theorem Blk.frozen {w : World} {b : Nat} {cs : Array Value} {t : TypeId} (h : Blk w b cs t) (i : Nat) : w.frozen? ⟨b, i, none⟩ = false := frozen_of_row w b i cs t h
theorem Blk.new (w : World) (cs : Array Value) (t : TypeId) : Blk (w.alloc (.cells cs t)) w.heap.size cs t := heap_alloc_new w _
theorem Blk.old {w : World} {b : Nat} {cs : Array Value} {t : TypeId} (h : Blk w b cs t) (o : Obj) : Blk (w.alloc o) b cs t := (heap_alloc_old w o h.lt).trans h
theorem Blk.drew {w : World} {b : Nat} {cs : Array Value} {t : TypeId} (h : Blk w b cs t) : Blk w.drew b cs t := h
theorem Blk.set {w : World} {b : Nat} {cs : Array Value} {t : TypeId} (h : Blk w b cs t) (i : Nat) (v : Value) : Blk (w.setCell ⟨b, i, none⟩ v) b (cs.setIfInBounds i v) t := heap_setCell_same w b i cs t v h
theorem Blk.other {w : World} {b : Nat} {cs : Array Value} {t : TypeId} (h : Blk w b cs t) (a : Addr) (v : Value) (hne : b ≠ a.block) : Blk (w.setCell a v) b cs t := (heap_setCell_other w a b v hne).trans h
theorem Blk.call {w w' : World} {b : Nat} {cs : Array Value} {t : TypeId} (h : Blk w b cs t) (hb : Below w.heap.size w w') : Blk w' b cs t := (hb.block b h.lt).trans h
theorem Blk.range {w : World} {b : Nat} {cs : Array Value} {t : TypeId} (h : Blk w b cs t) {l r : List Value} (e : cs.toList = l ++ r) : w.rangeAt b 0 l := fun j v hv => by
  have hj : j < l.length := (List.getElem?_eq_some_iff.1 hv).1
  rw [Nat.zero_add, h.cell, ← Array.getElem?_toList, e, List.getElem?_append_left hj]
  exact hv
theorem there_blk {w : World} {b : Nat} {cs : Array Value} {t : TypeId} (h : Blk w b cs t) {o k : Nat} (hk : o + k ≤ cs.size) : w.there b o k := fun j hj => by
  refine ⟨?_, h.frozen (o + j)⟩
  rw [h.cell]
  simp
  omega
theorem ne_blk {w : World} {b c : Nat} {cs ds : Array Value} {s t : TypeId} (h : Blk w b cs s) (k : Blk w c ds t) (hne : s ≠ t) : b ≠ c := fun e => by
  subst e
  have e := Option.some.inj ((show w.heap[b]? = _ from h).symm.trans (show w.heap[b]? = _ from k))
  cases e
  exact hne rfl
theorem own_ne {w : World} {base b : Nat} {e t : TypeId} {size n : Nat} {v : Value} {xs : List Value} {cs : Array Value} (h : w.ownsRow base e size v n xs) (hb : Blk w b cs t) (hte : t ≠ e) : v.ownBlock ≠ some b := by
  rcases h.2 with ⟨rfl, _⟩ | ⟨g, cap, cur, rfl, _, hgb, _⟩
  · simp [Value.ownBlock]
  · simp only [Value.ownBlock, ne_eq, Option.some.injEq]
    rintro rfl
    have := (show w.heap[g]? = _ from hb).symm.trans hgb
    simp at this
    exact hte this.2
/-- Two lists of the call's own of different elements lie apart. -/
theorem own_two {w : World} {b1 b2 : Nat} {e1 e2 : TypeId} {s1 s2 n1 n2 : Nat} {v1 v2 : Value} {xs1 xs2 : List Value} (h1 : w.ownsRow b1 e1 s1 v1 n1 xs1) (h2 : w.ownsRow b2 e2 s2 v2 n2 xs2) (hne : e1 ≠ e2) : v1.ownBlock = none ∨ v1.ownBlock ≠ v2.ownBlock := by
  rcases h1.2 with ⟨rfl, _⟩ | ⟨g, cap, cur, rfl, _, hgb, _⟩
  · exact .inl rfl
  · rcases h2.2 with ⟨rfl, _⟩ | ⟨g2, cap2, cur2, rfl, _, hgb2, _⟩
    · right; simp [Value.ownBlock]
    · right
      simp only [Value.ownBlock, ne_eq, Option.some.injEq]
      rintro rfl
      rw [hgb] at hgb2
      simp at hgb2
      exact hne hgb2.2
theorem own_shape {w : World} {base : Nat} {e : TypeId} {size n : Nat} {v : Value} {xs : List Value} (h : w.ownsRow base e size v n xs) : ∃ a c, v = .slice a n c := by
  rcases h.2 with ⟨rfl, rfl⟩ | ⟨g, cap, cur, rfl, _⟩
  · exact ⟨_, _, rfl⟩
  · exact ⟨_, _, rfl⟩
/-- A list stays where its block does. -/
theorem own_same {w w' : World} {base : Nat} {e : TypeId} {size n : Nat} {v : Value} {xs : List Value} (h : w.ownsRow base e size v n xs) (hb : ∀ g, v.ownBlock = some g → w'.heap[g]? = w.heap[g]?) : w'.ownsRow base e size v n xs := by
  refine ⟨h.1, ?_⟩
  rcases h.2 with ⟨rfl, h0⟩ | ⟨g, cap, cur, rfl, h1, h2, h3⟩
  · exact .inl ⟨rfl, h0⟩
  · exact .inr ⟨g, cap, cur, rfl, h1, (hb g rfl).trans h2, h3⟩
theorem cell_one (w : World) (v : Value) (t : TypeId) : ∀ j u, [v][j]? = some u → (w.alloc (.cells #[v] t)).cell? ((⟨w.heap.size, 0, none⟩ : Addr).add j) = some u := fun j u hj => by
  cases j with
  | zero => simp at hj; subst hj; simp [Addr.add]
  | succ j => simp at hj

/-! ### What an operation leaves -/
/-- The streams are as they were; no block has gone. -/
structure Fr (w w' : World) : Prop where
  os : w'.os = w.os
  tape : w'.tape = w.tape
  output : w'.output = w.output
  size : w.heap.size ≤ w'.heap.size
theorem Fr.refl (w : World) : Fr w w := ⟨rfl, rfl, rfl, Nat.le_refl _⟩
theorem Fr.trans {a b c : World} (h : Fr a b) (k : Fr b c) : Fr a c := ⟨k.os.trans h.os, k.tape.trans h.tape, k.output.trans h.output, Nat.le_trans h.size k.size⟩
theorem Fr.drew {a w : World} (h : Fr a w) : Fr a w.drew := ⟨h.os, h.tape, h.output, h.size⟩
theorem Fr.alloc {a w : World} (h : Fr a w) (o : Obj) : Fr a (w.alloc o) := h.trans ⟨rfl, rfl, rfl, by simp⟩
theorem Fr.set {a w : World} (h : Fr a w) (x : Addr) (v : Value) : Fr a (w.setCell x v) := h.trans ⟨rfl, rfl, rfl, by simp [World.setCell]⟩
theorem Fr.turned {a w w' : World} {m : Nat} (h : Fr a w) (k : w.mapTurned w' m) : Fr a w' := h.trans ⟨k.grown.os, k.grown.tape, k.grown.output, k.grown.size⟩
theorem Fr.below {a w w' : World} {B : Nat} (h : Fr a w) (k : Below B w w') : Fr a w' := h.trans ⟨k.os, k.tape, k.output, k.size⟩
theorem Fr.grown {a w w' : World} {r : Option Nat} (h : Fr a w) (k : w.grownBy w' r) : Fr a w' := h.trans ⟨k.os, k.tape, k.output, k.size⟩
theorem setCells_block (b : Nat) : ∀ (vs : List Value) (o : Nat) (w : World) (k : Nat), k ≠ b → (w.setCells b o vs).heap[k]? = w.heap[k]?
  | [], _, _, _, _ => rfl
  | v :: r, o, w, k, h => by
    rw [World.setCells, setCells_block b r (o + 1) _ k h]
    exact heap_setCell_other w ⟨b, o, none⟩ k v h
theorem setCells_fr (b : Nat) : ∀ (vs : List Value) (o : Nat) (w : World), Fr w (w.setCells b o vs) ∧ (w.setCells b o vs).heap.size = w.heap.size
  | [], _, w => ⟨Fr.refl w, rfl⟩
  | v :: r, o, w => by
    obtain ⟨h1, h2⟩ := setCells_fr b r (o + 1) (w.setCell ⟨b, o, none⟩ v)
    rw [World.setCells]
    exact ⟨((Fr.refl w).set _ _).trans h1, h2.trans (by simp [World.setCell])⟩
theorem turned_other {w w' : World} {m b : Nat} (h : w.mapTurned w' m) (hne : b ≠ m) : w'.heap[b]? = w.heap[b]? := by
  obtain ⟨es, clock, es', clock', hb, rfl⟩ := h
  exact Go.ChangeMaps.heap_setBlock_other hb _ hne
/-- From w to w': of the old blocks only those of X have turned; what is of X' is of X or new. -/
structure Step (X X' : Nat → Prop) (w w' : World) : Prop where
  fr : Fr w w'
  stay : ∀ b, b < w.heap.size → ¬ X b → w'.heap[b]? = w.heap[b]?
  more : ∀ b, X' b → X b ∨ w.heap.size ≤ b
theorem Step.refl (X : Nat → Prop) (w : World) : Step X X w w := ⟨Fr.refl w, fun _ _ _ => rfl, fun _ h => .inl h⟩
theorem Step.trans {X X' X'' : Nat → Prop} {a b c : World} (h : Step X X' a b) (k : Step X' X'' b c) : Step X X'' a c := by
  refine ⟨h.fr.trans k.fr, fun i hi hx => ?_, fun i hi => ?_⟩
  · have h1 := h.stay i hi hx
    rw [← h1]
    refine k.stay i (Nat.lt_of_lt_of_le hi h.fr.size) fun hx' => ?_
    rcases h.more i hx' with h2 | h2
    · exact hx h2
    · omega
  · rcases k.more i hi with h1 | h1
    · exact h.more i h1
    · exact .inr (Nat.le_trans h.fr.size h1)
theorem Step.alloc {X X' : Nat → Prop} {a w : World} (h : Step X X' a w) (o : Obj) : Step X X' a (w.alloc o) :=
  ⟨h.fr.alloc o, fun b hb hx => (heap_alloc_old w o (Nat.lt_of_lt_of_le hb h.fr.size)).trans (h.stay b hb hx), h.more⟩
theorem Step.drew {X X' : Nat → Prop} {a w : World} (h : Step X X' a w) : Step X X' a w.drew := ⟨h.fr.drew, h.stay, h.more⟩
theorem Step.below {X X' : Nat → Prop} {a w w' : World} {B : Nat} (h : Step X X' a w) (hb : Below B w w') (hB : w.heap.size ≤ B) : Step X X' a w' :=
  ⟨h.fr.below hb, fun b hl hx => (hb.block b (by have := h.fr.size; omega)).trans (h.stay b hl hx), h.more⟩
theorem Step.ahead {X X' : Nat → Prop} {a b c : World} (hb : Below a.heap.size a b) (h : Step X X' b c) : Step X X' a c :=
  ⟨((Fr.refl a).below hb).trans h.fr, fun i hi hx => (h.stay i (Nat.lt_of_lt_of_le hi hb.size) hx).trans (hb.block i hi), fun i hi => (h.more i hi).imp id fun k => Nat.le_trans hb.size k⟩
theorem Step.toBelow {X X' : Nat → Prop} {w w' : World} {B : Nat} (h : Step X X' w w') (hB : B ≤ w.heap.size) (hX : ∀ b, X b → B ≤ b) : Below B w w' :=
  ⟨h.fr.os, h.fr.tape, h.fr.output, h.fr.size, fun b hb => h.stay b (by omega) fun hx => by have := hX b hx; omega⟩
theorem Step.blk {X X' : Nat → Prop} {w w' : World} {b : Nat} {cs : Array Value} {t : TypeId} (h : Step X X' w w') (hb : Blk w b cs t) (hx : ¬ X b) : Blk w' b cs t := (h.stay b hb.lt hx).trans hb

/-! ### Maps from names to pointers -/
/-- How a pointer reads: by its block. -/
def Rp : Value → Option (DataW Unit × List MemPlace)
  | .pointer none => some (.nil, [])
  | .pointer (some a) => if a = ⟨a.block, 0, none⟩ then some (.lit (.int .i64 a.block), []) else none
  | _ => none
def pto : Option Nat → Option Addr
  | none => none
  | some b => some ⟨b, 0, none⟩
def rd (o : Option Nat) : DataW Unit := match o with | none => .nil | some b => .lit (.int .i64 b)
theorem rp_pto (o : Option Nat) : Rp (.pointer (pto o)) = some (rd o, []) := by cases o <;> simp [Rp, pto, rd]
theorem rp_inv {v : Value} {o : Option Nat} {ps : List MemPlace} (h : Rp v = some (rd o, ps)) : v = .pointer (pto o) := by
  unfold Rp at h
  split at h
  · cases o with
    | none => rfl
    | some b => simp [rd] at h
  · rename_i a
    split at h
    · rename_i ha
      cases o with
      | none => simp [rd] at h
      | some b =>
        simp [rd] at h
        rw [ha]
        obtain ⟨h1, -⟩ := h
        have : a.block = b := by omega
        rw [this]
        rfl
    · cases h
  · cases h
/-- A name as a map's key. -/
def Fine (s : ByteArray) : Prop := s.size ≤ maxLen
def klit (s : ByteArray) : Lit := .string s.data.toList
theorem skeyed : Keyed Try.prog 9 := string_keyed Try.underlying9
theorem key_of {s : ByteArray} (h : Fine s) : keyOf Try.prog 9 (.string s) = some (klit s) := by
  simp [keyOf, klit, mapKey, Try.underlying9, h, Fine] at *
  exact h
theorem klit_inj {s t : ByteArray} (h : klit s = klit t) : s = t := by
  unfold klit at h
  cases s; cases t
  simp at h
  simp [h]
/-- Block m is a map of at most n names, each of which leads where f says. -/
def MapIs (w : World) (m n : Nat) (f : ByteArray → Option Nat) : Prop := ∃ D, w.ownsMap Try.prog 9 Rp m n D ∧ ∀ k, Fine k → D.atKey (klit k) .nil = rd (f k)
theorem MapIs.lt {w : World} {m n : Nat} {f : ByteArray → Option Nat} (h : MapIs w m n f) : m < w.heap.size := h.choose_spec.1.lt
theorem MapIs.obj {w : World} {m n : Nat} {f : ByteArray → Option Nat} (h : MapIs w m n f) : ∃ es c, w.heap[m]? = some (.map es c) := by
  obtain ⟨D, ⟨es, c, h, _⟩, _⟩ := h
  exact ⟨es, c, h⟩
theorem MapIs.same {w w' : World} {m n : Nat} {f : ByteArray → Option Nat} (h : MapIs w m n f) (hw : w'.heap[m]? = w.heap[m]?) : MapIs w' m n f := by
  obtain ⟨D, ⟨es, c, h, hr⟩, hf⟩ := h
  exact ⟨D, ⟨es, c, hw.trans h, hr⟩, hf⟩
theorem MapIs.drew {w : World} {m n : Nat} {f : ByteArray → Option Nat} (h : MapIs w m n f) : MapIs w.drew m n f := h
theorem MapIs.old {w : World} {m n : Nat} {f : ByteArray → Option Nat} (h : MapIs w m n f) (o : Obj) : MapIs (w.alloc o) m n f := h.same (heap_alloc_old w o h.lt)
theorem MapIs.made (w : World) : MapIs (w.alloc (.map #[] 0)) w.heap.size 0 (fun _ => none) := ⟨_, World.ownsMap_made _ _ _ _, fun k _ => rfl⟩
theorem MapIs.congr {w : World} {m n : Nat} {f g : ByteArray → Option Nat} (h : MapIs w m n f) (e : ∀ s, f s = g s) : MapIs w m n g := by
  obtain rfl : f = g := funext e
  exact h
theorem MapIs.not_blk {w : World} {m n : Nat} {f : ByteArray → Option Nat} (h : MapIs w m n f) {b : Nat} {cs : Array Value} {t : TypeId} (hb : Blk w b cs t) : b ≠ m := fun e => by
  subst e
  obtain ⟨es, c, ho⟩ := h.obj
  rw [show w.heap[b]? = _ from hb] at ho
  cases ho
theorem MapIs.not_own {w : World} {m n : Nat} {f : ByteArray → Option Nat} (h : MapIs w m n f) {base : Nat} {e : TypeId} {size k : Nat} {v : Value} {xs : List Value} (ho : w.ownsRow base e size v k xs) : v.ownBlock ≠ some m := fun e1 => by
  obtain ⟨es, c, hob⟩ := h.obj
  rcases ho.2 with ⟨rfl, _⟩ | ⟨g, cap, cur, rfl, _, hgb, _⟩
  · simp [Value.ownBlock] at e1
  · simp [Value.ownBlock] at e1
    rw [e1, hob] at hgb
    cases hgb
theorem zeroP (w : World) : (zeroValue 65).run Try.prog w = .ok (.pointer none) w := by kernel_rfl
/-- What a name leads to. -/
theorem MapIs.look {w : World} {m n : Nat} {f : ByteArray → Option Nat} (h : MapIs w m n f) {s : ByteArray} (hk : Fine s) : (Instr.lookup 76 (.map (some m)) (.string s) false).run Try.prog w = .ok (.pointer (pto (f s))) w := by
  obtain ⟨D, hd, hf⟩ := h
  obtain ⟨v, ps, hrun, hv⟩ := hd.lookup (t := 76) (e := 65) skeyed Try.underlying76 (zeroP w) (zd := .nil) (zp := []) rfl (key_of hk)
  rw [hf s hk] at hv
  rw [hrun, rp_inv hv]
def upd (f : ByteArray → Option Nat) (k : ByteArray) (o : Option Nat) : ByteArray → Option Nat := fun k' => if k' = k then o else f k'
theorem key_lit {k : ByteArray} (hk : Fine k) : WideAt.IsKeyLit (klit k) := skeyed.key (key_of hk)
/-- A name led anew. -/
theorem MapIs.store {w : World} {m n : Nat} {f : ByteArray → Option Nat} (h : MapIs w m n f) (hn : n < maxLen) {k : ByteArray} (hk : Fine k) (o : Option Nat) : ∃ w', (Instr.mapUpdate 76 (.map (some m)) (.string k) (.pointer (pto o))).run Try.prog w = .ok () w' ∧ MapIs w' m (n + 1) (upd f k o) ∧ w.mapTurned w' m := by
  obtain ⟨D, hd, hf⟩ := h
  obtain ⟨w', h1, h2, h3⟩ := hd.store (t := 76) (e := 65) skeyed Try.underlying76 hn (key_of hk) (rp_pto o)
  refine ⟨w', h1, ⟨_, h2, fun k' hk' => ?_⟩, h3⟩
  unfold upd
  by_cases e : k' = k
  · subst e
    rw [if_pos rfl, atKey_put_same hd.isMap (key_lit hk)]
  · rw [if_neg e, atKey_put_other (fun h => e (klit_inj h)), hf k' hk']

/-! ### Whole values read, laid, boxed, built -/
def Ld (T : TypeId) (v : Value) : Sem Value := Instr.loadAt T v
def St (T : TypeId) (p v : Value) : Sem Unit := Instr.storeAt T p v
def Al (T : TypeId) : Sem Value := Instr.alloc T true (.tuple #[])
def Bx (T : TypeId) (v : Value) : Sem Value := Instr.box T v
def Bd (T : TypeId) (ps : Array (Nat × Value)) : Sem Value := Instr.build T ps
theorem bdV (ps : Array (Nat × Value)) : Instr.build 32 ps = Bd 32 ps := (rfl)
theorem bdP (ps : Array (Nat × Value)) : Instr.build 69 ps = Bd 69 ps := (rfl)
theorem ldV (v : Value) : Instr.loadAt 32 v = Ld 32 v := (rfl)
theorem stV (p v : Value) : Instr.storeAt 32 p v = St 32 p v := (rfl)
theorem alV : Instr.alloc 32 true (.tuple #[]) = Al 32 := (rfl)
theorem bxV (v : Value) : Instr.box 32 v = Bx 32 v := (rfl)
theorem bxP (v : Value) : Instr.box 69 v = Bx 69 v := (rfl)
theorem run_bd0 (w : World) : (Bd 32 #[]).run Try.prog w = .ok (.agg (vcs zeroV)) w := run_build w _ _ _ (by kernel_rfl)
theorem run_bd1 (w : World) : (Bd 32 #[(0, .int .i64 1)]).run Try.prog w = .ok (.agg (vcs ⟨1, 0, ⟨#[]⟩⟩)) w := run_build w _ _ _ (by kernel_rfl)
theorem run_bdP (n : ByteArray) (w : World) (f : Bool) : (Bd 69 #[(2, .bool f)]).run Try.prog w = .ok (.agg (pcs ⟨n, f, false, zeroV⟩)) w := run_build w _ _ _ (by kernel_rfl)
theorem infoV : (Try.prog.info? 32).map (fun i => (i.zero, i.size)) = some (some (.agg (vcs zeroV)), 3) := by kernel_rfl
theorem sizeV : (Try.prog.info? 32).map (·.size) = some 3 := by kernel_rfl
theorem run_bx (T : TypeId) (cs : Array Value) (w : World) : (Bx T (.agg cs)).run Try.prog w = .ok (ptr w.heap.size) (w.alloc (.cells cs T)) := by
  unfold Bx
  simp [Instr.box, newVar, newRow, Value.cells, go_sem, ptr]
theorem run_alV (w : World) : (Al 32).run Try.prog w = .ok (ptr w.heap.size) (w.alloc (.cells (vcs zeroV) 32)) := by
  cases hq : Try.prog.info? 32 with
  | none => have := infoV; rw [hq] at this; cases this
  | some i =>
    have hi := infoV
    rw [hq] at hi
    simp at hi
    unfold Al
    simp [Instr.alloc, zeroValue, typeInfo, hq, hi.1, newVar, newRow, go_sem, ptr, Value.cells]
theorem run_ldR {w : World} {b o : Nat} {v : Vl} (h : w.rangeAt b o (vcs v).toList) : (Ld 32 (.pointer (some ⟨b, o, none⟩))).run Try.prog w = .ok (.agg (vcs v)) w := by
  have := run_loadAt_mid (P := Try.prog) w b o 32 _ _ h Try.underlying32 rfl sizeV
  simpa [Ld] using this
theorem run_ldV {w : World} {b : Nat} {v : Vl} {T : TypeId} (h : Blk w b (vcs v) T) : (Ld 32 (.pointer (some ⟨b, 0, none⟩))).run Try.prog w = .ok (.agg (vcs v)) w := run_ldR (h.range (r := []) (by simp))
theorem run_ldP {w : World} {b : Nat} {a : Va} {T : TypeId} (h : Blk w b (pcs a) T) : (Ld 32 (.pointer (some ⟨b, 0, none⟩))).run Try.prog w = .ok (.agg (vcs a.v)) w := run_ldR (h.range (pcs_vcs a))
theorem run_stV {w : World} {b o : Nat} {v : Vl} (ht : w.there b o 3) : (St 32 (.pointer (some ⟨b, o, none⟩)) (.agg (vcs v))).run Try.prog w = .ok () (w.setCells b o (vcs v).toList) :=
  run_storeAt_mid (P := Try.prog) w b o 32 (vcs v) ht (by rw [vcs_size]; exact sizeV) (vcs_one v)
theorem setRow_new (w : World) (c cs : Array Value) (t : TypeId) : (w.alloc (.cells c t)).setRow w.heap.size cs = w.alloc (.cells cs t) := by
  unfold World.setRow World.alloc
  simp only
  congr 1
  apply Array.ext_getElem?
  intro i
  rw [Array.getElem?_modify]
  by_cases h : w.heap.size = i
  · subst h
    simp
  · have h' : ¬ i = w.heap.size := fun e => h e.symm
    simp [h, h', Array.getElem?_push]
theorem run_stRow {w : World} {b : Nat} {t : TypeId} {old : Array Value} {v : Vl} (h : Blk w b old t) (hs : old.size = 3) : (St 32 (.pointer (some ⟨b, 0, none⟩)) (.agg (vcs v))).run Try.prog w = .ok () (w.setRow b (vcs v)) := by
  have h := run_storeVar_row (P := Try.prog) w b t 32 old (vcs v) h (by rw [vcs_size]; exact sizeV) hs (vcs_one v)
  unfold St
  simp only [Instr.storeAt, Instr.sureAddr, Sem.run_bind, Sem.run_pure, Result.andThen_ok, h]
theorem run_stN (w : World) (v o : Vl) : (St 32 (.pointer (some ⟨w.heap.size, 0, none⟩)) (.agg (vcs v))).run Try.prog (w.alloc (.cells (vcs o) 32)) = .ok () (w.alloc (.cells (vcs v) 32)) := by
  rw [run_stRow (Blk.new w (vcs o) _) rfl, setRow_new]
theorem Blk.row {w : World} {b : Nat} {old : Array Value} {t : TypeId} (h : Blk w b old t) (cs : Array Value) : Blk (w.setRow b cs) b cs t := setRow_heap w b old cs t _ h
theorem Blk.row_other {w : World} {b c : Nat} {old : Array Value} {t : TypeId} (h : Blk w b old t) (cs : Array Value) (hne : b ≠ c) : Blk (w.setRow c cs) b old t := (setRow_other w c b cs hne).trans h
theorem Blk.val {w : World} {b : Nat} {a : Va} {t : TypeId} (h : Blk w b (pcs a) t) (v : Vl) : Blk (w.setCells b 0 (vcs v).toList) b (pcs { a with v := v }) t := ((h.set 0 (.int .i64 v.k)).set 1 (.int .i64 v.n)).set 2 (.string v.s)
end Go.Proofs.Ytblbeinnfbohbaa.Sc

/-
  Scopes as plain data: what each call answers and leaves (P1701).
-/
namespace Go.Proofs.Ytblbeinnfbohbaa.Sc
open Go Go.RowKit Go.Maps
set_option linter.unusedVariables false
set_option linter.unusedSimpArgs false

/-- A name's place in a scope. -/
def findV : List Va → ByteArray → Option Nat
  | [], _ => none
  | a :: r, s => if a.name = s then some 0 else (findV r s).map (· + 1)
theorem findV_some : ∀ {l : List Va} {s : ByteArray} {j : Nat}, findV l s = some j → ∃ a, l[j]? = some a ∧ a.name = s
  | [], _, _, h => by cases h
  | a :: r, s, j, h => by
    unfold findV at h
    by_cases e : a.name = s
    · rw [if_pos e] at h
      cases h
      exact ⟨a, rfl, e⟩
    · rw [if_neg e] at h
      obtain ⟨i, hi, rfl⟩ := Option.map_eq_some_iff.1 h
      obtain ⟨b, hb, hn⟩ := findV_some hi
      exact ⟨b, by simpa using hb, hn⟩
theorem findV_snoc (l : List Va) (a : Va) (h : findV l a.name = none) (s : ByteArray) : findV (l ++ [a]) s = if s = a.name then some l.length else findV l s := by
  induction l with
  | nil =>
    by_cases e : s = a.name
    · subst e; simp [findV]
    · have e' : ¬ a.name = s := fun h => e h.symm
      simp [findV, e, e']
  | cons b r ih =>
    unfold findV at h
    by_cases e : b.name = a.name
    · rw [if_pos e] at h; cases h
    · rw [if_neg e] at h
      have h' : findV r a.name = none := by simpa using h
      rw [List.cons_append, findV, ih h']
      by_cases e1 : b.name = s
      · rw [if_pos e1, findV, if_pos e1]
        have : ¬ s = a.name := fun e2 => e (e1.trans e2)
        rw [if_neg this]
      · rw [if_neg e1, findV, if_neg e1]
        by_cases e2 : s = a.name
        · simp [e2]
        · simp [e2]
theorem findV_set (l : List Va) (j : Nat) (a b : Va) (h : l[j]? = some a) (hn : b.name = a.name) (s : ByteArray) : findV (l.set j b) s = findV l s := by
  induction l generalizing j with
  | nil => rfl
  | cons c r ih =>
    cases j with
    | zero => simp at h; subst h; simp [findV, hn]
    | succ j =>
      have h' : r[j]? = some a := by simpa using h
      simp [findV, ih j h']

/-- The nearest scope that declares a name, and its place there. -/
def findS (S : List Sco) : Nat → Int → ByteArray → Option (Nat × Nat)
  | 0, _, _ => none
  | k + 1, env, s => if env < 0 then none else match S[env.toNat]? with
    | none => none
    | some sc => match findV sc.vs s with
      | some j => some (env.toNat, j)
      | none => findS S k sc.parent s
def seek (S : List Sco) (env : Int) (s : ByteArray) : Option (Nat × Nat) := findS S (env + 1).toNat env s
/-- Each parent comes before. -/
def Par (S : List Sco) : Prop := ∀ (i : Nat) (sc : Sco), S[i]? = some sc → -1 ≤ sc.parent ∧ sc.parent < i
theorem findS_more {S : List Sco} (hp : Par S) (s : ByteArray) : ∀ (k : Nat) (env : Int), (env + 1).toNat ≤ k → findS S k env s = findS S (env + 1).toNat env s := by
  intro k
  induction k using Nat.strongRecOn with
  | _ k ih =>
    intro env hk
    by_cases h0 : env < 0
    · have e : (env + 1).toNat = 0 := by omega
      rw [e]
      clear ih hk
      cases k with
      | zero => rfl
      | succ k => simp only [findS, if_pos h0]
    · obtain ⟨n, rfl⟩ : ∃ n : Nat, env = n := ⟨env.toNat, by omega⟩
      have e : ((n : Int) + 1).toNat = n + 1 := by omega
      rw [e] at hk ⊢
      obtain ⟨k', rfl⟩ : ∃ k', k = k' + 1 := ⟨k - 1, by omega⟩
      rw [findS, findS, if_neg h0, if_neg h0]
      cases hS : S[(n : Int).toNat]? with
      | none => rfl
      | some sc =>
        have hpar := hp _ _ hS
        have hn : ((n : Int).toNat : Int) = n := by omega
        rw [hn] at hpar
        simp only
        cases findV sc.vs s with
        | some j => rfl
        | none =>
          simp only
          rw [ih k' (by omega) sc.parent (by omega)]
          by_cases hlt : n < k' + 1
          · rw [ih n hlt sc.parent (by omega)]
          · omega
theorem seek_out {S : List Sco} {env : Int} (h : env < 0 ∨ (S.length : Int) ≤ env) (s : ByteArray) : seek S env s = none := by
  unfold seek
  by_cases h0 : env < 0
  · have e : (env + 1).toNat = 0 := by omega
    rw [e]
    rfl
  · obtain ⟨n, hn⟩ : ∃ n, (env + 1).toNat = n + 1 := ⟨env.toNat, by omega⟩
    rw [hn, findS, if_neg h0]
    have : S[env.toNat]? = none := List.getElem?_eq_none (by omega)
    rw [this]
theorem seek_in {S : List Sco} (hp : Par S) {i : Nat} {sc : Sco} (h : S[i]? = some sc) (s : ByteArray) : seek S i s = match findV sc.vs s with | some j => some (i, j) | none => seek S sc.parent s := by
  unfold seek
  have e : ((i : Int) + 1).toNat = i + 1 := by omega
  rw [e, findS, if_neg (by omega)]
  have e2 : (i : Int).toNat = i := by omega
  rw [e2, h]
  simp only
  have hpar := hp _ _ h
  cases findV sc.vs s with
  | some j => rfl
  | none => exact findS_more hp s i sc.parent (by omega)
theorem seek_some {S : List Sco} (hp : Par S) (s : ByteArray) : ∀ (n : Nat) (env : Int), env < n → ∀ i j, seek S env s = some (i, j) → ∃ sc va, S[i]? = some sc ∧ sc.vs[j]? = some va ∧ va.name = s ∧ findV sc.vs s = some j := by
  intro n
  induction n with
  | zero => intro env he i j h; rw [seek_out (.inl (by omega))] at h; cases h
  | succ n ih =>
    intro env he i j h
    by_cases h0 : env < 0
    · rw [seek_out (.inl h0)] at h; cases h
    by_cases h1 : (S.length : Int) ≤ env
    · rw [seek_out (.inr h1)] at h; cases h
    obtain ⟨m, rfl⟩ : ∃ m : Nat, env = m := ⟨env.toNat, by omega⟩
    obtain ⟨sc, hsc⟩ : ∃ sc, S[m]? = some sc := ⟨S[m]'(by omega), List.getElem?_eq_getElem (by omega)⟩
    rw [seek_in hp hsc] at h
    cases hf : findV sc.vs s with
    | some j' =>
      rw [hf] at h
      cases h
      obtain ⟨va, h2, h3⟩ := findV_some hf
      exact ⟨sc, va, hsc, h2, h3, hf⟩
    | none =>
      rw [hf] at h
      have := hp _ _ hsc
      exact ih sc.parent (by omega) i j h
theorem seek_got {S : List Sco} (hp : Par S) {env : Int} {s : ByteArray} {i j : Nat} (h : seek S env s = some (i, j)) : ∃ sc va, S[i]? = some sc ∧ sc.vs[j]? = some va ∧ va.name = s ∧ findV sc.vs s = some j :=
  seek_some hp s (env + 1).toNat env (by omega) i j h

/-! ### The calls -/
def there (S : List Sco) (env : Int) : Bool := decide (0 ≤ env) && decide (env < S.length)
/-- A scope's variables anew. -/
def setVs (S : List Sco) (i : Nat) (l : List Va) : List Sco := S.modify i fun sc => { sc with vs := l }
def makeF (S : List Sco) (p : Int) : Int × List Sco := if there S p then (S.length, S ++ [⟨p, []⟩]) else (-1, S)
def letF (S : List Sco) (env : Int) (s : ByteArray) (fx : Bool) : Bool × List Sco :=
  if there S env then match S[env.toNat]? with
    | none => (false, S)
    | some sc => match findV sc.vs s with
      | some _ => (false, S)
      | none => (true, setVs S env.toNat (sc.vs ++ [⟨s, fx, false, zeroV⟩]))
  else (false, S)
def beginF (S : List Sco) (env : Int) (s : ByteArray) (v : Vl) : Bool × List Sco :=
  if there S env then match S[env.toNat]? with
    | none => (false, S)
    | some sc => match findV sc.vs s with
      | none => (false, S)
      | some j => match sc.vs[j]? with
        | none => (false, S)
        | some a => if a.has then (false, S) else (true, setVs S env.toNat (sc.vs.set j { a with has := true, v := v }))
  else (false, S)
def varAt (S : List Sco) (i j : Nat) : Option Va := match S[i]? with | none => none | some sc => sc.vs[j]?
def getF (S : List Sco) (env : Int) (s : ByteArray) : Vl × Int := match seek S env s with
  | none => (zeroV, 1)
  | some (i, j) => match varAt S i j with
    | none => (zeroV, 1)
    | some a => if a.has then (a.v, 0) else (zeroV, 2)
def setF (S : List Sco) (env : Int) (s : ByteArray) (v : Vl) : Int × List Sco := match seek S env s with
  | none => (1, S)
  | some (i, j) => match S[i]? with
    | none => (1, S)
    | some sc => match sc.vs[j]? with
      | none => (1, S)
      | some a => if a.has then if a.fixed then (3, S) else (0, setVs S i (sc.vs.set j { a with v := v })) else (2, S)
theorem setVs_len (S : List Sco) (i : Nat) (l : List Va) : (setVs S i l).length = S.length := by simp [setVs]
theorem setVs_same {S : List Sco} {i : Nat} {sc : Sco} (h : S[i]? = some sc) (l : List Va) : (setVs S i l)[i]? = some { sc with vs := l } := by simp [setVs, List.getElem?_modify, h]
theorem setVs_other (S : List Sco) {i k : Nat} (hne : k ≠ i) (l : List Va) : (setVs S i l)[k]? = S[k]? := by
  have : ¬ i = k := fun e => hne e.symm
  simp [setVs, List.getElem?_modify, this]
theorem setVs_cases {S : List Sco} {i k : Nat} {l : List Va} {sc : Sco} (h : (setVs S i l)[k]? = some sc) : (k ≠ i ∧ S[k]? = some sc) ∨ (k = i ∧ ∃ sc0, S[i]? = some sc0 ∧ sc = { sc0 with vs := l }) := by
  by_cases e : k = i
  · subst e
    right
    refine ⟨rfl, ?_⟩
    simp [setVs, List.getElem?_modify] at h
    obtain ⟨sc0, h1, h2⟩ := h
    exact ⟨sc0, h1, h2.symm⟩
  · exact .inl ⟨e, by rw [setVs_other S e] at h; exact h⟩
theorem Par.setVs {S : List Sco} (h : Par S) (i : Nat) (l : List Va) : Par (setVs S i l) := fun k sc hk => by
  rcases setVs_cases hk with ⟨_, h1⟩ | ⟨rfl, sc0, h1, rfl⟩
  · exact h k sc h1
  · exact h k sc0 h1
theorem Par.snoc {S : List Sco} (h : Par S) {p : Int} (h0 : -1 ≤ p) (h1 : p < S.length) (l : List Va) : Par (S ++ [⟨p, l⟩]) := fun k sc hk => by
  by_cases e : k < S.length
  · rw [List.getElem?_append_left e] at hk
    exact h k sc hk
  · by_cases e2 : k = S.length
    · subst e2
      simp at hk
      subst hk
      exact ⟨h0, h1⟩
    · rw [List.getElem?_eq_none (by simp; omega)] at hk
      cases hk
/-- At most n + 1 scopes, at most n variables in each. -/
structure Lim (n : Nat) (S : List Sco) : Prop where
  scopes : S.length ≤ n + 1
  vars : ∀ (i : Nat) (sc : Sco), S[i]? = some sc → sc.vs.length ≤ n
theorem Lim.mono {n m : Nat} {S : List Sco} (h : Lim n S) (hm : n ≤ m) : Lim m S := ⟨by have := h.scopes; omega, fun i sc hi => Nat.le_trans (h.vars i sc hi) hm⟩
theorem Lim.setVs {n : Nat} {S : List Sco} (h : Lim n S) {i m : Nat} {l : List Va} (hm : n ≤ m) (hl : l.length ≤ m) : Lim m (setVs S i l) := by
  refine ⟨by rw [setVs_len]; have := h.scopes; omega, fun k sc hk => ?_⟩
  rcases setVs_cases hk with ⟨_, h1⟩ | ⟨rfl, sc0, h1, rfl⟩
  · exact Nat.le_trans (h.vars k sc h1) hm
  · exact hl
theorem Lim.make {n : Nat} {S : List Sco} (h : Lim n S) (p : Int) : Lim (n + 1) (makeF S p).2 := by
  unfold makeF
  split
  · refine ⟨by simp; have := h.scopes; omega, fun k sc hk => ?_⟩
    simp only at hk
    by_cases e : k < S.length
    · rw [List.getElem?_append_left e] at hk
      exact Nat.le_succ_of_le (h.vars k sc hk)
    · by_cases e2 : k = S.length
      · subst e2; simp at hk; subst hk; simp
      · rw [List.getElem?_eq_none (by simp; omega)] at hk; cases hk
  · exact h.mono (Nat.le_succ n)
theorem Lim.let {n : Nat} {S : List Sco} (h : Lim n S) (env : Int) (s : ByteArray) (fx : Bool) : Lim (n + 1) (letF S env s fx).2 := by
  unfold letF
  split
  · split
    · exact h.mono (Nat.le_succ n)
    · rename_i sc hsc
      split
      · exact h.mono (Nat.le_succ n)
      · exact h.setVs (Nat.le_succ n) (by simp; exact h.vars _ _ hsc)
  · exact h.mono (Nat.le_succ n)
theorem Lim.begin {n : Nat} {S : List Sco} (h : Lim n S) (env : Int) (s : ByteArray) (v : Vl) : Lim n (beginF S env s v).2 := by
  unfold beginF
  split
  · split
    · exact h
    · rename_i sc hsc
      split
      · exact h
      · split
        · exact h
        · split
          · exact h
          · exact h.setVs (Nat.le_refl n) (by simp; exact h.vars _ _ hsc)
  · exact h
theorem Lim.set {n : Nat} {S : List Sco} (h : Lim n S) (env : Int) (s : ByteArray) (v : Vl) : Lim n (setF S env s v).2 := by
  unfold setF
  split
  · exact h
  · split
    · exact h
    · rename_i sc hsc
      split
      · exact h
      · split
        · split
          · exact h
          · exact h.setVs (Nat.le_refl n) (by simp; exact h.vars _ _ hsc)
        · exact h
end Go.Proofs.Ytblbeinnfbohbaa.Sc
