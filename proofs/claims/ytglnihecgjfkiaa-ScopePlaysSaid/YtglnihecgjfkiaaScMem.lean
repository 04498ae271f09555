/-
  Scopes in memory: blocks, values, variables, maps from names to pointers; what an operation leaves.
-/
import Derived.Test.YtglnihecgjfkiaaProg
import Derived.Laws.Tables
import Derived.Laws.Rows
import Derived.Laws.Cells
import Derived.Laws.StructEq
import Derived.Laws.ResultCell
import Derived.Laws.OwnMore
import Derived.Laws.AppendOwnNone
import Derived.Deep.MidRow
import Derived.Great.BuildSlice
import Derived.Maps.AppendAt
import Derived.Maps.OwnSet
import Derived.OwnWalk
import Derived.KernelRfl
import Derived.WalkArith
import Derived.WalkKit
import Derived.Below
import Derived.Lib.Hide
namespace Go.Proofs.Ytglnihecgjfkiaa.Sc
open Go Go.RowKit Go.Maps
set_option linter.unusedVariables false
set_option linter.unusedSimpArgs false

/-- A value of the language. -/
structure Vl where
  k : Int
  n : Int
  s : ByteArray
abbrev zeroV : Vl := ⟨0, 0, ⟨#[]⟩⟩
/-- A variable. -/
structure Va where
  name : ByteArray
  fixed : Bool
  has : Bool
  v : Vl
/-- A scope: its parent's number (-1: none) and its variables in order. -/
structure Sco where
  parent : Int
  vs : List Va
abbrev ptr (b : Nat) : Value := .pointer (some ⟨b, 0, none⟩)
def vcs (v : Vl) : Array Value := #[.int .i64 v.k, .int .i64 v.n, .string v.s]
/-- A variable of the program. -/
def pcs (a : Va) : Array Value := #[.int .i64 a.v.k, .int .i64 a.v.n, .string a.v.s, .bool a.has, .bool a.fixed]
theorem vcs_size (v : Vl) : (vcs v).size = 3 := rfl
theorem vcs_one (v : Vl) : (vcs v).all (·.oneCell') = true := by simp [vcs, Value.oneCell']
theorem pcs_size (v : Va) : (pcs v).size = 5 := rfl
theorem pcs_3 (a : Va) : (pcs a)[3]? = some (.bool a.has) := rfl
theorem pcs_4 (a : Va) : (pcs a)[4]? = some (.bool a.fixed) := rfl
theorem pcs_vcs (a : Va) : (pcs a).toList = (vcs a.v).toList ++ [.bool a.has, .bool a.fixed] := rfl

/-! ### Blocks -/
/-- A block that may be written: its cells. -/
def Blk (w : World) (b : Nat) (cs : Array Value) (t : TypeId) : Prop := w.heap[b]? = some (.cells cs t (0, 0))
theorem Blk.lt {w : World} {b : Nat} {cs : Array Value} {t : TypeId} (h : Blk w b cs t) : b < w.heap.size := (Array.getElem?_eq_some_iff.1 h).1
theorem Blk.cell {w : World} {b : Nat} {cs : Array Value} {t : TypeId} (h : Blk w b cs t) (i : Nat) : w.cell? ⟨b, i, none⟩ = cs[i]? := cell_of_row w b i cs t (0, 0) h
theorem Blk.frozen {w : World} {b : Nat} {cs : Array Value} {t : TypeId} (h : Blk w b cs t) (i : Nat) : w.frozen? ⟨b, i, none⟩ = false := frozen_of_row w b i cs t h
theorem Blk.new (w : World) (cs : Array Value) (t : TypeId) : Blk (w.alloc (.cells cs t)) w.heap.size cs t := heap_alloc_new w _
theorem Blk.old {w : World} {b : Nat} {cs : Array Value} {t : TypeId} (h : Blk w b cs t) (o : Obj) : Blk (w.alloc o) b cs t := (heap_alloc_old w o h.lt).trans h
theorem Blk.drew {w : World} {b : Nat} {cs : Array Value} {t : TypeId} (h : Blk w b cs t) : Blk w.drew b cs t := h
theorem Blk.set {w : World} {b : Nat} {cs : Array Value} {t : TypeId} (h : Blk w b cs t) (i : Nat) (v : Value) : Blk (w.setCell ⟨b, i, none⟩ v) b (cs.setIfInBounds i v) t := heap_setCell_same w b i cs t v h
theorem Blk.other {w : World} {b : Nat} {cs : Array Value} {t : TypeId} (h : Blk w b cs t) (a : Addr) (v : Value) (hne : b ≠ a.block) : Blk (w.setCell a v) b cs t := (heap_setCell_other w a b v hne).trans h
theorem Blk.call {w w' : World} {b : Nat} {cs : Array Value} {t : TypeId} (h : Blk w b cs t) (hb : Below w.heap.size w w') : Blk w' b cs t := (hb.block b h.lt).trans h
theorem Blk.range {w : World} {b : Nat} {cs : Array Value} {t : TypeId} (h : Blk w b cs t) {l r : List Value} (e : cs.toList = l ++ r) : w.rangeAt b 0 l := fun j v hv => by
  have hj : j < l.length := (List.getElem?_eq_some_iff.1 hv).1
  rw [Nat.zero_add, h.cell, ← Array.getElem?_toList, e, List.getElem?_append_left hj]
  exact hv
theorem there_blk {w : World} {b : Nat} {cs : Array Value} {t : TypeId} (h : Blk w b cs t) {o k : Nat} (hk : o + k ≤ cs.size) : w.there b o k := fun j hj => by
  refine ⟨?_, h.frozen (o + j)⟩
  rw [h.cell]
  simp
  omega
theorem ne_blk {w : World} {b c : Nat} {cs ds : Array Value} {s t : TypeId} (h : Blk w b cs s) (k : Blk w c ds t) (hne : s ≠ t) : b ≠ c := fun e => by
  subst e
  have e := Option.some.inj ((show w.heap[b]? = _ from h).symm.trans (show w.heap[b]? = _ from k))
  cases e
  exact hne rfl
theorem own_ne {w : World} {base b : Nat} {e t : TypeId} {size n : Nat} {v : Value} {xs : List Value} {cs : Array Value} (h : w.ownsRow base e size v n xs) (hb : Blk w b cs t) (hte : t ≠ e) : v.ownBlock ≠ some b := by
  rcases h.2 with ⟨rfl, _⟩ | ⟨g, cap, cur, rfl, _, hgb, _⟩
  · simp [Value.ownBlock]
  · simp only [Value.ownBlock, ne_eq, Option.some.injEq]
    rintro rfl
    have := (show w.heap[g]? = _ from hb).symm.trans hgb
    simp at this
    exact hte this.2
/-- Two lists of the call's own of different elements lie apart. -/
theorem own_two {w : World} {b1 b2 : Nat} {e1 e2 : TypeId} {s1 s2 n1 n2 : Nat} {v1 v2 : Value} {xs1 xs2 : List Value} (h1 : w.ownsRow b1 e1 s1 v1 n1 xs1) (h2 : w.ownsRow b2 e2 s2 v2 n2 xs2) (hne : e1 ≠ e2) : v1.ownBlock = none ∨ v1.ownBlock ≠ v2.ownBlock := by
  rcases h1.2 with ⟨rfl, _⟩ | ⟨g, cap, cur, rfl, _, hgb, _⟩
  · exact .inl rfl
  · rcases h2.2 with ⟨rfl, _⟩ | ⟨g2, cap2, cur2, rfl, _, hgb2, _⟩
    · right; simp [Value.ownBlock]
    · right
      simp only [Value.ownBlock, ne_eq, Option.some.injEq]
      rintro rfl
      rw [hgb] at hgb2
      simp at hgb2
      exact hne hgb2.2
theorem own_shape {w : World} {base : Nat} {e : TypeId} {size n : Nat} {v : Value} {xs : List Value} (h : w.ownsRow base e size v n xs) : ∃ a c, v = .slice a n c := by
  rcases h.2 with ⟨rfl, rfl⟩ | ⟨g, cap, cur, rfl, _⟩
  · exact ⟨_, _, rfl⟩
  · exact ⟨_, _, rfl⟩
/-- A list stays where its block does. -/
theorem own_same {w w' : World} {base : Nat} {e : TypeId} {size n : Nat} {v : Value} {xs : List Value} (h : w.ownsRow base e size v n xs) (hb : ∀ g, v.ownBlock = some g → w'.heap[g]? = w.heap[g]?) : w'.ownsRow base e size v n xs := by
  refine ⟨h.1, ?_⟩
  rcases h.2 with ⟨rfl, h0⟩ | ⟨g, cap, cur, rfl, h1, h2, h3⟩
  · exact .inl ⟨rfl, h0⟩
  · exact .inr ⟨g, cap, cur, rfl, h1, (hb g rfl).trans h2, h3⟩
theorem cell_one (w : World) (v : Value) (t : TypeId) : ∀ j u, [v][j]? = some u → (w.alloc (.cells #[v] t)).cell? ((⟨w.heap.size, 0, none⟩ : Addr).add j) = some u := fun j u hj => by
  cases j with
  | zero => simp at hj; subst hj; simp [Addr.add]
  | succ j => simp at hj

/-! ### What an operation leaves -/
/-- The streams are as they were; no block has gone. -/
structure Fr (w w' : World) : Prop where
  os : w'.os = w.os
  tape : w'.tape = w.tape
  output : w'.output = w.output
  size : w.heap.size ≤ w'.heap.size
theorem Fr.refl (w : World) : Fr w w := ⟨rfl, rfl, rfl, Nat.le_refl _⟩
theorem Fr.trans {a b c : World} (h : Fr a b) (k : Fr b c) : Fr a c := ⟨k.os.trans h.os, k.tape.trans h.tape, k.output.trans h.output, Nat.le_trans h.size k.size⟩
theorem Fr.drew {a w : World} (h : Fr a w) : Fr a w.drew := ⟨h.os, h.tape, h.output, h.size⟩
theorem Fr.alloc {a w : World} (h : Fr a w) (o : Obj) : Fr a (w.alloc o) := h.trans ⟨rfl, rfl, rfl, by simp⟩
theorem Fr.set {a w : World} (h : Fr a w) (x : Addr) (v : Value) : Fr a (w.setCell x v) := h.trans ⟨rfl, rfl, rfl, by simp [World.setCell]⟩
theorem Fr.turned {a w w' : World} {m : Nat} (h : Fr a w) (k : w.mapTurned w' m) : Fr a w' := h.trans ⟨k.grown.os, k.grown.tape, k.grown.output, k.grown.size⟩
theorem Fr.below {a w w' : World} {B : Nat} (h : Fr a w) (k : Below B w w') : Fr a w' := h.trans ⟨k.os, k.tape, k.output, k.size⟩
theorem Fr.grown {a w w' : World} {r : Option Nat} (h : Fr a w) (k : w.grownBy w' r) : Fr a w' := h.trans ⟨k.os, k.tape, k.output, k.size⟩
theorem setCells_block (b : Nat) : ∀ (vs : List Value) (o : Nat) (w : World) (k : Nat), k ≠ b → (w.setCells b o vs).heap[k]? = w.heap[k]?
  | [], _, _, _, _ => rfl
  | v :: r, o, w, k, h => by
    rw [World.setCells, setCells_block b r (o + 1) _ k h]
    exact heap_setCell_other w ⟨b, o, none⟩ k v h
theorem setCells_fr (b : Nat) : ∀ (vs : List Value) (o : Nat) (w : World), Fr w (w.setCells b o vs) ∧ (w.setCells b o vs).heap.size = w.heap.size
  | [], _, w => ⟨Fr.refl w, rfl⟩
  | v :: r, o, w => by
    obtain ⟨h1, h2⟩ := setCells_fr b r (o + 1) (w.setCell ⟨b, o, none⟩ v)
    rw [World.setCells]
    exact ⟨((Fr.refl w).set _ _).trans h1, h2.trans (by simp [World.setCell])⟩
theorem turned_other {w w' : World} {m b : Nat} (h : w.mapTurned w' m) (hne : b ≠ m) : w'.heap[b]? = w.heap[b]? := by
  obtain ⟨es, clock, es', clock', hb, rfl⟩ := h
  exact Go.ChangeMaps.heap_setBlock_other hb _ hne
/-- From w to w': of the old blocks only those of X have turned; what is of X' is of X or new. -/
structure Step (X X' : Nat → Prop) (w w' : World) : Prop where
  fr : Fr w w'
  stay : ∀ b, b < w.heap.size → ¬ X b → w'.heap[b]? = w.heap[b]?
  more : ∀ b, X' b → X b ∨ w.heap.size ≤ b
theorem Step.refl (X : Nat → Prop) (w : World) : Step X X w w := ⟨Fr.refl w, fun _ _ _ => rfl, fun _ h => .inl h⟩
theorem Step.trans {X X' X'' : Nat → Prop} {a b c : World} (h : Step X X' a b) (k : Step X' X'' b c) : Step X X'' a c := by
  refine ⟨h.fr.trans k.fr, fun i hi hx => ?_, fun i hi => ?_⟩
  · have h1 := h.stay i hi hx
    rw [← h1]
    refine k.stay i (Nat.lt_of_lt_of_le hi h.fr.size) fun hx' => ?_
    rcases h.more i hx' with h2 | h2
    · exact hx h2
    · omega
  · rcases k.more i hi with h1 | h1
    · exact h.more i h1
    · exact .inr (Nat.le_trans h.fr.size h1)
theorem Step.alloc {X X' : Nat → Prop} {a w : World} (h : Step X X' a w) (o : Obj) : Step X X' a (w.alloc o) :=
  ⟨h.fr.alloc o, fun b hb hx => (heap_alloc_old w o (Nat.lt_of_lt_of_le hb h.fr.size)).trans (h.stay b hb hx), h.more⟩
theorem Step.drew {X X' : Nat → Prop} {a w : World} (h : Step X X' a w) : Step X X' a w.drew := ⟨h.fr.drew, h.stay, h.more⟩
theorem Step.below {X X' : Nat → Prop} {a w w' : World} {B : Nat} (h : Step X X' a w) (hb : Below B w w') (hB : w.heap.size ≤ B) : Step X X' a w' :=
  ⟨h.fr.below hb, fun b hl hx => (hb.block b (by have := h.fr.size; omega)).trans (h.stay b hl hx), h.more⟩
theorem Step.ahead {X X' : Nat → Prop} {a b c : World} (hb : Below a.heap.size a b) (h : Step X X' b c) : Step X X' a c :=
  ⟨((Fr.refl a).below hb).trans h.fr, fun i hi hx => (h.stay i (Nat.lt_of_lt_of_le hi hb.size) hx).trans (hb.block i hi), fun i hi => (h.more i hi).imp id fun k => Nat.le_trans hb.size k⟩
theorem Step.toBelow {X X' : Nat → Prop} {w w' : World} {B : Nat} (h : Step X X' w w') (hB : B ≤ w.heap.size) (hX : ∀ b, X b → B ≤ b) : Below B w w' :=
  ⟨h.fr.os, h.fr.tape, h.fr.output, h.fr.size, fun b hb => h.stay b (by omega) fun hx => by have := hX b hx; omega⟩
theorem Step.blk {X X' : Nat → Prop} {w w' : World} {b : Nat} {cs : Array Value} {t : TypeId} (h : Step X X' w w') (hb : Blk w b cs t) (hx : ¬ X b) : Blk w' b cs t := (h.stay b hb.lt hx).trans hb

/-! ### Maps from names to pointers -/
/-- How a pointer reads: by its block. -/
def Rp : Value → Option (DataW Unit × List MemPlace)
  | .pointer none => some (.nil, [])
  | .pointer (some a) => if a = ⟨a.block, 0, none⟩ then some (.lit (.int .i64 a.block), []) else none
  | _ => none
def pto : Option Nat → Option Addr
  | none => none
  | some b => some ⟨b, 0, none⟩
def rd (o : Option Nat) : DataW Unit := match o with | none => .nil | some b => .lit (.int .i64 b)
theorem rp_pto (o : Option Nat) : Rp (.pointer (pto o)) = some (rd o, []) := by cases o <;> simp [Rp, pto, rd]
theorem rp_inv {v : Value} {o : Option Nat} {ps : List MemPlace} (h : Rp v = some (rd o, ps)) : v = .pointer (pto o) := by
  unfold Rp at h
  split at h
  · cases o with
    | none => rfl
    | some b => simp [rd] at h
  · rename_i a
    split at h
    · rename_i ha
      cases o with
      | none => simp [rd] at h
      | some b =>
        simp [rd] at h
        rw [ha]
        obtain ⟨h1, -⟩ := h
        have : a.block = b := by omega
        rw [this]
        rfl
    · cases h
  · cases h
/-- A name as a map's key. -/
def Fine (s : ByteArray) : Prop := s.size ≤ maxLen
def klit (s : ByteArray) : Lit := .string s.data.toList
theorem skeyed : Keyed Try.prog 9 := string_keyed Try.underlying9
theorem key_of {s : ByteArray} (h : Fine s) : keyOf Try.prog 9 (.string s) = some (klit s) := by
  simp [keyOf, klit, mapKey, Try.underlying9, h, Fine] at *
  exact h
theorem klit_inj {s t : ByteArray} (h : klit s = klit t) : s = t := by
  unfold klit at h
  cases s; cases t
  simp at h
  simp [h]
/-- Block m is a map of at most n names, each of which leads where f says. -/
def MapIs (w : World) (m n : Nat) (f : ByteArray → Option Nat) : Prop := ∃ D, w.ownsMap Try.prog 9 Rp m n D ∧ ∀ k, Fine k → D.atKey (klit k) .nil = rd (f k)
theorem MapIs.lt {w : World} {m n : Nat} {f : ByteArray → Option Nat} (h : MapIs w m n f) : m < w.heap.size := h.choose_spec.1.lt
theorem MapIs.obj {w : World} {m n : Nat} {f : ByteArray → Option Nat} (h : MapIs w m n f) : ∃ es c, w.heap[m]? = some (.map es c) := by
  obtain ⟨D, ⟨es, c, h, _⟩, _⟩ := h
  exact ⟨es, c, h⟩
theorem MapIs.same {w w' : World} {m n : Nat} {f : ByteArray → Option Nat} (h : MapIs w m n f) (hw : w'.heap[m]? = w.heap[m]?) : MapIs w' m n f := by
  obtain ⟨D, ⟨es, c, h, hr⟩, hf⟩ := h
  exact ⟨D, ⟨es, c, hw.trans h, hr⟩, hf⟩
theorem MapIs.drew {w : World} {m n : Nat} {f : ByteArray → Option Nat} (h : MapIs w m n f) : MapIs w.drew m n f := h
theorem MapIs.old {w : World} {m n : Nat} {f : ByteArray → Option Nat} (h : MapIs w m n f) (o : Obj) : MapIs (w.alloc o) m n f := h.same (heap_alloc_old w o h.lt)
theorem MapIs.made (w : World) : MapIs (w.alloc (.map #[] 0)) w.heap.size 0 (fun _ => none) := ⟨_, World.ownsMap_made _ _ _ _, fun k _ => rfl⟩
theorem MapIs.congr {w : World} {m n : Nat} {f g : ByteArray → Option Nat} (h : MapIs w m n f) (e : ∀ s, f s = g s) : MapIs w m n g := by
  obtain rfl : f = g := funext e
  exact h
theorem MapIs.not_blk {w : World} {m n : Nat} {f : ByteArray → Option Nat} (h : MapIs w m n f) {b : Nat} {cs : Array Value} {t : TypeId} (hb : Blk w b cs t) : b ≠ m := fun e => by
  subst e
  obtain ⟨es, c, ho⟩ := h.obj
  rw [show w.heap[b]? = _ from hb] at ho
  cases ho
theorem MapIs.not_own {w : World} {m n : Nat} {f : ByteArray → Option Nat} (h : MapIs w m n f) {base : Nat} {e : TypeId} {size k : Nat} {v : Value} {xs : List Value} (ho : w.ownsRow base e size v k xs) : v.ownBlock ≠ some m := fun e1 => by
  obtain ⟨es, c, hob⟩ := h.obj
  rcases ho.2 with ⟨rfl, _⟩ | ⟨g, cap, cur, rfl, _, hgb, _⟩
  · simp [Value.ownBlock] at e1
  · simp [Value.ownBlock] at e1
    rw [e1, hob] at hgb
    cases hgb
theorem zeroP (w : World) : (zeroValue 51).run Try.prog w = .ok (.pointer none) w := by kernel_rfl
/-- What a name leads to. -/
theorem MapIs.look {w : World} {m n : Nat} {f : ByteArray → Option Nat} (h : MapIs w m n f) {s : ByteArray} (hk : Fine s) : (Instr.lookup 52 (.map (some m)) (.string s) false).run Try.prog w = .ok (.pointer (pto (f s))) w := by
  obtain ⟨D, hd, hf⟩ := h
  obtain ⟨v, ps, hrun, hv⟩ := hd.lookup (t := 52) (e := 51) skeyed Try.underlying52 (zeroP w) (zd := .nil) (zp := []) rfl (key_of hk)
  rw [hf s hk] at hv
  rw [hrun, rp_inv hv]
def upd (f : ByteArray → Option Nat) (k : ByteArray) (o : Option Nat) : ByteArray → Option Nat := fun k' => if k' = k then o else f k'
theorem key_lit {k : ByteArray} (hk : Fine k) : WideAt.IsKeyLit (klit k) := skeyed.key (key_of hk)
/-- A name led anew. -/
theorem MapIs.store {w : World} {m n : Nat} {f : ByteArray → Option Nat} (h : MapIs w m n f) (hn : n < maxLen) {k : ByteArray} (hk : Fine k) (o : Option Nat) : ∃ w', (Instr.mapUpdate 52 (.map (some m)) (.string k) (.pointer (pto o))).run Try.prog w = .ok () w' ∧ MapIs w' m (n + 1) (upd f k o) ∧ w.mapTurned w' m := by
  obtain ⟨D, hd, hf⟩ := h
  obtain ⟨w', h1, h2, h3⟩ := hd.store (t := 52) (e := 51) skeyed Try.underlying52 hn (key_of hk) (rp_pto o)
  refine ⟨w', h1, ⟨_, h2, fun k' hk' => ?_⟩, h3⟩
  unfold upd
  by_cases e : k' = k
  · subst e
    rw [if_pos rfl, atKey_put_same hd.isMap (key_lit hk)]
  · rw [if_neg e, atKey_put_other (fun h => e (klit_inj h)), hf k' hk']

/-! ### Whole values read, laid, boxed, built -/
def Ld (T : TypeId) (v : Value) : Sem Value := Instr.loadAt T v
def St (T : TypeId) (p v : Value) : Sem Unit := Instr.storeAt T p v
def Al (T : TypeId) : Sem Value := Instr.alloc T true (.tuple #[])
def Bx (T : TypeId) (v : Value) : Sem Value := Instr.box T v
def Bd (T : TypeId) (ps : Array (Nat × Value)) : Sem Value := Instr.build T ps
theorem bdV (ps : Array (Nat × Value)) : Instr.build 29 ps = Bd 29 ps := (rfl)
theorem bdP (ps : Array (Nat × Value)) : Instr.build 56 ps = Bd 56 ps := (rfl)
theorem ldV (v : Value) : Instr.loadAt 29 v = Ld 29 v := (rfl)
theorem stV (p v : Value) : Instr.storeAt 29 p v = St 29 p v := (rfl)
theorem alV : Instr.alloc 29 true (.tuple #[]) = Al 29 := (rfl)
theorem bxV (v : Value) : Instr.box 29 v = Bx 29 v := (rfl)
theorem bxP (v : Value) : Instr.box 56 v = Bx 56 v := (rfl)
theorem run_bd0 (w : World) : (Bd 29 #[]).run Try.prog w = .ok (.agg (vcs zeroV)) w := run_build w _ _ _ (by kernel_rfl)
theorem run_bd1 (w : World) : (Bd 29 #[(0, .int .i64 1)]).run Try.prog w = .ok (.agg (vcs ⟨1, 0, ⟨#[]⟩⟩)) w := run_build w _ _ _ (by kernel_rfl)
theorem run_bdP (n : ByteArray) (w : World) (f : Bool) : (Bd 56 #[(2, .bool f)]).run Try.prog w = .ok (.agg (pcs ⟨n, f, false, zeroV⟩)) w := run_build w _ _ _ (by kernel_rfl)
theorem infoV : (Try.prog.info? 29).map (fun i => (i.zero, i.size)) = some (some (.agg (vcs zeroV)), 3) := by kernel_rfl
theorem sizeV : (Try.prog.info? 29).map (·.size) = some 3 := by kernel_rfl
theorem run_bx (T : TypeId) (cs : Array Value) (w : World) : (Bx T (.agg cs)).run Try.prog w = .ok (ptr w.heap.size) (w.alloc (.cells cs T)) := by
  unfold Bx
  simp [Instr.box, newVar, newRow, Value.cells, go_sem, ptr]
theorem run_alV (w : World) : (Al 29).run Try.prog w = .ok (ptr w.heap.size) (w.alloc (.cells (vcs zeroV) 29)) := by
  cases hq : Try.prog.info? 29 with
  | none => have := infoV; rw [hq] at this; cases this
  | some i =>
    have hi := infoV
    rw [hq] at hi
    simp at hi
    unfold Al
    simp [Instr.alloc, zeroValue, typeInfo, hq, hi.1, newVar, newRow, go_sem, ptr, Value.cells]
theorem run_ldR {w : World} {b o : Nat} {v : Vl} (h : w.rangeAt b o (vcs v).toList) : (Ld 29 (.pointer (some ⟨b, o, none⟩))).run Try.prog w = .ok (.agg (vcs v)) w := by
  have := run_loadAt_mid (P := Try.prog) w b o 29 _ _ h Try.underlying29 rfl sizeV
  simpa [Ld] using this
theorem run_ldV {w : World} {b : Nat} {v : Vl} {T : TypeId} (h : Blk w b (vcs v) T) : (Ld 29 (.pointer (some ⟨b, 0, none⟩))).run Try.prog w = .ok (.agg (vcs v)) w := run_ldR (h.range (r := []) (by simp))
theorem run_ldP {w : World} {b : Nat} {a : Va} {T : TypeId} (h : Blk w b (pcs a) T) : (Ld 29 (.pointer (some ⟨b, 0, none⟩))).run Try.prog w = .ok (.agg (vcs a.v)) w := run_ldR (h.range (pcs_vcs a))
theorem run_stV {w : World} {b o : Nat} {v : Vl} (ht : w.there b o 3) : (St 29 (.pointer (some ⟨b, o, none⟩)) (.agg (vcs v))).run Try.prog w = .ok () (w.setCells b o (vcs v).toList) :=
  run_storeAt_mid (P := Try.prog) w b o 29 (vcs v) ht (by rw [vcs_size]; exact sizeV) (vcs_one v)
theorem setRow_new (w : World) (c cs : Array Value) (t : TypeId) : (w.alloc (.cells c t)).setRow w.heap.size cs = w.alloc (.cells cs t) := by
  unfold World.setRow World.alloc
  simp only
  congr 1
  apply Array.ext_getElem?
  intro i
  rw [Array.getElem?_modify]
  by_cases h : w.heap.size = i
  · subst h
    simp
  · have h' : ¬ i = w.heap.size := fun e => h e.symm
    simp [h, h', Array.getElem?_push]
theorem run_stRow {w : World} {b : Nat} {t : TypeId} {old : Array Value} {v : Vl} (h : Blk w b old t) (hs : old.size = 3) : (St 29 (.pointer (some ⟨b, 0, none⟩)) (.agg (vcs v))).run Try.prog w = .ok () (w.setRow b (vcs v)) := by
  have h := run_storeVar_row (P := Try.prog) w b t 29 old (vcs v) h (by rw [vcs_size]; exact sizeV) hs (vcs_one v)
  unfold St
  simp only [Instr.storeAt, Instr.sureAddr, Sem.run_bind, Sem.run_pure, Result.andThen_ok, h]
theorem run_stN (w : World) (v o : Vl) : (St 29 (.pointer (some ⟨w.heap.size, 0, none⟩)) (.agg (vcs v))).run Try.prog (w.alloc (.cells (vcs o) 29)) = .ok () (w.alloc (.cells (vcs v) 29)) := by
  rw [run_stRow (Blk.new w (vcs o) _) rfl, setRow_new]
theorem Blk.row {w : World} {b : Nat} {old : Array Value} {t : TypeId} (h : Blk w b old t) (cs : Array Value) : Blk (w.setRow b cs) b cs t := setRow_heap w b old cs t _ h
theorem Blk.row_other {w : World} {b c : Nat} {old : Array Value} {t : TypeId} (h : Blk w b old t) (cs : Array Value) (hne : b ≠ c) : Blk (w.setRow c cs) b old t := (setRow_other w c b cs hne).trans h
theorem Blk.val {w : World} {b : Nat} {a : Va} {t : TypeId} (h : Blk w b (pcs a) t) (v : Vl) : Blk (w.setCells b 0 (vcs v).toList) b (pcs { a with v := v }) t := ((h.set 0 (.int .i64 v.k)).set 1 (.int .i64 v.n)).set 2 (.string v.s)
end Go.Proofs.Ytglnihecgjfkiaa.Sc
