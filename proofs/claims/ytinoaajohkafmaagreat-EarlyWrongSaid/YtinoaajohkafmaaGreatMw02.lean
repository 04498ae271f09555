/-
  Texts of this seat in build order: LxMem, LxName, LxSgn, LxNumb, UnBuild, UnWrite, UnText, VaHex, VaEsc, VaQm, VaQi, LxQuo, LxQuoW, LxNext, LxTok, LxUnd, LxTi, PaSpec.
-/
import Derived.Test.YtinoaajohkafmaaGreatMw01
import Derived.Laws.Tables
import Derived.Laws.Rows
import Derived.Laws.Cells
import Derived.Laws.ResultCell
import Derived.Laws.OwnMore
import Derived.Deep.MidRow
import Derived.KernelRfl
import Derived.Great.BuildSlice
import Derived.Lib.AppendStr
import Derived.Shelf.Utf8.AppendRunePlain
import Derived.Test.YtinoaajohkafmaaGreatMw00
import Derived.Lib.Small
import Derived.OwnWalk
import Derived.Maps.AppendAt
import Derived.Laws.AppendOwnNone
/-
  Tokens in memory: a whole one read, laid, made and built.
-/
namespace Go.Proofs.YtinoaajohkafmaaGreat.Lx
open Go Go.RowKit Go.Proofs.YtinoaajohkafmaaGreat.Uni
set_option linter.unusedVariables false
set_option linter.unusedSimpArgs false
abbrev ptr (b : Nat) : Value := .pointer (some ⟨b, 0, none⟩)
structure Tok where
  kind : Int
  pos : Int
  num : Int
  text : ByteArray
def zeroK : Tok := ⟨0, 0, 0, ⟨#[]⟩⟩
def kcs (t : Tok) : Array Value := #[.int .i64 t.kind, .int .i64 t.pos, .int .i64 t.num, .string t.text]
theorem kcs_size (t : Tok) : (kcs t).size = 4 := rfl
theorem kcs_0 (t : Tok) : (kcs t)[0]? = some (.int .i64 t.kind) := rfl
theorem kcs_2 (t : Tok) : (kcs t)[2]? = some (.int .i64 t.num) := rfl
theorem kcs_3 (t : Tok) : (kcs t)[3]? = some (.string t.text) := rfl
theorem kcs_one (t : Tok) : (kcs t).all (·.oneCell') = true := by simp [kcs, Value.oneCell']
def Blk (w : World) (b : Nat) (cs : Array Value) (t : TypeId) : Prop := w.heap[b]? = some (.cells cs t (0, 0))
theorem Blk.lt {w : World} {b : Nat} {cs : Array Value} {t : TypeId} (h : Blk w b cs t) : b < w.heap.size := (Array.getElem?_eq_some_iff.1 h).1
theorem Blk.cell {w : World} {b : Nat} {cs : Array Value} {t : TypeId} (h : Blk w b cs t) (i : Nat) : w.cell? ⟨b, i, none⟩ = cs[i]? := cell_of_row w b i cs t (0, 0) h
theorem Blk.frozen {w : World} {b : Nat} {cs : Array Value} {t : TypeId} (h : Blk w b cs t) (i : Nat) : w.frozen? ⟨b, i, none⟩ = false := frozen_of_row w b i cs t h
theorem Blk.new (w : World) (cs : Array Value) (t : TypeId) : Blk (w.alloc (.cells cs t)) w.heap.size cs t := heap_alloc_new w _
theorem Blk.old {w : World} {b : Nat} {cs : Array Value} {t : TypeId} (h : Blk w b cs t) (o : Obj) : Blk (w.alloc o) b cs t := (heap_alloc_old w o h.lt).trans h
theorem Blk.drew {w : World} {b : Nat} {cs : Array Value} {t : TypeId} (h : Blk w b cs t) : Blk w.drew b cs t := h
theorem Blk.drewN {w : World} {b : Nat} {cs : Array Value} {t : TypeId} (h : Blk w b cs t) (n : Nat) : Blk (w.drewN n) b cs t := h
theorem Blk.set {w : World} {b : Nat} {cs : Array Value} {t : TypeId} (h : Blk w b cs t) (i : Nat) (v : Value) : Blk (w.setCell ⟨b, i, none⟩ v) b (cs.setIfInBounds i v) t := heap_setCell_same w b i cs t v h
theorem Blk.other {w : World} {b : Nat} {cs : Array Value} {t : TypeId} (h : Blk w b cs t) (a : Addr) (v : Value) (hne : b ≠ a.block) : Blk (w.setCell a v) b cs t := (heap_setCell_other w a b v hne).trans h
theorem Blk.below {w w' : World} {B b : Nat} {cs : Array Value} {t : TypeId} (h : Blk w b cs t) (hb : Below B w w') (hlt : b < B) : Blk w' b cs t := (hb.block b hlt).trans h
theorem Blk.call {w w' : World} {b : Nat} {cs : Array Value} {t : TypeId} (h : Blk w b cs t) (hb : Below w.heap.size w w') : Blk w' b cs t := h.below hb h.lt
theorem Blk.gb {w w' : World} {g b : Nat} {cs : Array Value} {t : TypeId} (h : Blk w b cs t) (k : GB g w w') (hne : b ≠ g) : Blk w' b cs t := (k.block b h.lt (by simpa using hne)).trans h
theorem Blk.row {w : World} {b : Nat} {old : Array Value} {t : TypeId} (h : Blk w b old t) (cs : Array Value) : Blk (w.setRow b cs) b cs t := setRow_heap w b old cs t _ h
theorem Blk.row_other {w : World} {b c : Nat} {old : Array Value} {t : TypeId} (h : Blk w b old t) (cs : Array Value) (hne : b ≠ c) : Blk (w.setRow c cs) b old t := (setRow_other w c b cs hne).trans h
theorem Blk.range {w : World} {b : Nat} {cs : Array Value} {t : TypeId} (h : Blk w b cs t) {l r : List Value} (e : cs.toList = l ++ r) : w.rangeAt b 0 l := fun j v hv => by
  have hj : j < l.length := (List.getElem?_eq_some_iff.1 hv).1
  rw [Nat.zero_add, h.cell, ← Array.getElem?_toList, e, List.getElem?_append_left hj]
  exact hv
theorem size_setRow (w : World) (b : Nat) (cs : Array Value) : (w.setRow b cs).heap.size = w.heap.size := by simp [World.setRow]
theorem below_row {B : Nat} {w w' : World} (h : Below B w w') {b : Nat} (cs : Array Value) (hb : B ≤ b) : Below B w (w'.setRow b cs) := by
  refine ⟨h.os, h.tape, h.output, ?_, fun c hc => (setRow_other w' b c cs (by omega)).trans (h.block c hc)⟩
  rw [size_setRow]
  exact h.size
theorem setRow_new (w : World) (c cs : Array Value) (t : TypeId) : (w.alloc (.cells c t)).setRow w.heap.size cs = w.alloc (.cells cs t) := by
  unfold World.setRow World.alloc
  simp only
  congr 1
  apply Array.ext_getElem?
  intro i
  rw [Array.getElem?_modify]
  by_cases h : w.heap.size = i
  · subst h
    simp
  · have h' : ¬ i = w.heap.size := fun e => h e.symm
    simp [h, h', Array.getElem?_push]
theorem bl_alloc {w W : World} {o : Obj} (h : Below w.heap.size w W) : Below w.heap.size w (W.alloc o) := h.alloc h.size _
theorem bl_drew {w W : World} (h : Below w.heap.size w W) : Below w.heap.size w W.drew := h.drew
theorem bl_drewN {w W : World} {n : Nat} (h : Below w.heap.size w W) : Below w.heap.size w (W.drewN n) := below_drewN h n
theorem bel1 {w : World} {o : Obj} : Below w.heap.size w (w.alloc o) := bl_alloc (Below.refl _ w)
def Ld (T : TypeId) (v : Value) : Sem Value := Instr.loadAt T v
def St (T : TypeId) (p v : Value) : Sem Unit := Instr.storeAt T p v
def Al (T : TypeId) : Sem Value := Instr.alloc T true (.tuple #[])
def Bd (T : TypeId) (ps : Array (Nat × Value)) : Sem Value := Instr.build T ps
theorem ldK (v : Value) : Instr.loadAt 73 v = Ld 73 v := (rfl)
theorem stK (p v : Value) : Instr.storeAt 73 p v = St 73 p v := (rfl)
theorem alK : Instr.alloc 73 true (.tuple #[]) = Al 73 := (rfl)
theorem bdK (ps : Array (Nat × Value)) : Instr.build 73 ps = Bd 73 ps := (rfl)
theorem infoK : (Tryz.prog.info? 73).map (fun i => (i.zero, i.size)) = some (some (.agg (kcs zeroK)), 4) := by kernel_rfl
theorem infoK3 : (Tryz.prog.info? 73).map (fun i => (i.zero, i.size, i.bytes)) = some (some (.agg (kcs zeroK)), 4, 40) := by kernel_rfl
theorem sizeK : (Tryz.prog.info? 73).map (·.size) = some 4 := by kernel_rfl
theorem run_al {T : TypeId} {z : Value} {n : Nat} (hi : (Tryz.prog.info? T).map (fun i => (i.zero, i.size)) = some (some z, n)) (w : World) : (Al T).run Tryz.prog w = .ok (ptr w.heap.size) (w.alloc (.cells z.cells T)) := by
  cases hq : Tryz.prog.info? T with
  | none => rw [hq] at hi; cases hi
  | some i =>
    rw [hq] at hi
    simp at hi
    unfold Al
    simp [Instr.alloc, zeroValue, typeInfo, hq, hi.1, newVar, newRow, go_sem, ptr]
theorem run_alK (w : World) : (Al 73).run Tryz.prog w = .ok (ptr w.heap.size) (w.alloc (.cells (kcs zeroK) 73)) := run_al infoK w
theorem run_st_row {w : World} {b : Nat} {T t : TypeId} {old cs : Array Value} (h : Blk w b old t) (hi : (Tryz.prog.info? T).map (·.size) = some cs.size) (hs : old.size = cs.size) (h1 : cs.all (·.oneCell') = true) : (St T (.pointer (some ⟨b, 0, none⟩)) (.agg cs)).run Tryz.prog w = .ok () (w.setRow b cs) := by
  have h := run_storeVar_row (P := Tryz.prog) w b t T old cs h hi hs h1
  unfold St
  simp only [Instr.storeAt, Instr.sureAddr, Sem.run_bind, Sem.run_pure, Result.andThen_ok, h]
theorem run_stK {w : World} {b : Nat} {o t : Tok} (h : Blk w b (kcs o) 73) : (St 73 (.pointer (some ⟨b, 0, none⟩)) (.agg (kcs t))).run Tryz.prog w = .ok () (w.setRow b (kcs t)) :=
  run_st_row h (by rw [kcs_size]; exact sizeK) (by rw [kcs_size, kcs_size]) (kcs_one t)
theorem run_stKg (w : World) (g : Nat) (r o : Tok) (hg : g = w.heap.size) : (St 73 (.pointer (some ⟨g, 0, none⟩)) (.agg (kcs r))).run Tryz.prog (w.alloc (.cells (kcs o) 73)) = .ok () (w.alloc (.cells (kcs r) 73)) := by
  subst hg
  rw [run_stK (Blk.new w (kcs o) _), setRow_new]
theorem run_bdK0 (w : World) : (Bd 73 #[]).run Tryz.prog w = .ok (.agg (kcs zeroK)) w := run_build w _ _ _ (by kernel_rfl)
theorem run_bdKe (w : World) (k a : Int) : (Bd 73 #[(0, .int .i64 k), (1, .int .i64 a)]).run Tryz.prog w = .ok (.agg (kcs ⟨k, a, 0, ⟨#[]⟩⟩)) w := run_build w _ _ _ (by kernel_rfl)
theorem run_bdKs (w : World) (k a : Int) (s : ByteArray) : (Bd 73 #[(0, .int .i64 k), (1, .int .i64 a), (3, .string s)]).run Tryz.prog w = .ok (.agg (kcs ⟨k, a, 0, s⟩)) w := run_build w _ _ _ (by kernel_rfl)
theorem run_bdKn (w : World) (k a n : Int) : (Bd 73 #[(0, .int .i64 k), (1, .int .i64 a), (2, .int .i64 n)]).run Tryz.prog w = .ok (.agg (kcs ⟨k, a, n, ⟨#[]⟩⟩)) w := run_build w _ _ _ (by kernel_rfl)
end Go.Proofs.YtinoaajohkafmaaGreat.Lx

/-
  reader.name.
-/
namespace Go.Proofs.YtinoaajohkafmaaGreat.Lx
open Go Go.RowKit Go.Proofs.YtinoaajohkafmaaGreat.Uni Go.Proofs.YtinoaajohkafmaaGreat.Rg
set_option linter.unusedVariables false
set_option linter.unusedSimpArgs false
attribute [local go_sem ↓] ldK stK alK bdK
attribute [local irreducible] kcs
attribute [local go_sem] run_alK run_bdK0 run_bdKs run_bdKn run_bdKe
theorem GB.row {g b : Nat} {w W : World} (h : GB g w W) (cs : Array Value) (hb : w.heap.size ≤ b) : GB g w (W.setRow b cs) := ⟨h.os, h.tape, h.output, by rw [size_setRow]; exact h.size, fun k hk hn => (setRow_other W b k cs (by omega)).trans (h.block k hk hn)⟩
end Go.Proofs.YtinoaajohkafmaaGreat.Lx

/-
  reader.sign.
-/
namespace Go.Proofs.YtinoaajohkafmaaGreat.Lx
open Go Go.RowKit Go.Proofs.YtinoaajohkafmaaGreat.Uni
set_option linter.unusedVariables false
set_option linter.unusedSimpArgs false
attribute [local go_sem ↓] ldK stK alK bdK
attribute [local irreducible] kcs
attribute [local go_sem] run_alK run_bdK0 run_bdKs run_bdKn run_bdKe
theorem blk_newg {w : World} {g : Nat} {cs : Array Value} {t : TypeId} (hg : g = w.heap.size) : Blk (w.alloc (.cells cs t)) g cs t := by
  subst hg
  exact Blk.new w cs t
end Go.Proofs.YtinoaajohkafmaaGreat.Lx

/-
  reader.number.
-/
namespace Go.Proofs.YtinoaajohkafmaaGreat.Lx
open Go Go.RowKit Go.Proofs.YtinoaajohkafmaaGreat.Uni
set_option linter.unusedVariables false
set_option linter.unusedSimpArgs false
attribute [local go_sem ↓] ldK stK alK bdK
attribute [local irreducible] kcs
attribute [local go_sem] run_alK run_bdK0 run_bdKs run_bdKn run_bdKe
end Go.Proofs.YtinoaajohkafmaaGreat.Lx

/-
  strings.Builder's writers, at a builder that has been grown.
-/
namespace Go.Proofs.YtinoaajohkafmaaGreat.Uni
open Go.RowKit
set_option linter.unusedVariables false
end Go.Proofs.YtinoaajohkafmaaGreat.Uni

/-
  units.paired, units.writePoint and understudyref1.put.
-/
namespace Go.Proofs.YtinoaajohkafmaaGreat.Uni
open Go.RowKit
set_option linter.unusedVariables false
end Go.Proofs.YtinoaajohkafmaaGreat.Uni

/-
  units.Text.
-/
namespace Go.Proofs.YtinoaajohkafmaaGreat.Uni
open Go.RowKit
set_option linter.unusedVariables false
end Go.Proofs.YtinoaajohkafmaaGreat.Uni

/-
  strconv.FormatUint in base 16, for a number of 16 bits.
-/
namespace Go.Proofs.YtinoaajohkafmaaGreat.Vals
open Go.RowKit Go.Proofs.YtinoaajohkafmaaGreat.Uni
set_option linter.unusedVariables false
end Go.Proofs.YtinoaajohkafmaaGreat.Vals

/-
  values.writeEscape.
-/
namespace Go.Proofs.YtinoaajohkafmaaGreat.Vals
open Go.RowKit Go.Proofs.YtinoaajohkafmaaGreat.Uni
set_option linter.unusedVariables false
end Go.Proofs.YtinoaajohkafmaaGreat.Vals

/-
  Plain mathematics of a string between quotes.
-/
namespace Go.Proofs.YtinoaajohkafmaaGreat.Vals
open Go.RowKit Go.Proofs.YtinoaajohkafmaaGreat.Uni
set_option linter.unusedVariables false
end Go.Proofs.YtinoaajohkafmaaGreat.Vals

/-
  A text is told by what stands between its quotes, and all of that can be printed.
-/
namespace Go.Proofs.YtinoaajohkafmaaGreat.Vals
open Go.RowKit Go.Proofs.YtinoaajohkafmaaGreat.Uni
set_option linter.unusedVariables false
end Go.Proofs.YtinoaajohkafmaaGreat.Vals

/-
  reader.quoted.
-/
namespace Go.Proofs.YtinoaajohkafmaaGreat.Lx
open Go Go.RowKit Go.Maps Go.Proofs.YtinoaajohkafmaaGreat.Uni
set_option linter.unusedVariables false
set_option linter.unusedSimpArgs false
attribute [local go_sem ↓] ldK stK alK bdK
attribute [local irreducible] kcs
attribute [local go_sem] run_alK run_bdK0 run_bdKs run_bdKn run_bdKe
end Go.Proofs.YtinoaajohkafmaaGreat.Lx

/-
  reader.quoted: the walk.
-/
namespace Go.Proofs.YtinoaajohkafmaaGreat.Lx
open Go Go.RowKit Go.Maps Go.Proofs.YtinoaajohkafmaaGreat.Uni
set_option linter.unusedVariables false
set_option linter.unusedSimpArgs false
attribute [local go_sem ↓] ldK stK alK bdK
attribute [local irreducible] kcs
attribute [local go_sem] run_alK run_bdK0 run_bdKs run_bdKn run_bdKe
theorem idx_at (t : ByteArray) (k : Nat) (hk : k < t.size) (i : Int) (hi : i = (k : Int)) (w : World) : (Instr.index 9 (.string t) (.int .i64 i)).run Tryz.prog w = .ok (.int .u8 (B t k : Nat)) w := by
  subst hi
  rw [run_index_string (h := Tryz.underlying9)]
  rw [dif_pos ⟨by omega, by omega⟩]
  have h2 : ((k : Int)).toNat = k := by omega
  simp only [h2]
  rw [gB t k hk]
theorem u1 {W w2 : World} {c : Array Value} (hb : Below ((W.alloc (.cells c 73)).drew).heap.size ((W.alloc (.cells c 73)).drew) w2) : Blk w2 W.heap.size c 73 := (show Blk ((W.alloc (.cells c 73)).drew) W.heap.size c 73 from Blk.new W c _).call hb
end Go.Proofs.YtinoaajohkafmaaGreat.Lx

/-
  reader.next.
-/
namespace Go.Proofs.YtinoaajohkafmaaGreat.Lx
open Go Go.RowKit Go.Proofs.YtinoaajohkafmaaGreat.Uni
set_option linter.unusedVariables false
set_option linter.unusedSimpArgs false
attribute [local go_sem ↓] ldK stK alK bdK
attribute [local irreducible] kcs
attribute [local go_sem] run_alK run_bdK0 run_bdKs run_bdKn run_bdKe
def Got.left : Got → By
  | .ok _ l => l
  | .bad l => l
end Go.Proofs.YtinoaajohkafmaaGreat.Lx

/-
  One token speaks of its own bytes alone: plain mathematics.
-/
namespace Go.Proofs.YtinoaajohkafmaaGreat.Lx
open Go.Proofs.YtinoaajohkafmaaGreat.Uni Go.Proofs.YtinoaajohkafmaaGreat.Nums
set_option linter.unusedVariables false
set_option linter.unusedSimpArgs false
end Go.Proofs.YtinoaajohkafmaaGreat.Lx

/-
  lex.undecodable.
-/
namespace Go.Proofs.YtinoaajohkafmaaGreat.Lx
open Go Go.RowKit Go.Proofs.YtinoaajohkafmaaGreat.Uni
set_option linter.unusedVariables false
set_option linter.unusedSimpArgs false
end Go.Proofs.YtinoaajohkafmaaGreat.Lx

/-
  lex.Tokens.
-/
namespace Go.Proofs.YtinoaajohkafmaaGreat.Lx
open Go Go.RowKit Go.Maps Go.Proofs.YtinoaajohkafmaaGreat.Uni
set_option linter.unusedVariables false
set_option linter.unusedSimpArgs false
theorem kcs_list (t : Tok) : (kcs t).toList.length = 4 := rfl
def BsK (ps : Array (Nat × Value)) : Sem Value := Instr.buildSlice 49 1 ps
theorem bsK (ps : Array (Nat × Value)) : Instr.buildSlice 49 1 ps = BsK ps := (rfl)
theorem run_bsK (w : World) (t : Tok) : (BsK #[(0, .agg (kcs t))]).run Tryz.prog w = .ok (.slice (some ⟨w.heap.size, 0, none⟩) 1 1) (w.alloc (.cells (kcs t) 73)) := by
  obtain ⟨i, hi, hz, hs, hb⟩ := info_parts infoK3
  exact run_buildSlice w 49 73 1 _ (kcs t) i (.agg (kcs zeroK)) Tryz.underlying49 hi hz (by rw [hs]; decide) (by rw [hs]; decide) (by rw [hs]; have h := Go.Great.fill_whole (s := 4) (by decide) [.agg (kcs t)] ((Array.range (1 * 4)).map ((Value.agg (kcs zeroK)).cells[· % (Value.agg (kcs zeroK)).cells.size]!)) (fun v hv => by rw [List.mem_singleton.1 hv]; rfl) (by simp); simpa [Value.cells] using h)
def tcells (l : List Tok) : List Value := l.flatMap fun t => (kcs t).toList
theorem tcells_snoc (l : List Tok) (t : Tok) : tcells (l ++ [t]) = tcells l ++ (kcs t).toList := by simp [tcells]
theorem own_base {w : World} {b b' e size n : Nat} {v : Value} {xs : List Value} (h : w.ownsRow b e size v n xs) (hb : b' ≤ b) : w.ownsRow b' e size v n xs := by
  refine ⟨h.1, ?_⟩
  rcases h.2 with hn | ⟨g, cap, cur, hv, hg, rest⟩
  · exact .inl hn
  · exact .inr ⟨g, cap, cur, hv, Nat.le_trans hb hg, rest⟩
end Go.Proofs.YtinoaajohkafmaaGreat.Lx

/-
  Plain mathematics of the parser: what it gives for a list of tokens; nothing here speaks of the program.
-/
namespace Go.Proofs.YtinoaajohkafmaaGreat.Pa
open Go.Proofs.YtinoaajohkafmaaGreat.Lx
set_option linter.unusedVariables false
inductive Tree where
  | mk (kind num : Int) (text : ByteArray) (names : List ByteArray) (kids : List Tree)
def Tree.kind : Tree → Int | .mk k _ _ _ _ => k
def Tree.num : Tree → Int | .mk _ n _ _ _ => n
def Tree.text : Tree → ByteArray | .mk _ _ t _ _ => t
def Tree.names : Tree → List ByteArray | .mk _ _ _ ns _ => ns
def Tree.kids : Tree → List Tree | .mk _ _ _ _ ks => ks
def noS : ByteArray := ⟨#[]⟩
def node (k : Int) (ks : List Tree) : Tree := .mk k 0 noS [] ks
def zeroT : Tree := .mk 0 0 noS [] []
structure PS where
  left : List Tok
  pos : Int
  fault : Int
def PS.next (s : PS) : Tok := s.left.headD zeroK
def PS.take (s : PS) : PS := { s with left := s.left.tail }
def stopK : Tok := ⟨-1, 0, 0, noS⟩
def PS.fail (s : PS) (e : Int) : PS := if s.fault = 0 then ⟨[stopK], s.next.pos, e⟩ else s
def markF (t : Tok) : Bool := t.kind == 2 || t.kind == 5
def eqT (x y : ByteArray) : Bool := x.data.toList == y.data.toList
def seesF (x : ByteArray) (s : PS) : Bool := markF s.next && eqT s.next.text x
def needsF (x : ByteArray) (s : PS) : PS := if seesF x s then s.take else s.fail 2
def nameF (s : PS) : ByteArray × PS := if s.next.kind = 1 then (s.next.text, s.take) else (noS, s.fail 2)
def numT (n : Int) : ByteArray := ⟨(Lib.itoa n).toArray⟩
def partsF : By → By → List By
  | cur, [] => [cur]
  | cur, c :: r => if c = 32 then cur :: partsF [] r else partsF (cur ++ [c]) r
def hasF (l t : ByteArray) : Bool := (partsF [] l.data.toList).contains t.data.toList
def seesOneF (l : ByteArray) (s : PS) : Bool := markF s.next && hasF l s.next.text
def moreF {T : Type} (el : PS → T × PS) : Nat → PS → List T × PS
  | 0, s => ([], s)
  | f + 1, s => if seesF ⟨#[44]⟩ s then
      let x := el s.take
      let r := moreF el f x.2
      (x.1 :: r.1, r.2)
    else ([], s)
def listF {T : Type} (fin : ByteArray) (el : PS → T × PS) (s : PS) : List T × PS :=
  if seesF fin s then ([], s.take) else
    let x := el s
    let r := moreF el x.2.left.length x.2
    (x.1 :: r.1, needsF fin r.2)
structure Low where
  ex : PS → Tree × PS
  st : PS → Tree × PS
  un : PS → Tree × PS
def memberB (t : Tree) : Bool := t.kind == 15 || t.kind == 16
def opF (sign : ByteArray) (l r : Tree) : Tree :=
  if eqT sign ⟨#[124, 124]⟩ then node 22 [l, r] else if eqT sign ⟨#[38, 38]⟩ then node 21 [l, r] else .mk 20 0 sign [] [l, r]
def levelT : Nat → ByteArray
  | 0 => ⟨#[124, 124]⟩
  | 1 => ⟨#[38, 38]⟩
  | 2 => ⟨#[61, 61, 61, 32, 33, 61, 61]⟩
  | 3 => ⟨#[60, 32, 62, 32, 60, 61, 32, 62, 61, 32, 105, 110]⟩
  | 4 => ⟨#[43, 32, 45]⟩
  | _ => ⟨#[42, 32, 47, 32, 37]⟩
def prefixT : ByteArray := ⟨#[33, 32, 45, 32, 116, 121, 112, 101, 111, 102, 32, 100, 101, 108, 101, 116, 101]⟩
def binLoop (lev : Nat) (f : PS → Tree × PS) : Nat → Tree → PS → Tree × PS
  | 0, l, s => (l, s)
  | k + 1, l, s => if seesOneF (levelT lev) s then
      let r := f s.take
      binLoop lev f k (opF s.next.text l r.1) r.2
    else (l, s)
def binF (L : Low) : Nat → PS → Tree × PS
  | 0, s => L.un s
  | n + 1, s =>
    let x := binF L n s
    binLoop (5 - n) (binF L n) x.2.left.length x.1 x.2
def condF (L : Low) (s : PS) : Tree × PS :=
  let x := binF L 6 s
  if seesF ⟨#[63]⟩ x.2 then
    let y := L.ex x.2.take
    let z := L.ex (needsF ⟨#[58]⟩ y.2)
    (node 23 [x.1, y.1, z.1], z.2)
  else x
def exF (L : Low) (s : PS) : Tree × PS :=
  let x := condF L s
  if seesF ⟨#[61]⟩ x.2 then
    let s2 := if x.1.kind ≠ 8 ∧ memberB x.1 = false then x.2.fail 2 else x.2
    let y := L.ex (needsF ⟨#[61]⟩ s2)
    (node 24 [x.1, y.1], y.2)
  else x
def memF (s : PS) : ByteArray × PS := if s.next.kind = 1 ∨ s.next.kind = 2 then (s.next.text, s.take) else (noS, s.fail 2)
def membersF (L : Low) : Nat → Tree → PS → Tree × PS
  | 0, n, s => (n, s)
  | f + 1, n, s =>
    if seesF ⟨#[46]⟩ s then
      let x := memF s.take
      membersF L f (.mk 15 0 x.1 [] [n]) x.2
    else if seesF ⟨#[91]⟩ s then
      let x := L.ex s.take
      membersF L f (node 16 [n, x.1]) (needsF ⟨#[93]⟩ x.2)
    else (n, s)
def membF (L : Low) (n : Tree) (s : PS) : Tree × PS := membersF L s.left.length n s
def calledF (L : Low) (kind : Int) (f : Tree) (s : PS) : Tree × PS :=
  let x := listF ⟨#[41]⟩ L.ex (needsF ⟨#[40]⟩ s)
  (node kind (f :: x.1), x.2)
def stmtsF (L : Low) (fin : PS → Bool) : Nat → PS → List Tree × PS
  | 0, s => ([], s)
  | f + 1, s => if fin s then ([], s) else if s.fault ≠ 0 then ([], s) else
      let x := L.st s
      let r := stmtsF L fin f x.2
      (x.1 :: r.1, r.2)
def blockF (L : Low) (s : PS) : Tree × PS :=
  let s1 := needsF ⟨#[123]⟩ s
  let x := stmtsF L (seesF ⟨#[125]⟩) (s1.left.length + 1) s1
  (node 40 x.1, needsF ⟨#[125]⟩ x.2)
def parenF (L : Low) (s : PS) : Tree × PS :=
  let x := L.ex (needsF ⟨#[40]⟩ s)
  (x.1, needsF ⟨#[41]⟩ x.2)
def funcF (L : Low) (name : ByteArray) (s : PS) : Tree × PS :=
  let x := listF ⟨#[41]⟩ nameF (needsF ⟨#[40]⟩ s)
  let y := blockF L x.2
  (.mk 14 0 name x.1 y.1.kids, y.2)
def optF (s : PS) : ByteArray × PS := if seesF ⟨#[40]⟩ s then (noS, s) else nameF s
def keyF (s : PS) : ByteArray × PS :=
  if s.next.kind = 1 ∨ s.next.kind = 2 ∨ s.next.kind = 4 then (s.next.text, s.take)
  else if s.next.kind = 3 then (numT s.next.num, s.take) else (noS, s.fail 2)
def pairF (L : Low) (key : Tree) (s : PS) : Tree × PS :=
  let x := L.ex (needsF ⟨#[58]⟩ s)
  (node 11 [key, x.1], x.2)
def getF (L : Low) (s : PS) : Tree × PS :=
  let k := keyF s
  let y := blockF L (needsF ⟨#[41]⟩ (needsF ⟨#[40]⟩ k.2))
  (.mk 12 0 k.1 [] [node 14 y.1.kids], y.2)
def setF (L : Low) (s : PS) : Tree × PS :=
  let k := keyF s
  let x := nameF (needsF ⟨#[40]⟩ k.2)
  let y := blockF L (needsF ⟨#[41]⟩ x.2)
  (.mk 13 0 k.1 [] [.mk 14 0 noS [x.1] y.1.kids], y.2)
def elemF (L : Low) (s : PS) : Tree × PS :=
  if seesF ⟨#[91]⟩ s then
    let x := L.ex s.take
    pairF L x.1 (needsF ⟨#[93]⟩ x.2)
  else
    let k := keyF s
    if s.next.kind = 1 ∧ seesF ⟨#[58]⟩ k.2 = false then
      if eqT s.next.text ⟨#[103, 101, 116]⟩ then getF L k.2
      else if eqT s.next.text ⟨#[115, 101, 116]⟩ then setF L k.2
      else pairF L (.mk 2 0 k.1 [] []) k.2
    else pairF L (.mk 2 0 k.1 [] []) k.2
def litF (s : PS) : Tree × PS :=
  if seesF ⟨#[116, 114, 117, 101]⟩ s then (node 3 [], s.take)
  else if seesF ⟨#[102, 97, 108, 115, 101]⟩ s then (node 4 [], s.take)
  else if seesF ⟨#[110, 117, 108, 108]⟩ s then (node 5 [], s.take)
  else if seesF ⟨#[117, 110, 100, 101, 102, 105, 110, 101, 100]⟩ s then (node 6 [], s.take)
  else if seesF ⟨#[116, 104, 105, 115]⟩ s then (node 7 [], s.take)
  else (zeroT, s.fail 2)
def primF (L : Low) (s : PS) : Tree × PS :=
  if s.next.kind = 3 then (.mk 1 s.next.num noS [] [], s.take)
  else if s.next.kind = 4 then (.mk 2 0 s.next.text [] [], s.take)
  else if s.next.kind = 1 then (.mk 8 0 s.next.text [] [], s.take)
  else if seesF ⟨#[40]⟩ s then parenF L s
  else if seesF ⟨#[91]⟩ s then
    let x := listF ⟨#[93]⟩ L.ex s.take
    (node 9 x.1, x.2)
  else if seesF ⟨#[123]⟩ s then
    let x := listF ⟨#[125]⟩ (elemF L) s.take
    (node 10 x.1, x.2)
  else if seesF ⟨#[102, 117, 110, 99, 116, 105, 111, 110]⟩ s then
    let x := optF s.take
    funcF L x.1 x.2
  else litF s
def baseF (L : Low) (s : PS) : Tree × PS :=
  if seesF ⟨#[110, 101, 119]⟩ s then
    let x := primF L s.take
    let y := membF L x.1 x.2
    calledF L 18 y.1 y.2
  else primF L s
def callLoop (L : Low) : Nat → Tree → PS → Tree × PS
  | 0, n, s => (n, s)
  | f + 1, n, s => if seesF ⟨#[40]⟩ s then
      let x := calledF L 17 n s
      let y := membF L x.1 x.2
      callLoop L f y.1 y.2
    else (n, s)
def chainF (L : Low) (s : PS) : Tree × PS :=
  let x := baseF L s
  let y := membF L x.1 x.2
  callLoop L y.2.left.length y.1 y.2
def unF (L : Low) (s : PS) : Tree × PS :=
  if seesOneF prefixT s then
    let x := L.un s.take
    (.mk 19 0 s.next.text [] [x.1], if eqT s.next.text ⟨#[100, 101, 108, 101, 116, 101]⟩ && !memberB x.1 then x.2.fail 2 else x.2)
  else chainF L s
def letF (L : Low) (s : PS) : Tree × PS :=
  let x := nameF s
  if seesF ⟨#[61]⟩ x.2 then
    let y := L.ex x.2.take
    (.mk 30 0 x.1 [] [y.1], y.2)
  else (.mk 30 0 x.1 [] [], x.2)
def constF (L : Low) (s : PS) : Tree × PS :=
  let x := nameF s
  let y := L.ex (needsF ⟨#[61]⟩ x.2)
  (.mk 31 0 x.1 [] [y.1], y.2)
def simpF (L : Low) (s : PS) : Tree × PS :=
  if seesF ⟨#[59]⟩ s then (node 43 [], s)
  else if seesF ⟨#[108, 101, 116]⟩ s then letF L s.take
  else if seesF ⟨#[99, 111, 110, 115, 116]⟩ s then constF L s.take
  else if seesF ⟨#[114, 101, 116, 117, 114, 110]⟩ s then
    if seesF ⟨#[59]⟩ s.take then (node 36 [], s.take) else
      let x := L.ex s.take
      (node 36 [x.1], x.2)
  else if seesF ⟨#[116, 104, 114, 111, 119]⟩ s then
    let x := L.ex s.take
    (node 37 [x.1], x.2)
  else if seesF ⟨#[98, 114, 101, 97, 107]⟩ s then (node 41 [], s.take)
  else if seesF ⟨#[99, 111, 110, 116, 105, 110, 117, 101]⟩ s then (node 42 [], s.take)
  else
    let x := L.ex s
    (node 33 [x.1], x.2)
def choiceF (L : Low) (s : PS) : Tree × PS :=
  let x := parenF L s
  let y := L.st x.2
  if seesF ⟨#[101, 108, 115, 101]⟩ y.2 then
    let z := L.st y.2.take
    (node 34 [x.1, y.1, z.1], z.2)
  else (node 34 [x.1, y.1], y.2)
def handF (L : Low) (s : PS) : Tree × PS :=
  let x := nameF (needsF ⟨#[40]⟩ s)
  let y := blockF L (needsF ⟨#[41]⟩ x.2)
  (.mk 39 0 x.1 [] [y.1], y.2)
def tryF (L : Low) (s : PS) : Tree × PS :=
  let x := blockF L s
  if seesF ⟨#[99, 97, 116, 99, 104]⟩ x.2 then
    let y := handF L x.2.take
    if seesF ⟨#[102, 105, 110, 97, 108, 108, 121]⟩ y.2 then
      let z := blockF L y.2.take
      (.mk 38 3 noS [] [x.1, y.1, z.1], z.2)
    else (.mk 38 1 noS [] [x.1, y.1], y.2)
  else if seesF ⟨#[102, 105, 110, 97, 108, 108, 121]⟩ x.2 then
    let z := blockF L x.2.take
    (.mk 38 2 noS [] [x.1, z.1], z.2)
  else (.mk 38 0 noS [] [x.1], x.2.fail 2)
def stF (L : Low) (s : PS) : Tree × PS :=
  if seesF ⟨#[123]⟩ s then blockF L s
  else if seesF ⟨#[102, 117, 110, 99, 116, 105, 111, 110]⟩ s then
    let x := nameF s.take
    let y := funcF L x.1 x.2
    (node 32 [y.1], y.2)
  else if seesF ⟨#[105, 102]⟩ s then choiceF L s.take
  else if seesF ⟨#[119, 104, 105, 108, 101]⟩ s then
    let x := parenF L s.take
    let y := L.st x.2
    (node 35 [x.1, y.1], y.2)
  else if seesF ⟨#[116, 114, 121]⟩ s then tryF L s.take
  else
    let x := simpF L s
    (x.1, needsF ⟨#[59]⟩ x.2)
def lowF : Nat → Low
  | 0 => ⟨fun s => (zeroT, s.fail 4), fun s => (zeroT, s.fail 4), fun s => (zeroT, s.fail 4)⟩
  | r + 1 => ⟨exF (lowF r), stF (lowF r), unF (lowF r)⟩
def endF (s : PS) : Bool := s.next.kind == 0
def treeF (l : List Tok) : Tree × Int × Int :=
  let x := stmtsF (lowF 100) endF (l.length + 1) ⟨l, 0, 0⟩
  if x.2.fault = 0 then (node 44 x.1, 0, 0) else (zeroT, x.2.pos, x.2.fault)
end Go.Proofs.YtinoaajohkafmaaGreat.Pa
