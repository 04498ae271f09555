/-
  Texts of this seat in build order: KyInv, KyOut, KyOw, HpBase, VaKind, UnMath, UnLow, UnPts, UnOf, UnLen.
-/
import Derived.Test.YtblbeinnfbohbaaMz00
import Derived.Maps.AppendAt
import Derived.Laws.AppendOwnNone
import Derived.Sort.OwnSortedInts
import Derived.OwnWalk
import Derived.Laws.OwnMore
import Derived.Below
import Derived.Laws.RangeString
import Derived.Laws.RangeAny
import Derived.Test.YtblbeinnfbohbaaProg
import Derived.WalkKit
import Derived.WalkSpells
import Derived.WalkLawsBesides
import Derived.RegionTactic
import Derived.ChangeAlike
import Derived.Deep.QuietTactic
import Derived.BigQuiet
import Derived.Lib.Hide
import Derived.OneCell
import Derived.Deep.RegionWith
/-
  What holds at the head of a round of keys.Order, and what each way through a round does to it.
-/
namespace Go.Proofs.Ytblbeinnfbohbaa.Keys
open Go Go.RowKit Go.Maps Go.Proofs.Ytblbeinnfbohbaa.Nums
set_option linter.unusedVariables false

theorem make_map {P : Program} {t k e : TypeId} (h : P.underlying t = some (.map k e)) (kk : IntKind) (n : Int) (w : World) : (Instr.makeMap t (some (.int kk n))).run P w = .ok (.map (some w.heap.size)) (w.alloc (.map #[] 0)) := by
  simp [Instr.makeMap, run_underlying h, asInt, asIntOf, Result.andThen]
theorem grown_of_below {w w' : World} (hb : Below w.heap.size w w') : w.grownBy w' none := ⟨hb.os, hb.tape, hb.output, hb.size, fun k hk _ => hb.block k hk⟩
section

variable {w w' : World} {base : Nat} {e : TypeId} {size n : Nat} {v : Value} {xs : List Value}

theorem own_below (h : w.ownsRow base e size v n xs) (hb : Below w.heap.size w w') : w'.ownsRow base e size v n xs := h.kept (grown_of_below hb) (by cases hv : v.ownBlock <;> simp)
theorem own_alloc2 (h : w.ownsRow base e size v n xs) (o o' : Obj) : ((w.alloc o).alloc o').ownsRow base e size v n xs := (h.alloc o).alloc o'
theorem own_apart {e2 : TypeId} {size2 n2 : Nat} {v2 : Value} {xs2 : List Value} (h : w.ownsRow base e size v n xs) (h2 : w.ownsRow base e2 size2 v2 n2 xs2) (hne : e ≠ e2) : v2.ownBlock = none ∨ v2.ownBlock ≠ v.ownBlock := by
  rcases h2.2 with ⟨rfl, _⟩ | ⟨g, cap, cur, rfl, _, hg, _⟩
  · exact .inl rfl
  · right
    rcases h.2 with ⟨rfl, _⟩ | ⟨g', cap', cur', rfl, _, hg', _⟩
    · simp [Value.ownBlock]
    · simp only [Value.ownBlock, ne_eq, Option.some.injEq]
      rintro rfl
      rw [hg] at hg'
      simp at hg'
      exact hne hg'.2.symm
theorem own_low (h : w.ownsRow base e size v n xs) {b : Nat} (hb : b < base) : some b ≠ v.ownBlock := fun e1 => by
  have := (h.lt b e1.symm).1
  omega
theorem own_far (h : w.ownsRow base e size v n xs) : v.ownBlock ≠ some w.heap.size := fun e1 => by
  have := (h.lt _ e1).2
  omega
end

/-- What holds at the head of a round: the map and the three lists own what j keys give. -/
structure OrdInv (w0 : World) (ks : List KV) (j : Nat) (v3 v4 v5 : Value) (wr : World) : Prop where
  map : wr.ownsMap Try.prog 91 unitElem w0.heap.size j (SetK (once (ks.take j)))
  r3 : wr.ownsRow (w0.heap.size + 1) 3 1 v3 (idxs (once (ks.take j))).length (ints (idxs (once (ks.take j))))
  r4 : wr.ownsRow (w0.heap.size + 1) 91 2 v4 (names (once (ks.take j))).length (cellsK (names (once (ks.take j))))
  r5 : wr.ownsRow (w0.heap.size + 1) 91 2 v5 (syms (once (ks.take j))).length (cellsK (syms (once (ks.take j))))
  apart : v4.ownBlock = none ∨ v4.ownBlock ≠ v5.ownBlock
  below : Below w0.heap.size w0 wr
  size : w0.heap.size + 1 ≤ wr.heap.size

theorem OrdInv.start (w0 : World) (ks : List KV) : OrdInv w0 ks 0 (.slice none 0 0) (.slice none 0 0) (.slice none 0 0) (w0.alloc (.map #[] 0)) where
  map := by
    have : SetK (once (ks.take 0)) = .map [] := rfl
    rw [this]
    exact World.ownsMap_made _ _ _ _
  r3 := World.ownsRow_nil _ _ _ _
  r4 := World.ownsRow_nil _ _ _ _
  r5 := World.ownsRow_nil _ _ _ _
  apart := .inl rfl
  below := ball _ _
  size := by simp

section

variable {w0 wr w1 w2 w3 : World} {ks : List KV} {j : Nat} {v3 v4 v5 v' : Value} {k : KV} {o o' o3 : Obj}

/-- A key that was met before. -/
theorem OrdInv.old (h : OrdInv w0 ks j v3 v4 v5 wr) (hk : ks[j]? = some k) (hm : memb k (once (ks.take j)) = true) : OrdInv w0 ks (j + 1) v3 v4 v5 ((wr.alloc o).alloc o') := by
  have e := once_old hk hm
  obtain ⟨h1, h2, h3, h4, h5, h6, h7⟩ := h
  exact ⟨by rw [e]; exact ((h1.alloc o).alloc o').mono (Nat.le_succ _), by rw [e]; exact own_alloc2 h2 o o', by rw [e]; exact own_alloc2 h3 o o', by rw [e]; exact own_alloc2 h4 o o', h5, (h6.alloc h6.size o).alloc (by have := h6.size; simp; omega) o', by simp; omega⟩

/-- Behind the map's store and the call of Index. -/
structure OrdMid (w0 : World) (ks : List KV) (j : Nat) (v3 v4 v5 : Value) (wr : World) : Prop where
  map : wr.ownsMap Try.prog 91 unitElem w0.heap.size (j + 1) (SetK (once (ks.take (j + 1))))
  r3 : wr.ownsRow (w0.heap.size + 1) 3 1 v3 (idxs (once (ks.take j))).length (ints (idxs (once (ks.take j))))
  r4 : wr.ownsRow (w0.heap.size + 1) 91 2 v4 (names (once (ks.take j))).length (cellsK (names (once (ks.take j))))
  r5 : wr.ownsRow (w0.heap.size + 1) 91 2 v5 (syms (once (ks.take j))).length (cellsK (syms (once (ks.take j))))
  apart : v4.ownBlock = none ∨ v4.ownBlock ≠ v5.ownBlock
  below : Below w0.heap.size w0 wr
  size : w0.heap.size + 1 ≤ wr.heap.size

theorem OrdInv.mid (h : OrdInv w0 ks j v3 v4 v5 wr) (hk : ks[j]? = some k) (hm : memb k (once (ks.take j)) = false)
    (hown : w1.ownsMap Try.prog 91 unitElem w0.heap.size (j + 1) ((SetK (once (ks.take j))).put (klit k) (.agg []))) (hg : ((wr.alloc o).alloc o').grownBy w1 (some w0.heap.size)) : OrdMid w0 ks j v3 v4 v5 w1 := by
  have e := once_new hk hm
  obtain ⟨h1, h2, h3, h4, h5, h6, h7⟩ := h
  have l3 := own_low h2 (b := w0.heap.size) (Nat.lt_succ_self _)
  have l4 := own_low h3 (b := w0.heap.size) (Nat.lt_succ_self _)
  have l5 := own_low h4 (b := w0.heap.size) (Nat.lt_succ_self _)
  refine ⟨by rw [e, set_snoc]; exact hown, (own_alloc2 h2 o o').kept hg (.inr l3.symm), (own_alloc2 h3 o o').kept hg (.inr l4.symm), (own_alloc2 h4 o o').kept hg (.inr l5.symm), h5,
    ((h6.alloc h6.size o).alloc (by have := h6.size; simp; omega) o').grown hg (by have := h6.size; simp; omega) (fun k hk => by cases hk; exact Nat.le_refl _), by have := hg.size; simp at this; omega⟩
theorem OrdMid.next (h : OrdMid w0 ks j v3 v4 v5 w1) (hb : Below w1.heap.size w1 w2) : OrdMid w0 ks j v3 v4 v5 w2 := by
  obtain ⟨h1, h2, h3, h4, h5, h6, h7⟩ := h
  exact ⟨h1.kept (grown_of_below hb) (by simp), own_below h2 hb, own_below h3 hb, own_below h4 hb, h5, h6.trans (hb.mono (by omega)), Nat.le_trans h7 hb.size⟩
/-- The cells of the key of this round. -/
theorem box_cells {a b : Value} {t : TypeId} {m : Nat} (hg : ((wr.alloc (.cells #[a, b] t)).alloc o').grownBy w1 (some m)) (hm : m < wr.heap.size) (hb : Below w1.heap.size w1 w2) :
    (w1.cell? ⟨wr.heap.size, 0, none⟩ = some a ∧ w1.cell? ⟨wr.heap.size, 1, none⟩ = some b) ∧ (w2.cell? ⟨wr.heap.size, 0, none⟩ = some a ∧ w2.cell? ⟨wr.heap.size, 1, none⟩ = some b) := by
  have hs := hg.size
  simp at hs
  have e0 : w1.cell? ⟨wr.heap.size, 0, none⟩ = some a := by rw [World.cell?_of_block (hg.block wr.heap.size (by simp; omega) (by simp; omega))]; simp
  have e1 : w1.cell? ⟨wr.heap.size, 1, none⟩ = some b := by rw [World.cell?_of_block (hg.block wr.heap.size (by simp; omega) (by simp; omega))]; simp
  exact ⟨⟨e0, e1⟩, by rw [hb.cell (p := ⟨wr.heap.size, 0, none⟩) (show wr.heap.size < _ by omega), e0], by rw [hb.cell (p := ⟨wr.heap.size, 1, none⟩) (show wr.heap.size < _ by omega), e1]⟩

/-- An index went to the list of indexes. -/
theorem OrdMid.idx {n : Int} (h : OrdMid w0 ks j v3 v4 v5 w2) (hk : ks[j]? = some k) (hm : memb k (once (ks.take j)) = false) (hi : kidx k = some n)
    (hown : w3.ownsRow (w0.heap.size + 1) 3 1 v' ((idxs (once (ks.take j))).length + 1) (ints (idxs (once (ks.take j))) ++ [.int .i64 n])) (hg : (w2.alloc o3).grownBy w3 v3.ownBlock) : OrdInv w0 ks (j + 1) v' v4 v5 w3 := by
  have e := once_new hk hm
  obtain ⟨s1, s2, s3⟩ := step_idx hi (once (ks.take j))
  obtain ⟨h1, h2, h3, h4, h5, h6, h7⟩ := h
  refine ⟨(h1.alloc o3).kept hg (own_low h2 (Nat.lt_succ_self _)), by rw [e, s1, List.length_append, ints, List.map_append]; exact hown, by rw [e, s2]; exact (h3.alloc o3).kept hg (own_apart h2 h3 (by decide)), by rw [e, s3]; exact (h4.alloc o3).kept hg (own_apart h2 h4 (by decide)), h5,
    (h6.alloc h6.size o3).grown hg (by have := h6.size; simp; omega) (fun k hk => by have := (h2.lt k hk).1; omega), by have := hg.size; simp at this; omega⟩
/-- A name went to the list of names. -/
theorem OrdMid.name (h : OrdMid w0 ks j v3 v4 v5 w2) (hk : ks[j]? = some k) (hm : memb k (once (ks.take j)) = false) (h0 : k.2 = 0) (hi : idxF k.1.data.toList = none)
    (hown : w3.ownsRow (w0.heap.size + 1) 91 2 v' ((names (once (ks.take j))).length + 1) (cellsK (names (once (ks.take j))) ++ [.string k.1, .int .i64 k.2])) (hg : (w2.alloc o3).grownBy w3 v4.ownBlock)
    (hat : v'.ownBlock = v4.ownBlock ∨ v'.ownBlock = some (w2.alloc o3).heap.size) : OrdInv w0 ks (j + 1) v3 v' v5 w3 := by
  have e := once_new hk hm
  obtain ⟨s1, s2, s3⟩ := step_name h0 hi (once (ks.take j))
  obtain ⟨h1, h2, h3, h4, h5, h6, h7⟩ := h
  have h5' : v5.ownBlock = none ∨ v5.ownBlock ≠ v4.ownBlock := by
    rcases h5 with h5 | h5
    · rw [h5]; cases hv : v5.ownBlock <;> simp
    · exact .inr (Ne.symm h5)
  refine ⟨(h1.alloc o3).kept hg (own_low h3 (Nat.lt_succ_self _)), by rw [e, s1]; exact (h2.alloc o3).kept hg (own_apart h3 h2 (by decide)), by rw [e, s2, List.length_append, cellsK_append, cellsK_one]; exact hown, by rw [e, s3]; exact (h4.alloc o3).kept hg h5', ?_,
    (h6.alloc h6.size o3).grown hg (by have := h6.size; simp; omega) (fun k hk => by have := (h3.lt k hk).1; omega), by have := hg.size; simp at this; omega⟩
  rcases hat with hat | hat
  · rw [hat]; exact h5
  · rw [hat]; exact .inr (own_far (h4.alloc o3)).symm
/-- A symbol went to the list of symbols. -/
theorem OrdMid.sym (h : OrdMid w0 ks j v3 v4 v5 w2) (hk : ks[j]? = some k) (hm : memb k (once (ks.take j)) = false) (h0 : (k.2 != 0) = true) (hi : kidx k = none)
    (hown : w3.ownsRow (w0.heap.size + 1) 91 2 v' ((syms (once (ks.take j))).length + 1) (cellsK (syms (once (ks.take j))) ++ [.string k.1, .int .i64 k.2])) (hg : (w2.alloc o3).grownBy w3 v5.ownBlock)
    (hat : v'.ownBlock = v5.ownBlock ∨ v'.ownBlock = some (w2.alloc o3).heap.size) : OrdInv w0 ks (j + 1) v3 v4 v' w3 := by
  have e := once_new hk hm
  obtain ⟨s1, s2, s3⟩ := step_sym h0 hi (once (ks.take j))
  obtain ⟨h1, h2, h3, h4, h5, h6, h7⟩ := h
  refine ⟨(h1.alloc o3).kept hg (own_low h4 (Nat.lt_succ_self _)), by rw [e, s1]; exact (h2.alloc o3).kept hg (own_apart h4 h2 (by decide)), by rw [e, s2]; exact (h3.alloc o3).kept hg h5, by rw [e, s3, List.length_append, cellsK_append, cellsK_one]; exact hown, ?_,
    (h6.alloc h6.size o3).grown hg (by have := h6.size; simp; omega) (fun k hk => by have := (h4.lt k hk).1; omega), by have := hg.size; simp at this; omega⟩
  rcases hat with hat | hat
  · rw [hat]; exact h5
  · rw [hat]; exact .inr (own_far (h3.alloc o3))
theorem two_new (w : World) (a b : Value) (t : TypeId) : ∀ j u, [a, b][j]? = some u → (w.alloc (.cells #[a, b] t)).cell? ((⟨w.heap.size, 0, none⟩ : Addr).add j) = some u := by
  intro j u hj
  match j, hj with
  | 0, hj => simp at hj; subst hj; simp [Addr.add]
  | 1, hj => simp at hj; subst hj; simp [Addr.add]
theorem one_int (a : Int) : ∀ u ∈ [Value.int .i64 a], u.oneCell' = true := by
  intro u hu
  simp at hu
  subst hu
  rfl
theorem two_cells (s : ByteArray) (a : Int) : ∀ u ∈ [Value.string s, Value.int .i64 a], u.oneCell' = true := by
  intro u hu
  simp at hu
  rcases hu with rfl | rfl <;> rfl
theorem size_alloc_le {w : World} {B : Nat} (o : Obj) (h : B ≤ w.heap.size) : B ≤ (w.alloc o).heap.size := by simp; omega
end

theorem info3 : (Try.prog.info? 3).map (fun i => (i.zero, i.size, i.bytes)) = some (some (.int .i64 0), 1, 8) := by kernel_rfl
theorem info26 : (Try.prog.info? 91).map (fun i => (i.zero, i.size, i.bytes)) = some (some (.agg #[.string ⟨#[]⟩, .int .i64 0]), 2, 24) := by kernel_rfl
end Go.Proofs.Ytblbeinnfbohbaa.Keys

/-
  The end of keys.Order: the sorted indexes, the list that is handed back, and appending a list of the call's own.
-/
namespace Go.Proofs.Ytblbeinnfbohbaa.Keys
open Go Go.RowKit Go.Maps Go.Sort Go.Proofs.Ytblbeinnfbohbaa.Nums
set_option linter.unusedVariables false

/-- Numbers in rising order. -/
def rise (l : List Int) : List Int := l.mergeSort fun x y => decide (x ≤ y)
theorem rise_length (l : List Int) : (rise l).length = l.length := List.length_mergeSort l

/-- 'append(out, l...)', both lists of the call's own. -/
theorem wpList_append_src {P : Program} {w : World} {ops : Array Oper} {rest : List Oper} {o : Oper} {a : Act} {Q : Exit → Act → World → Prop} (hgd : o.guard = none) (s x : Operand) (t : TypeId)
    (ho : o.op = .call { callee := .builtin .append, args := #[s, x], argTypes := #[t, t] })
    (base : Nat) (e : TypeId) (i : TypeInfo) (z : Value) (size bytes : Nat) (ht : P.underlying t = some (.slice e)) (hi : P.info? e = some i) (hz : i.zero = some z)
    (hsize : i.size = size) (hby : i.bytes = bytes) (hzs : z.cells.size = size) (hsz : 0 < size)
    (v : Value) (n : Nat) (xs : List Value) (hs : a.eval s = v) (hown : w.ownsRow base e size v n xs)
    (base2 : Nat) (v2 : Value) (n2 : Nat) (xs2 : List Value) (hx : a.eval x = v2) (hown2 : w.ownsRow base2 e size v2 n2 xs2) (h1 : ∀ u ∈ xs2, u.oneCell' = true)
    (h63 : n + n2 ≤ maxLen) (hbytes : (n + n2) * bytes ≤ 140737488355328) (hbase : base ≤ w.heap.size)
    (h : ∀ v' w', w'.ownsRow base e size v' (n + n2) (xs ++ xs2) → w.grownBy w' v.ownBlock → (v'.ownBlock = v.ownBlock ∨ v'.ownBlock = some w.heap.size) → wpList P ops Q rest (a.put o.dst v') w') :
    wpList P ops Q (o :: rest) a w := by
  rcases hown2.2 with ⟨rfl, rfl⟩ | ⟨g, cap, cur, rfl, _⟩
  · have hn : xs2 = [] := List.eq_nil_of_length_eq_zero (by simpa using hown2.1)
    subst hn
    exact wpList_append_own_none hgd s x t ho base e i size ht hi v n xs hs hown hx (h v w (by simpa using hown) (World.grownBy.refl _ _) (.inl rfl))
  · exact wpList_append_own_at w hgd s x t ho base e i z size bytes ht hi hz hsize hby hzs hsz v n xs hs hown ⟨g, 0, none⟩ n2 cap xs2 hx hown2.1 (hown2.cells (g := g) rfl) h1 h63 hbytes hbase
      (fun v' w' r1 r2 _ r4 => h v' w' r1 r2 r4)

theorem cellsK_one' (l : List KV) : ∀ u ∈ cellsK l, u.oneCell' = true := by
  intro u hu
  unfold cellsK at hu
  obtain ⟨k, _, hk⟩ := List.mem_flatMap.1 hu
  simp at hk
  rcases hk with rfl | rfl <;> rfl

/-- The keys of numbers. -/
def numK (l : List Int) : List KV := l.map fun n => (kb n, 0)
theorem numK_length (l : List Int) : (numK l).length = l.length := by simp [numK]
theorem numK_snoc {l : List Int} {j : Nat} {n : Int} (h : l[j]? = some n) : numK (l.take (j + 1)) = numK (l.take j) ++ [(kb n, 0)] := by
  rw [List.take_add_one, h]
  simp [numK]
theorem ordF_eq (l : List KV) : ordF l = numK (rise (idxs (once l))) ++ names (once l) ++ syms (once l) := rfl

/-- What holds while the list is built: S, the sorted indexes; j of them are on it. -/
structure OutInv (w0 : World) (S : List Int) (N Y : List KV) (j : Nat) (vo v3 v4 v5 : Value) (wr : World) : Prop where
  out : wr.ownsRow (w0.heap.size + 1) 91 2 vo (numK (S.take j)).length (cellsK (numK (S.take j)))
  r3 : wr.ownsRow (w0.heap.size + 1) 3 1 v3 S.length (ints S)
  r4 : wr.ownsRow (w0.heap.size + 1) 91 2 v4 N.length (cellsK N)
  r5 : wr.ownsRow (w0.heap.size + 1) 91 2 v5 Y.length (cellsK Y)
  a4 : v4.ownBlock = none ∨ v4.ownBlock ≠ vo.ownBlock
  a5 : v5.ownBlock = none ∨ v5.ownBlock ≠ vo.ownBlock
  below : Below w0.heap.size w0 wr
  size : w0.heap.size + 1 ≤ wr.heap.size

section

variable {w0 wr w1 w2 w3 : World} {ks : List KV} {j : Nat} {vo v3 v4 v5 v' : Value} {S : List Int} {N Y : List KV} {o : Obj}

theorem OrdInv.sorted (h : OrdInv w0 ks j v3 v4 v5 wr) (hown : w1.ownsRow (w0.heap.size + 1) 3 1 v3 (idxs (once (ks.take j))).length (ints (rise (idxs (once (ks.take j)))))) (hg : wr.grownBy w1 v3.ownBlock) :
    w1.ownsMap Try.prog 91 unitElem w0.heap.size j (SetK (once (ks.take j))) ∧
    w1.ownsRow (w0.heap.size + 1) 91 2 v4 (names (once (ks.take j))).length (cellsK (names (once (ks.take j)))) ∧
    w1.ownsRow (w0.heap.size + 1) 91 2 v5 (syms (once (ks.take j))).length (cellsK (syms (once (ks.take j)))) ∧ Below w0.heap.size w0 w1 ∧ w0.heap.size + 1 ≤ w1.heap.size := by
  obtain ⟨h1, h2, h3, h4, h5, h6, h7⟩ := h
  exact ⟨h1.kept hg (own_low h2 (Nat.lt_succ_self _)), h3.kept hg (own_apart h2 h3 (by decide)), h4.kept hg (own_apart h2 h4 (by decide)), h6.grown hg (by omega) (fun k hk => by have := (h2.lt k hk).1; omega), Nat.le_trans h7 hg.size⟩
theorem OutInv.start {cap : Nat} (h3 : w1.ownsRow (w0.heap.size + 1) 3 1 v3 S.length (ints S)) (h4 : w1.ownsRow (w0.heap.size + 1) 91 2 v4 N.length (cellsK N)) (h5 : w1.ownsRow (w0.heap.size + 1) 91 2 v5 Y.length (cellsK Y))
    (hb : Below w0.heap.size w0 w1) (hs : w0.heap.size + 1 ≤ w1.heap.size) (hown : w2.ownsRow (w0.heap.size + 1) 91 2 (.slice (some ⟨w1.heap.size, 0, none⟩) 0 cap) 0 []) (hg : w1.grownBy w2 none) :
    OutInv w0 S N Y 0 (.slice (some ⟨w1.heap.size, 0, none⟩) 0 cap) v3 v4 v5 w2 := by
  have f : ∀ {v : Value}, v.ownBlock = none ∨ v.ownBlock ≠ none := fun {v} => by cases v.ownBlock <;> simp
  exact ⟨hown, h3.kept hg f, h4.kept hg f, h5.kept hg f, .inr (own_far h4), .inr (own_far h5), hb.grown hg (by omega) (fun k hk => by cases hk), Nat.le_trans hs hg.size⟩
theorem OutInv.next (h : OutInv w0 S N Y j vo v3 v4 v5 w1) (hb : Below w1.heap.size w1 w2) : OutInv w0 S N Y j vo v3 v4 v5 w2 := by
  obtain ⟨h1, h2, h3, h4, h5, h6, h7, h8⟩ := h
  exact ⟨own_below h1 hb, own_below h2 hb, own_below h3 hb, own_below h4 hb, h5, h6, h7.trans (hb.mono (by omega)), Nat.le_trans h8 hb.size⟩
theorem OutInv.step {n : Int} {m : Nat} (h : OutInv w0 S N Y j vo v3 v4 v5 w2) (hn : S[j]? = some n) (hm : (numK (S.take j)).length = m)
    (hown : w3.ownsRow (w0.heap.size + 1) 91 2 v' (m + 1) (cellsK (numK (S.take j)) ++ [.string (kb n), .int .i64 0])) (hg : (w2.alloc o).grownBy w3 vo.ownBlock)
    (hat : v'.ownBlock = vo.ownBlock ∨ v'.ownBlock = some (w2.alloc o).heap.size) : OutInv w0 S N Y (j + 1) v' v3 v4 v5 w3 := by
  subst hm
  obtain ⟨h1, h2, h3, h4, h5, h6, h7, h8⟩ := h
  have e := numK_snoc hn
  refine ⟨by rw [e, List.length_append, cellsK_append, cellsK_one]; exact hown, (h2.alloc o).kept hg (own_apart h1 h2 (by decide)), (h3.alloc o).kept hg h5, (h4.alloc o).kept hg h6, ?_, ?_,
    (h7.alloc h7.size o).grown hg (by have := h7.size; simp; omega) (fun k hk => by have := (h1.lt k hk).1; omega), by have := hg.size; simp at this; omega⟩
  · rcases hat with hat | hat
    · rw [hat]; exact h5
    · rw [hat]; exact .inr (own_far (h3.alloc o))
  · rcases hat with hat | hat
    · rw [hat]; exact h6
    · rw [hat]; exact .inr (own_far (h4.alloc o))
theorem own_shape {w : World} {base : Nat} {e : TypeId} {size n : Nat} {v : Value} {xs : List Value} (h : w.ownsRow base e size v n xs) : ∃ a c, v = .slice a n c := by
  rcases h.2 with ⟨rfl, rfl⟩ | ⟨g, cap, cur, rfl, _⟩
  · exact ⟨none, 0, rfl⟩
  · exact ⟨_, cap, rfl⟩
theorem own_at {w : World} {base : Nat} {e : TypeId} {n : Nat} {ao : Option Addr} {cp k : Nat} {xs : List Value} {u : Value} (h : w.ownsRow base e 1 (.slice ao n cp) n xs) (hu : xs[k]? = some u) :
    ∃ g, ao = some ⟨g, 0, none⟩ ∧ w.cell? ⟨g, k, none⟩ = some u := by
  rcases h.2 with ⟨hv, hn⟩ | ⟨g, cap, cur, hv, _⟩
  · subst hn
    have : xs = [] := List.eq_nil_of_length_eq_zero (by simpa using h.1)
    subst this
    simp at hu
  · simp at hv
    refine ⟨g, hv.1, ?_⟩
    have := h.cells (g := g) (by rw [hv.1]; rfl) k u hu
    have e : (⟨g, 0, none⟩ : Addr).add k = ⟨g, k, none⟩ := by unfold Addr.add; split <;> simp_all
    rw [e] at this
    exact this
end

end Go.Proofs.Ytblbeinnfbohbaa.Keys

/-
  keys.Order: what it gives, at every list of keys.
-/
namespace Go.Proofs.Ytblbeinnfbohbaa.Keys
open Go Go.RowKit Go.Maps Go.Proofs.Ytblbeinnfbohbaa.Nums
set_option linter.unusedVariables false

theorem blk_lt {w : World} {g i : Nat} {v : Value} (h : w.cell? ⟨g, i, none⟩ = some v) : g < w.heap.size := World.block_lt_of_cell? w ⟨g, i, none⟩ h
theorem rise_mem (l : List Int) (n : Int) : n ∈ rise l ↔ n ∈ l := (List.mergeSort_perm l _).mem_iff
theorem rise_bd (l : List KV) : ∀ n ∈ rise (idxs l), 0 ≤ n ∧ n ≤ 4294967294 := fun n hn => by
  obtain ⟨k, _, hk⟩ := List.mem_filterMap.1 ((rise_mem _ _).1 hn)
  have := idxF_some (kidx_some hk).2
  exact ⟨this.1, this.2.1⟩
/-- How keys.Order ends: with a new list of the keys in their order. -/
def OrdPost (ks : List KV) (w : World) (e : Ending) (w' : World) : Prop := ∃ v, e = .returned v ∧ w'.ownsRow (w.heap.size + 1) 91 2 v (ordF ks).length (cellsK (ordF ks)) ∧ Below w.heap.size w w'
/-- A slice's cells hold keys. -/
def KeysAt (ao : Option Addr) (ks : List KV) (w : World) : Prop := ∀ j k, ks[j]? = some k → ∃ b off, ao = some ⟨b, off, none⟩ ∧ b < w.heap.size ∧ w.cell? ⟨b, off + j * 2, none⟩ = some (.string k.1) ∧ w.cell? ⟨b, off + j * 2 + 1, none⟩ = some (.int .i64 k.2)
theorem keysAt_own {w : World} {base : Nat} {ao : Option Addr} {cp : Nat} {ks : List KV} (h : w.ownsRow base 91 2 (.slice ao ks.length cp) ks.length (cellsK ks)) : KeysAt ao ks w := fun j k hk => by
  have hj : j < ks.length := (List.getElem?_eq_some_iff.1 hk).1
  rcases h.2 with ⟨_, hn⟩ | ⟨g, cap, cur, hv, hb, hg, _⟩
  · omega
  · simp only [Value.slice.injEq] at hv
    obtain ⟨rfl, -, rfl⟩ := hv
    obtain ⟨e0, e1⟩ := cellsK_at ks j k hk
    exact ⟨g, 0, rfl, (Array.getElem?_eq_some_iff.1 hg).1, by rw [h.cellAt _ (by omega), ← e0]; congr 1; omega, by rw [h.cellAt _ (by omega), ← e1]; congr 1; omega⟩
end Go.Proofs.Ytblbeinnfbohbaa.Keys

/-
  values.Truth and Type, and the reference's: what they give, kind by kind.
-/
namespace Go.Proofs.Ytblbeinnfbohbaa.Vals
open Go.RowKit Go.Proofs.Ytblbeinnfbohbaa.Nums
set_option linter.unusedVariables false

/-- None of the seven kinds. -/
structure NoKind (k : Int) : Prop where
  e0 : (k == 0) = false
  e1 : (k == 1) = false
  e2 : (k == 2) = false
  e3 : (k == 3) = false
  e4 : (k == 4) = false
  e5 : (k == 5) = false
  e6 : (k == 6) = false
theorem kind_cases (k : Int) : k = 0 ∨ k = 1 ∨ k = 2 ∨ k = 3 ∨ k = 4 ∨ k = 5 ∨ k = 6 ∨ NoKind k := by
  by_cases h0 : k = 0
  · exact .inl h0
  by_cases h1 : k = 1
  · exact .inr (.inl h1)
  by_cases h2 : k = 2
  · exact .inr (.inr (.inl h2))
  by_cases h3 : k = 3
  · exact .inr (.inr (.inr (.inl h3)))
  by_cases h4 : k = 4
  · exact .inr (.inr (.inr (.inr (.inl h4))))
  by_cases h5 : k = 5
  · exact .inr (.inr (.inr (.inr (.inr (.inl h5)))))
  by_cases h6 : k = 6
  · exact .inr (.inr (.inr (.inr (.inr (.inr (.inl h6))))))
  · exact .inr (.inr (.inr (.inr (.inr (.inr (.inr ⟨by simpa using h0, by simpa using h1, by simpa using h2, by simpa using h3, by simpa using h4, by simpa using h5, by simpa using h6⟩))))))
theorem NoKind.ne {k : Int} (h : NoKind k) : k ≠ 0 ∧ k ≠ 1 ∧ k ≠ 2 ∧ k ≠ 3 ∧ k ≠ 4 ∧ k ≠ 5 ∧ k ≠ 6 :=
  ⟨by simpa using h.e0, by simpa using h.e1, by simpa using h.e2, by simpa using h.e3, by simpa using h.e4, by simpa using h.e5, by simpa using h.e6⟩

/-- A value of the language. -/
abbrev V (k n : Int) (s : ByteArray) : Value := .agg #[.int .i64 k, .int .i64 n, .string s]
theorem ball (w : World) (o : Obj) : Below w.heap.size w (w.alloc o) := (Below.refl _ _).alloc (Nat.le_refl _) _
theorem bnext {w w1 w2 : World} (h1 : Below w.heap.size w w1) (h2 : Below w1.heap.size w1 w2) : Below w.heap.size w w2 := h1.trans (h2.mono h1.size)

/-- Truth, in the document's words. -/
def truthF (k n : Int) (s : ByteArray) : Bool := if k = 0 ∨ k = 1 then false else if k = 2 ∨ k = 3 then (n != 0) else if k = 4 then !s.toList.isEmpty else true
/-- Type, in the document's words. -/
def typeF (k : Int) (c : Bool) : ByteArray :=
  if k = 0 then ⟨#[117, 110, 100, 101, 102, 105, 110, 101, 100]⟩ else if k = 1 then ⟨#[111, 98, 106, 101, 99, 116]⟩ else if k = 2 then ⟨#[98, 111, 111, 108, 101, 97, 110]⟩ else if k = 3 then ⟨#[110, 117, 109, 98, 101, 114]⟩
  else if k = 4 then ⟨#[115, 116, 114, 105, 110, 103]⟩ else if k = 5 then ⟨#[115, 121, 109, 98, 111, 108]⟩ else if k = 6 then (if c then ⟨#[102, 117, 110, 99, 116, 105, 111, 110]⟩ else ⟨#[111, 98, 106, 101, 99, 116]⟩) else ⟨#[]⟩
end Go.Proofs.Ytblbeinnfbohbaa.Vals

/-
  Plain mathematics of chapter 1: bytes, code points and 16-bit units; nothing here speaks of the program.
-/
namespace Go.Proofs.Ytblbeinnfbohbaa.Uni

/-- The byte at a place, 0 beyond the end. -/
def B (s : ByteArray) (k : Nat) : Nat := (s.data.toList[k]?.getD 0).toNat

theorem B_lt (s : ByteArray) (k : Nat) : B s k < 256 := by unfold B; exact UInt8.toNat_lt _
theorem B_get (s : ByteArray) (k : Nat) (h : k < s.size) : (s[k]'h).toNat = B s k := by
  unfold B
  have h' : k < s.data.toList.length := by simpa using h
  rw [List.getElem?_eq_getElem h']
  rfl
theorem B_get! (s : ByteArray) (k : Nat) : (s.get! k).toNat = B s k := by
  by_cases h : k < s.size
  · rw [← B_get s k h]
    have := get_at s k h
    simp only [Nat.add_zero] at this
    rw [this]
  · unfold B
    have h' : ¬ k < s.data.size := by simpa using h
    have e : s.data[k]? = none := by simp; exact Nat.le_of_not_lt h'
    have e2 : s.data[k]! = default := by rw [getElem!_def, e]
    simp only [ByteArray.get!, e2]
    have e3 : s.data.toList[k]? = none := by simp; exact Nat.le_of_not_lt h'
    rw [e3]
    rfl
theorem B_out (s : ByteArray) (k : Nat) (h : s.size ≤ k) : B s k = 0 := by
  unfold B
  rw [List.getElem?_eq_none (by simpa using h)]
  rfl
theorem B_extract (s : ByteArray) (i k : Nat) : B (s.extract i s.size) k = B s (i + k) := by
  by_cases h : i + k < s.size
  · have h' : k < (s.extract i s.size).size := by simp; omega
    rw [← B_get _ _ h', ← B_get _ _ h]
    congr 1
    exact ByteArray.getElem_extract h'
  · rw [B_out s (i + k) (by omega), B_out _ k (by simp; omega)]

/-- Does a single surrogate's encoding stand at a place? -/
def surB (s : ByteArray) (i : Nat) : Bool := decide (i + 3 ≤ s.size ∧ B s i = 237 ∧ B s (i + 1) / 32 = 5 ∧ B s (i + 2) / 64 = 2)
def surV (s : ByteArray) (i : Nat) : Nat := 53248 + B s (i + 1) % 64 * 64 + B s (i + 2) % 64

theorem sur_at (s : ByteArray) (i : Nat) : surB (s.extract i s.size) 0 = surB s i := by
  unfold surB
  simp only [B_extract, Nat.zero_add, Nat.add_zero]
  have : (3 ≤ (s.extract i s.size).size) ↔ (i + 3 ≤ s.size) := by simp; omega
  simp only [this]
theorem surV_at (s : ByteArray) (i : Nat) : surV (s.extract i s.size) 0 = surV s i := by
  unfold surV
  simp only [B_extract, Nat.zero_add]
theorem surB_iff {s : ByteArray} {i : Nat} (h : surB s i = true) : i + 3 ≤ s.size ∧ B s i = 237 ∧ B s (i + 1) / 32 = 5 ∧ B s (i + 2) / 64 = 2 := of_decide_eq_true h
theorem surB_not {s : ByteArray} {i : Nat} (h : surB s i = false) : ¬ (i + 3 ≤ s.size ∧ B s i = 237 ∧ B s (i + 1) / 32 = 5 ∧ B s (i + 2) / 64 = 2) := of_decide_eq_false h
theorem surV_bd {s : ByteArray} {i : Nat} (h : surB s i = true) : 55296 ≤ surV s i ∧ surV s i ≤ 57343 := by
  obtain ⟨_, _, h1, h2⟩ := surB_iff h
  have := B_lt s (i + 1)
  unfold surV
  omega

/-- The model's decoding, in bytes' numbers. -/
theorem dec_eq (s : ByteArray) (i : Nat) : Utf8.decode s i =
    (if B s i < 128 then (B s i, 1)
     else if B s i / 32 = 6 ∧ i + 1 < s.size ∧ B s (i + 1) / 64 = 2 then
       (if 128 ≤ (B s i % 32) * 64 + B s (i + 1) % 64 then ((B s i % 32) * 64 + B s (i + 1) % 64, 2) else (65533, 1))
     else if B s i / 16 = 14 ∧ i + 1 < s.size ∧ B s (i + 1) / 64 = 2 ∧ i + 2 < s.size ∧ B s (i + 2) / 64 = 2 then
       (if 2048 ≤ (B s i % 16) * 4096 + B s (i + 1) % 64 * 64 + B s (i + 2) % 64 ∧ ((B s i % 16) * 4096 + B s (i + 1) % 64 * 64 + B s (i + 2) % 64 < 55296 ∨ 57344 ≤ (B s i % 16) * 4096 + B s (i + 1) % 64 * 64 + B s (i + 2) % 64)
        then ((B s i % 16) * 4096 + B s (i + 1) % 64 * 64 + B s (i + 2) % 64, 3) else (65533, 1))
     else if B s i / 8 = 30 ∧ i + 1 < s.size ∧ B s (i + 1) / 64 = 2 ∧ i + 2 < s.size ∧ B s (i + 2) / 64 = 2 ∧ i + 3 < s.size ∧ B s (i + 3) / 64 = 2 then
       (if 65536 ≤ (B s i % 8) * 262144 + B s (i + 1) % 64 * 4096 + B s (i + 2) % 64 * 64 + B s (i + 3) % 64 ∧ (B s i % 8) * 262144 + B s (i + 1) % 64 * 4096 + B s (i + 2) % 64 * 64 + B s (i + 3) % 64 ≤ 1114111
        then ((B s i % 8) * 262144 + B s (i + 1) % 64 * 4096 + B s (i + 2) % 64 * 64 + B s (i + 3) % 64, 4) else (65533, 1))
     else (65533, 1)) := by
  unfold Utf8.decode Utf8.valid Utf8.runeError
  simp only [B_get!, Nat.add_zero, ge_iff_le]
  have h0 := B_lt s i
  have h1 := B_lt s (i + 1)
  have h2 := B_lt s (i + 2)
  have h3 := B_lt s (i + 3)
  by_cases a : B s i < 128
  · rw [if_pos a, if_pos a]
  · rw [if_neg a, if_neg a]
    by_cases b : B s i / 32 = 6 ∧ i + 1 < s.size ∧ B s (i + 1) / 64 = 2
    · rw [if_pos (by simp [b]), if_pos b]
    · rw [if_neg (by simp; intro x y; omega), if_neg b]
      by_cases c : B s i / 16 = 14 ∧ i + 1 < s.size ∧ B s (i + 1) / 64 = 2 ∧ i + 2 < s.size ∧ B s (i + 2) / 64 = 2
      · rw [if_pos (by simp [c]), if_pos c]
        refine ite_congr ?_ (fun _ => rfl) (fun _ => rfl)
        simp
        intro _
        omega
      · rw [if_neg (by simp; intro x y; omega), if_neg c]
        by_cases d : B s i / 8 = 30 ∧ i + 1 < s.size ∧ B s (i + 1) / 64 = 2 ∧ i + 2 < s.size ∧ B s (i + 2) / 64 = 2 ∧ i + 3 < s.size ∧ B s (i + 3) / 64 = 2
        · rw [if_pos (by simp [d]), if_pos d]
          refine ite_congr ?_ (fun _ => rfl) (fun _ => rfl)
          simp
          intro _
          omega
        · rw [if_neg (by simp; intro x y; omega), if_neg d]

theorem decode_sur {s : ByteArray} {i : Nat} (h : surB s i = true) : Utf8.decode s i = (65533, 1) ∧ Utf8.decode s (i + 1) = (65533, 1) ∧ Utf8.decode s (i + 2) = (65533, 1) := by
  obtain ⟨h0, h1, h2, h3⟩ := surB_iff h
  have := B_lt s (i + 1)
  have := B_lt s (i + 2)
  refine ⟨?_, ?_, ?_⟩
  · rw [dec_eq]
    rw [if_neg (by omega), if_neg (by omega), if_pos (by omega), if_neg (by omega)]
  · rw [dec_eq]
    rw [if_neg (by omega), if_neg (by omega), if_neg (by omega), if_neg (by omega)]
  · rw [dec_eq]
    rw [if_neg (by omega), if_neg (by omega), if_neg (by omega), if_neg (by omega)]

/-- What decoding gives, put short. -/
theorem decode_cases (s : ByteArray) (i : Nat) (hi : i < s.size) :
    (Utf8.decode s i = (65533, 1)) ∨
    (1 ≤ (Utf8.decode s i).2 ∧ i + (Utf8.decode s i).2 ≤ s.size ∧ (Utf8.decode s i).2 ≤ 4 ∧ (Utf8.decode s i).1 ≤ 1114111 ∧ ((Utf8.decode s i).1 < 55296 ∨ 57344 ≤ (Utf8.decode s i).1) ∧
      ((Utf8.decode s i).1 = 65533 → (Utf8.decode s i).2 = 3)) := by
  have h0 := B_lt s i
  have h1 := B_lt s (i + 1)
  have h2 := B_lt s (i + 2)
  have h3 := B_lt s (i + 3)
  rw [dec_eq]
  split
  · right; simp; omega
  · split
    · split
      · right; simp; omega
      · left; rfl
    · split
      · split
        · right; simp; omega
        · left; rfl
      · split
        · split
          · right; simp; omega
          · left; rfl
        · left; rfl

/-- The three bytes of the replacement character, and decoding. -/
theorem decode_fffd (s : ByteArray) (i : Nat) : Utf8.decode s i = (65533, 3) ↔ (i + 3 ≤ s.size ∧ B s i = 239 ∧ B s (i + 1) = 191 ∧ B s (i + 2) = 189) := by
  have h0 := B_lt s i
  have h1 := B_lt s (i + 1)
  have h2 := B_lt s (i + 2)
  have h3 := B_lt s (i + 3)
  constructor
  · intro h
    rw [dec_eq] at h
    split at h
    · simp at h
    · split at h
      · split at h <;> simp at h
      · split at h
        · split at h
          · simp at h; omega
          · simp at h
        · split at h
          · split at h <;> simp at h
          · simp at h
  · intro h
    rw [dec_eq]
    rw [if_neg (by omega), if_neg (by omega), if_pos (by omega), if_pos (by omega)]
    simp; omega

/-- The code point at a place and how many bytes it has; 0 bytes: there is none. -/
def pt (s : ByteArray) (i : Nat) : Nat × Nat :=
  if surB s i then (surV s i, 3) else if Utf8.decode s i = (65533, 1) then (0, 0) else Utf8.decode s i
def isHi (c : Nat) : Bool := decide (55296 ≤ c ∧ c < 56320)
def isLo (c : Nat) : Bool := decide (56320 ≤ c ∧ c ≤ 57343)

/-- The code points from a place on; 'none': the text isn't valid there. 'ah': the one before is a high half. -/
def dec (s : ByteArray) : Nat → Nat → Bool → Option (List Nat)
  | 0, _, _ => some []
  | f + 1, i, ah => if i < s.size then (if (pt s i).2 = 0 ∨ (ah = true ∧ isLo (pt s i).1 = true) then none else (dec s f (i + (pt s i).2) (isHi (pt s i).1)).map ((pt s i).1 :: ·)) else some []
def pts (s : ByteArray) : Option (List Nat) := dec s s.size 0 false

/-- What has been taken so far, and what is still to come. -/
def Went (s : ByteArray) (done : List Nat) (f i : Nat) (ah : Bool) : Prop :=
  s.size ≤ i + f ∧ i ≤ s.size ∧ done.length ≤ i ∧ pts s = (dec s f i ah).map (done ++ ·)
theorem went_start (s : ByteArray) : Went s [] s.size 0 false := by
  refine ⟨by omega, by omega, by simp, ?_⟩
  unfold pts
  cases dec s s.size 0 false <;> simp
theorem went_end {s : ByteArray} {done : List Nat} {f i : Nat} {ah : Bool} (h : Went s done f i ah) (hi : ¬ i < s.size) : pts s = some done := by
  rw [h.2.2.2]
  cases f with
  | zero => simp [dec]
  | succ f => simp [dec, hi]
theorem went_step {s : ByteArray} {done : List Nat} {f i : Nat} {ah : Bool} (h : Went s done f i ah) (hi : i < s.size) (hn : 1 ≤ (pt s i).2) (hs : i + (pt s i).2 ≤ s.size)
    (ha : ¬ (ah = true ∧ isLo (pt s i).1 = true)) : ∃ g, Went s (done ++ [(pt s i).1]) g (i + (pt s i).2) (isHi (pt s i).1) := by
  obtain ⟨h1, h2, h3, h4⟩ := h
  obtain ⟨g, rfl⟩ : ∃ g, f = g + 1 := ⟨f - 1, by omega⟩
  refine ⟨g, by omega, hs, by simp; omega, ?_⟩
  rw [h4]
  simp only [dec, hi, if_true]
  rw [if_neg (fun x => x.elim (by omega) ha)]
  cases dec s g (i + (pt s i).2) (isHi (pt s i).1) <;> simp
theorem went_none {s : ByteArray} {done : List Nat} {f i : Nat} {ah : Bool} (h : Went s done f i ah) (hi : i < s.size) (hn : (pt s i).2 = 0) : pts s = none := by
  obtain ⟨h1, h2, h3, h4⟩ := h
  obtain ⟨g, rfl⟩ : ∃ g, f = g + 1 := ⟨f - 1, by omega⟩
  rw [h4]
  simp [dec, hi, hn]
theorem went_pair {s : ByteArray} {done : List Nat} {f i : Nat} {ah : Bool} (h : Went s done f i ah) (hi : i < s.size) (ha : ah = true) (hl : isLo (pt s i).1 = true) : pts s = none := by
  obtain ⟨h1, h2, h3, h4⟩ := h
  obtain ⟨g, rfl⟩ : ∃ g, f = g + 1 := ⟨f - 1, by omega⟩
  rw [h4]
  simp [dec, hi, ha, hl]

theorem pt_sur {s : ByteArray} {i : Nat} (h : surB s i = true) : pt s i = (surV s i, 3) := by unfold pt; rw [if_pos h]
theorem pt_none {s : ByteArray} {i : Nat} (h : surB s i = false) (h2 : Utf8.decode s i = (65533, 1)) : pt s i = (0, 0) := by
  unfold pt; rw [if_neg (by simp [h]), if_pos h2]
theorem pt_dec {s : ByteArray} {i : Nat} (h2 : ¬ Utf8.decode s i = (65533, 1)) : pt s i = Utf8.decode s i := by
  unfold pt
  rw [if_neg (fun h => h2 (decode_sur h).1), if_neg h2]

/-- The units of a code point, of a row of them, of a text. -/
def un (p : Nat) : List Nat := if p < 65536 then [p] else [55296 + (p - 65536) / 1024, 56320 + (p - 65536) % 1024]
def uns (l : List Nat) : List Nat := l.flatMap un
def units (s : ByteArray) : List Nat := ((pts s).map uns).getD []
theorem un_small {p : Nat} (h : p < 65536) : un p = [p] := if_pos h
theorem un_great {p : Nat} (h : ¬ p < 65536) : un p = [55296 + (p - 65536) / 1024, 56320 + (p - 65536) % 1024] := if_neg h
theorem un_len (p : Nat) : (un p).length = if p < 65536 then 1 else 2 := by unfold un; split <;> rfl
theorem uns_snoc (l : List Nat) (p : Nat) : uns (l ++ [p]) = uns l ++ un p := by simp [uns]
theorem uns_le (l : List Nat) : (uns l).length ≤ 2 * l.length := by
  induction l with
  | nil => simp [uns]
  | cons a r ih =>
    have h1 : uns (a :: r) = un a ++ uns r := by simp [uns]
    have h2 := un_len a
    rw [h1, List.length_append, List.length_cons]
    split at h2 <;> omega
theorem dec_len (s : ByteArray) : ∀ f i ah l, dec s f i ah = some l → i ≤ s.size → (∀ j, j < s.size → j + (pt s j).2 ≤ s.size) → l.length + i ≤ s.size := by
  intro f
  induction f with
  | zero => intro i ah l h hi _; simp [dec] at h; subst h; simpa using hi
  | succ f ih =>
    intro i ah l h hi hpt
    simp only [dec] at h
    split at h
    · rename_i hlt
      split at h
      · simp at h
      · rename_i hn
        simp only [Option.map_eq_some_iff] at h
        obtain ⟨r, hr, rfl⟩ := h
        have h2 := ih _ _ r hr (hpt i hlt) hpt
        have : (pt s i).2 ≠ 0 := fun x => hn (.inl x)
        simp only [List.length_cons]
        omega
    · simp at h; subst h; simpa using hi
theorem pt_le (s : ByteArray) (i : Nat) (h : i < s.size) : i + (pt s i).2 ≤ s.size := by
  unfold pt
  split
  · rename_i h'; exact (surB_iff h').1
  · split
    · simp; omega
    · rename_i h2
      rcases decode_cases s i h with h3 | h3
      · exact absurd h3 h2
      · exact h3.2.1
theorem pts_len {s : ByteArray} {l : List Nat} (h : pts s = some l) : l.length ≤ s.size := by
  have := dec_len s _ _ _ l h (Nat.zero_le _) (pt_le s)
  omega
theorem units_le (s : ByteArray) : (units s).length ≤ 2 * s.size := by
  unfold units
  cases h : pts s with
  | none => simp
  | some l => simp; have := uns_le l; have := pts_len h; omega
end Go.Proofs.Ytblbeinnfbohbaa.Uni

/-
  The small functions of package units: what each call gives.
-/
namespace Go.Proofs.Ytblbeinnfbohbaa.Uni
open Go.RowKit
set_option linter.unusedVariables false

theorem ret_ib {k : IntKind} {a b : Int} {c : Bool} (h : a = b) : Ending.returned (.tuple #[.int k a, .bool c]) = Ending.returned (.tuple #[.int k b, .bool c]) := by rw [h]
theorem gB (s : ByteArray) : ∀ (n : Nat) (h : n < s.size), ((s[n]'h).toNat : Int) = ((B s n : Nat) : Int) := fun n h => by rw [B_get s n h]

/-- How many units a code point takes. -/
def wd (p : Nat) : Nat := if p < 65536 then 1 else 2
theorem and224 : ∀ a : Fin 256, (bits .and .u8 (a.val : Int) 224 = 160) ↔ a.val / 32 = 5 := by
  intro a
  have := u8_and_nat a.val 224 a.isLt (by omega)
  have e : ∀ a : Fin 256, (a.val &&& 224 = 160) ↔ a.val / 32 = 5 := by decide +kernel
  rw [show ((224 : Int)) = ((224 : Nat) : Int) from rfl, this]
  rw [← e a]
  omega
theorem and192 : ∀ a : Fin 256, (bits .and .u8 (a.val : Int) 192 = 128) ↔ a.val / 64 = 2 := by
  intro a
  have := u8_and_nat a.val 192 a.isLt (by omega)
  have e : ∀ a : Fin 256, (a.val &&& 192 = 128) ↔ a.val / 64 = 2 := by decide +kernel
  rw [show ((192 : Int)) = ((192 : Nat) : Int) from rfl, this]
  rw [← e a]
  omega
theorem and63 (a : Nat) (h : a < 256) : bits .and .u8 (a : Int) 63 = ((a % 64 : Nat) : Int) := by
  have := u8_and_nat a 63 h (by omega)
  rw [show ((63 : Int)) = ((63 : Nat) : Int) from rfl, this]
  rw [show (63 : Nat) = 2 ^ 6 - 1 from rfl, Nat.and_two_pow_sub_one_eq_mod]

end Go.Proofs.Ytblbeinnfbohbaa.Uni

/-
  Empty here.
-/
namespace Go.Proofs.Ytblbeinnfbohbaa.Uni
end Go.Proofs.Ytblbeinnfbohbaa.Uni

/-
  units.Of, units.Right and units.Len, by their visitors.
-/
namespace Go.Proofs.Ytblbeinnfbohbaa.Uni
open Go.RowKit
set_option linter.unusedVariables false

/-- Units as cells. -/
def uc (l : List Nat) : List Value := l.map fun n : Nat => Value.int .u16 (n : Int)
theorem uc_append (a b : List Nat) : uc (a ++ b) = uc a ++ uc b := by simp [uc]
theorem uc_length (a : List Nat) : (uc a).length = a.length := by simp [uc]

theorem grownBy_of_alloc {w w' : World} {o : Obj} {row : Option Nat} (h : (w.alloc o).grownBy w' row) : w.grownBy w' row := by
  refine ⟨h.os, h.tape, h.output, ?_, ?_⟩
  · have := h.size; simp at this; omega
  · intro k hk hr
    rw [h.block k (by simp; omega) hr]
    exact heap_alloc_old w o hk

theorem mask10 (x : Int) (h0 : 0 ≤ x) (h1 : x < 2147483648) : bits .and .i32 x 1023 = x % 1024 :=
  bits_mask .i32 31 (by decide) wraps_i32 10 (by decide) x h0 h1

theorem iter_below {B : Nat} {w : World} (h : B ≤ w.heap.size) (s : ByteArray) : Below B w (w.iter s 0) := (Below.refl _ w).alloc h _

theorem own_shape {w : World} {base e1 : Nat} {v : Value} {n : Nat} {xs : List Value} (h : w.ownsRow base e1 1 v n xs) : ∃ a c, v = .slice a n c := by
  rcases h.2 with ⟨rfl, rfl⟩ | ⟨g, cap, cur, rfl, _⟩
  · exact ⟨none, 0, rfl⟩
  · exact ⟨_, cap, rfl⟩
theorem own_ne {w : World} {base e1 e2 : Nat} {v : Value} {n c : Nat} {xs : List Value} {cs : Array Value} {fz : Nat × Nat} (h : w.ownsRow base e1 1 v n xs) (hc : w.heap[c]? = some (.cells cs e2 fz)) (hne : e1 ≠ e2) : v.ownBlock ≠ some c := by
  rcases h.2 with ⟨rfl, _⟩ | ⟨g, cap, cur, rfl, _, hg, _⟩
  · simp [Value.ownBlock]
  · simp [Value.ownBlock]
    rintro rfl
    rw [hg] at hc
    simp at hc
    exact hne hc.2.1
theorem own_ne_iter {w : World} {base e1 : Nat} {v : Value} {n c : Nat} {xs : List Value} {s : ByteArray} {pos : Nat} (h : w.ownsRow base e1 1 v n xs) (hc : w.heap[c]? = some (.stringIter s pos)) : v.ownBlock ≠ some c := by
  rcases h.2 with ⟨rfl, _⟩ | ⟨g, cap, cur, rfl, _, hg, _⟩
  · simp [Value.ownBlock]
  · simp [Value.ownBlock]
    rintro rfl
    rw [hg] at hc
    simp at hc
theorem own_iterAt {w : World} {base e1 : Nat} {v : Value} {n k : Nat} {xs : List Value} {s : ByteArray} {pos : Nat} (h : w.ownsRow base e1 1 v n xs) (hk : w.heap[k]? = some (.stringIter s pos)) (pos' : Nat) : (w.iterAt k s pos').ownsRow base e1 1 v n xs := by
  have hne := own_ne_iter h hk
  refine ⟨h.1, ?_⟩
  rcases h.2 with hn | ⟨g, cap, cur, rfl, hb, hg, rest⟩
  · exact .inl hn
  · refine .inr ⟨g, cap, cur, rfl, hb, ?_, rest⟩
    rw [Lib.iterAt_other w k g s pos' (by simpa [Value.ownBlock] using hne)]
    exact hg

end Go.Proofs.Ytblbeinnfbohbaa.Uni

/-
  units.Len by its visitor.
-/
namespace Go.Proofs.Ytblbeinnfbohbaa.Uni
open Go.RowKit
set_option linter.unusedVariables false

/-- What the visitor of Len keeps: the captured variable's block holds the number so far. -/
def InvLen (w0 : World) (base c : Nat) (done : List Nat) (wr : World) : Prop :=
  wr.heap[c]? = some (.cells #[.int .i64 ((uns done).length : Nat)] 3 (0, 0)) ∧ Below base w0 wr

theorem un_wd (p : Nat) : (un p).length = wd p := by rw [un_len]; rfl

end Go.Proofs.Ytblbeinnfbohbaa.Uni
