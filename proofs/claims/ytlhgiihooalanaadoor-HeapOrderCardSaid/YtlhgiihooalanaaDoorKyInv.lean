/-
  What holds at the head of a round of keys.Order, and what each way through a round does to it.
-/
import Derived.Test.YtlhgiihooalanaaDoorKyOrd
import Derived.Test.YtlhgiihooalanaaDoorKyIndex
import Derived.Maps.AppendAt
import Derived.Laws.AppendOwnNone
namespace Go.Proofs.YtlhgiihooalanaaDoor.Keys
open Go Go.RowKit Go.Maps Go.Proofs.YtlhgiihooalanaaDoor.Nums
set_option linter.unusedVariables false

theorem make_map {P : Program} {t k e : TypeId} (h : P.underlying t = some (.map k e)) (kk : IntKind) (n : Int) (w : World) : (Instr.makeMap t (some (.int kk n))).run P w = .ok (.map (some w.heap.size)) (w.alloc (.map #[] 0)) := by
  simp [Instr.makeMap, run_underlying h, asInt, asIntOf, Result.andThen]
theorem grown_of_below {w w' : World} (hb : Below w.heap.size w w') : w.grownBy w' none := ⟨hb.os, hb.tape, hb.output, hb.size, fun k hk _ => hb.block k hk⟩
section
variable {w w' : World} {base : Nat} {e : TypeId} {size n : Nat} {v : Value} {xs : List Value}
theorem own_below (h : w.ownsRow base e size v n xs) (hb : Below w.heap.size w w') : w'.ownsRow base e size v n xs := h.kept (grown_of_below hb) (by cases hv : v.ownBlock <;> simp)
theorem own_alloc2 (h : w.ownsRow base e size v n xs) (o o' : Obj) : ((w.alloc o).alloc o').ownsRow base e size v n xs := (h.alloc o).alloc o'
theorem own_apart {e2 : TypeId} {size2 n2 : Nat} {v2 : Value} {xs2 : List Value} (h : w.ownsRow base e size v n xs) (h2 : w.ownsRow base e2 size2 v2 n2 xs2) (hne : e ≠ e2) : v2.ownBlock = none ∨ v2.ownBlock ≠ v.ownBlock := by
  rcases h2.2 with ⟨rfl, _⟩ | ⟨g, cap, cur, rfl, _, hg, _⟩
  · exact .inl rfl
  · right
    rcases h.2 with ⟨rfl, _⟩ | ⟨g', cap', cur', rfl, _, hg', _⟩
    · simp [Value.ownBlock]
    · simp only [Value.ownBlock, ne_eq, Option.some.injEq]
      rintro rfl
      rw [hg] at hg'
      simp at hg'
      exact hne hg'.2.symm
theorem own_low (h : w.ownsRow base e size v n xs) {b : Nat} (hb : b < base) : some b ≠ v.ownBlock := fun e1 => by
  have := (h.lt b e1.symm).1
  omega
theorem own_far (h : w.ownsRow base e size v n xs) : v.ownBlock ≠ some w.heap.size := fun e1 => by
  have := (h.lt _ e1).2
  omega
end

/-- What holds at the head of a round: the map and the three lists own what j keys give. -/
structure OrdInv (w0 : World) (ks : List KV) (j : Nat) (v3 v4 v5 : Value) (wr : World) : Prop where
  map : wr.ownsMap Tryd.prog 35 unitElem w0.heap.size j (SetK (once (ks.take j)))
  r3 : wr.ownsRow (w0.heap.size + 1) 3 1 v3 (idxs (once (ks.take j))).length (ints (idxs (once (ks.take j))))
  r4 : wr.ownsRow (w0.heap.size + 1) 35 2 v4 (names (once (ks.take j))).length (cellsK (names (once (ks.take j))))
  r5 : wr.ownsRow (w0.heap.size + 1) 35 2 v5 (syms (once (ks.take j))).length (cellsK (syms (once (ks.take j))))
  apart : v4.ownBlock = none ∨ v4.ownBlock ≠ v5.ownBlock
  below : Below w0.heap.size w0 wr
  size : w0.heap.size + 1 ≤ wr.heap.size

theorem OrdInv.start (w0 : World) (ks : List KV) : OrdInv w0 ks 0 (.slice none 0 0) (.slice none 0 0) (.slice none 0 0) (w0.alloc (.map #[] 0)) where
  map := by
    have : SetK (once (ks.take 0)) = .map [] := rfl
    rw [this]
    exact World.ownsMap_made _ _ _ _
  r3 := World.ownsRow_nil _ _ _ _
  r4 := World.ownsRow_nil _ _ _ _
  r5 := World.ownsRow_nil _ _ _ _
  apart := .inl rfl
  below := ball _ _
  size := by simp

section
variable {w0 wr w1 w2 w3 : World} {ks : List KV} {j : Nat} {v3 v4 v5 v' : Value} {k : KV} {o o' o3 : Obj}

/-- A key that was met before. -/
theorem OrdInv.old (h : OrdInv w0 ks j v3 v4 v5 wr) (hk : ks[j]? = some k) (hm : memb k (once (ks.take j)) = true) : OrdInv w0 ks (j + 1) v3 v4 v5 ((wr.alloc o).alloc o') := by
  have e := once_old hk hm
  obtain ⟨h1, h2, h3, h4, h5, h6, h7⟩ := h
  exact ⟨by rw [e]; exact ((h1.alloc o).alloc o').mono (Nat.le_succ _), by rw [e]; exact own_alloc2 h2 o o', by rw [e]; exact own_alloc2 h3 o o', by rw [e]; exact own_alloc2 h4 o o', h5, (h6.alloc h6.size o).alloc (by have := h6.size; simp; omega) o', by simp; omega⟩

/-- Behind the map's store and the call of Index. -/
structure OrdMid (w0 : World) (ks : List KV) (j : Nat) (v3 v4 v5 : Value) (wr : World) : Prop where
  map : wr.ownsMap Tryd.prog 35 unitElem w0.heap.size (j + 1) (SetK (once (ks.take (j + 1))))
  r3 : wr.ownsRow (w0.heap.size + 1) 3 1 v3 (idxs (once (ks.take j))).length (ints (idxs (once (ks.take j))))
  r4 : wr.ownsRow (w0.heap.size + 1) 35 2 v4 (names (once (ks.take j))).length (cellsK (names (once (ks.take j))))
  r5 : wr.ownsRow (w0.heap.size + 1) 35 2 v5 (syms (once (ks.take j))).length (cellsK (syms (once (ks.take j))))
  apart : v4.ownBlock = none ∨ v4.ownBlock ≠ v5.ownBlock
  below : Below w0.heap.size w0 wr
  size : w0.heap.size + 1 ≤ wr.heap.size

theorem OrdInv.mid (h : OrdInv w0 ks j v3 v4 v5 wr) (hk : ks[j]? = some k) (hm : memb k (once (ks.take j)) = false)
    (hown : w1.ownsMap Tryd.prog 35 unitElem w0.heap.size (j + 1) ((SetK (once (ks.take j))).put (klit k) (.agg []))) (hg : ((wr.alloc o).alloc o').grownBy w1 (some w0.heap.size)) : OrdMid w0 ks j v3 v4 v5 w1 := by
  have e := once_new hk hm
  obtain ⟨h1, h2, h3, h4, h5, h6, h7⟩ := h
  have l3 := own_low h2 (b := w0.heap.size) (Nat.lt_succ_self _)
  have l4 := own_low h3 (b := w0.heap.size) (Nat.lt_succ_self _)
  have l5 := own_low h4 (b := w0.heap.size) (Nat.lt_succ_self _)
  refine ⟨by rw [e, set_snoc]; exact hown, (own_alloc2 h2 o o').kept hg (.inr l3.symm), (own_alloc2 h3 o o').kept hg (.inr l4.symm), (own_alloc2 h4 o o').kept hg (.inr l5.symm), h5,
    ((h6.alloc h6.size o).alloc (by have := h6.size; simp; omega) o').grown hg (by have := h6.size; simp; omega) (fun k hk => by cases hk; exact Nat.le_refl _), by have := hg.size; simp at this; omega⟩
theorem OrdMid.next (h : OrdMid w0 ks j v3 v4 v5 w1) (hb : Below w1.heap.size w1 w2) : OrdMid w0 ks j v3 v4 v5 w2 := by
  obtain ⟨h1, h2, h3, h4, h5, h6, h7⟩ := h
  exact ⟨h1.kept (grown_of_below hb) (by simp), own_below h2 hb, own_below h3 hb, own_below h4 hb, h5, h6.trans (hb.mono (by omega)), Nat.le_trans h7 hb.size⟩
/-- The cells of the key of this round. -/
theorem box_cells {a b : Value} {t : TypeId} {m : Nat} (hg : ((wr.alloc (.cells #[a, b] t)).alloc o').grownBy w1 (some m)) (hm : m < wr.heap.size) (hb : Below w1.heap.size w1 w2) :
    (w1.cell? ⟨wr.heap.size, 0, none⟩ = some a ∧ w1.cell? ⟨wr.heap.size, 1, none⟩ = some b) ∧ (w2.cell? ⟨wr.heap.size, 0, none⟩ = some a ∧ w2.cell? ⟨wr.heap.size, 1, none⟩ = some b) := by
  have hs := hg.size
  simp at hs
  have e0 : w1.cell? ⟨wr.heap.size, 0, none⟩ = some a := by rw [World.cell?_of_block (hg.block wr.heap.size (by simp; omega) (by simp; omega))]; simp
  have e1 : w1.cell? ⟨wr.heap.size, 1, none⟩ = some b := by rw [World.cell?_of_block (hg.block wr.heap.size (by simp; omega) (by simp; omega))]; simp
  exact ⟨⟨e0, e1⟩, by rw [hb.cell (p := ⟨wr.heap.size, 0, none⟩) (show wr.heap.size < _ by omega), e0], by rw [hb.cell (p := ⟨wr.heap.size, 1, none⟩) (show wr.heap.size < _ by omega), e1]⟩

/-- An index went to the list of indexes. -/
theorem OrdMid.idx {n : Int} (h : OrdMid w0 ks j v3 v4 v5 w2) (hk : ks[j]? = some k) (hm : memb k (once (ks.take j)) = false) (hi : kidx k = some n)
    (hown : w3.ownsRow (w0.heap.size + 1) 3 1 v' ((idxs (once (ks.take j))).length + 1) (ints (idxs (once (ks.take j))) ++ [.int .i64 n])) (hg : (w2.alloc o3).grownBy w3 v3.ownBlock) : OrdInv w0 ks (j + 1) v' v4 v5 w3 := by
  have e := once_new hk hm
  obtain ⟨s1, s2, s3⟩ := step_idx hi (once (ks.take j))
  obtain ⟨h1, h2, h3, h4, h5, h6, h7⟩ := h
  refine ⟨(h1.alloc o3).kept hg (own_low h2 (Nat.lt_succ_self _)), by rw [e, s1, List.length_append, ints, List.map_append]; exact hown, by rw [e, s2]; exact (h3.alloc o3).kept hg (own_apart h2 h3 (by decide)), by rw [e, s3]; exact (h4.alloc o3).kept hg (own_apart h2 h4 (by decide)), h5,
    (h6.alloc h6.size o3).grown hg (by have := h6.size; simp; omega) (fun k hk => by have := (h2.lt k hk).1; omega), by have := hg.size; simp at this; omega⟩
/-- A name went to the list of names. -/
theorem OrdMid.name (h : OrdMid w0 ks j v3 v4 v5 w2) (hk : ks[j]? = some k) (hm : memb k (once (ks.take j)) = false) (h0 : k.2 = 0) (hi : idxF k.1.data.toList = none)
    (hown : w3.ownsRow (w0.heap.size + 1) 35 2 v' ((names (once (ks.take j))).length + 1) (cellsK (names (once (ks.take j))) ++ [.string k.1, .int .i64 k.2])) (hg : (w2.alloc o3).grownBy w3 v4.ownBlock)
    (hat : v'.ownBlock = v4.ownBlock ∨ v'.ownBlock = some (w2.alloc o3).heap.size) : OrdInv w0 ks (j + 1) v3 v' v5 w3 := by
  have e := once_new hk hm
  obtain ⟨s1, s2, s3⟩ := step_name h0 hi (once (ks.take j))
  obtain ⟨h1, h2, h3, h4, h5, h6, h7⟩ := h
  have h5' : v5.ownBlock = none ∨ v5.ownBlock ≠ v4.ownBlock := by
    rcases h5 with h5 | h5
    · rw [h5]; cases hv : v5.ownBlock <;> simp
    · exact .inr (Ne.symm h5)
  refine ⟨(h1.alloc o3).kept hg (own_low h3 (Nat.lt_succ_self _)), by rw [e, s1]; exact (h2.alloc o3).kept hg (own_apart h3 h2 (by decide)), by rw [e, s2, List.length_append, cellsK_append, cellsK_one]; exact hown, by rw [e, s3]; exact (h4.alloc o3).kept hg h5', ?_,
    (h6.alloc h6.size o3).grown hg (by have := h6.size; simp; omega) (fun k hk => by have := (h3.lt k hk).1; omega), by have := hg.size; simp at this; omega⟩
  rcases hat with hat | hat
  · rw [hat]; exact h5
  · rw [hat]; exact .inr (own_far (h4.alloc o3)).symm
/-- A symbol went to the list of symbols. -/
theorem OrdMid.sym (h : OrdMid w0 ks j v3 v4 v5 w2) (hk : ks[j]? = some k) (hm : memb k (once (ks.take j)) = false) (h0 : (k.2 != 0) = true) (hi : kidx k = none)
    (hown : w3.ownsRow (w0.heap.size + 1) 35 2 v' ((syms (once (ks.take j))).length + 1) (cellsK (syms (once (ks.take j))) ++ [.string k.1, .int .i64 k.2])) (hg : (w2.alloc o3).grownBy w3 v5.ownBlock)
    (hat : v'.ownBlock = v5.ownBlock ∨ v'.ownBlock = some (w2.alloc o3).heap.size) : OrdInv w0 ks (j + 1) v3 v4 v' w3 := by
  have e := once_new hk hm
  obtain ⟨s1, s2, s3⟩ := step_sym h0 hi (once (ks.take j))
  obtain ⟨h1, h2, h3, h4, h5, h6, h7⟩ := h
  refine ⟨(h1.alloc o3).kept hg (own_low h4 (Nat.lt_succ_self _)), by rw [e, s1]; exact (h2.alloc o3).kept hg (own_apart h4 h2 (by decide)), by rw [e, s2]; exact (h3.alloc o3).kept hg h5, by rw [e, s3, List.length_append, cellsK_append, cellsK_one]; exact hown, ?_,
    (h6.alloc h6.size o3).grown hg (by have := h6.size; simp; omega) (fun k hk => by have := (h4.lt k hk).1; omega), by have := hg.size; simp at this; omega⟩
  rcases hat with hat | hat
  · rw [hat]; exact h5
  · rw [hat]; exact .inr (own_far (h3.alloc o3))
theorem two_new (w : World) (a b : Value) (t : TypeId) : ∀ j u, [a, b][j]? = some u → (w.alloc (.cells #[a, b] t)).cell? ((⟨w.heap.size, 0, none⟩ : Addr).add j) = some u := by
  intro j u hj
  match j, hj with
  | 0, hj => simp at hj; subst hj; simp [Addr.add]
  | 1, hj => simp at hj; subst hj; simp [Addr.add]
theorem one_int (a : Int) : ∀ u ∈ [Value.int .i64 a], u.oneCell' = true := by
  intro u hu
  simp at hu
  subst hu
  rfl
theorem two_cells (s : ByteArray) (a : Int) : ∀ u ∈ [Value.string s, Value.int .i64 a], u.oneCell' = true := by
  intro u hu
  simp at hu
  rcases hu with rfl | rfl <;> rfl
theorem size_alloc_le {w : World} {B : Nat} (o : Obj) (h : B ≤ w.heap.size) : B ≤ (w.alloc o).heap.size := by simp; omega
end
theorem info3 : (Tryd.prog.info? 3).map (fun i => (i.zero, i.size, i.bytes)) = some (some (.int .i64 0), 1, 8) := by kernel_rfl
theorem info26 : (Tryd.prog.info? 35).map (fun i => (i.zero, i.size, i.bytes)) = some (some (.agg #[.string ⟨#[]⟩, .int .i64 0]), 2, 24) := by kernel_rfl
end Go.Proofs.YtlhgiihooalanaaDoor.Keys
