/-
  The end of keys.Order: the sorted indexes, the list that is handed back, and appending a list of the call's own.
-/
import Derived.Test.YtlhgiihooalanaaDoorKyInv
import Derived.Test.YtlhgiihooalanaaDoorSort
import Derived.Sort.OwnSortedInts
import Derived.OwnWalk
namespace Go.Proofs.YtlhgiihooalanaaDoor.Keys
open Go Go.RowKit Go.Maps Go.Sort Go.Proofs.YtlhgiihooalanaaDoor.Nums
set_option linter.unusedVariables false

/-- Numbers in rising order. -/
def rise (l : List Int) : List Int := l.mergeSort fun x y => decide (x ≤ y)
theorem rise_length (l : List Int) : (rise l).length = l.length := List.length_mergeSort l

/-- slices.Sort at a slice of the call's own. -/
theorem sort_own (base : Nat) (v : Value) (zs : List Int) (w : World) (hown : w.ownsRow base 3 1 v zs.length (ints zs)) (hz : zs.length ≤ 1000000) :
    Calls Tryd.prog 29 #[v] w fun e w' => e = .returned (.tuple #[]) ∧ w'.ownsRow base 3 1 v zs.length (ints (rise zs)) ∧ w.grownBy w' v.ownBlock := by
  rcases hown.2 with ⟨rfl, h0⟩ | ⟨g, cap, cur, rfl, hbase, hb, h1, h2, h3, h4⟩
  · obtain rfl : zs = [] := List.eq_nil_of_length_eq_zero h0
    refine (Tryd.slices_Sort_int_none none 0 w).mono fun e w' ⟨he, hw⟩ => ?_
    subst hw
    have e0 : ints (rise []) = [] := by simp [rise, ints]
    rw [e0]
    exact ⟨he, World.ownsRow_nil _ _ _ _, World.grownBy.refl _ _⟩
  · have hH : Holds (Value.int .i64) w g 0 zs.toArray := holds_of_blockI hb (by have h5 := h4; rw [Nat.mul_one] at h5; exact h5)
    have hgl : g < w.heap.size := (Array.getElem?_eq_some_iff.1 hb).1
    refine (Tryd.slices_Sort_int g 0 cap zs w hH hgl (by omega)).mono fun e w' ⟨he, n, os, hw⟩ => ?_
    subst hw
    have hl : (rise zs).length = zs.length := rise_length zs
    exact ⟨he, ownsRow_sortedI (n := n) (os := os) (ts := rise zs) hl hbase hb h1 h2 h3, grownBy_sortedI _⟩

/-- 'append(out, l...)', both lists of the call's own. -/
theorem wpList_append_src {P : Program} {w : World} {ops : Array Oper} {rest : List Oper} {o : Oper} {a : Act} {Q : Exit → Act → World → Prop} (hgd : o.guard = none) (s x : Operand) (t : TypeId)
    (ho : o.op = .call { callee := .builtin .append, args := #[s, x], argTypes := #[t, t] })
    (base : Nat) (e : TypeId) (i : TypeInfo) (z : Value) (size bytes : Nat) (ht : P.underlying t = some (.slice e)) (hi : P.info? e = some i) (hz : i.zero = some z)
    (hsize : i.size = size) (hby : i.bytes = bytes) (hzs : z.cells.size = size) (hsz : 0 < size)
    (v : Value) (n : Nat) (xs : List Value) (hs : a.eval s = v) (hown : w.ownsRow base e size v n xs)
    (base2 : Nat) (v2 : Value) (n2 : Nat) (xs2 : List Value) (hx : a.eval x = v2) (hown2 : w.ownsRow base2 e size v2 n2 xs2) (h1 : ∀ u ∈ xs2, u.oneCell' = true)
    (h63 : n + n2 ≤ maxLen) (hbytes : (n + n2) * bytes ≤ 140737488355328) (hbase : base ≤ w.heap.size)
    (h : ∀ v' w', w'.ownsRow base e size v' (n + n2) (xs ++ xs2) → w.grownBy w' v.ownBlock → (v'.ownBlock = v.ownBlock ∨ v'.ownBlock = some w.heap.size) → wpList P ops Q rest (a.put o.dst v') w') :
    wpList P ops Q (o :: rest) a w := by
  rcases hown2.2 with ⟨rfl, rfl⟩ | ⟨g, cap, cur, rfl, _⟩
  · have hn : xs2 = [] := List.eq_nil_of_length_eq_zero (by simpa using hown2.1)
    subst hn
    exact wpList_append_own_none hgd s x t ho base e i size ht hi v n xs hs hown hx (h v w (by simpa using hown) (World.grownBy.refl _ _) (.inl rfl))
  · exact wpList_append_own_at w hgd s x t ho base e i z size bytes ht hi hz hsize hby hzs hsz v n xs hs hown ⟨g, 0, none⟩ n2 cap xs2 hx hown2.1 (hown2.cells (g := g) rfl) h1 h63 hbytes hbase
      (fun v' w' r1 r2 _ r4 => h v' w' r1 r2 r4)

theorem cellsK_one' (l : List KV) : ∀ u ∈ cellsK l, u.oneCell' = true := by
  intro u hu
  unfold cellsK at hu
  obtain ⟨k, _, hk⟩ := List.mem_flatMap.1 hu
  simp at hk
  rcases hk with rfl | rfl <;> rfl

/-- The keys of numbers. -/
def numK (l : List Int) : List KV := l.map fun n => (kb n, 0)
theorem numK_length (l : List Int) : (numK l).length = l.length := by simp [numK]
theorem numK_snoc {l : List Int} {j : Nat} {n : Int} (h : l[j]? = some n) : numK (l.take (j + 1)) = numK (l.take j) ++ [(kb n, 0)] := by
  rw [List.take_add_one, h]
  simp [numK]
theorem ordF_eq (l : List KV) : ordF l = numK (rise (idxs (once l))) ++ names (once l) ++ syms (once l) := rfl

/-- What holds while the list is built: S, the sorted indexes; j of them are on it. -/
structure OutInv (w0 : World) (S : List Int) (N Y : List KV) (j : Nat) (vo v3 v4 v5 : Value) (wr : World) : Prop where
  out : wr.ownsRow (w0.heap.size + 1) 35 2 vo (numK (S.take j)).length (cellsK (numK (S.take j)))
  r3 : wr.ownsRow (w0.heap.size + 1) 3 1 v3 S.length (ints S)
  r4 : wr.ownsRow (w0.heap.size + 1) 35 2 v4 N.length (cellsK N)
  r5 : wr.ownsRow (w0.heap.size + 1) 35 2 v5 Y.length (cellsK Y)
  a4 : v4.ownBlock = none ∨ v4.ownBlock ≠ vo.ownBlock
  a5 : v5.ownBlock = none ∨ v5.ownBlock ≠ vo.ownBlock
  below : Below w0.heap.size w0 wr
  size : w0.heap.size + 1 ≤ wr.heap.size

section
variable {w0 wr w1 w2 w3 : World} {ks : List KV} {j : Nat} {vo v3 v4 v5 v' : Value} {S : List Int} {N Y : List KV} {o : Obj}
theorem OrdInv.sorted (h : OrdInv w0 ks j v3 v4 v5 wr) (hown : w1.ownsRow (w0.heap.size + 1) 3 1 v3 (idxs (once (ks.take j))).length (ints (rise (idxs (once (ks.take j)))))) (hg : wr.grownBy w1 v3.ownBlock) :
    w1.ownsMap Tryd.prog 35 unitElem w0.heap.size j (SetK (once (ks.take j))) ∧
    w1.ownsRow (w0.heap.size + 1) 35 2 v4 (names (once (ks.take j))).length (cellsK (names (once (ks.take j)))) ∧
    w1.ownsRow (w0.heap.size + 1) 35 2 v5 (syms (once (ks.take j))).length (cellsK (syms (once (ks.take j)))) ∧ Below w0.heap.size w0 w1 ∧ w0.heap.size + 1 ≤ w1.heap.size := by
  obtain ⟨h1, h2, h3, h4, h5, h6, h7⟩ := h
  exact ⟨h1.kept hg (own_low h2 (Nat.lt_succ_self _)), h3.kept hg (own_apart h2 h3 (by decide)), h4.kept hg (own_apart h2 h4 (by decide)), h6.grown hg (by omega) (fun k hk => by have := (h2.lt k hk).1; omega), Nat.le_trans h7 hg.size⟩
theorem OutInv.start {cap : Nat} (h3 : w1.ownsRow (w0.heap.size + 1) 3 1 v3 S.length (ints S)) (h4 : w1.ownsRow (w0.heap.size + 1) 35 2 v4 N.length (cellsK N)) (h5 : w1.ownsRow (w0.heap.size + 1) 35 2 v5 Y.length (cellsK Y))
    (hb : Below w0.heap.size w0 w1) (hs : w0.heap.size + 1 ≤ w1.heap.size) (hown : w2.ownsRow (w0.heap.size + 1) 35 2 (.slice (some ⟨w1.heap.size, 0, none⟩) 0 cap) 0 []) (hg : w1.grownBy w2 none) :
    OutInv w0 S N Y 0 (.slice (some ⟨w1.heap.size, 0, none⟩) 0 cap) v3 v4 v5 w2 := by
  have f : ∀ {v : Value}, v.ownBlock = none ∨ v.ownBlock ≠ none := fun {v} => by cases v.ownBlock <;> simp
  exact ⟨hown, h3.kept hg f, h4.kept hg f, h5.kept hg f, .inr (own_far h4), .inr (own_far h5), hb.grown hg (by omega) (fun k hk => by cases hk), Nat.le_trans hs hg.size⟩
theorem OutInv.next (h : OutInv w0 S N Y j vo v3 v4 v5 w1) (hb : Below w1.heap.size w1 w2) : OutInv w0 S N Y j vo v3 v4 v5 w2 := by
  obtain ⟨h1, h2, h3, h4, h5, h6, h7, h8⟩ := h
  exact ⟨own_below h1 hb, own_below h2 hb, own_below h3 hb, own_below h4 hb, h5, h6, h7.trans (hb.mono (by omega)), Nat.le_trans h8 hb.size⟩
theorem OutInv.step {n : Int} {m : Nat} (h : OutInv w0 S N Y j vo v3 v4 v5 w2) (hn : S[j]? = some n) (hm : (numK (S.take j)).length = m)
    (hown : w3.ownsRow (w0.heap.size + 1) 35 2 v' (m + 1) (cellsK (numK (S.take j)) ++ [.string (kb n), .int .i64 0])) (hg : (w2.alloc o).grownBy w3 vo.ownBlock)
    (hat : v'.ownBlock = vo.ownBlock ∨ v'.ownBlock = some (w2.alloc o).heap.size) : OutInv w0 S N Y (j + 1) v' v3 v4 v5 w3 := by
  subst hm
  obtain ⟨h1, h2, h3, h4, h5, h6, h7, h8⟩ := h
  have e := numK_snoc hn
  refine ⟨by rw [e, List.length_append, cellsK_append, cellsK_one]; exact hown, (h2.alloc o).kept hg (own_apart h1 h2 (by decide)), (h3.alloc o).kept hg h5, (h4.alloc o).kept hg h6, ?_, ?_,
    (h7.alloc h7.size o).grown hg (by have := h7.size; simp; omega) (fun k hk => by have := (h1.lt k hk).1; omega), by have := hg.size; simp at this; omega⟩
  · rcases hat with hat | hat
    · rw [hat]; exact h5
    · rw [hat]; exact .inr (own_far (h3.alloc o))
  · rcases hat with hat | hat
    · rw [hat]; exact h6
    · rw [hat]; exact .inr (own_far (h4.alloc o))
theorem own_shape {w : World} {base : Nat} {e : TypeId} {size n : Nat} {v : Value} {xs : List Value} (h : w.ownsRow base e size v n xs) : ∃ a c, v = .slice a n c := by
  rcases h.2 with ⟨rfl, rfl⟩ | ⟨g, cap, cur, rfl, _⟩
  · exact ⟨none, 0, rfl⟩
  · exact ⟨_, cap, rfl⟩
theorem own_at {w : World} {base : Nat} {e : TypeId} {n : Nat} {ao : Option Addr} {cp k : Nat} {xs : List Value} {u : Value} (h : w.ownsRow base e 1 (.slice ao n cp) n xs) (hu : xs[k]? = some u) :
    ∃ g, ao = some ⟨g, 0, none⟩ ∧ w.cell? ⟨g, k, none⟩ = some u := by
  rcases h.2 with ⟨hv, hn⟩ | ⟨g, cap, cur, hv, _⟩
  · subst hn
    have : xs = [] := List.eq_nil_of_length_eq_zero (by simpa using h.1)
    subst this
    simp at hu
  · simp at hv
    refine ⟨g, hv.1, ?_⟩
    have := h.cells (g := g) (by rw [hv.1]; rfl) k u hu
    have e : (⟨g, 0, none⟩ : Addr).add k = ⟨g, k, none⟩ := by unfold Addr.add; split <;> simp_all
    rw [e] at this
    exact this
end
end Go.Proofs.YtlhgiihooalanaaDoor.Keys
