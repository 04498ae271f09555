/-
  Texts of this seat in build order: PaApp, PaSame, PrMem, LxAlive, LxRw, PrSm.
-/
import Derived.Test.YtinoaajohkafmaaGreatMw04
import Derived.Laws.OwnMore
import Derived.Deep.RegionLaw
import Derived.Test.YtinoaajohkafmaaGreatMw03
import Derived.Laws.BytesArg
import Derived.Lib.SlBytesConst
import Derived.Lib.SmallJoins
import Derived.Test.YtinoaajohkafmaaGreatMw01
/-
  Lists of kids that grow by append; called, choice, attempt.
-/
namespace Go.Proofs.YtinoaajohkafmaaGreat.Pa
open Go Go.RowKit Go.Proofs.YtinoaajohkafmaaGreat.Lx Go.Proofs.YtinoaajohkafmaaGreat.Uni
set_option linter.unusedVariables false
set_option linter.unusedSimpArgs false
attribute [local go_sem ↓] ldK stK alK bdK bsK ldN stN alN bdN bsN
attribute [local irreducible] kcs ncs ncells
attribute [local go_sem] run_alK run_bdK0 run_bdKs run_bdKn run_bdKe run_bsK run_fdK0 run_fdK1 run_fdK2 run_fdK3 run_fdN4 run_alN run_stNg run_ldNg run_bdN0 run_bdN04 run_bdN02 run_bdN01 run_bdN024 run_bdN03 run_bdN0234 run_bsN1 run_bsN2 run_bsN3
structure GrowX (S : Nat → Prop) (lo : Nat) (W : World) (ts : List Tree) (xs : List Nd) (v : Value) : Prop where
  own : W.ownsRow 0 25 5 v ts.length (ncells xs)
  ob : ∀ b, v.ownBlock = some b → lo ≤ b ∧ S b
  rp : Reps (fun b => S b ∧ some b ≠ v.ownBlock) W ts xs
theorem own_keep {w w' : World} {b e size n : Nat} {v : Value} {xs : List Value} (h : w.ownsRow b e size v n xs) (hk : ∀ k, v.ownBlock = some k → w'.heap[k]? = w.heap[k]?) : w'.ownsRow b e size v n xs := by
  refine ⟨h.1, ?_⟩
  rcases h.2 with hn | ⟨g, cap, cur, rfl, hb, hgg, rest⟩
  · exact .inl hn
  · exact .inr ⟨g, cap, cur, rfl, hb, (hk g rfl).trans hgg, rest⟩
theorem GrowX.frame {S S' : Nat → Prop} {lo : Nat} {W w' : World} {ts : List Tree} {xs : List Nd} {v : Value} (G : GrowX S lo W ts xs v) (hk : ∀ b, b < W.heap.size → S b → S' b ∧ w'.heap[b]? = W.heap[b]?) : GrowX S' lo w' ts xs v := by
  have hlt : ∀ b, v.ownBlock = some b → b < W.heap.size := fun b hb => (G.own.lt b hb).2
  exact ⟨own_keep G.own (fun b hb => (hk b (hlt b hb) (G.ob b hb).2).2), fun b hb => ⟨(G.ob b hb).1, (hk b (hlt b hb) (G.ob b hb).2).1⟩,
    Reps.keep (fun b hb hS => ⟨⟨(hk b hb hS.1).1, hS.2⟩, (hk b hb hS.1).2⟩) _ _ G.rp⟩
theorem GrowX.new {S : Nat → Prop} {lo : Nat} {W : World} {ts : List Tree} {xs : List Nd} (h : Reps S W ts xs) (hS : S W.heap.size) (hlo : lo ≤ W.heap.size) {m : Nat} (hm : ts.length = m) (hl : m ≤ 200000) : GrowX S lo (W.alloc (.cells (ncells xs).toArray 25)) ts xs (.slice (some ⟨W.heap.size, 0, none⟩) m m) := by
  obtain ⟨r1, r2⟩ := Row.new (S := S) W xs m (by rw [h.len, hm]) (by unfold maxLen; omega) hS
  refine ⟨by rw [hm]; exact r1, fun b hb => ?_, Reps.keep (fun b hb hS => ⟨⟨hS, ?_⟩, heap_alloc_old _ _ hb⟩) _ _ h⟩
  · simp [Value.ownBlock] at hb; rw [← hb]; exact ⟨hlo, hS⟩
  · simp [Value.ownBlock]; omega
theorem Reps.append {S : Nat → Prop} {w : World} {us : List Tree} {ys : List Nd} (hu : Reps S w us ys) : ∀ {ts : List Tree} {xs : List Nd}, Reps S w ts xs → Reps S w (ts ++ us) (xs ++ ys)
  | [], [], _ => hu
  | t1 :: ts, x1 :: xs, h => by
    unfold Reps at h
    show Reps S w (t1 :: (ts ++ us)) (x1 :: (xs ++ ys))
    unfold Reps
    exact ⟨h.1, Reps.append hu h.2⟩
  | [], _ :: _, h => by unfold Reps at h; exact h.elim
  | _ :: _, [], h => by unfold Reps at h; exact h.elim
theorem grow_src {S : Nat → Prop} {lo : Nat} {W : World} {ts ts2 : List Tree} {xs xs2 : List Nd} {v v2 : Value} (G : GrowX S lo W ts xs v) (h2 : W.ownsRow 0 25 5 v2 ts2.length (ncells xs2)) (r2 : Reps (fun b => S b ∧ some b ≠ v.ownBlock) W ts2 xs2) (hS : ∀ b, W.heap.size ≤ b → S b) (hlo : lo ≤ W.heap.size) (hn : ts.length ≤ 200000) (hn2 : ts2.length ≤ 200000) :
    ∃ a n c w', (Builtin.append_ #[23, 23] 23 #[v, v2]).run Tryz.prog W = .ok (.slice a n c) w' ∧ GrowX S lo w' (ts ++ ts2) (xs ++ xs2) (.slice a n c) ∧ W.grownBy w' v.ownBlock := by
  obtain ⟨i0, hi, hz0, hz1, hz2⟩ := info_parts infoN3
  have fin : ∀ v' w', w'.ownsRow 0 25 5 v' (ts.length + ts2.length) (ncells xs ++ ncells xs2) → W.grownBy w' v.ownBlock → (v'.ownBlock = v.ownBlock ∨ v'.ownBlock = some W.heap.size) → GrowX S lo w' (ts ++ ts2) (xs ++ xs2) v' := fun v' w' h3 h4 h5 => by
    have hk : ∀ b, b < W.heap.size → (S b ∧ some b ≠ v.ownBlock) → (S b ∧ some b ≠ v'.ownBlock) ∧ w'.heap[b]? = W.heap[b]? := fun b hb hS => by
      refine ⟨⟨hS.1, ?_⟩, h4.block b hb hS.2⟩
      rcases h5 with e | e
      · rw [e]; exact hS.2
      · rw [e]; intro h; cases h; omega
    refine ⟨by rw [ncells_append, List.length_append]; exact h3, fun b hb => ?_, ?_⟩
    · rcases h5 with e | e
      · exact G.ob b (e ▸ hb)
      · rw [e] at hb; cases hb; exact ⟨hlo, hS _ (Nat.le_refl _)⟩
    · have a1 := Reps.keep hk _ _ G.rp
      have a2 := Reps.keep hk _ _ r2
      clear G h2 r2 hk h3 h4 h5
      generalize (fun b => S b ∧ some b ≠ v'.ownBlock) = Q at a1 a2 ⊢
      exact Reps.append a2 a1
  have shape : ∀ {v' : Value} {w' : World} {n : Nat} {l : List Value}, w'.ownsRow 0 25 5 v' n l → ∃ a n c, v' = .slice a n c := fun h => by
    rcases h.2 with ⟨rfl, -⟩ | ⟨g, cap, cur, rfl, -⟩
    · exact ⟨_, _, _, rfl⟩
    · exact ⟨_, _, _, rfl⟩
  rcases h2.2 with ⟨rfl, hl⟩ | ⟨g2, cap, cur, rfl, -⟩
  · obtain ⟨a, n, c, rfl⟩ := shape G.own
    have hx : ncells xs2 = [] := List.eq_nil_of_length_eq_zero (by rw [h2.1, hl, Nat.zero_mul])
    refine ⟨a, n, c, W, run_append_owned_none (P := Tryz.prog) (w := W) 0 23 23 25 i0 5 Tryz.underlying23 hi _ _ _ G.own, fin _ _ ?_ (World.grownBy.refl _ _) (.inl rfl), World.grownBy.refl _ _⟩
    rw [hx, List.append_nil, hl]
    exact G.own
  · obtain ⟨v', w', h3, h4, h5, _, h6⟩ := run_append_own_at (P := Tryz.prog) W 0 23 23 25 i0 (.agg (ncs zeroN)) 5 80 Tryz.underlying23 hi hz0 hz1 hz2 zeroN_cells (by decide) v ts.length (ncells xs) G.own ⟨g2, 0, none⟩ ts2.length cap (ncells xs2) h2.1 (h2.cells (g := g2) rfl) (ncells_one xs2) (by unfold maxLen; omega) (by omega) (Nat.zero_le _)
    obtain ⟨a, n, c, rfl⟩ := shape h4
    exact ⟨a, n, c, w', h3, fin _ _ h4 h5 h6, h5⟩
theorem grow_one {S : Nat → Prop} {lo : Nat} {W : World} {ts : List Tree} {xs : List Nd} {v : Value} (G : GrowX S lo W ts xs v) {T : Tree} {N : Nd} (hT : Rep (fun b => S b ∧ some b ≠ v.ownBlock) W T N) (hS : ∀ b, W.heap.size ≤ b → S b) (hlo : lo ≤ W.heap.size) (hn : ts.length ≤ 200000) :
    ∃ a n c w', (Builtin.append_ #[23, 23] 23 #[v, .slice (some ⟨W.heap.size, 0, none⟩) 1 1]).run Tryz.prog (W.alloc (.cells (ncells [N]).toArray 25)) = .ok (.slice a n c) w' ∧ GrowX S lo w' (ts ++ [T]) (xs ++ [N]) (.slice a n c) ∧ (W.alloc (.cells (ncells [N]).toArray 25)).grownBy w' v.ownBlock := by
  have hrow := (Row.new (S := fun _ => True) W [N] 1 rfl (by unfold maxLen; omega) trivial).1
  refine grow_src (ts2 := [T]) (xs2 := [N]) (G.frame (w' := W.alloc (.cells (ncells [N]).toArray 25)) fun b hb h => ⟨h, heap_alloc_old _ _ hb⟩) hrow ?_ (fun b hb => hS b (by simp at hb; omega)) (by simp; omega) hn (by simp)
  unfold Reps
  exact ⟨Rep.keep (fun b hb h => ⟨h, heap_alloc_old _ _ hb⟩) _ _ hT, by unfold Reps; trivial⟩
theorem own_up {w : World} {b b' e size n : Nat} {v : Value} {xs : List Value} (h : w.ownsRow b e size v n xs) (hb : ∀ k, v.ownBlock = some k → b' ≤ k) : w.ownsRow b' e size v n xs := by
  refine ⟨h.1, ?_⟩
  rcases h.2 with hn | ⟨g, cap, cur, hv, hg, rest⟩
  · exact .inl hn
  · exact .inr ⟨g, cap, cur, hv, hb g (by rw [hv]; rfl), rest⟩
section
variable {g d : Nat} {s : PS} {S0 : Nat → Prop} {w0 W : World} {bs : List (Nat × Nd)} {vs : List (Tree × Nd)}
end
theorem step_app {P : Program} {ops : Array Oper} {o : Oper} {a : Act} {w w' : World} {K : Act → World → Prop} {Q : Exit → Act → World → Prop} {E : Prop} (hg : o.guard = none) (s x : Operand) (t : TypeId) (hop : o.op = Op.call { callee := Callee.builtin Builtin.append, args := #[s, x], argTypes := #[t, t] }) (ht : o.type = t)
    (v1 v2 v' : Value) (hs : a.eval s = v1) (hx : a.eval x = v2) (hrun : (Builtin.append_ #[t, t] t #[v1, v2]).run P w = .ok v' w') (hK : K (a.put o.dst v') w') : if Region.wanted o (yielded ops a.tmps) = true then Oper.wp P o a w K Q else E := by
  have hw : Region.wanted o (yielded ops a.tmps) = true := by simp [Region.wanted, hg]
  rw [if_pos hw]
  subst ht
  unfold Oper.wp
  simp [execOp, hop, resolve, invoke, builtin, hs, hx, hrun, Result.andThen]
  exact hK
theorem run_stNk {W : World} {b : Nat} (hb : b = W.heap.size) (o r : Nd) : (Lx.St 25 (.pointer (some ⟨b, 0, none⟩)) (.agg (ncs r))).run Tryz.prog (W.alloc (.cells (ncs o) 25)) = .ok () (W.alloc (.cells (ncs r) 25)) := by
  subst hb
  exact run_stNg W r o
section
variable {g d : Nat} {s : PS} {S0 : Nat → Prop} {w0 W : World} {bs : List (Nat × Nd)} {vs : List (Tree × Nd)}
theorem GrowX.alloc {S : Nat → Prop} {lo : Nat} {ts : List Tree} {xs : List Nd} {v : Value} (G : GrowX S lo W ts xs v) (o : Obj) : GrowX S lo (W.alloc o) ts xs v := G.frame fun b hb hS => ⟨hS, heap_alloc_old _ _ hb⟩
theorem GrowX.local {ts : List Tree} {xs : List Nd} {v : Value} (G : GrowX (Own S0 w0.heap.size (bs.map Prod.fst)) w0.heap.size W ts xs v) (N : Nd) {b : Nat} (hb : b = W.heap.size) : GrowX (Own S0 w0.heap.size (((b, N) :: bs).map Prod.fst)) w0.heap.size (W.alloc (.cells (ncs N) 25)) ts xs v :=
  G.frame fun c hc hS => ⟨⟨hS.1, fun hm => by
    rw [List.map_cons, List.mem_cons] at hm
    rcases hm with h | h
    · have h' : c = b := h
      omega
    · exact hS.2 h⟩, heap_alloc_old _ _ hc⟩
end
end Go.Proofs.YtinoaajohkafmaaGreat.Pa

/-
  Trees: how great; kids at their places.
-/
namespace Go.Proofs.YtinoaajohkafmaaGreat.Pa
open Go Go.RowKit Go.Proofs.YtinoaajohkafmaaGreat.Lx Go.Proofs.YtinoaajohkafmaaGreat.Uni
set_option linter.unusedVariables false
set_option linter.unusedSimpArgs false
mutual
def Tree.sz : Tree → Nat
  | .mk _ _ _ _ ks => 1 + szs ks
def szs : List Tree → Nat
  | [] => 0
  | a :: l => a.sz + szs l
end
theorem szs_at : ∀ {ts : List Tree} {i : Nat} {t : Tree}, ts[i]? = some t → t.sz ≤ szs ts
  | [], i, t, h => by simp at h
  | a :: l, 0, t, h => by
    simp at h; subst h
    unfold szs; omega
  | a :: l, i + 1, t, h => by
    simp at h
    have := szs_at h
    unfold szs; omega
theorem ncells_at : ∀ {xs : List Nd} {i : Nat} {x : Nd} {j : Nat} {v : Value}, xs[i]? = some x → (ncs x).toList[j]? = some v → (ncells xs)[i * 5 + j]? = some v
  | [], i, x, j, v, h, _ => by simp at h
  | a :: l, 0, x, j, v, h, k => by
    simp at h; subst h
    have e : ncells (a :: l) = (ncs a).toList ++ ncells l := rfl
    rw [e, List.getElem?_append_left (by have := (List.getElem?_eq_some_iff.1 k).1; omega), Nat.zero_mul, Nat.zero_add]
    exact k
  | a :: l, i + 1, x, j, v, h, k => by
    simp at h
    have e : ncells (a :: l) = (ncs a).toList ++ ncells l := rfl
    rw [e, List.getElem?_append_right (by rw [ncs_list]; omega), ncs_list, show (i + 1) * 5 + j - 5 = i * 5 + j from by omega]
    exact ncells_at h k
theorem run_ldNm {w : World} {b o : Nat} {t : Nd} (h : w.rangeAt b o (ncs t).toList) : (Ld 25 (.pointer (some ⟨b, o, none⟩))).run Tryz.prog w = .ok (.agg (ncs t)) w := by
  have := run_loadAt_mid (P := Tryz.prog) w b o 25 (ncs t).toList _ h Tryz.underlying25 rfl sizeN
  simpa [Ld] using this
end Go.Proofs.YtinoaajohkafmaaGreat.Pa

/-
  Trees that one reads: where their parts lie does not matter, nor who owns them.
-/
namespace Go.Proofs.YtinoaajohkafmaaGreat.Pr
open Go Go.RowKit Go.Proofs.YtinoaajohkafmaaGreat.Lx Go.Proofs.YtinoaajohkafmaaGreat.Pa Go.Proofs.YtinoaajohkafmaaGreat.Uni
set_option linter.unusedVariables false
set_option linter.unusedSimpArgs false
def NdAt (w : World) (b o : Nat) (N : Nd) : Prop := ∀ j v, (ncs N).toList[j]? = some v → w.cell? ⟨b, o + j, none⟩ = some v
def Lst (w : World) (s : Sl) (xs : List Nd) : Prop := s.n = xs.length ∧ xs.length ≤ s.c ∧ s.c ≤ maxLen ∧ ∀ j x, xs[j]? = some x → ∃ b o, s.a = some ⟨b, o, none⟩ ∧ b < w.heap.size ∧ NdAt w b (o + j * 5) x
def Txs (w : World) (s : Sl) (ns : List ByteArray) : Prop := s.n = ns.length ∧ ns.length ≤ s.c ∧ s.c ≤ maxLen ∧ ∀ j x, ns[j]? = some x → ∃ b o, s.a = some ⟨b, o, none⟩ ∧ b < w.heap.size ∧ w.cell? ⟨b, o + j, none⟩ = some (.string x)
mutual
def Rd (w : World) : Tree → Nd → Prop
  | .mk k n t ns ks, N => N.kind = k ∧ N.num = n ∧ N.text = t ∧ Txs w N.names ns ∧ ∃ xs, Lst w N.kids xs ∧ Rds w ks xs
def Rds (w : World) : List Tree → List Nd → Prop
  | [], [] => True
  | t :: ts, x :: xs => Rd w t x ∧ Rds w ts xs
  | _, _ => False
end
def Kept (w w' : World) : Prop := ∀ b, b < w.heap.size → w'.heap[b]? = w.heap[b]?
theorem kept_below {w w' : World} (h : Below w.heap.size w w') : Kept w w' := fun b hb => h.block b hb
theorem kept_cell {w w' : World} (h : Kept w w') {b i : Nat} (hb : b < w.heap.size) {v : Value} (hc : w.cell? ⟨b, i, none⟩ = some v) : w'.cell? ⟨b, i, none⟩ = some v := by
  have e := h b hb
  unfold World.cell? at hc ⊢
  rw [e]
  exact hc
theorem kept_lt {w w' : World} (h : Kept w w') {b : Nat} (hb : b < w.heap.size) : b < w'.heap.size := by
  have e := h b hb
  rw [Array.getElem?_eq_getElem hb] at e
  exact (Array.getElem?_eq_some_iff.1 e).1
theorem NdAt.kept {w w' : World} (h : Kept w w') {b o : Nat} (hb : b < w.heap.size) {N : Nd} (hn : NdAt w b o N) : NdAt w' b o N := fun j v hv => kept_cell h hb (hn j v hv)
theorem Lst.kept {w w' : World} (h : Kept w w') {s : Sl} {xs : List Nd} (hl : Lst w s xs) : Lst w' s xs := by
  refine ⟨hl.1, hl.2.1, hl.2.2.1, fun j x hx => ?_⟩
  obtain ⟨b, o, h1, h2, h3⟩ := hl.2.2.2 j x hx
  exact ⟨b, o, h1, kept_lt h h2, h3.kept h h2⟩
theorem Txs.kept {w w' : World} (h : Kept w w') {s : Sl} {xs : List ByteArray} (hl : Txs w s xs) : Txs w' s xs := by
  refine ⟨hl.1, hl.2.1, hl.2.2.1, fun j x hx => ?_⟩
  obtain ⟨b, o, h1, h2, h3⟩ := hl.2.2.2 j x hx
  exact ⟨b, o, h1, kept_lt h h2, kept_cell h h2 h3⟩
mutual
theorem Rd.kept {w w' : World} (h : Kept w w') : ∀ (t : Tree) (N : Nd), Rd w t N → Rd w' t N
  | .mk k n t ns ks, N, r => by
    unfold Rd at r ⊢
    obtain ⟨h1, h2, h3, h4, xs, h5, h6⟩ := r
    exact ⟨h1, h2, h3, h4.kept h, xs, h5.kept h, Rds.kept h ks xs h6⟩
theorem Rds.kept {w w' : World} (h : Kept w w') : ∀ (ts : List Tree) (xs : List Nd), Rds w ts xs → Rds w' ts xs
  | [], [], _ => by unfold Rds; trivial
  | t :: ts, x :: xs, r => by
    unfold Rds at r ⊢
    exact ⟨Rd.kept h t x r.1, Rds.kept h ts xs r.2⟩
  | [], _ :: _, r => by unfold Rds at r; exact r.elim
  | _ :: _, [], r => by unfold Rds at r; exact r.elim
end
theorem Rd.below {w w' : World} {T : Tree} {N : Nd} (r : Rd w T N) (h : Below w.heap.size w w') : Rd w' T N := Rd.kept (kept_below h) _ _ r
theorem Rds.len {w : World} : ∀ {ts : List Tree} {xs : List Nd}, Rds w ts xs → xs.length = ts.length
  | [], [], _ => rfl
  | t :: ts, x :: xs, h => by
    unfold Rds at h
    simp only [List.length_cons]
    rw [Rds.len h.2]
  | [], _ :: _, h => by unfold Rds at h; exact h.elim
  | _ :: _, [], h => by unfold Rds at h; exact h.elim
theorem Rds.at {w : World} : ∀ {ts : List Tree} {xs : List Nd} {i : Nat} {t : Tree}, Rds w ts xs → ts[i]? = some t → ∃ x, xs[i]? = some x ∧ Rd w t x
  | [], _, i, t, _, h => by simp at h
  | t1 :: ts, [], i, t, h, _ => by unfold Rds at h; exact h.elim
  | t1 :: ts, x1 :: xs, 0, t, h, k => by
    unfold Rds at h
    simp at k; subst k
    exact ⟨x1, rfl, h.1⟩
  | t1 :: ts, x1 :: xs, i + 1, t, h, k => by
    unfold Rds at h
    simp at k
    obtain ⟨x, h3, h4⟩ := Rds.at h.2 k
    exact ⟨x, h3, h4⟩
theorem Lst.where {w : World} {s : Sl} {xs : List Nd} (h : Lst w s xs) (hn : 0 < xs.length) : ∃ b o, s = ⟨some ⟨b, o, none⟩, xs.length, s.c⟩ ∧ b < w.heap.size ∧ xs.length ≤ s.c ∧ s.c ≤ maxLen ∧ ∀ j x, xs[j]? = some x → NdAt w b (o + j * 5) x := by
  obtain ⟨x0, hx0⟩ : ∃ x, xs[0]? = some x := ⟨_, List.getElem?_eq_getElem hn⟩
  obtain ⟨b, o, h1, h2, -⟩ := h.2.2.2 _ _ hx0
  refine ⟨b, o, ?_, h2, h.2.1, h.2.2.1, fun j x hx => ?_⟩
  · rcases s with ⟨a, n, c⟩
    have e1 := h.1
    simp only at e1 h1 ⊢
    rw [e1, h1]
  · obtain ⟨b', o', h3, h4, h5⟩ := h.2.2.2 _ _ hx
    rw [h1] at h3
    cases h3
    exact h5
theorem Txs.where {w : World} {s : Sl} {xs : List ByteArray} (h : Txs w s xs) (hn : 0 < xs.length) : ∃ b o, s = ⟨some ⟨b, o, none⟩, xs.length, s.c⟩ ∧ b < w.heap.size ∧ xs.length ≤ s.c ∧ s.c ≤ maxLen ∧ ∀ j x, xs[j]? = some x → w.cell? ⟨b, o + j, none⟩ = some (.string x) := by
  obtain ⟨x0, hx0⟩ : ∃ x, xs[0]? = some x := ⟨_, List.getElem?_eq_getElem hn⟩
  obtain ⟨b, o, h1, h2, -⟩ := h.2.2.2 _ _ hx0
  refine ⟨b, o, ?_, h2, h.2.1, h.2.2.1, fun j x hx => ?_⟩
  · rcases s with ⟨a, n, c⟩
    have e1 := h.1
    simp only at e1 h1 ⊢
    rw [e1, h1]
  · obtain ⟨b', o', h3, h4, h5⟩ := h.2.2.2 _ _ hx
    rw [h1] at h3
    cases h3
    exact h5
theorem NdAt.ld {w : World} {b o : Nat} {N : Nd} (h : NdAt w b o N) : (Ld 25 (.pointer (some ⟨b, o, none⟩))).run Tryz.prog w = .ok (.agg (ncs N)) w := run_ldNm h
theorem row_txs {S : Nat → Prop} {w : World} {s : Sl} {n : Nat} {ns : List ByteArray} (h : Row S w 9 1 s n (ns.map Value.string)) (hn : ns.length = n) : Txs w s ns := by
  subst hn
  have hc := fun g => World.ownsRow.cells h.1 (g := g)
  rcases h.1.2 with ⟨h1, h2⟩ | ⟨g, cap, cur, h1, h2, h3, h4, h5, -⟩
  · unfold Sl.v at h1
    rcases s with ⟨a, n', c⟩
    simp at h1
    obtain ⟨rfl, rfl, rfl⟩ := h1
    have : ns = [] := List.eq_nil_of_length_eq_zero h2
    subst this
    exact ⟨rfl, Nat.zero_le _, Nat.zero_le _, fun j x hx => by simp at hx⟩
  · have hs : s = ⟨some ⟨g, 0, none⟩, ns.length, cap⟩ := by
      rcases s with ⟨a, n', c⟩
      unfold Sl.v at h1
      simp at h1
      obtain ⟨rfl, rfl, rfl⟩ := h1
      rfl
    subst hs
    refine ⟨rfl, h4, h5, fun j x hx => ⟨g, 0, rfl, (Array.getElem?_eq_some_iff.1 h3).1, ?_⟩⟩
    have := hc g (by rw [h1]; rfl) j (.string x) (by simp [hx])
    have e : (⟨g, 0, none⟩ : Addr).add j = ⟨g, 0 + j, none⟩ := by unfold Addr.add; split <;> simp_all
    rwa [e] at this
theorem row_lst {S : Nat → Prop} {w : World} {s : Sl} {n : Nat} {xs : List Nd} (h : Row S w 25 5 s n (ncells xs)) (hn : xs.length = n) : Lst w s xs := by
  subst hn
  have hc := fun g => World.ownsRow.cells h.1 (g := g)
  rcases h.1.2 with ⟨h1, h2⟩ | ⟨g, cap, cur, h1, h2, h3, h4, h5, -⟩
  · unfold Sl.v at h1
    rcases s with ⟨a, n', c⟩
    simp at h1
    obtain ⟨rfl, rfl, rfl⟩ := h1
    have : xs = [] := List.eq_nil_of_length_eq_zero h2
    subst this
    exact ⟨rfl, Nat.zero_le _, Nat.zero_le _, fun j x hx => by simp at hx⟩
  · have hs : s = ⟨some ⟨g, 0, none⟩, xs.length, cap⟩ := by
      rcases s with ⟨a, n', c⟩
      unfold Sl.v at h1
      simp at h1
      obtain ⟨rfl, rfl, rfl⟩ := h1
      rfl
    subst hs
    refine ⟨rfl, h4, h5, fun j x hx => ⟨g, 0, rfl, (Array.getElem?_eq_some_iff.1 h3).1, fun i v hv => ?_⟩⟩
    have := hc g (by rw [h1]; rfl) (j * 5 + i) v (ncells_at hx hv)
    have e : (⟨g, 0, none⟩ : Addr).add (j * 5 + i) = ⟨g, 0 + j * 5 + i, none⟩ := by unfold Addr.add; split <;> simp_all [Nat.zero_add]
    rwa [e] at this
mutual
theorem rep_rd {S : Nat → Prop} {w : World} : ∀ (t : Tree) (N : Nd), Rep S w t N → Rd w t N
  | .mk k n t ns ks, N, r => by
    unfold Rep at r
    unfold Rd
    obtain ⟨h1, h2, h3, h4, xs, h5, h6⟩ := r
    exact ⟨h1, h2, h3, row_txs h4 rfl, xs, row_lst h5 (Reps.len h6), reps_rd ks xs h6⟩
theorem reps_rd {S : Nat → Prop} {w : World} : ∀ (ts : List Tree) (xs : List Nd), Reps S w ts xs → Rds w ts xs
  | [], [], _ => by unfold Rds; trivial
  | t :: ts, x :: xs, r => by
    unfold Reps at r
    unfold Rds
    exact ⟨rep_rd t x r.1, reps_rd ts xs r.2⟩
  | [], _ :: _, r => by unfold Reps at r; exact r.elim
  | _ :: _, [], r => by unfold Reps at r; exact r.elim
end
end Go.Proofs.YtinoaajohkafmaaGreat.Pr

/-
  The document's example; what lies in a list of tokens.
-/
namespace Go.Proofs.YtinoaajohkafmaaGreat.Lx
open Go Go.RowKit Go.Proofs.YtinoaajohkafmaaGreat.Uni
set_option linter.unusedVariables false
set_option linter.unusedSimpArgs false
end Go.Proofs.YtinoaajohkafmaaGreat.Lx

/-
  The reference's Word and Named.
-/
namespace Go.Proofs.YtinoaajohkafmaaGreat.Lx
open Go Go.RowKit Go.Proofs.YtinoaajohkafmaaGreat.Uni
set_option linter.unusedVariables false
set_option linter.unusedSimpArgs false
def strs (l : List By) : List Value := l.map fun s => Value.string (bs s)
theorem infoS : (Tryz.prog.info? 9).map (fun i => (i.zero, i.size, i.bytes)) = some (some (.string ⟨#[]⟩), 1, 16) := by kernel_rfl
def BsS (n : Nat) (ps : Array (Nat × Value)) : Sem Value := Instr.buildSlice 22 n ps
theorem bs22 (ps : Array (Nat × Value)) : Instr.buildSlice 22 22 ps = BsS 22 ps := (rfl)
theorem bs25 (ps : Array (Nat × Value)) : Instr.buildSlice 22 25 ps = BsS 25 ps := (rfl)
def used_cs : Array Value := (strs used).toArray
theorem run_used (w : World) : (BsS 22 #[(0, .string ⟨#[98, 114, 101, 97, 107]⟩), (1, .string ⟨#[99, 97, 116, 99, 104]⟩), (2, .string ⟨#[99, 111, 110, 115, 116]⟩), (3, .string ⟨#[99, 111, 110, 116, 105, 110, 117, 101]⟩), (4, .string ⟨#[100, 101, 108, 101, 116, 101]⟩), (5, .string ⟨#[101, 108, 115, 101]⟩), (6, .string ⟨#[102, 97, 108, 115, 101]⟩), (7, .string ⟨#[102, 105, 110, 97, 108, 108, 121]⟩), (8, .string ⟨#[102, 117, 110, 99, 116, 105, 111, 110]⟩), (9, .string ⟨#[105, 102]⟩), (10, .string ⟨#[105, 110]⟩), (11, .string ⟨#[108, 101, 116]⟩), (12, .string ⟨#[110, 101, 119]⟩), (13, .string ⟨#[110, 117, 108, 108]⟩), (14, .string ⟨#[114, 101, 116, 117, 114, 110]⟩), (15, .string ⟨#[116, 104, 105, 115]⟩), (16, .string ⟨#[116, 104, 114, 111, 119]⟩), (17, .string ⟨#[116, 114, 117, 101]⟩), (18, .string ⟨#[116, 114, 121]⟩), (19, .string ⟨#[116, 121, 112, 101, 111, 102]⟩), (20, .string ⟨#[117, 110, 100, 101, 102, 105, 110, 101, 100]⟩), (21, .string ⟨#[119, 104, 105, 108, 101]⟩)]).run Tryz.prog w = .ok (.slice (some ⟨w.heap.size, 0, none⟩) 22 22) (w.alloc (.cells used_cs 9)) := by
  obtain ⟨i, hi, hz, hs, hb⟩ := info_parts infoS
  exact run_buildSlice w 22 9 22 _ used_cs i (.string ⟨#[]⟩) Tryz.underlying22 hi hz (by rw [hs]; decide) (by rw [hs]; decide) (by rw [hs]; kernel_rfl)
def unused_cs : Array Value := (strs unused).toArray
theorem run_unused (w : World) : (BsS 25 #[(0, .string ⟨#[97, 119, 97, 105, 116]⟩), (1, .string ⟨#[99, 97, 115, 101]⟩), (2, .string ⟨#[99, 108, 97, 115, 115]⟩), (3, .string ⟨#[100, 101, 98, 117, 103, 103, 101, 114]⟩), (4, .string ⟨#[100, 101, 102, 97, 117, 108, 116]⟩), (5, .string ⟨#[100, 111]⟩), (6, .string ⟨#[101, 110, 117, 109]⟩), (7, .string ⟨#[101, 120, 112, 111, 114, 116]⟩), (8, .string ⟨#[101, 120, 116, 101, 110, 100, 115]⟩), (9, .string ⟨#[102, 111, 114]⟩), (10, .string ⟨#[105, 109, 112, 108, 101, 109, 101, 110, 116, 115]⟩), (11, .string ⟨#[105, 109, 112, 111, 114, 116]⟩), (12, .string ⟨#[105, 110, 115, 116, 97, 110, 99, 101, 111, 102]⟩), (13, .string ⟨#[105, 110, 116, 101, 114, 102, 97, 99, 101]⟩), (14, .string ⟨#[112, 97, 99, 107, 97, 103, 101]⟩), (15, .string ⟨#[112, 114, 105, 118, 97, 116, 101]⟩), (16, .string ⟨#[112, 114, 111, 116, 101, 99, 116, 101, 100]⟩), (17, .string ⟨#[112, 117, 98, 108, 105, 99]⟩), (18, .string ⟨#[115, 116, 97, 116, 105, 99]⟩), (19, .string ⟨#[115, 117, 112, 101, 114]⟩), (20, .string ⟨#[115, 119, 105, 116, 99, 104]⟩), (21, .string ⟨#[118, 97, 114]⟩), (22, .string ⟨#[118, 111, 105, 100]⟩), (23, .string ⟨#[119, 105, 116, 104]⟩), (24, .string ⟨#[121, 105, 101, 108, 100]⟩)]).run Tryz.prog w = .ok (.slice (some ⟨w.heap.size, 0, none⟩) 25 25) (w.alloc (.cells unused_cs 9)) := by
  obtain ⟨i, hi, hz, hs, hb⟩ := info_parts infoS
  exact run_buildSlice w 22 9 25 _ unused_cs i (.string ⟨#[]⟩) Tryz.underlying22 hi hz (by rw [hs]; decide) (by rw [hs]; decide) (by rw [hs]; kernel_rfl)
theorem cs_at {w : World} {o : Nat} {cs : Array Value} {ws : List By} (hcs : cs = (strs ws).toArray) (h : Blk w o cs 9) : ∀ k, k < ws.length → w.cell? ⟨o, k, none⟩ = some (.string (bs (ws.getD k []))) := fun k hk => by
  subst hcs
  rw [h.cell]
  simp [strs, hk]
theorem used_at {w : World} {o : Nat} (h : Blk w o used_cs 9) : ∀ k, k < 22 → w.cell? ⟨o, k, none⟩ = some (.string (bs (used.getD k []))) := cs_at rfl h
theorem unused_at {w : World} {o : Nat} (h : Blk w o unused_cs 9) : ∀ k, k < 25 → w.cell? ⟨o, k, none⟩ = some (.string (bs (unused.getD k []))) := cs_at rfl h
attribute [local go_sem ↓] bs22 bs25
attribute [local irreducible] used_cs unused_cs
attribute [local go_sem] run_used run_unused
theorem tl_bs (l : By) : (bs l).toList = l := by rw [ByteArray.toList_eq, bs_list]
set_option maxHeartbeats 2000000 in
theorem has_any (b n : Nat) (ws : List By) (s : ByteArray) (w : World) (hn : ws.length = n) (hn2 : n ≤ 1000) (hc : ∀ k, k < n → w.cell? ⟨b, k, none⟩ = some (.string (bs (ws.getD k [])))) :
    Calls Tryz.prog 53 #[.slice (some ⟨b, 0, none⟩) n n, .string s] w fun e w' => e = .returned (.bool (decide (s.toList ∈ ws))) ∧ w = w' := by
  have HN := Lib.hid hn
  have hni : (n : Int) ≤ 1000 := by omega
  clear hn
  go_enter Tryz.func53, Tryz.ntmps53
  go_wp2
  go_loopw [5] (fun v wr => ∃ k : Nat, v = .int .i64 (k : Int) ∧ k ≤ n ∧ wr = w ∧ Hid (∀ j, j < k → ws.getD j [] ≠ s.toList)) (fun v _ => n - (intOf v).toNat)
  case atStart => exact ⟨0, rfl, by omega, rfl, Lib.hid (fun j hj => by omega)⟩
  case round =>
    obtain ⟨k, rfl, hk, rfl, hno⟩ := hrel
    by_cases hlt : k < n
    · have hki : (k : Int) < n := by omega
      have hck := hc k hlt
      obtain ⟨u, hu⟩ : ∃ u, bs (ws.getD k []) = u := ⟨_, rfl⟩
      have hul : u.toList = ws.getD k [] := by rw [← hu, tl_bs]
      rw [hu] at hck
      by_cases heq : u.toList = s.toList
      · have hb : (u.toList == s.toList) = true := by simpa using heq
        have hm : decide (s.toList ∈ ws) = true := by
          rw [decide_eq_true_eq, ← heq, hul, List.getD_eq_getElem?_getD, List.getElem?_eq_getElem (by have := HN.out; omega)]
          exact List.getElem_mem _
        have HM := Lib.hid hm
        clear hm heq hul hu hc
        go_wp2
        go_ret
        exact ⟨by rw [HM.out]; rfl, rfl⟩
      · have hb : (u.toList == s.toList) = false := by simpa using heq
        have hno2 : ∀ j, j < k + 1 → ws.getD j [] ≠ s.toList := fun j hj => by
          by_cases e : j = k
          · subst e; rw [← hul]; exact heq
          · exact hno.out j (by omega)
        have HN2 := Lib.hid hno2
        clear hno2 heq hul hu hc
        go_wp2
        go_roundw
        case rel => exact ⟨k + 1, by go_num, by omega, trivial, HN2⟩
        case measure => simp [intOf]; omega
    · obtain rfl : k = n := by omega
      have hm : decide (s.toList ∈ ws) = false := by
        rw [decide_eq_false_iff_not]
        intro h
        obtain ⟨j, hj, he⟩ := List.getElem_of_mem h
        refine hno.out j (by have := HN.out; omega) ?_
        rw [List.getD_eq_getElem?_getD, List.getElem?_eq_getElem hj]
        exact he
      have HM := Lib.hid hm
      clear hm hc
      go_wp2
      go_ret
      exact ⟨by rw [HM.out]; rfl, rfl⟩
set_option maxRecDepth 100000 in
set_option maxHeartbeats 2000000 in
theorem rword_any (s : ByteArray) (w : World) : Calls Tryz.prog 59 #[.string s] w fun e w' => e = .returned (.int .i64 (wordF s.toList : Nat)) ∧ Below w.heap.size w w' := by
  have h1 := has_any w.heap.size 22 used s (w.alloc (.cells used_cs 9)) (by decide) (by decide) (used_at (Blk.new w _ _))
  have h2 := has_any (w.heap.size + 1) 25 unused s ((w.alloc (.cells used_cs 9)).alloc (.cells unused_cs 9)) (by decide) (by decide) (unused_at (blk_newg (by simp)))
  by_cases m1 : s.toList ∈ used
  · have e : wordF s.toList = 1 := if_pos m1
    rw [decide_eq_true m1] at h1
    rw [e]
    clear m1 e h2
    go_enter Tryz.func59, Tryz.ntmps59
    go_wp2_with (go_at_call 53; refine h1.mono ?_; rintro e w1 ⟨rfl, rfl⟩)
    go_ret
    exact ⟨rfl, bel1⟩
  · rw [decide_eq_false m1] at h1
    by_cases m2 : s.toList ∈ unused
    · have e : wordF s.toList = 2 := by unfold wordF; rw [if_neg m1, if_pos m2]
      rw [decide_eq_true m2] at h2
      rw [e]
      clear m1 m2 e
      go_enter Tryz.func59, Tryz.ntmps59
      go_wp2_with (first | (go_at_call 53; (with_reducible refine h1.mono ?_); rintro e w1 ⟨rfl, rfl⟩) | (go_at_call 53; (with_reducible refine h2.mono ?_); rintro e w1 ⟨rfl, rfl⟩))
      go_ret
      exact ⟨rfl, bl_alloc bel1⟩
    · have e : wordF s.toList = 0 := by unfold wordF; rw [if_neg m1, if_neg m2]
      rw [decide_eq_false m2] at h2
      rw [e]
      clear m1 m2 e
      go_enter Tryz.func59, Tryz.ntmps59
      go_wp2_with (first | (go_at_call 53; (with_reducible refine h1.mono ?_); rintro e w1 ⟨rfl, rfl⟩) | (go_at_call 53; (with_reducible refine h2.mono ?_); rintro e w1 ⟨rfl, rfl⟩))
      go_ret
      exact ⟨rfl, bl_alloc bel1⟩
theorem rlead_0 (p : Nat) (w : World) (h : 97 ≤ p ∧ p ≤ 122) : Calls Tryz.prog 57 #[.int .u8 (p : Int)] w fun e w' => e = .returned (.bool (leadN p)) ∧ w = w' := by
  have f0 : decide (97 ≤ (p : Int)) = true := by simp; omega
  have f1 : decide ((p : Int) ≤ 122) = true := by simp; omega
  go_enter Tryz.func57, Tryz.ntmps57
  go_wp2
  go_ret
  exact ⟨ret_b (by simp [digitN, leadN]; try omega), rfl⟩
theorem rlead_1 (p : Nat) (w : World) (h : 122 < p) : Calls Tryz.prog 57 #[.int .u8 (p : Int)] w fun e w' => e = .returned (.bool (leadN p)) ∧ w = w' := by
  have f0 : decide (97 ≤ (p : Int)) = true := by simp; omega
  have f1 : decide ((p : Int) ≤ 122) = false := by simp; omega
  have f2 : decide (65 ≤ (p : Int)) = true := by simp; omega
  have f3 : decide ((p : Int) ≤ 90) = false := by simp; omega
  have f4 : ((p : Int) == 95) = false := by simp; omega
  have f5 : ((p : Int) == 36) = false := by simp; omega
  go_enter Tryz.func57, Tryz.ntmps57
  go_wp2
  go_ret
  exact ⟨ret_b (by simp [digitN, leadN]; try omega), rfl⟩
theorem rlead_2 (p : Nat) (w : World) (h : 65 ≤ p ∧ p ≤ 90) : Calls Tryz.prog 57 #[.int .u8 (p : Int)] w fun e w' => e = .returned (.bool (leadN p)) ∧ w = w' := by
  have f0 : decide (97 ≤ (p : Int)) = false := by simp; omega
  have f1 : decide (65 ≤ (p : Int)) = true := by simp; omega
  have f2 : decide ((p : Int) ≤ 90) = true := by simp; omega
  go_enter Tryz.func57, Tryz.ntmps57
  go_wp2
  go_ret
  exact ⟨ret_b (by simp [digitN, leadN]; try omega), rfl⟩
theorem rlead_3 (p : Nat) (w : World) (h : p = 95) : Calls Tryz.prog 57 #[.int .u8 (p : Int)] w fun e w' => e = .returned (.bool (leadN p)) ∧ w = w' := by
  have f0 : decide (97 ≤ (p : Int)) = false := by simp; omega
  have f1 : decide (65 ≤ (p : Int)) = true := by simp; omega
  have f2 : decide ((p : Int) ≤ 90) = false := by simp; omega
  have f3 : ((p : Int) == 95) = true := by simp; omega
  go_enter Tryz.func57, Tryz.ntmps57
  go_wp2
  go_ret
  exact ⟨ret_b (by simp [digitN, leadN]; try omega), rfl⟩
theorem rlead_4 (p : Nat) (w : World) (h : 90 < p ∧ p < 97 ∧ p ≠ 95) : Calls Tryz.prog 57 #[.int .u8 (p : Int)] w fun e w' => e = .returned (.bool (leadN p)) ∧ w = w' := by
  have f0 : decide (97 ≤ (p : Int)) = false := by simp; omega
  have f1 : decide (65 ≤ (p : Int)) = true := by simp; omega
  have f2 : decide ((p : Int) ≤ 90) = false := by simp; omega
  have f3 : ((p : Int) == 95) = false := by simp; omega
  have f4 : ((p : Int) == 36) = false := by simp; omega
  go_enter Tryz.func57, Tryz.ntmps57
  go_wp2
  go_ret
  exact ⟨ret_b (by simp [digitN, leadN]; try omega), rfl⟩
theorem rlead_5 (p : Nat) (w : World) (h : p = 36) : Calls Tryz.prog 57 #[.int .u8 (p : Int)] w fun e w' => e = .returned (.bool (leadN p)) ∧ w = w' := by
  have f0 : decide (97 ≤ (p : Int)) = false := by simp; omega
  have f1 : decide (65 ≤ (p : Int)) = false := by simp; omega
  have f2 : ((p : Int) == 95) = false := by simp; omega
  have f3 : ((p : Int) == 36) = true := by simp; omega
  go_enter Tryz.func57, Tryz.ntmps57
  go_wp2
  go_ret
  exact ⟨ret_b (by simp [digitN, leadN]; try omega), rfl⟩
theorem rlead_6 (p : Nat) (w : World) (h : p < 65 ∧ p ≠ 36) : Calls Tryz.prog 57 #[.int .u8 (p : Int)] w fun e w' => e = .returned (.bool (leadN p)) ∧ w = w' := by
  have f0 : decide (97 ≤ (p : Int)) = false := by simp; omega
  have f1 : decide (65 ≤ (p : Int)) = false := by simp; omega
  have f2 : ((p : Int) == 95) = false := by simp; omega
  have f3 : ((p : Int) == 36) = false := by simp; omega
  go_enter Tryz.func57, Tryz.ntmps57
  go_wp2
  go_ret
  exact ⟨ret_b (by simp [digitN, leadN]; try omega), rfl⟩
theorem rlead_any (p : Nat) (w : World) : Calls Tryz.prog 57 #[.int .u8 (p : Int)] w fun e w' => e = .returned (.bool (leadN p)) ∧ w = w' := by
  rcases (by omega : (97 ≤ p ∧ p ≤ 122) ∨ 122 < p ∨ (65 ≤ p ∧ p ≤ 90) ∨ p = 95 ∨ (90 < p ∧ p < 97 ∧ p ≠ 95) ∨ p = 36 ∨ (p < 65 ∧ p ≠ 36)) with h | h | h | h | h | h | h
  · exact rlead_0 p w h
  · exact rlead_1 p w h
  · exact rlead_2 p w h
  · exact rlead_3 p w h
  · exact rlead_4 p w h
  · exact rlead_5 p w h
  · exact rlead_6 p w h
theorem rdig_0 (p : Nat) (w : World) (h : p < 48) : Calls Tryz.prog 58 #[.int .u8 (p : Int)] w fun e w' => e = .returned (.bool (digitN p)) ∧ w = w' := by
  have f0 : decide (48 ≤ (p : Int)) = false := by simp; omega
  go_enter Tryz.func58, Tryz.ntmps58
  go_wp2
  go_ret
  exact ⟨ret_b (by simp [digitN, leadN]; try omega), rfl⟩
theorem rdig_1 (p : Nat) (w : World) (h : 48 ≤ p ∧ p ≤ 57) : Calls Tryz.prog 58 #[.int .u8 (p : Int)] w fun e w' => e = .returned (.bool (digitN p)) ∧ w = w' := by
  have f0 : decide (48 ≤ (p : Int)) = true := by simp; omega
  have f1 : decide ((p : Int) ≤ 57) = true := by simp; omega
  go_enter Tryz.func58, Tryz.ntmps58
  go_wp2
  go_ret
  exact ⟨ret_b (by simp [digitN, leadN]; try omega), rfl⟩
theorem rdig_2 (p : Nat) (w : World) (h : 57 < p) : Calls Tryz.prog 58 #[.int .u8 (p : Int)] w fun e w' => e = .returned (.bool (digitN p)) ∧ w = w' := by
  have f0 : decide (48 ≤ (p : Int)) = true := by simp; omega
  have f1 : decide ((p : Int) ≤ 57) = false := by simp; omega
  go_enter Tryz.func58, Tryz.ntmps58
  go_wp2
  go_ret
  exact ⟨ret_b (by simp [digitN, leadN]; try omega), rfl⟩
theorem rdig_any (p : Nat) (w : World) : Calls Tryz.prog 58 #[.int .u8 (p : Int)] w fun e w' => e = .returned (.bool (digitN p)) ∧ w = w' := by
  by_cases h1 : p < 48
  · exact rdig_0 p w h1
  · by_cases h2 : p ≤ 57
    · exact rdig_1 p w ⟨by omega, h2⟩
    · exact rdig_2 p w (by omega)
def NamedTo (s : ByteArray) (k : Nat) : Prop := ∀ j, j < k → leadN (B s j) = true ∨ (0 < j ∧ digitN (B s j) = true)
end Go.Proofs.YtinoaajohkafmaaGreat.Lx

/-
  The reference's small functions of chapter 14: only, plainName, plainText, target, has.
-/
namespace Go.Proofs.YtinoaajohkafmaaGreat.Pr
open Go Go.RowKit Go.Proofs.YtinoaajohkafmaaGreat.Pa Go.Proofs.YtinoaajohkafmaaGreat.Uni
open Go.Proofs.YtinoaajohkafmaaGreat.Lx
set_option linter.unusedVariables false
set_option linter.unusedSimpArgs false
attribute [local go_sem ↓] ldK stK alK bdK bsK ldN stN alN bdN bsN
attribute [local irreducible] kcs ncs ncells
attribute [local go_sem] run_alN run_stNg run_ldNg run_bdN0
theorem nameL_iff : ∀ l : By, nameL l = true ↔ 0 < l.length ∧ ∀ j, j < l.length → leadN (l[j]?.getD 0).toNat = true ∨ (0 < j ∧ digitN (l[j]?.getD 0).toNat = true)
  | [] => by simp [nameL]
  | c :: r => by
    unfold nameL
    rw [Bool.and_eq_true, List.all_eq_true]
    constructor
    · rintro ⟨h1, h2⟩
      refine ⟨by simp, fun j hj => ?_⟩
      cases j with
      | zero => left; simpa using h1
      | succ j =>
        have hj2 : j < r.length := by simpa using hj
        have := h2 r[j] (List.getElem_mem hj2)
        unfold contN at this
        rw [Bool.or_eq_true] at this
        simp only [List.getElem?_cons_succ, List.getElem?_eq_getElem hj2, Option.getD_some]
        rcases this with h | h
        · exact .inl h
        · exact .inr ⟨by omega, h⟩
    · rintro ⟨-, h⟩
      refine ⟨?_, fun x hx => ?_⟩
      · rcases h 0 (by simp) with h | h
        · simpa using h
        · omega
      · obtain ⟨j, hj, rfl⟩ := List.getElem_of_mem hx
        have := h (j + 1) (by simp; omega)
        simp only [List.getElem?_cons_succ, List.getElem?_eq_getElem hj, Option.getD_some] at this
        unfold contN
        rw [Bool.or_eq_true]
        rcases this with h | h
        · exact .inl h
        · exact .inr h.2
theorem tl_data (s : ByteArray) : s.toList = s.data.toList := ByteArray.toList_eq s
def un3L : List By := [[33], [45], [116, 121, 112, 101, 111, 102]]
def un3_cs : Array Value := (strs un3L).toArray
theorem bs_un3 (ps : Array (Nat × Value)) : Instr.buildSlice 22 3 ps = Lx.BsS 3 ps := (rfl)
theorem run_un3 (w : World) : (Lx.BsS 3 #[(0, .string ⟨#[33]⟩), (1, .string ⟨#[45]⟩), (2, .string ⟨#[116, 121, 112, 101, 111, 102]⟩)]).run Tryz.prog w = .ok (.slice (some ⟨w.heap.size, 0, none⟩) 3 3) (w.alloc (.cells un3_cs 9)) := by
  obtain ⟨i, hi, hz, hs, hb⟩ := info_parts infoS
  exact run_buildSlice w 22 9 3 _ un3_cs i (.string ⟨#[]⟩) Tryz.underlying22 hi hz (by rw [hs]; decide) (by rw [hs]; decide) (by rw [hs]; kernel_rfl)
def bin12L : List By := [[61, 61, 61], [33, 61, 61], [60], [62], [60, 61], [62, 61], [105, 110], [43], [45], [42], [47], [37]]
def bin12_cs : Array Value := (strs bin12L).toArray
theorem bs_bin12 (ps : Array (Nat × Value)) : Instr.buildSlice 22 12 ps = Lx.BsS 12 ps := (rfl)
theorem run_bin12 (w : World) : (Lx.BsS 12 #[(0, .string ⟨#[61, 61, 61]⟩), (1, .string ⟨#[33, 61, 61]⟩), (2, .string ⟨#[60]⟩), (3, .string ⟨#[62]⟩), (4, .string ⟨#[60, 61]⟩), (5, .string ⟨#[62, 61]⟩), (6, .string ⟨#[105, 110]⟩), (7, .string ⟨#[43]⟩), (8, .string ⟨#[45]⟩), (9, .string ⟨#[42]⟩), (10, .string ⟨#[47]⟩), (11, .string ⟨#[37]⟩)]).run Tryz.prog w = .ok (.slice (some ⟨w.heap.size, 0, none⟩) 12 12) (w.alloc (.cells bin12_cs 9)) := by
  obtain ⟨i, hi, hz, hs, hb⟩ := info_parts infoS
  exact run_buildSlice w 22 9 12 _ bin12_cs i (.string ⟨#[]⟩) Tryz.underlying22 hi hz (by rw [hs]; decide) (by rw [hs]; decide) (by rw [hs]; kernel_rfl)
end Go.Proofs.YtinoaajohkafmaaGreat.Pr
