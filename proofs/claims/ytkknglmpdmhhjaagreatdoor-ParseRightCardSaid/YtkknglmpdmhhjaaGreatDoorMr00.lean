/-
  Texts of this seat in build order: PrMem, LxAlive, LxRw.
-/
import Derived.Test.YtkknglmpdmhhjaaGreatDoorMg36
import Derived.Test.YtkknglmpdmhhjaaGreatDoorMg34
import Derived.Test.YtkknglmpdmhhjaaGreatDoorMg19
import Derived.Laws.BytesArg
import Derived.Lib.SlBytesConst
import Derived.Lib.SmallJoins
/-
  Trees that one reads: where their parts lie does not matter, nor who owns them.
-/
namespace Go.Proofs.YtkknglmpdmhhjaaGreatDoor.Pr
open Go Go.RowKit Go.Proofs.YtkknglmpdmhhjaaGreatDoor.Lx Go.Proofs.YtkknglmpdmhhjaaGreatDoor.Pa Go.Proofs.YtkknglmpdmhhjaaGreatDoor.Uni
set_option linter.unusedVariables false
set_option linter.unusedSimpArgs false

def NdAt (w : World) (b o : Nat) (N : Nd) : Prop := ∀ j v, (ncs N).toList[j]? = some v → w.cell? ⟨b, o + j, none⟩ = some v
/-- A list of nodes, a list of texts that one reads. -/
def Lst (w : World) (s : Sl) (xs : List Nd) : Prop := s.n = xs.length ∧ xs.length ≤ s.c ∧ s.c ≤ maxLen ∧ ∀ j x, xs[j]? = some x → ∃ b o, s.a = some ⟨b, o, none⟩ ∧ b < w.heap.size ∧ NdAt w b (o + j * 5) x
def Txs (w : World) (s : Sl) (ns : List ByteArray) : Prop := s.n = ns.length ∧ ns.length ≤ s.c ∧ s.c ≤ maxLen ∧ ∀ j x, ns[j]? = some x → ∃ b o, s.a = some ⟨b, o, none⟩ ∧ b < w.heap.size ∧ w.cell? ⟨b, o + j, none⟩ = some (.string x)
mutual
def Rd (w : World) : Tree → Nd → Prop
  | .mk k n t ns ks, N => N.kind = k ∧ N.num = n ∧ N.text = t ∧ Txs w N.names ns ∧ ∃ xs, Lst w N.kids xs ∧ Rds w ks xs
def Rds (w : World) : List Tree → List Nd → Prop
  | [], [] => True
  | t :: ts, x :: xs => Rd w t x ∧ Rds w ts xs
  | _, _ => False
end
/-- What lies in old blocks stays. -/
def Kept (w w' : World) : Prop := ∀ b, b < w.heap.size → w'.heap[b]? = w.heap[b]?
theorem kept_below {w w' : World} (h : Below w.heap.size w w') : Kept w w' := fun b hb => h.block b hb
theorem kept_cell {w w' : World} (h : Kept w w') {b i : Nat} (hb : b < w.heap.size) {v : Value} (hc : w.cell? ⟨b, i, none⟩ = some v) : w'.cell? ⟨b, i, none⟩ = some v := by
  have e := h b hb
  unfold World.cell? at hc ⊢
  rw [e]
  exact hc
theorem kept_lt {w w' : World} (h : Kept w w') {b : Nat} (hb : b < w.heap.size) : b < w'.heap.size := by
  have e := h b hb
  rw [Array.getElem?_eq_getElem hb] at e
  exact (Array.getElem?_eq_some_iff.1 e).1
theorem NdAt.kept {w w' : World} (h : Kept w w') {b o : Nat} (hb : b < w.heap.size) {N : Nd} (hn : NdAt w b o N) : NdAt w' b o N := fun j v hv => kept_cell h hb (hn j v hv)
theorem Lst.kept {w w' : World} (h : Kept w w') {s : Sl} {xs : List Nd} (hl : Lst w s xs) : Lst w' s xs := by
  refine ⟨hl.1, hl.2.1, hl.2.2.1, fun j x hx => ?_⟩
  obtain ⟨b, o, h1, h2, h3⟩ := hl.2.2.2 j x hx
  exact ⟨b, o, h1, kept_lt h h2, h3.kept h h2⟩
theorem Txs.kept {w w' : World} (h : Kept w w') {s : Sl} {xs : List ByteArray} (hl : Txs w s xs) : Txs w' s xs := by
  refine ⟨hl.1, hl.2.1, hl.2.2.1, fun j x hx => ?_⟩
  obtain ⟨b, o, h1, h2, h3⟩ := hl.2.2.2 j x hx
  exact ⟨b, o, h1, kept_lt h h2, kept_cell h h2 h3⟩
mutual
theorem Rd.kept {w w' : World} (h : Kept w w') : ∀ (t : Tree) (N : Nd), Rd w t N → Rd w' t N
  | .mk k n t ns ks, N, r => by
    unfold Rd at r ⊢
    obtain ⟨h1, h2, h3, h4, xs, h5, h6⟩ := r
    exact ⟨h1, h2, h3, h4.kept h, xs, h5.kept h, Rds.kept h ks xs h6⟩
theorem Rds.kept {w w' : World} (h : Kept w w') : ∀ (ts : List Tree) (xs : List Nd), Rds w ts xs → Rds w' ts xs
  | [], [], _ => by unfold Rds; trivial
  | t :: ts, x :: xs, r => by
    unfold Rds at r ⊢
    exact ⟨Rd.kept h t x r.1, Rds.kept h ts xs r.2⟩
  | [], _ :: _, r => by unfold Rds at r; exact r.elim
  | _ :: _, [], r => by unfold Rds at r; exact r.elim
end
theorem Rd.below {w w' : World} {T : Tree} {N : Nd} (r : Rd w T N) (h : Below w.heap.size w w') : Rd w' T N := Rd.kept (kept_below h) _ _ r
theorem Rds.below {w w' : World} {T : List Tree} {N : List Nd} (r : Rds w T N) (h : Below w.heap.size w w') : Rds w' T N := Rds.kept (kept_below h) _ _ r
theorem Rds.len {w : World} : ∀ {ts : List Tree} {xs : List Nd}, Rds w ts xs → xs.length = ts.length
  | [], [], _ => rfl
  | t :: ts, x :: xs, h => by
    unfold Rds at h
    simp only [List.length_cons]
    rw [Rds.len h.2]
  | [], _ :: _, h => by unfold Rds at h; exact h.elim
  | _ :: _, [], h => by unfold Rds at h; exact h.elim
theorem Rds.at {w : World} : ∀ {ts : List Tree} {xs : List Nd} {i : Nat} {t : Tree}, Rds w ts xs → ts[i]? = some t → ∃ x, xs[i]? = some x ∧ Rd w t x
  | [], _, i, t, _, h => by simp at h
  | t1 :: ts, [], i, t, h, _ => by unfold Rds at h; exact h.elim
  | t1 :: ts, x1 :: xs, 0, t, h, k => by
    unfold Rds at h
    simp at k; subst k
    exact ⟨x1, rfl, h.1⟩
  | t1 :: ts, x1 :: xs, i + 1, t, h, k => by
    unfold Rds at h
    simp at k
    obtain ⟨x, h3, h4⟩ := Rds.at h.2 k
    exact ⟨x, h3, h4⟩
theorem Rds.drop {w : World} : ∀ {ts : List Tree} {xs : List Nd} (n : Nat), Rds w ts xs → Rds w (ts.drop n) (xs.drop n)
  | ts, xs, 0, h => h
  | [], [], n + 1, h => by simp; unfold Rds; trivial
  | t :: ts, x :: xs, n + 1, h => by
    unfold Rds at h
    simp only [List.drop_succ_cons]
    exact Rds.drop n h.2
  | [], _ :: _, n + 1, h => by unfold Rds at h; exact h.elim
  | _ :: _, [], n + 1, h => by unfold Rds at h; exact h.elim
/-- A list of nodes from a place on. -/
theorem Lst.tail {w : World} {s : Sl} {xs : List Nd} (h : Lst w s xs) {b o : Nat} (ha : s.a = some ⟨b, o, none⟩) {n : Nat} (hn : n ≤ xs.length) : Lst w ⟨some ⟨b, o + n * 5, none⟩, xs.length - n, s.c - n⟩ (xs.drop n) := by
  refine ⟨by simp, by simp; have := h.2.1; omega, by have := h.2.2.1; simp; omega, fun j x hx => ?_⟩
  rw [List.getElem?_drop] at hx
  obtain ⟨b', o', h1, h2, h3⟩ := h.2.2.2 _ _ hx
  rw [ha] at h1
  cases h1
  refine ⟨b, o + n * 5, rfl, h2, ?_⟩
  have e : o + n * 5 + j * 5 = o + (n + j) * 5 := by omega
  rw [e]
  exact h3
theorem Lst.where {w : World} {s : Sl} {xs : List Nd} (h : Lst w s xs) (hn : 0 < xs.length) : ∃ b o, s = ⟨some ⟨b, o, none⟩, xs.length, s.c⟩ ∧ b < w.heap.size ∧ xs.length ≤ s.c ∧ s.c ≤ maxLen ∧ ∀ j x, xs[j]? = some x → NdAt w b (o + j * 5) x := by
  obtain ⟨x0, hx0⟩ : ∃ x, xs[0]? = some x := ⟨_, List.getElem?_eq_getElem hn⟩
  obtain ⟨b, o, h1, h2, -⟩ := h.2.2.2 _ _ hx0
  refine ⟨b, o, ?_, h2, h.2.1, h.2.2.1, fun j x hx => ?_⟩
  · rcases s with ⟨a, n, c⟩
    have e1 := h.1
    simp only at e1 h1 ⊢
    rw [e1, h1]
  · obtain ⟨b', o', h3, h4, h5⟩ := h.2.2.2 _ _ hx
    rw [h1] at h3
    cases h3
    exact h5
theorem Txs.where {w : World} {s : Sl} {xs : List ByteArray} (h : Txs w s xs) (hn : 0 < xs.length) : ∃ b o, s = ⟨some ⟨b, o, none⟩, xs.length, s.c⟩ ∧ b < w.heap.size ∧ xs.length ≤ s.c ∧ s.c ≤ maxLen ∧ ∀ j x, xs[j]? = some x → w.cell? ⟨b, o + j, none⟩ = some (.string x) := by
  obtain ⟨x0, hx0⟩ : ∃ x, xs[0]? = some x := ⟨_, List.getElem?_eq_getElem hn⟩
  obtain ⟨b, o, h1, h2, -⟩ := h.2.2.2 _ _ hx0
  refine ⟨b, o, ?_, h2, h.2.1, h.2.2.1, fun j x hx => ?_⟩
  · rcases s with ⟨a, n, c⟩
    have e1 := h.1
    simp only at e1 h1 ⊢
    rw [e1, h1]
  · obtain ⟨b', o', h3, h4, h5⟩ := h.2.2.2 _ _ hx
    rw [h1] at h3
    cases h3
    exact h5
theorem NdAt.range {w : World} {b o : Nat} {N : Nd} (h : NdAt w b o N) : w.rangeAt b o (ncs N).toList := h
theorem NdAt.ld {w : World} {b o : Nat} {N : Nd} (h : NdAt w b o N) : (Ld 27 (.pointer (some ⟨b, o, none⟩))).run Tryz.prog w = .ok (.agg (ncs N)) w := run_ldNm h
/-- What is owned may be read. -/
theorem row_txs {S : Nat → Prop} {w : World} {s : Sl} {n : Nat} {ns : List ByteArray} (h : Row S w 9 1 s n (ns.map Value.string)) (hn : ns.length = n) : Txs w s ns := by
  subst hn
  have hc := fun g => World.ownsRow.cells h.1 (g := g)
  rcases h.1.2 with ⟨h1, h2⟩ | ⟨g, cap, cur, h1, h2, h3, h4, h5, -⟩
  · unfold Sl.v at h1
    rcases s with ⟨a, n', c⟩
    simp at h1
    obtain ⟨rfl, rfl, rfl⟩ := h1
    have : ns = [] := List.eq_nil_of_length_eq_zero h2
    subst this
    exact ⟨rfl, Nat.zero_le _, Nat.zero_le _, fun j x hx => by simp at hx⟩
  · have hs : s = ⟨some ⟨g, 0, none⟩, ns.length, cap⟩ := by
      rcases s with ⟨a, n', c⟩
      unfold Sl.v at h1
      simp at h1
      obtain ⟨rfl, rfl, rfl⟩ := h1
      rfl
    subst hs
    refine ⟨rfl, h4, h5, fun j x hx => ⟨g, 0, rfl, (Array.getElem?_eq_some_iff.1 h3).1, ?_⟩⟩
    have := hc g (by rw [h1]; rfl) j (.string x) (by simp [hx])
    have e : (⟨g, 0, none⟩ : Addr).add j = ⟨g, 0 + j, none⟩ := by unfold Addr.add; split <;> simp_all
    rwa [e] at this
theorem row_lst {S : Nat → Prop} {w : World} {s : Sl} {n : Nat} {xs : List Nd} (h : Row S w 27 5 s n (ncells xs)) (hn : xs.length = n) : Lst w s xs := by
  subst hn
  have hc := fun g => World.ownsRow.cells h.1 (g := g)
  rcases h.1.2 with ⟨h1, h2⟩ | ⟨g, cap, cur, h1, h2, h3, h4, h5, -⟩
  · unfold Sl.v at h1
    rcases s with ⟨a, n', c⟩
    simp at h1
    obtain ⟨rfl, rfl, rfl⟩ := h1
    have : xs = [] := List.eq_nil_of_length_eq_zero h2
    subst this
    exact ⟨rfl, Nat.zero_le _, Nat.zero_le _, fun j x hx => by simp at hx⟩
  · have hs : s = ⟨some ⟨g, 0, none⟩, xs.length, cap⟩ := by
      rcases s with ⟨a, n', c⟩
      unfold Sl.v at h1
      simp at h1
      obtain ⟨rfl, rfl, rfl⟩ := h1
      rfl
    subst hs
    refine ⟨rfl, h4, h5, fun j x hx => ⟨g, 0, rfl, (Array.getElem?_eq_some_iff.1 h3).1, fun i v hv => ?_⟩⟩
    have := hc g (by rw [h1]; rfl) (j * 5 + i) v (ncells_at hx hv)
    have e : (⟨g, 0, none⟩ : Addr).add (j * 5 + i) = ⟨g, 0 + j * 5 + i, none⟩ := by unfold Addr.add; split <;> simp_all [Nat.zero_add]
    rwa [e] at this
mutual
theorem rep_rd {S : Nat → Prop} {w : World} : ∀ (t : Tree) (N : Nd), Rep S w t N → Rd w t N
  | .mk k n t ns ks, N, r => by
    unfold Rep at r
    unfold Rd
    obtain ⟨h1, h2, h3, h4, xs, h5, h6⟩ := r
    exact ⟨h1, h2, h3, row_txs h4 rfl, xs, row_lst h5 (Reps.len h6), reps_rd ks xs h6⟩
theorem reps_rd {S : Nat → Prop} {w : World} : ∀ (ts : List Tree) (xs : List Nd), Reps S w ts xs → Rds w ts xs
  | [], [], _ => by unfold Rds; trivial
  | t :: ts, x :: xs, r => by
    unfold Reps at r
    unfold Rds
    exact ⟨rep_rd t x r.1, reps_rd ts xs r.2⟩
  | [], _ :: _, r => by unfold Reps at r; exact r.elim
  | _ :: _, [], r => by unfold Reps at r; exact r.elim
end
end Go.Proofs.YtkknglmpdmhhjaaGreatDoor.Pr

/-
  The document's example; what lies in a list of tokens.
-/
namespace Go.Proofs.YtkknglmpdmhhjaaGreatDoor.Lx
open Go Go.RowKit Go.Proofs.YtkknglmpdmhhjaaGreatDoor.Uni
set_option linter.unusedVariables false
set_option linter.unusedSimpArgs false

/-- A token of a list of the call's own. -/
theorem tok_at {w : World} {base n : Nat} {v : Value} {l : List Tok} (h : w.ownsRow base 79 4 v n (tcells l)) {k : Nat} {t : Tok} (hk : l[k]? = some t) :
    ∃ g cp, v = .slice (some ⟨g, 0, none⟩) n cp ∧ base ≤ g ∧ w.cell? ⟨g, k * 4, none⟩ = some (.int .i64 t.kind) ∧ w.cell? ⟨g, k * 4 + 1, none⟩ = some (.int .i64 t.pos) ∧ w.cell? ⟨g, k * 4 + 2, none⟩ = some (.int .i64 t.num) ∧ w.cell? ⟨g, k * 4 + 3, none⟩ = some (.string t.text) := by
  have hcell : ∀ j u, (kcs t)[j]? = some u → j < 4 → (tcells l)[k * 4 + j]? = some u := by
    clear h
    induction l generalizing k with
    | nil => simp at hk
    | cons a l ih =>
      intro j u hu hj
      have e : tcells (a :: l) = (kcs a).toList ++ tcells l := by simp [tcells]
      rw [e]
      cases k with
      | zero =>
        simp at hk
        subst hk
        rw [List.getElem?_append_left (by rw [kcs_list]; omega)]
        simpa using hu
      | succ k =>
        rw [List.getElem?_append_right (by rw [kcs_list]; omega), kcs_list]
        have := ih (k := k) (by simpa using hk) j u hu hj
        rw [show (k + 1) * 4 + j - 4 = k * 4 + j by omega]
        exact this
  have hcells := fun g => h.cells (g := g)
  rcases h.2 with ⟨hv, hn⟩ | ⟨g, cp, cur, hv, hb, _⟩
  · exfalso
    have h0 := hcell 0 _ (kcs_0 t) (by decide)
    have h1 := h.1
    rw [hn] at h1
    have : tcells l = [] := List.length_eq_zero_iff.1 (by omega)
    rw [this] at h0
    simp at h0
  · refine ⟨g, cp, hv, hb, ?_⟩
    have hc : ∀ j u, (kcs t)[j]? = some u → j < 4 → w.cell? ⟨g, k * 4 + j, none⟩ = some u := by
      intro j u hu hj
      have h2 := hcells g (by rw [hv]; rfl) (k * 4 + j) u (hcell j u hu hj)
      have e : (⟨g, 0, none⟩ : Addr).add (k * 4 + j) = ⟨g, k * 4 + j, none⟩ := by unfold Addr.add; split <;> simp_all
      rw [e] at h2
      exact h2
    exact ⟨hc 0 _ (kcs_0 t) (by decide), hc 1 _ (kcs_1 t) (by decide), hc 2 _ (kcs_2 t) (by decide), hc 3 _ (kcs_3 t) (by decide)⟩

def exS : ByteArray := ⟨#[97, 46, 98]⟩
def exT : List Tok := [⟨1, 0, 0, ⟨#[97]⟩⟩, ⟨5, 1, 0, ⟨#[46]⟩⟩, ⟨1, 2, 0, ⟨#[98]⟩⟩, ⟨0, 3, 0, ⟨#[]⟩⟩]
theorem ex_lex : lexT exS = (0, 0, exT) := by kernel_rfl
abbrev exC : Array Value := #[.int .u8 97, .int .u8 46, .int .u8 98]
theorem ex_conv (w : World) : (convert 22 9 (.slice (some ⟨w.heap.size, 0, none⟩) exS.size 3)).run Tryz.prog (w.alloc (.cells exC 5 (3, 4))) = .ok (.string exS) (w.alloc (.cells exC 5 (3, 4))) := by
  have hr := run_convert_bytes_arg (P := Tryz.prog) (w.alloc (.cells exC 5 (3, 4))) 22 5 Tryz.underlying22 Tryz.underlying5 w.heap.size 0 3 3 [97, 46, 98] rfl (fun i hi => by
    rw [Joins.cell_of_block (heap_alloc_new w _)]
    rcases (by omega : i = 0 ∨ i = 1 ∨ i = 2) with rfl | rfl | rfl <;> rfl) 9 Tryz.underlying9
  exact hr

end Go.Proofs.YtkknglmpdmhhjaaGreatDoor.Lx

/-
  The reference's Word and Named.
-/
namespace Go.Proofs.YtkknglmpdmhhjaaGreatDoor.Lx
open Go Go.RowKit Go.Proofs.YtkknglmpdmhhjaaGreatDoor.Uni
set_option linter.unusedVariables false
set_option linter.unusedSimpArgs false

/-! ### Word -/
def strs (l : List By) : List Value := l.map fun s => Value.string (bs s)
theorem infoS : (Tryz.prog.info? 9).map (fun i => (i.zero, i.size, i.bytes)) = some (some (.string ⟨#[]⟩), 1, 16) := by kernel_rfl
def BsS (n : Nat) (ps : Array (Nat × Value)) : Sem Value := Instr.buildSlice 24 n ps
theorem bs22 (ps : Array (Nat × Value)) : Instr.buildSlice 24 22 ps = BsS 22 ps := (rfl)
theorem bs25 (ps : Array (Nat × Value)) : Instr.buildSlice 24 25 ps = BsS 25 ps := (rfl)

def used_ps : Array (Nat × Value) := #[(0, .string ⟨#[98, 114, 101, 97, 107]⟩), (1, .string ⟨#[99, 97, 116, 99, 104]⟩), (2, .string ⟨#[99, 111, 110, 115, 116]⟩), (3, .string ⟨#[99, 111, 110, 116, 105, 110, 117, 101]⟩), (4, .string ⟨#[100, 101, 108, 101, 116, 101]⟩), (5, .string ⟨#[101, 108, 115, 101]⟩), (6, .string ⟨#[102, 97, 108, 115, 101]⟩), (7, .string ⟨#[102, 105, 110, 97, 108, 108, 121]⟩), (8, .string ⟨#[102, 117, 110, 99, 116, 105, 111, 110]⟩), (9, .string ⟨#[105, 102]⟩), (10, .string ⟨#[105, 110]⟩), (11, .string ⟨#[108, 101, 116]⟩), (12, .string ⟨#[110, 101, 119]⟩), (13, .string ⟨#[110, 117, 108, 108]⟩), (14, .string ⟨#[114, 101, 116, 117, 114, 110]⟩), (15, .string ⟨#[116, 104, 105, 115]⟩), (16, .string ⟨#[116, 104, 114, 111, 119]⟩), (17, .string ⟨#[116, 114, 117, 101]⟩), (18, .string ⟨#[116, 114, 121]⟩), (19, .string ⟨#[116, 121, 112, 101, 111, 102]⟩), (20, .string ⟨#[117, 110, 100, 101, 102, 105, 110, 101, 100]⟩), (21, .string ⟨#[119, 104, 105, 108, 101]⟩)]
def used_cs : Array Value := (strs used).toArray
theorem run_used (w : World) : (BsS 22 #[(0, .string ⟨#[98, 114, 101, 97, 107]⟩), (1, .string ⟨#[99, 97, 116, 99, 104]⟩), (2, .string ⟨#[99, 111, 110, 115, 116]⟩), (3, .string ⟨#[99, 111, 110, 116, 105, 110, 117, 101]⟩), (4, .string ⟨#[100, 101, 108, 101, 116, 101]⟩), (5, .string ⟨#[101, 108, 115, 101]⟩), (6, .string ⟨#[102, 97, 108, 115, 101]⟩), (7, .string ⟨#[102, 105, 110, 97, 108, 108, 121]⟩), (8, .string ⟨#[102, 117, 110, 99, 116, 105, 111, 110]⟩), (9, .string ⟨#[105, 102]⟩), (10, .string ⟨#[105, 110]⟩), (11, .string ⟨#[108, 101, 116]⟩), (12, .string ⟨#[110, 101, 119]⟩), (13, .string ⟨#[110, 117, 108, 108]⟩), (14, .string ⟨#[114, 101, 116, 117, 114, 110]⟩), (15, .string ⟨#[116, 104, 105, 115]⟩), (16, .string ⟨#[116, 104, 114, 111, 119]⟩), (17, .string ⟨#[116, 114, 117, 101]⟩), (18, .string ⟨#[116, 114, 121]⟩), (19, .string ⟨#[116, 121, 112, 101, 111, 102]⟩), (20, .string ⟨#[117, 110, 100, 101, 102, 105, 110, 101, 100]⟩), (21, .string ⟨#[119, 104, 105, 108, 101]⟩)]).run Tryz.prog w = .ok (.slice (some ⟨w.heap.size, 0, none⟩) 22 22) (w.alloc (.cells used_cs 9)) := by
  obtain ⟨i, hi, hz, hs, hb⟩ := info_parts infoS
  exact run_buildSlice w 24 9 22 _ used_cs i (.string ⟨#[]⟩) Tryz.underlying24 hi hz (by rw [hs]; decide) (by rw [hs]; decide) (by rw [hs]; kernel_rfl)

def unused_ps : Array (Nat × Value) := #[(0, .string ⟨#[97, 119, 97, 105, 116]⟩), (1, .string ⟨#[99, 97, 115, 101]⟩), (2, .string ⟨#[99, 108, 97, 115, 115]⟩), (3, .string ⟨#[100, 101, 98, 117, 103, 103, 101, 114]⟩), (4, .string ⟨#[100, 101, 102, 97, 117, 108, 116]⟩), (5, .string ⟨#[100, 111]⟩), (6, .string ⟨#[101, 110, 117, 109]⟩), (7, .string ⟨#[101, 120, 112, 111, 114, 116]⟩), (8, .string ⟨#[101, 120, 116, 101, 110, 100, 115]⟩), (9, .string ⟨#[102, 111, 114]⟩), (10, .string ⟨#[105, 109, 112, 108, 101, 109, 101, 110, 116, 115]⟩), (11, .string ⟨#[105, 109, 112, 111, 114, 116]⟩), (12, .string ⟨#[105, 110, 115, 116, 97, 110, 99, 101, 111, 102]⟩), (13, .string ⟨#[105, 110, 116, 101, 114, 102, 97, 99, 101]⟩), (14, .string ⟨#[112, 97, 99, 107, 97, 103, 101]⟩), (15, .string ⟨#[112, 114, 105, 118, 97, 116, 101]⟩), (16, .string ⟨#[112, 114, 111, 116, 101, 99, 116, 101, 100]⟩), (17, .string ⟨#[112, 117, 98, 108, 105, 99]⟩), (18, .string ⟨#[115, 116, 97, 116, 105, 99]⟩), (19, .string ⟨#[115, 117, 112, 101, 114]⟩), (20, .string ⟨#[115, 119, 105, 116, 99, 104]⟩), (21, .string ⟨#[118, 97, 114]⟩), (22, .string ⟨#[118, 111, 105, 100]⟩), (23, .string ⟨#[119, 105, 116, 104]⟩), (24, .string ⟨#[121, 105, 101, 108, 100]⟩)]
def unused_cs : Array Value := (strs unused).toArray
theorem run_unused (w : World) : (BsS 25 #[(0, .string ⟨#[97, 119, 97, 105, 116]⟩), (1, .string ⟨#[99, 97, 115, 101]⟩), (2, .string ⟨#[99, 108, 97, 115, 115]⟩), (3, .string ⟨#[100, 101, 98, 117, 103, 103, 101, 114]⟩), (4, .string ⟨#[100, 101, 102, 97, 117, 108, 116]⟩), (5, .string ⟨#[100, 111]⟩), (6, .string ⟨#[101, 110, 117, 109]⟩), (7, .string ⟨#[101, 120, 112, 111, 114, 116]⟩), (8, .string ⟨#[101, 120, 116, 101, 110, 100, 115]⟩), (9, .string ⟨#[102, 111, 114]⟩), (10, .string ⟨#[105, 109, 112, 108, 101, 109, 101, 110, 116, 115]⟩), (11, .string ⟨#[105, 109, 112, 111, 114, 116]⟩), (12, .string ⟨#[105, 110, 115, 116, 97, 110, 99, 101, 111, 102]⟩), (13, .string ⟨#[105, 110, 116, 101, 114, 102, 97, 99, 101]⟩), (14, .string ⟨#[112, 97, 99, 107, 97, 103, 101]⟩), (15, .string ⟨#[112, 114, 105, 118, 97, 116, 101]⟩), (16, .string ⟨#[112, 114, 111, 116, 101, 99, 116, 101, 100]⟩), (17, .string ⟨#[112, 117, 98, 108, 105, 99]⟩), (18, .string ⟨#[115, 116, 97, 116, 105, 99]⟩), (19, .string ⟨#[115, 117, 112, 101, 114]⟩), (20, .string ⟨#[115, 119, 105, 116, 99, 104]⟩), (21, .string ⟨#[118, 97, 114]⟩), (22, .string ⟨#[118, 111, 105, 100]⟩), (23, .string ⟨#[119, 105, 116, 104]⟩), (24, .string ⟨#[121, 105, 101, 108, 100]⟩)]).run Tryz.prog w = .ok (.slice (some ⟨w.heap.size, 0, none⟩) 25 25) (w.alloc (.cells unused_cs 9)) := by
  obtain ⟨i, hi, hz, hs, hb⟩ := info_parts infoS
  exact run_buildSlice w 24 9 25 _ unused_cs i (.string ⟨#[]⟩) Tryz.underlying24 hi hz (by rw [hs]; decide) (by rw [hs]; decide) (by rw [hs]; kernel_rfl)

theorem cs_at {w : World} {o : Nat} {cs : Array Value} {ws : List By} (hcs : cs = (strs ws).toArray) (h : Blk w o cs 9) : ∀ k, k < ws.length → w.cell? ⟨o, k, none⟩ = some (.string (bs (ws.getD k []))) := fun k hk => by
  subst hcs
  rw [h.cell]
  simp [strs, hk]
theorem used_at {w : World} {o : Nat} (h : Blk w o used_cs 9) : ∀ k, k < 22 → w.cell? ⟨o, k, none⟩ = some (.string (bs (used.getD k []))) := cs_at rfl h
theorem unused_at {w : World} {o : Nat} (h : Blk w o unused_cs 9) : ∀ k, k < 25 → w.cell? ⟨o, k, none⟩ = some (.string (bs (unused.getD k []))) := cs_at rfl h
attribute [local go_sem ↓] bs22 bs25
attribute [local irreducible] used_cs unused_cs
attribute [local go_sem] run_used run_unused

theorem tl_bs (l : By) : (bs l).toList = l := by rw [ByteArray.toList_eq, bs_list]
set_option maxHeartbeats 2000000 in
theorem has_any (b n : Nat) (ws : List By) (s : ByteArray) (w : World) (hn : ws.length = n) (hn2 : n ≤ 1000) (hc : ∀ k, k < n → w.cell? ⟨b, k, none⟩ = some (.string (bs (ws.getD k [])))) :
    Calls Tryz.prog 148 #[.slice (some ⟨b, 0, none⟩) n n, .string s] w fun e w' => e = .returned (.bool (decide (s.toList ∈ ws))) ∧ w = w' := by
  have HN := Lib.hid hn
  have hni : (n : Int) ≤ 1000 := by omega
  clear hn
  go_enter Tryz.func148, Tryz.ntmps148
  go_wp2
  go_loopw [5] (fun v wr => ∃ k : Nat, v = .int .i64 (k : Int) ∧ k ≤ n ∧ wr = w ∧ Hid (∀ j, j < k → ws.getD j [] ≠ s.toList)) (fun v _ => n - (intOf v).toNat)
  case atStart => exact ⟨0, rfl, by omega, rfl, Lib.hid (fun j hj => by omega)⟩
  case round =>
    obtain ⟨k, rfl, hk, rfl, hno⟩ := hrel
    by_cases hlt : k < n
    · have hki : (k : Int) < n := by omega
      have hck := hc k hlt
      obtain ⟨u, hu⟩ : ∃ u, bs (ws.getD k []) = u := ⟨_, rfl⟩
      have hul : u.toList = ws.getD k [] := by rw [← hu, tl_bs]
      rw [hu] at hck
      by_cases heq : u.toList = s.toList
      · have hb : (u.toList == s.toList) = true := by simpa using heq
        have hm : decide (s.toList ∈ ws) = true := by
          rw [decide_eq_true_eq, ← heq, hul, List.getD_eq_getElem?_getD, List.getElem?_eq_getElem (by have := HN.out; omega)]
          exact List.getElem_mem _
        have HM := Lib.hid hm
        clear hm heq hul hu hc
        go_wp2
        go_ret
        exact ⟨by rw [HM.out]; rfl, rfl⟩
      · have hb : (u.toList == s.toList) = false := by simpa using heq
        have hno2 : ∀ j, j < k + 1 → ws.getD j [] ≠ s.toList := fun j hj => by
          by_cases e : j = k
          · subst e; rw [← hul]; exact heq
          · exact hno.out j (by omega)
        have HN2 := Lib.hid hno2
        clear hno2 heq hul hu hc
        go_wp2
        go_roundw
        case rel => exact ⟨k + 1, by go_num, by omega, trivial, HN2⟩
        case measure => simp [intOf]; omega
    · obtain rfl : k = n := by omega
      have hm : decide (s.toList ∈ ws) = false := by
        rw [decide_eq_false_iff_not]
        intro h
        obtain ⟨j, hj, he⟩ := List.getElem_of_mem h
        refine hno.out j (by have := HN.out; omega) ?_
        rw [List.getD_eq_getElem?_getD, List.getElem?_eq_getElem hj]
        exact he
      have HM := Lib.hid hm
      clear hm hc
      go_wp2
      go_ret
      exact ⟨by rw [HM.out]; rfl, rfl⟩

set_option maxRecDepth 100000 in
set_option maxHeartbeats 2000000 in
theorem rword_any (s : ByteArray) (w : World) : Calls Tryz.prog 121 #[.string s] w fun e w' => e = .returned (.int .i64 (wordF s.toList : Nat)) ∧ Below w.heap.size w w' := by
  have h1 := has_any w.heap.size 22 used s (w.alloc (.cells used_cs 9)) (by decide) (by decide) (used_at (Blk.new w _ _))
  have h2 := has_any (w.heap.size + 1) 25 unused s ((w.alloc (.cells used_cs 9)).alloc (.cells unused_cs 9)) (by decide) (by decide) (unused_at (blk_newg (by simp)))
  by_cases m1 : s.toList ∈ used
  · have e : wordF s.toList = 1 := if_pos m1
    rw [decide_eq_true m1] at h1
    rw [e]
    clear m1 e h2
    go_enter Tryz.func121, Tryz.ntmps121
    go_wp2_with (go_at_call 148; refine h1.mono ?_; rintro e w1 ⟨rfl, rfl⟩)
    go_ret
    exact ⟨rfl, bel1⟩
  · rw [decide_eq_false m1] at h1
    by_cases m2 : s.toList ∈ unused
    · have e : wordF s.toList = 2 := by unfold wordF; rw [if_neg m1, if_pos m2]
      rw [decide_eq_true m2] at h2
      rw [e]
      clear m1 m2 e
      go_enter Tryz.func121, Tryz.ntmps121
      go_wp2_with (first | (go_at_call 148; (with_reducible refine h1.mono ?_); rintro e w1 ⟨rfl, rfl⟩) | (go_at_call 148; (with_reducible refine h2.mono ?_); rintro e w1 ⟨rfl, rfl⟩))
      go_ret
      exact ⟨rfl, bl_alloc bel1⟩
    · have e : wordF s.toList = 0 := by unfold wordF; rw [if_neg m1, if_neg m2]
      rw [decide_eq_false m2] at h2
      rw [e]
      clear m1 m2 e
      go_enter Tryz.func121, Tryz.ntmps121
      go_wp2_with (first | (go_at_call 148; (with_reducible refine h1.mono ?_); rintro e w1 ⟨rfl, rfl⟩) | (go_at_call 148; (with_reducible refine h2.mono ?_); rintro e w1 ⟨rfl, rfl⟩))
      go_ret
      exact ⟨rfl, bl_alloc bel1⟩

/-! ### Named -/
theorem rlead_0 (p : Nat) (w : World) (h : 97 ≤ p ∧ p ≤ 122) : Calls Tryz.prog 119 #[.int .u8 (p : Int)] w fun e w' => e = .returned (.bool (leadN p)) ∧ w = w' := by
  have f0 : decide (97 ≤ (p : Int)) = true := by simp; omega
  have f1 : decide ((p : Int) ≤ 122) = true := by simp; omega
  go_enter Tryz.func119, Tryz.ntmps119
  go_wp2
  go_ret
  exact ⟨ret_b (by simp [digitN, leadN]; try omega), rfl⟩

theorem rlead_1 (p : Nat) (w : World) (h : 122 < p) : Calls Tryz.prog 119 #[.int .u8 (p : Int)] w fun e w' => e = .returned (.bool (leadN p)) ∧ w = w' := by
  have f0 : decide (97 ≤ (p : Int)) = true := by simp; omega
  have f1 : decide ((p : Int) ≤ 122) = false := by simp; omega
  have f2 : decide (65 ≤ (p : Int)) = true := by simp; omega
  have f3 : decide ((p : Int) ≤ 90) = false := by simp; omega
  have f4 : ((p : Int) == 95) = false := by simp; omega
  have f5 : ((p : Int) == 36) = false := by simp; omega
  go_enter Tryz.func119, Tryz.ntmps119
  go_wp2
  go_ret
  exact ⟨ret_b (by simp [digitN, leadN]; try omega), rfl⟩

theorem rlead_2 (p : Nat) (w : World) (h : 65 ≤ p ∧ p ≤ 90) : Calls Tryz.prog 119 #[.int .u8 (p : Int)] w fun e w' => e = .returned (.bool (leadN p)) ∧ w = w' := by
  have f0 : decide (97 ≤ (p : Int)) = false := by simp; omega
  have f1 : decide (65 ≤ (p : Int)) = true := by simp; omega
  have f2 : decide ((p : Int) ≤ 90) = true := by simp; omega
  go_enter Tryz.func119, Tryz.ntmps119
  go_wp2
  go_ret
  exact ⟨ret_b (by simp [digitN, leadN]; try omega), rfl⟩

theorem rlead_3 (p : Nat) (w : World) (h : p = 95) : Calls Tryz.prog 119 #[.int .u8 (p : Int)] w fun e w' => e = .returned (.bool (leadN p)) ∧ w = w' := by
  have f0 : decide (97 ≤ (p : Int)) = false := by simp; omega
  have f1 : decide (65 ≤ (p : Int)) = true := by simp; omega
  have f2 : decide ((p : Int) ≤ 90) = false := by simp; omega
  have f3 : ((p : Int) == 95) = true := by simp; omega
  go_enter Tryz.func119, Tryz.ntmps119
  go_wp2
  go_ret
  exact ⟨ret_b (by simp [digitN, leadN]; try omega), rfl⟩

theorem rlead_4 (p : Nat) (w : World) (h : 90 < p ∧ p < 97 ∧ p ≠ 95) : Calls Tryz.prog 119 #[.int .u8 (p : Int)] w fun e w' => e = .returned (.bool (leadN p)) ∧ w = w' := by
  have f0 : decide (97 ≤ (p : Int)) = false := by simp; omega
  have f1 : decide (65 ≤ (p : Int)) = true := by simp; omega
  have f2 : decide ((p : Int) ≤ 90) = false := by simp; omega
  have f3 : ((p : Int) == 95) = false := by simp; omega
  have f4 : ((p : Int) == 36) = false := by simp; omega
  go_enter Tryz.func119, Tryz.ntmps119
  go_wp2
  go_ret
  exact ⟨ret_b (by simp [digitN, leadN]; try omega), rfl⟩

theorem rlead_5 (p : Nat) (w : World) (h : p = 36) : Calls Tryz.prog 119 #[.int .u8 (p : Int)] w fun e w' => e = .returned (.bool (leadN p)) ∧ w = w' := by
  have f0 : decide (97 ≤ (p : Int)) = false := by simp; omega
  have f1 : decide (65 ≤ (p : Int)) = false := by simp; omega
  have f2 : ((p : Int) == 95) = false := by simp; omega
  have f3 : ((p : Int) == 36) = true := by simp; omega
  go_enter Tryz.func119, Tryz.ntmps119
  go_wp2
  go_ret
  exact ⟨ret_b (by simp [digitN, leadN]; try omega), rfl⟩

theorem rlead_6 (p : Nat) (w : World) (h : p < 65 ∧ p ≠ 36) : Calls Tryz.prog 119 #[.int .u8 (p : Int)] w fun e w' => e = .returned (.bool (leadN p)) ∧ w = w' := by
  have f0 : decide (97 ≤ (p : Int)) = false := by simp; omega
  have f1 : decide (65 ≤ (p : Int)) = false := by simp; omega
  have f2 : ((p : Int) == 95) = false := by simp; omega
  have f3 : ((p : Int) == 36) = false := by simp; omega
  go_enter Tryz.func119, Tryz.ntmps119
  go_wp2
  go_ret
  exact ⟨ret_b (by simp [digitN, leadN]; try omega), rfl⟩

theorem rlead_any (p : Nat) (w : World) : Calls Tryz.prog 119 #[.int .u8 (p : Int)] w fun e w' => e = .returned (.bool (leadN p)) ∧ w = w' := by
  rcases (by omega : (97 ≤ p ∧ p ≤ 122) ∨ 122 < p ∨ (65 ≤ p ∧ p ≤ 90) ∨ p = 95 ∨ (90 < p ∧ p < 97 ∧ p ≠ 95) ∨ p = 36 ∨ (p < 65 ∧ p ≠ 36)) with h | h | h | h | h | h | h
  · exact rlead_0 p w h
  · exact rlead_1 p w h
  · exact rlead_2 p w h
  · exact rlead_3 p w h
  · exact rlead_4 p w h
  · exact rlead_5 p w h
  · exact rlead_6 p w h

theorem rdig_0 (p : Nat) (w : World) (h : p < 48) : Calls Tryz.prog 120 #[.int .u8 (p : Int)] w fun e w' => e = .returned (.bool (digitN p)) ∧ w = w' := by
  have f0 : decide (48 ≤ (p : Int)) = false := by simp; omega
  go_enter Tryz.func120, Tryz.ntmps120
  go_wp2
  go_ret
  exact ⟨ret_b (by simp [digitN, leadN]; try omega), rfl⟩

theorem rdig_1 (p : Nat) (w : World) (h : 48 ≤ p ∧ p ≤ 57) : Calls Tryz.prog 120 #[.int .u8 (p : Int)] w fun e w' => e = .returned (.bool (digitN p)) ∧ w = w' := by
  have f0 : decide (48 ≤ (p : Int)) = true := by simp; omega
  have f1 : decide ((p : Int) ≤ 57) = true := by simp; omega
  go_enter Tryz.func120, Tryz.ntmps120
  go_wp2
  go_ret
  exact ⟨ret_b (by simp [digitN, leadN]; try omega), rfl⟩

theorem rdig_2 (p : Nat) (w : World) (h : 57 < p) : Calls Tryz.prog 120 #[.int .u8 (p : Int)] w fun e w' => e = .returned (.bool (digitN p)) ∧ w = w' := by
  have f0 : decide (48 ≤ (p : Int)) = true := by simp; omega
  have f1 : decide ((p : Int) ≤ 57) = false := by simp; omega
  go_enter Tryz.func120, Tryz.ntmps120
  go_wp2
  go_ret
  exact ⟨ret_b (by simp [digitN, leadN]; try omega), rfl⟩

theorem rdig_any (p : Nat) (w : World) : Calls Tryz.prog 120 #[.int .u8 (p : Int)] w fun e w' => e = .returned (.bool (digitN p)) ∧ w = w' := by
  by_cases h1 : p < 48
  · exact rdig_0 p w h1
  · by_cases h2 : p ≤ 57
    · exact rdig_1 p w ⟨by omega, h2⟩
    · exact rdig_2 p w (by omega)

/-- A name's text: a first byte and the others. -/
def NamedTo (s : ByteArray) (k : Nat) : Prop := ∀ j, j < k → leadN (B s j) = true ∨ (0 < j ∧ digitN (B s j) = true)
theorem idx_u (t : ByteArray) (k : Nat) (hk : k < t.size) (w : World) : (Instr.index 9 (.string t) (.int .i64 (k : Int))).run Tryz.prog w = .ok (.int .u8 (B t k : Nat)) w := idx_at t k hk k rfl w
set_option maxHeartbeats 2000000 in
theorem named_any (s : ByteArray) (w : World) (hs : s.size ≤ 2000000) : Calls Tryz.prog 145 #[.string s] w fun e w' => (∃ b, e = .returned (.bool b) ∧ (b = true ↔ 0 < s.size ∧ NamedTo s s.size)) ∧ w = w' := by
  go_enter Tryz.func145, Tryz.ntmps145
  go_wp2
  go_loopw [3] (fun v wr => ∃ k : Nat, v = .int .i64 (k : Int) ∧ k ≤ s.size ∧ wr = w ∧ Hid (NamedTo s k)) (fun v _ => s.size - (intOf v).toNat)
  case atStart => exact ⟨0, rfl, by omega, rfl, Lib.hid (fun j hj => by omega)⟩
  case round =>
    obtain ⟨k, rfl, hk, rfl, hn⟩ := hrel
    by_cases hlt : k < s.size
    · have hki : (k : Int) < s.size := by omega
      have hix := fun w => idx_u s k hlt w
      obtain ⟨y, hy⟩ : ∃ y, B s k = y := ⟨_, rfl⟩
      rw [hy] at hix
      have hbad : leadN y = false → (k = 0 ∨ digitN y = false) → Hid (∃ b, Ending.returned (.bool false) = .returned (.bool b) ∧ (b = true ↔ 0 < s.size ∧ NamedTo s s.size)) := fun g1 g2 => Lib.hid ⟨false, rfl, fun h => (by cases h), fun h => by
        rcases h.2 k hlt with h3 | h3
        · rw [hy, g1] at h3; cases h3
        · rcases g2 with g2 | g2
          · omega
          · rw [hy, g2] at h3; cases h3.2⟩
      have HY := Lib.hid hy
      clear hy
      cases h1 : leadN y with
      | true =>
        clear hbad
        have hn2 : NamedTo s (k + 1) := fun j hj => by
          by_cases e : j = k
          · subst e; rw [HY.out]; exact .inl h1
          · exact hn.out j (by omega)
        have HN2 := Lib.hid hn2
        clear hn2
        go_wp2_with (go_at_call 119; refine (rlead_any _ _).mono ?_; rintro e w1 ⟨rfl, rfl⟩; rw [h1])
        go_roundw
        case rel => exact ⟨k + 1, by go_num, by omega, trivial, HN2⟩
        case measure => simp [intOf]; omega
      | false =>
        by_cases h0 : k = 0
        · have hk0 : (k : Int) ≤ 0 := by omega
          have hbad := hbad h1 (.inl h0)
          clear h0
          go_wp2_with (go_at_call 119; refine (rlead_any _ _).mono ?_; rintro e w1 ⟨rfl, rfl⟩; rw [h1])
          go_ret
          exact ⟨hbad.out, rfl⟩
        · have hk0 : 0 < (k : Int) := by omega
          cases h2 : digitN y with
          | true =>
            clear hbad
            have hn2 : NamedTo s (k + 1) := fun j hj => by
              by_cases e : j = k
              · subst e; rw [HY.out]; exact .inr ⟨by omega, h2⟩
              · exact hn.out j (by omega)
            have HN2 := Lib.hid hn2
            clear hn2 h0
            go_wp2_with (first | (go_at_call 119; refine (rlead_any _ _).mono ?_; rintro e w1 ⟨rfl, rfl⟩; rw [h1]) | (go_at_call 120; refine (rdig_any _ _).mono ?_; rintro e w1 ⟨rfl, rfl⟩; rw [h2]))
            go_roundw
            case rel => exact ⟨k + 1, by go_num, by omega, trivial, HN2⟩
            case measure => simp [intOf]; omega
          | false =>
            have hbad := hbad h1 (.inr h2)
            clear h0
            go_wp2_with (first | (go_at_call 119; refine (rlead_any _ _).mono ?_; rintro e w1 ⟨rfl, rfl⟩; rw [h1]) | (go_at_call 120; refine (rdig_any _ _).mono ?_; rintro e w1 ⟨rfl, rfl⟩; rw [h2]))
            go_ret
            exact ⟨hbad.out, rfl⟩
    · obtain rfl : k = s.size := by omega
      by_cases he : s.size = 0
      · have e1 : s.toList.isEmpty = true := by
          rw [ByteArray.toList_eq]
          have := lsz s
          rw [he] at this
          rw [List.length_eq_zero_iff.1 this]; rfl
        have e2 : s.toList = [] := by simpa using e1
        have HZ := Lib.hid he
        clear he hlt
        go_wp2
        go_ret
        exact ⟨⟨false, rfl, fun h => (by cases h), fun h => (by have := HZ.out; omega)⟩, rfl⟩
      · have e1 : s.toList.isEmpty = false := by
          rw [ByteArray.toList_eq]
          have := lsz s
          cases hq : s.data.toList with
          | nil => rw [hq] at this; simp at this; omega
          | cons _ _ => rfl
        have e2 : s.toList ≠ [] := fun h => by rw [h] at e1; cases e1
        have HE : Hid (0 < s.size) := Lib.hid (by omega)
        clear he hlt
        go_wp2
        go_ret
        exact ⟨⟨true, rfl, fun _ => ⟨HE.out, hn.out⟩, fun _ => rfl⟩, rfl⟩
end Go.Proofs.YtkknglmpdmhhjaaGreatDoor.Lx
