/-
  lex.Tokens.
-/
import Derived.Test.YtlboaldikgonoaaDoorLxUnd
import Derived.Test.YtlboaldikgonoaaDoorLxQuo
namespace Go.Proofs.YtlboaldikgonoaaDoor.Lx
open Go Go.RowKit Go.Maps Go.Proofs.YtlboaldikgonoaaDoor.Uni
set_option linter.unusedVariables false
set_option linter.unusedSimpArgs false

theorem kcs_list (t : Tok) : (kcs t).toList.length = 4 := rfl
theorem kcs_one' (t : Tok) : ∀ u ∈ (kcs t).toList, u.oneCell' = true := fun u hu => by
  have h := kcs_one t
  rw [Array.all_eq_true_iff_forall_mem] at h
  exact h u (by simpa using hu)
theorem zeroK_cells : (Value.agg (kcs zeroK)).cells.size = 4 := rfl
def BsK (ps : Array (Nat × Value)) : Sem Value := Instr.buildSlice 27 1 ps
theorem bsK (ps : Array (Nat × Value)) : Instr.buildSlice 27 1 ps = BsK ps := (rfl)
theorem run_bsK (w : World) (t : Tok) : (BsK #[(0, .agg (kcs t))]).run Tryd.prog w = .ok (.slice (some ⟨w.heap.size, 0, none⟩) 1 1) (w.alloc (.cells (kcs t) 33)) := by
  obtain ⟨i, hi, hz, hs, hb⟩ := info_parts infoK3
  exact run_buildSlice w 27 33 1 _ (kcs t) i (.agg (kcs zeroK)) Tryd.underlying27 hi hz (by rw [hs]; decide) (by rw [hs]; decide) (by rw [hs]; have h := Go.Great.fill_whole (s := 4) (by decide) [.agg (kcs t)] ((Array.range (1 * 4)).map ((Value.agg (kcs zeroK)).cells[· % (Value.agg (kcs zeroK)).cells.size]!)) (fun v hv => by rw [List.mem_singleton.1 hv]; rfl) (by simp); simpa [Value.cells] using h)
theorem new_cells (w : World) (g : Nat) (hg : g = w.heap.size) (t : Tok) : ∀ j v, (kcs t).toList[j]? = some v → (w.alloc (.cells (kcs t) 33)).cell? ((⟨g, 0, none⟩ : Addr).add j) = some v := fun j v hv => by
  subst hg
  have ha : (⟨w.heap.size, 0, none⟩ : Addr).add j = ⟨w.heap.size, j, none⟩ := by unfold Addr.add; split <;> simp_all
  rw [ha, (Blk.new w (kcs t) _).cell]
  simpa using hv

/-- Tokens as cells. -/
def tcells (l : List Tok) : List Value := l.flatMap fun t => (kcs t).toList
theorem tcells_snoc (l : List Tok) (t : Tok) : tcells (l ++ [t]) = tcells l ++ (kcs t).toList := by simp [tcells]

/-- What Tokens gives: the error, its place, the tokens. -/
def tokOf (N : Nat) (p : Tk × Nat) : Tok := ⟨p.1.kind, ((N - p.2 : Nat) : Int), p.1.num, p.1.text⟩
def lexT (s : ByteArray) : Nat × Nat × List Tok :=
  if 65536 < s.size then (3, 0, []) else match badS s with
    | some i => (2, i, [])
    | none => match lexF (s.size + 1) s.data.toList with
      | .error n => (2, s.size - n, [])
      | .ok ts => (0, 0, ts.map (tokOf s.size))
def TokPost (s : ByteArray) (w : World) (e : Ending) (w' : World) : Prop :=
  ∃ v, e = .returned (.tuple #[v, .int .i64 ((lexT s).2.1 : Nat), .int .i64 ((lexT s).1 : Nat)]) ∧ w'.ownsRow w.heap.size 33 4 v (lexT s).2.2.length (tcells (lexT s).2.2) ∧ Below w.heap.size w w'

theorem lex_succ (f : Nat) (l : By) : lexF (f + 1) l = match nextF l with
    | .bad r => .error r.length
    | .ok t r => if t.kind = 0 then .ok [(t, (skipL l).2.length)] else match lexF f r with
      | .error n => .error n
      | .ok ts => .ok ((t, (skipL l).2.length) :: ts) := rfl
theorem next_prog {l : By} {t : Tk} {r : By} (h : nextF l = .ok t r) : (t.kind = 0 ∧ r = []) ∨ (t.kind ≠ 0 ∧ r.length < l.length) := by
  unfold nextF at h
  obtain ⟨k, hk⟩ := sk_suffix (skipL_sk l)
  cases hs : skipL l with
  | mk o x =>
    rw [hs] at h hk
    cases o with
    | false => cases h
    | true =>
      simp only at h hk
      rcases one_local h with ⟨rfl, rfl, rfl⟩ | ⟨c, k2, h1, h2, -⟩
      · exact .inl ⟨rfl, rfl⟩
      · refine .inr ⟨h2, ?_⟩
        have e1 := congrArg List.length hk
        have e2 := congrArg List.length h1
        rw [List.length_append] at e1 e2
        simp at e2
        omega

/-- Where the loop stands. -/
structure TI (s : ByteArray) (w wr : World) (done : List (Tk × Nat)) (a f : Nat) (v : Value) : Prop where
  bel : Below w.heap.size w wr
  rd : Rd wr w.heap.size s a
  hi : a ≤ s.size
  own : wr.ownsRow (w.heap.size + 1) 33 4 v done.length (tcells (done.map (tokOf s.size)))
  size : w.heap.size + 1 ≤ wr.heap.size
  fu : s.size < a + f
  len : done.length ≤ a
  eq : lexF (s.size + 1) s.data.toList = match lexF f (s.data.toList.drop a) with | .error n => .error n | .ok ts => .ok (done ++ ts)

theorem own_base {w : World} {b b' e size n : Nat} {v : Value} {xs : List Value} (h : w.ownsRow b e size v n xs) (hb : b' ≤ b) : w.ownsRow b' e size v n xs := by
  refine ⟨h.1, ?_⟩
  rcases h.2 with hn | ⟨g, cap, cur, hv, hg, rest⟩
  · exact .inl hn
  · exact .inr ⟨g, cap, cur, hv, Nat.le_trans hb hg, rest⟩
theorem ti_bad {s : ByteArray} {w wr w2 : World} {done : List (Tk × Nat)} {a f : Nat} {v : Value} (h : TI s w wr done a f v) (hl : ¬ 65536 < s.size) (hb : badS s = none) {r : By} (hn : nextF (s.data.toList.drop a) = .bad r) {b : Nat} (hr : r = s.data.toList.drop b) (hon : On w.heap.size s b wr w2) {W : World} (hW : Below w.heap.size w W) {x y : Int} (hx : x = (b : Int)) (hy : y = 2) : TokPost s w (.returned (.tuple #[.slice none 0 0, .int .i64 x, .int .i64 y])) W := by
  have hf := h.fu
  have hhi := h.hi
  obtain ⟨f', rfl⟩ : ∃ f', f = f' + 1 := ⟨f - 1, by omega⟩
  have heq := h.eq
  rw [lex_succ f' (s.data.toList.drop a), hn] at heq
  have e : lexT s = (2, s.size - r.length, []) := by
    unfold lexT
    rw [if_neg hl, hb]
    simp only
    rw [heq]
  have hbs := hon.1
  have e2 : s.size - r.length = b := by rw [hr, List.length_drop, lsz]; omega
  subst hx hy
  refine ⟨.slice none 0 0, ?_, ?_, hW⟩
  · rw [e, e2]; rfl
  · rw [e]; exact World.ownsRow_nil _ _ _ _
theorem ti_end {s : ByteArray} {w wr : World} {done : List (Tk × Nat)} {a f : Nat} {v : Value} (h : TI s w wr done a f v) (hl : ¬ 65536 < s.size) (hb : badS s = none) {t : Tk} {r : By} (hn : nextF (s.data.toList.drop a) = .ok t r) (hk : t.kind = 0) {W : World} (hW : Below w.heap.size w W) {v' : Value} (hown : W.ownsRow (w.heap.size + 1) 33 4 v' (done.length + 1) (tcells (done.map (tokOf s.size)) ++ (kcs (Got.tok (.ok t r) (atOf s a))).toList)) : TokPost s w (.returned (.tuple #[v', .int .i64 0, .int .i64 0])) W := by
  have hf := h.fu
  have hhi := h.hi
  obtain ⟨f', rfl⟩ : ∃ f', f = f' + 1 := ⟨f - 1, by omega⟩
  have heq := h.eq
  rw [lex_succ f' (s.data.toList.drop a), hn] at heq
  simp only [hk, if_true] at heq
  have e : lexT s = (0, 0, (done ++ [(t, (skipL (s.data.toList.drop a)).2.length)]).map (tokOf s.size)) := by
    unfold lexT
    rw [if_neg hl, hb]
    simp only
    rw [heq]
  refine ⟨v', ?_, ?_, hW⟩
  · rw [e]; rfl
  · rw [e]
    simp only [List.map_append, List.map_cons, List.map_nil, List.length_append, List.length_map, List.length_cons, List.length_nil, Nat.zero_add]
    rw [tcells_snoc]
    exact own_base hown (by omega)
theorem ti_next {s : ByteArray} {w wr : World} {done : List (Tk × Nat)} {a f : Nat} {v : Value} (h : TI s w wr done a f v) {t : Tk} {r : By} (hn : nextF (s.data.toList.drop a) = .ok t r) (hk : t.kind ≠ 0) {b : Nat} (hr : r = s.data.toList.drop b) (hb : b ≤ s.size) {W : World} (hW : Below w.heap.size w W) (hrd : Rd W w.heap.size s b) (hsz : w.heap.size + 1 ≤ W.heap.size) {v' : Value} (hown : W.ownsRow (w.heap.size + 1) 33 4 v' (done.length + 1) (tcells (done.map (tokOf s.size)) ++ (kcs (Got.tok (.ok t r) (atOf s a))).toList)) : (∃ f', TI s w W (done ++ [(t, (skipL (s.data.toList.drop a)).2.length)]) b f' v') ∧ a < b := by
  have hf := h.fu
  have hhi := h.hi
  have hlen := h.len
  obtain ⟨f', rfl⟩ : ∃ f', f = f' + 1 := ⟨f - 1, by omega⟩
  have hp : a < b := by
    rcases next_prog hn with ⟨h0, _⟩ | ⟨_, h1⟩
    · exact absurd h0 hk
    · rw [hr, List.length_drop, List.length_drop, lsz] at h1
      omega
  refine ⟨⟨f', hW, hrd, hb, ?_, hsz, by omega, by simp; omega, ?_⟩, hp⟩
  · rw [List.map_append, List.map_cons, List.map_nil, tcells_snoc, List.length_append]
    exact hown
  · have heq := h.eq
    rw [lex_succ f' (s.data.toList.drop a), hn] at heq
    simp only [hk, if_false] at heq
    rw [heq, ← hr]
    cases lexF f' r with
    | error n => rfl
    | ok ts => simp
end Go.Proofs.YtlboaldikgonoaaDoor.Lx
