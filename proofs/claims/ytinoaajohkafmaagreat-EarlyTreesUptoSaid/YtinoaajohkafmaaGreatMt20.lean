/-
  Texts of this seat in build order: EyStk, EyChk.
-/
import Derived.Test.YtinoaajohkafmaaGreatMt13
import Derived.Test.YtinoaajohkafmaaGreatMt19
/-
  The stack of early.Check.
-/
namespace Go.Proofs.YtinoaajohkafmaaGreat.Ey
open Go Go.RowKit Go.Maps Go.Proofs.YtinoaajohkafmaaGreat.Pa Go.Proofs.YtinoaajohkafmaaGreat.Pr
open Go.Proofs.YtinoaajohkafmaaGreat.Lx
set_option linter.unusedVariables false
set_option linter.unusedSimpArgs false
structure Sp2 where
  b : Nat
  o : Nat
  f : Bool
  l : Bool
  h : Bool
def spd (s : Sp2) : List Value := (scs2 s.b s.o s.f s.l s.h).toList
def spds (l : List Sp2) : List Value := l.flatMap spd
theorem spds_snoc (l : List Sp2) (s : Sp2) : spds (l ++ [s]) = spds l ++ spd s := by simp [spds]
theorem spd_len (s : Sp2) : (spd s).length = 4 := rfl
theorem spds_len (l : List Sp2) : (spds l).length = l.length * 4 := by
  induction l with
  | nil => rfl
  | cons a l ih =>
    have : spds (a :: l) = spd a ++ spds l := rfl
    rw [this, List.length_append, ih, spd_len, List.length_cons]
    omega
theorem spds_at : ∀ {l : List Sp2} {i : Nat} {s : Sp2} {j : Nat} {v : Value}, l[i]? = some s → (spd s)[j]? = some v → (spds l)[i * 4 + j]? = some v
  | [], i, s, j, v, h, _ => by simp at h
  | a :: l, 0, s, j, v, h, k => by
    simp at h; subst h
    have e : spds (a :: l) = spd a ++ spds l := rfl
    rw [e, List.getElem?_append_left (by have := (List.getElem?_eq_some_iff.1 k).1; omega), Nat.zero_mul, Nat.zero_add]
    exact k
  | a :: l, i + 1, s, j, v, h, k => by
    simp at h
    have e : spds (a :: l) = spd a ++ spds l := rfl
    rw [e, List.getElem?_append_right (by rw [spd_len]; omega), spd_len, show (i + 1) * 4 + j - 4 = i * 4 + j from by omega]
    exact spds_at h k
theorem spds_take (l : List Sp2) (n : Nat) : (spds l).take (n * 4) = spds (l.take n) := by
  induction l generalizing n with
  | nil => simp [spds]
  | cons a l ih =>
    cases n with
    | zero => simp [spds]
    | succ n =>
      have e : spds (a :: l) = spd a ++ spds l := rfl
      have e2 : spds ((a :: l).take (n + 1)) = spd a ++ spds (l.take n) := rfl
      rw [e, e2, ← ih n, show (n + 1) * 4 = (spd a).length + n * 4 from by rw [spd_len]; omega, List.take_length_add_append]
def Spds (B : Nat) (w : World) (v : Value) (l : List Sp2) : Prop := w.ownsRow B 44 4 v l.length (spds l)
theorem Spds.below {B : Nat} {w w' : World} {v : Value} {l : List Sp2} (h : Spds B w v l) (hb : Below w.heap.size w w') : Spds B w' v l := h.kept (row := Option.none) ⟨hb.os, hb.tape, hb.output, hb.size, fun k hk _ => hb.block k hk⟩ (by cases hv : v.ownBlock <;> simp)
theorem Spds.shape {B : Nat} {w : World} {v : Value} {l : List Sp2} (h : Spds B w v l) : ∃ a c, v = .slice a l.length c := by
  rcases h.2 with ⟨h1, h2⟩ | ⟨g, cap, cur, h1, _⟩
  · exact ⟨none, 0, by rw [h1, h2]⟩
  · exact ⟨_, _, h1⟩
theorem Spds.last {B : Nat} {w : World} {v : Value} {l : List Sp2} {s : Sp2} (h : Spds B w v (l ++ [s])) : ∃ g c, v = .slice (some ⟨g, 0, none⟩) (l.length + 1) c ∧ l.length + 1 ≤ c ∧ (∀ j u, (spd s)[j]? = some u → w.cell? ⟨g, l.length * 4 + j, none⟩ = some u) ∧ Spds B w (.slice (some ⟨g, 0, none⟩) l.length c) l := by
  have hn : (l ++ [s]).length = l.length + 1 := by simp
  have h' := h
  unfold Spds at h
  rw [hn] at h
  have hc := fun g => World.ownsRow.cells h (g := g)
  rcases h.2 with ⟨h1, h2⟩ | ⟨g, cap, cur, h1, h2, h3, h4, h5, h6, h7⟩
  · omega
  · refine ⟨g, cap, h1, h4, fun j u hu => ?_, ?_⟩
    · have := hc g (by rw [h1]; rfl) (l.length * 4 + j) u (spds_at (by simp) hu)
      have e : (⟨g, 0, none⟩ : Addr).add (l.length * 4 + j) = ⟨g, l.length * 4 + j, none⟩ := by unfold Addr.add; split <;> simp_all
      rwa [e] at this
    · refine ⟨spds_len l, .inr ⟨g, cap, cur, rfl, h2, h3, by omega, h5, h6, ?_⟩⟩
      have e : (spds (l ++ [s])).take (l.length * 4) = spds l := by rw [spds_take]; simp
      rw [← e, ← h7, List.take_take, Nat.min_eq_left (by omega)]
def zer2 : Array Value := #[.pointer none, .bool false, .bool false, .bool false]
theorem ldT (v : Value) : Instr.loadAt 44 v = Ld 44 v := (rfl)
theorem stT (p v : Value) : Instr.storeAt 44 p v = Lx.St 44 p v := (rfl)
theorem alT : Instr.alloc 44 true (.tuple #[]) = Al 44 := (rfl)
theorem bdT (ps : Array (Nat × Value)) : Instr.build 44 ps = Bd 44 ps := (rfl)
theorem ldQ (v : Value) : Instr.loadAt 42 v = Ld 42 v := (rfl)
theorem stQ (p v : Value) : Instr.storeAt 42 p v = Lx.St 42 p v := (rfl)
theorem alQ : Instr.alloc 42 true (.tuple #[]) = Al 42 := (rfl)
def BsT (ps : Array (Nat × Value)) : Sem Value := Instr.buildSlice 45 1 ps
theorem bsT (ps : Array (Nat × Value)) : Instr.buildSlice 45 1 ps = BsT ps := (rfl)
theorem infoT3 : (Tryz.prog.info? 44).map (fun i => (i.zero, i.size, i.bytes)) = some (some (.agg zer2), 4, 16) := by kernel_rfl
theorem infoT2 : (Tryz.prog.info? 44).map (fun i => (i.zero, i.size)) = some (some (.agg zer2), 4) := by kernel_rfl
theorem sizeT : (Tryz.prog.info? 44).map (·.size) = some 4 := by kernel_rfl
theorem infoQ : (Tryz.prog.info? 42).map (fun i => (i.zero, i.size)) = some (some (.agg (qcs false false false)), 3) := by kernel_rfl
theorem scs2_size (a o : Nat) (f l b : Bool) : (scs2 a o f l b).size = 4 := rfl
theorem scs2_one (a o : Nat) (f l b : Bool) : (scs2 a o f l b).all (·.oneCell') = true := by simp [scs2, Value.oneCell']
theorem scs2_0 (a o : Nat) (f l b : Bool) : (scs2 a o f l b)[0]? = some (.pointer (some ⟨a, o, none⟩)) := rfl
theorem qcs_one (f l b : Bool) : (qcs f l b).all (·.oneCell') = true := by simp [qcs, Value.oneCell']
theorem run_alT (w : World) : (Al 44).run Tryz.prog w = .ok (ptr w.heap.size) (w.alloc (.cells zer2 44)) := run_al infoT2 w
theorem run_alQ (w : World) : (Al 42).run Tryz.prog w = .ok (ptr w.heap.size) (w.alloc (.cells (qcs false false false) 42)) := run_al infoQ w
theorem run_stT (w : World) (a o : Nat) (f l b : Bool) : (Lx.St 44 (.pointer (some ⟨w.heap.size, 0, none⟩)) (.agg (scs2 a o f l b))).run Tryz.prog (w.alloc (.cells zer2 44)) = .ok () (w.alloc (.cells (scs2 a o f l b) 44)) := by
  have h : (Lx.St 44 (.pointer (some ⟨w.heap.size, 0, none⟩)) (.agg (scs2 a o f l b))).run Tryz.prog (w.alloc (.cells zer2 44)) = .ok () ((w.alloc (.cells zer2 44)).setRow w.heap.size (scs2 a o f l b)) := run_st_row (Blk.new w zer2 _) (by exact sizeT) (by rfl) (scs2_one _ _ _ _ _)
  rw [h, setRow_new]
theorem run_stQ (w : World) (f l b : Bool) : (Lx.St 42 (.pointer (some ⟨w.heap.size, 0, none⟩)) (.agg (qcs f l b))).run Tryz.prog (w.alloc (.cells (qcs false false false) 42)) = .ok () (w.alloc (.cells (qcs f l b) 42)) := by
  have h : (Lx.St 42 (.pointer (some ⟨w.heap.size, 0, none⟩)) (.agg (qcs f l b))).run Tryz.prog (w.alloc (.cells (qcs false false false) 42)) = .ok () ((w.alloc (.cells (qcs false false false) 42)).setRow w.heap.size (qcs f l b)) := run_st_row (Blk.new w _ _) (by exact sizeQ) (by rfl) (qcs_one _ _ _)
  rw [h, setRow_new]
theorem run_ldT {w : World} {g a o : Nat} {f l b : Bool} {T : TypeId} (h : Blk w g (scs2 a o f l b) T) : (Ld 44 (.pointer (some ⟨g, 0, none⟩))).run Tryz.prog w = .ok (.agg (scs2 a o f l b)) w := by
  have := run_loadAt_mid (P := Tryz.prog) w g 0 44 (scs2 a o f l b).toList _ (h.range (r := []) (by simp)) Tryz.underlying44 rfl sizeT
  simpa [Ld] using this
theorem run_ldQ {w : World} {g : Nat} {f l b : Bool} {T : TypeId} (h : Blk w g (qcs f l b) T) : (Ld 42 (.pointer (some ⟨g, 0, none⟩))).run Tryz.prog w = .ok (.agg (qcs f l b)) w := by
  have := run_loadAt_mid (P := Tryz.prog) w g 0 42 (qcs f l b).toList _ (h.range (r := []) (by simp)) Tryz.underlying42 rfl sizeQ
  simpa [Ld] using this
theorem run_ldTm {w : World} {b o : Nat} {s : Sp2} (h : w.rangeAt b o (spd s)) : (Ld 44 (.pointer (some ⟨b, o, none⟩))).run Tryz.prog w = .ok (.agg (scs2 s.b s.o s.f s.l s.h)) w := by
  have := run_loadAt_mid (P := Tryz.prog) w b o 44 (spd s) _ h Tryz.underlying44 rfl sizeT
  simpa [Ld, spd] using this
theorem run_bdT0 (w : World) (a o : Nat) : (Bd 44 #[(0, .pointer (some ⟨a, o, none⟩))]).run Tryz.prog w = .ok (.agg (scs2 a o false false false)) w := run_build w _ _ _ (by kernel_rfl)
theorem run_bdT1 (w : World) (a o : Nat) (f l b : Bool) : (Bd 44 #[(0, .pointer (some ⟨a, o, none⟩)), (1, .agg (qcs f l b))]).run Tryz.prog w = .ok (.agg (scs2 a o f l b)) w := run_build w _ _ _ (by kernel_rfl)
theorem run_bsT (w : World) (a o : Nat) (f l b : Bool) : (BsT #[(0, .agg (scs2 a o f l b))]).run Tryz.prog w = .ok (.slice (some ⟨w.heap.size, 0, none⟩) 1 1) (w.alloc (.cells (scs2 a o f l b) 44)) := by
  obtain ⟨i, hi, hz, hs, hb⟩ := info_parts infoT3
  exact run_buildSlice w 45 44 1 _ (scs2 a o f l b) i (.agg zer2) Tryz.underlying45 hi hz (by rw [hs]; decide) (by rw [hs]; decide) (by rw [hs]; have h := Go.Great.fill_whole (s := 4) (by decide) [.agg (scs2 a o f l b)] ((Array.range (1 * 4)).map ((Value.agg zer2).cells[· % (Value.agg zer2).cells.size]!)) (fun v hv => by rw [List.mem_singleton.1 hv]; rfl) (by simp); simpa [Value.cells] using h)
theorem spds_app {B : Nat} {w : World} {v : Value} {L : List Sp2} (h : Spds B w v L) (hB : B ≤ w.heap.size) (hl : L.length ≤ 1000000000) (s : Sp2) :
    ∃ g c w', (Builtin.append_ #[45, 45] 45 #[v, .slice (some ⟨w.heap.size, 0, none⟩) 1 1]).run Tryz.prog (w.alloc (.cells (scs2 s.b s.o s.f s.l s.h) 44)) = .ok (.slice (some ⟨g, 0, none⟩) (L.length + 1) c) w' ∧ Spds B w' (.slice (some ⟨g, 0, none⟩) (L.length + 1) c) (L ++ [s]) ∧ (w.alloc (.cells (scs2 s.b s.o s.f s.l s.h) 44)).grownBy w' v.ownBlock ∧ (v.ownBlock = some g ∨ g = w.heap.size + 1) := by
  obtain ⟨i, hi, hz0, hz1, hz2⟩ := info_parts infoT3
  have h' : (w.alloc (.cells (scs2 s.b s.o s.f s.l s.h) 44)).ownsRow B 44 4 v L.length (spds L) := World.ownsRow.alloc h _
  obtain ⟨v', w', hrun, hown, hg, _, hat⟩ := run_append_own_at (P := Tryz.prog) (w.alloc (.cells (scs2 s.b s.o s.f s.l s.h) 44)) B 45 45 44 i (.agg zer2) 4 16 Tryz.underlying45 hi hz0 hz1 hz2 rfl (by decide) v L.length _ h' ⟨w.heap.size, 0, none⟩ 1 1 (spd s) rfl (fun j u hu => by
    have ha : (⟨w.heap.size, 0, none⟩ : Addr).add j = ⟨w.heap.size, j, none⟩ := by unfold Addr.add; split <;> simp_all
    rw [ha, (Blk.new w _ _).cell]
    simpa [spd] using hu) (fun u hu => by
    have h := scs2_one s.b s.o s.f s.l s.h
    rw [Array.all_eq_true_iff_forall_mem] at h
    exact h u (by simpa [spd] using hu)) (by unfold maxLen; omega) (by omega) (by simp; omega)
  obtain ⟨g, c, rfl⟩ := own_succ hown
  refine ⟨g, c, w', hrun, ?_, hg, ?_⟩
  · unfold Spds
    rw [spds_snoc]
    simpa using hown
  · have k : (w.alloc (.cells (scs2 s.b s.o s.f s.l s.h) 44)).heap.size = w.heap.size + 1 := by simp
    rcases hat with e | e
    · left; rw [← e]; rfl
    · right
      rw [k] at e
      simpa [Value.ownBlock] using e
end Go.Proofs.YtinoaajohkafmaaGreat.Ey

/-
  The program's Check: what holds of its stack.
-/
namespace Go.Proofs.YtinoaajohkafmaaGreat.Ey
open Go Go.RowKit Go.Maps Go.Proofs.YtinoaajohkafmaaGreat.Pa Go.Proofs.YtinoaajohkafmaaGreat.Pr
open Go.Proofs.YtinoaajohkafmaaGreat.Lx
set_option linter.unusedVariables false
set_option linter.unusedSimpArgs false
def Bd (K : Nat) : Nat → Tree → Prop
  | 0, _ => False
  | d + 1, .mk _ _ _ ns ks => ks.length ≤ K ∧ ns.length ≤ K ∧ ∀ t ∈ ks, Bd K d t
theorem Bd.bnd {K : Nat} : ∀ {d : Nat} {t : Tree}, Bd K d t → Bnd K d t
  | 0, _, h => by unfold Bd at h; exact h.elim
  | d + 1, .mk k n t ns ks, h => by
    unfold Bd at h
    unfold Bnd
    exact ⟨h.1, fun u hu => (h.2.2 u hu).bnd⟩
theorem okKs_at : ∀ {ps : By} {ts : List Tree}, okKs ps ts = true → ∀ t ∈ ts, ∃ p, okT p t = true
  | _, [], _, t, h => by cases h
  | [], _ :: _, h, _, _ => by simp [okKs] at h
  | p :: ps, t :: r, h, u, hu => by
    simp only [okKs, Bool.and_eq_true] at h
    rcases List.mem_cons.1 hu with rfl | hu
    · exact ⟨p, h.1⟩
    · exact okKs_at h.2 u hu
theorem pl_fun (p : UInt8) (n : Int) (t : By) (nk : Nat) (fk : Int) : placesB p 32 n t nk fk = [70] := by
  unfold placesB layB stL
  simp; decide
theorem fun_one {p : UInt8} {t : Tree} (h : okT p t = true) (hk : t.kind = 32) : t.kids ≠ [] := by
  obtain ⟨k, n, tx, ns, ks⟩ := t
  obtain rfl : k = 32 := hk
  have := (okT_parts h).2
  rw [pl_fun] at this
  obtain ⟨u, r, rfl, -, -⟩ := okKs_cons this
  exact List.cons_ne_nil _ _
theorem right_fun1 {p : UInt8} {k n : Int} {tx : ByteArray} {ns : List ByteArray} {ks : List Tree} (h : okT p (.mk k n tx ns ks) = true) : Fun1 ks := fun t ht hk => by
  obtain ⟨q, hq⟩ := okKs_at (okT_parts h).2 t ht
  exact fun_one hq hk
structure E2 where
  s : Sp2
  t : Tree
  N : Nd
  d : Nat
structure Good2 (K D : Nat) (wB : World) (q : Nat) (e : E2) : Prop where
  at_ : TAt wB e.s.b e.s.o e.t e.N
  bd : Bd K e.d e.t
  str : Str e.t
  ok : ∃ p, okT p e.t = true
  le : e.d ≤ D
  ix : q ≤ K * (D - e.d)
def Stk2 (K D : Nat) (wB : World) (st : List E2) : Prop := ∀ (q : Nat) (e : E2), st[q]? = some e → Good2 K D wB q e
def sz2 (st : List E2) : Nat := (st.map fun e => e.t.sz).sum
def bad2 (st : List E2) : Bool := st.any fun e => badT e.s.f e.s.l e.s.h e.t
theorem Stk2.head {K D : Nat} {wB : World} {st : List E2} {e : E2} (h : Stk2 K D wB (st ++ [e])) : Stk2 K D wB st ∧ Good2 K D wB st.length e := by
  refine ⟨fun q x hx => h q x ?_, h st.length e (by simp)⟩
  rw [List.getElem?_append_left (List.getElem?_eq_some_iff.1 hx).1]
  exact hx
def kidS (b o : Nat) (f l h : Bool) (n : Nat) : List Sp2 := (List.range n).map fun j => ⟨b, o + j * 5, f, l, h⟩
theorem kidS_succ (b o : Nat) (f l h : Bool) (n : Nat) : kidS b o f l h (n + 1) = kidS b o f l h n ++ [⟨b, o + n * 5, f, l, h⟩] := by simp [kidS, List.range_succ]
theorem kidS_len (b o : Nat) (f l h : Bool) (n : Nat) : (kidS b o f l h n).length = n := by simp [kidS]
theorem push2 {K : Nat} {wB : World} {d b o : Nat} {f l h : Bool} : ∀ (n : Nat) (ts : List Tree), ts.length = n → (∀ j t, ts[j]? = some t → ∃ x, TAt wB b (o + j * 5) t x) → (∀ t ∈ ts, Bd K d t ∧ Str t ∧ ∃ p, okT p t = true) →
    ∃ es : List E2, es.map (fun e => e.s) = kidS b o f l h n ∧ bad2 es = badL f l h ts ∧ sz2 es = szs ts ∧ es.length = n ∧ ∀ (q : Nat) (e : E2), es[q]? = some e → TAt wB e.s.b e.s.o e.t e.N ∧ Bd K e.d e.t ∧ Str e.t ∧ (∃ p, okT p e.t = true) ∧ e.d = d := by
  intro n
  induction n with
  | zero =>
    intro ts hn _ _
    obtain rfl := List.eq_nil_of_length_eq_zero hn
    exact ⟨[], rfl, by unfold badL; rfl, rfl, rfl, fun q e h => by simp at h⟩
  | succ m ih =>
    intro ts hn ha hb
    rcases List.eq_nil_or_concat ts with rfl | ⟨r, t, rfl⟩
    · simp at hn
    rw [List.concat_eq_append] at hn ha hb ⊢
    have hr : r.length = m := by simpa using hn
    obtain ⟨es, h1, h2, h3, h4, h5⟩ := ih r hr (fun j u hj => ha j u (by rw [List.getElem?_append_left (List.getElem?_eq_some_iff.1 hj).1]; exact hj)) (fun u hu => hb u (by simp [hu]))
    obtain ⟨x, hx⟩ := ha m t (by rw [← hr]; simp)
    obtain ⟨b1, b2, b3⟩ := hb t (by simp)
    have bl : ∀ (a c : List Tree), badL f l h (a ++ c) = (badL f l h a || badL f l h c) := fun a c => by
      induction a with
      | nil => simp [badL]
      | cons y ys ihy => simp only [List.cons_append, badL]; rw [ihy, Bool.or_assoc]
    have sl : ∀ (a c : List Tree), szs (a ++ c) = szs a + szs c := fun a c => by
      induction a with
      | nil => simp [szs]
      | cons y ys ihy => simp only [List.cons_append, szs]; rw [ihy, Nat.add_assoc]
    refine ⟨es ++ [⟨⟨b, o + m * 5, f, l, h⟩, t, x, d⟩], ?_, ?_, ?_, by simp [h4], fun q e he => ?_⟩
    · rw [List.map_append, h1, kidS_succ]; rfl
    · rw [bl]
      unfold bad2 at h2 ⊢
      rw [List.any_append, h2]
      simp [badL]
    · rw [sl]
      unfold sz2 at h3 ⊢
      rw [List.map_append, List.sum_append, h3]
      simp [szs]
    · by_cases hq : q < es.length
      · rw [List.getElem?_append_left hq] at he
        exact h5 q e he
      · by_cases hq2 : q = es.length
        · subst hq2
          simp at he
          subst he
          exact ⟨hx, b1, b2, b3, rfl⟩
        · rw [List.getElem?_eq_none (by simp; omega)] at he
          cases he
structure RI2 (K D : Nat) (wB wr : World) (R : Bool) (v : Value) (st : List E2) : Prop where
  bel : Below wB.heap.size wB wr
  own : Spds wB.heap.size wr v (st.map fun e => e.s)
  stk : Stk2 K D wB st
  eq : R = bad2 st
theorem ri2_push {K D : Nat} {wB wr : World} {R : Bool} {v : Value} {st : List E2} {s : Sp2} {k n : Int} {tx : ByteArray} {ns : List ByteArray} {ks : List Tree} {N : Nd} {d b2 o2 : Nat} (hst : Stk2 K D wB st) (hG : Good2 K D wB st.length ⟨s, .mk k n tx ns ks, N, d + 1⟩)
    (hR : R = (bad2 st || badL (insf k s.f) (insl k s.l) (insb k) ks)) (hkd : ∀ j t, ks[j]? = some t → ∃ x, TAt wB b2 (o2 + j * 5) t x) (hb : Below wB.heap.size wB wr) (hown : Spds wB.heap.size wr v ((st.map fun e => e.s) ++ kidS b2 o2 (insf k s.f) (insl k s.l) (insb k) ks.length)) :
    ∃ st', RI2 K D wB wr R v st' ∧ sz2 st' < sz2 (st ++ [⟨s, .mk k n tx ns ks, N, d + 1⟩]) := by
  have hbd : ks.length ≤ K ∧ ns.length ≤ K ∧ ∀ t ∈ ks, Bd K d t := by have := hG.bd; unfold Bd at this; exact this
  obtain ⟨p, hp⟩ := hG.ok
  have hok := okKs_at (okT_parts hp).2
  obtain ⟨es, g1, g2, g3, g4, g5⟩ := push2 (K := K) (wB := wB) (d := d) (b := b2) (o := o2) (f := insf k s.f) (l := insl k s.l) (h := insb k) ks.length ks rfl hkd (fun t ht => ⟨hbd.2.2 t ht, by obtain ⟨i, hi, rfl⟩ := List.getElem_of_mem ht; exact hG.str.of.2.2.at (List.getElem?_eq_getElem hi), hok t ht⟩)
  refine ⟨st ++ es, ⟨hb, by rw [List.map_append, g1]; exact hown, fun q e he => ?_, ?_⟩, ?_⟩
  · by_cases hq : q < st.length
    · rw [List.getElem?_append_left hq] at he
      exact hst q e he
    · rw [List.getElem?_append_right (by omega)] at he
      obtain ⟨a1, a2, a3, a4, a5⟩ := g5 _ _ he
      have hx := (List.getElem?_eq_some_iff.1 he).1
      have i1 := hG.ix
      have i2 := hG.le
      have i3 := hbd.1
      simp only at i1 i2
      refine ⟨a1, a2, a3, a4, by rw [a5]; omega, ?_⟩
      rw [a5, show D - d = (D - (d + 1)) + 1 from by omega, Nat.mul_succ]
      omega
  · rw [hR]
    unfold bad2 at g2 ⊢
    rw [List.any_append, g2]
  · unfold sz2 at g3 ⊢
    rw [List.map_append, List.map_append, List.sum_append, List.sum_append, g3]
    simp [Tree.sz]
structure IR (wB : World) (g5 g6 a o : Nat) (f l h f2 l2 h2 : Bool) (L : List Sp2) (v : Value) (wr : World) : Prop where
  own : Spds wB.heap.size wr v L
  b5 : Blk wr g5 (scs2 a o f l h) 44
  b6 : Blk wr g6 (qcs f2 l2 h2) 42
  ne5 : v.ownBlock ≠ some g5
  bel : Below wB.heap.size wB wr
theorem own_neB {w : World} {base b : Nat} {e t : TypeId} {size n : Nat} {v : Value} {xs : List Value} {cs : Array Value} (h : w.ownsRow base e size v n xs) (hb : Blk w b cs t) (hte : t ≠ e) : v.ownBlock ≠ some b := by
  rcases h.2 with ⟨rfl, _⟩ | ⟨g, cap, cur, rfl, _, hgb, _⟩
  · simp [Value.ownBlock]
  · simp only [Value.ownBlock, ne_eq, Option.some.injEq]
    rintro rfl
    have := (show w.heap[g]? = _ from hb).symm.trans hgb
    simp at this
    exact hte this.2
theorem IR.drew {wB : World} {g5 g6 a o : Nat} {f l h f2 l2 h2 : Bool} {L : List Sp2} {v : Value} {wr : World} (H : IR wB g5 g6 a o f l h f2 l2 h2 L v wr) : IR wB g5 g6 a o f l h f2 l2 h2 L v wr.drew := ⟨H.own, H.b5, H.b6, H.ne5, H.bel.drew⟩
theorem IR.app {wB : World} {g5 g6 a o : Nat} {f l h f2 l2 h2 : Bool} {L : List Sp2} {v : Value} {wr : World} (H : IR wB g5 g6 a o f l h f2 l2 h2 L v wr) (hl : L.length ≤ 1000000000) (s : Sp2) :
    ∃ g c w', (Builtin.append_ #[45, 45] 45 #[v, .slice (some ⟨wr.heap.size, 0, none⟩) 1 1]).run Tryz.prog (wr.alloc (.cells (scs2 s.b s.o s.f s.l s.h) 44)) = .ok (.slice (some ⟨g, 0, none⟩) (L.length + 1) c) w' ∧ IR wB g5 g6 a o f l h f2 l2 h2 (L ++ [s]) (.slice (some ⟨g, 0, none⟩) (L.length + 1) c) w' := by
  obtain ⟨g, c, w', hrun, hown, hg, hat⟩ := spds_app H.own H.bel.size hl s
  have hw5 := H.b5.lt
  refine ⟨g, c, w', hrun, hown, ?_, ?_, ?_, ?_⟩
  · refine (hg.block g5 (by simp; omega) (fun e => H.ne5 e.symm)).trans ?_
    exact H.b5.old _
  · refine (hg.block g6 (by have := H.b6.lt; simp; omega) (fun e => own_neB H.own H.b6 (by decide) e.symm)).trans ?_
    exact H.b6.old _
  · show some g ≠ some g5
    intro e
    cases e
    rcases hat with h1 | h1
    · exact H.ne5 h1
    · omega
  · exact (H.bel.alloc H.bel.size _).grown hg (by have := H.bel.size; simp; omega) (fun k hk => (World.ownsRow.lt H.own k hk).1)
end Go.Proofs.YtinoaajohkafmaaGreat.Ey
