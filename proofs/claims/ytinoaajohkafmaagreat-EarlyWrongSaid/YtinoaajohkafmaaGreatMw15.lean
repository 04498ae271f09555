/-
  Texts of this seat in build order: EyChk, PrLoop, PrRest, PrTry, PrRestB, PrSt, PrExW, PrExV, PrAsm, EyWr, EyChkW, RpSpec.
-/
import Derived.Test.YtinoaajohkafmaaGreatMw14
import Derived.Test.YtinoaajohkafmaaGreatMw06
import Derived.Test.YtinoaajohkafmaaGreatMw09
import Derived.Test.YtinoaajohkafmaaGreatMw03
/-
  The program's Check: what holds of its stack.
-/
namespace Go.Proofs.YtinoaajohkafmaaGreat.Ey
open Go Go.RowKit Go.Maps Go.Proofs.YtinoaajohkafmaaGreat.Pa Go.Proofs.YtinoaajohkafmaaGreat.Pr
open Go.Proofs.YtinoaajohkafmaaGreat.Lx
set_option linter.unusedVariables false
set_option linter.unusedSimpArgs false
def Bd (K : Nat) : Nat → Tree → Prop
  | 0, _ => False
  | d + 1, .mk _ _ _ ns ks => ks.length ≤ K ∧ ns.length ≤ K ∧ ∀ t ∈ ks, Bd K d t
theorem Bd.bnd {K : Nat} : ∀ {d : Nat} {t : Tree}, Bd K d t → Bnd K d t
  | 0, _, h => by unfold Bd at h; exact h.elim
  | d + 1, .mk k n t ns ks, h => by
    unfold Bd at h
    unfold Bnd
    exact ⟨h.1, fun u hu => (h.2.2 u hu).bnd⟩
theorem okKs_at : ∀ {ps : By} {ts : List Tree}, okKs ps ts = true → ∀ t ∈ ts, ∃ p, okT p t = true
  | _, [], _, t, h => by cases h
  | [], _ :: _, h, _, _ => by simp [okKs] at h
  | p :: ps, t :: r, h, u, hu => by
    simp only [okKs, Bool.and_eq_true] at h
    rcases List.mem_cons.1 hu with rfl | hu
    · exact ⟨p, h.1⟩
    · exact okKs_at h.2 u hu
theorem pl_fun (p : UInt8) (n : Int) (t : By) (nk : Nat) (fk : Int) : placesB p 32 n t nk fk = [70] := by
  unfold placesB layB stL
  simp; decide
theorem fun_one {p : UInt8} {t : Tree} (h : okT p t = true) (hk : t.kind = 32) : t.kids ≠ [] := by
  obtain ⟨k, n, tx, ns, ks⟩ := t
  obtain rfl : k = 32 := hk
  have := (okT_parts h).2
  rw [pl_fun] at this
  obtain ⟨u, r, rfl, -, -⟩ := okKs_cons this
  exact List.cons_ne_nil _ _
theorem right_fun1 {p : UInt8} {k n : Int} {tx : ByteArray} {ns : List ByteArray} {ks : List Tree} (h : okT p (.mk k n tx ns ks) = true) : Fun1 ks := fun t ht hk => by
  obtain ⟨q, hq⟩ := okKs_at (okT_parts h).2 t ht
  exact fun_one hq hk
structure E2 where
  s : Sp2
  t : Tree
  N : Nd
  d : Nat
structure Good2 (K D : Nat) (wB : World) (q : Nat) (e : E2) : Prop where
  at_ : TAt wB e.s.b e.s.o e.t e.N
  bd : Bd K e.d e.t
  str : Str e.t
  ok : ∃ p, okT p e.t = true
  le : e.d ≤ D
  ix : q ≤ K * (D - e.d)
def Stk2 (K D : Nat) (wB : World) (st : List E2) : Prop := ∀ (q : Nat) (e : E2), st[q]? = some e → Good2 K D wB q e
def sz2 (st : List E2) : Nat := (st.map fun e => e.t.sz).sum
def bad2 (st : List E2) : Bool := st.any fun e => badT e.s.f e.s.l e.s.h e.t
theorem Stk2.head {K D : Nat} {wB : World} {st : List E2} {e : E2} (h : Stk2 K D wB (st ++ [e])) : Stk2 K D wB st ∧ Good2 K D wB st.length e := by
  refine ⟨fun q x hx => h q x ?_, h st.length e (by simp)⟩
  rw [List.getElem?_append_left (List.getElem?_eq_some_iff.1 hx).1]
  exact hx
def kidS (b o : Nat) (f l h : Bool) (n : Nat) : List Sp2 := (List.range n).map fun j => ⟨b, o + j * 5, f, l, h⟩
theorem kidS_succ (b o : Nat) (f l h : Bool) (n : Nat) : kidS b o f l h (n + 1) = kidS b o f l h n ++ [⟨b, o + n * 5, f, l, h⟩] := by simp [kidS, List.range_succ]
theorem kidS_len (b o : Nat) (f l h : Bool) (n : Nat) : (kidS b o f l h n).length = n := by simp [kidS]
theorem push2 {K : Nat} {wB : World} {d b o : Nat} {f l h : Bool} : ∀ (n : Nat) (ts : List Tree), ts.length = n → (∀ j t, ts[j]? = some t → ∃ x, TAt wB b (o + j * 5) t x) → (∀ t ∈ ts, Bd K d t ∧ Str t ∧ ∃ p, okT p t = true) →
    ∃ es : List E2, es.map (fun e => e.s) = kidS b o f l h n ∧ bad2 es = badL f l h ts ∧ sz2 es = szs ts ∧ es.length = n ∧ ∀ (q : Nat) (e : E2), es[q]? = some e → TAt wB e.s.b e.s.o e.t e.N ∧ Bd K e.d e.t ∧ Str e.t ∧ (∃ p, okT p e.t = true) ∧ e.d = d := by
  intro n
  induction n with
  | zero =>
    intro ts hn _ _
    obtain rfl := List.eq_nil_of_length_eq_zero hn
    exact ⟨[], rfl, by unfold badL; rfl, rfl, rfl, fun q e h => by simp at h⟩
  | succ m ih =>
    intro ts hn ha hb
    rcases List.eq_nil_or_concat ts with rfl | ⟨r, t, rfl⟩
    · simp at hn
    rw [List.concat_eq_append] at hn ha hb ⊢
    have hr : r.length = m := by simpa using hn
    obtain ⟨es, h1, h2, h3, h4, h5⟩ := ih r hr (fun j u hj => ha j u (by rw [List.getElem?_append_left (List.getElem?_eq_some_iff.1 hj).1]; exact hj)) (fun u hu => hb u (by simp [hu]))
    obtain ⟨x, hx⟩ := ha m t (by rw [← hr]; simp)
    obtain ⟨b1, b2, b3⟩ := hb t (by simp)
    have bl : ∀ (a c : List Tree), badL f l h (a ++ c) = (badL f l h a || badL f l h c) := fun a c => by
      induction a with
      | nil => simp [badL]
      | cons y ys ihy => simp only [List.cons_append, badL]; rw [ihy, Bool.or_assoc]
    have sl : ∀ (a c : List Tree), szs (a ++ c) = szs a + szs c := fun a c => by
      induction a with
      | nil => simp [szs]
      | cons y ys ihy => simp only [List.cons_append, szs]; rw [ihy, Nat.add_assoc]
    refine ⟨es ++ [⟨⟨b, o + m * 5, f, l, h⟩, t, x, d⟩], ?_, ?_, ?_, by simp [h4], fun q e he => ?_⟩
    · rw [List.map_append, h1, kidS_succ]; rfl
    · rw [bl]
      unfold bad2 at h2 ⊢
      rw [List.any_append, h2]
      simp [badL]
    · rw [sl]
      unfold sz2 at h3 ⊢
      rw [List.map_append, List.sum_append, h3]
      simp [szs]
    · by_cases hq : q < es.length
      · rw [List.getElem?_append_left hq] at he
        exact h5 q e he
      · by_cases hq2 : q = es.length
        · subst hq2
          simp at he
          subst he
          exact ⟨hx, b1, b2, b3, rfl⟩
        · rw [List.getElem?_eq_none (by simp; omega)] at he
          cases he
structure RI2 (K D : Nat) (wB wr : World) (R : Bool) (v : Value) (st : List E2) : Prop where
  bel : Below wB.heap.size wB wr
  own : Spds wB.heap.size wr v (st.map fun e => e.s)
  stk : Stk2 K D wB st
  eq : R = bad2 st
theorem ri2_push {K D : Nat} {wB wr : World} {R : Bool} {v : Value} {st : List E2} {s : Sp2} {k n : Int} {tx : ByteArray} {ns : List ByteArray} {ks : List Tree} {N : Nd} {d b2 o2 : Nat} (hst : Stk2 K D wB st) (hG : Good2 K D wB st.length ⟨s, .mk k n tx ns ks, N, d + 1⟩)
    (hR : R = (bad2 st || badL (insf k s.f) (insl k s.l) (insb k) ks)) (hkd : ∀ j t, ks[j]? = some t → ∃ x, TAt wB b2 (o2 + j * 5) t x) (hb : Below wB.heap.size wB wr) (hown : Spds wB.heap.size wr v ((st.map fun e => e.s) ++ kidS b2 o2 (insf k s.f) (insl k s.l) (insb k) ks.length)) :
    ∃ st', RI2 K D wB wr R v st' ∧ sz2 st' < sz2 (st ++ [⟨s, .mk k n tx ns ks, N, d + 1⟩]) := by
  have hbd : ks.length ≤ K ∧ ns.length ≤ K ∧ ∀ t ∈ ks, Bd K d t := by have := hG.bd; unfold Bd at this; exact this
  obtain ⟨p, hp⟩ := hG.ok
  have hok := okKs_at (okT_parts hp).2
  obtain ⟨es, g1, g2, g3, g4, g5⟩ := push2 (K := K) (wB := wB) (d := d) (b := b2) (o := o2) (f := insf k s.f) (l := insl k s.l) (h := insb k) ks.length ks rfl hkd (fun t ht => ⟨hbd.2.2 t ht, by obtain ⟨i, hi, rfl⟩ := List.getElem_of_mem ht; exact hG.str.of.2.2.at (List.getElem?_eq_getElem hi), hok t ht⟩)
  refine ⟨st ++ es, ⟨hb, by rw [List.map_append, g1]; exact hown, fun q e he => ?_, ?_⟩, ?_⟩
  · by_cases hq : q < st.length
    · rw [List.getElem?_append_left hq] at he
      exact hst q e he
    · rw [List.getElem?_append_right (by omega)] at he
      obtain ⟨a1, a2, a3, a4, a5⟩ := g5 _ _ he
      have hx := (List.getElem?_eq_some_iff.1 he).1
      have i1 := hG.ix
      have i2 := hG.le
      have i3 := hbd.1
      simp only at i1 i2
      refine ⟨a1, a2, a3, a4, by rw [a5]; omega, ?_⟩
      rw [a5, show D - d = (D - (d + 1)) + 1 from by omega, Nat.mul_succ]
      omega
  · rw [hR]
    unfold bad2 at g2 ⊢
    rw [List.any_append, g2]
  · unfold sz2 at g3 ⊢
    rw [List.map_append, List.map_append, List.sum_append, List.sum_append, g3]
    simp [Tree.sz]
structure IR (wB : World) (g5 g6 a o : Nat) (f l h f2 l2 h2 : Bool) (L : List Sp2) (v : Value) (wr : World) : Prop where
  own : Spds wB.heap.size wr v L
  b5 : Blk wr g5 (scs2 a o f l h) 44
  b6 : Blk wr g6 (qcs f2 l2 h2) 42
  ne5 : v.ownBlock ≠ some g5
  bel : Below wB.heap.size wB wr
theorem own_neB {w : World} {base b : Nat} {e t : TypeId} {size n : Nat} {v : Value} {xs : List Value} {cs : Array Value} (h : w.ownsRow base e size v n xs) (hb : Blk w b cs t) (hte : t ≠ e) : v.ownBlock ≠ some b := by
  rcases h.2 with ⟨rfl, _⟩ | ⟨g, cap, cur, rfl, _, hgb, _⟩
  · simp [Value.ownBlock]
  · simp only [Value.ownBlock, ne_eq, Option.some.injEq]
    rintro rfl
    have := (show w.heap[g]? = _ from hb).symm.trans hgb
    simp at this
    exact hte this.2
theorem IR.drew {wB : World} {g5 g6 a o : Nat} {f l h f2 l2 h2 : Bool} {L : List Sp2} {v : Value} {wr : World} (H : IR wB g5 g6 a o f l h f2 l2 h2 L v wr) : IR wB g5 g6 a o f l h f2 l2 h2 L v wr.drew := ⟨H.own, H.b5, H.b6, H.ne5, H.bel.drew⟩
theorem IR.app {wB : World} {g5 g6 a o : Nat} {f l h f2 l2 h2 : Bool} {L : List Sp2} {v : Value} {wr : World} (H : IR wB g5 g6 a o f l h f2 l2 h2 L v wr) (hl : L.length ≤ 1000000000) (s : Sp2) :
    ∃ g c w', (Builtin.append_ #[45, 45] 45 #[v, .slice (some ⟨wr.heap.size, 0, none⟩) 1 1]).run Tryz.prog (wr.alloc (.cells (scs2 s.b s.o s.f s.l s.h) 44)) = .ok (.slice (some ⟨g, 0, none⟩) (L.length + 1) c) w' ∧ IR wB g5 g6 a o f l h f2 l2 h2 (L ++ [s]) (.slice (some ⟨g, 0, none⟩) (L.length + 1) c) w' := by
  obtain ⟨g, c, w', hrun, hown, hg, hat⟩ := spds_app H.own H.bel.size hl s
  have hw5 := H.b5.lt
  refine ⟨g, c, w', hrun, hown, ?_, ?_, ?_, ?_⟩
  · refine (hg.block g5 (by simp; omega) (fun e => H.ne5 e.symm)).trans ?_
    exact H.b5.old _
  · refine (hg.block g6 (by have := H.b6.lt; simp; omega) (fun e => own_neB H.own H.b6 (by decide) e.symm)).trans ?_
    exact H.b6.old _
  · show some g ≠ some g5
    intro e
    cases e
    rcases hat with h1 | h1
    · exact H.ne5 h1
    · omega
  · exact (H.bel.alloc H.bel.size _).grown hg (by have := H.bel.size; simp; omega) (fun k hk => (World.ownsRow.lt H.own k hk).1)
end Go.Proofs.YtinoaajohkafmaaGreat.Ey

/-
  The reference's loops over statements, expressions, names; block, Right, open.
-/
namespace Go.Proofs.YtinoaajohkafmaaGreat.Pr
open Go Go.RowKit Go.Proofs.YtinoaajohkafmaaGreat.Pa Go.Proofs.YtinoaajohkafmaaGreat.Uni
open Go.Proofs.YtinoaajohkafmaaGreat.Lx
set_option linter.unusedVariables false
set_option linter.unusedSimpArgs false
attribute [local go_sem ↓] ldK stK alK bdK bsK ldN stN alN bdN bsN bs_un3 bs_bin12
attribute [local irreducible] kcs ncs ncells un3_cs bin12_cs
attribute [local go_sem] run_alN run_stNg run_ldNg run_bdN0 run_un3 run_bin12
theorem Kept.bl {w W : World} (h : Below w.heap.size w W) : Below w.heap.size w W := h
end Go.Proofs.YtinoaajohkafmaaGreat.Pr

/-
  The reference's functions on trees: what is left of the kinds.
-/
namespace Go.Proofs.YtinoaajohkafmaaGreat.Pr
open Go Go.RowKit Go.Proofs.YtinoaajohkafmaaGreat.Pa Go.Proofs.YtinoaajohkafmaaGreat.Uni
open Go.Proofs.YtinoaajohkafmaaGreat.Lx
set_option linter.unusedVariables false
set_option linter.unusedSimpArgs false
attribute [local go_sem ↓] ldK stK alK bdK bsK ldN stN alN bdN bsN bs_un3 bs_bin12
attribute [local irreducible] kcs ncs ncells un3_cs bin12_cs
attribute [local go_sem] run_alN run_stNg run_ldNg run_bdN0 run_un3 run_bin12
end Go.Proofs.YtinoaajohkafmaaGreat.Pr

/-
  The reference's try.
-/
namespace Go.Proofs.YtinoaajohkafmaaGreat.Pr
open Go Go.RowKit Go.Proofs.YtinoaajohkafmaaGreat.Pa Go.Proofs.YtinoaajohkafmaaGreat.Uni
open Go.Proofs.YtinoaajohkafmaaGreat.Lx
set_option linter.unusedVariables false
set_option linter.unusedSimpArgs false
attribute [local go_sem ↓] ldK stK alK bdK bsK ldN stN alN bdN bsN bs_un3 bs_bin12
attribute [local irreducible] kcs ncs ncells un3_cs bin12_cs
attribute [local go_sem] run_alN run_stNg run_ldNg run_bdN0 run_un3 run_bin12
end Go.Proofs.YtinoaajohkafmaaGreat.Pr

/-
  The reference's functions on trees: what is left of the kinds, second part.
-/
namespace Go.Proofs.YtinoaajohkafmaaGreat.Pr
open Go Go.RowKit Go.Proofs.YtinoaajohkafmaaGreat.Pa Go.Proofs.YtinoaajohkafmaaGreat.Uni
open Go.Proofs.YtinoaajohkafmaaGreat.Lx
set_option linter.unusedVariables false
set_option linter.unusedSimpArgs false
attribute [local go_sem ↓] ldK stK alK bdK bsK ldN stN alN bdN bsN bs_un3 bs_bin12
attribute [local irreducible] kcs ncs ncells un3_cs bin12_cs
attribute [local go_sem] run_alN run_stNg run_ldNg run_bdN0 run_un3 run_bin12
end Go.Proofs.YtinoaajohkafmaaGreat.Pr

/-
  The reference's statement, kind by kind.
-/
namespace Go.Proofs.YtinoaajohkafmaaGreat.Pr
open Go Go.RowKit Go.Proofs.YtinoaajohkafmaaGreat.Pa Go.Proofs.YtinoaajohkafmaaGreat.Uni
open Go.Proofs.YtinoaajohkafmaaGreat.Lx
set_option linter.unusedVariables false
set_option linter.unusedSimpArgs false
attribute [local go_sem ↓] ldK stK alK bdK bsK ldN stN alN bdN bsN bs_un3 bs_bin12
attribute [local irreducible] kcs ncs ncells un3_cs bin12_cs
attribute [local go_sem] run_alN run_stNg run_ldNg run_bdN0 run_un3 run_bin12
end Go.Proofs.YtinoaajohkafmaaGreat.Pr

/-
  The reference's expression, kind by kind: the walks.
-/
namespace Go.Proofs.YtinoaajohkafmaaGreat.Pr
open Go Go.RowKit Go.Proofs.YtinoaajohkafmaaGreat.Pa Go.Proofs.YtinoaajohkafmaaGreat.Uni
open Go.Proofs.YtinoaajohkafmaaGreat.Lx
set_option linter.unusedVariables false
set_option linter.unusedSimpArgs false
attribute [local go_sem ↓] ldK stK alK bdK bsK ldN stN alN bdN bsN bs_un3 bs_bin12
attribute [local irreducible] kcs ncs ncells un3_cs bin12_cs
attribute [local go_sem] run_alN run_stNg run_ldNg run_bdN0 run_un3 run_bin12
end Go.Proofs.YtinoaajohkafmaaGreat.Pr

/-
  The reference's expression, kind by kind: the walks.
-/
namespace Go.Proofs.YtinoaajohkafmaaGreat.Pr
open Go Go.RowKit Go.Proofs.YtinoaajohkafmaaGreat.Pa Go.Proofs.YtinoaajohkafmaaGreat.Uni
open Go.Proofs.YtinoaajohkafmaaGreat.Lx
set_option linter.unusedVariables false
set_option linter.unusedSimpArgs false
attribute [local go_sem ↓] ldK stK alK bdK bsK ldN stN alN bdN bsN bs_un3 bs_bin12
attribute [local irreducible] kcs ncs ncells un3_cs bin12_cs
attribute [local go_sem] run_alN run_stNg run_ldNg run_bdN0 run_un3 run_bin12
end Go.Proofs.YtinoaajohkafmaaGreat.Pr

/-
  The reference's Right: at every tree in memory whose texts are of at most 2^20 bytes.
-/
namespace Go.Proofs.YtinoaajohkafmaaGreat.Pr
open Go Go.RowKit Go.Proofs.YtinoaajohkafmaaGreat.Pa Go.Proofs.YtinoaajohkafmaaGreat.Uni
open Go.Proofs.YtinoaajohkafmaaGreat.Lx
set_option linter.unusedVariables false
set_option linter.unusedSimpArgs false
attribute [local go_sem ↓] ldK stK alK bdK bsK ldN stN alN bdN bsN bs_un3 bs_bin12
attribute [local irreducible] kcs ncs ncells un3_cs bin12_cs
attribute [local go_sem] run_alN run_stNg run_ldNg run_bdN0 run_un3 run_bin12
end Go.Proofs.YtinoaajohkafmaaGreat.Pr

/-
  The reference's wrong.
-/
namespace Go.Proofs.YtinoaajohkafmaaGreat.Ey
open Go Go.RowKit Go.Maps Go.Proofs.YtinoaajohkafmaaGreat.Pa Go.Proofs.YtinoaajohkafmaaGreat.Pr
open Go.Proofs.YtinoaajohkafmaaGreat.Lx
set_option linter.unusedVariables false
set_option linter.unusedSimpArgs false
attribute [local go_sem ↓] ldK stK alK bdK bsK ldN stN alN bdN bsN
attribute [local irreducible] kcs ncs ncells
attribute [local go_sem] run_alN run_stNg run_ldNg run_bdN0
end Go.Proofs.YtinoaajohkafmaaGreat.Ey

/-
  The program's Check, walked.
-/
namespace Go.Proofs.YtinoaajohkafmaaGreat.Ey
open Go Go.RowKit Go.Maps Go.Proofs.YtinoaajohkafmaaGreat.Pa Go.Proofs.YtinoaajohkafmaaGreat.Pr
open Go.Proofs.YtinoaajohkafmaaGreat.Lx
set_option linter.unusedVariables false
set_option linter.unusedSimpArgs false
attribute [local go_sem ↓] ldK stK alK bdK bsK ldN stN alN bdN bsN ldT stT alT bdT bsT ldQ stQ alQ
attribute [local irreducible] kcs ncs ncells scs2 qcs zer2
attribute [local go_sem] run_alT run_stT run_bdT0 run_bdT1 run_bsT run_alQ run_stQ
theorem step_app2 {P : Program} {ops : Array Oper} {o : Oper} {a : Act} {w w' : World} {K : Act → World → Prop} {Q : Exit → Act → World → Prop} {E : Prop} (hg : o.guard = none) (s x : Operand) (t : TypeId) (hop : o.op = Op.call { callee := Callee.builtin Builtin.append, args := #[s, x], argTypes := #[t, t] }) (ht : o.type = t)
    (v1 v2 v' : Value) (hs : a.eval s = v1) (hx : a.eval x = v2) (hrun : (Builtin.append_ #[t, t] t #[v1, v2]).run P w = .ok v' w') (hK : K (a.put o.dst v') w') : if Region.wanted o (yielded ops a.tmps) = true then Oper.wp P o a w K Q else E := by
  have hw : Region.wanted o (yielded ops a.tmps) = true := by simp [Region.wanted, hg]
  rw [if_pos hw]
  subst ht
  unfold Oper.wp
  simp [execOp, hop, resolve, invoke, builtin, hs, hx, hrun, Result.andThen]
  exact hK
def resN (R : Bool) : Int := if R then 2 else 0
set_option maxRecDepth 100000 in
set_option maxHeartbeats 8000000 in
theorem check_any {t : Tree} {N : Nd} {w : World} {K D : Nat} (hr : Rd w t N) (hs : Str t) (hb : Bd K D t) (hK : K ≤ 100000) (hKD : K * D ≤ 900000000) : Calls Tryz.prog 10 #[.agg (ncs N)] w (PostR w (.int .i64 (checkN t))) := by
  obtain ⟨wB, hwB⟩ : ∃ wB, w.alloc (.cells (ncs N) 25) = wB := ⟨_, rfl⟩
  have hbw : Below w.heap.size w wB := by rw [← hwB]; exact bel1
  have hsz : wB.heap.size = w.heap.size + 1 := by rw [← hwB]; simp
  have hn := Blk.new w (ncs N) 25
  rw [hwB] at hn
  have hT : TAt wB w.heap.size 0 t N := by
    refine ⟨⟨by omega, fun j v hv => ?_⟩, hr.below hbw⟩
    rw [Nat.zero_add, hn.cell j]
    simpa using hv
  have hld : (Ld 25 (.pointer (some ⟨w.heap.size, 0, none⟩))).run Tryz.prog wB = .ok (.agg (ncs N)) wB := hT.k.ld (Below.refl _ _)
  have hpr := pright_any (hr.below hbw) hs hb.bnd hK hKD
  have HBW := Lib.hid hbw
  have HWB := Lib.hid hwB
  cases hok : okT 80 t with
  | false =>
    have e : checkN t = 1 := by unfold checkN; rw [hok]; rfl
    rw [e]
    rw [hok] at hpr
    rw [← hwB] at hld hpr
    clear hr hs hb hK hKD hbw hsz hT hok e hwB hn
    go_enter Tryz.func10, Tryz.ntmps10
    go_wp2_with (go_at_call 13; (with_reducible refine hpr.mono ?_); rintro e w2 ⟨rfl, hb2⟩)
    go_ret
    exact ⟨rfl, by have h := HBW.out; rw [← HWB.out] at h; exact h.trans (hb2.mono h.size)⟩
  | true =>
    obtain ⟨R, hR⟩ : ∃ R, badT false false false t = R := ⟨_, rfl⟩
    have e : checkN t = resN R := by unfold checkN resN; rw [hok, hR]; rfl
    rw [e]
    rw [hok] at hpr
    have hst : ∀ W v, Below wB.heap.size wB W → Spds wB.heap.size W v [⟨w.heap.size, 0, false, false, false⟩] → ∃ st, RI2 K D wB W R v st ∧ sz2 st = t.sz := fun W v h1 h2 =>
      ⟨[⟨⟨w.heap.size, 0, false, false, false⟩, t, N, D⟩], ⟨h1, h2, fun q e he => by
        cases q with
        | zero =>
          simp at he
          subst he
          exact ⟨hT, hb, hs, ⟨80, hok⟩, Nat.le_refl _, by simp⟩
        | succ q => simp at he, by unfold bad2; simp [hR]⟩, by unfold sz2; simp⟩
    have HST := Lib.hid hst
    have HSZ := Lib.hid hsz
    have HK := Lib.hid hK
    have HKD := Lib.hid hKD
    obtain ⟨S0, hS0⟩ : ∃ S0, t.sz = S0 := ⟨_, rfl⟩
    rw [hS0] at HST
    rw [← hwB] at hld hpr
    clear hr hs hb hK hKD hbw hsz hT hR hst hS0 hwB hn hok e
    go_enter Tryz.func10, Tryz.ntmps10
    go_wp2_with (go_at_call 13; (with_reducible refine hpr.mono ?_); rintro e w2 ⟨rfl, hb2⟩; refine Hid.out ?_)
    refine Lib.hid ?_
    rw [HWB.out] at hb2
    have HB2 := Lib.hid hb2
    clear hb2 hpr hld
    go_wp2
    go_loopg [3] S0 (fun g v wr => ∃ st, RI2 K D wB wr R v st ∧ sz2 st = g)
    case atStart =>
      refine HST.out _ _ (HB2.out.alloc HB2.out.size _) ?_
      refine ⟨spds_len _, .inr ⟨w2.heap.size, 1, _, rfl, HB2.out.size, heap_alloc_new w2 _, Nat.le_refl _, by unfold maxLen; omega, scs2_size _ _ _ _ _, ?_⟩⟩
      unfold spds spd
      simp
      rw [List.take_of_length_le (by simp [scs2])]
    case round =>
      obtain ⟨st, hI, hg⟩ := hrel
      rcases List.eq_nil_or_concat st with rfl | ⟨st0, e, rfl⟩
      · obtain ⟨a0, c0, rfl⟩ := hI.own.shape
        have hE : R = false := hI.eq
        have HE := Lib.hid hE
        have HI := Lib.hid hI
        clear hI hE hg
        go_wp2
        go_ret
        exact ⟨by rw [HE.out]; rfl, HBW.out.trans (HI.out.bel.mono HBW.out.size)⟩
      · rw [List.concat_eq_append] at hI hg
        have hown := hI.own
        rw [List.map_append] at hown
        obtain ⟨gl, c, rfl, hqc, hcells, hcut⟩ := Spds.last hown
        rw [List.length_map] at hqc hcells hcut ⊢
        obtain ⟨hst0, hG⟩ := hI.stk.head
        have hbel := hI.bel
        obtain ⟨⟨b, o, f, l, h⟩, ⟨k, n, tx, ns, ks⟩, N0, d0⟩ := e
        obtain ⟨d, rfl⟩ : ∃ d, d0 = d + 1 := by
          have := hG.bd
          cases d0 with
          | zero => unfold Bd at this; exact this.elim
          | succ d => exact ⟨d, rfl⟩
        have hbd : ks.length ≤ K ∧ ns.length ≤ K ∧ ∀ t ∈ ks, Bd K d t := by have := hG.bd; unfold Bd at this; exact this
        have hR : R = (bad2 st0 || (misB k f l h || (twiceB k ns ks || badL (insf k f) (insl k l) (insb k) ks))) := by
          rw [hI.eq]
          unfold bad2
          rw [List.any_append]
          simp only [List.any_cons, List.any_nil, Bool.or_false]
          rfl
        have hq9 : st0.length ≤ 900000001 := by
          have h1 := hG.ix
          have h2 : K * (D - (d + 1)) ≤ K * D := Nat.mul_le_mul_left _ (Nat.sub_le _ _)
          have h3 := HKD.out
          simp only at h1
          omega
        obtain ⟨q, hq⟩ : ∃ q, st0.length = q := ⟨_, rfl⟩
        have hat : TAt wB b o (.mk k n tx ns ks) N0 := hG.at_
        have hl := run_ldTm (s := ⟨b, o, f, l, h⟩) hcells
        obtain ⟨pp, hpp⟩ := hG.ok
        have hf1 := right_fun1 hpp
        have ck := fun W (hb : Below wB.heap.size wB W) => mis_any (hat.below hb) f l h
        have cd := fun W (hb : Below wB.heap.size wB W) => dtwice_any (hat.below hb) hG.str (by have := HK.out; omega) (by have := HK.out; omega) hf1
        have ci := fun W (hb : Below wB.heap.size wB W) => ins_any (hat.below hb) f l h
        have hbs := Blk.new wr (scs2 b o f l h) 44
        have lds := run_ldT hbs
        have cp : (wr.alloc (.cells (scs2 b o f l h) 44)).cell? ⟨wr.heap.size, 0, none⟩ = some (.pointer (some ⟨b, o, none⟩)) := (hbs.cell 0).trans (scs2_0 _ _ _ _ _)
        have hcut1 := hcut.below (bel1 (o := .cells (scs2 b o f l h) 44))
        have HB : Hid (Below wB.heap.size wB (wr.alloc (.cells (scs2 b o f l h) 44))) := Lib.hid (hbel.trans ((bel1 (o := .cells (scs2 b o f l h) 44)).mono hbel.size))
        have HNE : Hid ((Value.slice (some ⟨gl, 0, none⟩) q c).ownBlock ≠ some wr.heap.size) := Lib.hid (fun e => by
          have h1 := (World.ownsRow.lt hcut gl rfl).2
          simp [Value.ownBlock] at e
          omega)
        rw [hq] at hqc hcut1 hq9 hl ⊢
        have hqi : (q : Int) ≤ 900000001 := by omega
        have hc0 : ¬ c = 0 := by omega
        have hw1 : wrap64 ((q : Int) + 1 - 1) = q := by unfold wrap64; omega
        have hw2 : wrap64 (q : Int) = q := by unfold wrap64; omega
        have HBS := Lib.hid hbs
        have HCUT := Lib.hid hcut1
        have HG := Lib.hid hG
        have HST0 := Lib.hid hst0
        have HAT := Lib.hid hat
        have HQ := Lib.hid hq
        have HQ9 := Lib.hid hq9
        have HGK := Lib.hid hg
        have HBD := Lib.hid hbd
        have eK : Tree.kind (.mk k n tx ns ks) = k := rfl
        rw [eK] at ck ci
        clear hI hown hcut hst0 hG hbel hbd hpp hf1 hbs hcut1 hat hq9 hg hcells hq
        cases h1 : misB k f l h with
        | true =>
          rw [h1] at ck hR
          have hE : R = true := by rw [hR]; simp
          have HE := Lib.hid hE
          clear hR hE cd ci
          go_wp2_with (go_at_call 14; (with_reducible refine (ck _ HB.out).mono ?_); rintro e w3 ⟨rfl, hb3⟩)
          go_ret
          exact ⟨by rw [HE.out]; rfl, HBW.out.trans ((HB.out.trans (hb3.mono HB.out.size)).mono HBW.out.size)⟩
        | false =>
          rw [h1, Bool.false_or] at hR
          rw [h1] at ck
          go_wp2_with (go_at_call 14; (with_reducible refine (ck _ HB.out).mono ?_); rintro e w3 ⟨rfl, hb3⟩; refine Hid.out ?_)
          refine Lib.hid ?_
          have HB3 := Lib.hid (HB.out.trans (hb3.mono HB.out.size))
          have HBS3 := Lib.hid (HBS.out.call hb3)
          have HCUT3 := Lib.hid (HCUT.out.below hb3)
          have cp3 : w3.cell? ⟨wr.heap.size, 0, none⟩ = some (.pointer (some ⟨b, o, none⟩)) := (HBS3.out.cell 0).trans (scs2_0 _ _ _ _ _)
          clear hb3 ck cp lds hl
          cases h2 : twiceB k ns ks with
          | true =>
            rw [h2] at cd hR
            have hE : R = true := by rw [hR]; simp
            have HE := Lib.hid hE
            clear hR hE ci
            go_wp2_with (go_at_call 15; (with_reducible refine (cd _ HB3.out).mono ?_); rintro e w4 ⟨rfl, hb4⟩)
            go_ret
            exact ⟨by rw [HE.out]; rfl, HBW.out.trans ((HB3.out.trans (hb4.mono HB3.out.size)).mono HBW.out.size)⟩
          | false =>
            rw [h2, Bool.false_or] at hR
            rw [h2] at cd
            go_wp2_with (go_at_call 15; (with_reducible refine (cd _ HB3.out).mono ?_); rintro e w4 ⟨rfl, hb4⟩; refine Hid.out ?_)
            refine Lib.hid ?_
            have HB4 := Lib.hid (HB3.out.trans (hb4.mono HB3.out.size))
            have HBS4 := Lib.hid (HBS3.out.call hb4)
            have HCUT4 := Lib.hid (HCUT3.out.below hb4)
            have lds4 := run_ldT HBS4.out
            clear hb4 cd cp3
            go_wp2_with (go_at_call 16; (with_reducible refine (ci _ HB4.out).mono ?_); rintro e w5 ⟨rfl, hb5⟩; refine Hid.out ?_)
            refine Lib.hid ?_
            obtain ⟨f2, hf2⟩ : ∃ f2, insf k f = f2 := ⟨_, rfl⟩
            obtain ⟨l2, hl2⟩ : ∃ l2, insl k l = l2 := ⟨_, rfl⟩
            obtain ⟨h3, hh3⟩ : ∃ h3, insb k = h3 := ⟨_, rfl⟩
            have HF2 := Lib.hid hf2
            have HL2 := Lib.hid hl2
            have HH3 := Lib.hid hh3
            rw [hf2, hl2, hh3] at hR ⊢
            have HR := Lib.hid hR
            obtain ⟨b2, o2, hka, hkd⟩ := kids_at HAT.out
            obtain ⟨m, hm⟩ : ∃ m, ks.length = m := ⟨_, rfl⟩
            have hIR : IR wB wr.heap.size w5.heap.size b o f l h f2 l2 h3 (st0.map fun e => e.s) (.slice (some ⟨gl, 0, none⟩) q c) (w5.alloc (.cells (qcs f2 l2 h3) 42)) := by
              have hb6 := hb5.alloc hb5.size (.cells (qcs f2 l2 h3) 42)
              exact ⟨HCUT4.out.below hb6, HBS4.out.call hb6, Blk.new _ _ _, HNE.out, HB4.out.trans (hb6.mono HB4.out.size)⟩
            have HIR := Lib.hid hIR
            have cp6 : (w5.alloc (.cells (qcs f2 l2 h3) 42)).cell? ⟨wr.heap.size, 0, none⟩ = some (.pointer (some ⟨b, o, none⟩)) := (hIR.b5.cell 0).trans (scs2_0 _ _ _ _ _)
            have ck6 : (w5.alloc (.cells (qcs f2 l2 h3) 42)).cell? ⟨b, o + 4, none⟩ = some (.slice N0.kids.a N0.kids.n N0.kids.c) := HAT.out.k.kids hIR.bel
            rw [HAT.out.kids, hm] at ck6
            have HM := Lib.hid hm
            have HKA := Lib.hid hka
            have HKD2 := Lib.hid hkd
            clear hf2 hl2 hh3 hR hka hkd hIR hb5 ci lds4 hm
            go_wp2
            obtain ⟨wq, hwq⟩ : ∃ u, u = wr := ⟨_, rfl⟩
            subst hwq
            go_loopw [3, 41] (fun v i wr => ∃ j : Nat, j ≤ m ∧ i = .int .i64 j ∧ IR wB wq.heap.size w5.heap.size b o f l h f2 l2 h3 ((st0.map fun e => e.s) ++ kidS b2 o2 f2 l2 h3 j) v wr) (fun _ i _ => m - (intOf i).toNat)
            case atStart => exact ⟨0, Nat.zero_le _, rfl, by rw [show kidS b2 o2 f2 l2 h3 0 = [] from rfl, List.append_nil]; exact HIR.out⟩
            case round =>
              obtain ⟨j, hj, rfl, hJ⟩ := hrel
              by_cases hlt : j < m
              · obtain ⟨u, hu⟩ : ∃ u, ks[j]? = some u := ⟨ks[j]'(by have := HM.out; omega), List.getElem?_eq_getElem _⟩
                have hka := HKA.out (by have := HM.out; omega)
                have hJd := hJ.drew
                have cp7 : wr.cell? ⟨wq.heap.size, 0, none⟩ = some (.pointer (some ⟨b, o, none⟩)) := (hJ.b5.cell 0).trans (scs2_0 _ _ _ _ _)
                have ck7 : wr.cell? ⟨b, o + 4, none⟩ = some (.slice N0.kids.a N0.kids.n N0.kids.c) := HAT.out.k.kids hJ.bel
                rw [HAT.out.kids, HM.out, hka] at ck7
                have lq := run_ldQ (w := wr.drew) hJ.b6
                have hll : ((st0.map fun e => e.s) ++ kidS b2 o2 f2 l2 h3 j).length ≤ 1000000000 := by
                  rw [List.length_append, List.length_map, kidS_len, HQ.out]
                  have := HQ9.out; have := HK.out; have := HBD.out.1; have := HM.out
                  omega
                obtain ⟨g7, c7, w7, hrun, hIR7⟩ := hJd.app hll ⟨b2, o2 + j * 5, f2, l2, h3⟩
                obtain ⟨V, hV⟩ : ∃ V, V = Value.slice (some ⟨g7, 0, none⟩) (((st0.map fun e => e.s) ++ kidS b2 o2 f2 l2 h3 j).length + 1) c7 := ⟨_, rfl⟩
                obtain ⟨av, cv, hsv⟩ := hJ.own.shape
                rw [hsv] at hrun ⊢
                obtain ⟨L, hL⟩ : ∃ L, ((st0.map fun e => e.s) ++ kidS b2 o2 f2 l2 h3 j).length = L := ⟨_, rfl⟩
                rw [hL] at hrun hIR7 ⊢
                rw [List.append_assoc, ← kidS_succ] at hIR7
                have HI7 := Lib.hid hIR7
                replace hrun : (Builtin.append_ #[45, 45] 45 #[.slice av L cv, .slice (some ⟨wr.heap.size, 0, none⟩) 1 1]).run Tryz.prog (wr.alloc (.cells (scs2 b2 (o2 + j * 5) f2 l2 h3) 44)).drew = .ok (.slice (some ⟨g7, 0, none⟩) (L + 1) c7) w7 := hrun
                have t1 : (j : Int) < m := by omega
                have t2 : decide ((m : Int) ≤ j) = false := by simp; omega
                have hw : wrap64 ((j : Int) + 1) = j + 1 := by unfold wrap64; have := HM.out; have := HK.out; have := HBD.out.1; omega
                have HLT := Lib.hid hlt
                clear hJ hJd hu hka hll hIR7 hV hsv hL hj
                go_wp2
                go_region_law (refine step_app2 rfl (.tmp 44) (.tmp 54) 45 rfl rfl _ _ _ (by simp [Act.eval, Act.put]) (by simp [Act.eval, Act.put]) hrun ?_)
                all_goals go_wp2
                all_goals go_roundw
                all_goals first | exact ⟨j + 1, HLT.out, by congr 1, HI7.out⟩ | exact meas_w hw HLT.out
              · obtain rfl : j = m := by omega
                have t2 : decide ((j : Int) < j) = false := by simp
                have hown := hJ.own
                rw [← HM.out] at hown
                obtain ⟨st', hri, hsz'⟩ := ri2_push (R := R) HST0.out HG.out (by have h := HR.out; rw [← HF2.out, ← HL2.out, ← HH3.out] at h; exact h) HKD2.out hJ.bel (by rw [← HF2.out, ← HL2.out, ← HH3.out] at hown; exact hown)
                have HRI := Lib.hid hri
                have HSZ' := Lib.hid hsz'
                clear hJ hown hri hsz' hj hlt
                go_wp2
                go_roundg (sz2 st')
                case measure => have h1 := HSZ'.out; rw [HGK.out] at h1; exact h1
                case rel => exact ⟨st', HRI.out, rfl⟩
end Go.Proofs.YtinoaajohkafmaaGreat.Ey

/-
  Plain mathematics: the reference's parser for a list of tokens. Where it does as the program's does, that one's functions serve.
-/
namespace Go.Proofs.YtinoaajohkafmaaGreat.Rp
open Go.Proofs.YtinoaajohkafmaaGreat.Pa
open Go.Proofs.YtinoaajohkafmaaGreat.Lx
set_option linter.unusedVariables false
set_option linter.unusedSimpArgs false
def rlistF {T : Type} (fin : ByteArray) (el : PS → T × PS) (s : PS) : List T × PS :=
  if s.fault = 0 ∧ seesF fin s = false then
    let x := el s
    let r := moreF el x.2.left.length x.2
    (x.1 :: r.1, r.2)
  else ([], s)
def rargsF (L : Low) (s : PS) : List Tree × PS :=
  let x := rlistF ⟨#[41]⟩ L.ex (needsF ⟨#[40]⟩ s)
  (x.1, needsF ⟨#[41]⟩ x.2)
def rfuncF (L : Low) (name : ByteArray) (s : PS) : Tree × PS :=
  let x := rlistF ⟨#[41]⟩ nameF (needsF ⟨#[40]⟩ s)
  let y := blockF L (needsF ⟨#[41]⟩ x.2)
  (.mk 14 0 name x.1 y.1.kids, y.2)
def rexF (L : Low) (s : PS) : Tree × PS :=
  let x := condF L s
  if seesF ⟨#[61]⟩ x.2 then
    if x.1.kind ≠ 8 ∧ memberB x.1 = false then (x.1, x.2.fail 2) else
      let y := L.ex (needsF ⟨#[61]⟩ x.2)
      (node 24 [x.1, y.1], y.2)
  else x
def rmembF (L : Low) (calls : Bool) : Nat → Tree → PS → Tree × PS
  | 0, n, s => (n, s)
  | f + 1, n, s =>
    if seesF ⟨#[46]⟩ s then
      let x := memF s.take
      rmembF L calls f (.mk 15 0 x.1 [] [n]) x.2
    else if seesF ⟨#[91]⟩ s then
      let x := L.ex s.take
      rmembF L calls f (node 16 [n, x.1]) (needsF ⟨#[93]⟩ x.2)
    else if calls && seesF ⟨#[40]⟩ s then
      let x := rargsF L s
      rmembF L calls f (node 17 (n :: x.1)) x.2
    else (n, s)
def rprimF (L : Low) (s : PS) : Tree × PS :=
  if s.next.kind = 3 then (.mk 1 s.next.num noS [] [], s.take)
  else if s.next.kind = 4 then (.mk 2 0 s.next.text [] [], s.take)
  else if s.next.kind = 1 then (.mk 8 0 s.next.text [] [], s.take)
  else if seesF ⟨#[40]⟩ s then parenF L s
  else if seesF ⟨#[91]⟩ s then
    let x := rlistF ⟨#[93]⟩ L.ex s.take
    (node 9 x.1, needsF ⟨#[93]⟩ x.2)
  else if seesF ⟨#[123]⟩ s then
    let x := rlistF ⟨#[125]⟩ (elemF L) s.take
    (node 10 x.1, needsF ⟨#[125]⟩ x.2)
  else if seesF ⟨#[102, 117, 110, 99, 116, 105, 111, 110]⟩ s then
    if s.take.next.kind = 1 then rfuncF L s.take.next.text s.take.take else rfuncF L noS s.take
  else litF s
def rpostF (L : Low) (s : PS) : Tree × PS :=
  if seesF ⟨#[110, 101, 119]⟩ s then
    let x := rprimF L s.take
    let y := rmembF L false x.2.left.length x.1 x.2
    let z := rargsF L y.2
    rmembF L true z.2.left.length (node 18 (y.1 :: z.1)) z.2
  else
    let x := rprimF L s
    rmembF L true x.2.left.length x.1 x.2
def runF (L : Low) (s : PS) : Tree × PS :=
  if seesOneF prefixT s then
    let x := L.un s.take
    (.mk 19 0 s.next.text [] [x.1], if eqT s.next.text ⟨#[100, 101, 108, 101, 116, 101]⟩ && !memberB x.1 then x.2.fail 2 else x.2)
  else rpostF L s
def rstF (L : Low) (s : PS) : Tree × PS :=
  if seesF ⟨#[123]⟩ s then blockF L s
  else if seesF ⟨#[102, 117, 110, 99, 116, 105, 111, 110]⟩ s then
    let x := nameF s.take
    let y := rfuncF L x.1 x.2
    (node 32 [y.1], y.2)
  else if seesF ⟨#[105, 102]⟩ s then choiceF L s.take
  else if seesF ⟨#[119, 104, 105, 108, 101]⟩ s then
    let x := parenF L s.take
    let y := L.st x.2
    (node 35 [x.1, y.1], y.2)
  else if seesF ⟨#[116, 114, 121]⟩ s then tryF L s.take
  else
    let x := simpF L s
    (x.1, needsF ⟨#[59]⟩ x.2)
end Go.Proofs.YtinoaajohkafmaaGreat.Rp
