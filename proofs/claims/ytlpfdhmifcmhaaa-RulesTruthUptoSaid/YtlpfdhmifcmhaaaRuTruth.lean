/-
  What holds at the head of a round of RulesTruth; what the target's own answers give.
-/
import Derived.Test.YtlpfdhmifcmhaaaRuList
import Derived.WalkSpells
import Derived.WalkLawsBesides
import Derived.RegionTactic
import Derived.Lib.Hide
namespace Go.Proofs.Ytlpfdhmifcmhaaa.Des
open Go Go.RowKit Go.Maps Go.Proofs.Ytlpfdhmifcmhaaa.Vals Go.Proofs.Ytlpfdhmifcmhaaa.Keys Go.Proofs.Ytlpfdhmifcmhaaa.Arrs
set_option linter.unusedVariables false
set_option linter.unusedSimpArgs false

theorem own_shape {w : World} {base : Nat} {e : TypeId} {size n : Nat} {v : Value} {xs : List Value} (h : w.ownsRow base e size v n xs) : ∃ a c, v = .slice a n c := by
  rcases h.2 with ⟨rfl, rfl⟩ | ⟨g, cap, cur, rfl, _⟩
  · exact ⟨none, 0, rfl⟩
  · exact ⟨_, cap, rfl⟩
theorem own_below {w w' : World} {base : Nat} {e : TypeId} {size n : Nat} {v : Value} {xs : List Value} (h : w.ownsRow base e size v n xs) (hb : Below w.heap.size w w') : w'.ownsRow base e size v n xs :=
  h.kept (grown_of_below hb) (by cases hv : v.ownBlock <;> simp)
/-- A round's head: the keys of j properties are collected, each once. -/
structure TInv (w0 : World) (es : List En) (j : Nat) (v : Value) (wr : World) : Prop where
  own : wr.ownsRow w0.heap.size 39 2 v j (cellsK ((es.take j).map ekey))
  below : Below w0.heap.size w0 wr
  nodup : ((es.take j).map ekey).Nodup
theorem len_take {es : List En} {j : Nat} (h : j ≤ es.length) : ((es.take j).map ekey).length = j := by simp; omega
theorem TInv.start {w0 w1 : World} {es : List En} (h : Below w0.heap.size w0 w1) : TInv w0 es 0 (.slice none 0 0) w1 := ⟨World.ownsRow_nil _ _ _ _, h, by simp⟩
theorem TInv.keys {w0 wr : World} {es : List En} {j : Nat} {a : Option Addr} {c : Nat} (h : TInv w0 es j (.slice a j c) wr) (hj : j ≤ es.length) : KeysAt a ((es.take j).map ekey) wr := by
  have hl := len_take hj
  have ho := h.own
  refine keysAt_own (base := w0.heap.size) (cp := c) ?_
  rw [hl]
  exact ho
theorem TInv.keyed {w0 wr : World} {es : List En} {j : Nat} {a : Option Addr} {c : Nat} (h : TInv w0 es j (.slice a j c) wr) (hj : j ≤ es.length) (h60 : es.length ≤ 60) (k : KV) {b : Bool} (hb : memb k ((es.take j).map ekey) = b) : KeyedIs wr (.slice a j c) k b := by
  have hl := len_take hj
  have := keyed_is (cb := c) k (by omega) (h.keys hj) hb
  rw [hl] at this
  exact this
theorem TInv.call {w0 wr w2 : World} {es : List En} {j : Nat} {v : Value} (h : TInv w0 es j v wr) (hb : Below wr.heap.size wr w2) : TInv w0 es j v w2 := ⟨own_below h.own hb, bel_keep hb h.below, h.nodup⟩
theorem TInv.push {w0 w2 w3 : World} {es : List En} {j : Nat} {v v' : Value} {e : En} {o : Obj} (h : TInv w0 es j v w2) (he : es[j]? = some e) (hm : memb (ekey e) ((es.take j).map ekey) = false)
    (hown : w3.ownsRow w0.heap.size 39 2 v' (j + 1) (cellsK ((es.take j).map ekey) ++ [.string e.ks, .int .i64 e.kn])) (hg : (w2.alloc o).grownBy w3 v.ownBlock) : TInv w0 es (j + 1) v' w3 := by
  obtain ⟨h1, h2, h3⟩ := h
  have et : (es.take (j + 1)).map ekey = (es.take j).map ekey ++ [ekey e] := by rw [List.take_add_one, he]; simp
  refine ⟨?_, (h2.alloc h2.size o).grown hg (size_alloc_le o h2.size) (fun k hk => (h1.lt k hk).1), ?_⟩
  · rw [et, cellsK_append, cellsK_one]
    exact hown
  · rw [et, List.nodup_append]
    exact ⟨h3, by simp, fun x hx y hy => by rw [List.mem_singleton.1 hy]; exact fun e1 => memb_no hm (e1 ▸ hx)⟩
theorem TInv.done {w0 wr : World} {es : List En} {ao : Option Addr} {cap : Nat} {a : Option Addr} {c : Nat} (x : Bool) (h : TInv w0 es es.length (.slice a es.length c) wr) (h60 : es.length ≤ 60) (hce : EsAt ao es wr) (hfe : ∀ e ∈ es, Fine (ekey e)) : KeysIs wr x (.slice ao es.length cap) (.slice a es.length c) true := by
  have hk := h.keys (Nat.le_refl _)
  have hn := h.nodup
  rw [List.take_length] at hk hn
  have hl : (es.map ekey).length = es.length := by simp
  have := keys_is (x := x) (cap := cap) (cb := c) (by omega) (by omega) hce hk hfe (fun k hk => by obtain ⟨e, he, rfl⟩ := List.mem_map.1 hk; exact hfe e he) (keys_self x hn)
  rw [hl] at this
  exact this
theorem wh_self {n : Ds} (h : whR n = true) : othF n n = false ∧ replF n n = n := by
  constructor
  · rcases wh_cases h with ⟨v', w', e', c', rfl⟩ | ⟨g', s', e', c', rfl, k1, k2⟩ <;> rfl
  · rw [replF_def]
    obtain ⟨a1, a2, a3, a4, a5, a6, v, g, s, w, e, c⟩ := n
    cases a1 <;> cases a2 <;> cases a3 <;> cases a4 <;> cases a5 <;> cases a6 <;> rfl
/-- What the target itself answers on a property that it has may be told. -/
theorem own_self (x : Bool) {n : Ds} (h : whR n = true) : ownF x true n true n = true := by
  obtain ⟨q1, q2⟩ := wh_self h
  have ha := again (x := x) (wh_rig h) h q1 q2
  have hr : rigF n = true := by rw [rig_eq]; exact wh_rig h
  have hc := comp_same h
  simp only [ownF, if_true, hc, ha, hr, Bool.true_and]
  cases n.c <;> cases n.w <;> rfl
theorem get_self {n : Ds} (hd : datF n = true) : getF true n n.v = true := by simp [getF, hd, eqV_refl]
end Go.Proofs.Ytlpfdhmifcmhaaa.Des
