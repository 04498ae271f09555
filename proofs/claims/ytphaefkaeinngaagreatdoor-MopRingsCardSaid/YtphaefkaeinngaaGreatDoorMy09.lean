/-
  Texts of this seat in build order: HpMake, RgInv, HpRound, HpColl.
-/
import Derived.Test.YtphaefkaeinngaaGreatDoorMy08
import Derived.Deep.RegionLaw
import Derived.Test.YtphaefkaeinngaaGreatDoorMy02
import Derived.Orders
import Derived.Test.YtphaefkaeinngaaGreatDoorMy07
import Derived.OrdersHeld
/-
  Make.
-/
namespace Go.Proofs.YtphaefkaeinngaaGreatDoor.Hp
open Go Go.RowKit Go.Maps Go.Shelf Go.Proofs.YtphaefkaeinngaaGreatDoor.Keys
open Go.Proofs.YtphaefkaeinngaaGreatDoor.Des (Vl Ds zeroV zeroD dcs dcs_size dcs_one)
open Go.Proofs.YtphaefkaeinngaaGreatDoor.Arrs (En ecs ecs_0 ecs_1 ecs_10 ecs_size ecs_list ecs_one ecs_one')
set_option linter.unusedVariables false
set_option linter.unusedSimpArgs false
attribute [local go_sem ↓] ldE ldT bxT bxO bdO alE alT stE stT
attribute [local irreducible] ecs ncs hcs tcs ocs
attribute [local go_sem] run_bx run_alE run_alT run_bdO tcs_0 tcs_5 tcs_20 tcs_set5 tcs_set20 ocs_24
theorem make_full (hb : Nat) (room : Int) (a : Option Addr) (n c : Nat) (sy : Int) (th : Th) (w : World) (h : Blk w hb (hp room (.slice a n c) sy) 87) (hr : room ≤ n) :
    Calls Tryz.prog 14 #[ptr hb, .agg (tcs th)] w fun e w' => e = .returned (.tuple #[.int .i64 0, .bool false]) ∧ Below w.heap.size w w' := by
  obtain ⟨w1, hw1⟩ : ∃ w1, w.alloc (.cells (tcs th) 39) = w1 := ⟨_, rfl⟩
  have b1 : Below w.heap.size w w1 := by rw [← hw1]; exact (Below.refl _ w).alloc (Nat.le_refl _) _
  have c0 : w1.cell? ⟨hb, 0, none⟩ = some (.int .i64 room) := (h.call b1).cell 0
  have c1 : w1.cell? ⟨hb, 1, none⟩ = some (.slice a n c) := (h.call b1).cell 1
  have B1 := Lib.hid b1
  clear b1 h
  go_enter Tryz.func14, Tryz.ntmps14
  go_wp2
  go_region
  all_goals go_wp2
  all_goals go_ret2
  all_goals exact ⟨rfl, B1.out.drew⟩
theorem infoO : (Tryz.prog.info? 88).map (fun i => (i.zero, i.size, i.bytes)) = some (some (.pointer none), 1, 8) := by kernel_rfl
def MakePost (w : World) (base hb : Nat) (room : Int) (k : Nat) (sy : Int) (xs : List Value) (th : Th) (es : List En) (vs : List Vl) (ow : Option Nat) (y : Ending) (w' : World) : Prop :=
  y = .returned (.tuple #[.int .i64 k, .bool true]) ∧ ∃ g c, Blk w' hb (hp room (.slice (some ⟨g, 0, none⟩) (k + 1) c) sy) 87 ∧ ∃ ob pb mb ns a m c', w'.ownsRow base 88 1 (.slice (some ⟨g, 0, none⟩) (k + 1) c) (k + 1) (xs ++ [ptr ob]) ∧ ObjAt w' w.heap.size ob pb mb es.length { th with props := .slice none 0 0, args := .slice a m c' } es vs ns ∧ Below base w w' ∧ (∀ b, b < w.heap.size → b ≠ hb → some b ≠ ow → w'.heap[b]? = w.heap[b]?) ∧ (some g = ow ∨ w.heap.size ≤ g)
theorem ObjAt.below {w w' : World} {base ob pb mb n : Nat} {th : Th} {es : List En} {vs : List Vl} {ns : List Nd} (h : ObjAt w base ob pb mb n th es vs ns) (hb : Below w.heap.size w w') : ObjAt w' base ob pb mb n th es vs ns :=
  ⟨h.blk.call hb, h.props, h.args, h.obj.call hb, h.es, own_below h.row hb, h.low, h.lowm, h.lowo, h.chain⟩
theorem ObjAt.mono {w : World} {base base' ob pb mb n : Nat} {th : Th} {es : List En} {vs : List Vl} {ns : List Nd} (h : ObjAt w base ob pb mb n th es vs ns) (hb : base' ≤ base) : ObjAt w base' ob pb mb n th es vs ns :=
  ⟨h.blk, h.props, h.args, h.obj, h.es, h.row.mono hb, fun b hm => Nat.le_trans hb (h.low b hm), Nat.le_trans hb h.lowm, Nat.le_trans hb h.lowo, h.chain⟩
theorem ne_blk {w : World} {b c : Nat} {cs ds : Array Value} {s t : TypeId} (h : Blk w b cs s) (k : Blk w c ds t) (hne : s ≠ t) : b ≠ c := fun e => by
  subst e
  have e := Option.some.inj ((show w.heap[b]? = _ from h).symm.trans (show w.heap[b]? = _ from k))
  cases e
  exact hne rfl
theorem own_ne {w : World} {base b : Nat} {e t : TypeId} {size n : Nat} {v : Value} {xs : List Value} {cs : Array Value} (h : w.ownsRow base e size v n xs) (hb : Blk w b cs t) (hte : t ≠ e) : v.ownBlock ≠ some b := by
  rcases h.2 with ⟨rfl, _⟩ | ⟨g, cap, cur, rfl, _, hgb, _⟩
  · simp [Value.ownBlock]
  · simp only [Value.ownBlock, ne_eq, Option.some.injEq]
    rintro rfl
    have := (show w.heap[g]? = _ from hb).symm.trans hgb
    simp at this
    exact hte this.2
theorem own_two {w : World} {b1 b2 : Nat} {e1 e2 : TypeId} {s1 s2 n1 n2 : Nat} {v1 v2 : Value} {xs1 xs2 : List Value} (h1 : w.ownsRow b1 e1 s1 v1 n1 xs1) (h2 : w.ownsRow b2 e2 s2 v2 n2 xs2) (hne : e1 ≠ e2) : v1.ownBlock = none ∨ v1.ownBlock ≠ v2.ownBlock := by
  rcases h1.2 with ⟨rfl, _⟩ | ⟨g, cap, cur, rfl, _, hgb, _⟩
  · exact .inl rfl
  · rcases h2.2 with ⟨rfl, _⟩ | ⟨g2, cap2, cur2, rfl, _, hgb2, _⟩
    · right; simp [Value.ownBlock]
    · right
      simp only [Value.ownBlock, ne_eq, Option.some.injEq]
      rintro rfl
      rw [hgb] at hgb2
      simp at hgb2
      exact hne hgb2.2
theorem ObjAt.grown {w w' : World} {base base2 ob pb mb n k : Nat} {th : Th} {es : List En} {vs : List Vl} {ns : List Nd} {v : Value} {xs : List Value} (h : ObjAt w base ob pb mb n th es vs ns) (hrow : w.ownsRow base2 88 1 v k xs) (hg : w.grownBy w' v.ownBlock) : ObjAt w' base ob pb mb n th es vs ns := by
  have hn : ∀ {b : Nat} {cs : Array Value} {t : TypeId}, Blk w b cs t → t ≠ 88 → w'.heap[b]? = w.heap[b]? := fun hb ht => hg.block _ hb.lt (fun e => own_ne hrow hb ht e.symm)
  refine ⟨(hn h.blk (by decide)).trans h.blk, h.props, h.args, ⟨h.obj.ring.same fun b hb => ?_, h.obj.map.same (hg.block mb h.obj.map.lt fun e => ?_)⟩, h.es, h.row.kept hg (own_two h.row hrow (by decide)), h.low, h.lowm, h.lowo, h.chain⟩
  · obtain ⟨cs, t, hbl, ht⟩ := h.obj.ring.cells b hb
    exact hn hbl (by rcases ht with rfl | rfl <;> decide)
  · obtain ⟨es', c, ho⟩ := h.obj.map.obj
    rcases hrow.2 with ⟨rfl, _⟩ | ⟨g, cap, cur, rfl, _, hgb, _⟩
    · simp [Value.ownBlock] at e
    · simp [Value.ownBlock] at e
      rw [e, hgb] at ho
      cases ho
theorem ObjAt.set {w : World} {base ob pb mb n b i : Nat} {th : Th} {es : List En} {vs : List Vl} {ns : List Nd} {cs : Array Value} {u : Value} (h : ObjAt w base ob pb mb n th es vs ns) (hb : Blk w b cs 87) : ObjAt (w.setCell ⟨b, i, none⟩ u) base ob pb mb n th es vs ns :=
  ⟨h.blk.other ⟨b, i, none⟩ u (ne_blk h.blk hb (by decide)), h.props, h.args, h.obj.set hb (by decide) (by decide), h.es, own_set h.row hb (by decide) i u, h.low, h.lowm, h.lowo, h.chain⟩
theorem cell_one (w : World) (v : Value) (t : TypeId) : ∀ j u, [v][j]? = some u → (w.alloc (.cells #[v] t)).cell? ((⟨w.heap.size, 0, none⟩ : Addr).add j) = some u := fun j u hj => by
  cases j with
  | zero => simp at hj; subst hj; simp [Addr.add]
  | succ j => simp at hj
theorem make_end {w w2 w4 : World} {base hb k : Nat} {room sy : Int} {a : Option Addr} {c g' c' m2 cc : Nat} {a2 : Option Addr} {xs : List Value} {th : Th} {es : List En} {vs : List Vl} {ob pb mb : Nat} {ns : List Nd}
    (hblk : Blk w hb (hp room (.slice a k c) sy) 87) (hbase : base ≤ hb) (hrow : w.ownsRow base 88 1 (.slice a k c) k xs) (hb2 : Below w.heap.size w w2) (hoa : ObjAt w2 w.heap.size ob pb mb es.length { th with props := .slice none 0 0, args := .slice a2 m2 cc } es vs ns)
    (hown : w4.ownsRow base 88 1 (.slice (some ⟨g', 0, none⟩) (k + 1) c') (k + 1) (xs ++ [ptr ob])) (hg : (w2.alloc (.cells #[ptr ob] 88)).grownBy w4 (Value.slice a k c).ownBlock) (hgo : some g' = (Value.slice a k c).ownBlock ∨ w.heap.size ≤ g') :
    MakePost w base hb room k sy xs th es vs (Value.slice a k c).ownBlock (.returned (.tuple #[.int .i64 k, .bool true])) (w4.setCell ⟨hb, 1, none⟩ (.slice (some ⟨g', 0, none⟩) (k + 1) c')) := by
  have bk2 := (hblk.call hb2).old (.cells #[ptr ob] 88)
  have r2 := (own_below hrow hb2).alloc (.cells #[ptr ob] 88)
  have bk4 : Blk w4 hb (hp room (.slice a k c) sy) 87 := bk2.grown hg (own_ne r2 bk2 (by decide)).symm
  have o4 := (hoa.below ((Below.refl _ w2).alloc (Nat.le_refl _) (.cells #[ptr ob] 88))).grown r2 hg
  have hs : base ≤ w.heap.size := Nat.le_trans hbase (Nat.le_of_lt hblk.lt)
  have bel4 : Below base w w4 := ((hb2.mono hs).alloc (Nat.le_trans hs hb2.size) _).grown hg (by have := hb2.size; simp; omega) (fun k' hk => (hrow.lt k' hk).1)
  exact ⟨rfl, g', c', bk4.set 1 _, ob, pb, mb, ns, a2, m2, cc, own_set hown bk4 (by decide) _ _, o4.set bk4, bel4.setCell (p := ⟨hb, 1, none⟩) hbase _, fun b hb1 hb3 hb4 => (heap_setCell_other w4 ⟨hb, 1, none⟩ b _ hb3).trans ((hg.block b (by have := hb2.size; simp; omega) hb4).trans ((heap_alloc_old _ _ (by have := hb2.size; omega)).trans (hb2.block b hb1))), hgo⟩
theorem MakePost.undrew {w : World} {base hb k : Nat} {room sy : Int} {xs : List Value} {th : Th} {es : List En} {vs : List Vl} {ow : Option Nat} {y : Ending} {w' w1 : World} (h : MakePost w1 base hb room k sy xs th es vs ow y w') (hb1 : Below w.heap.size w w1) (hs : base ≤ w.heap.size) : MakePost w base hb room k sy xs th es vs ow y w' := by
  obtain ⟨h1, g, c, h2, ob, pb, mb, ns, a, m, c', h3, h4, h5, h6, h7⟩ := h
  exact ⟨h1, g, c, h2, ob, pb, mb, ns, a, m, c', h3, h4.mono hb1.size, (hb1.mono hs).trans h5, fun b q1 q2 q3 => (h6 b (by have := hb1.size; omega) q2 q3).trans (hb1.block b q1), h7.imp id fun h => Nat.le_trans hb1.size h⟩
theorem step_app {P : Program} {ops : Array Oper} {o : Oper} {a : Act} {w w' : World} {K : Act → World → Prop} {Q : Exit → Act → World → Prop} {E : Prop} (hg : o.guard = none) (s x : Operand) (t : TypeId) (hop : o.op = Op.call { callee := Callee.builtin Builtin.append, args := #[s, x], argTypes := #[t, t] }) (ht : o.type = t)
    (v1 v2 v' : Value) (hs : a.eval s = v1) (hx : a.eval x = v2) (hrun : (Builtin.append_ #[t, t] t #[v1, v2]).run P w = .ok v' w') (hK : K (a.put o.dst v') w') : if Region.wanted o (yielded ops a.tmps) = true then Oper.wp P o a w K Q else E := by
  have hw : Region.wanted o (yielded ops a.tmps) = true := by simp [Region.wanted, hg]
  rw [if_pos hw]
  subst ht
  unfold Oper.wp
  simp [execOp, hop, resolve, invoke, builtin, hs, hx, hrun, Result.andThen]
  exact hK
theorem make_app {W w2 : World} {base hb k c : Nat} {room sy : Int} {a : Option Addr} {xs : List Value} (hblk : Blk W hb (hp room (.slice a k c) sy) 87) (hrow : W.ownsRow base 88 1 (.slice a k c) k xs) (hb2 : Below W.heap.size W w2) (hk : k ≤ 1000000) (hbase : base ≤ hb) (ob : Nat) :
    ∃ g' c' w4, (Builtin.append_ #[85, 85] 85 #[.slice a k c, .slice (some ⟨w2.heap.size, 0, none⟩) 1 1]).run Tryz.prog (w2.alloc (.cells #[.pointer (some ⟨ob, 0, none⟩)] 88)) = .ok (.slice (some ⟨g', 0, none⟩) (k + 1) c') w4 ∧
      w4.ownsRow base 88 1 (.slice (some ⟨g', 0, none⟩) (k + 1) c') (k + 1) (xs ++ [ptr ob]) ∧ (w2.alloc (.cells #[ptr ob] 88)).grownBy w4 (Value.slice a k c).ownBlock ∧ w4.cell? ⟨hb, 1, none⟩ = some (.slice a k c) ∧ w4.frozen? ⟨hb, 1, none⟩ = false ∧ (some g' = (Value.slice a k c).ownBlock ∨ W.heap.size ≤ g') := by
  obtain ⟨i50, hi50, hz500, hz501, hz502⟩ := info_parts infoO
  have hbl2 := hblk.call hb2
  have hlt := hbl2.lt
  have hr2 := (own_below hrow hb2).alloc (.cells #[ptr ob] 88)
  obtain ⟨v', w4, hrun, hown4, hgrow4, _, hgo⟩ := run_append_own_at (P := Tryz.prog) (w2.alloc (.cells #[ptr ob] 88)) base 85 85 88 i50 (.pointer none) 1 8 Tryz.underlying85 hi50 hz500 hz501 hz502 rfl (by decide) (.slice a k c) k xs hr2 ⟨w2.heap.size, 0, none⟩ 1 1 [ptr ob] rfl (cell_one w2 (ptr ob) 88) (by simp [Value.oneCell']) (by unfold maxLen; omega) (by omega) (by simp; omega)
  obtain ⟨g', c', rfl⟩ := ownsRow_succ hown4
  have hgo' : some g' = (Value.slice a k c).ownBlock ∨ W.heap.size ≤ g' := by
    rcases hgo with hgo | hgo
    · exact .inl hgo
    · right
      have hgo2 : g' = (w2.alloc (.cells #[ptr ob] 88)).heap.size := by simpa [Value.ownBlock] using hgo
      rw [hgo2]
      have := hb2.size
      simp
      omega
  have hb4 : Blk w4 hb (hp room (.slice a k c) sy) 87 := (hbl2.old _).grown hgrow4 (own_ne hr2 (hbl2.old _) (by decide)).symm
  exact ⟨g', c', w4, hrun, hown4, hgrow4, hb4.cell 1, hb4.frozen 1, hgo'⟩
set_option maxRecDepth 100000 in
set_option maxHeartbeats 2000000 in
theorem make_any (base hb : Nat) (room : Int) (a : Option Addr) (k c : Nat) (sy : Int) (xs : List Value) (th : Th) (es : List En) (vs : List Vl) (w : World) (hblk : Blk w hb (hp room (.slice a k c) sy) 87) (hbase : base ≤ hb) (hrow : w.ownsRow base 88 1 (.slice a k c) k xs) (hk : k ≤ 1000000) (hr : (k : Int) < room)
    (hst : ∀ w', Below w.heap.size w w' → Calls Tryz.prog 28 #[.agg (tcs th)] w' (StorePost w' th es vs)) :
    Calls Tryz.prog 14 #[ptr hb, .agg (tcs th)] w (MakePost w base hb room k sy xs th es vs (Value.slice a k c).ownBlock) := by
  obtain ⟨w1, hw1⟩ : ∃ w1, w.alloc (.cells (tcs th) 39) = w1 := ⟨_, rfl⟩
  have b1 : Below w.heap.size w w1 := by rw [← hw1]; exact (Below.refl _ w).alloc (Nat.le_refl _) _
  have k1 : w1.heap.size = w.heap.size + 1 := by rw [← hw1]; simp
  have x1 : Blk w1 w.heap.size (tcs th) 39 := by rw [← hw1]; exact Blk.new w _ _
  have hk1 := hblk.call b1
  have hrow1 := own_below hrow b1
  have c0 : w1.cell? ⟨hb, 0, none⟩ = some (.int .i64 room) := hk1.cell 0
  have c1 : w1.cell? ⟨hb, 1, none⟩ = some (.slice a k c) := hk1.cell 1
  have lt := run_ldT x1.drew.drew
  have h1 := hst w1.drew.drew b1.drew.drew
  have HK1 : Hid (Blk w1.drew.drew hb (hp room (.slice a k c) sy) 87) := hk1
  have HR1 : Hid (w1.drew.drew.ownsRow base 88 1 (.slice a k c) k xs) := hrow1
  have B1 : Hid (Below w.heap.size w w1.drew.drew) := b1.drew.drew
  have hs : base ≤ w.heap.size := Nat.le_trans hbase (Nat.le_of_lt hblk.lt)
  have HS := Lib.hid hs
  have hge : decide (room ≤ (k : Int)) = false := by simp; omega
  have hlen : wrap64 ((k : Int) + 1 - 1) = k := by unfold wrap64; omega
  have HKK := Lib.hid hk
  clear b1 x1 hk1 hrow1 hblk hrow hst hs
  go_enter Tryz.func14, Tryz.ntmps14
  go_wp2
  go_region
  all_goals go_wp2
  go_region_law (first | (go_simp; go_at_call 28; refine h1.mono ?_; rintro e w2 ⟨ob, pb, mb, ns, a2, m2, cc, rfl, hoa, hb2⟩; have d1 : w2.cell? ⟨hb, 1, none⟩ = some (.slice a k c) := (HK1.out.call hb2).cell 1; have d2 : (w2.alloc (.cells #[.pointer (some ⟨ob, 0, none⟩)] 88)).cell? ⟨hb, 1, none⟩ = some (.slice a k c) := ((HK1.out.call hb2).old _).cell 1; obtain ⟨g', c', w4, hrun, hown4, hgrow4, e1, e2, hgo⟩ := make_app HK1.out HR1.out hb2 HKK.out hbase ob; have hend := Lib.hid (make_end HK1.out hbase HR1.out hb2 hoa hown4 hgrow4 hgo); clear hown4 hgrow4 hoa hb2; dsimp only) | (refine step_app rfl (.tmp 20) (.tmp 23) 85 rfl rfl _ _ _ (by simp [Act.eval, Act.put]) (by simp [Act.eval, Act.put]) hrun ?_))
  all_goals go_wp2
  all_goals go_ret2
  all_goals exact hend.out.undrew B1.out HS.out
end Go.Proofs.YtphaefkaeinngaaGreatDoor.Hp

/-
  A region that draws its order, by an invariant: one step an operation, whatever the order.
-/
namespace Go.Proofs.YtphaefkaeinngaaGreatDoor.Rg
open Go Go.RowKit
set_option linter.unusedVariables false
set_option linter.unusedSimpArgs false
def depsOf (md : Region.Mode) (ops : Array Oper) (i : Nat) : List Nat := ((ops[i]?).map fun o => (o.after.toList.filter (Region.binds md)).map (·.on)).getD []
def acyc (md : Region.Mode) (ops : Array Oper) : Bool := (List.range ops.size).all fun i => (depsOf md ops i).all fun d => decide (d < i)
section
variable {P : Program} {ops : Array Oper} {Q : Exit → Act → World → Prop} {md : Region.Mode}
theorem mem_deps {i d : Nat} {o : Oper} (ho : ops[i]? = some o) : d ∈ depsOf md ops i ↔ ∃ e ∈ o.after, Region.binds md e = true ∧ e.on = d := by
  simp [depsOf, ho, and_assoc]
theorem ready_iff {L : Array Bool} {i : Nat} : i ∈ Region.ready md ops L ↔ i < ops.size ∧ L.getD i true = false ∧ ∀ d ∈ depsOf md ops i, L.getD d false = true := by
  unfold Region.ready
  simp only [List.mem_filter, List.mem_range, Bool.and_eq_true, Bool.not_eq_true']
  constructor
  · rintro ⟨h1, h2, h3⟩
    refine ⟨h1, h2, fun d hd => ?_⟩
    have ho : ops[i]? = some ops[i] := Array.getElem?_eq_some_iff.2 ⟨h1, rfl⟩
    rw [ho] at h3
    simp only [Option.map_some, Option.getD_some, Array.all_eq_true_iff_forall_mem] at h3
    obtain ⟨e, he, hb, rfl⟩ := (mem_deps ho).1 hd
    have := h3 e he
    rw [hb] at this
    simpa using this
  · rintro ⟨h1, h2, h3⟩
    refine ⟨h1, h2, ?_⟩
    have ho : ops[i]? = some ops[i] := Array.getElem?_eq_some_iff.2 ⟨h1, rfl⟩
    rw [ho]
    simp only [Option.map_some, Option.getD_some, Array.all_eq_true_iff_forall_mem]
    intro e he
    cases hb : Region.binds md e with
    | false => rfl
    | true => simpa using h3 _ ((mem_deps ho).2 ⟨e, he, hb, rfl⟩)
theorem getD_set {L : Array Bool} {i j : Nat} (h : i ≠ j) (b : Bool) : (L.setIfInBounds i true).getD j b = L.getD j b := by
  simp [Array.getD_eq_getD_getElem?, Array.getElem?_setIfInBounds, h]
theorem all_of_stuck (hac : acyc md ops = true) {L : Array Bool} (hs : L.size = ops.size) (h : Region.ready md ops L = []) : ∀ i, i < ops.size → L.getD i false = true := by
  have hac' : ∀ i, i < ops.size → ∀ d ∈ depsOf md ops i, d < i := by
    intro i hi d hd
    unfold acyc at hac
    rw [List.all_eq_true] at hac
    have := hac i (List.mem_range.2 hi)
    rw [List.all_eq_true] at this
    simpa using this d hd
  intro i
  induction i using Nat.strongRecOn with
  | _ i ih =>
    intro hi
    cases hc : L.getD i true with
    | true =>
      have hl : i < L.size := by omega
      simp [Array.getD_eq_getD_getElem?, hl] at hc ⊢
      exact hc
    | false =>
      have : i ∈ Region.ready md ops L := ready_iff.2 ⟨hi, hc, fun d hd => ih d (hac' i hi d hd) (Nat.lt_trans (hac' i hi d hd) hi)⟩
      rw [h] at this
      cases this
def left (L : Array Bool) : Nat := L.toList.count false
theorem left_set {L : Array Bool} {i : Nat} (h : L.getD i true = false) : left (L.setIfInBounds i true) + 1 = left L := by
  have hl : i < L.size := by
    rcases Nat.lt_or_ge i L.size with h' | h'
    · exact h'
    · simp [Array.getD_eq_getD_getElem?, Array.getElem?_eq_none h'] at h
  have hv : L[i] = false := by simpa [Array.getD_eq_getD_getElem?, hl] using h
  unfold left
  simp only [Array.toList_setIfInBounds]
  have hl2 : i < L.toList.length := by simpa using hl
  rw [List.count_set hl2]
  have : L.toList[i] = false := by simpa using hv
  have hpos : 0 < L.toList.count false := List.count_pos_iff.2 (by rw [← this]; exact List.getElem_mem hl2)
  have hc : Array.count false L = L.toList.count false := by simp
  simp [hv]
  omega
theorem closed_set {L : Array Bool} {i : Nat} (hc : ∀ j, j < ops.size → L.getD j false = true → ∀ d ∈ depsOf md ops j, L.getD d false = true) (h3 : ∀ d ∈ depsOf md ops i, L.getD d false = true) : ∀ j, j < ops.size → (L.setIfInBounds i true).getD j false = true → ∀ d ∈ depsOf md ops j, (L.setIfInBounds i true).getD d false = true := by
  have up : ∀ d, L.getD d false = true → (L.setIfInBounds i true).getD d false = true := by
    intro d hd
    by_cases hid : i = d
    · subst hid
      have hl : i < L.size := by
        rcases Nat.lt_or_ge i L.size with h' | h'
        · exact h'
        · simp [Array.getD_eq_getD_getElem?, Array.getElem?_eq_none h'] at hd
      simp [Array.getD_eq_getD_getElem?, hl]
    · rw [getD_set hid]; exact hd
  intro j hj h d hd
  by_cases hij : i = j
  · subst hij
    exact up d (h3 d hd)
  · rw [getD_set hij] at h
    exact up d (hc j hj h d hd)
theorem getD_no {L : Array Bool} {i : Nat} (h : L.getD i true = false) : L.getD i false = false := by
  rcases Nat.lt_or_ge i L.size with h' | h'
  · simpa [Array.getD_eq_getD_getElem?, h'] using h
  · simp [Array.getD_eq_getD_getElem?, Array.getElem?_eq_none h'] at h
theorem getD_same {L : Array Bool} {i : Nat} (h : i < L.size) : (L.setIfInBounds i true).getD i false = true := by
  simp [Array.getD_eq_getD_getElem?, h]
theorem not_yet {L : Array Bool} {i : Nat} (h : L.getD i true = false) (k : L.getD i false = true) : False := by rw [getD_no h] at k; cases k
theorem memOf {l : List Nat} {d : Nat} (h : l.contains d = true) : d ∈ l := by simpa using h
theorem wpAny_inv (I : Array Bool → Act → World → Prop) (hac : acyc md ops = true)
    (hstep : ∀ i L a w, i < ops.size → (∀ d ∈ depsOf md ops i, L.getD d false = true) → L.getD i true = false → L.size = ops.size → (∀ j, j < ops.size → L.getD j false = true → ∀ d ∈ depsOf md ops j, L.getD d false = true) → I L a w → wpOp P ops Q i (I (L.setIfInBounds i true)) a w)
    (hend : ∀ L a w, (∀ i, i < ops.size → L.getD i false = true) → I L a w → Q .normal a w) :
    ∀ (fuel : Nat) (L : Array Bool) (a : Act) (w : World), L.size = ops.size → left L ≤ fuel → (∀ j, j < ops.size → L.getD j false = true → ∀ d ∈ depsOf md ops j, L.getD d false = true) → I L a w → wpAny P md ops Q fuel L a w
  | 0, L, a, w, hs, hf, hc, hI => by
    have hr : Region.ready md ops L = [] := by
      apply List.eq_nil_iff_forall_not_mem.2
      intro i hi
      have := left_set (ready_iff.1 hi).2.1
      omega
    exact ⟨hr, hend L a w (all_of_stuck hac hs hr) hI⟩
  | fuel + 1, L, a, w, hs, hf, hc, hI => by
    refine ⟨fun hr => hend L a w (all_of_stuck hac hs hr) hI, fun i hi => ?_⟩
    obtain ⟨h1, h2, h3⟩ := ready_iff.1 hi
    refine wpOp_mono (fun a' w' h => ?_) (hstep i L a w h1 h3 h2 hs hc hI)
    exact wpAny_inv I hac hstep hend fuel _ a' w' (by simpa using hs) (by have := left_set h2; omega) (closed_set hc h3) h
theorem region_inv {id : Nat} {a : Act} {w : World} (hm : P.follows .mixedOrders = true) (I : Array Bool → Act → World → Prop) (hac : acyc .any ops = true)
    (h0 : I (Array.replicate ops.size false) a w.drew)
    (hstep : ∀ i L a w, i < ops.size → (∀ d ∈ depsOf .any ops i, L.getD d false = true) → L.getD i true = false → L.size = ops.size → (∀ j, j < ops.size → L.getD j false = true → ∀ d ∈ depsOf .any ops j, L.getD d false = true) → I L a w → wpOp P ops Q i (I (L.setIfInBounds i true)) a w)
    (hend : ∀ L a w, (∀ i, i < ops.size → L.getD i false = true) → I L a w → Q .normal a w) : (Code.region id ops true).wp P Q a w :=
  wp_region_any hm (wpAny_inv I hac hstep hend _ _ _ _ (by simp) (by unfold left; refine Nat.le_trans List.count_le_length ?_; simp) (fun j hj h => by simp [Array.getD_eq_getD_getElem?, hj] at h) h0)
theorem step_run {i : Nat} {o : Oper} {K : Act → World → Prop} {a : Act} {w w' : World} {v : Value} (hi : ops[i]? = some o) (hg : o.guard = none) (hrun : (execOp a.eval o).run P w = .ok (.value v) w') (hK : K (a.put o.dst v) w') : wpOp P ops Q i K a w := by
  unfold wpOp
  simp only [hi]
  rw [if_pos (by simp [Region.wanted, hg])]
  left
  unfold Oper.wp
  rw [hrun]
  exact hK
theorem step_sk {i : Nat} {o : Oper} {K : Act → World → Prop} {a : Act} {w w' : World} (hi : ops[i]? = some o) (hg : o.guard = none) (hrun : (execOp a.eval o).run P w = .ok .skip w') (hK : K (a.put o.dst undef) w') : wpOp P ops Q i K a w := by
  unfold wpOp
  simp only [hi]
  rw [if_pos (by simp [Region.wanted, hg])]
  left
  unfold Oper.wp
  rw [hrun]
  exact hK
theorem step_call {i : Nat} {o : Oper} {K : Act → World → Prop} {a : Act} {w : World} {f : FuncId} {args : Array Value} {R : Ending → World → Prop} (hi : ops[i]? = some o) (hg : o.guard = none) (hrun : (execOp a.eval o).run P w = .ok (.enter f args) w) (hc : Calls P f args w R) (hR : ∀ e w', R e w' → ∃ v, e = .returned v ∧ K (a.put o.dst v) w') : wpOp P ops Q i K a w := by
  unfold wpOp
  simp only [hi]
  rw [if_pos (by simp [Region.wanted, hg])]
  left
  unfold Oper.wp
  rw [hrun]
  refine Calls.mono hc ?_
  intro e w' he
  obtain ⟨v, rfl, hk⟩ := hR e w' he
  exact hk
end
end Go.Proofs.YtphaefkaeinngaaGreatDoor.Rg

/-
  A region that draws its order, in a round of a loop over an iterator: out of what holds of it outside.
-/
namespace Go.Proofs.YtphaefkaeinngaaGreatDoor.Hp
open Go Go.RowKit Go.Shelf
open Go.Proofs.YtphaefkaeinngaaGreatDoor.Des (Vl Ds zeroV zeroD dcs dcs_size dcs_one)
open Go.Proofs.YtphaefkaeinngaaGreatDoor.Arrs (En ecs ecs_0 ecs_1 ecs_10 ecs_size ecs_list ecs_one ecs_one')
set_option linter.unusedVariables false
def noDefer (ops : Array Oper) : Bool := ops.all fun o => match o.op with | .defer _ => false | _ => true
theorem noDefer_spec {ops : Array Oper} (h : noDefer ops = true) {i : Nat} {o : Oper} (ho : ops[i]? = some o) : ∀ c, o.op ≠ .defer c := fun c e => by
  unfold noDefer at h
  rw [Array.all_eq_true_iff_forall_mem] at h
  have := h o (Array.mem_of_getElem? ho)
  rw [e] at this
  cases this
theorem wpIn_of_wp_op {P : Program} {l n : Nat} {o : Oper} (hd : ∀ c, o.op ≠ .defer c) {Q : Exit → Act → World → Prop} (hQ : ¬ LetsOut Q) {K K' : Act → World → Prop} (hK : ∀ a w, K a w → K' a w) {a : Act} {w : World} (h : o.wp P a w K Q ∨ (o.asks P a w ∧ LetsOut Q)) : o.wpIn (Fence.wide.inRound l) n P a w K' Q := by
  rcases h with h | ⟨_, h⟩
  · refine ⟨fun _ _ => trivial, ?_⟩
    rw [Fence.inRound_round, Oper.semAt_some l _ _ hd]
    unfold Oper.wp at h
    cases hr : (execOp a.eval o).run P w with
    | ok nx w' =>
      rw [hr] at h
      cases nx with
      | value v => exact hK _ _ h
      | skip => exact hK _ _ h
      | defer d => exact hK _ _ h
      | enter f args =>
        refine ⟨(fun h => by cases h), CallsIn.inRound l (callsIn_wide.2 (Calls.mono h ?_))⟩
        intro e w'' he
        cases e with
        | returned v => exact hK _ _ he
        | panicked c => exact he
        | outgrown => exact he
      | row row args => exact ⟨(fun h => by cases h), fun c cs _ => let ⟨v, w2, r, s⟩ := h c cs; ⟨v, w2, hK _ _ r, stepsIn_wide.2 s⟩⟩
      | round => exact h.elim
      | _ => exact h.elim
    | halt x w' =>
      rw [hr] at h
      cases x with
      | panic v => exact h
      | _ => exact h.elim
  · exact absurd h hQ
theorem wpAnyIn_of_wpAny {P : Program} {l n : Nat} {md : Region.Mode} {ops : Array Oper} (hd : noDefer ops = true) {Q : Exit → Act → World → Prop} (hQ : ¬ LetsOut Q) : ∀ (fuel : Nat) (listed : Array Bool) (a : Act) (w : World), wpAny P md ops Q fuel listed a w → wpAnyIn (Fence.wide.inRound l) n P md ops Q fuel listed a w
  | 0, _, _, _, h => h
  | fuel + 1, listed, a, w, h => by
    refine ⟨h.1, fun i hi => ?_⟩
    have h2 := h.2 i hi
    unfold wpOp at h2
    unfold wpOpIn
    cases ho : ops[i]? with
    | none =>
      rw [ho] at h2
      exact wpAnyIn_of_wpAny hd hQ fuel _ a w h2
    | some o =>
      rw [ho] at h2
      simp only at h2 ⊢
      split
      · rename_i hw
        rw [if_pos hw] at h2
        exact wpIn_of_wp_op (noDefer_spec hd ho) hQ (fun a w h => wpAnyIn_of_wpAny hd hQ fuel _ a w h) h2
      · rename_i hw
        rw [if_neg hw] at h2
        exact ⟨fun _ _ => trivial, wpAnyIn_of_wpAny hd hQ fuel _ _ w h2⟩
theorem region_in_round {P : Program} {l n id : Nat} {ops : Array Oper} (hm : P.follows .mixedOrders = true) (hd : noDefer ops = true) {Q : Exit → Act → World → Prop} (hQ : ¬ LetsOut Q) {a : Act} {w : World} {S : World → Prop} (h : wpAnyH P .any ops Q S ops.size (Array.replicate ops.size false) a w.drew) : (Code.region id ops true).wpIn (Fence.wide.inRound l) n P Q a w :=
  wpIn_region_any hm (wpAnyIn_of_wpAny hd hQ _ _ _ _ (wpAny_of_held _ _ _ _ h))
theorem yields_load {P : Program} {ops : Array Oper} {S : World → Prop} {o : Oper} {a : Act} {T : TypeId} {x : Operand} {y v : Value} (hg : o.guard = none) (hop : o.op = .load T x) (hx : a.eval x = y) (hrun : ∀ w, S w → (Instr.loadAt T y).run P w = .ok v w) : YieldsIf P ops S o v a :=
  .inl ⟨by simp [Region.wanted, hg], fun w hw => by simp [execOp, hop, hx, hrun w hw]⟩
theorem yields_nil {P : Program} {ops : Array Oper} {S : World → Prop} {o : Oper} {a : Act} {x : Operand} {p : Addr} (hg : o.guard = none) (hop : o.op = .nilCheck x) (hx : a.eval x = .pointer (some p)) : YieldsIf P ops S o (.pointer (some p)) a :=
  .inl ⟨by simp [Region.wanted, hg], fun w hw => by simp [execOp, hop, hx]⟩
theorem yields_run {P : Program} {ops : Array Oper} {S : World → Prop} {o : Oper} {a : Act} {v : Value} (hg : o.guard = none) (hrun : ∀ w, (execOp a.eval o).run P w = .ok (.value v) w) : YieldsIf P ops S o v a :=
  .inl ⟨by simp [Region.wanted, hg], fun w hw => hrun w⟩
theorem call_last {P : Program} {ops : Array Oper} {Q : Exit → Act → World → Prop} {i : Nat} {o : Oper} {K : Act → World → Prop} {a : Act} {w : World} {f : FuncId} {args : Array Value} {R : Ending → World → Prop} (hi : ops[i]? = some o) (hg : o.guard = none) (hrun : (execOp a.eval o).run P w = .ok (.enter f args) w) (hc : Calls P f args w R) (hR : ∀ e w', R e w' → ∃ v, e = .returned v ∧ K (a.put o.dst v) w') : wpOp P ops Q i K a w := by
  unfold wpOp
  simp only [hi]
  rw [if_pos (by simp [Region.wanted, hg])]
  left
  unfold Oper.wp
  rw [hrun]
  refine Calls.mono hc ?_
  intro e w' he
  obtain ⟨v, rfl, hk⟩ := hR e w' he
  exact hk
end Go.Proofs.YtphaefkaeinngaaGreatDoor.Hp

/-
  collect: a list of properties becomes a ring.
-/
namespace Go.Proofs.YtphaefkaeinngaaGreatDoor.Hp
open Go Go.RowKit Go.Maps Go.Shelf Go.Proofs.YtphaefkaeinngaaGreatDoor.Keys
open Go.Proofs.YtphaefkaeinngaaGreatDoor.Des (Vl Ds zeroV zeroD dcs dcs_size dcs_one)
open Go.Proofs.YtphaefkaeinngaaGreatDoor.Arrs (En ecs ecs_0 ecs_1 ecs_10 ecs_size ecs_list ecs_one ecs_one')
set_option linter.unusedVariables false
set_option linter.unusedSimpArgs false
attribute [local go_sem] Oper.semAt_some
attribute [local go_sem ↓] ldE bxE bxN bdN bxH bdH alE stE
attribute [local irreducible] ecs ncs hcs
attribute [local go_sem] run_bx run_bdN run_bdH run_alE run_stE ecs_0 ecs_1 ncs_20 ncs_21 ncs_22 hcs_23 hcs_20 hcs_21
set_option maxRecDepth 100000 in
set_option maxHeartbeats 4000000 in
theorem collect_any (ao : Option Addr) (cap : Nat) (es : List En) (w : World) (hlen : es.length ≤ 1000000) (hes : EsAt w.heap.size ao es w) (hf : ∀ e ∈ es, Fine (ekey e)) :
    Calls Tryz.prog 49 #[.slice ao es.length cap] w (CollPost w es) := by
  obtain ⟨W1, hW1⟩ : ∃ W1, ((w.alloc (.map #[] 0)).alloc (.cells (hcs nilP nilP w.heap.size) 146)).alloc (.cells #[ptr (w.heap.size + 1)] 105) = W1 := ⟨_, rfl⟩
  have k1 : W1.heap.size = w.heap.size + 3 := by rw [← hW1]; simp
  have bp : Blk W1 (w.heap.size + 1) (hcs nilP nilP w.heap.size) 146 := by
    have := (Blk.new (w.alloc (.map #[] 0)) (hcs nilP nilP w.heap.size) 146).old (.cells #[ptr (w.heap.size + 1)] 105)
    rw [hW1, World.size_alloc] at this
    exact this
  have bx : Blk W1 (w.heap.size + 2) #[ptr (w.heap.size + 1)] 105 := by
    have := Blk.new ((w.alloc (.map #[] 0)).alloc (.cells (hcs nilP nilP w.heap.size) 146)) #[ptr (w.heap.size + 1)] 105
    rw [hW1, World.size_alloc, World.size_alloc] at this
    exact this
  have hm1 : MapIs W1 w.heap.size 0 (look []) := by
    rw [← hW1]
    exact ((MapIs.made w).old _).old _
  have hb1 : Below w.heap.size w W1 := by rw [← hW1]; exact (((Below.refl _ w).alloc (Nat.le_refl _) _).alloc (by simp) _).alloc (by simp; omega) _
  have c0 : W1.cell? ⟨w.heap.size + 2, 0, none⟩ = some (.pointer (some ⟨w.heap.size + 1, 0, none⟩)) := bx.cell 0
  have c20 : W1.cell? ⟨w.heap.size + 1, 20, none⟩ = some (.pointer none) := (bp.cell 20).trans (hcs_20 _ _ _)
  have c21 : W1.cell? ⟨w.heap.size + 1, 21, none⟩ = some (.pointer none) := (bp.cell 21).trans (hcs_21 _ _ _)
  have f20 := bp.frozen 20
  have f21 := bp.frozen 21
  have d20 : (W1.setCell ⟨w.heap.size + 1, 21, none⟩ (.pointer (some ⟨w.heap.size + 1, 0, none⟩))).cell? ⟨w.heap.size + 1, 20, none⟩ = some (.pointer none) := by rw [World.cell?_setCell_other _ _ _ _ (by simp)]; exact c20
  have d21 : (W1.setCell ⟨w.heap.size + 1, 20, none⟩ (.pointer (some ⟨w.heap.size + 1, 0, none⟩))).cell? ⟨w.heap.size + 1, 21, none⟩ = some (.pointer none) := by rw [World.cell?_setCell_other _ _ _ _ (by simp)]; exact c21
  have e20 : (W1.setCell ⟨w.heap.size + 1, 20, none⟩ (.pointer (some ⟨w.heap.size + 1, 0, none⟩))).cell? ⟨w.heap.size + 2, 0, none⟩ = some (.pointer (some ⟨w.heap.size + 1, 0, none⟩)) := by rw [World.cell?_setCell_other _ _ _ _ (by simp)]; exact c0
  have e21 : (W1.setCell ⟨w.heap.size + 1, 21, none⟩ (.pointer (some ⟨w.heap.size + 1, 0, none⟩))).cell? ⟨w.heap.size + 2, 0, none⟩ = some (.pointer (some ⟨w.heap.size + 1, 0, none⟩)) := by rw [World.cell?_setCell_other _ _ _ _ (by simp)]; exact c0
  obtain ⟨W2, hW2⟩ : ∃ W2, link W1 (w.heap.size + 1) (w.heap.size + 1) (ptr (w.heap.size + 1)) (ptr (w.heap.size + 1)) = W2 := ⟨_, rfl⟩
  have hlk1 : (W1.setCell ⟨w.heap.size + 1, 21, none⟩ (.pointer (some ⟨w.heap.size + 1, 0, none⟩))).setCell ⟨w.heap.size + 1, 20, none⟩ (.pointer (some ⟨w.heap.size + 1, 0, none⟩)) = W2 := hW2
  have hlk2 : (W1.setCell ⟨w.heap.size + 1, 20, none⟩ (.pointer (some ⟨w.heap.size + 1, 0, none⟩))).setCell ⟨w.heap.size + 1, 21, none⟩ (.pointer (some ⟨w.heap.size + 1, 0, none⟩)) = W2 := by rw [setCell_comm]; exact hW2
  have k2 : W2.heap.size = w.heap.size + 3 := by rw [← hW2, link_size, k1]
  have hob : Obj1 W2 (w.heap.size + 1) w.heap.size 0 [] := by
    refine ⟨⟨?_, trivial, by simp [blks]⟩, ?_⟩
    · have := (bp.set 21 (ptr (w.heap.size + 1))).set 20 (ptr (w.heap.size + 1))
      rw [hcs_set21, hcs_set20] at this
      rw [← hW2]
      exact this
    · rw [← hW2]
      exact hm1.same (link_other _ _ _ _ _ _ (by omega) (by omega))
  have bx2 : Blk W2 (w.heap.size + 2) #[ptr (w.heap.size + 1)] 105 := by
    rw [← hW2]
    exact (link_other _ _ _ _ _ _ (by omega) (by omega)).trans bx
  have hb2 : Below w.heap.size w W2 := by rw [← hW2]; exact (hb1.setCell (p := ⟨w.heap.size + 1, 21, none⟩) (by simp) _).setCell (p := ⟨w.heap.size + 1, 20, none⟩) (by simp) _
  have HOB := Lib.hid hob
  have HBX := Lib.hid bx2
  have HB2 := Lib.hid hb2
  have HES := Lib.hid hes
  have HF := Lib.hid hf
  clear hob bx2 hb2 hes hf hW2 hm1 bp bx hb1
  have hmm := make_mapP
  refine (callsIn_wide (n := 9)).1 ?_
  refine callsIn_of_wp_marks Tryz.func49 rfl trivial ?_ rfl
  simp only [Tryz.ntmps49, List.size_toArray, List.length_cons, List.length_nil, Nat.reduceAdd, Nat.reduceSub, Array.replicate_succ, Array.replicate_zero, List.push_toArray, List.append_toArray, List.nil_append, List.cons_append]
  gi_wp2
  gi_region
  all_goals gi_wp2_with (refine ⟨trivial, ?_⟩; gi_at_call 66; refine (callsIn_wide.2 (back_any _ _ _ _)).mono ?_; rintro e w' ⟨rfl, rfl⟩)
  generalize Value.pointer (some ⟨w.heap.size + 1, 0, none⟩) = u1
  generalize Value.pointer (some ⟨w.heap.size + 1, 20, none⟩) = u2
  generalize Value.pointer (some ⟨w.heap.size + 1, 21, none⟩) = u3
  generalize Value.agg (hcs nilP nilP w.heap.size) = u4
  generalize Value.int IntKind.i64 es.length = u5
  generalize Value.map (some w.heap.size) = u6
  obtain ⟨W0, hW0⟩ : ∃ W0, (W2.alloc (.cells #[.slice ao es.length cap] 37)).drew = W0 := ⟨_, rfl⟩
  have k0 : W0.heap.size = w.heap.size + 4 := by rw [← hW0]; simp [k2]
  have b02 : Below W2.heap.size W2 W0 := by rw [← hW0]; exact ((Below.refl _ W2).alloc (Nat.le_refl _) _).drew
  have bn : Blk W0 (w.heap.size + 3) #[.slice ao es.length cap] 37 := by
    have := Blk.new W2 #[.slice ao es.length cap] 37
    rw [k2] at this
    rw [← hW0]
    exact this.drew
  have o0 := HOB.out.call b02
  have x0 := HBX.out.call b02
  have l0 : Below w.heap.size w W0 := HB2.out.trans (b02.mono (by omega))
  rw [hW0]
  clear hlk1 hlk2 e20 e21 d20 d21 f20 f21 c20 c21 c0 hmm hW1 hW0 k1 b02
  obtain ⟨fs, hfs⟩ := fe_list es HF.out
  have hfl : fs.length = es.length := by rw [← hfs]; simp
  have hFSx := Lib.hid hfs
  have bn' : Blk W0 (w.heap.size + 3) #[.slice ao fs.length cap] 37 := by rw [hfl]; exact bn
  refine wpIn_rangeFunc_ownH (F := Fence.wide) rfl (by omega) (gf := 76) (lb := #[.pointer (some ⟨w.heap.size + 3, 0, none⟩)]) rfl trivial (enters_of Tryz.func76 (by kernel_rfl) rfl)
    (back_stops Fence.wide (9 - 1) trivial rfl (by omega) (w.heap.size + 3) w.heap.size ao cap fs (by omega) W0 (by omega) bn' (by rw [hfs]; exact HES.out.below l0)) (fun h k => h.trans k) (kept_b (by omega) (by omega)) (Below.refl _ _) (fun _ => rfl)
    (fun pre W => ∃ ns, CollInv w (w.heap.size + 1) w.heap.size (w.heap.size + 2) W0.heap.size pre ns W) (fun _ _ _ => False)
    (coll_own _ _ _ _ _ _ (by omega) (by omega)) (fun _ _ _ _ _ hs _ _ => hs)
    ⟨[], o0, rfl, x0, by simp [blks], l0, Nat.le_refl _, Chain.nil⟩
    (fun x a' W => ∃ Bx, Blk W Bx (ecs x.2.1) 36 ∧ a' = { tmps := #[.slice ao es.length cap, undef, .pointer none, .pointer (some ⟨w.heap.size + 1 + 1, 0, none⟩), undef, .pointer (some ⟨Bx, 0, none⟩), .slice ao es.length cap, u5, u6, u4, ptr (w.heap.size + 1), u1, u1, u1, u1, u1, u1, u1, u1, u1, u1, u2, u1, u1, u3, .slice ao es.length cap, .func (.func 76) #[] #[.pointer (some ⟨w.heap.size + 3, 0, none⟩)], .int .i64 x.1, .agg (ecs x.2.1), undef, undef, undef, undef, undef, undef, undef], defers := [] })
    (fun x a' _ X Y row hs hg hr => by obtain ⟨Bx, h1, h2⟩ := hs; exact ⟨Bx, h1.kept hg (fun r e => (hr r e).2), h2⟩)
    ?assign ?body ?done ?stop
  case assign =>
    clear bn bn' o0 x0 l0
    rintro l pre x W K ⟨ns, hi⟩ hK
    gi_wp2
    exact hK _ _ ((KeepsOthers.alloc _ _).from _) ⟨(Below.refl _ W).alloc hi.below.size _, heap_alloc_old _ _ (by have := hi.size; omega)⟩ ⟨ns, hi.obj.old _, hi.es, hi.box.old _, hi.low, hi.below.alloc hi.below.size _, by have := hi.size; simp; omega, hi.chain⟩ ⟨W.heap.size, Blk.new W _ _, rfl⟩
  case body =>
    clear bn bn' o0 x0 l0
    rintro l pre x a' W hl hr ⟨ns, hi⟩ ⟨Bx, bX, rfl⟩ hlt
    have c0 : W.cell? ⟨w.heap.size + 2, 0, none⟩ = some (.pointer (some ⟨w.heap.size + 1, 0, none⟩)) := hi.box.cell 0
    have le : (Ld 36 (.pointer (some ⟨Bx, 0, none⟩))).run Tryz.prog W.drew = .ok (.agg (ecs x.2.1)) W.drew := run_ldE (w := W.drew) (bX.range (r := []) (by simp))
    have hmx : Tryz.prog.follows .mixedOrders = true := by kernel_rfl
    have hins : Calls Tryz.prog 67 #[ptr (w.heap.size + 1), ptr (w.heap.size + 1), .agg (ecs x.2.1)] W.drew fun y w' => y = .returned (.tuple #[]) ∧ ∃ nd : Nd, nd.e = x.2.1 ∧ nd.a = pto (look ns (ekey x.2.1)) ∧ W.drew.heap.size ≤ nd.b ∧ Obj1 w' (w.heap.size + 1) w.heap.size (pre.length + 1) (nd :: ns) ∧ Turn W.drew w' (w.heap.size + 1) w.heap.size ns :=
      insert_ring (l := []) (r := ns) hi.obj.drew (by omega) x.2.2 (.inl rfl)
    have hload : ∀ w' : World, (w'.cell? ⟨w.heap.size + 2, 0, none⟩ = some (ptr (w.heap.size + 1)) ∧ enAt w' Bx 0 x.2.1) → (Instr.loadAt 105 (.pointer (some ⟨w.heap.size + 1 + 1, 0, none⟩))).run Tryz.prog w' = .ok (ptr (w.heap.size + 1)) w' := fun w' h => by
      have h1 : w'.cell? ⟨w.heap.size + 1 + 1, 0, none⟩ = some (ptr (w.heap.size + 1)) := h.1
      simp [go_sem, h1]
    have hloadE : ∀ w' : World, (w'.cell? ⟨w.heap.size + 2, 0, none⟩ = some (ptr (w.heap.size + 1)) ∧ enAt w' Bx 0 x.2.1) → (Instr.loadAt 36 (.pointer (some ⟨Bx, 0, none⟩))).run Tryz.prog w' = .ok (.agg (ecs x.2.1)) w' := fun w' h => run_ldE h.2
    gi_wp2
    refine region_in_round hmx (by kernel_rfl) (fun ⟨_, _, h⟩ => h) (S := fun w' => w'.cell? ⟨w.heap.size + 2, 0, none⟩ = some (ptr (w.heap.size + 1)) ∧ enAt w' Bx 0 x.2.1) ?_
    have hS : W.drew.cell? ⟨w.heap.size + 2, 0, none⟩ = some (ptr (w.heap.size + 1)) ∧ enAt W.drew Bx 0 x.2.1 := ⟨c0, bX.range (r := []) (by simp)⟩
    refine wpAnyH_take (i := 0) (v := ptr (w.heap.size + 1)) rfl (by kernel_rfl) (by kernel_rfl) (by kernel_rfl) (fun _ _ _ h => h) (yields_load rfl rfl rfl hload) hS ?_
    refine wpAnyH_take (i := 1) (v := ptr (w.heap.size + 1)) rfl (by kernel_rfl) (by kernel_rfl) (by kernel_rfl) (fun _ _ _ h => h) (yields_load rfl rfl rfl hload) hS ?_
    refine wpAnyH_take (i := 2) (v := ptr (w.heap.size + 1)) rfl (by kernel_rfl) (by kernel_rfl) (by kernel_rfl) (fun _ _ _ h => h) (yields_nil rfl rfl rfl) hS ?_
    refine wpAnyH_take (i := 3) (v := ptr (w.heap.size + 1)) rfl (by kernel_rfl) (by kernel_rfl) (by kernel_rfl) (fun _ _ _ h => h) (yields_run rfl (fun w' => by simp [go_sem, Act.eval, Act.put])) hS ?_
    refine wpAnyH_take (i := 4) (v := .agg (ecs x.2.1)) rfl (by kernel_rfl) (by kernel_rfl) (by kernel_rfl) (fun _ _ _ h => h) (yields_load rfl rfl rfl hloadE) hS ?_
    refine wpAnyH_all (rs := [5]) (by kernel_rfl) (by simp) ?_
    intro i hi5
    obtain rfl : i = 5 := by simpa using hi5
    refine call_last rfl rfl (f := 67) (args := #[ptr (w.heap.size + 1), ptr (w.heap.size + 1), .agg (ecs x.2.1)]) (by simp [go_sem, Act.eval, Act.put]) hins ?_
    rintro e w' ⟨rfl, nd, he, ha, hb, ho, ht⟩
    refine ⟨_, rfl, ?_, wpAnyH_done (by kernel_rfl) ?_ _⟩
    · refine ⟨(ht.undrew.blk hi.box (hi.notin (by omega) (by omega)) (by omega)).cell 0, (ht.undrew.blk bX (hi.obj.ring.notblk bX (by decide) (by decide)) ?_).range (r := []) (by simp)⟩
      intro e
      obtain ⟨es', c', ho'⟩ := hi.obj.map.obj
      rw [← e, show W.heap[Bx]? = _ from bX] at ho'
      cases ho'
    · have h := hi.step (Bn := w.heap.size + 3) he hb ho ht.undrew ha (Nat.le_refl _) (by omega) (by omega) (by omega) (by omega)
      exact ⟨h.1, h.2.1, _, h.2.2⟩
  case done =>
    clear bn bn' o0 x0 l0
    rintro D ys W hD rfl ⟨ns, hi⟩ hK
    have c0 : W.cell? ⟨w.heap.size + 2, 0, none⟩ = some (.pointer (some ⟨w.heap.size + 1, 0, none⟩)) := hi.box.cell 0
    have hend := coll_end (fs := fs) (es := es) (o' := .deferred none) (D := D) hi hFSx hD hK (by omega) (by omega)
    gi_wp2
    refine ⟨by simp, .inl ⟨_, _, rfl, run_takeDeferred hK, ?_⟩⟩
    refine ⟨_, results_tmp rfl _ _ _, ?_⟩
    simp only [] at hend ⊢
    exact hend
  case stop =>
    rintro D c pre W _ _ h _
    exact h.elim
end Go.Proofs.YtphaefkaeinngaaGreatDoor.Hp
