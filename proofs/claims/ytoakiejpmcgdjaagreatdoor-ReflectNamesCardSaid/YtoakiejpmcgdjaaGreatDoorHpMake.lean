/-
  Make.
-/
import Derived.Test.YtoakiejpmcgdjaaGreatDoorHpStore
import Derived.Deep.RegionLaw
namespace Go.Proofs.YtoakiejpmcgdjaaGreatDoor.Hp
open Go Go.RowKit Go.Maps Go.Shelf Go.Proofs.YtoakiejpmcgdjaaGreatDoor.Keys
set_option linter.unusedVariables false
set_option linter.unusedSimpArgs false
attribute [local go_sem ↓] ldE ldT bxT bxO bdO alE alT stE stT
attribute [local irreducible] ecs ncs hcs tcs ocs
attribute [local go_sem] run_bx run_alE run_alT run_bdO tcs_0 tcs_5 tcs_20 tcs_set5 tcs_set20 ocs_24

theorem make_full (hb : Nat) (room : Int) (a : Option Addr) (n c : Nat) (sy : Int) (th : Th) (w : World) (h : Blk w hb (hp room (.slice a n c) sy) 57) (hr : room ≤ n) :
    Calls Tryz.prog 46 #[ptr hb, .agg (tcs th)] w fun e w' => e = .returned (.tuple #[.int .i64 0, .bool false]) ∧ Below w.heap.size w w' := by
  obtain ⟨w1, hw1⟩ : ∃ w1, w.alloc (.cells (tcs th) 100) = w1 := ⟨_, rfl⟩
  have b1 : Below w.heap.size w w1 := by rw [← hw1]; exact (Below.refl _ w).alloc (Nat.le_refl _) _
  have c0 : w1.cell? ⟨hb, 0, none⟩ = some (.int .i64 room) := (h.call b1).cell 0
  have c1 : w1.cell? ⟨hb, 1, none⟩ = some (.slice a n c) := (h.call b1).cell 1
  have B1 := Lib.hid b1
  clear b1 h
  go_enter Tryz.func46, Tryz.ntmps46
  go_wp2
  go_region
  all_goals go_wp2
  all_goals go_ret2
  all_goals exact ⟨rfl, B1.out.drew⟩
theorem infoO : (Tryz.prog.info? 130).map (fun i => (i.zero, i.size, i.bytes)) = some (some (.pointer none), 1, 8) := by kernel_rfl
/-- How Make ends, with room. -/
def MakePost (w : World) (base hb : Nat) (room : Int) (k : Nat) (sy : Int) (xs : List Value) (th : Th) (es : List En) (vs : List Vl) (ow : Option Nat) (y : Ending) (w' : World) : Prop :=
  y = .returned (.tuple #[.int .i64 k, .bool true]) ∧ ∃ g c, Blk w' hb (hp room (.slice (some ⟨g, 0, none⟩) (k + 1) c) sy) 57 ∧ ∃ ob pb mb ns a m c', w'.ownsRow base 130 1 (.slice (some ⟨g, 0, none⟩) (k + 1) c) (k + 1) (xs ++ [ptr ob]) ∧ ObjAt w' w.heap.size ob pb mb es.length { th with props := .slice none 0 0, args := .slice a m c' } es vs ns ∧ Below base w w' ∧ ∀ b, b < w.heap.size → b ≠ hb → some b ≠ ow → w'.heap[b]? = w.heap[b]?
theorem ObjAt.below {w w' : World} {base ob pb mb n : Nat} {th : Th} {es : List En} {vs : List Vl} {ns : List Nd} (h : ObjAt w base ob pb mb n th es vs ns) (hb : Below w.heap.size w w') : ObjAt w' base ob pb mb n th es vs ns :=
  ⟨h.blk.call hb, h.props, h.args, h.obj.call hb, h.es, own_below h.row hb, h.low, h.lowm, h.lowo⟩
theorem ObjAt.mono {w : World} {base base' ob pb mb n : Nat} {th : Th} {es : List En} {vs : List Vl} {ns : List Nd} (h : ObjAt w base ob pb mb n th es vs ns) (hb : base' ≤ base) : ObjAt w base' ob pb mb n th es vs ns :=
  ⟨h.blk, h.props, h.args, h.obj, h.es, h.row.mono hb, fun b hm => Nat.le_trans hb (h.low b hm), Nat.le_trans hb h.lowm, Nat.le_trans hb h.lowo⟩
theorem ne_blk {w : World} {b c : Nat} {cs ds : Array Value} {s t : TypeId} (h : Blk w b cs s) (k : Blk w c ds t) (hne : s ≠ t) : b ≠ c := fun e => by
  subst e
  have e := Option.some.inj ((show w.heap[b]? = _ from h).symm.trans (show w.heap[b]? = _ from k))
  cases e
  exact hne rfl
theorem own_ne {w : World} {base b : Nat} {e t : TypeId} {size n : Nat} {v : Value} {xs : List Value} {cs : Array Value} (h : w.ownsRow base e size v n xs) (hb : Blk w b cs t) (hte : t ≠ e) : v.ownBlock ≠ some b := by
  rcases h.2 with ⟨rfl, _⟩ | ⟨g, cap, cur, rfl, _, hgb, _⟩
  · simp [Value.ownBlock]
  · simp only [Value.ownBlock, ne_eq, Option.some.injEq]
    rintro rfl
    have := (show w.heap[g]? = _ from hb).symm.trans hgb
    simp at this
    exact hte this.2
/-- Two lists of the call's own of different elements lie apart. -/
theorem own_two {w : World} {b1 b2 : Nat} {e1 e2 : TypeId} {s1 s2 n1 n2 : Nat} {v1 v2 : Value} {xs1 xs2 : List Value} (h1 : w.ownsRow b1 e1 s1 v1 n1 xs1) (h2 : w.ownsRow b2 e2 s2 v2 n2 xs2) (hne : e1 ≠ e2) : v1.ownBlock = none ∨ v1.ownBlock ≠ v2.ownBlock := by
  rcases h1.2 with ⟨rfl, _⟩ | ⟨g, cap, cur, rfl, _, hgb, _⟩
  · exact .inl rfl
  · rcases h2.2 with ⟨rfl, _⟩ | ⟨g2, cap2, cur2, rfl, _, hgb2, _⟩
    · right; simp [Value.ownBlock]
    · right
      simp only [Value.ownBlock, ne_eq, Option.some.injEq]
      rintro rfl
      rw [hgb] at hgb2
      simp at hgb2
      exact hne hgb2.2
/-- An object stays while a list of pointers or a heap's own cells are written. -/
theorem ObjAt.grown {w w' : World} {base base2 ob pb mb n k : Nat} {th : Th} {es : List En} {vs : List Vl} {ns : List Nd} {v : Value} {xs : List Value} (h : ObjAt w base ob pb mb n th es vs ns) (hrow : w.ownsRow base2 130 1 v k xs) (hg : w.grownBy w' v.ownBlock) : ObjAt w' base ob pb mb n th es vs ns := by
  have hn : ∀ {b : Nat} {cs : Array Value} {t : TypeId}, Blk w b cs t → t ≠ 130 → w'.heap[b]? = w.heap[b]? := fun hb ht => hg.block _ hb.lt (fun e => own_ne hrow hb ht e.symm)
  refine ⟨(hn h.blk (by decide)).trans h.blk, h.props, h.args, ⟨h.obj.ring.same fun b hb => ?_, h.obj.map.same (hg.block mb h.obj.map.lt fun e => ?_)⟩, h.es, h.row.kept hg (own_two h.row hrow (by decide)), h.low, h.lowm, h.lowo⟩
  · obtain ⟨cs, t, hbl, ht⟩ := h.obj.ring.cells b hb
    exact hn hbl (by rcases ht with rfl | rfl <;> decide)
  · obtain ⟨es', c, ho⟩ := h.obj.map.obj
    rcases hrow.2 with ⟨rfl, _⟩ | ⟨g, cap, cur, rfl, _, hgb, _⟩
    · simp [Value.ownBlock] at e
    · simp [Value.ownBlock] at e
      rw [e, hgb] at ho
      cases ho
theorem ObjAt.set {w : World} {base ob pb mb n b i : Nat} {th : Th} {es : List En} {vs : List Vl} {ns : List Nd} {cs : Array Value} {u : Value} (h : ObjAt w base ob pb mb n th es vs ns) (hb : Blk w b cs 57) : ObjAt (w.setCell ⟨b, i, none⟩ u) base ob pb mb n th es vs ns :=
  ⟨h.blk.other ⟨b, i, none⟩ u (ne_blk h.blk hb (by decide)), h.props, h.args, h.obj.set hb (by decide) (by decide), h.es, own_set h.row hb (by decide) i u, h.low, h.lowm, h.lowo⟩
theorem cell_one (w : World) (v : Value) (t : TypeId) : ∀ j u, [v][j]? = some u → (w.alloc (.cells #[v] t)).cell? ((⟨w.heap.size, 0, none⟩ : Addr).add j) = some u := fun j u hj => by
  cases j with
  | zero => simp at hj; subst hj; simp [Addr.add]
  | succ j => simp at hj
theorem make_end {w w2 w4 : World} {base hb k : Nat} {room sy : Int} {a : Option Addr} {c g' c' m2 cc : Nat} {a2 : Option Addr} {xs : List Value} {th : Th} {es : List En} {vs : List Vl} {ob pb mb : Nat} {ns : List Nd}
    (hblk : Blk w hb (hp room (.slice a k c) sy) 57) (hbase : base ≤ hb) (hrow : w.ownsRow base 130 1 (.slice a k c) k xs) (hb2 : Below w.heap.size w w2) (hoa : ObjAt w2 w.heap.size ob pb mb es.length { th with props := .slice none 0 0, args := .slice a2 m2 cc } es vs ns)
    (hown : w4.ownsRow base 130 1 (.slice (some ⟨g', 0, none⟩) (k + 1) c') (k + 1) (xs ++ [ptr ob])) (hg : (w2.alloc (.cells #[ptr ob] 130)).grownBy w4 (Value.slice a k c).ownBlock) :
    MakePost w base hb room k sy xs th es vs (Value.slice a k c).ownBlock (.returned (.tuple #[.int .i64 k, .bool true])) (w4.setCell ⟨hb, 1, none⟩ (.slice (some ⟨g', 0, none⟩) (k + 1) c')) := by
  have bk2 := (hblk.call hb2).old (.cells #[ptr ob] 130)
  have r2 := (own_below hrow hb2).alloc (.cells #[ptr ob] 130)
  have bk4 : Blk w4 hb (hp room (.slice a k c) sy) 57 := bk2.grown hg (own_ne r2 bk2 (by decide)).symm
  have o4 := (hoa.below ((Below.refl _ w2).alloc (Nat.le_refl _) (.cells #[ptr ob] 130))).grown r2 hg
  have hs : base ≤ w.heap.size := Nat.le_trans hbase (Nat.le_of_lt hblk.lt)
  have bel4 : Below base w w4 := ((hb2.mono hs).alloc (Nat.le_trans hs hb2.size) _).grown hg (by have := hb2.size; simp; omega) (fun k' hk => (hrow.lt k' hk).1)
  exact ⟨rfl, g', c', bk4.set 1 _, ob, pb, mb, ns, a2, m2, cc, own_set hown bk4 (by decide) _ _, o4.set bk4, bel4.setCell (p := ⟨hb, 1, none⟩) hbase _, fun b hb1 hb3 hb4 => (heap_setCell_other w4 ⟨hb, 1, none⟩ b _ hb3).trans ((hg.block b (by have := hb2.size; simp; omega) hb4).trans ((heap_alloc_old _ _ (by have := hb2.size; omega)).trans (hb2.block b hb1)))⟩
theorem MakePost.undrew {w : World} {base hb k : Nat} {room sy : Int} {xs : List Value} {th : Th} {es : List En} {vs : List Vl} {ow : Option Nat} {y : Ending} {w' w1 : World} (h : MakePost w1 base hb room k sy xs th es vs ow y w') (hb1 : Below w.heap.size w w1) (hs : base ≤ w.heap.size) : MakePost w base hb room k sy xs th es vs ow y w' := by
  obtain ⟨h1, g, c, h2, ob, pb, mb, ns, a, m, c', h3, h4, h5, h6⟩ := h
  exact ⟨h1, g, c, h2, ob, pb, mb, ns, a, m, c', h3, h4.mono hb1.size, (hb1.mono hs).trans h5, fun b q1 q2 q3 => (h6 b (by have := hb1.size; omega) q2 q3).trans (hb1.block b q1)⟩
/-- append, as one step of a region that draws. -/
theorem step_app {P : Program} {ops : Array Oper} {o : Oper} {a : Act} {w w' : World} {K : Act → World → Prop} {Q : Exit → Act → World → Prop} {E : Prop} (hg : o.guard = none) (s x : Operand) (t : TypeId) (hop : o.op = Op.call { callee := Callee.builtin Builtin.append, args := #[s, x], argTypes := #[t, t] }) (ht : o.type = t)
    (v1 v2 v' : Value) (hs : a.eval s = v1) (hx : a.eval x = v2) (hrun : (Builtin.append_ #[t, t] t #[v1, v2]).run P w = .ok v' w') (hK : K (a.put o.dst v') w') : if Region.wanted o (yielded ops a.tmps) = true then Oper.wp P o a w K Q else E := by
  have hw : Region.wanted o (yielded ops a.tmps) = true := by simp [Region.wanted, hg]
  rw [if_pos hw]
  subst ht
  unfold Oper.wp
  simp [execOp, hop, resolve, invoke, builtin, hs, hx, hrun, Result.andThen]
  exact hK
theorem make_app {W w2 : World} {base hb k c : Nat} {room sy : Int} {a : Option Addr} {xs : List Value} (hblk : Blk W hb (hp room (.slice a k c) sy) 57) (hrow : W.ownsRow base 130 1 (.slice a k c) k xs) (hb2 : Below W.heap.size W w2) (hk : k ≤ 1000) (hbase : base ≤ hb) (ob : Nat) :
    ∃ g' c' w4, (Builtin.append_ #[55, 55] 55 #[.slice a k c, .slice (some ⟨w2.heap.size, 0, none⟩) 1 1]).run Tryz.prog (w2.alloc (.cells #[.pointer (some ⟨ob, 0, none⟩)] 130)) = .ok (.slice (some ⟨g', 0, none⟩) (k + 1) c') w4 ∧
      w4.ownsRow base 130 1 (.slice (some ⟨g', 0, none⟩) (k + 1) c') (k + 1) (xs ++ [ptr ob]) ∧ (w2.alloc (.cells #[ptr ob] 130)).grownBy w4 (Value.slice a k c).ownBlock ∧ w4.cell? ⟨hb, 1, none⟩ = some (.slice a k c) ∧ w4.frozen? ⟨hb, 1, none⟩ = false := by
  obtain ⟨i50, hi50, hz500, hz501, hz502⟩ := info_parts infoO
  have hbl2 := hblk.call hb2
  have hlt := hbl2.lt
  have hr2 := (own_below hrow hb2).alloc (.cells #[ptr ob] 130)
  obtain ⟨v', w4, hrun, hown4, hgrow4, _⟩ := run_append_own (P := Tryz.prog) (w2.alloc (.cells #[ptr ob] 130)) base 55 55 130 i50 (.pointer none) 1 8 Tryz.underlying55 hi50 hz500 hz501 hz502 rfl (by decide) (.slice a k c) k xs hr2 ⟨w2.heap.size, 0, none⟩ 1 1 [ptr ob] rfl (cell_one w2 (ptr ob) 130) (by simp [Value.oneCell']) (by unfold maxLen; omega) (by omega) (by simp; omega)
  obtain ⟨g', c', rfl⟩ := ownsRow_succ hown4
  have hb4 : Blk w4 hb (hp room (.slice a k c) sy) 57 := (hbl2.old _).grown hgrow4 (own_ne hr2 (hbl2.old _) (by decide)).symm
  exact ⟨g', c', w4, hrun, hown4, hgrow4, hb4.cell 1, hb4.frozen 1⟩
set_option maxRecDepth 100000 in
set_option maxHeartbeats 2000000 in
theorem make_any (base hb : Nat) (room : Int) (a : Option Addr) (k c : Nat) (sy : Int) (xs : List Value) (th : Th) (es : List En) (vs : List Vl) (w : World) (hblk : Blk w hb (hp room (.slice a k c) sy) 57) (hbase : base ≤ hb) (hrow : w.ownsRow base 130 1 (.slice a k c) k xs) (hk : k ≤ 1000) (hr : (k : Int) < room)
    (hst : ∀ w', Below w.heap.size w w' → Calls Tryz.prog 58 #[.agg (tcs th)] w' (StorePost w' th es vs)) :
    Calls Tryz.prog 46 #[ptr hb, .agg (tcs th)] w (MakePost w base hb room k sy xs th es vs (Value.slice a k c).ownBlock) := by
  obtain ⟨w1, hw1⟩ : ∃ w1, w.alloc (.cells (tcs th) 100) = w1 := ⟨_, rfl⟩
  have b1 : Below w.heap.size w w1 := by rw [← hw1]; exact (Below.refl _ w).alloc (Nat.le_refl _) _
  have k1 : w1.heap.size = w.heap.size + 1 := by rw [← hw1]; simp
  have x1 : Blk w1 w.heap.size (tcs th) 100 := by rw [← hw1]; exact Blk.new w _ _
  have hk1 := hblk.call b1
  have hrow1 := own_below hrow b1
  have c0 : w1.cell? ⟨hb, 0, none⟩ = some (.int .i64 room) := hk1.cell 0
  have c1 : w1.cell? ⟨hb, 1, none⟩ = some (.slice a k c) := hk1.cell 1
  have lt := run_ldT x1.drew.drew
  have h1 := hst w1.drew.drew b1.drew.drew
  have HK1 : Hid (Blk w1.drew.drew hb (hp room (.slice a k c) sy) 57) := hk1
  have HR1 : Hid (w1.drew.drew.ownsRow base 130 1 (.slice a k c) k xs) := hrow1
  have B1 : Hid (Below w.heap.size w w1.drew.drew) := b1.drew.drew
  have hs : base ≤ w.heap.size := Nat.le_trans hbase (Nat.le_of_lt hblk.lt)
  have HS := Lib.hid hs
  have hge : decide (room ≤ (k : Int)) = false := by simp; omega
  have hlen : wrap64 ((k : Int) + 1 - 1) = k := by unfold wrap64; omega
  have HKK := Lib.hid hk
  clear b1 x1 hk1 hrow1 hblk hrow hst hs
  go_enter Tryz.func46, Tryz.ntmps46
  go_wp2
  go_region
  all_goals go_wp2
  go_region_law (first | (go_simp; go_at_call 58; refine h1.mono ?_; rintro e w2 ⟨ob, pb, mb, ns, a2, m2, cc, rfl, hoa, hb2⟩; have d1 : w2.cell? ⟨hb, 1, none⟩ = some (.slice a k c) := (HK1.out.call hb2).cell 1; have d2 : (w2.alloc (.cells #[.pointer (some ⟨ob, 0, none⟩)] 130)).cell? ⟨hb, 1, none⟩ = some (.slice a k c) := ((HK1.out.call hb2).old _).cell 1; obtain ⟨g', c', w4, hrun, hown4, hgrow4, e1, e2⟩ := make_app HK1.out HR1.out hb2 HKK.out hbase ob; have hend := Lib.hid (make_end HK1.out hbase HR1.out hb2 hoa hown4 hgrow4); clear hown4 hgrow4 hoa hb2; dsimp only) | (refine step_app rfl (.tmp 20) (.tmp 23) 55 rfl rfl _ _ _ (by simp [Act.eval, Act.put]) (by simp [Act.eval, Act.put]) hrun ?_))
  all_goals go_wp2
  all_goals go_ret2
  all_goals exact hend.out.undrew B1.out HS.out
end Go.Proofs.YtoakiejpmcgdjaaGreatDoor.Hp
