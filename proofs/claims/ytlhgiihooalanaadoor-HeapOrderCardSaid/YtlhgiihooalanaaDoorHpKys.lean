/-
  keys: the keys of a ring's properties.
-/
import Derived.Test.YtlhgiihooalanaaDoorHpDrop
import Derived.Test.YtlhgiihooalanaaDoorHpEnt
namespace Go.Proofs.YtlhgiihooalanaaDoor.Hp
open Go Go.RowKit Go.Maps Go.Shelf Go.Proofs.YtlhgiihooalanaaDoor.Keys
set_option linter.unusedVariables false
set_option linter.unusedSimpArgs false
def BsK (ps : Array (Nat × Value)) : Sem Value := Instr.buildSlice 22 1 ps
theorem to_bsK (ps : Array (Nat × Value)) : Instr.buildSlice 22 1 ps = BsK ps := (rfl)
theorem run_bsK (w : World) (s : ByteArray) (n : Int) : (BsK #[(0, .agg #[.string s, .int .i64 n])]).run Tryd.prog w = .ok (.slice (some ⟨w.heap.size, 0, none⟩) 1 1) (w.alloc (.cells #[.string s, .int .i64 n] 35)) := by
  obtain ⟨i, hi, hz, hs, hb⟩ := info_parts info26
  exact run_buildSlice w 22 35 1 _ #[.string s, .int .i64 n] i _ Tryd.underlying22 hi hz (by rw [hs]; decide) (by rw [hs]; decide) (by rw [hs]; have h := Go.Great.fill_whole (s := 2) (by decide) [.agg #[.string s, .int .i64 n]] ((Array.range (1 * 2)).map ((Value.agg #[.string ⟨#[]⟩, .int .i64 0]).cells[· % (Value.agg #[.string ⟨#[]⟩, .int .i64 0]).cells.size]!)) (fun v hv => by rw [List.mem_singleton.1 hv]; rfl) (by simp); simpa [Value.cells] using h)
def mkK (c : Nat) : Array Value := madeCells #[.string ⟨#[]⟩, .int .i64 0] (c * 2)
theorem run_mkK (c : Nat) (hc : c ≤ 1000000) (w : World) : (Instr.makeSlice 22 (.int .i64 0) (.int .i64 c)).run Tryd.prog w = .ok (.slice (some ⟨w.heap.size, 0, none⟩) 0 c) (w.alloc (.cells (mkK c) 35)) := by
  obtain ⟨i, hi, hz, hs, hb⟩ := info_parts info26
  have h := run_make (P := Tryd.prog) w 22 35 i _ Tryd.underlying22 hi hz .i64 .i64 0 c (by omega) (by omega) (by rw [hb]; omega) (by omega)
  rw [hs] at h
  exact h
theorem mkK_own (w : World) (c base : Nat) (hc : c ≤ 1000000) (hb : base ≤ w.heap.size) : (w.alloc (.cells (mkK c) 35)).ownsRow base 35 2 (.slice (some ⟨w.heap.size, 0, none⟩) 0 c) 0 [] :=
  World.ownsRow_made w (mkK c) c hb (by unfold maxLen; omega) (by simp [mkK, madeCells])

section
attribute [local go_sem] Oper.semAt_some
attribute [local go_sem ↓] ldE bxE alE stE to_bsK
attribute [local irreducible] ecs ncs hcs mkK
attribute [local go_sem] run_bx run_alE run_stE run_bsK ecs_0 ecs_1

/-- Between two rounds of keys. -/
structure KeqInv (w0 : World) (n₀ Bs Bn pb : Nat) (pre : List En) (v : Value) (W : World) : Prop where
  box : Blk W Bs #[v] 22
  row : W.ownsRow n₀ 35 2 v pre.length (cellsK (pre.map ekey))
  it : Blk W Bn #[ptr pb] 55
  below : Below n₀ w0 W
theorem keq_own (w0 : World) (n₀ Bs Bn pb B : Nat) (hn : n₀ ≤ w0.heap.size) (hB : n₀ ≤ B) : OwnFrom B (fun pre W => ∃ v, KeqInv w0 n₀ Bs Bn pb pre v W) := by
  rintro pre W W' row ⟨v, ⟨h1, h2, h3, h4⟩⟩ hg hr
  have hr2 := fun r e => (hr r e).2
  exact ⟨v, h1.kept hg hr2, own_kept h2 hg hr2, h3.kept hg hr2, h4.grown hg (Nat.le_trans hn h4.size) (fun k e => Nat.le_trans hB (hr k e).1)⟩
theorem KeqInv.step {w0 W w1 : World} {n₀ Bs Bn pb B0 : Nat} {pre : List En} {v v' : Value} {x : En} {tmp : Obj} (h : KeqInv w0 n₀ Bs Bn pb pre v W) (hn : n₀ ≤ w0.heap.size) (hB : n₀ ≤ Bs) (hne : Bn ≠ Bs)
    (hown' : w1.ownsRow n₀ 35 2 v' (pre.length + 1) (cellsK (pre.map ekey) ++ [.string x.ks, .int .i64 x.kn])) (hgrow : (W.alloc tmp).grownBy w1 v.ownBlock) :
    KeepsFrom B0 W (w1.setCell ⟨Bs, 0, none⟩ v') ∧ Kept n₀ Bn W (w1.setCell ⟨Bs, 0, none⟩ v') ∧ KeqInv w0 n₀ Bs Bn pb (pre ++ [x]) v' (w1.setCell ⟨Bs, 0, none⟩ v') := by
  obtain ⟨h1, h2, h3, h4⟩ := h
  have hsz : n₀ ≤ W.heap.size := Nat.le_trans hn h4.size
  obtain ⟨hv1, hv2, hr2, hk2, hb2⟩ := Boxed.appended (t := 22) (tmp := tmp) h1 (by decide) h2 hsz hB hown' hgrow
  have hbn : Blk (w1.setCell ⟨Bs, 0, none⟩ v') Bn #[ptr pb] 55 := by
    have a1 : Blk w1 Bn #[ptr pb] 55 := Boxed.kept (Boxed.alloc (t := 55) h3 tmp) hgrow (Boxed.not_row (t := 55) h3 (by decide) h2)
    exact a1.other _ _ hne
  refine ⟨hk2.from _, ⟨hb2, hbn.trans (Eq.symm h3)⟩, hv2, ?_, hbn, h4.trans hb2⟩
  rw [List.length_append, List.map_append, cellsK_append, show List.map ekey [x] = [ekey x] from rfl, cellsK_one]
  exact hr2
/-- How keys ends. -/
def KeysPost (w : World) (es : List En) (y : Ending) (w' : World) : Prop := ∃ v, y = .returned v ∧ w'.ownsRow w.heap.size 35 2 v es.length (cellsK (es.map ekey)) ∧ Below w.heap.size w w'
set_option maxRecDepth 100000 in
set_option maxHeartbeats 4000000 in
theorem pkeys_any (pb mb n : Nat) (ns : List Nd) (w : World) (h : Obj1 w pb mb n ns) (hn : n ≤ 1000) (hlen : ns.length ≤ 100) :
    Calls Tryd.prog 19 #[ptr pb] w (KeysPost w (ns.map (·.e))) := by
  obtain ⟨i26, hi26, hz260, hz261, hz262⟩ := info_parts info26
  obtain ⟨c, hcn, hlenf⟩ := h.map.length
  have l0 := fun ty => hlenf w ty rfl
  have c23 : w.cell? ⟨pb, 23, none⟩ = some (.map (some mb)) := by rw [h.ring.head.cell, hcs_23]
  have mk := run_mkK c (by omega) w
  obtain ⟨W1, hW1⟩ : ∃ W1, w.alloc (.cells (mkK c) 35) = W1 := ⟨_, rfl⟩
  have k1 : W1.heap.size = w.heap.size + 1 := by rw [← hW1]; simp
  have o1 : W1.ownsRow w.heap.size 35 2 (.slice (some ⟨w.heap.size, 0, none⟩) 0 c) 0 [] := by rw [← hW1]; exact mkK_own w c _ (by omega) (Nat.le_refl _)
  have b1 : Below w.heap.size w W1 := by rw [← hW1]; exact (Below.refl _ w).alloc (Nat.le_refl _) _
  rw [hW1] at mk
  obtain ⟨W2, hW2⟩ : ∃ W2, W1.alloc (.cells #[.slice (some ⟨w.heap.size, 0, none⟩) 0 c] 22) = W2 := ⟨_, rfl⟩
  have k2 : W2.heap.size = w.heap.size + 2 := by rw [← hW2]; simp [k1]
  have x2 : Blk W2 (w.heap.size + 1) #[.slice (some ⟨w.heap.size, 0, none⟩) 0 c] 22 := by
    have := Blk.new W1 #[.slice (some ⟨w.heap.size, 0, none⟩) 0 c] 22
    rw [hW2, k1] at this
    exact this
  have o2 : W2.ownsRow w.heap.size 35 2 (.slice (some ⟨w.heap.size, 0, none⟩) 0 c) 0 [] := by rw [← hW2]; exact o1.alloc _
  have b2 : Below w.heap.size w W2 := by rw [← hW2]; exact b1.alloc (by omega) _
  have hst2 : W1.alloc (.cells #[.slice (some ⟨w.heap.size, 0, none⟩) 0 c] 22) = W2 := hW2
  obtain ⟨W0, hW0⟩ : ∃ W0, W2.alloc (.cells #[ptr pb] 55) = W0 := ⟨_, rfl⟩
  have k0 : W0.heap.size = w.heap.size + 3 := by rw [← hW0]; simp [k2]
  have y0 : Blk W0 (w.heap.size + 2) #[ptr pb] 55 := by
    have := Blk.new W2 #[ptr pb] 55
    rw [hW0, k2] at this
    exact this
  have b0 : Below w.heap.size w W0 := by rw [← hW0]; exact b2.alloc (by omega) _
  have hin : Hid (KeqInv w w.heap.size (w.heap.size + 1) (w.heap.size + 2) pb [] (.slice (some ⟨w.heap.size, 0, none⟩) 0 c) W0) :=
    Lib.hid ⟨by rw [← hW0]; exact x2.old _, by rw [← hW0]; exact o2.alloc _, y0, b0⟩
  have HR0 := Lib.hid (h.ring.call b0)
  have HLT := Lib.hid h.ring.lt
  have Y0 := Lib.hid y0
  have Hk0 := Lib.hid k0
  clear h hlenf o1 b1 x2 o2 b2 y0 b0 hst2 k0
  refine (callsIn_wide (n := 9)).1 ?_
  refine callsIn_of_wp_marks Tryd.func19 rfl trivial ?_ rfl
  simp only [Tryd.ntmps19, List.size_toArray, List.length_cons, List.length_nil, Nat.reduceAdd, Nat.reduceSub, Array.replicate_succ, Array.replicate_zero, List.push_toArray, List.append_toArray, List.nil_append, List.cons_append]
  gi_wp2_with (refine ⟨trivial, ?_⟩; gi_at_call 31; refine (callsIn_wide.2 (all_any _ _)).mono ?_; rintro e w' ⟨rfl, rfl⟩)
  try rw [hW0]
  clear hW0 hW2 hW1 mk l0 c23
  have k0 := Hk0.out
  refine wpIn_rangeFunc_ownH (F := Fence.wide) rfl (by omega) (gf := 39) (lb := #[.pointer (some ⟨w.heap.size + 2, 0, none⟩)]) rfl trivial (enters_of Tryd.func39 (by kernel_rfl) rfl)
    (all_stops Fence.wide (9 - 1) trivial rfl (by omega) (w.heap.size + 2) w.heap.size pb mb ns HLT.out W0 (by omega) Y0.out HR0.out) (fun h k => h.trans k) (kept_b (by omega) (by omega)) (Below.refl _ _) (fun _ => rfl)
    (fun pre W => ∃ v, KeqInv w w.heap.size (w.heap.size + 1) (w.heap.size + 2) pb pre v W) (fun _ _ _ => False)
    (keq_own _ _ _ _ _ _ (Nat.le_refl _) (by omega)) (fun _ _ _ _ _ hs _ _ => hs)
    ⟨_, hin.out⟩
    (fun x a' W => ∃ Bx, Blk W Bx (ecs x) 68 ∧ a' = { tmps := #[ptr pb, undef, .slice none 0 0, .pointer (some ⟨w.heap.size + 1, 0, none⟩), .pointer (some ⟨Bx, 0, none⟩), ptr pb, .pointer (some ⟨pb, 0, none⟩), .pointer (some ⟨pb, 23, none⟩), .map (some mb), .int .i64 c, .slice (some ⟨w.heap.size, 0, none⟩) 0 c, ptr pb, .func (.func 39) #[] #[.pointer (some ⟨w.heap.size + 2, 0, none⟩)], .agg (ecs x), undef, undef, undef, undef, undef, undef], defers := [] })
    (fun x a' _ X Y row hs hg hr => by obtain ⟨Bx, h1, h2⟩ := hs; exact ⟨Bx, h1.kept hg (fun r e => (hr r e).2), h2⟩)
    ?assign ?body ?done ?stop
  case assign =>
    rintro l pre x W K ⟨v, hi⟩ hK
    gi_wp2
    have hsW : w.heap.size ≤ W.heap.size := hi.below.size
    exact hK _ _ ((KeepsOthers.alloc _ _).from _) ⟨(Below.refl _ W).alloc hsW _, heap_alloc_old _ _ hi.it.lt⟩ ⟨v, hi.box.old _, hi.row.alloc _, hi.it.old _, hi.below.alloc hsW _⟩ ⟨W.heap.size, Blk.new W _ _, rfl⟩
  case body =>
    rintro l pre x a' W hl hr ⟨v, hi⟩ ⟨Bx, bX, rfl⟩ hlt
    have c0 : W.cell? ⟨w.heap.size + 1, 0, none⟩ = some v := hi.box.cell 0
    have e0 : W.cell? ⟨Bx, 0, none⟩ = some (.string x.ks) := (bX.cell 0).trans (ecs_0 x)
    have e1 : W.cell? ⟨Bx, 1, none⟩ = some (.int .i64 x.kn) := (bX.cell 1).trans (ecs_1 x)
    have hrow := hi.row
    have hsW : w.heap.size ≤ W.heap.size := hi.below.size
    have hpl : pre.length < 100 := by omega
    gi_wp2_with (gi_at_builtin; refine wpListIn_append_own _ rfl _ _ 22 rfl w.heap.size 35 i26 (.agg #[.string ⟨#[]⟩, .int .i64 0]) 2 24 Tryd.underlying22 hi26 hz260 hz261 hz262 rfl (by decide) _ _ _ rfl (hrow.alloc _) ⟨W.heap.size, 0, none⟩ 1 1 [.string x.ks, .int .i64 x.kn] rfl rfl (two_new W _ _ 35) (two_cells _ _) (by unfold maxLen; omega) (by omega) (by simp; omega) ?_; intro v' w1 hown' hgrow _; obtain ⟨g', cap', rfl⟩ := ownsRow_succ hown'; have hst := hi.step (B0 := W0.heap.size) (Nat.le_refl _) (by omega) (by omega) hown' hgrow; have hc1 : w1.cell? ⟨w.heap.size + 1, 0, none⟩ = some v := (Blk.cell (Boxed.kept (Boxed.alloc (t := 22) hi.box _) hgrow (Boxed.not_row (t := 22) hi.box (by decide) hi.row)) 0); have hf1 : w1.frozen? ⟨w.heap.size + 1, 0, none⟩ = false := (Blk.frozen (Boxed.kept (Boxed.alloc (t := 22) hi.box _) hgrow (Boxed.not_row (t := 22) hi.box (by decide) hi.row)) 0))
    exact ⟨hst.1, hst.2.1, _, hst.2.2⟩
  case done =>
    rintro D ys W hD rfl ⟨v, hi⟩ hK
    have c0 : W.cell? ⟨w.heap.size + 1, 0, none⟩ = some v := hi.box.cell 0
    obtain ⟨v', hi'⟩ := (keq_own w w.heap.size (w.heap.size + 1) (w.heap.size + 2) pb W0.heap.size (Nat.le_refl _) (by omega)).putObj (.deferred none) ⟨v, hi⟩ hD hK rfl
    have hvv : v' = v := by
      have e1 := hi'.box.cell 0
      have e2 : (W.putObj D (.deferred none)).cell? ⟨w.heap.size + 1, 0, none⟩ = W.cell? ⟨w.heap.size + 1, 0, none⟩ := World.cell?_of_block (World.putObj_heap_other (by show w.heap.size + 1 ≠ D; omega))
      rw [e2, c0] at e1
      simpa using e1.symm
    subst hvv
    gi_wp2
    refine ⟨by simp, .inl ⟨_, _, rfl, run_takeDeferred hK, ?_⟩⟩
    refine ⟨_, results_tmp rfl _ _ _, ?_⟩
    exact ⟨_, rfl, hi'.row, hi'.below⟩
  case stop =>
    rintro D c pre W _ _ h _
    exact h.elim
end
end Go.Proofs.YtlhgiihooalanaaDoor.Hp
