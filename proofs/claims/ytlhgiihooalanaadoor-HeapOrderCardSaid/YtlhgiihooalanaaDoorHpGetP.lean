/-
  A property's descriptor by its key.
-/
import Derived.Test.YtlhgiihooalanaaDoorHpLook
import Derived.Test.YtlhgiihooalanaaDoorHpAll
namespace Go.Proofs.YtlhgiihooalanaaDoor.Hp
open Go Go.RowKit Go.Maps Go.Proofs.YtlhgiihooalanaaDoor.Keys
set_option linter.unusedVariables false
set_option linter.unusedSimpArgs false
theorem run_ldMid {w : World} {b o : Nat} {d : Ds} (h : w.rangeAt b o (dcs d).toList) : (Ld 38 (.pointer (some ⟨b, o, none⟩))).run Tryd.prog w = .ok (.agg (dcs d)) w := by
  have := run_loadAt_mid (P := Tryd.prog) w b o 38 (dcs d).toList _ h Tryd.underlying38 rfl sizeD
  simpa [Ld] using this
theorem enAt_desc {w : World} {b o : Nat} {e : En} (h : enAt w b o e) : w.rangeAt b (o + 2) (dcs e.d).toList := fun j v hv => by
  rw [Nat.add_assoc]
  exact h (2 + j) v (by
    rw [show (ecs e).toList = [.string e.ks, .int .i64 e.kn] ++ (dcs e.d).toList from rfl, List.getElem?_append_right (by simp)]
    simpa using hv)
/-- The place a key leads to. -/
theorem look_at {ns : List Nd} {k : KV} {b : Nat} (h : look ns k = some b) : ∃ l x r, ns = l ++ x :: r ∧ ekey x.e = k ∧ x.b = b ∧ look l k = none := by
  induction ns with
  | nil => cases h
  | cons n ns ih =>
    by_cases hk : ekey n.e = k
    · refine ⟨[], n, ns, rfl, hk, ?_, rfl⟩
      unfold look at h
      rw [List.find?_cons] at h
      simp [hk] at h
      exact h
    · have h' : look ns k = some b := by
        unfold look at h ⊢
        rw [List.find?_cons] at h
        simp [hk] at h
        simpa using h
      obtain ⟨l, x, r, rfl, h1, h2, h3⟩ := ih h'
      refine ⟨n :: l, x, r, rfl, h1, h2, ?_⟩
      rw [look_none] at h3 ⊢
      intro m hm
      rcases List.mem_cons.1 hm with rfl | hm
      · exact hk
      · exact h3 m hm
theorem res2_D {fn : Func} {p q : Tmp} (h : fn.results = #[.cell p 38, .tmp q]) (tmps : Array Value) (w : World) (g : Nat) (d : Ds) (hp : tmps.getD p undef = .pointer (some ⟨g, 0, none⟩)) {T : TypeId} (hr : Blk w g (dcs d) T) :
    (results fn tmps).run Tryd.prog w = .ok (.tuple #[.agg (dcs d), tmps.getD q undef]) w := by
  have hv := run_loadVar_row (P := Tryd.prog) w g T 38 (dcs d) (0, 0) _ hr Tryd.underlying38 rfl (by rw [dcs_size]; exact sizeD)
  rw [results_cell_tmp h, hp]
  simp [asAddr, hv, Result.andThen]
theorem bdDs (ps : Array (Nat × Value)) : Instr.build 38 ps = Bd 38 ps := (rfl)
theorem run_bdDs (w : World) : (Bd 38 #[]).run Tryd.prog w = .ok (.agg (dcs zeroD)) w := run_build w _ _ _ (by kernel_rfl)
section
attribute [local go_sem ↓] ldE ldD alD stD bdDs
attribute [local irreducible] ecs ncs hcs dcs
attribute [local go_sem] run_bx run_alD run_bdDs ecs_0 ecs_1 ncs_20 ncs_21 ncs_22 hcs_23
set_option maxRecDepth 100000 in
theorem pget_some (pb mb n : Nat) (l r : List Nd) (x : Nd) (w : World) (h : Obj1 w pb mb n (l ++ x :: r)) (hk : Fine (ekey x.e)) (hl : look (l ++ x :: r) (ekey x.e) = some x.b) :
    Calls Tryd.prog 22 #[ptr pb, .agg #[.string x.e.ks, .int .i64 x.e.kn]] w fun e w' => e = .returned (.tuple #[.agg (dcs x.e.d), .bool true]) ∧ Below w.heap.size w w' := by
  obtain ⟨W1, hW1⟩ : ∃ W1, w.alloc (.cells #[.string x.e.ks, .int .i64 x.e.kn] 35) = W1 := ⟨_, rfl⟩
  have k1 : W1.heap.size = w.heap.size + 1 := by rw [← hW1]; simp
  obtain ⟨W2, hW2⟩ : ∃ W2, W1.alloc (.cells (dcs zeroD) 38) = W2 := ⟨_, rfl⟩
  have b2 : Below w.heap.size w W2 := by rw [← hW2, ← hW1]; exact ((Below.refl _ w).alloc (Nat.le_refl _) _).alloc (by simp) _
  have h2 := h.call b2
  have y2 : Blk W2 w.heap.size #[.string x.e.ks, .int .i64 x.e.kn] 35 := by rw [← hW2, ← hW1]; exact (Blk.new w _ _).old _
  have z2 : Blk W2 (w.heap.size + 1) (dcs zeroD) 38 := by
    have := Blk.new W1 (dcs zeroD) 38
    rw [hW2, k1] at this
    exact this
  have pm : W2.cell? ⟨pb, 23, none⟩ = some (.map (some mb)) := by rw [h2.ring.head.cell, hcs_23]
  have l0 := y2.cell 0
  have l1 := y2.cell 1
  have hlk : (Instr.lookup 71 (.map (some mb)) (.agg #[.string x.e.ks, .int .i64 x.e.kn]) false).run Tryd.prog W2.drew = .ok (.pointer (some ⟨x.b, 0, none⟩)) W2.drew := by
    have := h2.drew.map.look hk
    rw [hl] at this
    exact this
  obtain ⟨p, q, hb⟩ := seg_at x h2.ring.seg (by simp)
  have hd := run_ldMid (w := W2.drew) (enAt_desc (enAt_node hb))
  have hst := run_st_row (w := W2.drew) z2 (T := 38) (cs := dcs x.e.d) (by rw [dcs_size]; exact sizeD) (by rw [dcs_size, dcs_size]) (dcs_one _)
  have Z2 := Lib.hid (Blk.row (w := W2.drew) z2 (dcs x.e.d))
  have B2 := Lib.hid b2
  clear h h2 y2 z2 hb b2 hl hk
  go_enter Tryd.func22, Tryd.ntmps22
  go_wp2
  go_region
  all_goals go_wp2
  all_goals refine bodyPost_ret (res2_D rfl _ _ (w.heap.size + 1) x.e.d rfl Z2.out) rfl ?_
  all_goals exact ⟨rfl, B2.out.drew.trans ⟨rfl, rfl, rfl, by simp, fun k hk => setRow_other _ _ k _ (by have := B2.out.size; omega)⟩⟩
set_option maxRecDepth 100000 in
theorem pget_none (pb mb n : Nat) (ns : List Nd) (k : KV) (w : World) (h : Obj1 w pb mb n ns) (hk : Fine k) (hl : look ns k = none) :
    Calls Tryd.prog 22 #[ptr pb, .agg #[.string k.1, .int .i64 k.2]] w fun e w' => e = .returned (.tuple #[.agg (dcs zeroD), .bool false]) ∧ Below w.heap.size w w' := by
  obtain ⟨W1, hW1⟩ : ∃ W1, w.alloc (.cells #[.string k.1, .int .i64 k.2] 35) = W1 := ⟨_, rfl⟩
  have k1 : W1.heap.size = w.heap.size + 1 := by rw [← hW1]; simp
  obtain ⟨W2, hW2⟩ : ∃ W2, W1.alloc (.cells (dcs zeroD) 38) = W2 := ⟨_, rfl⟩
  have b2 : Below w.heap.size w W2 := by rw [← hW2, ← hW1]; exact ((Below.refl _ w).alloc (Nat.le_refl _) _).alloc (by simp) _
  have h2 := h.call b2
  have y2 : Blk W2 w.heap.size #[.string k.1, .int .i64 k.2] 35 := by rw [← hW2, ← hW1]; exact (Blk.new w _ _).old _
  have z2 : Blk W2 (w.heap.size + 1) (dcs zeroD) 38 := by
    have := Blk.new W1 (dcs zeroD) 38
    rw [hW2, k1] at this
    exact this
  have pm : W2.cell? ⟨pb, 23, none⟩ = some (.map (some mb)) := by rw [h2.ring.head.cell, hcs_23]
  have l0 := y2.cell 0
  have l1 := y2.cell 1
  have hlk : (Instr.lookup 71 (.map (some mb)) (.agg #[.string k.1, .int .i64 k.2]) false).run Tryd.prog W2.drew = .ok (.pointer none) W2.drew := by
    have := h2.drew.map.look hk
    rw [hl] at this
    exact this
  have hst := run_st_row (w := W2.drew) z2 (T := 38) (cs := dcs zeroD) (by rw [dcs_size]; exact sizeD) rfl (dcs_one _)
  have Z2 := Lib.hid (Blk.row (w := W2.drew) z2 (dcs zeroD))
  have B2 := Lib.hid b2
  clear h h2 y2 z2 b2 hl hk
  go_enter Tryd.func22, Tryd.ntmps22
  go_wp2
  go_region
  all_goals go_wp2
  all_goals refine bodyPost_ret (res2_D rfl _ _ (w.heap.size + 1) zeroD rfl Z2.out) rfl ?_
  all_goals exact ⟨rfl, B2.out.drew.trans ⟨rfl, rfl, rfl, by simp, fun k hk => setRow_other _ _ k _ (by have := B2.out.size; omega)⟩⟩
end
end Go.Proofs.YtlhgiihooalanaaDoor.Hp
