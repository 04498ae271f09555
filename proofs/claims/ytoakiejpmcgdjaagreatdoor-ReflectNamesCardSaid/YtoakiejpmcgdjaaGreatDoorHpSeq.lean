/-
  AppendSeq over a ring; entries.
-/
import Derived.Test.YtoakiejpmcgdjaaGreatDoorHpCollN
import Derived.Laws.MakeOwn
namespace Go.Proofs.YtoakiejpmcgdjaaGreatDoor.Hp
open Go Go.RowKit Go.Maps Go.Shelf Go.Proofs.YtoakiejpmcgdjaaGreatDoor.Keys
set_option linter.unusedVariables false
set_option linter.unusedSimpArgs false

/-! ### Lists of properties -/
def cellsE (l : List En) : List Value := l.flatMap fun e => (ecs e).toList
theorem cellsE_append (a b : List En) : cellsE (a ++ b) = cellsE a ++ cellsE b := by simp [cellsE]
theorem cellsE_one (e : En) : cellsE [e] = (ecs e).toList := by simp [cellsE]
theorem cellsE_length (l : List En) : (cellsE l).length = l.length * 20 := by
  induction l with
  | nil => rfl
  | cons a r ih =>
    have e : cellsE (a :: r) = (ecs a).toList ++ cellsE r := rfl
    rw [e, List.length_append, ecs_list, ih, List.length_cons]
    omega
theorem cellsE_at (l : List En) : ∀ (j : Nat) (e : En), l[j]? = some e → ∀ k v, (ecs e).toList[k]? = some v → (cellsE l)[j * 20 + k]? = some v := by
  induction l with
  | nil => intro j e h; simp at h
  | cons a r ih =>
    intro j e h k v hv
    have e1 : cellsE (a :: r) = (ecs a).toList ++ cellsE r := rfl
    have hk : k < 20 := by have := (List.getElem?_eq_some_iff.1 hv).1; rw [ecs_list] at this; exact this
    cases j with
    | zero =>
      simp only [List.getElem?_cons_zero, Option.some.injEq] at h
      subst h
      rw [e1, List.getElem?_append_left (by rw [ecs_list]; omega), Nat.zero_mul, Nat.zero_add]
      exact hv
    | succ j =>
      rw [e1, List.getElem?_append_right (by rw [ecs_list]; omega), ecs_list, show (j + 1) * 20 + k - 20 = j * 20 + k by omega]
      exact ih j e (by simpa using h) k v hv
theorem esAt_own {w : World} {base : Nat} {ao : Option Addr} {cp : Nat} {es : List En} (h : w.ownsRow base 83 20 (.slice ao es.length cp) es.length (cellsE es)) : EsAt w.heap.size ao es w := fun j e he => by
  have hj : j < es.length := (List.getElem?_eq_some_iff.1 he).1
  rcases h.2 with ⟨_, hn⟩ | ⟨g, cap, cur, hv, hb, hg, _⟩
  · omega
  · simp only [Value.slice.injEq] at hv
    obtain ⟨rfl, -, rfl⟩ := hv
    refine ⟨g, 0, rfl, (Array.getElem?_eq_some_iff.1 hg).1, fun k v hv => ?_⟩
    have hk : k < 20 := by have := (List.getElem?_eq_some_iff.1 hv).1; rw [ecs_list] at this; exact this
    rw [show (0 + j * 20 + k) = j * 20 + k by omega, h.cellAt _ (by omega)]
    exact cellsE_at es j e he k v hv
def BsE (ps : Array (Nat × Value)) : Sem Value := Instr.buildSlice 84 1 ps
theorem to_bsE (ps : Array (Nat × Value)) : Instr.buildSlice 84 1 ps = BsE ps := (rfl)
theorem run_bsE (w : World) (e : En) : (BsE #[(0, .agg (ecs e))]).run Tryz.prog w = .ok (.slice (some ⟨w.heap.size, 0, none⟩) 1 1) (w.alloc (.cells (ecs e) 83)) := by
  obtain ⟨i, hi, hz, hs, hb⟩ := info_parts infoE
  exact run_buildSlice w 84 83 1 _ (ecs e) i (.agg (ecs zeroE)) Tryz.underlying84 hi hz (by rw [hs]; decide) (by rw [hs]; decide) (by rw [hs]; have h := Go.Great.fill_whole (s := 20) (by decide) [.agg (ecs e)] ((Array.range (1 * 20)).map ((Value.agg (ecs zeroE)).cells[· % (Value.agg (ecs zeroE)).cells.size]!)) (fun v hv => by rw [List.mem_singleton.1 hv]; rfl) (by simp); simpa [Value.cells] using h)
theorem new_cells (w : World) (e : En) (t : TypeId) : ∀ j u, (ecs e).toList[j]? = some u → (w.alloc (.cells (ecs e) t)).cell? ((⟨w.heap.size, 0, none⟩ : Addr).add j) = some u := fun j u hu => by
  have h := enAt_new w e t j u hu
  rw [Addr.add_mid]
  exact h
theorem zeroE_cells : (Value.agg (ecs zeroE)).cells.size = 20 := rfl
def mkE (c : Nat) : Array Value := madeCells (ecs zeroE) (c * 20)
theorem run_mkE (c : Nat) (hc : c ≤ 1000000) (w : World) : (Instr.makeSlice 84 (.int .i64 0) (.int .i64 c)).run Tryz.prog w = .ok (.slice (some ⟨w.heap.size, 0, none⟩) 0 c) (w.alloc (.cells (mkE c) 83)) := by
  obtain ⟨i, hi, hz, hs, hb⟩ := info_parts infoE
  have h := run_make (P := Tryz.prog) w 84 83 i (.agg (ecs zeroE)) Tryz.underlying84 hi hz .i64 .i64 0 c (by omega) (by omega) (by rw [hb]; omega) (by omega)
  rw [hs] at h
  exact h
theorem mkE_own (w : World) (c base : Nat) (hc : c ≤ 1000000) (hb : base ≤ w.heap.size) : (w.alloc (.cells (mkE c) 83)).ownsRow base 83 20 (.slice (some ⟨w.heap.size, 0, none⟩) 0 c) 0 [] :=
  World.ownsRow_made w (mkE c) c hb (by unfold maxLen; omega) (by simp [mkE, madeCells])

section
attribute [local go_sem] Oper.semAt_some
attribute [local go_sem ↓] ldE bxE alE stE to_bsE
attribute [local irreducible] ecs ncs hcs
attribute [local go_sem] run_bx run_alE run_stE run_bsE ecs_0 ecs_1

/-- Between two rounds of AppendSeq. -/
structure SeqInv (w0 : World) (n₀ Bs Bn pb : Nat) (pre : List En) (v : Value) (W : World) : Prop where
  box : Blk W Bs #[v] 84
  row : W.ownsRow n₀ 83 20 v pre.length (cellsE pre)
  it : Blk W Bn #[ptr pb] 152
  below : Below n₀ w0 W
theorem own_kept {w w' : World} {base : Nat} {e : TypeId} {size : Nat} {v : Value} {k : Nat} {xs : List Value} {row : Option Nat} (h : w.ownsRow base e size v k xs) (hg : w.grownBy w' row) (hr : ∀ r, row = some r → ∃ o : Obj, w.heap[r]? = some o ∧ o.isCells = false) : w'.ownsRow base e size v k xs := by
  refine h.kept hg ?_
  rcases h.2 with ⟨rfl, _⟩ | ⟨g, cap, cur, rfl, _, hgb, _⟩
  · exact .inl rfl
  · refine .inr fun e' => ?_
    obtain ⟨o, ho, hc⟩ := hr g (by simpa [Value.ownBlock] using e'.symm)
    rw [hgb] at ho; cases ho; cases hc
theorem seq_own (w0 : World) (n₀ Bs Bn pb B : Nat) (hn : n₀ ≤ w0.heap.size) (hB : n₀ ≤ B) : OwnFrom B (fun pre W => ∃ v, SeqInv w0 n₀ Bs Bn pb pre v W) := by
  rintro pre W W' row ⟨v, ⟨h1, h2, h3, h4⟩⟩ hg hr
  have hr2 := fun r e => (hr r e).2
  exact ⟨v, h1.kept hg hr2, own_kept h2 hg hr2, h3.kept hg hr2, h4.grown hg (Nat.le_trans hn h4.size) (fun k e => Nat.le_trans hB (hr k e).1)⟩
theorem SeqInv.step {w0 W w1 : World} {n₀ Bs Bn pb B0 : Nat} {pre : List En} {v v' : Value} {x : En} {tmp : Obj} (h : SeqInv w0 n₀ Bs Bn pb pre v W) (hn : n₀ ≤ w0.heap.size) (hB : n₀ ≤ Bs) (hne : Bn ≠ Bs)
    (hown' : w1.ownsRow n₀ 83 20 v' (pre.length + 1) (cellsE pre ++ (ecs x).toList)) (hgrow : (W.alloc tmp).grownBy w1 v.ownBlock) :
    KeepsFrom B0 W (w1.setCell ⟨Bs, 0, none⟩ v') ∧ Kept n₀ Bn W (w1.setCell ⟨Bs, 0, none⟩ v') ∧ SeqInv w0 n₀ Bs Bn pb (pre ++ [x]) v' (w1.setCell ⟨Bs, 0, none⟩ v') := by
  obtain ⟨h1, h2, h3, h4⟩ := h
  have hsz : n₀ ≤ W.heap.size := Nat.le_trans hn h4.size
  obtain ⟨hv1, hv2, hr2, hk2, hb2⟩ := Boxed.appended (t := 84) (tmp := tmp) h1 (by decide) h2 hsz hB hown' hgrow
  have hbn : Blk (w1.setCell ⟨Bs, 0, none⟩ v') Bn #[ptr pb] 152 := by
    have a1 : Blk w1 Bn #[ptr pb] 152 := Boxed.kept (Boxed.alloc (t := 152) h3 tmp) hgrow (Boxed.not_row (t := 152) h3 (by decide) h2)
    exact a1.other _ _ hne
  refine ⟨hk2.from _, ⟨hb2, hbn.trans (Eq.symm h3)⟩, hv2, ?_, hbn, h4.trans hb2⟩
  rw [List.length_append, cellsE_append, cellsE_one]
  exact hr2
/-- How AppendSeq ends. -/
def SeqPost (w : World) (n₀ : Nat) (es : List En) (y : Ending) (w' : World) : Prop := ∃ v, y = .returned v ∧ w'.ownsRow n₀ 83 20 v es.length (cellsE es) ∧ Below n₀ w w'
set_option maxRecDepth 100000 in
set_option maxHeartbeats 4000000 in
theorem seq_any (n₀ Bn pb mb : Nat) (ns : List Nd) (g c : Nat) (w : World) (hlen : ns.length ≤ 100) (hlow : ∀ b ∈ blks pb ns, b < n₀) (hn₀ : n₀ ≤ w.heap.size) (hc : Blk w Bn #[ptr pb] 152) (hL : Ring w pb mb ns)
    (hrow : w.ownsRow n₀ 83 20 (.slice (some ⟨g, 0, none⟩) 0 c) 0 []) :
    Calls Tryz.prog 195 #[.slice (some ⟨g, 0, none⟩) 0 c, .func (.func 198) #[] #[.pointer (some ⟨Bn, 0, none⟩)]] w (SeqPost w n₀ (ns.map (·.e))) := by
  obtain ⟨i40, hi40, hz400, hz401, hz402⟩ := info_parts infoE
  have HLOW := Lib.hid hlow
  have HL := Lib.hid hL
  have HROW := Lib.hid hrow
  have HC := Lib.hid hc
  clear hlow hL hrow hc
  refine (callsIn_wide (n := 9)).1 ?_
  refine callsIn_of_wp_marks Tryz.func195 rfl trivial ?_ rfl
  simp only [Tryz.ntmps195, List.size_toArray, List.length_cons, List.length_nil, Nat.reduceAdd, Nat.reduceSub, Array.replicate_succ, Array.replicate_zero, List.push_toArray, List.append_toArray, List.nil_append, List.cons_append]
  gi_wp2
  obtain ⟨W0, hW0⟩ : ∃ W0, w.alloc (.cells #[.slice (some ⟨g, 0, none⟩) 0 c] 84) = W0 := ⟨_, rfl⟩
  have k0 : W0.heap.size = w.heap.size + 1 := by rw [← hW0]; simp
  have b0 : Below w.heap.size w W0 := by rw [← hW0]; exact (Below.refl _ w).alloc (Nat.le_refl _) _
  have hin : Hid (SeqInv w n₀ w.heap.size Bn pb [] (.slice (some ⟨g, 0, none⟩) 0 c) W0) := by
    rw [← hW0]
    exact ⟨Blk.new w _ _, HROW.out.alloc _, HC.out.old _, (Below.refl _ w).alloc hn₀ _⟩
  have hcl := HC.out.lt
  have HC0 := Lib.hid (HC.out.call b0)
  have HL0 := Lib.hid (HL.out.call b0)
  rw [hW0]
  clear hW0
  refine wpIn_rangeFunc_ownH (F := Fence.wide) rfl (by omega) (gf := 198) (lb := #[.pointer (some ⟨Bn, 0, none⟩)]) rfl trivial (enters_of Tryz.func198 (by kernel_rfl) rfl)
    (all_stops Fence.wide (9 - 1) trivial rfl (by omega) Bn n₀ pb mb ns HLOW.out W0 (by omega) HC0.out HL0.out) (fun h k => h.trans k) (kept_b (by omega) (by omega)) (Below.refl _ _) (fun _ => rfl)
    (fun pre W => ∃ v, SeqInv w n₀ w.heap.size Bn pb pre v W) (fun _ _ _ => False)
    (seq_own _ _ _ _ _ _ hn₀ (by omega)) (fun _ _ _ _ _ hs _ _ => hs)
    ⟨_, hin.out⟩
    (fun x a' W => ∃ Bx, Blk W Bx (ecs x) 83 ∧ a' = { tmps := #[.slice (some ⟨g, 0, none⟩) 0 c, .func (.func 198) #[] #[.pointer (some ⟨Bn, 0, none⟩)], .pointer (some ⟨w.heap.size, 0, none⟩), undef, .slice none 0 0, .pointer (some ⟨Bx, 0, none⟩), .func (.func 198) #[] #[.pointer (some ⟨Bn, 0, none⟩)], .agg (ecs x), undef, undef, undef, undef, undef], defers := [] })
    (fun x a' _ X Y row hs hg hr => by obtain ⟨Bx, h1, h2⟩ := hs; exact ⟨Bx, h1.kept hg (fun r e => (hr r e).2), h2⟩)
    ?assign ?body ?done ?stop
  case assign =>
    rintro l pre x W K ⟨v, hi⟩ hK
    gi_wp2
    have hsW : n₀ ≤ W.heap.size := Nat.le_trans hn₀ hi.below.size
    exact hK _ _ ((KeepsOthers.alloc _ _).from _) ⟨(Below.refl _ W).alloc hsW _, heap_alloc_old _ _ hi.it.lt⟩ ⟨v, hi.box.old _, hi.row.alloc _, hi.it.old _, hi.below.alloc hsW _⟩ ⟨W.heap.size, Blk.new W _ _, rfl⟩
  case body =>
    rintro l pre x a' W hl hr ⟨v, hi⟩ ⟨Bx, bX, rfl⟩ hlt
    have c0 : W.cell? ⟨w.heap.size, 0, none⟩ = some v := hi.box.cell 0
    have le : (Ld 83 (.pointer (some ⟨Bx, 0, none⟩))).run Tryz.prog W = .ok (.agg (ecs x)) W := run_ldE (w := W) (bX.range (r := []) (by simp))
    have hrow := hi.row
    have hsW : n₀ ≤ W.heap.size := Nat.le_trans hn₀ hi.below.size
    have hpl : pre.length < 100 := by omega
    gi_wp2_with (gi_at_builtin; refine wpListIn_append_own _ rfl _ _ 84 rfl n₀ 83 i40 (.agg (ecs zeroE)) 20 136 Tryz.underlying84 hi40 hz400 hz401 hz402 zeroE_cells (by decide) _ _ _ rfl (hrow.alloc _) ⟨W.heap.size, 0, none⟩ 1 1 (ecs x).toList rfl (ecs_list x) (new_cells W x 83) (ecs_one' x) (by unfold maxLen; omega) (by omega) (by simp; omega) ?_; intro v' w1 hown' hgrow _; obtain ⟨g', cap', rfl⟩ := ownsRow_succ hown'; have hst := hi.step (B0 := W0.heap.size) hn₀ hn₀ (by omega) hown' hgrow; have hc1 : w1.cell? ⟨w.heap.size, 0, none⟩ = some v := (Blk.cell (Boxed.kept (Boxed.alloc (t := 84) hi.box _) hgrow (Boxed.not_row (t := 84) hi.box (by decide) hi.row)) 0); have hf1 : w1.frozen? ⟨w.heap.size, 0, none⟩ = false := (Blk.frozen (Boxed.kept (Boxed.alloc (t := 84) hi.box _) hgrow (Boxed.not_row (t := 84) hi.box (by decide) hi.row)) 0))
    exact ⟨hst.1, hst.2.1, _, hst.2.2⟩
  case done =>
    rintro D ys W hD rfl ⟨v, hi⟩ hK
    have c0 : W.cell? ⟨w.heap.size, 0, none⟩ = some v := hi.box.cell 0
    obtain ⟨v', hi'⟩ := (seq_own w n₀ w.heap.size Bn pb W0.heap.size hn₀ (by omega)).putObj (.deferred none) ⟨v, hi⟩ hD hK rfl
    have hvv : v' = v := by
      have e1 := hi'.box.cell 0
      have e2 : (W.putObj D (.deferred none)).cell? ⟨w.heap.size, 0, none⟩ = W.cell? ⟨w.heap.size, 0, none⟩ := World.cell?_of_block (World.putObj_heap_other (by show w.heap.size ≠ D; omega))
      rw [e2, c0] at e1
      simpa using e1.symm
    subst hvv
    gi_wp2
    refine ⟨by simp, .inl ⟨_, _, rfl, run_takeDeferred hK, ?_⟩⟩
    refine ⟨_, results_tmp rfl _ _ _, ?_⟩
    exact ⟨_, rfl, hi'.row, hi'.below⟩
  case stop =>
    rintro D c pre W _ _ h _
    exact h.elim
end
end Go.Proofs.YtoakiejpmcgdjaaGreatDoor.Hp
