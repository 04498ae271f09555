/-
  strings.Builder: the first byte written to a new one, and Grow of one that has been written.
-/
import Derived.Test.YtadpkhneijoilaaDoorUnBuild
import Derived.Laws.CopyOwn
import Derived.Lib.MakeNoZero
namespace Go.Proofs.YtadpkhneijoilaaDoor.Uni
open Go.RowKit
set_option linter.unusedVariables false

theorem lies46 : liesAt Tryd.prog Tryd.prog.depth 71 (2 / Tryd.prog.cellsOf 71) 0 71 1 = true := by kernel_rfl

set_option maxHeartbeats 1000000 in
set_option maxRecDepth 100000 in
theorem copyCheck_new (base b : Nat) (w : World) (hB : base ≤ b) (hbk : w.heap[b]? = some (.cells #[.pointer none, .slice none 0 0] 71 (0, 0))) :
    Calls Tryd.prog 51 #[.pointer (some ⟨b, 0, none⟩)] w fun e w' => e = .returned (.tuple #[]) ∧ Bd base b [] w' ∧ Below base w w' := by
  have h0 : w.cell? ⟨b, 0, none⟩ = some (.pointer none) := by rw [Lib.cell_of_heap hbk]; rfl
  have hsh : w.shape? b = some (71, 2) := by simp [World.shape?, hbk]
  have hfz : w.frozen? ⟨b, 0, none⟩ = false := Lib.frozen_of_heap hbk 0
  obtain ⟨j, hj, hjs⟩ := Option.map_eq_some_iff.1 size46
  have hfin : Bd base b [] (w.setCell ⟨b, 0, none⟩ (.pointer (some ⟨b, 0, none⟩))) ∧ Below base w (w.setCell ⟨b, 0, none⟩ (.pointer (some ⟨b, 0, none⟩))) := by
    refine ⟨⟨hB, .slice none 0 0, ?_, World.ownsRow_nil _ _ _ _, by simp [Value.ownBlock]⟩, (Below.refl base w).setCell (p := ⟨b, 0, none⟩) hB _⟩
    simp [World.setCell, Array.getElem?_modify, hbk]
  have HF := Lib.hid hfin
  clear hfin hbk
  go_enter Tryd.func51, Tryd.ntmps51
  go_wp2
  rw [Lib.run_to_unsafe w ⟨b, 0, none⟩ Tryd.underlying68 Tryd.underlying100 hj (by rw [hjs]; decide) hsh (Nat.zero_lt_succ 1)]
  simp only [Result.andThen]
  rw [Oper.upon_value]
  go_wp2
  rw [run_callFunc_extern Tryd.func68 (by kernel_rfl) (by kernel_rfl) (by kernel_rfl) (e := Extern.AbiNoEscape.same) (by kernel_rfl)]
  rw [Lib.run_noEscape]
  simp only [Result.andThen]
  rw [Oper.upon_value]
  go_wp2
  rw [Lib.run_from_unsafe w ⟨b, 0, none⟩ Tryd.underlying100 Tryd.underlying68 hj hsh lies46]
  simp only [Result.andThen]
  rw [Oper.upon_value]
  go_wp2
  go_end0
  exact ⟨rfl, HF.out⟩

set_option maxRecDepth 100000 in
set_option maxHeartbeats 400000 in
/-- WriteByte to a new builder. -/
theorem writeByte_new (base b : Nat) (c : Int) (w : World) (hB : base ≤ b) (hbk : w.heap[b]? = some (.cells #[.pointer none, .slice none 0 0] 71 (0, 0))) (hb : base ≤ w.heap.size) :
    Calls Tryd.prog 40 #[.pointer (some ⟨b, 0, none⟩), .int .u8 c] w fun e w' => e = .returned .nilIface ∧ Bd base b [.int .u8 c] w' ∧ Below base w w' := by
  obtain ⟨i0, hi, hz0, hz1, hz2⟩ := info_parts info5
  go_enter Tryd.func40, Tryd.ntmps40
  go_wp2_with (go_at_call 51; refine (copyCheck_new base b w hB hbk).mono ?_)
  rintro e w1 ⟨rfl, hBd, hbel⟩
  have hb1 := Nat.le_trans hb hbel.size
  obtain ⟨_, ao, cp, hbk1, hown⟩ := bd_parts hBd
  have c1 : w1.cell? ⟨b, 1, none⟩ = some (.slice ao 0 cp) := by rw [Lib.cell_of_heap hbk1]; rfl
  have HK := Lib.hid hbk1
  have hlt := lt_of_block hbk1
  have hne := own_ne hown hbk1 (by decide)
  have hown0 : w1.ownsRow base 5 1 (.slice ao 0 cp) 0 [] := hown
  have hbk0 := Lib.hid hbk
  clear hbk1 hBd hown hbk
  go_wp2_with (at_builtin; refine wpList_append_own _ rfl _ _ 69 rfl base 5 i0 (.int .u8 0) 1 1 Tryd.underlying69 hi hz0 hz1 hz2 rfl (by decide) _ _ _ rfl (hown0.alloc _) ⟨w1.heap.size, 0, none⟩ 1 1 [.int .u8 c] rfl rfl (cell_one_new _ _ _) (one_cells _ _) (by unfold maxLen; omega) (by omega) (size_alloc_le _ hb1) ?_)
  intro v' w2 hown' hgrow _
  have hb2 : w2.heap[b]? = some (.cells #[.pointer (some ⟨b, 0, none⟩), .slice ao 0 cp] 71 (0, 0)) := by
    rw [hgrow.block b (by simp; omega) (fun e => hne e.symm), heap_alloc_old w1 _ hlt]
    exact HK.out
  have d0 : w2.cell? ⟨b, 0, none⟩ = some (.pointer (some ⟨b, 0, none⟩)) := by rw [Lib.cell_of_heap hb2]; rfl
  have d1 : w2.cell? ⟨b, 1, none⟩ = some (.slice ao 0 cp) := by rw [Lib.cell_of_heap hb2]; rfl
  have f1 : w2.frozen? ⟨b, 1, none⟩ = false := Lib.frozen_of_heap hb2 1
  obtain ⟨ao', cp', rfl⟩ := own_shape hown'
  have R := bd_put hB HK.out hown0 hown' rfl hb1 ⟨_, (Below.refl _ w1).alloc (Nat.le_refl _) _, hgrow⟩
  clear hb2 hown' hgrow hown0 hne
  go_wp2
  go_ret
  exact ⟨rfl, R.1, hbel.trans R.2.1⟩

/-- What grow leaves of a builder that holds bytes: a new row that begins with them. -/
theorem grown_used {base b m : Nat} {bs : List Value} {p v : Value} {w : World} {cs : Array Value} (hB : base ≤ b) (hbk : w.heap[b]? = some (.cells #[p, v] 71 (0, 0))) (hBw : base ≤ w.heap.size) (hl : bs.length = m) (hm : m ≤ cs.size) (hx : cs.size ≤ maxLen) :
    Lib.BuilderAt 71 5 base b p bs (((w.alloc (.cells cs 5)).setRow w.heap.size (bs ++ cs.toList.drop m).toArray).setCell ⟨b, 1, none⟩ (.slice (some ⟨w.heap.size, 0, none⟩) m cs.size)) ∧
      Below base w (((w.alloc (.cells cs 5)).setRow w.heap.size (bs ++ cs.toList.drop m).toArray).setCell ⟨b, 1, none⟩ (.slice (some ⟨w.heap.size, 0, none⟩) m cs.size)) ∧
      KeepW b w (((w.alloc (.cells cs 5)).setRow w.heap.size (bs ++ cs.toList.drop m).toArray).setCell ⟨b, 1, none⟩ (.slice (some ⟨w.heap.size, 0, none⟩) m cs.size)) := by
  have hlt := lt_of_block hbk
  have hb2 : (w.alloc (.cells cs 5)).heap[b]? = some (.cells #[p, v] 71 (0, 0)) := (heap_alloc_old w _ hlt).trans hbk
  have hb3 : ((w.alloc (.cells cs 5)).setRow w.heap.size (bs ++ cs.toList.drop m).toArray).heap[b]? = some (.cells #[p, v] 71 (0, 0)) := (setRow_other _ _ _ _ (by omega)).trans hb2
  have hg : ((w.alloc (.cells cs 5)).setRow w.heap.size (bs ++ cs.toList.drop m).toArray).heap[w.heap.size]? = some (.cells (bs ++ cs.toList.drop m).toArray 5 (0, 0)) := setRow_heap _ _ cs _ _ _ (heap_alloc_new w _)
  subst hl
  have hown : ((w.alloc (.cells cs 5)).setRow w.heap.size (bs ++ cs.toList.drop bs.length).toArray).ownsRow base 5 1 (.slice (some ⟨w.heap.size, 0, none⟩) bs.length cs.size) bs.length bs :=
    ⟨by simp, .inr ⟨w.heap.size, cs.size, _, rfl, hBw, hg, hm, hx, by simp; omega, by simp⟩⟩
  exact ⟨Lib.BuilderAt.put hB hb3 hown (by decide), Below.setCell (below_setRow ((Below.refl base w).alloc hBw _) hBw _) hB _, fun k o hk hkb _ => by
    have hkl := (Array.getElem?_eq_some_iff.1 hk).1
    rw [Below.heap_setCell _ _ _ _ (fun e => hkb e), setRow_other _ _ _ _ (by omega), heap_alloc_old w _ hkl]
    exact hk⟩

set_option maxHeartbeats 2000000 in
set_option maxRecDepth 1000000 in
theorem grow_used (base b g m n cp : Nat) (bs : List Value) (w : World) (hB : base ≤ b) (hbk : w.heap[b]? = some (.cells #[.pointer (some ⟨b, 0, none⟩), .slice (some ⟨g, 0, none⟩) m cp] 71 (0, 0)))
    (hown : w.ownsRow base 5 1 (.slice (some ⟨g, 0, none⟩) m cp) m bs) (h1 : ∀ v ∈ bs, v.oneCell' = true) (hBw : base ≤ w.heap.size) (hn : 2 * cp + n ≤ 281474976710656) (hmn : m ≤ cp) :
    Calls Tryd.prog 69 #[.pointer (some ⟨b, 0, none⟩), .int .i64 n] w fun e w' => e = .returned (.tuple #[]) ∧ Bd base b bs w' ∧ Below base w w' ∧ KeepW b w w' := by
  obtain ⟨cs, hrun, hle, hmax⟩ := Lib.run_makeNoZero (P := Tryd.prog) w.drew #[3] 69 5 Tryd.underlying69 (2 * cp + n) hn
  have hcall : (callFunc 80 #[.int .i64 (2 * (cp : Int) + (n : Int))]).run Tryd.prog w.drew = .ok (.value (.slice (some ⟨w.drew.heap.size, 0, none⟩) (2 * cp + n) cs.size)) (w.drew.drew.drew.alloc (.cells cs 5)) := by
    have e : (2 * (cp : Int) + (n : Int)) = ((2 * cp + n : Nat) : Int) := by omega
    rw [e, run_callFunc_extern Tryd.func80 (by kernel_rfl) (by kernel_rfl) (by kernel_rfl) (e := Extern.BytealgMakeNoZero.makeNoZero #[3] #[69]) (by kernel_rfl), hrun]
    rfl
  have hlt := lt_of_block hbk
  have c1 : w.drew.cell? ⟨b, 1, none⟩ = some (.slice (some ⟨g, 0, none⟩) m cp) := by
    have : w.drew.heap[b]? = _ := hbk
    rw [Lib.cell_of_heap this]; rfl
  have hbk2 : (w.alloc (.cells cs 5)).heap[b]? = some (.cells #[.pointer (some ⟨b, 0, none⟩), .slice (some ⟨g, 0, none⟩) m cp] 71 (0, 0)) := (Lib.alloc_old w _ b hlt).trans hbk
  have c2 : (w.alloc (.cells cs 5)).cell? ⟨b, 1, none⟩ = some (.slice (some ⟨g, 0, none⟩) m cp) := by rw [Lib.cell_of_heap hbk2]; rfl
  have hl : bs.length = m := by have := hown.1; omega
  have hcopy : ∀ W : World, W.heap = (w.alloc (.cells cs 5)).heap → (Builtin.copy_ #[69, 69] 3 #[.slice (some ⟨w.heap.size, 0, none⟩) m cs.size, .slice (some ⟨g, 0, none⟩) m cp]).run Tryd.prog W = .ok (goInt m) (W.setRow w.heap.size (bs ++ cs.toList.drop m).toArray) := by
    intro W hW
    have hsrc := (hown.alloc (.cells cs 5)).cells (g := g) rfl
    have := run_copy_row (P := Tryd.prog) W 69 69 3 5 w.heap.size 0 m cs.size ⟨g, 0, none⟩ m cp cs 5 bs Tryd.underlying69 (by kernel_rfl) (by rw [hW]; exact heap_alloc_new w _) (by rw [hl]; exact (Nat.min_self m).symm)
      (fun j v hj => by have := hsrc j v hj; unfold World.cell? at this ⊢; rw [hW]; exact this) (by omega) h1
    rw [this, hl]
    simp
  have f3 : ((w.alloc (.cells cs 5)).setRow w.heap.size (bs ++ cs.toList.drop m).toArray).frozen? ⟨b, 1, none⟩ = false :=
    Lib.frozen_of_heap ((setRow_other _ _ _ _ (by omega)).trans hbk2) 1
  have c3 : ((w.alloc (.cells cs 5)).setRow w.heap.size (bs ++ cs.toList.drop m).toArray).cell? ⟨b, 1, none⟩ = some (.slice (some ⟨g, 0, none⟩) m cp) := by
    rw [Lib.cell_of_heap ((setRow_other _ _ _ _ (by omega)).trans hbk2)]; rfl
  have hfin := grown_used (p := .pointer (some ⟨b, 0, none⟩)) (cs := cs) hB hbk hBw hl (by omega) (hmax (by unfold maxLen; omega))
  have HF := Lib.hid hfin
  have HC := Lib.hid hcopy
  clear hfin hown hbk hbk2 hrun h1 hcopy
  go_enter Tryd.func69, Tryd.ntmps69
  go_wp2
  go_region
  have hcp := HC.out (w.alloc (.cells cs 5)).drew.drew.drew rfl
  have d1 : (w.alloc (.cells cs 5)).drew.drew.drew.cell? ⟨b, 1, none⟩ = some (.slice (some ⟨g, 0, none⟩) m cp) := c2
  have d3 : ((w.alloc (.cells cs 5)).drew.drew.drew.setRow w.heap.size (bs ++ cs.toList.drop m).toArray).cell? ⟨b, 1, none⟩ = some (.slice (some ⟨g, 0, none⟩) m cp) := c3
  have e3 : ((w.alloc (.cells cs 5)).drew.drew.drew.setRow w.heap.size (bs ++ cs.toList.drop m).toArray).frozen? ⟨b, 1, none⟩ = false := f3
  clear hcall c1 c2 c3 f3
  go_wp2
  go_end0
  exact ⟨rfl, HF.out.1, HF.out.2.1.drew.drew.drew, HF.out.2.2⟩

set_option maxHeartbeats 2000000 in
set_option maxRecDepth 1000000 in
/-- Grow of a builder that has been written: what it holds stays. -/
theorem Grow_used (base b n : Nat) (bs : List Value) (w : World) (h : Bd base b bs w) (h0 : 1 ≤ bs.length) (h1 : ∀ v ∈ bs, v.oneCell' = true) (hl : bs.length ≤ 1000000000) (hn : n ≤ 1000000000) (hBw : base ≤ w.heap.size) :
    Calls Tryd.prog 52 #[.pointer (some ⟨b, 0, none⟩), .int .i64 n] w fun e w' => e = .returned (.tuple #[]) ∧ Bd base b bs w' ∧ Below base w w' ∧ KeepW b w w' := by
  obtain ⟨hB, ao, cp, hbk, hown⟩ := bd_parts h
  obtain ⟨m, hm⟩ : ∃ m, bs.length = m := ⟨_, rfl⟩
  rw [hm] at hbk hown hl h0
  obtain ⟨g, rfl⟩ : ∃ g, ao = some ⟨g, 0, none⟩ := by
    rcases hown.2 with ⟨_, h⟩ | ⟨g, _, _, h, _⟩
    · omega
    · injection h with h _ _; exact ⟨g, h⟩
  have hmc : m ≤ cp := by
    rcases hown.2 with ⟨h, _⟩ | ⟨g, _, _, h, _, _, h2, _⟩
    · cases h
    · injection h with _ _ h; omega
  have hcm : cp ≤ 9223372036854775807 := by
    rcases hown.2 with ⟨h, _⟩ | ⟨g, _, _, h, _, _, _, h2, _⟩
    · cases h
    · injection h with _ _ h; unfold maxLen at h2; omega
  have c0 : w.cell? ⟨b, 0, none⟩ = some (.pointer (some ⟨b, 0, none⟩)) := by rw [Lib.cell_of_heap hbk]; rfl
  have c1 : w.cell? ⟨b, 1, none⟩ = some (.slice (some ⟨g, 0, none⟩) m cp) := by rw [Lib.cell_of_heap hbk]; rfl
  have H := Lib.hid h
  by_cases hgr : cp - m < n
  · have hgr2 : (cp : Int) - (m : Int) < (n : Int) := by omega
    have hrow : ∀ W : World, W.heap = w.heap → Calls Tryd.prog 69 #[.pointer (some ⟨b, 0, none⟩), .int .i64 n] W fun e w' => e = .returned (.tuple #[]) ∧ Bd base b bs w' ∧ Below base W w' ∧ KeepW b W w' := by
      intro W hW
      have hown2 : W.ownsRow base 5 1 (.slice (some ⟨g, 0, none⟩) m cp) m bs := by
        unfold World.ownsRow; rw [hW]; exact hown
      exact grow_used base b g m n cp bs W hB (by rw [hW]; exact hbk) hown2 h1 (by rw [hW]; exact hBw) (by omega) hmc
    have HR := Lib.hid hrow
    clear hrow hbk hown h h1 hgr
    go_enter Tryd.func52, Tryd.ntmps52
    go_wp2_with (go_at_call 51; refine (copyCheck_used b w c0).mono ?_; rintro e w' ⟨rfl, rfl⟩)
    go_region
    go_wp2_with (go_at_call 69; refine (HR.out w.drew rfl).mono ?_)
    rintro e w' ⟨rfl, h1, h2, h3⟩
    go_wp2
    go_end0
    exact ⟨rfl, h1, (Below.refl base w).drew.trans h2, h3⟩
  · have hgr2 : ¬ (cp : Int) - (m : Int) < (n : Int) := by omega
    have hgr3 : (n : Int) ≤ (cp : Int) - (m : Int) := by omega
    clear hbk hown h h1 hgr
    go_enter Tryd.func52, Tryd.ntmps52
    go_wp2_with (go_at_call 51; refine (copyCheck_used b w c0).mono ?_; rintro e w' ⟨rfl, rfl⟩)
    go_region
    go_wp2
    go_end0
    exact ⟨rfl, H.out, (Below.refl base w).drew, KeepW.refl b w⟩
end Go.Proofs.YtadpkhneijoilaaDoor.Uni
