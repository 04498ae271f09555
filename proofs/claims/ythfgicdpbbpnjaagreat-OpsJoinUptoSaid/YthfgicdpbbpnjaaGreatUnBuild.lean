/-
  strings.Builder's writers, at a builder that has been grown.
-/
import Derived.Test.YthfgicdpbbpnjaaGreatUnUnits
import Derived.Lib.AppendStr
namespace Go.Proofs.YthfgicdpbbpnjaaGreat.Uni
open Go.RowKit
set_option linter.unusedVariables false

theorem size46 : (Tryz.prog.info? 75).map (·.size) = some 2 := by kernel_rfl
theorem info5 : (Tryz.prog.info? 5).map (fun i => (i.zero, i.size, i.bytes)) = some (some (.int .u8 0), 1, 1) := by kernel_rfl

/-- A builder in block b that has been used and holds the bytes bs. -/
def Bd (base b : Nat) (bs : List Value) (w : World) : Prop := Lib.BuilderAt 75 5 base b (.pointer (some ⟨b, 0, none⟩)) bs w

/-- Every block but b that is no row of bytes stays as it is. -/
def KeepW (b : Nat) (w w' : World) : Prop := ∀ (k : Nat) (o : Obj), w.heap[k]? = some o → k ≠ b → (∀ cs fz, o ≠ .cells cs 5 fz) → w'.heap[k]? = some o
theorem KeepW.refl (b : Nat) (w : World) : KeepW b w w := fun _ _ h _ _ => h
theorem KeepW.trans {b : Nat} {w w1 w2 : World} (h1 : KeepW b w w1) (h2 : KeepW b w1 w2) : KeepW b w w2 := fun k o h hk ho => h2 k o (h1 k o h hk ho) hk ho
theorem KeepW.of_below {b : Nat} {w w' : World} (h : Below w.heap.size w w') : KeepW b w w' := fun k o hk _ _ => (h.block k (Array.getElem?_eq_some_iff.1 hk).1).trans hk

set_option maxHeartbeats 400000 in
theorem copyCheck_used (b : Nat) (w : World) (h0 : w.cell? ⟨b, 0, none⟩ = some (.pointer (some ⟨b, 0, none⟩))) :
    Calls Tryz.prog 58 #[.pointer (some ⟨b, 0, none⟩)] w fun e w' => e = .returned (.tuple #[]) ∧ w = w' := by
  obtain ⟨j, hj, _⟩ := Option.map_eq_some_iff.1 size46
  have hne := fun w => Lib.run_neq_ptr_same (P := Tryz.prog) w (⟨b, 0, none⟩ : Addr) Tryz.underlying72 hj
  go_enter Tryz.func58, Tryz.ntmps58
  go_wp2
  go_end0
  exact ⟨rfl, rfl⟩

theorem bd_parts {base b : Nat} {bs : List Value} {w : World} (h : Bd base b bs w) : base ≤ b ∧ ∃ ao cp, w.heap[b]? = some (.cells #[.pointer (some ⟨b, 0, none⟩), .slice ao bs.length cp] 75 (0, 0)) ∧ w.ownsRow base 5 1 (.slice ao bs.length cp) bs.length bs := by
  obtain ⟨hB, v, hb, hown, _⟩ := h
  obtain ⟨ao, cp, rfl⟩ := own_shape hown
  exact ⟨hB, ao, cp, hb, hown⟩

theorem bd_put {base b n m : Nat} {bs bs' : List Value} {ao ao' : Option Addr} {cp cp' : Nat} {w w2 : World} (hB : base ≤ b) (hb : w.heap[b]? = some (.cells #[.pointer (some ⟨b, 0, none⟩), .slice ao n cp] 75 (0, 0)))
    (hown : w.ownsRow base 5 1 (.slice ao n cp) n bs) (hown' : w2.ownsRow base 5 1 (.slice ao' m cp') m bs') (hm : bs'.length = m) (hbw : base ≤ w.heap.size) (hgrow : ∃ w1, Below w.heap.size w w1 ∧ w1.grownBy w2 (Value.slice ao n cp).ownBlock) :
    Bd base b bs' (w2.setCell ⟨b, 1, none⟩ (.slice ao' m cp')) ∧ Below base w (w2.setCell ⟨b, 1, none⟩ (.slice ao' m cp')) ∧ KeepW b w (w2.setCell ⟨b, 1, none⟩ (.slice ao' m cp')) := by
  obtain ⟨w1, hbelw, hg⟩ := hgrow
  have hbel : Below base w w1 := hbelw.mono hbw
  have hbs : base ≤ w1.heap.size := Nat.le_trans hbw hbelw.size
  have hbb := hbelw.block b (lt_of_block hb)
  have hlt : b < w1.heap.size := Nat.lt_of_lt_of_le (lt_of_block hb) hbelw.size
  have hne := own_ne hown hb (by decide)
  have hb2 : w2.heap[b]? = some (.cells #[.pointer (some ⟨b, 0, none⟩), .slice ao n cp] 75 (0, 0)) := by
    rw [hg.block b hlt (fun e => hne e.symm), hbb]
    exact hb
  subst hm
  refine ⟨Lib.BuilderAt.put hB hb2 hown' (by decide), ?_, ?_⟩
  · refine Below.setCell ?_ hB _
    exact hbel.grown hg hbs (fun k hk => (hown.lt k hk).1)
  · intro k o hk hkb ho
    have hkl := (Array.getElem?_eq_some_iff.1 hk).1
    have hk1 := (hbelw.block k hkl).trans hk
    have hkr : some k ≠ (Value.slice ao n cp).ownBlock := by
      intro e
      rcases hown.2 with ⟨h, _⟩ | ⟨g, _, cur, h, _, hg2, _⟩
      · rw [h] at e; simp [Value.ownBlock] at e
      · rw [h] at e
        simp [Value.ownBlock] at e
        subst e
        rw [hg2] at hk
        exact ho cur (0, 0) (by simpa using hk.symm)
    rw [Below.heap_setCell _ _ _ _ (fun e => hkb e)]
    exact (hg.block k (Nat.lt_of_lt_of_le hkl hbelw.size) hkr).trans hk1

set_option maxRecDepth 100000 in
set_option maxHeartbeats 400000 in
theorem writeByte_keep (base b : Nat) (bs : List Value) (c : Int) (w : World) (h : Bd base b bs w) (hl : bs.length ≤ 1000000000) (hb : base ≤ w.heap.size) :
    Calls Tryz.prog 61 #[.pointer (some ⟨b, 0, none⟩), .int .u8 c] w fun e w' => e = .returned .nilIface ∧ Bd base b (bs ++ [.int .u8 c]) w' ∧ Below base w w' ∧ KeepW b w w' := by
  obtain ⟨i0, hi, hz0, hz1, hz2⟩ := info_parts info5
  obtain ⟨hB, ao, cp, hbk, hown⟩ := bd_parts h
  obtain ⟨n, hn⟩ : ∃ n, bs.length = n := ⟨_, rfl⟩
  rw [hn] at hbk hown hl
  have HN := Lib.hid hn
  have c0 : w.cell? ⟨b, 0, none⟩ = some (.pointer (some ⟨b, 0, none⟩)) := by rw [Lib.cell_of_heap hbk]; rfl
  have c1 : w.cell? ⟨b, 1, none⟩ = some (.slice ao n cp) := by rw [Lib.cell_of_heap hbk]; rfl
  have HK := Lib.hid hbk
  have hlt := lt_of_block hbk
  have hne := own_ne hown hbk (by decide)
  clear hn hbk h
  go_enter Tryz.func61, Tryz.ntmps61
  go_wp2_with (first | (go_at_call 58; refine (copyCheck_used b w c0).mono ?_; rintro e w' ⟨rfl, rfl⟩) | (at_builtin; refine wpList_append_own _ rfl _ _ 73 rfl base 5 i0 (.int .u8 0) 1 1 Tryz.underlying73 hi hz0 hz1 hz2 rfl (by decide) _ _ _ rfl (hown.alloc _) ⟨w.heap.size, 0, none⟩ 1 1 [.int .u8 c] rfl rfl (cell_one_new _ _ _) (one_cells _ _) (by unfold maxLen; omega) (by omega) (size_alloc_le _ hb) ?_))
  intro v' w2 hown' hgrow _
  have hb2 : w2.heap[b]? = some (.cells #[.pointer (some ⟨b, 0, none⟩), .slice ao n cp] 75 (0, 0)) := by
    rw [hgrow.block b (by simp; omega) (fun e => hne e.symm), heap_alloc_old w _ hlt]
    exact HK.out
  have d0 : w2.cell? ⟨b, 0, none⟩ = some (.pointer (some ⟨b, 0, none⟩)) := by rw [Lib.cell_of_heap hb2]; rfl
  have d1 : w2.cell? ⟨b, 1, none⟩ = some (.slice ao n cp) := by rw [Lib.cell_of_heap hb2]; rfl
  have f1 : w2.frozen? ⟨b, 1, none⟩ = false := Lib.frozen_of_heap hb2 1
  obtain ⟨ao', cp', rfl⟩ := own_shape hown'
  have R := bd_put hB HK.out hown hown' (by rw [List.length_append, HN.out]; rfl) hb ⟨_, (Below.refl _ w).alloc (Nat.le_refl _) _, hgrow⟩
  clear hb2 hown' hgrow hown hne
  go_wp2
  go_ret
  exact ⟨rfl, R⟩

set_option maxRecDepth 100000 in
set_option maxHeartbeats 400000 in
theorem writeString_keep (base b : Nat) (bs : List Value) (s : ByteArray) (w : World) (h : Bd base b bs w) (hl : bs.length ≤ 1000000000) (hs : s.size ≤ 1000000000) (hb : base ≤ w.heap.size) :
    Calls Tryz.prog 48 #[.pointer (some ⟨b, 0, none⟩), .string s] w fun e w' => e = .returned (.tuple #[.int .i64 s.size, .nilIface]) ∧ Bd base b (bs ++ Lib.strCells s) w' ∧ Below base w w' ∧ KeepW b w w' := by
  obtain ⟨i0, hi, hz0, hz1, hz2⟩ := info_parts info5
  obtain ⟨hB, ao, cp, hbk, hown⟩ := bd_parts h
  obtain ⟨n, hn⟩ : ∃ n, bs.length = n := ⟨_, rfl⟩
  rw [hn] at hbk hown hl
  have HN := Lib.hid hn
  have c0 : w.cell? ⟨b, 0, none⟩ = some (.pointer (some ⟨b, 0, none⟩)) := by rw [Lib.cell_of_heap hbk]; rfl
  have c1 : w.cell? ⟨b, 1, none⟩ = some (.slice ao n cp) := by rw [Lib.cell_of_heap hbk]; rfl
  have HK := Lib.hid hbk
  have hlt := lt_of_block hbk
  have hne := own_ne hown hbk (by decide)
  clear hn hbk h
  go_enter Tryz.func48, Tryz.ntmps48
  go_wp2_with (first | (go_at_call 58; refine (copyCheck_used b w c0).mono ?_; rintro e w' ⟨rfl, rfl⟩) | (at_builtin; refine Lib.wpList_append_own_string _ rfl _ _ 73 9 rfl base 5 i0 Tryz.underlying73 Tryz.underlying9 hi hz0 hz1 hz2 _ _ _ rfl hown s rfl (by unfold maxLen; omega) (by omega) hb ?_))
  intro v' w2 hown' hgrow _
  have hb2 : w2.heap[b]? = some (.cells #[.pointer (some ⟨b, 0, none⟩), .slice ao n cp] 75 (0, 0)) := by
    rw [hgrow.block b hlt (fun e => hne e.symm)]
    exact HK.out
  have d0 : w2.cell? ⟨b, 0, none⟩ = some (.pointer (some ⟨b, 0, none⟩)) := by rw [Lib.cell_of_heap hb2]; rfl
  have d1 : w2.cell? ⟨b, 1, none⟩ = some (.slice ao n cp) := by rw [Lib.cell_of_heap hb2]; rfl
  have f1 : w2.frozen? ⟨b, 1, none⟩ = false := Lib.frozen_of_heap hb2 1
  obtain ⟨ao', cp', rfl⟩ := own_shape hown'
  have R := bd_put hB HK.out hown hown' (by rw [List.length_append, HN.out, Lib.strCells_length]) hb ⟨_, Below.refl _ w, hgrow⟩
  clear hb2 hown' hgrow hown hne
  go_wp2
  go_ret2
  exact ⟨rfl, R⟩

set_option maxRecDepth 100000 in
set_option maxHeartbeats 400000 in
theorem writeRune_keep (base b : Nat) (bs : List Value) (r : Int) (w : World) (h : Bd base b bs w) (hr0 : 0 ≤ r) (hr1 : r ≤ 1114111) (hl : bs.length ≤ 1000000000) (hb : base ≤ w.heap.size) :
    Calls Tryz.prog 60 #[.pointer (some ⟨b, 0, none⟩), .int .i32 r] w fun e w' => (∃ v, e = .returned v) ∧ Bd base b (bs ++ Lib.runeCells r) w' ∧ Below base w w' ∧ KeepW b w w' := by
  obtain ⟨hB, ao, cp, hbk, hown⟩ := bd_parts h
  obtain ⟨n, hn⟩ : ∃ n, bs.length = n := ⟨_, rfl⟩
  rw [hn] at hbk hown hl
  have HN := Lib.hid hn
  have c0 : w.cell? ⟨b, 0, none⟩ = some (.pointer (some ⟨b, 0, none⟩)) := by rw [Lib.cell_of_heap hbk]; rfl
  have c1 : w.cell? ⟨b, 1, none⟩ = some (.slice ao n cp) := by rw [Lib.cell_of_heap hbk]; rfl
  have HK := Lib.hid hbk
  have hlt := lt_of_block hbk
  have hne := own_ne hown hbk (by decide)
  have hk4 := Lib.runeCells_le r
  clear hn hbk h
  go_enter Tryz.func60, Tryz.ntmps60
  go_wp2_with (first | (go_at_call 58; refine (copyCheck_used b w c0).mono ?_; rintro e w' ⟨rfl, rfl⟩) | (go_at_call 67; refine (Tryz.utf8_AppendRune_plain base _ n bs r (by omega) (by omega) w hown (by omega) hb).mono ?_))
  rintro e w2 ⟨v', rfl, hown', o, hgrow⟩
  have hb2 : w2.heap[b]? = some (.cells #[.pointer (some ⟨b, 0, none⟩), .slice ao n cp] 75 (0, 0)) := by
    rw [hgrow.block b (by simp; omega) (fun e => hne e.symm), heap_alloc_old w _ hlt]
    exact HK.out
  obtain ⟨ao', cp', rfl⟩ := own_shape hown'
  obtain ⟨m, hm⟩ : ∃ m, n + (Lib.runeCells r).length = m := ⟨_, rfl⟩
  rw [hm] at hown'
  have hm2 : m ≤ 2000000000 := by omega
  have d0 : w2.cell? ⟨b, 0, none⟩ = some (.pointer (some ⟨b, 0, none⟩)) := by rw [Lib.cell_of_heap hb2]; rfl
  have d1 : w2.cell? ⟨b, 1, none⟩ = some (.slice ao n cp) := by rw [Lib.cell_of_heap hb2]; rfl
  have f1 : w2.frozen? ⟨b, 1, none⟩ = false := Lib.frozen_of_heap hb2 1
  have R := bd_put hB HK.out hown hown' (by rw [List.length_append, HN.out]; exact hm) hb ⟨_, (Below.refl _ w).alloc (Nat.le_refl _) o, hgrow⟩
  have e1 : (w2.setCell ⟨b, 1, none⟩ (.slice ao' m cp')).cell? ⟨b, 1, none⟩ = some (.slice ao' m cp') := by
    have := World.cell?_setCell_same w2 ⟨b, 1, none⟩ (.slice ao' m cp') d1
    exact this
  rw [hm]
  clear hb2 hown' hgrow hown hne hm hk4
  go_wp2
  go_ret2
  exact ⟨⟨_, rfl⟩, R⟩

theorem writeByte_any (base b : Nat) (bs : List Value) (c : Int) (w : World) (h : Bd base b bs w) (hl : bs.length ≤ 1000000000) (hb : base ≤ w.heap.size) :
    Calls Tryz.prog 61 #[.pointer (some ⟨b, 0, none⟩), .int .u8 c] w fun e w' => e = .returned .nilIface ∧ Bd base b (bs ++ [.int .u8 c]) w' ∧ Below base w w' :=
  (writeByte_keep base b bs c w h hl hb).mono fun _ _ h => ⟨h.1, h.2.1, h.2.2.1⟩
theorem writeString_any (base b : Nat) (bs : List Value) (s : ByteArray) (w : World) (h : Bd base b bs w) (hl : bs.length ≤ 1000000000) (hs : s.size ≤ 1000000000) (hb : base ≤ w.heap.size) :
    Calls Tryz.prog 48 #[.pointer (some ⟨b, 0, none⟩), .string s] w fun e w' => e = .returned (.tuple #[.int .i64 s.size, .nilIface]) ∧ Bd base b (bs ++ Lib.strCells s) w' ∧ Below base w w' :=
  (writeString_keep base b bs s w h hl hs hb).mono fun _ _ h => ⟨h.1, h.2.1, h.2.2.1⟩
theorem writeRune_any (base b : Nat) (bs : List Value) (r : Int) (w : World) (h : Bd base b bs w) (hr0 : 0 ≤ r) (hr1 : r ≤ 1114111) (hl : bs.length ≤ 1000000000) (hb : base ≤ w.heap.size) :
    Calls Tryz.prog 60 #[.pointer (some ⟨b, 0, none⟩), .int .i32 r] w fun e w' => (∃ v, e = .returned v) ∧ Bd base b (bs ++ Lib.runeCells r) w' ∧ Below base w w' :=
  (writeRune_keep base b bs r w h hr0 hr1 hl hb).mono fun _ _ h => ⟨h.1, h.2.1, h.2.2.1⟩
end Go.Proofs.YthfgicdpbbpnjaaGreat.Uni
