/-
  units.Len by its visitor.
-/
import Derived.Test.YthfgicdpbbpnjaaGreatUnOf
import Derived.Deep.RegionWith
namespace Go.Proofs.YthfgicdpbbpnjaaGreat.Uni
open Go.RowKit
set_option linter.unusedVariables false

set_option maxHeartbeats 400000 in
theorem len1_any (c n : Nat) (p : Nat) (w : World) (hn : n ≤ 1000000000) (hc : w.heap[c]? = some (.cells #[.int .i64 (n : Nat)] 3 (0, 0))) :
    Calls Tryz.prog 41 #[.int .i32 p, .pointer (some ⟨c, 0, none⟩)] w fun e w' => e = .returned (.tuple #[]) ∧ ∃ q, w' = (w.setCell ⟨c, 0, none⟩ (.int .i64 ((n : Int) + (wd p : Nat)))).drewN q := by
  have hcell := cell_of_one hc
  have hfree := free_of_one hc
  have hw : wd p ≤ 2 := by unfold wd; split <;> omega
  clear hc
  go_enter Tryz.func41, Tryz.ntmps41
  go_wp2
  go_region_with (go_at_call 42; refine (width_any p _).mono ?_; rintro e w' ⟨rfl, rfl⟩)
  all_goals go_wp2
  all_goals go_end0
  all_goals
    have e : IntKind.i64.wrap ((n : Int) + (wd p : Nat)) = (n : Int) + (wd p : Nat) := by rw [IntKind.wrap_i64]; omega
    rw [e]
    exact ⟨rfl, 1, rfl⟩

/-- What the visitor of Len keeps: the captured variable's block holds the number so far. -/
def InvLen (w0 : World) (base c : Nat) (done : List Nat) (wr : World) : Prop :=
  wr.heap[c]? = some (.cells #[.int .i64 ((uns done).length : Nat)] 3 (0, 0)) ∧ Below base w0 wr

theorem un_wd (p : Nat) : (un p).length = wd p := by rw [un_len]; rfl

theorem len1_inv (w0 : World) (base c it : Nat) (s : ByteArray) (hs : s.size ≤ 100000000) (hcb : base ≤ c) (hit : c ≠ it) (done : List Nat) (p : Nat) (wr : World) (pos : Nat) (hi : wr.heap[it]? = some (.stringIter s pos)) (h : InvLen w0 base c done wr) (hl : done.length < s.size) :
    Calls Tryz.prog 41 (#[.int .i32 p] ++ #[.pointer (some ⟨c, 0, none⟩)]) wr fun e w' => e = .returned (.tuple #[]) ∧ InvLen w0 base c (done ++ [p]) w' ∧ w'.heap[it]? = some (.stringIter s pos) := by
  obtain ⟨hc, hbel⟩ := h
  have hul := uns_le done
  refine (len1_any c _ p wr (by omega) hc).mono ?_
  rintro e w' ⟨rfl, q, rfl⟩
  refine ⟨rfl, ⟨?_, below_drewN (hbel.setCell hcb _) q⟩, ?_⟩
  · have := one_setCell hc (u := .int .i64 (((uns done).length : Int) + (wd p : Nat)))
    rw [uns_snoc, List.length_append, un_wd, Int.natCast_add]
    exact this
  · show (wr.setCell _ _).heap[it]? = _
    rw [Below.heap_setCell _ _ _ _ (fun e => hit e.symm)]
    exact hi

theorem vis24 (w0 : World) (base c it : Nat) (s : ByteArray) (hs : s.size ≤ 100000000) (hcb : base ≤ c) (hci : c < it) (hbi : base ≤ it) : Vis 41 #[.pointer (some ⟨c, 0, none⟩)] s it (InvLen w0 base c) where
  move := by
    rintro done wr pos pos' hi ⟨hc, hbel⟩
    refine ⟨?_, Lib.below_iterAt hbel hbi s pos'⟩
    rw [Lib.iterAt_other wr it c s pos' (by omega)]
    exact hc
  enter := fun _ _ => by kernel_rfl
  draws := by
    rintro done wr n ⟨hc, hbel⟩
    exact ⟨hc, below_drewN hbel n⟩
  call := fun done p wr pos hi h _ hl => len1_inv w0 base c it s hs hcb (by omega) done p wr pos hi h hl

set_option maxHeartbeats 400000 in
theorem len_any (s : ByteArray) (w : World) (hs : s.size ≤ 100000000) :
    Calls Tryz.prog 31 #[.string s] w fun e w' => e = .returned (.int .i64 ((units s).length : Nat)) ∧ Below w.heap.size w w' := by
  go_enter Tryz.func31, Tryz.ntmps31
  go_wp2_with (fail)
  have hst : InvLen w w.heap.size w.heap.size [] ((w.alloc (.cells #[.int .i64 0] 3)).iter s 0) := by
    refine ⟨?_, ((Below.refl _ _).alloc (Nat.le_refl _) _).alloc (by simp) _⟩
    unfold World.iter
    rw [heap_alloc_old _ _ (by simp)]
    exact heap_alloc_new w _
  refine (points_gen 41 #[.pointer (some ⟨w.heap.size, 0, none⟩)] s _ _ (by omega) (vis24 w w.heap.size w.heap.size _ s hs (Nat.le_refl _) (by simp) (by simp)) hst).mono ?_
  clear hst
  rintro e w' ⟨rfl, hsome, l, hc0, hbel0⟩
  cases hp : pts s with
  | none =>
    have H := Lib.hid hp
    clear hp hsome hc0
    go_wp2
    go_ret
    refine ⟨?_, hbel0⟩
    unfold units
    rw [H.out]
    rfl
  | some l1 =>
    obtain ⟨hc, hbel⟩ := hsome l1 hp
    have H := Lib.hid hp
    have hcell := cell_of_one hc
    clear hp hsome hc0 hc
    go_wp2
    go_ret
    refine ⟨?_, hbel⟩
    unfold units
    rw [H.out]
    rfl
end Go.Proofs.YthfgicdpbbpnjaaGreat.Uni
