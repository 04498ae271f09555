/-
  units.Of, units.Right and units.Len, by their visitors.
-/
import Derived.Test.YthfgicdpbbpnjaaGreatUnPts
import Derived.OneCell
namespace Go.Proofs.YthfgicdpbbpnjaaGreat.Uni
open Go.RowKit
set_option linter.unusedVariables false

/-- Units as cells. -/
def uc (l : List Nat) : List Value := l.map fun n : Nat => Value.int .u16 (n : Int)
theorem uc_append (a b : List Nat) : uc (a ++ b) = uc a ++ uc b := by simp [uc]
theorem uc_length (a : List Nat) : (uc a).length = a.length := by simp [uc]

theorem info32 : (Tryz.prog.info? 45).map (fun i => (i.zero, i.size, i.bytes)) = some (some (.int .u16 0), 1, 2) := by kernel_rfl

def AppU (base : Nat) (v : Value) (n : Nat) (xs : List Value) (p : Nat) (w : World) (e : Ending) (w' : World) : Prop :=
  ∃ v', e = .returned v' ∧ w'.ownsRow base 45 1 v' (n + (un p).length) (xs ++ uc (un p)) ∧ w.grownBy w' v.ownBlock

theorem grownBy_of_alloc {w w' : World} {o : Obj} {row : Option Nat} (h : (w.alloc o).grownBy w' row) : w.grownBy w' row := by
  refine ⟨h.os, h.tape, h.output, ?_, ?_⟩
  · have := h.size; simp at this; omega
  · intro k hk hr
    rw [h.block k (by simp; omega) hr]
    exact heap_alloc_old w o hk

theorem mask10 (x : Int) (h0 : 0 ≤ x) (h1 : x < 2147483648) : bits .and .i32 x 1023 = x % 1024 :=
  bits_mask .i32 31 (by decide) wraps_i32 10 (by decide) x h0 h1

set_option maxHeartbeats 400000 in
theorem appendUnits_any (base : Nat) (v : Value) (n : Nat) (xs : List Value) (p : Nat) (w : World) (hp : p ≤ 1114111) (hown : w.ownsRow base 45 1 v n xs) (hn : n ≤ 1000000000) (hb : base ≤ w.heap.size) :
    Calls Tryz.prog 55 #[v, .int .i32 p] w (AppU base v n xs p w) := by
  obtain ⟨i0, hi, hz0, hz1, hz2⟩ := info_parts info32
  have hx0 : 0 ≤ (p : Int) := by omega
  by_cases h : (p : Int) < 65536
  · go_enter Tryz.func55, Tryz.ntmps55
    go_wp2_with (at_builtin; refine wpList_append_own _ rfl _ _ 33 rfl base 45 i0 (.int .u16 0) 1 2 Tryz.underlying33 hi hz0 hz1 hz2 rfl (by decide) _ _ _ rfl (hown.alloc _) ⟨w.heap.size, 0, none⟩ 1 1 [.int .u16 p] rfl rfl ?c1 ?c2 ?c3 ?c4 ?c5 ?_)
    case c1 =>
      intro j u hj
      match j, hj with
      | 0, hj => simp at hj; subst hj; simp [Addr.add]
    case c2 => intro u hu; simp at hu; subst hu; rfl
    case c3 => unfold maxLen; omega
    case c4 => omega
    case c5 => simp; omega
    intro v' w1 hown' hgrow _
    go_wp2
    go_ret
    exact ⟨v', rfl, (by rw [un_small (by omega)]; exact hown'), grownBy_of_alloc hgrow⟩
  · have hq := mask10 ((p : Int) - 65536) (by omega) (by omega)
    have hq0 : 0 ≤ ((p : Int) - 65536) % 1024 := by omega
    have hq1 : ((p : Int) - 65536) % 1024 ≤ 1023 := by omega
    go_enter Tryz.func55, Tryz.ntmps55
    go_wp2_with (at_builtin; (refine wpList_append_own _ rfl _ _ 33 rfl base 45 i0 (.int .u16 0) 1 2 Tryz.underlying33 hi hz0 hz1 hz2 rfl (by decide) _ _ _ rfl (hown.alloc _) ⟨w.heap.size, 0, none⟩ 2 2 [.int .u16 (55296 + ((p : Int) - 65536) / 1024), .int .u16 (56320 + ((p : Int) - 65536) % 1024)] rfl rfl ?c1 ?c2 ?c3 ?c4 ?c5 ?_))
    case c2 => exact ⟨rfl, rfl⟩
    case c3 => unfold maxLen; omega
    case c4 => omega
    case c5 => omega
    intro v' w1 hown' hgrow _
    go_wp2
    go_ret
    refine ⟨v', rfl, ?_, grownBy_of_alloc hgrow⟩
    rw [un_great (by omega)]
    have e : uc [55296 + (p - 65536) / 1024, 56320 + (p - 65536) % 1024] = [.int .u16 (55296 + ((p : Int) - 65536) / 1024), .int .u16 (56320 + ((p : Int) - 65536) % 1024)] := by
      simp [uc]; omega
    rw [e]
    exact hown'

theorem right1_any (p : Nat) (w : World) : Calls Tryz.prog 40 #[.int .i32 p] w fun e w' => e = .returned (.tuple #[]) ∧ w = w' := by
  go_enter Tryz.func40, Tryz.ntmps40
  go_wp2
  go_end0
  exact ⟨rfl, rfl⟩

theorem vis22 (s : ByteArray) (w : World) : Vis 40 #[] s w.heap.size (fun _ wr => Below w.heap.size w wr) where
  move := fun _ wr pos pos' _ h => Lib.below_iterAt h (Nat.le_refl _) s pos'
  enter := fun _ _ => by kernel_rfl
  draws := fun _ wr n h => below_drewN h n
  call := fun _ p wr pos hit h _ _ => (right1_any p wr).mono (by rintro e w' ⟨rfl, rfl⟩; exact ⟨rfl, h, hit⟩)

theorem iter_below {B : Nat} {w : World} (h : B ≤ w.heap.size) (s : ByteArray) : Below B w (w.iter s 0) := (Below.refl _ w).alloc h _

theorem right_any (s : ByteArray) (w : World) (hs : s.size ≤ 9223372036854775807) :
    Calls Tryz.prog 30 #[.string s] w fun e w' => e = .returned (.bool (pts s).isSome) ∧ Below w.heap.size w w' := by
  go_enter Tryz.func30, Tryz.ntmps30
  go_wp2_with (fail)
  refine (points_gen 40 #[] s w _ hs (vis22 s w) (iter_below (Nat.le_refl _) s)).mono ?_
  rintro e w' ⟨rfl, _, l, hl⟩
  go_wp2
  go_ret
  exact ⟨rfl, hl⟩

/-- What the visitor of Of keeps: the captured variable's block holds a slice that owns the units so far. -/
def InvOf (w0 : World) (base c : Nat) (done : List Nat) (wr : World) : Prop :=
  ∃ v, wr.heap[c]? = some (.cells #[v] 33 (0, 0)) ∧ wr.ownsRow base 45 1 v (uns done).length (uc (uns done)) ∧ Below base w0 wr ∧ base ≤ wr.heap.size

theorem own_shape {w : World} {base e1 : Nat} {v : Value} {n : Nat} {xs : List Value} (h : w.ownsRow base e1 1 v n xs) : ∃ a c, v = .slice a n c := by
  rcases h.2 with ⟨rfl, rfl⟩ | ⟨g, cap, cur, rfl, _⟩
  · exact ⟨none, 0, rfl⟩
  · exact ⟨_, cap, rfl⟩
theorem own_ne {w : World} {base e1 e2 : Nat} {v : Value} {n c : Nat} {xs : List Value} {cs : Array Value} {fz : Nat × Nat} (h : w.ownsRow base e1 1 v n xs) (hc : w.heap[c]? = some (.cells cs e2 fz)) (hne : e1 ≠ e2) : v.ownBlock ≠ some c := by
  rcases h.2 with ⟨rfl, _⟩ | ⟨g, cap, cur, rfl, _, hg, _⟩
  · simp [Value.ownBlock]
  · simp [Value.ownBlock]
    rintro rfl
    rw [hg] at hc
    simp at hc
    exact hne hc.2.1
theorem own_ne_iter {w : World} {base e1 : Nat} {v : Value} {n c : Nat} {xs : List Value} {s : ByteArray} {pos : Nat} (h : w.ownsRow base e1 1 v n xs) (hc : w.heap[c]? = some (.stringIter s pos)) : v.ownBlock ≠ some c := by
  rcases h.2 with ⟨rfl, _⟩ | ⟨g, cap, cur, rfl, _, hg, _⟩
  · simp [Value.ownBlock]
  · simp [Value.ownBlock]
    rintro rfl
    rw [hg] at hc
    simp at hc
theorem own_iterAt {w : World} {base e1 : Nat} {v : Value} {n k : Nat} {xs : List Value} {s : ByteArray} {pos : Nat} (h : w.ownsRow base e1 1 v n xs) (hk : w.heap[k]? = some (.stringIter s pos)) (pos' : Nat) : (w.iterAt k s pos').ownsRow base e1 1 v n xs := by
  have hne := own_ne_iter h hk
  refine ⟨h.1, ?_⟩
  rcases h.2 with hn | ⟨g, cap, cur, rfl, hb, hg, rest⟩
  · exact .inl hn
  · refine .inr ⟨g, cap, cur, rfl, hb, ?_, rest⟩
    rw [Lib.iterAt_other w k g s pos' (by simpa [Value.ownBlock] using hne)]
    exact hg

set_option maxHeartbeats 400000 in
theorem of1_any (base c : Nat) (v : Value) (n : Nat) (xs : List Value) (p : Nat) (w : World) (hp : p ≤ 1114111) (hc : w.heap[c]? = some (.cells #[v] 33 (0, 0))) (hown : w.ownsRow base 45 1 v n xs) (hn : n ≤ 1000000000) (hb : base ≤ w.heap.size) :
    Calls Tryz.prog 54 #[.int .i32 p, .pointer (some ⟨c, 0, none⟩)] w fun e w' => e = .returned (.tuple #[]) ∧ ∃ v' w1, w1.ownsRow base 45 1 v' (n + (un p).length) (xs ++ uc (un p)) ∧ w.grownBy w1 v.ownBlock ∧ w' = w1.setCell ⟨c, 0, none⟩ v' := by
  have hcell := cell_of_one hc
  have hcne := own_ne hown hc (by decide)
  have hH := Lib.hid hc
  clear hc
  go_enter Tryz.func54, Tryz.ntmps54
  go_wp2_with (go_at_call 55; refine (appendUnits_any base v n xs p _ hp hown hn hb).mono ?_)
  rintro e w1 ⟨v', rfl, hown1, hg1⟩
  have hc1 : w1.heap[c]? = some (.cells #[v] 33 (0, 0)) := (hg1.block c (lt_of_block hH.out) (fun e => hcne e.symm)).trans hH.out
  have hcell1 := cell_of_one hc1
  have hfree1 := free_of_one hc1
  clear hc1
  obtain ⟨ao, cp, rfl⟩ := own_shape hown1
  go_wp2
  go_end0
  exact ⟨rfl, _, w1, hown1, hg1, rfl⟩

theorem of1_inv (w0 : World) (base c it : Nat) (s : ByteArray) (hs : s.size ≤ 100000000) (hcb : base ≤ c) (hit : c ≠ it) (done : List Nat) (p : Nat) (wr : World) (pos : Nat) (hi : wr.heap[it]? = some (.stringIter s pos)) (h : InvOf w0 base c done wr) (hp : p ≤ 1114111) (hl : done.length < s.size) :
    Calls Tryz.prog 54 (#[.int .i32 p] ++ #[.pointer (some ⟨c, 0, none⟩)]) wr fun e w' => e = .returned (.tuple #[]) ∧ InvOf w0 base c (done ++ [p]) w' ∧ w'.heap[it]? = some (.stringIter s pos) := by
  obtain ⟨v, hc, hown, hbel, hb⟩ := h
  have hul := uns_le done
  refine (of1_any base c v _ _ p wr hp hc hown (by omega) hb).mono ?_
  rintro e w' ⟨rfl, v', w1, hown1, hg1, rfl⟩
  have hcne := own_ne hown hc (by decide)
  have hc1 : w1.heap[c]? = some (.cells #[v] 33 (0, 0)) := (hg1.block c (lt_of_block hc) (fun e => hcne e.symm)).trans hc
  have hi1 : w1.heap[it]? = some (.stringIter s pos) := (hg1.block it (lt_of_block hi) (fun e => own_ne_iter hown hi e.symm)).trans hi
  have hcne1 := own_ne hown1 hc1 (by decide)
  refine ⟨rfl, ⟨v', one_setCell hc1, ?_, ?_, ?_⟩, ?_⟩
  · refine ownsRow_setCell_other ?_ hcne1 v'
    rw [uns_snoc, uc_append, List.length_append]
    exact hown1
  · refine Below.setCell ?_ hcb _
    exact hbel.grown hg1 hb (fun k hk => (hown.lt k hk).1)
  · have := hg1.size
    simp
    omega
  · rw [Below.heap_setCell _ _ _ _ (fun e => hit e.symm)]
    exact hi1

theorem vis20 (w0 : World) (base c it : Nat) (s : ByteArray) (hs : s.size ≤ 100000000) (hcb : base ≤ c) (hci : c < it) (hbi : base ≤ it) : Vis 54 #[.pointer (some ⟨c, 0, none⟩)] s it (InvOf w0 base c) where
  move := by
    rintro done wr pos pos' hi ⟨v, hc, hown, hbel, hb⟩
    refine ⟨v, ?_, own_iterAt hown hi pos', Lib.below_iterAt hbel hbi s pos', by rw [Lib.iterAt_size]; exact hb⟩
    rw [Lib.iterAt_other wr it c s pos' (by omega)]
    exact hc
  enter := fun _ _ => by kernel_rfl
  draws := by
    rintro done wr n ⟨v, hc, hown, hbel, hb⟩
    exact ⟨v, hc, hown, below_drewN hbel n, hb⟩
  call := fun done p wr pos hi h hp hl => of1_inv w0 base c it s hs hcb (by omega) done p wr pos hi h hp hl

/-- What Of gives: a slice that owns the units. -/
def OfPost (s : ByteArray) (w : World) (e : Ending) (w' : World) : Prop :=
  ∃ v, e = .returned v ∧ w'.ownsRow w.heap.size 45 1 v (units s).length (uc (units s)) ∧ Below w.heap.size w w'

set_option maxHeartbeats 400000 in
theorem of_any (s : ByteArray) (w : World) (hs : s.size ≤ 100000000) :
    Calls Tryz.prog 37 #[.string s] w (OfPost s w) := by
  obtain ⟨i0, hi, hz0, hz1, hz2⟩ := info_parts info32
  go_enter Tryz.func37, Tryz.ntmps37
  go_wp2_with (at_make; refine wpList_make_own _ rfl _ _ 33 rfl w.heap.size 45 i0 (.int .u16 0) 1 Tryz.underlying33 hi hz0 hz1 _ _ _ s.size rfl rfl (by omega) ?b2 ?b3 (Nat.le_refl _) ?_)
  case b2 => rw [hz2]; omega
  case b3 => unfold maxLen; omega
  intro w0 hown0 hgrow0
  have hsz0 := hgrow0.size
  go_wp2_with (fail)
  have hst : InvOf w w.heap.size w0.heap.size [] ((w0.alloc (.cells #[.slice (some ⟨w.heap.size, 0, none⟩) 0 s.size] 33)).iter s 0) := by
    refine ⟨_, ?_, (hown0.alloc _).alloc _, (((Below.refl _ _).grown hgrow0 (Nat.le_refl _) (fun k h => by cases h)).alloc hsz0 _).alloc (by simp; omega) _, ?_⟩
    · unfold World.iter
      rw [heap_alloc_old _ _ (by simp)]
      exact heap_alloc_new w0 _
    · unfold World.iter; simp; omega
  refine (points_gen 54 #[.pointer (some ⟨w0.heap.size, 0, none⟩)] s _ _ (by omega) (vis20 w w.heap.size w0.heap.size _ s hs hsz0 (by simp) (by simp; omega)) hst).mono ?_
  clear hst hown0 hgrow0
  rintro e w' ⟨rfl, hsome, l, v0, hc0, hown0, hbel0, hb0⟩
  cases hp : pts s with
  | none =>
    have H := Lib.hid hp
    clear hp hsome hc0
    go_wp2
    go_ret
    refine ⟨_, rfl, ?_, hbel0⟩
    unfold units
    rw [H.out]
    exact World.ownsRow_nil _ _ _ _
  | some l1 =>
    obtain ⟨v, hc, hown, hbel, hb⟩ := hsome l1 hp
    have H := Lib.hid hp
    have hcell := cell_of_one hc
    clear hp hsome hc0 hc hown0
    go_wp2
    go_ret
    refine ⟨v, rfl, ?_, hbel⟩
    unfold units
    rw [H.out]
    exact hown
end Go.Proofs.YthfgicdpbbpnjaaGreat.Uni
