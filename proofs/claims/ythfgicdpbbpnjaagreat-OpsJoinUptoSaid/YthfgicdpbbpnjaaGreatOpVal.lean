/-
  What the operators ask of values.
-/
import Derived.Test.YthfgicdpbbpnjaaGreatOpMem
import Derived.Test.YthfgicdpbbpnjaaGreatVaRight
namespace Go.Proofs.YthfgicdpbbpnjaaGreat.Ops
open Go Go.RowKit Go.Proofs.YthfgicdpbbpnjaaGreat.Uni
open Go.Proofs.YthfgicdpbbpnjaaGreat.Vals (bnext ball rightF Right_any rv_any V)
set_option linter.unusedVariables false
set_option linter.unusedSimpArgs false

/-- Right values. -/
def rV (v : Vl) : Bool := rightF v.k v.n v.s
theorem right_is (v : Vl) (w : World) (hs : v.s.size ≤ 2000000) : Calls Tryz.prog 12 #[.agg (vcs v)] w fun e w' => e = .returned (.bool (rV v)) ∧ Below w.heap.size w w' := Right_any v.k v.n v.s w hs
theorem rright_is (v : Vl) (w : World) (hs : v.s.size ≤ 2000000) : Calls Tryz.prog 7 #[.agg (vcs v)] w fun e w' => e = .returned (.bool (rV v)) ∧ Below w.heap.size w w' := rv_any v.k v.n v.s w (by omega)
theorem bels2 (w : World) (a b : Obj) : Below w.heap.size w ((w.alloc a).alloc b) := ((Below.refl _ _).alloc (Nat.le_refl _) _).alloc (by simp) _
theorem same_t (k n : Int) (s : ByteArray) (w : World) : Calls Tryz.prog 15 #[V k n s, V k n s] w fun e w' => e = .returned (.bool true) ∧ Below w.heap.size w w' := by
  go_enter Tryz.func15, Tryz.ntmps15
  go_wp2
  go_ret
  exact ⟨rfl, bels2 w _ _⟩
theorem same_1 (k n : Int) (s : ByteArray) (k2 n2 : Int) (s2 : ByteArray) (w : World) (h : ¬ k = k2) : Calls Tryz.prog 15 #[V k n s, V k2 n2 s2] w fun e w' => e = .returned (.bool false) ∧ Below w.heap.size w w' := by
  go_enter Tryz.func15, Tryz.ntmps15
  go_wp2
  go_ret
  exact ⟨rfl, bels2 w _ _⟩
theorem same_2 (k n m : Int) (s t : ByteArray) (w : World) (h : ¬ n = m) : Calls Tryz.prog 15 #[V k n s, V k m t] w fun e w' => e = .returned (.bool false) ∧ Below w.heap.size w w' := by
  go_enter Tryz.func15, Tryz.ntmps15
  go_wp2
  go_ret
  exact ⟨rfl, bels2 w _ _⟩
theorem same_3 (k n : Int) (s t : ByteArray) (w : World) (h : ¬ s.toList = t.toList) : Calls Tryz.prog 15 #[V k n s, V k n t] w fun e w' => e = .returned (.bool false) ∧ Below w.heap.size w w' := by
  go_enter Tryz.func15, Tryz.ntmps15
  go_wp2
  go_ret
  exact ⟨rfl, bels2 w _ _⟩
theorem tl_inj {a b : ByteArray} (h : a.toList = b.toList) : a = b := by
  rw [ByteArray.toList_eq, ByteArray.toList_eq] at h
  cases a; cases b
  simpa using Array.toList_inj.1 h
theorem vl_ext {v u : Vl} (h1 : v.k = u.k) (h2 : v.n = u.n) (h3 : v.s = u.s) : v = u := by
  cases v; cases u; simp_all
/-- values.Same of any two values. -/
theorem same_any (v u : Vl) (w : World) : ∃ c : Bool, (c = true ↔ v = u) ∧ ∀ w, Calls Tryz.prog 15 #[.agg (vcs v), .agg (vcs u)] w fun e w' => e = .returned (.bool c) ∧ Below w.heap.size w w' := by
  obtain ⟨k, n, s⟩ := v
  obtain ⟨k2, n2, s2⟩ := u
  by_cases h1 : k = k2
  · subst h1
    by_cases h2 : n = n2
    · subst h2
      by_cases h3 : s.toList = s2.toList
      · obtain rfl := tl_inj h3
        exact ⟨true, ⟨(fun _ => rfl), (fun _ => rfl)⟩, fun w => same_t _ _ _ w⟩
      · exact ⟨false, ⟨(fun h => by cases h), (fun h => absurd (congrArg (fun x : Vl => x.s.toList) h) h3)⟩, fun w => same_3 _ _ _ _ w h3⟩
    · exact ⟨false, ⟨(fun h => by cases h), (fun h => absurd (congrArg Vl.n h) h2)⟩, fun w => same_2 _ _ _ _ _ w h2⟩
  · exact ⟨false, ⟨(fun h => by cases h), (fun h => absurd (congrArg Vl.k h) h1)⟩, fun w => same_1 _ _ _ _ _ _ w h1⟩
/-- values.Number of a number. -/
theorem number_3' (n : Int) (s : ByteArray) (w : World) : Calls Tryz.prog 86 #[V 3 n s] w fun e w' => e = .returned (.tuple #[.int .i64 n, .bool true]) ∧ Below w.heap.size w w' := by
  go_enter Tryz.func86, Tryz.ntmps86
  go_wp2
  go_ret2
  exact ⟨rfl, ball _ _⟩
theorem number_3 (n : Int) (s : ByteArray) (w : World) : Calls Tryz.prog 86 #[.agg (vcs ⟨3, n, s⟩)] w fun e w' => e = .returned (.tuple #[.int .i64 n, .bool true]) ∧ Below w.heap.size w w' := number_3' n s w
/-- '==' of two values. -/
def eqV (a b : Vl) : Bool := a.k == b.k && (a.n == b.n && a.s.toList == b.s.toList)
theorem eqV_iff {a b : Vl} : eqV a b = true ↔ a = b := by
  obtain ⟨ak, an, az⟩ := a
  obtain ⟨bk, bn, bz⟩ := b
  simp only [eqV, Bool.and_eq_true, beq_iff_eq, Vl.mk.injEq]
  exact ⟨fun ⟨h1, h2, h3⟩ => ⟨h1, h2, tl_inj h3⟩, fun ⟨h1, h2, h3⟩ => ⟨h1, h2, by rw [h3]⟩⟩
theorem run_eqV (d : Nat) (k n k2 n2 : Int) (s s2 : ByteArray) (w : World) : (Op.equalIn (d + 2) 23 (.agg #[.int .i64 k, .int .i64 n, .string s]) (.agg #[.int .i64 k2, .int .i64 n2, .string s2])).run Tryz.prog w = .ok (eqV ⟨k, n, s⟩ ⟨k2, n2, s2⟩) w := by
  unfold eqV
  by_cases h1 : k = k2
  · by_cases h2 : n = n2
    · by_cases h3 : s.toList = s2.toList
      · simp [go_sem, h1, h2, h3]
      · simp [go_sem, h1, h2, h3]
    · simp [go_sem, h1, h2]
  · simp [go_sem, h1]
theorem run_eqVa (a b : Vl) (c : Bool) (h : eqV a b = c) (w : World) : (Op.equalIn 10000 23 (.agg (vcs a)) (.agg (vcs b))).run Tryz.prog w = .ok c w := by
  rw [← h]
  exact run_eqV 9998 a.k a.n b.k b.n a.s b.s w
/-- Blocks that hold values, in a world that has grown out of another. -/
structure Has (L : List (Nat × Vl)) (w0 w : World) : Prop where
  below : Below w0.heap.size w0 w
  blk : ∀ p ∈ L, Blk w p.1 (vcs p.2) 23
theorem Has.nil (w : World) : Has [] w w := ⟨Below.refl _ _, fun p h => by cases h⟩
theorem Has.call {L : List (Nat × Vl)} {w0 w w' : World} (h : Has L w0 w) (hb : Below w.heap.size w w') : Has L w0 w' := ⟨bnext h.below hb, fun p hp => (h.blk p hp).call hb⟩
theorem Has.new {L : List (Nat × Vl)} {w0 w : World} (h : Has L w0 w) (v : Vl) : Has ((w.heap.size, v) :: L) w0 (w.alloc (.cells (vcs v) 23)) := ⟨bl_alloc h.below, fun p hp => by
  rcases List.mem_cons.1 hp with rfl | hp
  · exact Blk.new _ _ _
  · exact (h.blk p hp).old _⟩
theorem Has.drew {L : List (Nat × Vl)} {w0 w : World} (h : Has L w0 w) : Has L w0 w.drew := ⟨h.below.drew, h.blk⟩
theorem Has.at {L : List (Nat × Vl)} {w0 w : World} (h : Has L w0 w) (i : Nat) {b : Nat} {v : Vl} (hi : L[i]? = some (b, v)) : Blk w b (vcs v) 23 := h.blk (b, v) (List.mem_of_getElem? hi)
end Go.Proofs.YthfgicdpbbpnjaaGreat.Ops
