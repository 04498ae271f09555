/-
  Three appends and a key that is laid at some time among them: every order.
-/
import Derived.Test.YtlhgiihooalanaaDoorHpROrd
import Derived.Test.YtlhgiihooalanaaDoorHpMake
namespace Go.Proofs.YtlhgiihooalanaaDoor.Hp
open Go Go.RowKit Go.Maps Go.Proofs.YtlhgiihooalanaaDoor.Keys
set_option linter.unusedVariables false
set_option linter.unusedSimpArgs false
def App (v s : Value) (w : World) (v' : Value) (w' : World) : Prop := (Builtin.append_ #[22, 22] 22 #[v, s]).run Tryd.prog w = .ok v' w'
def kobj (K : KV) : Obj := .cells #[.string K.1, .int .i64 K.2] 35
section
variable {w0 w u u' : World} {base g L c r n : Nat} {a : Option Addr} {O : List KV} {K : KV} {v : Value} {xs : List Value}
/-- append of a key that lies somewhere. -/
theorem run_at (hv : u.ownsRow base 35 2 v n xs) (hX : Blk u g #[.string K.1, .int .i64 K.2] 35) (hn : n ≤ 3000000) (hb : base ≤ u.heap.size) :
    ∃ v' u', App v (.slice (some ⟨g, 0, none⟩) 1 1) u v' u' ∧ u'.ownsRow base 35 2 v' (n + 1) (xs ++ [.string K.1, .int .i64 K.2]) ∧ u.grownBy u' v.ownBlock := by
  obtain ⟨i26, hi26, hz260, hz261, hz262⟩ := info_parts info26
  obtain ⟨v', w', h1, h2, h3, _, h4⟩ := run_append_own_at (P := Tryd.prog) u base 22 22 35 i26 (.agg #[.string ⟨#[]⟩, .int .i64 0]) 2 24 Tryd.underlying22 hi26 hz260 hz261 hz262 rfl (by decide) v n xs hv ⟨g, 0, none⟩ 1 1 [.string K.1, .int .i64 K.2] rfl (fun j x hj => by
    match j, hj with
    | 0, hj => simp at hj; subst hj; exact hX.cell 0
    | 1, hj => simp at hj; subst hj; exact hX.cell 1) (two_cells _ _) (by unfold maxLen; omega) (by omega) hb
  exact ⟨v', w', h1, h2, h3⟩
/-- Between two steps: the list that is read. -/
structure Rd (w0 : World) (base : Nat) (a : Option Addr) (L c : Nat) (O : List KV) (u : World) : Prop where
  row : u.ownsRow base 35 2 (.slice a L c) L (cellsK O)
  low : ∀ k, (Value.slice a L c).ownBlock = some k → k < w0.heap.size
  below : Below w0.heap.size w0 u
theorem Rd.start (h : w0.ownsRow base 35 2 (.slice a L c) L (cellsK O)) : Rd w0 base a L c O w0.drew := ⟨h.drew, fun k hk => (h.lt k hk).2, (Below.refl _ _).drew⟩
theorem Rd.alloc (h : Rd w0 base a L c O u) (o : Obj) : Rd w0 base a L c O (u.alloc o) := ⟨h.row.alloc o, h.low, h.below.alloc h.below.size o⟩
theorem Rd.grown (h : Rd w0 base a L c O u) {row : Option Nat} (hg : u.grownBy u' row) (hr : ∀ k, row = some k → w0.heap.size ≤ k) : Rd w0 base a L c O u' := by
  refine ⟨h.row.kept hg ?_, h.low, h.below.grown hg h.below.size hr⟩
  cases ho : (Value.slice a L c).ownBlock with
  | none => exact .inl rfl
  | some k =>
    right
    intro e
    have := h.low k ho
    have := hr k e.symm
    omega
theorem stepA1 (h : Rd w0 base a L c O u) (hr : r ≤ L) (hL : L ≤ 1000) : ∃ v u', App (.slice none 0 0) (.slice a r c) u v u' ∧ Rd w0 base a L c O u' ∧ u'.ownsRow w0.heap.size 35 2 v r (cellsK (O.take r)) ∧ u.grownBy u' none ∧ (v.ownBlock = none ∨ v.ownBlock = some u.heap.size) := by
  have hh := own_head h.row hr
  rw [cellsK_take] at hh
  obtain ⟨v, u', h1, h2, h3, h4⟩ := run_src (World.ownsRow_nil u w0.heap.size 35 2) hh (by omega) h.below.size
  rw [Nat.zero_add, List.nil_append] at h2
  exact ⟨v, u', h1, h.grown h3 (fun k hk => by cases hk), h2, h3, h4⟩
theorem stepA2 (h : Rd w0 base a L c O u) (hv : u.ownsRow w0.heap.size 35 2 v r xs) (hr : r < L) (hL : L ≤ 1000) : ∃ v' u', App v (from_ a L c (r + 1)) u v' u' ∧ Rd w0 base a L c O u' ∧ u'.ownsRow w0.heap.size 35 2 v' (r + (L - (r + 1))) (xs ++ cellsK (O.drop (r + 1))) ∧ u.grownBy u' v.ownBlock := by
  obtain ⟨v', u', h1, h2, h3, h4⟩ := run_tail hv h.row (show r + 1 ≤ L by omega) (by omega) h.below.size
  exact ⟨v', u', h1, h.grown h3 (fun k hk => (hv.lt k hk).1), h2, h3⟩
/-- What the three appends leave. -/
def OutP (w0 : World) (O : List KV) (L r : Nat) (K : KV) (v : Value) (u : World) : Prop := u.ownsRow w0.heap.size 35 2 v L (cellsK (O.take r ++ O.drop (r + 1) ++ [K])) ∧ Below w0.heap.size w0 u
theorem stepA3 (hb : Below w0.heap.size w0 u) (hv : u.ownsRow w0.heap.size 35 2 v (r + (L - (r + 1))) (cellsK (O.take r) ++ cellsK (O.drop (r + 1)))) (hX : Blk u g #[.string K.1, .int .i64 K.2] 35) (hr : r < L) (hL : L ≤ 1000) : ∃ v' u', App v (.slice (some ⟨g, 0, none⟩) 1 1) u v' u' ∧ OutP w0 O L r K v' u' := by
  obtain ⟨v', u', h1, h2, h3⟩ := run_at hv hX (by omega) hb.size
  refine ⟨v', u', h1, ?_, hb.grown h3 hb.size (fun k hk => (hv.lt k hk).1)⟩
  rw [show r + (L - (r + 1)) + 1 = L by omega] at h2
  rw [cellsK_append, cellsK_append, cellsK_one]
  exact h2
theorem blk_x (h : u.grownBy u' v.ownBlock) (hv : v.ownBlock = none ∨ v.ownBlock = some g) (hX : Blk u n #[.string K.1, .int .i64 K.2] 35) (hne : n ≠ g) : Blk u' n #[.string K.1, .int .i64 K.2] 35 :=
  hX.grown h (by
    rcases hv with hv | hv
    · rw [hv]; simp
    · rw [hv]; simp; exact hne)
/-- Every order of the three appends and the key that is laid. -/
theorem out_steps (h : w0.ownsRow base 35 2 (.slice a L c) L (cellsK O)) (hl : O.length = L) (hr : r < L) (hL : L ≤ 1000) (K : KV) :
    ∃ v1 u1 p1 q1 p2 q2 p3 q3 s2 t2 s3 t3 v2 u2 v3 u3,
      App (.slice none 0 0) (.slice a r c) w0.drew v1 u1 ∧ App (.slice none 0 0) (.slice a r c) (w0.drew.alloc (kobj K)) p1 q1 ∧
      App p1 (from_ a L c (r + 1)) q1 p2 q2 ∧ App p2 (.slice (some ⟨w0.drew.heap.size, 0, none⟩) 1 1) q2 p3 q3 ∧
      App v1 (from_ a L c (r + 1)) (u1.alloc (kobj K)) s2 t2 ∧ App s2 (.slice (some ⟨u1.heap.size, 0, none⟩) 1 1) t2 s3 t3 ∧
      App v1 (from_ a L c (r + 1)) u1 v2 u2 ∧ App v2 (.slice (some ⟨u2.heap.size, 0, none⟩) 1 1) (u2.alloc (kobj K)) v3 u3 ∧
      OutP w0 O L r K p3 q3 ∧ OutP w0 O L r K s3 t3 ∧ OutP w0 O L r K v3 u3 ∧ Rd w0 base a L c O u1 ∧ Rd w0 base a L c O u2 := by
  have h0 := Rd.start h
  obtain ⟨v1, u1, e1, r1, o1, g1, b1⟩ := stepA1 h0 (Nat.le_of_lt hr) hL
  obtain ⟨p1, q1, e2, r2, o2, g2, b2⟩ := stepA1 (h0.alloc (kobj K)) (Nat.le_of_lt hr) hL
  obtain ⟨p2, q2, e3, r3, o3, g3⟩ := stepA2 r2 o2 hr hL
  have x1 : Blk (w0.drew.alloc (kobj K)) w0.drew.heap.size #[.string K.1, .int .i64 K.2] 35 := Blk.new _ _ _
  have x2 := x1.grown g2 (by simp)
  have x3 := blk_x g3 b2 x2 (by simp)
  obtain ⟨p3, q3, e4, P1⟩ := stepA3 r3.below o3 x3 hr hL
  obtain ⟨s2, t2, e5, r5, o5, g5⟩ := stepA2 (r1.alloc (kobj K)) (o1.alloc _) hr hL
  have y1 : Blk (u1.alloc (kobj K)) u1.heap.size #[.string K.1, .int .i64 K.2] 35 := Blk.new _ _ _
  have y2 := y1.grown g5 (fun e => by have := (o1.lt _ e.symm).2; omega)
  obtain ⟨s3, t3, e6, P2⟩ := stepA3 r5.below o5 y2 hr hL
  obtain ⟨v2, u2, e7, r7, o7, g7⟩ := stepA2 r1 o1 hr hL
  obtain ⟨v3, u3, e8, P3⟩ := stepA3 (r7.alloc (kobj K)).below (o7.alloc _) (Blk.new u2 _ _) hr hL
  exact ⟨v1, u1, p1, q1, p2, q2, p3, q3, s2, t2, s3, t3, v2, u2, v3, u3, e1, e2, e3, e4, e5, e6, e7, e8, P1, P2, P3, r1, r7⟩
end
end Go.Proofs.YtlhgiihooalanaaDoor.Hp
