/-
  Three sets of scopes beside each other: the program's two and the reference's.
-/
import Derived.Test.YtglnihecgjfkiaaScRN
namespace Go.Proofs.Ytglnihecgjfkiaa.Sc
open Go Go.RowKit Go.Maps
set_option linter.unusedVariables false
set_option linter.unusedSimpArgs false
attribute [local irreducible] vcs pcs

abbrev KL := List (Nat × Array Value × TypeId)
def J (w0 : World) (s o r : Nat) (S T U : List Sco) (K : KL) (w : World) : Prop := ∃ X Y Z : Nat → Prop, PIs w0.heap.size X w s S ∧ PIs w0.heap.size Y w o T ∧ RIs w0.heap.size Z w r U ∧ (∀ b, X b → ¬ Y b) ∧ (∀ b, X b → ¬ Z b) ∧ (∀ b, Y b → ¬ Z b) ∧ Below w0.heap.size w0 w ∧ ∀ p ∈ K, Blk w p.1 p.2.1 p.2.2 ∧ ¬ X p.1 ∧ ¬ Y p.1 ∧ ¬ Z p.1
section
variable {w0 w w' : World} {s o r : Nat} {S T U : List Sco} {K : KL}
theorem own_mono {base base' : Nat} {e : TypeId} {size n : Nat} {v : Value} {xs : List Value} (h : w.ownsRow base e size v n xs) (hb : base' ≤ base) : w.ownsRow base' e size v n xs :=
  ⟨h.1, h.2.imp id fun ⟨g, cap, cur, e1, h1, q⟩ => ⟨g, cap, cur, e1, Nat.le_trans hb h1, q⟩⟩
theorem PIs.mono {base base' : Nat} {X : Nat → Prop} {hb : Nat} (h : PIs base X w hb S) (hb' : base' ≤ base) : PIs base' X w hb S := by
  obtain ⟨sb, mb, vb, a, c, k⟩ := h
  exact ⟨sb, mb, vb, a, c, k.head, own_mono k.row hb', k.sco, k.par, k.map, k.var, k.vinj, k.minj, fun b hb => ⟨Nat.le_trans hb' (k.low b hb).1, (k.low b hb).2⟩, k.xh, k.xr, k.xs, k.xm, k.xv⟩
theorem RIs.mono {base base' : Nat} {X : Nat → Prop} {rb : Nat} (h : RIs base X w rb S) (hb' : base' ≤ base) : RIs base' X w rb S := by
  obtain ⟨ap, cp, al, cl, hv, k⟩ := h
  exact ⟨ap, cp, al, cl, hv, k.head, own_mono k.prow hb', own_mono k.lrow hb', fun i sc hi => own_mono (k.vrow i sc hi) hb', k.par, k.inj, fun b hb => ⟨Nat.le_trans hb' (k.low b hb).1, (k.low b hb).2⟩, Nat.le_trans hb' k.lowb, k.xh, k.xp, k.xl, k.xv⟩
theorem RIs.step {base : Nat} {X Y Y' : Nat → Prop} {rb : Nat} (h : RIs base X w rb S) (k : Step Y Y' w w') (hd : ∀ b, X b → ¬ Y b) : RIs base X w' rb S := h.same (fun b hx => k.stay b (h.low b hx).2 (hd b hx)) k.fr.size
theorem J.bel (h : J w0 s o r S T U K w) : Below w0.heap.size w0 w := by
  obtain ⟨X, Y, Z, _, _, _, _, _, _, h7, _⟩ := h
  exact h7
theorem J.blk (h : J w0 s o r S T U K w) {b : Nat} {cs : Array Value} {t : TypeId} (hm : (b, cs, t) ∈ K) : Blk w b cs t := by
  obtain ⟨X, Y, Z, _, _, _, _, _, _, _, h8⟩ := h
  exact (h8 _ hm).1
/-- Nothing of theirs has turned. -/
theorem J.below (h : J w0 s o r S T U K w) (hb : Below w.heap.size w w') : J w0 s o r S T U K w' := by
  obtain ⟨X, Y, Z, h1, h2, h3, h4, h5, h6, h7, h8⟩ := h
  exact ⟨X, Y, Z, h1.below hb, h2.below hb, h3.same (fun b hx => hb.block b (h3.low b hx).2) hb.size, h4, h5, h6, h7.trans (hb.mono h7.size), fun p hp => ⟨(h8 p hp).1.call hb, (h8 p hp).2⟩⟩
theorem J.drew (h : J w0 s o r S T U K w) : J w0 s o r S T U K w.drew := h.below (Below.refl _ w).drew
theorem J.alloc (h : J w0 s o r S T U K w) (ob : Obj) : J w0 s o r S T U K (w.alloc ob) := h.below ((Below.refl _ w).alloc (Nat.le_refl _) ob)
theorem J.new (h : J w0 s o r S T U K w) (cs : Array Value) (t : TypeId) : J w0 s o r S T U ((w.heap.size, cs, t) :: K) (w.alloc (.cells cs t)) := by
  obtain ⟨X, Y, Z, h1, h2, h3, h4, h5, h6, h7, h8⟩ := h.alloc (.cells cs t)
  obtain ⟨X', Y', Z', k1, k2, k3, k4, k5, k6, k7, k8⟩ := h
  have hb : Below w.heap.size w (w.alloc (.cells cs t)) := (Below.refl _ w).alloc (Nat.le_refl _) _
  refine ⟨X', Y', Z', k1.below hb, k2.below hb, k3.same (fun b hx => hb.block b (k3.low b hx).2) hb.size, k4, k5, k6, k7.trans (hb.mono k7.size), fun p hp => ?_⟩
  rcases List.mem_cons.1 hp with rfl | hp
  · exact ⟨Blk.new _ _ _, fun hx => by have := (k1.low _ hx).2; omega, fun hx => by have := (k2.low _ hx).2; omega, fun hx => by have := (k3.low _ hx).2; omega⟩
  · exact ⟨(k8 p hp).1.call hb, (k8 p hp).2⟩
/-- What is known of fewer. -/
theorem J.less (h : J w0 s o r S T U K w) {K' : KL} (hk : ∀ p ∈ K', p ∈ K) : J w0 s o r S T U K' w := by
  obtain ⟨X, Y, Z, h1, h2, h3, h4, h5, h6, h7, h8⟩ := h
  exact ⟨X, Y, Z, h1, h2, h3, h4, h5, h6, h7, fun p hp => h8 p (hk p hp)⟩
theorem J.stepS {X X' Y Z : Nat → Prop} {S' : List Sco} (h1 : PIs w0.heap.size X w s S) (h2 : PIs w0.heap.size Y w o T) (h3 : RIs w0.heap.size Z w r U) (h4 : ∀ b, X b → ¬ Y b) (h5 : ∀ b, X b → ¬ Z b) (h6 : ∀ b, Y b → ¬ Z b) (h7 : Below w0.heap.size w0 w) (h8 : ∀ p ∈ K, Blk w p.1 p.2.1 p.2.2 ∧ ¬ X p.1 ∧ ¬ Y p.1 ∧ ¬ Z p.1)
    (k1 : PIs w0.heap.size X' w' s S') (k2 : Step X X' w w') : J w0 s o r S' T U K w' := by
  have hm : ∀ b, X' b → b < w.heap.size → X b := fun b hx hb => (k2.more b hx).elim id fun h => by omega
  refine ⟨X', Y, Z, k1, h2.step k2 fun b hy hx => h4 b hx hy, h3.step k2 fun b hz hx => h5 b hx hz, fun b hx hy => h4 b (hm b hx (h2.low b hy).2) hy, fun b hx hz => h5 b (hm b hx (h3.low b hz).2) hz, h6, h7.trans (k2.toBelow h7.size fun b hb => (h1.low b hb).1), fun p hp => ?_⟩
  obtain ⟨q1, q2, q3⟩ := h8 p hp
  exact ⟨k2.blk q1 q2, fun hx => q2 (hm _ hx q1.lt), q3⟩
theorem J.stepO {X Y Y' Z : Nat → Prop} {T' : List Sco} (h1 : PIs w0.heap.size X w s S) (h2 : PIs w0.heap.size Y w o T) (h3 : RIs w0.heap.size Z w r U) (h4 : ∀ b, X b → ¬ Y b) (h5 : ∀ b, X b → ¬ Z b) (h6 : ∀ b, Y b → ¬ Z b) (h7 : Below w0.heap.size w0 w) (h8 : ∀ p ∈ K, Blk w p.1 p.2.1 p.2.2 ∧ ¬ X p.1 ∧ ¬ Y p.1 ∧ ¬ Z p.1)
    (k1 : PIs w0.heap.size Y' w' o T') (k2 : Step Y Y' w w') : J w0 s o r S T' U K w' := by
  have hm : ∀ b, Y' b → b < w.heap.size → Y b := fun b hx hb => (k2.more b hx).elim id fun h => by omega
  refine ⟨X, Y', Z, h1.step k2 fun b hx hy => h4 b hx hy, k1, h3.step k2 fun b hz hy => h6 b hy hz, fun b hx hy => h4 b hx (hm b hy (h1.low b hx).2), h5, fun b hy hz => h6 b (hm b hy (h3.low b hz).2) hz, h7.trans (k2.toBelow h7.size fun b hb => (h2.low b hb).1), fun p hp => ?_⟩
  obtain ⟨q1, q2, q3, q4⟩ := h8 p hp
  exact ⟨k2.blk q1 q3, q2, fun hx => q3 (hm _ hx q1.lt), q4⟩
theorem J.stepR {X Y Z Z' : Nat → Prop} {U' : List Sco} (h1 : PIs w0.heap.size X w s S) (h2 : PIs w0.heap.size Y w o T) (h3 : RIs w0.heap.size Z w r U) (h4 : ∀ b, X b → ¬ Y b) (h5 : ∀ b, X b → ¬ Z b) (h6 : ∀ b, Y b → ¬ Z b) (h7 : Below w0.heap.size w0 w) (h8 : ∀ p ∈ K, Blk w p.1 p.2.1 p.2.2 ∧ ¬ X p.1 ∧ ¬ Y p.1 ∧ ¬ Z p.1)
    (k1 : RIs w0.heap.size Z' w' r U') (k2 : Step Z Z' w w') : J w0 s o r S T U' K w' := by
  have hm : ∀ b, Z' b → b < w.heap.size → Z b := fun b hx hb => (k2.more b hx).elim id fun h => by omega
  refine ⟨X, Y, Z', h1.step k2 fun b hx hz => h5 b hx hz, h2.step k2 fun b hy hz => h6 b hy hz, k1, h4, fun b hx hz => h5 b hx (hm b hz (h1.low b hx).2), fun b hy hz => h6 b hy (hm b hz (h2.low b hy).2), h7.trans (k2.toBelow h7.size fun b hb => (h3.low b hb).1), fun p hp => ?_⟩
  obtain ⟨q1, q2, q3, q4⟩ := h8 p hp
  exact ⟨k2.blk q1 q4, q2, q3, fun hx => q4 (hm _ hx q1.lt)⟩
theorem J.sMake (h : J w0 s o r S T U K w) (p : Int) {n : Nat} (hl : Lim n S) (hn : n ≤ 900) : Calls Try.prog 10 #[ptr s, .int .i64 p] w fun e w' => e = .returned (.int .i64 (makeF S p).1) ∧ J w0 s o r (makeF S p).2 T U K w' := by
  have h0 := h
  obtain ⟨X, Y, Z, h1, h2, h3, h4, h5, h6, h7, h8⟩ := h
  have hh := h1
  obtain ⟨sb, mb, vb, a, c, k⟩ := hh
  refine (make_any k p (by have := hl.scopes; omega)).mono ?_
  rintro e w' ⟨rfl, q1, q2⟩
  exact ⟨rfl, J.stepS h1 h2 h3 h4 h5 h6 h7 h8 q1 q2⟩
theorem J.sLet (h : J w0 s o r S T U K w) (env : Int) (nm : ByteArray) (fx : Bool) (hs : Fine nm) {n : Nat} (hl : Lim n S) (hn : n ≤ 900) : Calls Try.prog 9 #[ptr s, .int .i64 env, .string nm, .bool fx] w fun e w' => e = .returned (.bool (letF S env nm fx).1) ∧ J w0 s o r (letF S env nm fx).2 T U K w' := by
  have h0 := h
  obtain ⟨X, Y, Z, h1, h2, h3, h4, h5, h6, h7, h8⟩ := h
  have hh := h1
  obtain ⟨sb, mb, vb, a, c, k⟩ := hh
  refine (let_any k env hs fx (fun i sc hi => by have := hl.vars i sc hi; omega)).mono ?_
  rintro e w' ⟨rfl, q1, q2⟩
  exact ⟨rfl, J.stepS h1 h2 h3 h4 h5 h6 h7 h8 q1 q2⟩
theorem J.sBegin (h : J w0 s o r S T U K w) (env : Int) (nm : ByteArray) (v : Vl) (hs : Fine nm) {n : Nat} (hl : Lim n S) (hn : n ≤ 900) : Calls Try.prog 13 #[ptr s, .int .i64 env, .string nm, .agg (vcs v)] w fun e w' => e = .returned (.bool (beginF S env nm v).1) ∧ J w0 s o r (beginF S env nm v).2 T U K w' := by
  have h0 := h
  obtain ⟨X, Y, Z, h1, h2, h3, h4, h5, h6, h7, h8⟩ := h
  have hh := h1
  obtain ⟨sb, mb, vb, a, c, k⟩ := hh
  refine (begin_any k env hs v).mono ?_
  rintro e w' ⟨rfl, q1, q2⟩
  exact ⟨rfl, J.stepS h1 h2 h3 h4 h5 h6 h7 h8 q1 q2⟩
theorem J.sSet (h : J w0 s o r S T U K w) (env : Int) (nm : ByteArray) (v : Vl) (hs : Fine nm) {n : Nat} (hl : Lim n S) (hn : n ≤ 900) : Calls Try.prog 17 #[ptr s, .int .i64 env, .string nm, .agg (vcs v)] w fun e w' => e = .returned (.int .i64 (setF S env nm v).1) ∧ J w0 s o r (setF S env nm v).2 T U K w' := by
  have h0 := h
  obtain ⟨X, Y, Z, h1, h2, h3, h4, h5, h6, h7, h8⟩ := h
  have hh := h1
  obtain ⟨sb, mb, vb, a, c, k⟩ := hh
  refine (set_any k env hs v).mono ?_
  rintro e w' ⟨rfl, q1, q2⟩
  exact ⟨rfl, J.stepS h1 h2 h3 h4 h5 h6 h7 h8 q1 q2⟩
theorem J.sGet (h : J w0 s o r S T U K w) (env : Int) (nm : ByteArray) (hs : Fine nm) {n : Nat} (hl : Lim n S) (hn : n ≤ 900) : Calls Try.prog 15 #[ptr s, .int .i64 env, .string nm] w fun e w' => e = .returned (.tuple #[.agg (vcs (getF S env nm).1), .int .i64 (getF S env nm).2]) ∧ J w0 s o r S T U K w' := by
  have h0 := h
  obtain ⟨X, Y, Z, h1, h2, h3, h4, h5, h6, h7, h8⟩ := h
  have hh := h1
  obtain ⟨sb, mb, vb, a, c, k⟩ := hh
  refine (get_any k env hs).mono ?_
  rintro e w' ⟨rfl, hb⟩
  exact ⟨rfl, h0.below hb⟩
theorem J.oMake (h : J w0 s o r S T U K w) (p : Int) {n : Nat} (hl : Lim n T) (hn : n ≤ 900) : Calls Try.prog 10 #[ptr o, .int .i64 p] w fun e w' => e = .returned (.int .i64 (makeF T p).1) ∧ J w0 s o r S (makeF T p).2 U K w' := by
  have h0 := h
  obtain ⟨X, Y, Z, h1, h2, h3, h4, h5, h6, h7, h8⟩ := h
  have hh := h2
  obtain ⟨sb, mb, vb, a, c, k⟩ := hh
  refine (make_any k p (by have := hl.scopes; omega)).mono ?_
  rintro e w' ⟨rfl, q1, q2⟩
  exact ⟨rfl, J.stepO h1 h2 h3 h4 h5 h6 h7 h8 q1 q2⟩
theorem J.oLet (h : J w0 s o r S T U K w) (env : Int) (nm : ByteArray) (fx : Bool) (hs : Fine nm) {n : Nat} (hl : Lim n T) (hn : n ≤ 900) : Calls Try.prog 9 #[ptr o, .int .i64 env, .string nm, .bool fx] w fun e w' => e = .returned (.bool (letF T env nm fx).1) ∧ J w0 s o r S (letF T env nm fx).2 U K w' := by
  have h0 := h
  obtain ⟨X, Y, Z, h1, h2, h3, h4, h5, h6, h7, h8⟩ := h
  have hh := h2
  obtain ⟨sb, mb, vb, a, c, k⟩ := hh
  refine (let_any k env hs fx (fun i sc hi => by have := hl.vars i sc hi; omega)).mono ?_
  rintro e w' ⟨rfl, q1, q2⟩
  exact ⟨rfl, J.stepO h1 h2 h3 h4 h5 h6 h7 h8 q1 q2⟩
theorem J.rMake (h : J w0 s o r S T U K w) (p : Int) {n : Nat} (hl : Lim n U) (hn : n ≤ 900) : Calls Try.prog 11 #[ptr r, .int .i64 p] w fun e w' => e = .returned (.int .i64 (makeF U p).1) ∧ J w0 s o r S T (makeF U p).2 K w' := by
  have h0 := h
  obtain ⟨X, Y, Z, h1, h2, h3, h4, h5, h6, h7, h8⟩ := h
  have hh := h3
  obtain ⟨ap, cp, al, cl, hv, k⟩ := hh
  refine (rmake_any k p (by have := hl.scopes; omega)).mono ?_
  rintro e w' ⟨rfl, X', q1, q2⟩
  exact ⟨rfl, J.stepR h1 h2 h3 h4 h5 h6 h7 h8 q1 q2⟩
theorem J.rLet (h : J w0 s o r S T U K w) (env : Int) (nm : ByteArray) (fx : Bool) {n : Nat} (hl : Lim n U) (hn : n ≤ 900) : Calls Try.prog 12 #[ptr r, .int .i64 env, .string nm, .bool fx] w fun e w' => e = .returned (.bool (letF U env nm fx).1) ∧ J w0 s o r S T (letF U env nm fx).2 K w' := by
  have h0 := h
  obtain ⟨X, Y, Z, h1, h2, h3, h4, h5, h6, h7, h8⟩ := h
  have hh := h3
  obtain ⟨ap, cp, al, cl, hv, k⟩ := hh
  refine (rlet_any k env nm fx (fun i sc hi => by have := hl.vars i sc hi; omega)).mono ?_
  rintro e w' ⟨rfl, X', q1, q2⟩
  exact ⟨rfl, J.stepR h1 h2 h3 h4 h5 h6 h7 h8 q1 q2⟩
theorem J.rBegin (h : J w0 s o r S T U K w) (env : Int) (nm : ByteArray) (v : Vl) {n : Nat} (hl : Lim n U) (hn : n ≤ 900) : Calls Try.prog 14 #[ptr r, .int .i64 env, .string nm, .agg (vcs v)] w fun e w' => e = .returned (.bool (beginF U env nm v).1) ∧ J w0 s o r S T (beginF U env nm v).2 K w' := by
  have h0 := h
  obtain ⟨X, Y, Z, h1, h2, h3, h4, h5, h6, h7, h8⟩ := h
  have hh := h3
  obtain ⟨ap, cp, al, cl, hv, k⟩ := hh
  refine (rbegin_any k env nm v (fun i sc hi => by have := hl.vars i sc hi; omega)).mono ?_
  rintro e w' ⟨rfl, X', q1, q2⟩
  exact ⟨rfl, J.stepR h1 h2 h3 h4 h5 h6 h7 h8 q1 q2⟩
theorem J.rSet (h : J w0 s o r S T U K w) (env : Int) (nm : ByteArray) (v : Vl) {n : Nat} (hl : Lim n U) (hn : n ≤ 900) : Calls Try.prog 18 #[ptr r, .int .i64 env, .string nm, .agg (vcs v)] w fun e w' => e = .returned (.int .i64 (setF U env nm v).1) ∧ J w0 s o r S T (setF U env nm v).2 K w' := by
  have h0 := h
  obtain ⟨X, Y, Z, h1, h2, h3, h4, h5, h6, h7, h8⟩ := h
  have hh := h3
  obtain ⟨ap, cp, al, cl, hv, k⟩ := hh
  refine (rset_any k env nm v (fun i sc hi => by have := hl.vars i sc hi; omega)).mono ?_
  rintro e w' ⟨rfl, X', q1, q2⟩
  exact ⟨rfl, J.stepR h1 h2 h3 h4 h5 h6 h7 h8 q1 q2⟩
theorem J.rGet (h : J w0 s o r S T U K w) (env : Int) (nm : ByteArray) {n : Nat} (hl : Lim n U) (hn : n ≤ 900) : Calls Try.prog 16 #[ptr r, .int .i64 env, .string nm] w fun e w' => e = .returned (.tuple #[.agg (vcs (getF U env nm).1), .int .i64 (getF U env nm).2]) ∧ J w0 s o r S T U K w' := by
  have h0 := h
  obtain ⟨X, Y, Z, h1, h2, h3, h4, h5, h6, h7, h8⟩ := h
  have hh := h3
  obtain ⟨ap, cp, al, cl, hv, k⟩ := hh
  refine (rget_any k env nm (fun i sc hi => by have := hl.vars i sc hi; omega)).mono ?_
  rintro e w' ⟨rfl, hb⟩
  exact ⟨rfl, h0.below hb⟩
end
end Go.Proofs.Ytglnihecgjfkiaa.Sc
