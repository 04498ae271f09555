/-
  The reference's SameValues and SameThing at equal objects; Big.
-/
import Derived.Test.YtlhgiihooalanaaHpClone
namespace Go.Proofs.Ytlhgiihooalanaa.Hp
open Go Go.RowKit Go.Maps Go.Shelf Go.Proofs.Ytlhgiihooalanaa.Keys
set_option linter.unusedVariables false
set_option linter.unusedSimpArgs false
attribute [local go_sem ↓] ldE ldT bxT bxO bdO alE alT stE stT
attribute [local irreducible] ecs tcs ocs

/-! ### '==' of one with itself -/
theorem run_eqVs (d : Nat) (k n : Int) (s : ByteArray) (w : World) : (Op.equalIn (d + 2) 23 (.agg #[.int .i64 k, .int .i64 n, .string s]) (.agg #[.int .i64 k, .int .i64 n, .string s])).run Try.prog w = .ok true w := by
  simp [go_sem]
theorem run_neV (k n : Int) (s : ByteArray) (w : World) : (binOp .neq 23 (.agg #[.int .i64 k, .int .i64 n, .string s]) (.agg #[.int .i64 k, .int .i64 n, .string s])).run Try.prog w = .ok (.bool false) w := by
  simp only [binOp]
  simp [Op.equal, Op.maxDepth, run_eqVs 9998]
theorem eqf_cons {P : Program} {w : World} {d : Nat} {xs ys : Array Value} {f : Field} {fs : List Field} {a b : Value} (hn : f.name ≠ "_") (ha : (part f.type xs f.offset).run P w = .ok a w) (hb : (part f.type ys f.offset).run P w = .ok b w)
    (h : (Op.equalIn d f.type a b).run P w = .ok true w) (ht : (Op.eqFields d xs ys fs).run P w = .ok true w) : (Op.eqFields d xs ys (f :: fs)).run P w = .ok true w := by
  simp only [Op.eqFields]
  rw [if_pos hn]
  simp only [Sem.run_bind, ha, hb, h, Result.andThen_ok, Sem.run_ite, Sem.run_pure, ht]
  simp
theorem eqf_nil {P : Program} {w : World} {d : Nat} {xs ys : Array Value} : (Op.eqFields d xs ys []).run P w = .ok true w := by simp [Op.eqFields]
section
attribute [local semireducible] ecs
theorem run_eqDs (m : Nat) (a : Ds) (w : World) : (Op.equalIn (m + 4) 38 (.agg (dcs a)) (.agg (dcs a))).run Try.prog w = .ok true w := by
  rw [run_equalIn_struct w (m + 3) 38 _ _ (by kernel_rfl) (by kernel_rfl)]
  simp only [Program.fieldsOf, Try.underlying38]
  have bb := fun x : Bool => (by have h := run_equalIn_bool' (P := Try.prog) w (m + 2) 4 x x Try.underlying4; rw [beq_self_eq_true] at h; exact h : (Op.equalIn (m + 3) 4 (.bool x) (.bool x)).run Try.prog w = .ok true w)
  refine eqf_cons (a := .bool a.hv) (b := .bool a.hv) (by decide) (by simp [go_sem, dcs]) (by simp [go_sem, dcs]) (bb _) ?_
  refine eqf_cons (a := .bool a.hg) (b := .bool a.hg) (by decide) (by simp [go_sem, dcs]) (by simp [go_sem, dcs]) (bb _) ?_
  refine eqf_cons (a := .bool a.hs) (b := .bool a.hs) (by decide) (by simp [go_sem, dcs]) (by simp [go_sem, dcs]) (bb _) ?_
  refine eqf_cons (a := .bool a.hw) (b := .bool a.hw) (by decide) (by simp [go_sem, dcs]) (by simp [go_sem, dcs]) (bb _) ?_
  refine eqf_cons (a := .bool a.he) (b := .bool a.he) (by decide) (by simp [go_sem, dcs]) (by simp [go_sem, dcs]) (bb _) ?_
  refine eqf_cons (a := .bool a.hc) (b := .bool a.hc) (by decide) (by simp [go_sem, dcs]) (by simp [go_sem, dcs]) (bb _) ?_
  refine eqf_cons (a := .agg #[.int .i64 a.v.k, .int .i64 a.v.n, .string a.v.s]) (b := .agg #[.int .i64 a.v.k, .int .i64 a.v.n, .string a.v.s]) (by decide) (by simp [go_sem, dcs]) (by simp [go_sem, dcs]) (run_eqVs (m + 1) _ _ _ w) ?_
  refine eqf_cons (a := .agg #[.int .i64 a.g.k, .int .i64 a.g.n, .string a.g.s]) (b := .agg #[.int .i64 a.g.k, .int .i64 a.g.n, .string a.g.s]) (by decide) (by simp [go_sem, dcs]) (by simp [go_sem, dcs]) (run_eqVs (m + 1) _ _ _ w) ?_
  refine eqf_cons (a := .agg #[.int .i64 a.s.k, .int .i64 a.s.n, .string a.s.s]) (b := .agg #[.int .i64 a.s.k, .int .i64 a.s.n, .string a.s.s]) (by decide) (by simp [go_sem, dcs]) (by simp [go_sem, dcs]) (run_eqVs (m + 1) _ _ _ w) ?_
  refine eqf_cons (a := .bool a.w) (b := .bool a.w) (by decide) (by simp [go_sem, dcs]) (by simp [go_sem, dcs]) (bb _) ?_
  refine eqf_cons (a := .bool a.e) (b := .bool a.e) (by decide) (by simp [go_sem, dcs]) (by simp [go_sem, dcs]) (bb _) ?_
  refine eqf_cons (a := .bool a.c) (b := .bool a.c) (by decide) (by simp [go_sem, dcs]) (by simp [go_sem, dcs]) (bb _) ?_
  exact eqf_nil
theorem run_eqKs (m : Nat) (s : ByteArray) (n : Int) (w : World) : (Op.equalIn (m + 2) 29 (.agg #[.string s, .int .i64 n]) (.agg #[.string s, .int .i64 n])).run Try.prog w = .ok true w := by
  simp [go_sem]
theorem run_eqEs (e : En) (w : World) : (Op.equalIn 10000 40 (.agg (ecs e)) (.agg (ecs e))).run Try.prog w = .ok true w := by
  rw [run_equalIn_struct w 9999 40 _ _ (by kernel_rfl) (by kernel_rfl)]
  simp only [Program.fieldsOf, Try.underlying40]
  refine eqf_cons (a := .agg #[.string e.ks, .int .i64 e.kn]) (b := .agg #[.string e.ks, .int .i64 e.kn]) (by decide) (by simp [go_sem, ecs]) (by simp [go_sem, ecs]) (run_eqKs 9997 e.ks e.kn w) ?_
  refine eqf_cons (a := .agg (dcs e.d)) (b := .agg (dcs e.d)) (by decide) (by simp [go_sem, ecs, dcs]) (by simp [go_sem, ecs, dcs]) (run_eqDs 9995 e.d w) ?_
  exact eqf_nil
end
theorem run_neE (e : En) (w : World) : (binOp .neq 40 (.agg (ecs e)) (.agg (ecs e))).run Try.prog w = .ok (.bool false) w := by
  simp only [binOp]
  simp [Op.equal, Op.maxDepth, run_eqEs]
theorem cellsV_at (l : List Vl) : ∀ (j : Nat) (v : Vl), l[j]? = some v → (cellsV l)[j * 3]? = some (.int .i64 v.k) ∧ (cellsV l)[j * 3 + 1]? = some (.int .i64 v.n) ∧ (cellsV l)[j * 3 + 2]? = some (.string v.s) := by
  induction l with
  | nil => intro j v h; simp at h
  | cons a r ih =>
    intro j v h
    have e : cellsV (a :: r) = .int .i64 a.k :: .int .i64 a.n :: .string a.s :: cellsV r := rfl
    cases j with
    | zero => simp at h; subst h; exact ⟨rfl, rfl, rfl⟩
    | succ j =>
      have := ih j v (by simpa using h)
      rw [e, show (j + 1) * 3 = j * 3 + 1 + 1 + 1 by omega]
      exact this
theorem VsAt.get {n₀ : Nat} {aa : Option Addr} {vs : List Vl} {w : World} (h : VsAt n₀ aa vs w) {j : Nat} {v : Vl} (hv : vs[j]? = some v) : ∃ b off, aa = some ⟨b, off, none⟩ ∧ w.cell? ⟨b, off + j * 3, none⟩ = some (.int .i64 v.k) ∧ w.cell? ⟨b, off + j * 3 + 1, none⟩ = some (.int .i64 v.n) ∧ w.cell? ⟨b, off + j * 3 + 2, none⟩ = some (.string v.s) := by
  rcases h with h | ⟨b, off, ha, _, hr⟩
  · subst h; simp at hv
  · obtain ⟨h0, h1, h2⟩ := cellsV_at vs j v hv
    exact ⟨b, off, ha, hr _ _ h0, by rw [Nat.add_assoc]; exact hr _ _ h1, by rw [Nat.add_assoc]; exact hr _ _ h2⟩
theorem measS {n j : Nat} {v : Int} (hv : v = (j : Int) + 1) (h : (j : Int) < n) : n - (intOf (.int .i64 v)).toNat < n - (intOf (.int .i64 (j : Int))).toNat := by
  subst hv
  show n - ((j : Int) + 1).toNat < n - ((j : Int)).toNat
  omega
set_option maxRecDepth 100000 in
set_option maxHeartbeats 2000000 in
theorem sameV_any (a b : Option Addr) (ca cb : Nat) (vs : List Vl) (w : World) (hlen : vs.length ≤ 100) (ha : VsAt w.heap.size a vs w) (hb : VsAt w.heap.size b vs w) :
    Calls Try.prog 18 #[.slice a vs.length ca, .slice b vs.length cb] w fun e w' => e = .returned (.bool true) ∧ Below w.heap.size w w' := by
  have HA := Lib.hid ha
  have HB := Lib.hid hb
  clear ha hb
  go_enter Try.func18, Try.ntmps18
  go_wp2
  go_loopw [5] (fun i wr => ∃ j : Nat, j ≤ vs.length ∧ i = .int .i64 j ∧ Below w.heap.size w wr) (fun i _ => vs.length - (intOf i).toNat)
  case atStart => exact ⟨0, Nat.zero_le _, rfl, Below.refl _ _⟩
  case round =>
    obtain ⟨j, hj, rfl, hbl⟩ := hrel
    by_cases hlt : j < vs.length
    · obtain ⟨v, hv⟩ : ∃ v, vs[j]? = some v := ⟨vs[j], by simp [hlt]⟩
      have hlt2 : (j : Int) < vs.length := by omega
      obtain ⟨b1, o1, rfl, p0, p1, p2⟩ := (HA.out.below hbl).get hv
      obtain ⟨b2, o2, rfl, q0, q1, q2⟩ := (HB.out.below hbl).get hv
      have hne := run_neV v.k v.n v.s
      have HV := Lib.hid hv
      clear hv
      go_wp2
      go_region
      all_goals go_wp2
      all_goals go_roundw
      all_goals first
        | (case rel => exact ⟨j + 1, by omega, by go_num, hbl.drew⟩)
        | (case measure => exact measS rfl hlt2)
    · obtain rfl : j = vs.length := by omega
      clear hlt hj
      go_wp2
      go_ret
      exact ⟨rfl, hbl⟩
end Go.Proofs.Ytlhgiihooalanaa.Hp
