/-
  The reference's Set and Begin, walked.
-/
import Derived.Test.YtglnihecgjfkiaaScRSet
namespace Go.Proofs.Ytglnihecgjfkiaa.Sc
open Go Go.RowKit Go.Maps
set_option linter.unusedVariables false
set_option linter.unusedSimpArgs false
attribute [local go_sem ↓] ldV stV alV bxV bxP bdV bdP
attribute [local irreducible] vcs pcs
attribute [local go_sem] run_bx run_alV run_bd0

theorem there_own {w : World} {base : Nat} {e : TypeId} {size n g c o k : Nat} {xs : List Value} (h : w.ownsRow base e size (.slice (some ⟨g, 0, none⟩) n c) n xs) (ho : o + k ≤ n * size) : w.there g o k := fun j hj => by
  rcases h.2 with ⟨h1, _⟩ | ⟨g', cap, cur, h1, h2, h3, h4, h5, h6, h7⟩
  · cases h1
  · simp only [Value.slice.injEq, Option.some.injEq, Addr.mk.injEq, and_true, true_and] at h1
    obtain ⟨rfl, rfl⟩ := h1
    have hle : n * size ≤ c * size := Nat.mul_le_mul_right _ h4
    refine ⟨?_, frozen_of_row w g (o + j) cur e h3⟩
    rw [cell_of_row w g (o + j) cur e (0, 0) h3]
    simp
    omega
section
variable {base : Nat} {X : Nat → Prop} {w w' : World} {rb : Nat} {S : List Sco} {ap : Option Addr} {cp : Nat} {al : Option Addr} {cl : Nat} {hv : Nat → Value}
theorem RAt.there (h : RAt base X w rb S ap cp al cl hv) {i j : Nat} {sc : Sco} {va : Va} (hi : S[i]? = some sc) (hj : sc.vs[j]? = some va) {g c : Nat} (hg : hv i = .slice (some ⟨g, 0, none⟩) sc.vs.length c) {q k : Nat} (hq : q + k ≤ 6) : w.there g (j * 6 + q) k := by
  have hr := h.vrow i sc hi
  rw [hg] at hr
  have hjl : j < sc.vs.length := (List.getElem?_eq_some_iff.1 hj).1
  exact there_own hr (by omega)
theorem RAt.xg (h : RAt base X w rb S ap cp al cl hv) {i g n c : Nat} (hi : i < S.length) (hg : hv i = .slice (some ⟨g, 0, none⟩) n c) : X g := h.xv i g hi (by rw [hg]; rfl)
set_option maxRecDepth 100000 in
set_option maxHeartbeats 4000000 in
theorem rset_any (h : RAt base X w rb S ap cp al cl hv) (env : Int) (s : ByteArray) (v : Vl) (hl : ∀ (i : Nat) (sc : Sco), S[i]? = some sc → sc.vs.length ≤ 1000) :
    Calls Try.prog 18 #[ptr rb, .int .i64 env, .string s, .agg (vcs v)] w (EndsR base X rb w (.int .i64 (setF S env s v).1) (setF S env s v).2) := by
  obtain ⟨w1, hw1⟩ : ∃ w1, w.alloc (.cells (vcs v) 29) = w1 := ⟨_, rfl⟩
  have h1 : RAt base X w1 rb S ap cp al cl hv := by rw [← hw1]; exact h.alloc _
  have b1 : Below w.heap.size w w1 := by rw [← hw1]; exact (Below.refl _ w).alloc (Nat.le_refl _) _
  have x1 : Blk w1 w.heap.size (vcs v) 29 := by rw [← hw1]; exact Blk.new w _ _
  have hfd := find_any h1 env s hl
  cases hsk : seek S env s with
  | none =>
    have e1 : setF S env s v = (1, S) := by simp [setF, hsk]
    have e2 : findV2 (seek S env s) = .tuple #[.int .i64 (-1), .int .i64 (-1)] := by rw [hsk]; rfl
    rw [e1]
    rw [e2] at hfd
    have HE := Lib.hid (h.ends (r := .int .i64 1) b1)
    clear h h1 hsk e1 e2 b1 x1 hl
    go_enter Try.func18, Try.ntmps18
    go_wp2_with (go_at_call 24; refine hfd.mono ?_; rintro e w2 ⟨rfl, hw2⟩; subst w2)
    go_ret
    exact HE.out
  | some x =>
    obtain ⟨i, j⟩ := x
    obtain ⟨sc, va, hi, hj, hnm, hf⟩ := seek_got h.par hsk
    have e2 : findV2 (seek S env s) = .tuple #[.int .i64 i, .int .i64 j] := by rw [hsk]; rfl
    rw [e2] at hfd
    have c1 : w1.cell? ⟨rb, 1, none⟩ = some (.slice al S.length cl) := h1.head.cell 1
    obtain ⟨gl, rfl, c2⟩ := h1.list hi
    obtain ⟨g, c, q1, q2, q3⟩ := h1.cell hi hj
    have hth := h1.there hi hj q1 (q := 3) (k := 3) (by omega)
    rw [q1] at c2
    have q4 : w1.cell? ⟨g, j * 6 + 2, none⟩ = some (.bool va.has) := q3 2 _ rfl
    have q5 : w1.cell? ⟨g, j * 6 + 1, none⟩ = some (.bool va.fixed) := q3 1 _ rfl
    have hld := run_ldV x1
    have hldd := run_ldV (w := w1.drew) x1
    have hst := run_stV (w := w1.drew) (v := v) hth
    have hjl : j < sc.vs.length := (List.getElem?_eq_some_iff.1 hj).1
    have hil := at_lt hi
    have hend : setF S env s v = (0, setVs S i (sc.vs.set j { va with v := v })) → EndsR base X rb w (.int .i64 0) (setVs S i (sc.vs.set j { va with v := v })) (.returned (.int .i64 0)) (w1.drew.setCells g (j * 6 + 3) (vcs v).toList) := fun _ => by
      have k := (h1.same (w' := w1.drew) (fun _ _ => rfl) (Nat.le_refl _)).putV hi hj q1 v
      refine ⟨rfl, X, ⟨_, _, _, _, _, k⟩, ⟨((Fr.refl w).below b1).drew.trans (setCells_fr _ _ _ _).1, fun b hb hx => ?_, fun _ h => .inl h⟩⟩
      rw [setCells_block g _ _ w1.drew b (fun e => hx (by rw [e]; exact h1.xg (at_lt hi) q1))]
      exact b1.block b hb
    obtain ⟨N, hN⟩ : ∃ N, S.length = N := ⟨_, rfl⟩
    obtain ⟨n, hn⟩ : ∃ n, sc.vs.length = n := ⟨_, rfl⟩
    rw [hN] at c1 hil
    rw [hn] at c2 hjl q2
    have t1 : (i : Int) < N := by omega
    have t2 : decide ((N : Int) ≤ i) = false := by simp; omega
    have t3 : (j : Int) < n := by omega
    have t4 : decide ((n : Int) ≤ j) = false := by simp; omega
    have t5 : decide ((j : Int) < 0) = false := by simp
    have Q2 := Lib.hid q2
    cases hh : va.has with
    | false =>
      have e1 : setF S env s v = (2, S) := by simp [setF, hsk, hi, hj, hh]
      rw [e1]
      rw [hh] at q4
      have HE := Lib.hid (h.ends (r := .int .i64 2) b1)
      clear h h1 hsk e1 e2 hl hj hi hf hld q1 q2 q3 hN hn b1 x1 hend hth hst hldd
      go_enter Try.func18, Try.ntmps18
      go_wp2_with (go_at_call 24; refine hfd.mono ?_; rintro e w2 ⟨rfl, hw2⟩; subst w2)
      go_ret
      exact HE.out
    | true =>
      rw [hh] at q4
      cases hx : va.fixed with
      | true =>
        have e1 : setF S env s v = (3, S) := by simp [setF, hsk, hi, hj, hh, hx]
        rw [e1]
        rw [hx] at q5
        have HE := Lib.hid (h.ends (r := .int .i64 3) b1)
        clear h h1 hsk e1 e2 hl hj hi hf hld q1 q2 q3 hN hn b1 x1 hend hth hst hldd
        go_enter Try.func18, Try.ntmps18
        go_wp2_with (go_at_call 24; refine hfd.mono ?_; rintro e w2 ⟨rfl, hw2⟩; subst w2)
        go_ret
        exact HE.out
      | false =>
        have e1 : setF S env s v = (0, setVs S i (sc.vs.set j { va with v := v })) := by simp [setF, hsk, hi, hj, hh, hx]
        have HE := Lib.hid (hend e1)
        rw [e1]
        rw [hx] at q5
        clear h h1 hsk e1 e2 hl hj hi hf q1 q2 q3 hN hn b1 x1 hend hth
        go_enter Try.func18, Try.ntmps18
        go_wp2_with (go_at_call 24; refine hfd.mono ?_; rintro e w2 ⟨rfl, hw2⟩; subst w2)
        go_region
        all_goals go_wp2
        all_goals go_ret
        all_goals exact HE.out
set_option maxRecDepth 100000 in
set_option maxHeartbeats 4000000 in
theorem rbegin_any (h : RAt base X w rb S ap cp al cl hv) (env : Int) (s : ByteArray) (v : Vl) (hl : ∀ (i : Nat) (sc : Sco), S[i]? = some sc → sc.vs.length ≤ 1000) :
    Calls Try.prog 14 #[ptr rb, .int .i64 env, .string s, .agg (vcs v)] w (EndsR base X rb w (.bool (beginF S env s v).1) (beginF S env s v).2) := by
  obtain ⟨w1, hw1⟩ : ∃ w1, w.alloc (.cells (vcs v) 29) = w1 := ⟨_, rfl⟩
  have h1 : RAt base X w1 rb S ap cp al cl hv := by rw [← hw1]; exact h.alloc _
  have b1 : Below w.heap.size w w1 := by rw [← hw1]; exact (Below.refl _ w).alloc (Nat.le_refl _) _
  have x1 : Blk w1 w.heap.size (vcs v) 29 := by rw [← hw1]; exact Blk.new w _ _
  have hth := there_any h1 env
  rcases cases_env S env with ht | ⟨i, sc, rfl, hi⟩
  · have e0 : there S env = false := by simpa using ht
    have e1 : beginF S env s v = (false, S) := by simp [beginF, ht]
    rw [e1]
    rw [e0] at hth
    have HE := Lib.hid (h.ends (r := .bool false) b1)
    clear h h1 ht e1 e0 b1 x1 hl
    go_enter Try.func14, Try.ntmps14
    go_wp2_with (go_at_call 21; refine hth.mono ?_; rintro e w2 ⟨rfl, hw2⟩; subst w2)
    go_ret
    exact HE.out
  · rw [there_nat (at_lt hi)] at hth
    have hat := at_any h1 hi s (hl i sc hi)
    cases hf : findV sc.vs s with
    | none =>
      have e1 : beginF S i s v = (false, S) := by simp [beginF, there_nat (at_lt hi), hi, hf]
      rw [e1]
      rw [hf] at hat
      have e3 : plc 0 none = -1 := rfl
      rw [e3] at hat
      have HE := Lib.hid (h.ends (r := .bool false) b1)
      clear h h1 e1 b1 x1 hf hi hl e3
      go_enter Try.func14, Try.ntmps14
      go_wp2_with (first | (go_at_call 21; refine hth.mono ?_; rintro e w2 ⟨rfl, hw2⟩; subst w2) | (go_at_call 22; refine hat.mono ?_; rintro e w2 ⟨rfl, hw2⟩; subst w2))
      go_ret
      exact HE.out
    | some j =>
      obtain ⟨va, hj, hnm⟩ := findV_some hf
      rw [hf] at hat
      have e3 : plc 0 (some j) = (j : Int) := by simp [plc]
      rw [e3] at hat
      have c1 : w1.cell? ⟨rb, 1, none⟩ = some (.slice al S.length cl) := h1.head.cell 1
      obtain ⟨gl, rfl, c2⟩ := h1.list hi
      obtain ⟨g, c, q1, q2, q3⟩ := h1.cell hi hj
      have q4 : w1.cell? ⟨g, j * 6 + 2, none⟩ = some (.bool va.has) := q3 2 _ rfl
      have hjl : j < sc.vs.length := (List.getElem?_eq_some_iff.1 hj).1
      have hil := at_lt hi
      cases hh : va.has with
      | true =>
        have e1 : beginF S i s v = (false, S) := by simp [beginF, there_nat (at_lt hi), hi, hf, hj, hh]
        rw [e1]
        rw [q1] at c2
        rw [hh] at q4
        have HE := Lib.hid (h.ends (r := .bool false) b1)
        obtain ⟨N, hN⟩ : ∃ N, S.length = N := ⟨_, rfl⟩
        obtain ⟨n, hn⟩ : ∃ n, sc.vs.length = n := ⟨_, rfl⟩
        rw [hN] at c1 hil
        rw [hn] at c2 hjl q2
        have t1 : (i : Int) < N := by omega
        have t2 : decide ((N : Int) ≤ i) = false := by simp; omega
        have t3 : (j : Int) < n := by omega
        have t4 : decide ((n : Int) ≤ j) = false := by simp; omega
        have t5 : decide ((j : Int) < 0) = false := by simp
        clear h h1 e1 b1 x1 hf hi hl e3 q1 q2 q3 hN hn hj
        go_enter Try.func14, Try.ntmps14
        go_wp2_with (first | (go_at_call 21; refine hth.mono ?_; rintro e w2 ⟨rfl, hw2⟩; subst w2) | (go_at_call 22; refine hat.mono ?_; rintro e w2 ⟨rfl, hw2⟩; subst w2))
        go_ret
        exact HE.out
      | false =>
        have e1 : beginF S i s v = (true, setVs S i (sc.vs.set j { va with has := true, v := v })) := by simp [beginF, there_nat (at_lt hi), hi, hf, hj, hh]
        rw [e1]
        rw [hh] at q4
        -- the first store
        have f4 := (h1.there hi hj q1 (q := 2) (k := 1) (by omega) 0 (by omega)).2
        rw [Nat.add_zero] at f4
        obtain ⟨W2, hW2⟩ : ∃ W2, w1.setCell ⟨g, j * 6 + 2, none⟩ (.bool true) = W2 := ⟨_, rfl⟩
        have k2 : RAt base X W2 rb (setVs S i (sc.vs.set j { va with has := true })) ap cp (some ⟨gl, 0, none⟩) cl hv := by rw [← hW2]; exact h1.put (va' := { va with has := true }) hi hj q1 (by omega) rfl
        have k2d := k2.same (w' := W2.drew) (fun _ _ => rfl) (Nat.le_refl _)
        have hi2 := setVs_same hi (sc.vs.set j { va with has := true })
        have hj2 : ({ sc with vs := sc.vs.set j { va with has := true } } : Sco).vs[j]? = some { va with has := true } := by simp [hjl]
        have q12 : hv i = .slice (some ⟨g, 0, none⟩) ({ sc with vs := sc.vs.set j { va with has := true } } : Sco).vs.length c := by simpa using q1
        have hthr := k2d.there hi2 hj2 q12 (q := 3) (k := 3) (by omega)
        have hst := run_stV (w := W2.drew) (v := v) hthr
        have k3 := k2d.putV hi2 hj2 q12 v
        rw [setVs_setVs] at k3
        simp only [List.set_set] at k3
        have hgw : g ≠ w.heap.size := fun e => by have := (h.low g (h.xg (at_lt hi) q1)).2; omega
        have x2 : Blk W2 w.heap.size (vcs v) 29 := by rw [← hW2]; exact x1.other ⟨g, j * 6 + 2, none⟩ _ (fun e => hgw e.symm)
        have hld := run_ldV x2
        have hldd := run_ldV (w := W2.drew) x2
        have hend : EndsR base X rb w (.bool true) (setVs S i (sc.vs.set j { va with has := true, v := v })) (.returned (.bool true)) (W2.drew.setCells g (j * 6 + 3) (vcs v).toList) := by
          refine ⟨rfl, X, ⟨_, _, _, _, _, k3⟩, ⟨?_, fun b hb hx => ?_, fun _ h => .inl h⟩⟩
          · rw [← hW2]
            exact ((((Fr.refl w).below b1).set _ _).drew).trans (setCells_fr _ _ _ _).1
          · have hbg : b ≠ g := fun e => hx (by rw [e]; exact h.xg (at_lt hi) q1)
            rw [setCells_block g _ _ W2.drew b hbg]
            show W2.heap[b]? = _
            rw [← hW2, heap_setCell_other w1 ⟨g, j * 6 + 2, none⟩ b _ hbg]
            exact b1.block b hb
        have c1b : W2.cell? ⟨rb, 1, none⟩ = some (.slice (some ⟨gl, 0, none⟩) S.length cl) := by have := k2.head.cell 1; rw [setVs_len] at this; exact this
        obtain ⟨gl2, e4, c2b⟩ := k2.list hi2
        cases e4
        rw [q1] at c2 c2b
        have HE := Lib.hid hend
        obtain ⟨N, hN⟩ : ∃ N, S.length = N := ⟨_, rfl⟩
        obtain ⟨n, hn⟩ : ∃ n, sc.vs.length = n := ⟨_, rfl⟩
        rw [hN] at c1 hil c1b
        rw [hn] at c2 hjl q2 c2b
        have t1 : (i : Int) < N := by omega
        have t2 : decide ((N : Int) ≤ i) = false := by simp; omega
        have t3 : (j : Int) < n := by omega
        have t4 : decide ((n : Int) ≤ j) = false := by simp; omega
        have t5 : decide ((j : Int) < 0) = false := by simp
        clear h h1 e1 b1 x1 hf hi hl e3 q1 q2 q3 hN hn hj hend k2 k2d hi2 hj2 q12 hthr k3 hgw x2
        go_enter Try.func14, Try.ntmps14
        go_wp2_with (first | (go_at_call 21; refine hth.mono ?_; rintro e w2 ⟨rfl, hw2⟩; subst w2) | (go_at_call 22; refine hat.mono ?_; rintro e w2 ⟨rfl, hw2⟩; subst w2))
        go_region
        all_goals go_wp2
        all_goals go_ret
        all_goals exact HE.out
end
end Go.Proofs.Ytglnihecgjfkiaa.Sc
