/-
  The program's calls on scopes, walked: Begin, Let, Make.
-/
import Derived.Test.YtglnihecgjfkiaaScCall
namespace Go.Proofs.Ytglnihecgjfkiaa.Sc
open Go Go.RowKit Go.Maps
set_option linter.unusedVariables false
set_option linter.unusedSimpArgs false
attribute [local go_sem ↓] ldV stV alV bxV bxP bdV bdP
attribute [local irreducible] vcs pcs
attribute [local go_sem] run_bx run_alV run_bd0

section
variable {base : Nat} {X : Nat → Prop} {hb : Nat} {S : List Sco} {sb mb : Nat → Nat} {vb : Nat → Nat → Nat} {a : Option Addr} {c : Nat}
theorem there_nat {i : Nat} (h : i < S.length) : there S i = true := by rw [there_iff]; omega
theorem sptr_nat (sb : Nat → Nat) {i : Nat} (h : i < S.length) : sptr S sb i = some (sb i) := by unfold sptr; rw [if_pos (there_nat h)]; congr 2
theorem sptr_out (sb : Nat → Nat) {env : Int} (h : ¬ there S env = true) : sptr S sb env = none := by unfold sptr; rw [if_neg h]
theorem cases_env (S : List Sco) (env : Int) : ¬ there S env = true ∨ ∃ (i : Nat) (sc : Sco), env = i ∧ S[i]? = some sc := by
  by_cases h : there S env = true
  · have := there_iff.1 h
    exact .inr ⟨env.toNat, S[env.toNat]'(by omega), by omega, List.getElem?_eq_getElem (by omega)⟩
  · exact .inl h
set_option maxRecDepth 100000 in
set_option maxHeartbeats 2000000 in
theorem begin_any {w : World} (h : PAt base X w hb S sb mb vb a c) (env : Int) {s : ByteArray} (hs : Fine s) (v : Vl) :
    Calls Try.prog 13 #[ptr hb, .int .i64 env, .string s, .agg (vcs v)] w (Ends base X hb w (.bool (beginF S env s v).1) (beginF S env s v).2) := by
  obtain ⟨w1, hw1⟩ : ∃ w1, w.alloc (.cells (vcs v) 29) = w1 := ⟨_, rfl⟩
  have h1 : PAt base X w1 hb S sb mb vb a c := by rw [← hw1]; exact h.alloc _
  have b1 : Below w.heap.size w w1 := by rw [← hw1]; exact (Below.refl _ w).alloc (Nat.le_refl _) _
  have x1 : Blk w1 w.heap.size (vcs v) 29 := by rw [← hw1]; exact Blk.new w _ _
  have hsc := scope_any h1 env
  rcases cases_env S env with ht | ⟨i, sc, rfl, hi⟩
  · have e1 : beginF S env s v = (false, S) := by simp [beginF, ht]
    rw [e1]
    rw [sptr_out sb ht] at hsc
    have HE := Lib.hid (h.ends (r := .bool false) b1)
    clear h h1 hs ht e1 b1 x1
    go_enter Try.func13, Try.ntmps13
    go_wp2_with (go_at_call 20; refine hsc.mono ?_; rintro e w2 ⟨rfl, hw2⟩; subst w2)
    go_ret
    exact HE.out
  · rw [sptr_nat sb (at_lt hi)] at hsc
    replace hsc : Calls Try.prog 20 #[ptr hb, .int .i64 i] w1 fun e w' => e = .returned (.pointer (some ⟨sb i, 0, none⟩)) ∧ w' = w1 := hsc
    have q1 : w1.cell? ⟨sb i, 1, none⟩ = some (.map (some (mb i))) := (h1.sco i sc hi).cell 1
    have hlk := (h1.map i sc hi).look hs
    cases hf : findV sc.vs s with
    | none =>
      have e1 : beginF S i s v = (false, S) := by simp [beginF, there_nat (at_lt hi), hi, hf]
      rw [e1]
      rw [hf] at hlk
      replace hlk : (Instr.lookup 52 (.map (some (mb i))) (.string s) false).run Try.prog w1 = .ok (.pointer none) w1 := hlk
      have HE := Lib.hid (h.ends (r := .bool false) b1)
      clear h h1 hs e1 b1 x1 hf hi
      go_enter Try.func13, Try.ntmps13
      go_wp2_with (go_at_call 20; refine hsc.mono ?_; rintro e w2 ⟨rfl, hw2⟩; subst w2)
      go_ret
      exact HE.out
    | some j =>
      obtain ⟨va, hj, hnm⟩ := findV_some hf
      have hvb := h1.var i j sc va hi hj
      rw [hf] at hlk
      replace hlk : (Instr.lookup 52 (.map (some (mb i))) (.string s) false).run Try.prog w1 = .ok (.pointer (some ⟨vb i j, 0, none⟩)) w1 := hlk
      have q3 : w1.cell? ⟨vb i j, 3, none⟩ = some (.bool va.has) := by rw [hvb.cell, pcs_3]
      cases hh : va.has with
      | true =>
        have e1 : beginF S i s v = (false, S) := by simp [beginF, there_nat (at_lt hi), hi, hf, hj, hh]
        rw [e1]
        rw [hh] at q3
        have HE := Lib.hid (h.ends (r := .bool false) b1)
        clear h h1 hs e1 b1 x1 hf hi hj hvb
        go_enter Try.func13, Try.ntmps13
        go_wp2_with (go_at_call 20; refine hsc.mono ?_; rintro e w2 ⟨rfl, hw2⟩; subst w2)
        go_ret
        exact HE.out
      | false =>
        have e1 : beginF S i s v = (true, setVs S i (sc.vs.set j { va with has := true, v := v })) := by simp [beginF, there_nat (at_lt hi), hi, hf, hj, hh]
        rw [e1]
        rw [hh] at q3
        have hld := run_ldV x1
        have hst := run_stV (v := v) (there_blk hvb (o := 0) (k := 3) (by rw [pcs_size]; omega))
        obtain ⟨W2, hW2⟩ : ∃ W2, w1.setCells (vb i j) 0 (vcs v).toList = W2 := ⟨_, rfl⟩
        have hv2 : Blk W2 (vb i j) (pcs { va with v := v }) 56 := by rw [← hW2]; exact hvb.val v
        have q5 : W2.cell? ⟨vb i j, 3, none⟩ = some (.bool va.has) := by rw [hv2.cell, pcs_3]
        have q6 := hv2.frozen 3
        have hfr : Fr w1 W2 := by rw [← hW2]; exact (setCells_fr (vb i j) (vcs v).toList 0 w1).1
        have hne : ∀ b, b < w.heap.size → b ≠ vb i j → (W2.setCell ⟨vb i j, 3, none⟩ (.bool true)).heap[b]? = w.heap[b]? := fun b hb hn => (heap_setCell_other W2 ⟨vb i j, 3, none⟩ b _ hn).trans (by rw [← hW2, setCells_block _ _ _ _ b hn]; exact b1.block b hb)
        have hfr3 : Fr w (W2.setCell ⟨vb i j, 3, none⟩ (.bool true)) := (((Fr.refl w).below b1).trans hfr).set _ _
        have hv3 : Blk (W2.setCell ⟨vb i j, 3, none⟩ (.bool true)) (vb i j) (pcs { va with has := true, v := v }) 56 := by
          have := hv2.set 3 (.bool true)
          simpa [pcs] using this
        have hend : Ends base X hb w (.bool true) (setVs S i (sc.vs.set j { va with has := true, v := v })) (.returned (.bool true)) (W2.setCell ⟨vb i j, 3, none⟩ (.bool true)) :=
          ⟨rfl, ⟨sb, mb, vb, a, c, h.setVar (va' := { va with has := true, v := v }) hi hj rfl hne hfr3.size hv3⟩, ⟨hfr3, fun b hb hx => hne b hb fun e => hx (by rw [e]; exact h.xv i j sc va hi hj), also_more⟩⟩
        have HE := Lib.hid hend
        rw [hW2] at hst
        rw [hh] at q5
        clear h h1 hs e1 hvb hj hi hf b1 x1 hend hne hfr hW2 hv2 hfr3 hv3
        go_enter Try.func13, Try.ntmps13
        go_wp2_with (go_at_call 20; refine hsc.mono ?_; rintro e w2 ⟨rfl, hw2⟩; subst w2)
        go_ret
        exact HE.out
set_option maxRecDepth 100000 in
set_option maxHeartbeats 2000000 in
theorem let_any {w : World} (h : PAt base X w hb S sb mb vb a c) (env : Int) {s : ByteArray} (hs : Fine s) (fx : Bool) (hl : ∀ (i : Nat) (sc : Sco), S[i]? = some sc → sc.vs.length ≤ 1000) :
    Calls Try.prog 9 #[ptr hb, .int .i64 env, .string s, .bool fx] w (Ends base X hb w (.bool (letF S env s fx).1) (letF S env s fx).2) := by
  have hsc := scope_any h env
  rcases cases_env S env with ht | ⟨i, sc, rfl, hi⟩
  · have e1 : letF S env s fx = (false, S) := by simp [letF, ht]
    rw [e1]
    rw [sptr_out sb ht] at hsc
    have HE := Lib.hid (h.ends (r := .bool false) (Below.refl _ w))
    clear h hs ht e1
    go_enter Try.func9, Try.ntmps9
    go_wp2_with (go_at_call 20; refine hsc.mono ?_; rintro e w2 ⟨rfl, hw2⟩; subst w2)
    go_ret
    exact HE.out
  · rw [sptr_nat sb (at_lt hi)] at hsc
    replace hsc : Calls Try.prog 20 #[ptr hb, .int .i64 i] w fun e w' => e = .returned (.pointer (some ⟨sb i, 0, none⟩)) ∧ w' = w := hsc
    have q1 : w.cell? ⟨sb i, 1, none⟩ = some (.map (some (mb i))) := (h.sco i sc hi).cell 1
    have hlk := (h.map i sc hi).look hs
    cases hf : findV sc.vs s with
    | some j =>
      have e1 : letF S i s fx = (false, S) := by simp [letF, there_nat (at_lt hi), hi, hf]
      rw [e1]
      rw [hf] at hlk
      replace hlk : (Instr.lookup 52 (.map (some (mb i))) (.string s) false).run Try.prog w = .ok (.pointer (some ⟨vb i j, 0, none⟩)) w := hlk
      have HE := Lib.hid (h.ends (r := .bool false) (Below.refl _ w))
      clear h hs e1 hf hi
      go_enter Try.func9, Try.ntmps9
      go_wp2_with (go_at_call 20; refine hsc.mono ?_; rintro e w2 ⟨rfl, hw2⟩; subst w2)
      go_ret
      exact HE.out
    | none =>
      have e1 : letF S i s fx = (true, setVs S i (sc.vs ++ [⟨s, fx, false, zeroV⟩])) := by simp [letF, there_nat (at_lt hi), hi, hf]
      rw [e1]
      rw [hf] at hlk
      replace hlk : (Instr.lookup 52 (.map (some (mb i))) (.string s) false).run Try.prog w = .ok (.pointer none) w := hlk
      have hbd := run_bdP s w fx
      obtain ⟨W1, hW1⟩ : ∃ W1, w.alloc (.cells (pcs ⟨s, fx, false, zeroV⟩) 56) = W1 := ⟨_, rfl⟩
      have b1 : Below w.heap.size w W1 := by rw [← hW1]; exact (Below.refl _ w).alloc (Nat.le_refl _) _
      have x1 : Blk W1 w.heap.size (pcs ⟨s, fx, false, zeroV⟩) 56 := by rw [← hW1]; exact Blk.new w _ _
      have k1 : W1.heap.size = w.heap.size + 1 := by rw [← hW1]; simp
      have hm1 : MapIs W1 (mb i) sc.vs.length (fun s => (findV sc.vs s).map (vb i)) := by rw [← hW1]; exact (h.map i sc hi).old _
      obtain ⟨W2, hst, hm2, ht2⟩ := hm1.store (by have := hl i sc hi; unfold maxLen; omega) hs (some w.heap.size)
      replace hst : (Instr.mapUpdate 52 (.map (some (mb i))) (.string s) (.pointer (some ⟨w.heap.size, 0, none⟩))).run Try.prog W1 = .ok () W2 := hst
      have hml := (h.map i sc hi).lt
      have hne : ∀ b, b < w.heap.size → b ≠ mb i → W2.heap[b]? = w.heap[b]? := fun b hb hn => (turned_other ht2 hn).trans (b1.block b hb)
      have hfr : Fr w W2 := ((Fr.refl w).below b1).turned ht2
      have hv : Blk W2 w.heap.size (pcs ⟨s, fx, false, zeroV⟩) 56 := (turned_other ht2 (by omega)).trans x1
      have hsz : w.heap.size < W2.heap.size := hv.lt
      have hend : Ends base X hb w (.bool true) (setVs S i (sc.vs ++ [⟨s, fx, false, zeroV⟩])) (.returned (.bool true)) W2 :=
        ⟨rfl, ⟨sb, mb, _, a, c, h.addVar (va := ⟨s, fx, false, zeroV⟩) hi hf hne hsz hv hm2⟩, ⟨hfr, fun b hb hx => hne b hb fun e => hx (by rw [e]; exact h.xm i (at_lt hi)), also_more⟩⟩
      have HE := Lib.hid hend
      have q2 : W1.cell? ⟨sb i, 1, none⟩ = some (.map (some (mb i))) := by rw [← hW1]; exact ((h.sco i sc hi).old _).cell 1
      clear h hs e1 hf hi hend hsz hv hfr hne hml hm2 ht2 hm1 x1 b1 k1 hl
      go_enter Try.func9, Try.ntmps9
      go_wp2_with (go_at_call 20; refine hsc.mono ?_; rintro e w2 ⟨rfl, hw2⟩; subst w2)
      go_ret
      exact HE.out
end
end Go.Proofs.Ytglnihecgjfkiaa.Sc
