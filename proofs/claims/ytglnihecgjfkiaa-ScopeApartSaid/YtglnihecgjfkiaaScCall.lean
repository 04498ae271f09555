/-
  The program's calls on scopes, walked: Get, Set, Begin, Let.
-/
import Derived.Test.YtglnihecgjfkiaaScOps
namespace Go.Proofs.Ytglnihecgjfkiaa.Sc
open Go Go.RowKit Go.Maps
set_option linter.unusedVariables false
set_option linter.unusedSimpArgs false
attribute [local go_sem ↓] ldV stV alV bxV bxP bdV bdP
attribute [local irreducible] vcs pcs
attribute [local go_sem] run_bx run_alV run_bd0

theorem res2_V {fn : Func} {p u : Tmp} (h : fn.results = #[.cell p 29, .tmp u]) (tmps : Array Value) (w : World) (g : Nat) (v : Vl) (hp : tmps.getD p undef = .pointer (some ⟨g, 0, none⟩)) {T : TypeId} (hr : Blk w g (vcs v) T) :
    (results fn tmps).run Try.prog w = .ok (.tuple #[.agg (vcs v), tmps.getD u undef]) w := by
  have hv := run_loadVar_row (P := Try.prog) w g T 29 (vcs v) (0, 0) _ hr Try.underlying29 rfl (by rw [vcs_size]; exact sizeV)
  rw [results_cell_tmp h, hp]
  simp [asAddr, hv, Result.andThen]
section
variable {base : Nat} {X : Nat → Prop} {hb : Nat} {S : List Sco} {sb mb : Nat → Nat} {vb : Nat → Nat → Nat} {a : Option Addr} {c : Nat}
theorem PAt.alloc {w : World} (h : PAt base X w hb S sb mb vb a c) (o : Obj) : PAt base X (w.alloc o) hb S sb mb vb a c := h.same (fun b hx => heap_alloc_old w o (h.low b hx).2) (by simp)
set_option maxRecDepth 100000 in
set_option maxHeartbeats 2000000 in
theorem get_any {w : World} (h : PAt base X w hb S sb mb vb a c) (env : Int) {s : ByteArray} (hs : Fine s) :
    Calls Try.prog 15 #[ptr hb, .int .i64 env, .string s] w fun e w' => e = .returned (.tuple #[.agg (vcs (getF S env s).1), .int .i64 (getF S env s).2]) ∧ Below w.heap.size w w' := by
  obtain ⟨w1, hw1⟩ : ∃ w1, w.alloc (.cells (vcs zeroV) 29) = w1 := ⟨_, rfl⟩
  have h1 : PAt base X w1 hb S sb mb vb a c := by rw [← hw1]; exact h.alloc _
  have b1 : Below w.heap.size w w1 := by rw [← hw1]; exact (Below.refl _ w).alloc (Nat.le_refl _) _
  have x1 : Blk w1 w.heap.size (vcs zeroV) 29 := by rw [← hw1]; exact Blk.new w _ _
  have hlk := look_any h1 env hs
  have hst : ∀ v : Vl, (St 29 (.pointer (some ⟨w.heap.size, 0, none⟩)) (.agg (vcs v))).run Try.prog w1 = .ok () (w1.setRow w.heap.size (vcs v)) := fun v => run_stRow x1 (vcs_size _)
  have hend : ∀ v : Vl, Blk (w1.setRow w.heap.size (vcs v)) w.heap.size (vcs v) 29 ∧ Below w.heap.size w (w1.setRow w.heap.size (vcs v)) := fun v => ⟨x1.row _, ⟨b1.os, b1.tape, b1.output, by rw [size_setRow]; exact b1.size, fun b hb => (setRow_other w1 _ b _ (by omega)).trans (b1.block b hb)⟩⟩
  have HE := Lib.hid hend
  clear hend b1 x1
  cases hsk : seek S env s with
  | none =>
    have e1 : getF S env s = (zeroV, 1) := by simp [getF, hsk]
    have e2 : lookV S vb (seek S env s) = .tuple #[.pointer none, .int .i64 1] := by rw [hsk]; rfl
    rw [e1]
    rw [e2] at hlk
    have hst := hst zeroV
    clear h h1 hs hsk e1 e2
    go_enter Try.func15, Try.ntmps15
    go_wp2_with (go_at_call 23; refine hlk.mono ?_; rintro e w2 ⟨rfl, hw2⟩; subst w2)
    refine bodyPost_ret (res2_V rfl _ _ w.heap.size zeroV rfl (HE.out zeroV).1) rfl ?_
    exact ⟨rfl, (HE.out zeroV).2⟩
  | some x =>
    obtain ⟨i, j⟩ := x
    obtain ⟨sc, va, hi, hj, hnm, hf⟩ := seek_got h.par hsk
    have hva : varAt S i j = some va := by simp [varAt, hi, hj]
    have hvb := h1.var i j sc va hi hj
    cases hh : va.has with
    | false =>
      have e1 : getF S env s = (zeroV, 2) := by simp [getF, hsk, hva, hh]
      have e2 : lookV S vb (seek S env s) = .tuple #[.pointer none, .int .i64 2] := by rw [hsk]; simp [lookV, hva, hh]
      rw [e1]
      rw [e2] at hlk
      have hst := hst zeroV
      clear h h1 hs hsk e1 e2 hvb hva hj hi hf
      go_enter Try.func15, Try.ntmps15
      go_wp2_with (go_at_call 23; refine hlk.mono ?_; rintro e w2 ⟨rfl, hw2⟩; subst w2)
      refine bodyPost_ret (res2_V rfl _ _ w.heap.size zeroV rfl (HE.out zeroV).1) rfl ?_
      exact ⟨rfl, (HE.out zeroV).2⟩
    | true =>
      have e1 : getF S env s = (va.v, 0) := by simp [getF, hsk, hva, hh]
      have e2 : lookV S vb (seek S env s) = .tuple #[ptr (vb i j), .int .i64 0] := by rw [hsk]; simp [lookV, hva, hh]
      rw [e1]
      rw [e2] at hlk
      have hld := run_ldP hvb
      have hst := hst va.v
      clear h h1 hs hsk e1 e2 hva hj hi hf hvb
      go_enter Try.func15, Try.ntmps15
      go_wp2_with (go_at_call 23; refine hlk.mono ?_; rintro e w2 ⟨rfl, hw2⟩; subst w2)
      refine bodyPost_ret (res2_V rfl _ _ w.heap.size va.v rfl (HE.out va.v).1) rfl ?_
      exact ⟨rfl, (HE.out va.v).2⟩
set_option maxRecDepth 100000 in
set_option maxHeartbeats 2000000 in
theorem set_any {w : World} (h : PAt base X w hb S sb mb vb a c) (env : Int) {s : ByteArray} (hs : Fine s) (v : Vl) :
    Calls Try.prog 17 #[ptr hb, .int .i64 env, .string s, .agg (vcs v)] w (Ends base X hb w (.int .i64 (setF S env s v).1) (setF S env s v).2) := by
  obtain ⟨w1, hw1⟩ : ∃ w1, w.alloc (.cells (vcs v) 29) = w1 := ⟨_, rfl⟩
  have h1 : PAt base X w1 hb S sb mb vb a c := by rw [← hw1]; exact h.alloc _
  have b1 : Below w.heap.size w w1 := by rw [← hw1]; exact (Below.refl _ w).alloc (Nat.le_refl _) _
  have x1 : Blk w1 w.heap.size (vcs v) 29 := by rw [← hw1]; exact Blk.new w _ _
  have k1 : w1.heap.size = w.heap.size + 1 := by rw [← hw1]; simp
  have hlk := look_any h1 env hs
  cases hsk : seek S env s with
  | none =>
    have e1 : setF S env s v = (1, S) := by simp [setF, hsk]
    have e2 : lookV S vb (seek S env s) = .tuple #[.pointer none, .int .i64 1] := by rw [hsk]; rfl
    rw [e1]
    rw [e2] at hlk
    have HE := Lib.hid (h.ends (r := .int .i64 1) b1)
    clear h h1 hs hsk e1 e2 b1 x1
    go_enter Try.func17, Try.ntmps17
    go_wp2_with (go_at_call 23; refine hlk.mono ?_; rintro e w2 ⟨rfl, hw2⟩; subst w2)
    go_ret
    exact HE.out
  | some x =>
    obtain ⟨i, j⟩ := x
    obtain ⟨sc, va, hi, hj, hnm, hf⟩ := seek_got h.par hsk
    have hva : varAt S i j = some va := by simp [varAt, hi, hj]
    have hvb := h1.var i j sc va hi hj
    cases hh : va.has with
    | false =>
      have e1 : setF S env s v = (2, S) := by simp [setF, hsk, hi, hj, hh]
      have e2 : lookV S vb (seek S env s) = .tuple #[.pointer none, .int .i64 2] := by rw [hsk]; simp [lookV, hva, hh]
      rw [e1]
      rw [e2] at hlk
      have HE := Lib.hid (h.ends (r := .int .i64 2) b1)
      clear h h1 hs hsk e1 e2 hvb hva hj hi hf b1 x1
      go_enter Try.func17, Try.ntmps17
      go_wp2_with (go_at_call 23; refine hlk.mono ?_; rintro e w2 ⟨rfl, hw2⟩; subst w2)
      go_ret
      exact HE.out
    | true =>
      have e2 : lookV S vb (seek S env s) = .tuple #[ptr (vb i j), .int .i64 0] := by rw [hsk]; simp [lookV, hva, hh]
      rw [e2] at hlk
      have q4 : w1.cell? ⟨vb i j, 4, none⟩ = some (.bool va.fixed) := by rw [hvb.cell, pcs_4]
      cases hx : va.fixed with
      | true =>
        have e1 : setF S env s v = (3, S) := by simp [setF, hsk, hi, hj, hh, hx]
        rw [e1]
        rw [hx] at q4
        have HE := Lib.hid (h.ends (r := .int .i64 3) b1)
        clear h h1 hs hsk e1 e2 hvb hva hj hi hf b1 x1
        go_enter Try.func17, Try.ntmps17
        go_wp2_with (go_at_call 23; refine hlk.mono ?_; rintro e w2 ⟨rfl, hw2⟩; subst w2)
        go_ret
        exact HE.out
      | false =>
        have e1 : setF S env s v = (0, setVs S i (sc.vs.set j { va with v := v })) := by simp [setF, hsk, hi, hj, hh, hx]
        rw [e1]
        rw [hx] at q4
        have hld := run_ldV x1
        have hst := run_stV (v := v) (there_blk hvb (o := 0) (k := 3) (by rw [pcs_size]; omega))
        have hne : ∀ b, b < w.heap.size → b ≠ vb i j → (w1.setCells (vb i j) 0 (vcs v).toList).heap[b]? = w.heap[b]? := fun b hb hn => (setCells_block _ _ _ _ b hn).trans (b1.block b hb)
        have hfr := (setCells_fr (vb i j) (vcs v).toList 0 w1).1
        have hend : Ends base X hb w (.int .i64 0) (setVs S i (sc.vs.set j { va with v := v })) (.returned (.int .i64 0)) (w1.setCells (vb i j) 0 (vcs v).toList) :=
          ⟨rfl, ⟨sb, mb, vb, a, c, h.setVar (va' := { va with v := v }) hi hj rfl hne (Nat.le_trans b1.size hfr.size) (hvb.val v)⟩, ⟨((Fr.refl w).below b1).trans hfr, fun b hb hx => hne b hb fun e => hx (by rw [e]; exact h.xv i j sc va hi hj), also_more⟩⟩
        have HE := Lib.hid hend
        clear h h1 hs hsk e1 e2 hvb hva hj hi hf b1 x1 hend hne hfr
        go_enter Try.func17, Try.ntmps17
        go_wp2_with (go_at_call 23; refine hlk.mono ?_; rintro e w2 ⟨rfl, hw2⟩; subst w2)
        go_ret
        exact HE.out
end
end Go.Proofs.Ytglnihecgjfkiaa.Sc
