/-
  The program's scopes in memory; what reads them: scope, look.
-/
import Derived.Test.YtglnihecgjfkiaaScSpec
import Derived.Deep.LoopGhost
import Derived.Deep.RegionWith
import Derived.Deep.RegionLaw
namespace Go.Proofs.Ytglnihecgjfkiaa.Sc
open Go Go.RowKit Go.Maps
set_option linter.unusedVariables false
set_option linter.unusedSimpArgs false
attribute [local irreducible] vcs pcs

/-- The block of a scope's parent. -/
def pblk (sb : Nat → Nat) (p : Int) : Option Nat := if p < 0 then none else some (sb p.toNat)
theorem pblk_nat (sb : Nat → Nat) (i : Nat) : pblk sb i = some (sb i) := by
  unfold pblk
  rw [if_neg (by omega)]
  congr 2
abbrev shd (a : Option Addr) (n c : Nat) : Array Value := #[.slice a n c]
abbrev ssc (p : Option Addr) (m : Nat) : Array Value := #[.pointer p, .map (some m)]
/-- Scopes lie at hb; X: the blocks that are theirs. -/
structure PAt (base : Nat) (X : Nat → Prop) (w : World) (hb : Nat) (S : List Sco) (sb mb : Nat → Nat) (vb : Nat → Nat → Nat) (a : Option Addr) (c : Nat) : Prop where
  head : Blk w hb (shd a S.length c) 45
  row : w.ownsRow base 41 1 (.slice a S.length c) S.length ((List.range S.length).map fun i => ptr (sb i))
  sco : ∀ (i : Nat) (sc : Sco), S[i]? = some sc → Blk w (sb i) (ssc (pto (pblk sb sc.parent)) (mb i)) 54
  par : Par S
  map : ∀ (i : Nat) (sc : Sco), S[i]? = some sc → MapIs w (mb i) sc.vs.length (fun s => (findV sc.vs s).map (vb i))
  var : ∀ (i j : Nat) (sc : Sco) (va : Va), S[i]? = some sc → sc.vs[j]? = some va → Blk w (vb i j) (pcs va) 56
  vinj : ∀ (i j i' j' : Nat) (sc sc' : Sco) (va va' : Va), S[i]? = some sc → sc.vs[j]? = some va → S[i']? = some sc' → sc'.vs[j']? = some va' → vb i j = vb i' j' → i = i' ∧ j = j'
  minj : ∀ (i i' : Nat), i < S.length → i' < S.length → mb i = mb i' → i = i'
  low : ∀ b, X b → base ≤ b ∧ b < w.heap.size
  xh : X hb
  xr : ∀ g, (Value.slice a S.length c).ownBlock = some g → X g
  xs : ∀ i, i < S.length → X (sb i)
  xm : ∀ i, i < S.length → X (mb i)
  xv : ∀ (i j : Nat) (sc : Sco) (va : Va), S[i]? = some sc → sc.vs[j]? = some va → X (vb i j)
def PIs (base : Nat) (X : Nat → Prop) (w : World) (hb : Nat) (S : List Sco) : Prop := ∃ sb mb vb a c, PAt base X w hb S sb mb vb a c
section
variable {base : Nat} {X : Nat → Prop} {w w' : World} {hb : Nat} {S : List Sco} {sb mb : Nat → Nat} {vb : Nat → Nat → Nat} {a : Option Addr} {c : Nat}
theorem at_lt {l : List Sco} {i : Nat} {sc : Sco} (h : l[i]? = some sc) : i < l.length := (List.getElem?_eq_some_iff.1 h).1
theorem PAt.same (h : PAt base X w hb S sb mb vb a c) (hw : ∀ b, X b → w'.heap[b]? = w.heap[b]?) (hs : w.heap.size ≤ w'.heap.size) : PAt base X w' hb S sb mb vb a c where
  head := (hw _ h.xh).trans h.head
  row := own_same h.row fun g hg => hw g (h.xr g hg)
  sco := fun i sc hi => (hw _ (h.xs i (at_lt hi))).trans (h.sco i sc hi)
  par := h.par
  map := fun i sc hi => (h.map i sc hi).same (hw _ (h.xm i (at_lt hi)))
  var := fun i j sc va hi hj => (hw _ (h.xv i j sc va hi hj)).trans (h.var i j sc va hi hj)
  vinj := h.vinj
  minj := h.minj
  low := fun b hb => ⟨(h.low b hb).1, Nat.lt_of_lt_of_le (h.low b hb).2 hs⟩
  xh := h.xh
  xr := h.xr
  xs := h.xs
  xm := h.xm
  xv := h.xv
theorem PIs.same (h : PIs base X w hb S) (hw : ∀ b, X b → w'.heap[b]? = w.heap[b]?) (hs : w.heap.size ≤ w'.heap.size) : PIs base X w' hb S := by
  obtain ⟨sb, mb, vb, a, c, h⟩ := h
  exact ⟨sb, mb, vb, a, c, h.same hw hs⟩
theorem PIs.low (h : PIs base X w hb S) : ∀ b, X b → base ≤ b ∧ b < w.heap.size := by
  obtain ⟨sb, mb, vb, a, c, h⟩ := h
  exact h.low
theorem PIs.par (h : PIs base X w hb S) : Par S := by
  obtain ⟨sb, mb, vb, a, c, h⟩ := h
  exact h.par
theorem PIs.below (h : PIs base X w hb S) (hb' : Below w.heap.size w w') : PIs base X w' hb S := h.same (fun b hx => hb'.block b (h.low b hx).2) hb'.size
theorem PIs.alloc (h : PIs base X w hb S) (o : Obj) : PIs base X (w.alloc o) hb S := h.same (fun b hx => heap_alloc_old w o (h.low b hx).2) (by simp)
theorem PIs.drew (h : PIs base X w hb S) : PIs base X w.drew hb S := h.same (fun _ _ => rfl) (Nat.le_refl _)
theorem PIs.step {Y Y' : Nat → Prop} (h : PIs base X w hb S) (k : Step Y Y' w w') (hd : ∀ b, X b → ¬ Y b) : PIs base X w' hb S := h.same (fun b hx => k.stay b (h.low b hx).2 (hd b hx)) k.fr.size
theorem PAt.cell (h : PAt base X w hb S sb mb vb a c) {i : Nat} (hi : i < S.length) : ∃ g, a = some ⟨g, 0, none⟩ ∧ w.cell? ⟨g, i, none⟩ = some (ptr (sb i)) := by
  rcases h.row.2 with ⟨h1, h2⟩ | ⟨g, cap, cur, h1, h2, h3⟩
  · omega
  · simp only [Value.slice.injEq] at h1
    obtain ⟨rfl, -, -⟩ := h1
    refine ⟨g, rfl, ?_⟩
    rw [h.row.cellAt i (by omega)]
    simp [hi]

/-! ### within, New -/
theorem within_any (p : Option Addr) (w : World) : Calls Try.prog 19 #[.pointer p] w fun e w' => e = .returned (ptr (w.heap.size + 1)) ∧ w' = (w.alloc (.map #[] 0)).alloc (.cells (ssc p w.heap.size) 54) := by
  have hmk : (Instr.makeMap 52 none).run Try.prog w = .ok (.map (some w.heap.size)) (w.alloc (.map #[] 0)) := run_makeMap _ w
  go_enter Try.func19, Try.ntmps19
  go_wp2
  go_ret
  exact ⟨by simp [ptr], rfl⟩
/-- What New lays: a map, a scope, a row, the head. -/
theorem pat_new (w : World) : PAt w.heap.size (fun b => w.heap.size ≤ b ∧ b < w.heap.size + 4) ((((w.alloc (.map #[] 0)).alloc (.cells (ssc none w.heap.size) 54)).alloc (.cells #[ptr (w.heap.size + 1)] 41)).alloc (.cells (shd (some ⟨w.heap.size + 2, 0, none⟩) 1 1) 45)) (w.heap.size + 3) [⟨-1, []⟩] (fun _ => w.heap.size + 1) (fun _ => w.heap.size) (fun _ _ => 0) (some ⟨w.heap.size + 2, 0, none⟩) 1 := by
  obtain ⟨w1, hw1⟩ : ∃ w1, w.alloc (.map #[] 0) = w1 := ⟨_, rfl⟩
  have k1 : w1.heap.size = w.heap.size + 1 := by rw [← hw1]; simp
  have m1 : MapIs w1 w.heap.size 0 (fun _ => none) := by rw [← hw1]; exact MapIs.made w
  rw [hw1]
  obtain ⟨w2, hw2⟩ : ∃ w2, w1.alloc (.cells (ssc none w.heap.size) 54) = w2 := ⟨_, rfl⟩
  have k2 : w2.heap.size = w.heap.size + 2 := by rw [← hw2]; simp [k1]
  have m2 : MapIs w2 w.heap.size 0 (fun _ => none) := by rw [← hw2]; exact m1.old _
  have b2 : Blk w2 (w.heap.size + 1) (ssc none w.heap.size) 54 := by
    have := Blk.new w1 (ssc none w.heap.size) 54
    rw [k1] at this
    rw [← hw2]; exact this
  rw [hw2]
  obtain ⟨w3, hw3⟩ : ∃ w3, w2.alloc (.cells #[ptr (w.heap.size + 1)] 41) = w3 := ⟨_, rfl⟩
  have k3 : w3.heap.size = w.heap.size + 3 := by rw [← hw3]; simp [k2]
  have o3 : w3.ownsRow w.heap.size 41 1 (.slice (some ⟨w.heap.size + 2, 0, none⟩) 1 1) 1 [ptr (w.heap.size + 1)] := by
    have b3 := Blk.new w2 #[ptr (w.heap.size + 1)] 41
    rw [hw3, k2] at b3
    exact ⟨rfl, .inr ⟨w.heap.size + 2, 1, #[ptr (w.heap.size + 1)], rfl, by omega, b3, Nat.le_refl _, by unfold maxLen; omega, rfl, rfl⟩⟩
  have m3 : MapIs w3 w.heap.size 0 (fun _ => none) := by rw [← hw3]; exact m2.old _
  have b3 : Blk w3 (w.heap.size + 1) (ssc none w.heap.size) 54 := by rw [← hw3]; exact b2.old _
  rw [hw3]
  have h4 := Blk.new w3 (shd (some ⟨w.heap.size + 2, 0, none⟩) 1 1) 45
  rw [k3] at h4
  have one : ∀ (i : Nat) (sc : Sco), [(⟨-1, []⟩ : Sco)][i]? = some sc → i = 0 ∧ sc = ⟨-1, []⟩ := fun i sc h => by
    cases i with
    | zero => simp at h; exact ⟨rfl, h.symm⟩
    | succ i => simp at h
  refine ⟨h4, o3.alloc _, fun i sc hi => ?_, fun i sc hi => ?_, fun i sc hi => ?_, fun i j sc va hi hj => ?_, fun i j i' j' sc sc' va va' hi hj => ?_, fun i i' hi hi' _ => ?_, fun b hb => ?_, ?_, fun g hg => ?_, fun i hi => ?_, fun i hi => ?_, fun i j sc va hi hj => ?_⟩
  · obtain ⟨rfl, rfl⟩ := one i sc hi
    exact b3.old _
  · obtain ⟨rfl, rfl⟩ := one i sc hi
    exact ⟨Int.le_refl _, by simp⟩
  · obtain ⟨rfl, rfl⟩ := one i sc hi
    exact (m3.old _).congr fun s => rfl
  · obtain ⟨rfl, rfl⟩ := one i sc hi
    simp at hj
  · obtain ⟨rfl, rfl⟩ := one i sc hi
    simp at hj
  · simp at hi hi'
    omega
  · have : (w3.alloc (.cells (shd (some ⟨w.heap.size + 2, 0, none⟩) 1 1) 45)).heap.size = w3.heap.size + 1 := by simp
    rw [this]
    omega
  · omega
  · simp [Value.ownBlock] at hg
    omega
  · omega
  · omega
  · obtain ⟨rfl, rfl⟩ := one i sc hi
    simp at hj
theorem new_any (w : World) : Calls Try.prog 7 #[] w fun e w' => ∃ hb X, e = .returned (ptr hb) ∧ PIs w.heap.size X w' hb [⟨-1, []⟩] ∧ Below w.heap.size w w' := by
  go_enter Try.func7, Try.ntmps7
  go_wp2_with (go_at_call 19; refine (within_any _ _).mono ?_; rintro e w1 ⟨rfl, rfl⟩)
  go_ret
  exact ⟨w.heap.size + 3, _, by simp [ptr], ⟨_, _, _, _, _, pat_new w⟩, ((((Below.refl _ w).alloc (Nat.le_refl _) _).alloc (by simp) _).alloc (by simp; omega) _).alloc (by simp; omega) _⟩

/-! ### scope -/
theorem scope_none (h : PAt base X w hb S sb mb vb a c) {env : Int} (he : env < 0 ∨ (S.length : Int) ≤ env) : Calls Try.prog 20 #[ptr hb, .int .i64 env] w fun e w' => e = .returned (.pointer none) ∧ w' = w := by
  have c1 : w.cell? ⟨hb, 0, none⟩ = some (.slice a S.length c) := h.head.cell 0
  by_cases h0 : env < 0
  · go_enter Try.func20, Try.ntmps20
    go_wp2
    go_ret
    exact ⟨rfl, rfl⟩
  · have h1 : (S.length : Int) ≤ env := by omega
    have h0' : 0 ≤ env := by omega
    clear h0 he
    go_enter Try.func20, Try.ntmps20
    go_wp2
    go_ret
    exact ⟨rfl, rfl⟩
theorem scope_some (h : PAt base X w hb S sb mb vb a c) {i : Nat} (hi : i < S.length) : Calls Try.prog 20 #[ptr hb, .int .i64 i] w fun e w' => e = .returned (ptr (sb i)) ∧ w' = w := by
  have c1 : w.cell? ⟨hb, 0, none⟩ = some (.slice a S.length c) := h.head.cell 0
  obtain ⟨g, rfl, hc⟩ := h.cell hi
  obtain ⟨N, hN⟩ : ∃ N, S.length = N := ⟨_, rfl⟩
  rw [hN] at c1 hi
  have h1 : (i : Int) < N := by omega
  have h2 : decide ((N : Int) ≤ i) = false := by simp; omega
  have h3 : decide ((i : Int) < 0) = false := by simp
  clear h hN
  go_enter Try.func20, Try.ntmps20
  go_wp2
  go_ret
  exact ⟨rfl, rfl⟩
/-- The pointer to a scope. -/
def sptr (S : List Sco) (sb : Nat → Nat) (env : Int) : Option Nat := if there S env then some (sb env.toNat) else none
theorem there_iff {S : List Sco} {env : Int} : there S env = true ↔ 0 ≤ env ∧ env < S.length := by simp [there]
theorem sptr_par {S : List Sco} (sb : Nat → Nat) {p : Int} (h : p < S.length) : pblk sb p = sptr S sb p := by
  unfold pblk sptr
  by_cases h0 : p < 0
  · rw [if_pos h0, if_neg (by rw [there_iff]; omega)]
  · rw [if_neg h0, if_pos (by rw [there_iff]; omega)]
theorem scope_any (h : PAt base X w hb S sb mb vb a c) (env : Int) : Calls Try.prog 20 #[ptr hb, .int .i64 env] w fun e w' => e = .returned (.pointer (pto (sptr S sb env))) ∧ w' = w := by
  by_cases ht : there S env = true
  · have := there_iff.1 ht
    obtain ⟨n, rfl⟩ : ∃ n : Nat, env = n := ⟨env.toNat, by omega⟩
    have e : sptr S sb n = some (sb n) := by unfold sptr; rw [if_pos ht]; congr 2
    rw [e]
    exact scope_some h (by omega)
  · have e : sptr S sb env = none := by unfold sptr; rw [if_neg ht]
    rw [e]
    refine scope_none h ?_
    rw [there_iff] at ht
    omega

/-! ### look -/
/-- What look hands back. -/
def lookV (S : List Sco) (vb : Nat → Nat → Nat) : Option (Nat × Nat) → Value
  | none => .tuple #[.pointer none, .int .i64 1]
  | some (i, j) => match varAt S i j with
    | none => .tuple #[.pointer none, .int .i64 1]
    | some va => if va.has then .tuple #[ptr (vb i j), .int .i64 0] else .tuple #[.pointer none, .int .i64 2]
set_option maxRecDepth 100000 in
set_option maxHeartbeats 2000000 in
theorem look_any (h : PAt base X w hb S sb mb vb a c) (env : Int) {s : ByteArray} (hs : Fine s) : Calls Try.prog 23 #[ptr hb, .int .i64 env, .string s] w fun e w' => e = .returned (lookV S vb (seek S env s)) ∧ w' = w := by
  obtain ⟨R, hR⟩ : ∃ R, lookV S vb (seek S env s) = R := ⟨_, rfl⟩
  rw [hR]
  have hsc := scope_any h env
  have hst : ∃ e : Int, Value.pointer (pto (sptr S sb env)) = .pointer (pto (sptr S sb e)) ∧ lookV S vb (seek S e s) = R ∧ (env + 1).toNat = (e + 1).toNat := ⟨env, rfl, hR, rfl⟩
  obtain ⟨G, hG⟩ : ∃ G, (env + 1).toNat = G := ⟨_, rfl⟩
  obtain ⟨V, hV⟩ : ∃ V, pto (sptr S sb env) = V := ⟨_, rfl⟩
  rw [hG, hV] at hst
  rw [hV] at hsc
  have HST := Lib.hid hst
  have H := Lib.hid h
  have HF := Lib.hid hs
  clear hst h hs hG hV hR
  go_enter Try.func23, Try.ntmps23
  go_wp2_with (go_at_call 20; refine hsc.mono ?_; rintro e w1 ⟨rfl, rfl⟩)
  go_loopg [8] G (fun g v wr => wr = w1 ∧ ∃ e : Int, v = .pointer (pto (sptr S sb e)) ∧ lookV S vb (seek S e s) = R ∧ g = (e + 1).toNat)
  case atStart => exact ⟨rfl, HST.out⟩
  case round =>
    obtain ⟨rfl, e, rfl, hR, hg⟩ := hrel
    by_cases ht : there S e = true
    · have hb2 := there_iff.1 ht
      obtain ⟨n, rfl⟩ : ∃ n : Nat, e = n := ⟨e.toNat, by omega⟩
      have e1 : pto (sptr S sb n) = some ⟨sb n, 0, none⟩ := by unfold sptr; rw [if_pos ht]; simp [pto]
      obtain ⟨sc, hsc2⟩ : ∃ sc, S[n]? = some sc := ⟨S[n]'(by omega), List.getElem?_eq_getElem (by omega)⟩
      have hblk := H.out.sco n sc hsc2
      have q0 : wr.cell? ⟨sb n, 0, none⟩ = some (.pointer (pto (pblk sb sc.parent))) := hblk.cell 0
      have q1 : wr.cell? ⟨sb n, 1, none⟩ = some (.map (some (mb n))) := hblk.cell 1
      have hlk := (H.out.map n sc hsc2).look HF.out
      rw [seek_in H.out.par hsc2] at hR
      have hpar := H.out.par _ _ hsc2
      cases hf : findV sc.vs s with
      | none =>
        rw [hf] at hR hlk
        replace hR : lookV S vb (seek S sc.parent s) = R := hR
        replace hlk : (Instr.lookup 52 (.map (some (mb n))) (.string s) false).run Try.prog wr = Result.ok (.pointer none) wr := hlk
        rw [sptr_par sb (show sc.parent < S.length by omega)] at q0
        have HR := Lib.hid hR
        have HG := Lib.hid hg
        have HP := Lib.hid hpar
        rw [e1]
        obtain ⟨B, hB⟩ : ∃ B, sb n = B := ⟨_, rfl⟩
        obtain ⟨M, hM⟩ : ∃ M, mb n = M := ⟨_, rfl⟩
        obtain ⟨PP, hPP⟩ : ∃ PP, pto (sptr S sb sc.parent) = PP := ⟨_, rfl⟩
        rw [hB, hPP] at q0
        rw [hB, hM] at q1
        rw [hM] at hlk
        rw [hB]
        have HPP := Lib.hid hPP
        clear hR hg hpar hf hblk ht hb2 e1 hsc hB hM hPP hsc2
        go_wp2
        go_roundg (sc.parent + 1).toNat
        case measure => have := HG.out; have := HP.out; omega
        case rel => exact ⟨rfl, sc.parent, by rw [HPP.out], HR.out, rfl⟩
      | some j =>
        rw [hf] at hR hlk
        obtain ⟨va, hva, hnm⟩ := findV_some hf
        have hvb := H.out.var n j sc va hsc2 hva
        have e2 : lookV S vb (some (n, j)) = if va.has then .tuple #[ptr (vb n j), .int .i64 0] else .tuple #[.pointer none, .int .i64 2] := by simp [lookV, varAt, hsc2, hva]
        replace hR : lookV S vb (some (n, j)) = R := hR
        rw [e2] at hR
        have q2 : wr.cell? ⟨vb n j, 3, none⟩ = some (.bool va.has) := by rw [hvb.cell, pcs_3]
        replace hlk : (Instr.lookup 52 (.map (some (mb n))) (.string s) false).run Try.prog wr = Result.ok (.pointer (some ⟨vb n j, 0, none⟩)) wr := hlk
        rw [e1]
        cases hh : va.has with
        | true =>
          rw [hh] at hR q2
          subst hR
          clear hvb hf hblk ht hb2 e1 hsc hg hpar e2
          go_wp2
          go_ret2
          exact ⟨rfl, rfl⟩
        | false =>
          rw [hh] at hR q2
          subst hR
          clear hvb hf hblk ht hb2 e1 hsc hg hpar e2
          go_wp2
          go_ret2
          exact ⟨rfl, rfl⟩
    · have e1 : pto (sptr S sb e) = none := by unfold sptr; rw [if_neg ht]; rfl
      rw [e1]
      have e2 : seek S e s = none := seek_out (by rw [there_iff] at ht; omega) s
      rw [e2] at hR
      subst hR
      clear hsc ht hg e2 e1
      go_wp2
      go_ret2
      exact ⟨rfl, rfl⟩
end
end Go.Proofs.Ytglnihecgjfkiaa.Sc
