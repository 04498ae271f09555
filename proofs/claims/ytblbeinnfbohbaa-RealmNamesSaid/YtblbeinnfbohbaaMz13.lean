/-
  Texts of this seat in build order: ScAt, ScOps, ScCall.
-/
import Derived.Test.YtblbeinnfbohbaaMz12
import Derived.Deep.LoopGhost
import Derived.Deep.RegionWith
import Derived.Deep.RegionLaw
/-
  The program's scopes in memory; what reads them: scope, look.
-/
namespace Go.Proofs.Ytblbeinnfbohbaa.Sc
open Go Go.RowKit Go.Maps
set_option linter.unusedVariables false
set_option linter.unusedSimpArgs false
attribute [local irreducible] vcs pcs

/-- The block of a scope's parent. -/
def pblk (sb : Nat → Nat) (p : Int) : Option Nat := if p < 0 then none else some (sb p.toNat)
theorem pblk_nat (sb : Nat → Nat) (i : Nat) : pblk sb i = some (sb i) := by
  unfold pblk
  rw [if_neg (by omega)]
  congr 2
abbrev shd (a : Option Addr) (n c : Nat) : Array Value := #[.slice a n c]
abbrev ssc (p : Option Addr) (m : Nat) : Array Value := #[.pointer p, .map (some m)]
/-- Scopes lie at hb; X: the blocks that are theirs. -/
structure PAt (base : Nat) (X : Nat → Prop) (w : World) (hb : Nat) (S : List Sco) (sb mb : Nat → Nat) (vb : Nat → Nat → Nat) (a : Option Addr) (c : Nat) : Prop where
  head : Blk w hb (shd a S.length c) 55
  row : w.ownsRow base 51 1 (.slice a S.length c) S.length ((List.range S.length).map fun i => ptr (sb i))
  sco : ∀ (i : Nat) (sc : Sco), S[i]? = some sc → Blk w (sb i) (ssc (pto (pblk sb sc.parent)) (mb i)) 78
  par : Par S
  map : ∀ (i : Nat) (sc : Sco), S[i]? = some sc → MapIs w (mb i) sc.vs.length (fun s => (findV sc.vs s).map (vb i))
  var : ∀ (i j : Nat) (sc : Sco) (va : Va), S[i]? = some sc → sc.vs[j]? = some va → Blk w (vb i j) (pcs va) 69
  vinj : ∀ (i j i' j' : Nat) (sc sc' : Sco) (va va' : Va), S[i]? = some sc → sc.vs[j]? = some va → S[i']? = some sc' → sc'.vs[j']? = some va' → vb i j = vb i' j' → i = i' ∧ j = j'
  minj : ∀ (i i' : Nat), i < S.length → i' < S.length → mb i = mb i' → i = i'
  low : ∀ b, X b → base ≤ b ∧ b < w.heap.size
  xh : X hb
  xr : ∀ g, (Value.slice a S.length c).ownBlock = some g → X g
  xs : ∀ i, i < S.length → X (sb i)
  xm : ∀ i, i < S.length → X (mb i)
  xv : ∀ (i j : Nat) (sc : Sco) (va : Va), S[i]? = some sc → sc.vs[j]? = some va → X (vb i j)
def PIs (base : Nat) (X : Nat → Prop) (w : World) (hb : Nat) (S : List Sco) : Prop := ∃ sb mb vb a c, PAt base X w hb S sb mb vb a c
section

variable {base : Nat} {X : Nat → Prop} {w w' : World} {hb : Nat} {S : List Sco} {sb mb : Nat → Nat} {vb : Nat → Nat → Nat} {a : Option Addr} {c : Nat}

theorem at_lt {l : List Sco} {i : Nat} {sc : Sco} (h : l[i]? = some sc) : i < l.length := (List.getElem?_eq_some_iff.1 h).1
theorem PAt.same (h : PAt base X w hb S sb mb vb a c) (hw : ∀ b, X b → w'.heap[b]? = w.heap[b]?) (hs : w.heap.size ≤ w'.heap.size) : PAt base X w' hb S sb mb vb a c where
  head := (hw _ h.xh).trans h.head
  row := own_same h.row fun g hg => hw g (h.xr g hg)
  sco := fun i sc hi => (hw _ (h.xs i (at_lt hi))).trans (h.sco i sc hi)
  par := h.par
  map := fun i sc hi => (h.map i sc hi).same (hw _ (h.xm i (at_lt hi)))
  var := fun i j sc va hi hj => (hw _ (h.xv i j sc va hi hj)).trans (h.var i j sc va hi hj)
  vinj := h.vinj
  minj := h.minj
  low := fun b hb => ⟨(h.low b hb).1, Nat.lt_of_lt_of_le (h.low b hb).2 hs⟩
  xh := h.xh
  xr := h.xr
  xs := h.xs
  xm := h.xm
  xv := h.xv
theorem PIs.same (h : PIs base X w hb S) (hw : ∀ b, X b → w'.heap[b]? = w.heap[b]?) (hs : w.heap.size ≤ w'.heap.size) : PIs base X w' hb S := by
  obtain ⟨sb, mb, vb, a, c, h⟩ := h
  exact ⟨sb, mb, vb, a, c, h.same hw hs⟩
theorem PIs.low (h : PIs base X w hb S) : ∀ b, X b → base ≤ b ∧ b < w.heap.size := by
  obtain ⟨sb, mb, vb, a, c, h⟩ := h
  exact h.low
theorem PIs.par (h : PIs base X w hb S) : Par S := by
  obtain ⟨sb, mb, vb, a, c, h⟩ := h
  exact h.par
theorem PIs.below (h : PIs base X w hb S) (hb' : Below w.heap.size w w') : PIs base X w' hb S := h.same (fun b hx => hb'.block b (h.low b hx).2) hb'.size
theorem PIs.alloc (h : PIs base X w hb S) (o : Obj) : PIs base X (w.alloc o) hb S := h.same (fun b hx => heap_alloc_old w o (h.low b hx).2) (by simp)
theorem PIs.drew (h : PIs base X w hb S) : PIs base X w.drew hb S := h.same (fun _ _ => rfl) (Nat.le_refl _)
theorem PIs.step {Y Y' : Nat → Prop} (h : PIs base X w hb S) (k : Step Y Y' w w') (hd : ∀ b, X b → ¬ Y b) : PIs base X w' hb S := h.same (fun b hx => k.stay b (h.low b hx).2 (hd b hx)) k.fr.size
theorem PAt.cell (h : PAt base X w hb S sb mb vb a c) {i : Nat} (hi : i < S.length) : ∃ g, a = some ⟨g, 0, none⟩ ∧ w.cell? ⟨g, i, none⟩ = some (ptr (sb i)) := by
  rcases h.row.2 with ⟨h1, h2⟩ | ⟨g, cap, cur, h1, h2, h3⟩
  · omega
  · simp only [Value.slice.injEq] at h1
    obtain ⟨rfl, -, -⟩ := h1
    refine ⟨g, rfl, ?_⟩
    rw [h.row.cellAt i (by omega)]
    simp [hi]

/-! ### within, New -/
theorem within_any (p : Option Addr) (w : World) : Calls Try.prog 13 #[.pointer p] w fun e w' => e = .returned (ptr (w.heap.size + 1)) ∧ w' = (w.alloc (.map #[] 0)).alloc (.cells (ssc p w.heap.size) 78) := by
  have hmk : (Instr.makeMap 76 none).run Try.prog w = .ok (.map (some w.heap.size)) (w.alloc (.map #[] 0)) := run_makeMap _ w
  go_enter Try.func13, Try.ntmps13
  go_wp2
  go_ret
  exact ⟨by simp [ptr], rfl⟩
/-- What New lays: a map, a scope, a row, the head. -/
theorem pat_new (w : World) : PAt w.heap.size (fun b => w.heap.size ≤ b ∧ b < w.heap.size + 4) ((((w.alloc (.map #[] 0)).alloc (.cells (ssc none w.heap.size) 78)).alloc (.cells #[ptr (w.heap.size + 1)] 51)).alloc (.cells (shd (some ⟨w.heap.size + 2, 0, none⟩) 1 1) 55)) (w.heap.size + 3) [⟨-1, []⟩] (fun _ => w.heap.size + 1) (fun _ => w.heap.size) (fun _ _ => 0) (some ⟨w.heap.size + 2, 0, none⟩) 1 := by
  obtain ⟨w1, hw1⟩ : ∃ w1, w.alloc (.map #[] 0) = w1 := ⟨_, rfl⟩
  have k1 : w1.heap.size = w.heap.size + 1 := by rw [← hw1]; simp
  have m1 : MapIs w1 w.heap.size 0 (fun _ => none) := by rw [← hw1]; exact MapIs.made w
  rw [hw1]
  obtain ⟨w2, hw2⟩ : ∃ w2, w1.alloc (.cells (ssc none w.heap.size) 78) = w2 := ⟨_, rfl⟩
  have k2 : w2.heap.size = w.heap.size + 2 := by rw [← hw2]; simp [k1]
  have m2 : MapIs w2 w.heap.size 0 (fun _ => none) := by rw [← hw2]; exact m1.old _
  have b2 : Blk w2 (w.heap.size + 1) (ssc none w.heap.size) 78 := by
    have := Blk.new w1 (ssc none w.heap.size) 78
    rw [k1] at this
    rw [← hw2]; exact this
  rw [hw2]
  obtain ⟨w3, hw3⟩ : ∃ w3, w2.alloc (.cells #[ptr (w.heap.size + 1)] 51) = w3 := ⟨_, rfl⟩
  have k3 : w3.heap.size = w.heap.size + 3 := by rw [← hw3]; simp [k2]
  have o3 : w3.ownsRow w.heap.size 51 1 (.slice (some ⟨w.heap.size + 2, 0, none⟩) 1 1) 1 [ptr (w.heap.size + 1)] := by
    have b3 := Blk.new w2 #[ptr (w.heap.size + 1)] 51
    rw [hw3, k2] at b3
    exact ⟨rfl, .inr ⟨w.heap.size + 2, 1, #[ptr (w.heap.size + 1)], rfl, by omega, b3, Nat.le_refl _, by unfold maxLen; omega, rfl, rfl⟩⟩
  have m3 : MapIs w3 w.heap.size 0 (fun _ => none) := by rw [← hw3]; exact m2.old _
  have b3 : Blk w3 (w.heap.size + 1) (ssc none w.heap.size) 78 := by rw [← hw3]; exact b2.old _
  rw [hw3]
  have h4 := Blk.new w3 (shd (some ⟨w.heap.size + 2, 0, none⟩) 1 1) 55
  rw [k3] at h4
  have one : ∀ (i : Nat) (sc : Sco), [(⟨-1, []⟩ : Sco)][i]? = some sc → i = 0 ∧ sc = ⟨-1, []⟩ := fun i sc h => by
    cases i with
    | zero => simp at h; exact ⟨rfl, h.symm⟩
    | succ i => simp at h
  refine ⟨h4, o3.alloc _, fun i sc hi => ?_, fun i sc hi => ?_, fun i sc hi => ?_, fun i j sc va hi hj => ?_, fun i j i' j' sc sc' va va' hi hj => ?_, fun i i' hi hi' _ => ?_, fun b hb => ?_, ?_, fun g hg => ?_, fun i hi => ?_, fun i hi => ?_, fun i j sc va hi hj => ?_⟩
  · obtain ⟨rfl, rfl⟩ := one i sc hi
    exact b3.old _
  · obtain ⟨rfl, rfl⟩ := one i sc hi
    exact ⟨Int.le_refl _, by simp⟩
  · obtain ⟨rfl, rfl⟩ := one i sc hi
    exact (m3.old _).congr fun s => rfl
  · obtain ⟨rfl, rfl⟩ := one i sc hi
    simp at hj
  · obtain ⟨rfl, rfl⟩ := one i sc hi
    simp at hj
  · simp at hi hi'
    omega
  · have : (w3.alloc (.cells (shd (some ⟨w.heap.size + 2, 0, none⟩) 1 1) 55)).heap.size = w3.heap.size + 1 := by simp
    rw [this]
    omega
  · omega
  · simp [Value.ownBlock] at hg
    omega
  · omega
  · omega
  · obtain ⟨rfl, rfl⟩ := one i sc hi
    simp at hj
theorem new_any (w : World) : Calls Try.prog 6 #[] w fun e w' => ∃ hb X, e = .returned (ptr hb) ∧ PIs w.heap.size X w' hb [⟨-1, []⟩] ∧ Below w.heap.size w w' := by
  go_enter Try.func6, Try.ntmps6
  go_wp2_with (go_at_call 13; refine (within_any _ _).mono ?_; rintro e w1 ⟨rfl, rfl⟩)
  go_ret
  exact ⟨w.heap.size + 3, _, by simp [ptr], ⟨_, _, _, _, _, pat_new w⟩, ((((Below.refl _ w).alloc (Nat.le_refl _) _).alloc (by simp) _).alloc (by simp; omega) _).alloc (by simp; omega) _⟩

/-! ### scope -/
theorem scope_none (h : PAt base X w hb S sb mb vb a c) {env : Int} (he : env < 0 ∨ (S.length : Int) ≤ env) : Calls Try.prog 32 #[ptr hb, .int .i64 env] w fun e w' => e = .returned (.pointer none) ∧ w' = w := by
  have c1 : w.cell? ⟨hb, 0, none⟩ = some (.slice a S.length c) := h.head.cell 0
  by_cases h0 : env < 0
  · go_enter Try.func32, Try.ntmps32
    go_wp2
    go_ret
    exact ⟨rfl, rfl⟩
  · have h1 : (S.length : Int) ≤ env := by omega
    have h0' : 0 ≤ env := by omega
    clear h0 he
    go_enter Try.func32, Try.ntmps32
    go_wp2
    go_ret
    exact ⟨rfl, rfl⟩
theorem scope_some (h : PAt base X w hb S sb mb vb a c) {i : Nat} (hi : i < S.length) : Calls Try.prog 32 #[ptr hb, .int .i64 i] w fun e w' => e = .returned (ptr (sb i)) ∧ w' = w := by
  have c1 : w.cell? ⟨hb, 0, none⟩ = some (.slice a S.length c) := h.head.cell 0
  obtain ⟨g, rfl, hc⟩ := h.cell hi
  obtain ⟨N, hN⟩ : ∃ N, S.length = N := ⟨_, rfl⟩
  rw [hN] at c1 hi
  have h1 : (i : Int) < N := by omega
  have h2 : decide ((N : Int) ≤ i) = false := by simp; omega
  have h3 : decide ((i : Int) < 0) = false := by simp
  clear h hN
  go_enter Try.func32, Try.ntmps32
  go_wp2
  go_ret
  exact ⟨rfl, rfl⟩
/-- The pointer to a scope. -/
def sptr (S : List Sco) (sb : Nat → Nat) (env : Int) : Option Nat := if there S env then some (sb env.toNat) else none
theorem there_iff {S : List Sco} {env : Int} : there S env = true ↔ 0 ≤ env ∧ env < S.length := by simp [there]
theorem sptr_par {S : List Sco} (sb : Nat → Nat) {p : Int} (h : p < S.length) : pblk sb p = sptr S sb p := by
  unfold pblk sptr
  by_cases h0 : p < 0
  · rw [if_pos h0, if_neg (by rw [there_iff]; omega)]
  · rw [if_neg h0, if_pos (by rw [there_iff]; omega)]
theorem scope_any (h : PAt base X w hb S sb mb vb a c) (env : Int) : Calls Try.prog 32 #[ptr hb, .int .i64 env] w fun e w' => e = .returned (.pointer (pto (sptr S sb env))) ∧ w' = w := by
  by_cases ht : there S env = true
  · have := there_iff.1 ht
    obtain ⟨n, rfl⟩ : ∃ n : Nat, env = n := ⟨env.toNat, by omega⟩
    have e : sptr S sb n = some (sb n) := by unfold sptr; rw [if_pos ht]; congr 2
    rw [e]
    exact scope_some h (by omega)
  · have e : sptr S sb env = none := by unfold sptr; rw [if_neg ht]
    rw [e]
    refine scope_none h ?_
    rw [there_iff] at ht
    omega

/-! ### look -/
/-- What look hands back. -/
def lookV (S : List Sco) (vb : Nat → Nat → Nat) : Option (Nat × Nat) → Value
  | none => .tuple #[.pointer none, .int .i64 1]
  | some (i, j) => match varAt S i j with
    | none => .tuple #[.pointer none, .int .i64 1]
    | some va => if va.has then .tuple #[ptr (vb i j), .int .i64 0] else .tuple #[.pointer none, .int .i64 2]
set_option maxRecDepth 100000 in
set_option maxHeartbeats 2000000 in
theorem look_any (h : PAt base X w hb S sb mb vb a c) (env : Int) {s : ByteArray} (hs : Fine s) : Calls Try.prog 22 #[ptr hb, .int .i64 env, .string s] w fun e w' => e = .returned (lookV S vb (seek S env s)) ∧ w' = w := by
  obtain ⟨R, hR⟩ : ∃ R, lookV S vb (seek S env s) = R := ⟨_, rfl⟩
  rw [hR]
  have hsc := scope_any h env
  have hst : ∃ e : Int, Value.pointer (pto (sptr S sb env)) = .pointer (pto (sptr S sb e)) ∧ lookV S vb (seek S e s) = R ∧ (env + 1).toNat = (e + 1).toNat := ⟨env, rfl, hR, rfl⟩
  obtain ⟨G, hG⟩ : ∃ G, (env + 1).toNat = G := ⟨_, rfl⟩
  obtain ⟨V, hV⟩ : ∃ V, pto (sptr S sb env) = V := ⟨_, rfl⟩
  rw [hG, hV] at hst
  rw [hV] at hsc
  have HST := Lib.hid hst
  have H := Lib.hid h
  have HF := Lib.hid hs
  clear hst h hs hG hV hR
  go_enter Try.func22, Try.ntmps22
  go_wp2_with (go_at_call 32; refine hsc.mono ?_; rintro e w1 ⟨rfl, rfl⟩)
  go_loopg [8] G (fun g v wr => wr = w1 ∧ ∃ e : Int, v = .pointer (pto (sptr S sb e)) ∧ lookV S vb (seek S e s) = R ∧ g = (e + 1).toNat)
  case atStart => exact ⟨rfl, HST.out⟩
  case round =>
    obtain ⟨rfl, e, rfl, hR, hg⟩ := hrel
    by_cases ht : there S e = true
    · have hb2 := there_iff.1 ht
      obtain ⟨n, rfl⟩ : ∃ n : Nat, e = n := ⟨e.toNat, by omega⟩
      have e1 : pto (sptr S sb n) = some ⟨sb n, 0, none⟩ := by unfold sptr; rw [if_pos ht]; simp [pto]
      obtain ⟨sc, hsc2⟩ : ∃ sc, S[n]? = some sc := ⟨S[n]'(by omega), List.getElem?_eq_getElem (by omega)⟩
      have hblk := H.out.sco n sc hsc2
      have q0 : wr.cell? ⟨sb n, 0, none⟩ = some (.pointer (pto (pblk sb sc.parent))) := hblk.cell 0
      have q1 : wr.cell? ⟨sb n, 1, none⟩ = some (.map (some (mb n))) := hblk.cell 1
      have hlk := (H.out.map n sc hsc2).look HF.out
      rw [seek_in H.out.par hsc2] at hR
      have hpar := H.out.par _ _ hsc2
      cases hf : findV sc.vs s with
      | none =>
        rw [hf] at hR hlk
        replace hR : lookV S vb (seek S sc.parent s) = R := hR
        replace hlk : (Instr.lookup 76 (.map (some (mb n))) (.string s) false).run Try.prog wr = Result.ok (.pointer none) wr := hlk
        rw [sptr_par sb (show sc.parent < S.length by omega)] at q0
        have HR := Lib.hid hR
        have HG := Lib.hid hg
        have HP := Lib.hid hpar
        rw [e1]
        obtain ⟨B, hB⟩ : ∃ B, sb n = B := ⟨_, rfl⟩
        obtain ⟨M, hM⟩ : ∃ M, mb n = M := ⟨_, rfl⟩
        obtain ⟨PP, hPP⟩ : ∃ PP, pto (sptr S sb sc.parent) = PP := ⟨_, rfl⟩
        rw [hB, hPP] at q0
        rw [hB, hM] at q1
        rw [hM] at hlk
        rw [hB]
        have HPP := Lib.hid hPP
        clear hR hg hpar hf hblk ht hb2 e1 hsc hB hM hPP hsc2
        go_wp2
        go_roundg (sc.parent + 1).toNat
        case measure => have := HG.out; have := HP.out; omega
        case rel => exact ⟨rfl, sc.parent, by rw [HPP.out], HR.out, rfl⟩
      | some j =>
        rw [hf] at hR hlk
        obtain ⟨va, hva, hnm⟩ := findV_some hf
        have hvb := H.out.var n j sc va hsc2 hva
        have e2 : lookV S vb (some (n, j)) = if va.has then .tuple #[ptr (vb n j), .int .i64 0] else .tuple #[.pointer none, .int .i64 2] := by simp [lookV, varAt, hsc2, hva]
        replace hR : lookV S vb (some (n, j)) = R := hR
        rw [e2] at hR
        have q2 : wr.cell? ⟨vb n j, 3, none⟩ = some (.bool va.has) := by rw [hvb.cell, pcs_3]
        replace hlk : (Instr.lookup 76 (.map (some (mb n))) (.string s) false).run Try.prog wr = Result.ok (.pointer (some ⟨vb n j, 0, none⟩)) wr := hlk
        rw [e1]
        cases hh : va.has with
        | true =>
          rw [hh] at hR q2
          subst hR
          clear hvb hf hblk ht hb2 e1 hsc hg hpar e2
          go_wp2
          go_ret2
          exact ⟨rfl, rfl⟩
        | false =>
          rw [hh] at hR q2
          subst hR
          clear hvb hf hblk ht hb2 e1 hsc hg hpar e2
          go_wp2
          go_ret2
          exact ⟨rfl, rfl⟩
    · have e1 : pto (sptr S sb e) = none := by unfold sptr; rw [if_neg ht]; rfl
      rw [e1]
      have e2 : seek S e s = none := seek_out (by rw [there_iff] at ht; omega) s
      rw [e2] at hR
      subst hR
      clear hsc ht hg e2 e1
      go_wp2
      go_ret2
      exact ⟨rfl, rfl⟩
end

end Go.Proofs.Ytblbeinnfbohbaa.Sc

/-
  The program's calls on scopes: Get, Set, Begin, Let.
-/
namespace Go.Proofs.Ytblbeinnfbohbaa.Sc
open Go Go.RowKit Go.Maps
set_option linter.unusedVariables false
set_option linter.unusedSimpArgs false
attribute [local go_sem ↓] ldV stV alV bxV bxP

attribute [local irreducible] vcs pcs

attribute [local go_sem] run_bx run_alV

/-- What is theirs behind a call: what was theirs, and all that is new. -/
def Also (X : Nat → Prop) (w w' : World) : Nat → Prop := fun b => X b ∨ (w.heap.size ≤ b ∧ b < w'.heap.size)
/-- How a call on scopes ends. -/
def Ends (base : Nat) (X : Nat → Prop) (hb : Nat) (w : World) (r : Value) (S : List Sco) (e : Ending) (w' : World) : Prop := e = .returned r ∧ PIs base (Also X w w') w' hb S ∧ Step X (Also X w w') w w'
theorem also_more {X : Nat → Prop} {w w' : World} : ∀ b, Also X w w' b → X b ∨ w.heap.size ≤ b := fun b h => h.imp id fun k => k.1
section

variable {base : Nat} {X : Nat → Prop} {w w' : World} {hb : Nat} {S : List Sco} {sb mb : Nat → Nat} {vb : Nat → Nat → Nat} {a : Option Addr} {c : Nat}

theorem PAt.also (h : PAt base X w hb S sb mb vb a c) (hw : ∀ b, b < w.heap.size → w'.heap[b]? = w.heap[b]?) (hs : w.heap.size ≤ w'.heap.size) (hbase : base ≤ w.heap.size) : PAt base (Also X w w') w' hb S sb mb vb a c := by
  have k := h.same (w' := w') (fun b hx => hw b (h.low b hx).2) hs
  exact ⟨k.head, k.row, k.sco, k.par, k.map, k.var, k.vinj, k.minj, fun b hb => hb.elim (fun hx => k.low b hx) (fun hx => ⟨Nat.le_trans hbase hx.1, hx.2⟩), .inl k.xh, fun g hg => .inl (k.xr g hg), fun i hi => .inl (k.xs i hi), fun i hi => .inl (k.xm i hi), fun i j sc va hi hj => .inl (k.xv i j sc va hi hj)⟩
theorem PAt.lowb (h : PAt base X w hb S sb mb vb a c) : base ≤ w.heap.size := by have := h.low _ h.xh; omega
/-- Nothing of theirs has turned. -/
theorem PAt.ends (h : PAt base X w hb S sb mb vb a c) {r : Value} (hw : Below w.heap.size w w') : Ends base X hb w r S (.returned r) w' :=
  ⟨rfl, ⟨sb, mb, vb, a, c, h.also (fun b hb => hw.block b hb) hw.size h.lowb⟩, ⟨(Fr.refl w).below hw, fun b hb _ => hw.block b hb, also_more⟩⟩
/-- A variable has turned. -/
theorem PAt.setVar (h : PAt base X w hb S sb mb vb a c) {i j : Nat} {sc : Sco} {va va' : Va} (hi : S[i]? = some sc) (hj : sc.vs[j]? = some va) (hn : va'.name = va.name) (hw : ∀ b, b < w.heap.size → b ≠ vb i j → w'.heap[b]? = w.heap[b]?) (hs : w.heap.size ≤ w'.heap.size)
    (hv : Blk w' (vb i j) (pcs va') 69) : PAt base (Also X w w') w' hb (setVs S i (sc.vs.set j va')) sb mb vb a c := by
  have hb0 := h.var i j sc va hi hj
  have len := setVs_len S i (sc.vs.set j va')
  have hnb : ∀ {b : Nat} {cs : Array Value} {t : TypeId}, Blk w b cs t → t ≠ 69 → w'.heap[b]? = w.heap[b]? := fun hbk ht => hw _ hbk.lt (ne_blk hbk hb0 ht)
  refine ⟨?_, ?_, fun k sk hk => ?_, h.par.setVs _ _, fun k sk hk => ?_, fun k l sk vk hk hl => ?_, fun k l k' l' sk sk' vk vk' hk hl hk' hl' e => ?_, fun k k' hk hk' e => ?_, fun b hb => ?_, .inl h.xh, fun g hg => ?_, fun k hk => ?_, fun k hk => ?_, fun k l sk vk hk hl => ?_⟩
  · rw [len]; exact (hnb h.head (by decide)).trans h.head
  · rw [len]; exact own_same h.row fun g hg => hw g (h.row.lt g hg).2 fun e => own_ne h.row hb0 (by decide) (by rw [hg, e])
  · rcases setVs_cases hk with ⟨_, h1⟩ | ⟨rfl, sc0, h1, rfl⟩
    · exact (hnb (h.sco k sk h1) (by decide)).trans (h.sco k sk h1)
    · exact (hnb (h.sco k sc0 h1) (by decide)).trans (h.sco k sc0 h1)
  · have hm : ∀ sk, S[k]? = some sk → w'.heap[mb k]? = w.heap[mb k]? := fun sk hk => hw _ (h.map k sk hk).lt ((h.map k sk hk).not_blk hb0).symm
    rcases setVs_cases hk with ⟨_, h1⟩ | ⟨rfl, sc0, h1, rfl⟩
    · exact (h.map k sk h1).same (hm sk h1)
    · rw [hi] at h1
      cases h1
      have := (h.map k sc hi).same (hm sc hi)
      simp only [List.length_set]
      exact this.congr fun s => by rw [findV_set sc.vs j va va' hj hn]
  · rcases setVs_cases hk with ⟨hne, h1⟩ | ⟨rfl, sc0, h1, rfl⟩
    · refine (hw _ (h.var k l sk vk h1 hl).lt fun e => hne ?_).trans (h.var k l sk vk h1 hl)
      exact (h.vinj k l i j sk sc vk va h1 hl hi hj e).1
    · rw [hi] at h1
      cases h1
      simp only at hl
      by_cases e : l = j
      · subst e
        rw [List.getElem?_set_self (by have := (List.getElem?_eq_some_iff.1 hj).1; omega)] at hl
        cases hl
        exact hv
      · rw [List.getElem?_set_ne (fun h => e h.symm)] at hl
        refine (hw _ (h.var k l sc vk hi hl).lt fun e2 => e ?_).trans (h.var k l sc vk hi hl)
        exact (h.vinj k l k j sc sc vk va hi hl hi hj e2).2
  · have old : ∀ (k l : Nat) (sk : Sco) (vk : Va), (setVs S i (sc.vs.set j va'))[k]? = some sk → sk.vs[l]? = some vk → ∃ sk0 vk0, S[k]? = some sk0 ∧ sk0.vs[l]? = some vk0 := fun k l sk vk hk hl => by
      rcases setVs_cases hk with ⟨_, h1⟩ | ⟨rfl, sc0, h1, rfl⟩
      · exact ⟨sk, vk, h1, hl⟩
      · simp only at hl
        have : l < sc.vs.length := by have := (List.getElem?_eq_some_iff.1 hl).1; simpa using this
        exact ⟨sc, sc.vs[l], hi, List.getElem?_eq_getElem this⟩
    obtain ⟨s1, v1, q1, q2⟩ := old k l sk vk hk hl
    obtain ⟨s2, v2, q3, q4⟩ := old k' l' sk' vk' hk' hl'
    exact h.vinj k l k' l' s1 s2 v1 v2 q1 q2 q3 q4 e
  · rw [len] at hk hk'
    exact h.minj k k' hk hk' e
  · exact hb.elim (fun hx => ⟨(h.low b hx).1, Nat.lt_of_lt_of_le (h.low b hx).2 hs⟩) (fun hx => ⟨Nat.le_trans h.lowb hx.1, hx.2⟩)
  · rw [len] at hg; exact .inl (h.xr g hg)
  · rw [len] at hk; exact .inl (h.xs k hk)
  · rw [len] at hk; exact .inl (h.xm k hk)
  · rcases setVs_cases hk with ⟨_, h1⟩ | ⟨rfl, sc0, h1, rfl⟩
    · exact .inl (h.xv k l sk vk h1 hl)
    · simp only at hl
      have : l < sc.vs.length := by have := (List.getElem?_eq_some_iff.1 hl).1; simpa using this
      exact .inl (h.xv k l sc sc.vs[l] hi (List.getElem?_eq_getElem this))
/-- A variable has come. -/
theorem PAt.addVar (h : PAt base X w hb S sb mb vb a c) {i : Nat} {sc : Sco} {va : Va} (hi : S[i]? = some sc) (hn : findV sc.vs va.name = none) (hw : ∀ b, b < w.heap.size → b ≠ mb i → w'.heap[b]? = w.heap[b]?) (hs : w.heap.size < w'.heap.size)
    (hv : Blk w' w.heap.size (pcs va) 69) (hm : MapIs w' (mb i) (sc.vs.length + 1) (upd (fun s => (findV sc.vs s).map (vb i)) va.name (some w.heap.size))) :
    PAt base (Also X w w') w' hb (setVs S i (sc.vs ++ [va])) sb mb (fun k l => if k = i ∧ l = sc.vs.length then w.heap.size else vb k l) a c := by
  have len := setVs_len S i (sc.vs ++ [va])
  have hmi := h.map i sc hi
  have hnb : ∀ {b : Nat} {cs : Array Value} {t : TypeId}, Blk w b cs t → w'.heap[b]? = w.heap[b]? := fun hbk => hw _ hbk.lt (hmi.not_blk hbk)
  have old : ∀ (k l : Nat) (sk : Sco) (vk : Va), (setVs S i (sc.vs ++ [va]))[k]? = some sk → sk.vs[l]? = some vk → (k = i ∧ l = sc.vs.length ∧ vk = va) ∨ (¬ (k = i ∧ l = sc.vs.length) ∧ ∃ sk0, S[k]? = some sk0 ∧ sk0.vs[l]? = some vk) := fun k l sk vk hk hl => by
    rcases setVs_cases hk with ⟨hne, h1⟩ | ⟨rfl, sc0, h1, rfl⟩
    · exact .inr ⟨fun e => hne e.1, sk, h1, hl⟩
    · simp only at hl
      by_cases e : l = sc.vs.length
      · subst e
        simp at hl
        exact .inl ⟨rfl, rfl, hl.symm⟩
      · refine .inr ⟨fun e2 => e e2.2, sc, hi, ?_⟩
        have : l < sc.vs.length := by have := (List.getElem?_eq_some_iff.1 hl).1; simp at this; omega
        rwa [List.getElem?_append_left this] at hl
  refine ⟨?_, ?_, fun k sk hk => ?_, h.par.setVs _ _, fun k sk hk => ?_, fun k l sk vk hk hl => ?_, fun k l k' l' sk sk' vk vk' hk hl hk' hl' e => ?_, fun k k' hk hk' e => ?_, fun b hb => ?_, .inl h.xh, fun g hg => ?_, fun k hk => ?_, fun k hk => ?_, fun k l sk vk hk hl => ?_⟩
  · rw [len]; exact (hnb h.head).trans h.head
  · rw [len]; exact own_same h.row fun g hg => hw g (h.row.lt g hg).2 fun e => hmi.not_own h.row (by rw [hg, e])
  · rcases setVs_cases hk with ⟨_, h1⟩ | ⟨rfl, sc0, h1, rfl⟩
    · exact (hnb (h.sco k sk h1)).trans (h.sco k sk h1)
    · exact (hnb (h.sco k sc0 h1)).trans (h.sco k sc0 h1)
  · rcases setVs_cases hk with ⟨hne, h1⟩ | ⟨rfl, sc0, h1, rfl⟩
    · refine ((h.map k sk h1).same (hw _ (h.map k sk h1).lt fun e => hne (h.minj k i (at_lt h1) (at_lt hi) e))).congr fun s => ?_
      cases findV sk.vs s with
      | none => rfl
      | some j => simp [hne]
    · simp only [List.length_append, List.length_cons, List.length_nil]
      refine hm.congr fun s => ?_
      rw [findV_snoc sc.vs va hn]
      unfold upd
      by_cases e : s = va.name
      · simp [e]
      · rw [if_neg e, if_neg e]
        show (findV sc.vs s).map (vb k) = _
        cases hf : findV sc.vs s with
        | none => rfl
        | some j =>
          obtain ⟨x, hx, -⟩ := findV_some hf
          have : j < sc.vs.length := (List.getElem?_eq_some_iff.1 hx).1
          have : ¬ j = sc.vs.length := by omega
          simp [this]
  · rcases old k l sk vk hk hl with ⟨rfl, rfl, rfl⟩ | ⟨hne, sk0, h1, h2⟩
    · rw [if_pos ⟨rfl, rfl⟩]; exact hv
    · rw [if_neg hne]; exact (hnb (h.var k l sk0 vk h1 h2)).trans (h.var k l sk0 vk h1 h2)
  · rcases old k l sk vk hk hl with ⟨rfl, rfl, rfl⟩ | ⟨hne, sk0, h1, h2⟩
    · rcases old k' l' sk' vk' hk' hl' with ⟨rfl, rfl, rfl⟩ | ⟨hne', sk0', h1', h2'⟩
      · exact ⟨rfl, rfl⟩
      · rw [if_pos ⟨rfl, rfl⟩, if_neg hne'] at e
        have := (h.var k' l' sk0' vk' h1' h2').lt
        omega
    · rcases old k' l' sk' vk' hk' hl' with ⟨rfl, rfl, rfl⟩ | ⟨hne', sk0', h1', h2'⟩
      · rw [if_neg hne, if_pos ⟨rfl, rfl⟩] at e
        have := (h.var k l sk0 vk h1 h2).lt
        omega
      · rw [if_neg hne, if_neg hne'] at e
        exact h.vinj k l k' l' sk0 sk0' vk vk' h1 h2 h1' h2' e
  · rw [len] at hk hk'
    exact h.minj k k' hk hk' e
  · exact hb.elim (fun hx => ⟨(h.low b hx).1, Nat.lt_trans (h.low b hx).2 hs⟩) (fun hx => ⟨Nat.le_trans h.lowb hx.1, hx.2⟩)
  · rw [len] at hg; exact .inl (h.xr g hg)
  · rw [len] at hk; exact .inl (h.xs k hk)
  · rw [len] at hk; exact .inl (h.xm k hk)
  · rcases old k l sk vk hk hl with ⟨rfl, rfl, rfl⟩ | ⟨hne, sk0, h1, h2⟩
    · rw [if_pos ⟨rfl, rfl⟩]; exact .inr ⟨Nat.le_refl _, hs⟩
    · rw [if_neg hne]; exact .inl (h.xv k l sk0 vk h1 h2)
end

end Go.Proofs.Ytblbeinnfbohbaa.Sc

/-
  The program's calls on scopes, walked: Get, Set, Begin, Let.
-/
namespace Go.Proofs.Ytblbeinnfbohbaa.Sc
open Go Go.RowKit Go.Maps
set_option linter.unusedVariables false
set_option linter.unusedSimpArgs false
attribute [local go_sem ↓] ldV stV alV bxV bxP bdV bdP

attribute [local irreducible] vcs pcs

attribute [local go_sem] run_bx run_alV run_bd0

theorem res2_V {fn : Func} {p u : Tmp} (h : fn.results = #[.cell p 32, .tmp u]) (tmps : Array Value) (w : World) (g : Nat) (v : Vl) (hp : tmps.getD p undef = .pointer (some ⟨g, 0, none⟩)) {T : TypeId} (hr : Blk w g (vcs v) T) :
    (results fn tmps).run Try.prog w = .ok (.tuple #[.agg (vcs v), tmps.getD u undef]) w := by
  have hv := run_loadVar_row (P := Try.prog) w g T 32 (vcs v) (0, 0) _ hr Try.underlying32 rfl (by rw [vcs_size]; exact sizeV)
  rw [results_cell_tmp h, hp]
  simp [asAddr, hv, Result.andThen]
section

variable {base : Nat} {X : Nat → Prop} {hb : Nat} {S : List Sco} {sb mb : Nat → Nat} {vb : Nat → Nat → Nat} {a : Option Addr} {c : Nat}

theorem PAt.alloc {w : World} (h : PAt base X w hb S sb mb vb a c) (o : Obj) : PAt base X (w.alloc o) hb S sb mb vb a c := h.same (fun b hx => heap_alloc_old w o (h.low b hx).2) (by simp)
set_option maxRecDepth 100000 in
set_option maxHeartbeats 2000000 in
theorem get_any {w : World} (h : PAt base X w hb S sb mb vb a c) (env : Int) {s : ByteArray} (hs : Fine s) :
    Calls Try.prog 8 #[ptr hb, .int .i64 env, .string s] w fun e w' => e = .returned (.tuple #[.agg (vcs (getF S env s).1), .int .i64 (getF S env s).2]) ∧ Below w.heap.size w w' := by
  obtain ⟨w1, hw1⟩ : ∃ w1, w.alloc (.cells (vcs zeroV) 32) = w1 := ⟨_, rfl⟩
  have h1 : PAt base X w1 hb S sb mb vb a c := by rw [← hw1]; exact h.alloc _
  have b1 : Below w.heap.size w w1 := by rw [← hw1]; exact (Below.refl _ w).alloc (Nat.le_refl _) _
  have x1 : Blk w1 w.heap.size (vcs zeroV) 32 := by rw [← hw1]; exact Blk.new w _ _
  have hlk := look_any h1 env hs
  have hst : ∀ v : Vl, (St 32 (.pointer (some ⟨w.heap.size, 0, none⟩)) (.agg (vcs v))).run Try.prog w1 = .ok () (w1.setRow w.heap.size (vcs v)) := fun v => run_stRow x1 (vcs_size _)
  have hend : ∀ v : Vl, Blk (w1.setRow w.heap.size (vcs v)) w.heap.size (vcs v) 32 ∧ Below w.heap.size w (w1.setRow w.heap.size (vcs v)) := fun v => ⟨x1.row _, ⟨b1.os, b1.tape, b1.output, by rw [size_setRow]; exact b1.size, fun b hb => (setRow_other w1 _ b _ (by omega)).trans (b1.block b hb)⟩⟩
  have HE := Lib.hid hend
  clear hend b1 x1
  cases hsk : seek S env s with
  | none =>
    have e1 : getF S env s = (zeroV, 1) := by simp [getF, hsk]
    have e2 : lookV S vb (seek S env s) = .tuple #[.pointer none, .int .i64 1] := by rw [hsk]; rfl
    rw [e1]
    rw [e2] at hlk
    have hst := hst zeroV
    clear h h1 hs hsk e1 e2
    go_enter Try.func8, Try.ntmps8
    go_wp2_with (go_at_call 22; refine hlk.mono ?_; rintro e w2 ⟨rfl, hw2⟩; subst w2)
    refine bodyPost_ret (res2_V rfl _ _ w.heap.size zeroV rfl (HE.out zeroV).1) rfl ?_
    exact ⟨rfl, (HE.out zeroV).2⟩
  | some x =>
    obtain ⟨i, j⟩ := x
    obtain ⟨sc, va, hi, hj, hnm, hf⟩ := seek_got h.par hsk
    have hva : varAt S i j = some va := by simp [varAt, hi, hj]
    have hvb := h1.var i j sc va hi hj
    cases hh : va.has with
    | false =>
      have e1 : getF S env s = (zeroV, 2) := by simp [getF, hsk, hva, hh]
      have e2 : lookV S vb (seek S env s) = .tuple #[.pointer none, .int .i64 2] := by rw [hsk]; simp [lookV, hva, hh]
      rw [e1]
      rw [e2] at hlk
      have hst := hst zeroV
      clear h h1 hs hsk e1 e2 hvb hva hj hi hf
      go_enter Try.func8, Try.ntmps8
      go_wp2_with (go_at_call 22; refine hlk.mono ?_; rintro e w2 ⟨rfl, hw2⟩; subst w2)
      refine bodyPost_ret (res2_V rfl _ _ w.heap.size zeroV rfl (HE.out zeroV).1) rfl ?_
      exact ⟨rfl, (HE.out zeroV).2⟩
    | true =>
      have e1 : getF S env s = (va.v, 0) := by simp [getF, hsk, hva, hh]
      have e2 : lookV S vb (seek S env s) = .tuple #[ptr (vb i j), .int .i64 0] := by rw [hsk]; simp [lookV, hva, hh]
      rw [e1]
      rw [e2] at hlk
      have hld := run_ldP hvb
      have hst := hst va.v
      clear h h1 hs hsk e1 e2 hva hj hi hf hvb
      go_enter Try.func8, Try.ntmps8
      go_wp2_with (go_at_call 22; refine hlk.mono ?_; rintro e w2 ⟨rfl, hw2⟩; subst w2)
      refine bodyPost_ret (res2_V rfl _ _ w.heap.size va.v rfl (HE.out va.v).1) rfl ?_
      exact ⟨rfl, (HE.out va.v).2⟩
set_option maxRecDepth 100000 in
set_option maxHeartbeats 2000000 in
theorem set_any {w : World} (h : PAt base X w hb S sb mb vb a c) (env : Int) {s : ByteArray} (hs : Fine s) (v : Vl) :
    Calls Try.prog 11 #[ptr hb, .int .i64 env, .string s, .agg (vcs v)] w (Ends base X hb w (.int .i64 (setF S env s v).1) (setF S env s v).2) := by
  obtain ⟨w1, hw1⟩ : ∃ w1, w.alloc (.cells (vcs v) 32) = w1 := ⟨_, rfl⟩
  have h1 : PAt base X w1 hb S sb mb vb a c := by rw [← hw1]; exact h.alloc _
  have b1 : Below w.heap.size w w1 := by rw [← hw1]; exact (Below.refl _ w).alloc (Nat.le_refl _) _
  have x1 : Blk w1 w.heap.size (vcs v) 32 := by rw [← hw1]; exact Blk.new w _ _
  have k1 : w1.heap.size = w.heap.size + 1 := by rw [← hw1]; simp
  have hlk := look_any h1 env hs
  cases hsk : seek S env s with
  | none =>
    have e1 : setF S env s v = (1, S) := by simp [setF, hsk]
    have e2 : lookV S vb (seek S env s) = .tuple #[.pointer none, .int .i64 1] := by rw [hsk]; rfl
    rw [e1]
    rw [e2] at hlk
    have HE := Lib.hid (h.ends (r := .int .i64 1) b1)
    clear h h1 hs hsk e1 e2 b1 x1
    go_enter Try.func11, Try.ntmps11
    go_wp2_with (go_at_call 22; refine hlk.mono ?_; rintro e w2 ⟨rfl, hw2⟩; subst w2)
    go_ret
    exact HE.out
  | some x =>
    obtain ⟨i, j⟩ := x
    obtain ⟨sc, va, hi, hj, hnm, hf⟩ := seek_got h.par hsk
    have hva : varAt S i j = some va := by simp [varAt, hi, hj]
    have hvb := h1.var i j sc va hi hj
    cases hh : va.has with
    | false =>
      have e1 : setF S env s v = (2, S) := by simp [setF, hsk, hi, hj, hh]
      have e2 : lookV S vb (seek S env s) = .tuple #[.pointer none, .int .i64 2] := by rw [hsk]; simp [lookV, hva, hh]
      rw [e1]
      rw [e2] at hlk
      have HE := Lib.hid (h.ends (r := .int .i64 2) b1)
      clear h h1 hs hsk e1 e2 hvb hva hj hi hf b1 x1
      go_enter Try.func11, Try.ntmps11
      go_wp2_with (go_at_call 22; refine hlk.mono ?_; rintro e w2 ⟨rfl, hw2⟩; subst w2)
      go_ret
      exact HE.out
    | true =>
      have e2 : lookV S vb (seek S env s) = .tuple #[ptr (vb i j), .int .i64 0] := by rw [hsk]; simp [lookV, hva, hh]
      rw [e2] at hlk
      have q4 : w1.cell? ⟨vb i j, 4, none⟩ = some (.bool va.fixed) := by rw [hvb.cell, pcs_4]
      cases hx : va.fixed with
      | true =>
        have e1 : setF S env s v = (3, S) := by simp [setF, hsk, hi, hj, hh, hx]
        rw [e1]
        rw [hx] at q4
        have HE := Lib.hid (h.ends (r := .int .i64 3) b1)
        clear h h1 hs hsk e1 e2 hvb hva hj hi hf b1 x1
        go_enter Try.func11, Try.ntmps11
        go_wp2_with (go_at_call 22; refine hlk.mono ?_; rintro e w2 ⟨rfl, hw2⟩; subst w2)
        go_ret
        exact HE.out
      | false =>
        have e1 : setF S env s v = (0, setVs S i (sc.vs.set j { va with v := v })) := by simp [setF, hsk, hi, hj, hh, hx]
        rw [e1]
        rw [hx] at q4
        have hld := run_ldV x1
        have hst := run_stV (v := v) (there_blk hvb (o := 0) (k := 3) (by rw [pcs_size]; omega))
        have hne : ∀ b, b < w.heap.size → b ≠ vb i j → (w1.setCells (vb i j) 0 (vcs v).toList).heap[b]? = w.heap[b]? := fun b hb hn => (setCells_block _ _ _ _ b hn).trans (b1.block b hb)
        have hfr := (setCells_fr (vb i j) (vcs v).toList 0 w1).1
        have hend : Ends base X hb w (.int .i64 0) (setVs S i (sc.vs.set j { va with v := v })) (.returned (.int .i64 0)) (w1.setCells (vb i j) 0 (vcs v).toList) :=
          ⟨rfl, ⟨sb, mb, vb, a, c, h.setVar (va' := { va with v := v }) hi hj rfl hne (Nat.le_trans b1.size hfr.size) (hvb.val v)⟩, ⟨((Fr.refl w).below b1).trans hfr, fun b hb hx => hne b hb fun e => hx (by rw [e]; exact h.xv i j sc va hi hj), also_more⟩⟩
        have HE := Lib.hid hend
        clear h h1 hs hsk e1 e2 hvb hva hj hi hf b1 x1 hend hne hfr
        go_enter Try.func11, Try.ntmps11
        go_wp2_with (go_at_call 22; refine hlk.mono ?_; rintro e w2 ⟨rfl, hw2⟩; subst w2)
        go_ret
        exact HE.out
end

end Go.Proofs.Ytblbeinnfbohbaa.Sc
