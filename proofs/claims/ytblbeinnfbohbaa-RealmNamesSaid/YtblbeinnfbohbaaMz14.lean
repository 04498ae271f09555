/-
  Texts of this seat in build order: ScLet, ReMap, ReSpec, ReMake, ReFunc.
-/
import Derived.Test.YtblbeinnfbohbaaMz13
import Derived.Test.YtblbeinnfbohbaaMz12
import Derived.Deep.RegionWith
/-
  The program's calls on scopes, walked: Begin, Let, Make.
-/
namespace Go.Proofs.Ytblbeinnfbohbaa.Sc
open Go Go.RowKit Go.Maps
set_option linter.unusedVariables false
set_option linter.unusedSimpArgs false
attribute [local go_sem ↓] ldV stV alV bxV bxP bdV bdP

attribute [local irreducible] vcs pcs

attribute [local go_sem] run_bx run_alV run_bd0

section

variable {base : Nat} {X : Nat → Prop} {hb : Nat} {S : List Sco} {sb mb : Nat → Nat} {vb : Nat → Nat → Nat} {a : Option Addr} {c : Nat}

theorem there_nat {i : Nat} (h : i < S.length) : there S i = true := by rw [there_iff]; omega
theorem sptr_nat (sb : Nat → Nat) {i : Nat} (h : i < S.length) : sptr S sb i = some (sb i) := by unfold sptr; rw [if_pos (there_nat h)]; congr 2
theorem sptr_out (sb : Nat → Nat) {env : Int} (h : ¬ there S env = true) : sptr S sb env = none := by unfold sptr; rw [if_neg h]
theorem cases_env (S : List Sco) (env : Int) : ¬ there S env = true ∨ ∃ (i : Nat) (sc : Sco), env = i ∧ S[i]? = some sc := by
  by_cases h : there S env = true
  · have := there_iff.1 h
    exact .inr ⟨env.toNat, S[env.toNat]'(by omega), by omega, List.getElem?_eq_getElem (by omega)⟩
  · exact .inl h
set_option maxRecDepth 100000 in
set_option maxHeartbeats 2000000 in
theorem begin_any {w : World} (h : PAt base X w hb S sb mb vb a c) (env : Int) {s : ByteArray} (hs : Fine s) (v : Vl) :
    Calls Try.prog 39 #[ptr hb, .int .i64 env, .string s, .agg (vcs v)] w (Ends base X hb w (.bool (beginF S env s v).1) (beginF S env s v).2) := by
  obtain ⟨w1, hw1⟩ : ∃ w1, w.alloc (.cells (vcs v) 32) = w1 := ⟨_, rfl⟩
  have h1 : PAt base X w1 hb S sb mb vb a c := by rw [← hw1]; exact h.alloc _
  have b1 : Below w.heap.size w w1 := by rw [← hw1]; exact (Below.refl _ w).alloc (Nat.le_refl _) _
  have x1 : Blk w1 w.heap.size (vcs v) 32 := by rw [← hw1]; exact Blk.new w _ _
  have hsc := scope_any h1 env
  rcases cases_env S env with ht | ⟨i, sc, rfl, hi⟩
  · have e1 : beginF S env s v = (false, S) := by simp [beginF, ht]
    rw [e1]
    rw [sptr_out sb ht] at hsc
    have HE := Lib.hid (h.ends (r := .bool false) b1)
    clear h h1 hs ht e1 b1 x1
    go_enter Try.func39, Try.ntmps39
    go_wp2_with (go_at_call 32; refine hsc.mono ?_; rintro e w2 ⟨rfl, hw2⟩; subst w2)
    go_ret
    exact HE.out
  · rw [sptr_nat sb (at_lt hi)] at hsc
    replace hsc : Calls Try.prog 32 #[ptr hb, .int .i64 i] w1 fun e w' => e = .returned (.pointer (some ⟨sb i, 0, none⟩)) ∧ w' = w1 := hsc
    have q1 : w1.cell? ⟨sb i, 1, none⟩ = some (.map (some (mb i))) := (h1.sco i sc hi).cell 1
    have hlk := (h1.map i sc hi).look hs
    cases hf : findV sc.vs s with
    | none =>
      have e1 : beginF S i s v = (false, S) := by simp [beginF, there_nat (at_lt hi), hi, hf]
      rw [e1]
      rw [hf] at hlk
      replace hlk : (Instr.lookup 76 (.map (some (mb i))) (.string s) false).run Try.prog w1 = .ok (.pointer none) w1 := hlk
      have HE := Lib.hid (h.ends (r := .bool false) b1)
      clear h h1 hs e1 b1 x1 hf hi
      go_enter Try.func39, Try.ntmps39
      go_wp2_with (go_at_call 32; refine hsc.mono ?_; rintro e w2 ⟨rfl, hw2⟩; subst w2)
      go_ret
      exact HE.out
    | some j =>
      obtain ⟨va, hj, hnm⟩ := findV_some hf
      have hvb := h1.var i j sc va hi hj
      rw [hf] at hlk
      replace hlk : (Instr.lookup 76 (.map (some (mb i))) (.string s) false).run Try.prog w1 = .ok (.pointer (some ⟨vb i j, 0, none⟩)) w1 := hlk
      have q3 : w1.cell? ⟨vb i j, 3, none⟩ = some (.bool va.has) := by rw [hvb.cell, pcs_3]
      cases hh : va.has with
      | true =>
        have e1 : beginF S i s v = (false, S) := by simp [beginF, there_nat (at_lt hi), hi, hf, hj, hh]
        rw [e1]
        rw [hh] at q3
        have HE := Lib.hid (h.ends (r := .bool false) b1)
        clear h h1 hs e1 b1 x1 hf hi hj hvb
        go_enter Try.func39, Try.ntmps39
        go_wp2_with (go_at_call 32; refine hsc.mono ?_; rintro e w2 ⟨rfl, hw2⟩; subst w2)
        go_ret
        exact HE.out
      | false =>
        have e1 : beginF S i s v = (true, setVs S i (sc.vs.set j { va with has := true, v := v })) := by simp [beginF, there_nat (at_lt hi), hi, hf, hj, hh]
        rw [e1]
        rw [hh] at q3
        have hld := run_ldV x1
        have hst := run_stV (v := v) (there_blk hvb (o := 0) (k := 3) (by rw [pcs_size]; omega))
        obtain ⟨W2, hW2⟩ : ∃ W2, w1.setCells (vb i j) 0 (vcs v).toList = W2 := ⟨_, rfl⟩
        have hv2 : Blk W2 (vb i j) (pcs { va with v := v }) 69 := by rw [← hW2]; exact hvb.val v
        have q5 : W2.cell? ⟨vb i j, 3, none⟩ = some (.bool va.has) := by rw [hv2.cell, pcs_3]
        have q6 := hv2.frozen 3
        have hfr : Fr w1 W2 := by rw [← hW2]; exact (setCells_fr (vb i j) (vcs v).toList 0 w1).1
        have hne : ∀ b, b < w.heap.size → b ≠ vb i j → (W2.setCell ⟨vb i j, 3, none⟩ (.bool true)).heap[b]? = w.heap[b]? := fun b hb hn => (heap_setCell_other W2 ⟨vb i j, 3, none⟩ b _ hn).trans (by rw [← hW2, setCells_block _ _ _ _ b hn]; exact b1.block b hb)
        have hfr3 : Fr w (W2.setCell ⟨vb i j, 3, none⟩ (.bool true)) := (((Fr.refl w).below b1).trans hfr).set _ _
        have hv3 : Blk (W2.setCell ⟨vb i j, 3, none⟩ (.bool true)) (vb i j) (pcs { va with has := true, v := v }) 69 := by
          have := hv2.set 3 (.bool true)
          simpa [pcs] using this
        have hend : Ends base X hb w (.bool true) (setVs S i (sc.vs.set j { va with has := true, v := v })) (.returned (.bool true)) (W2.setCell ⟨vb i j, 3, none⟩ (.bool true)) :=
          ⟨rfl, ⟨sb, mb, vb, a, c, h.setVar (va' := { va with has := true, v := v }) hi hj rfl hne hfr3.size hv3⟩, ⟨hfr3, fun b hb hx => hne b hb fun e => hx (by rw [e]; exact h.xv i j sc va hi hj), also_more⟩⟩
        have HE := Lib.hid hend
        rw [hW2] at hst
        rw [hh] at q5
        clear h h1 hs e1 hvb hj hi hf b1 x1 hend hne hfr hW2 hv2 hfr3 hv3
        go_enter Try.func39, Try.ntmps39
        go_wp2_with (go_at_call 32; refine hsc.mono ?_; rintro e w2 ⟨rfl, hw2⟩; subst w2)
        go_ret
        exact HE.out
set_option maxRecDepth 100000 in
set_option maxHeartbeats 2000000 in
theorem let_any {w : World} (h : PAt base X w hb S sb mb vb a c) (env : Int) {s : ByteArray} (hs : Fine s) (fx : Bool) (hl : ∀ (i : Nat) (sc : Sco), S[i]? = some sc → sc.vs.length ≤ 1000) :
    Calls Try.prog 38 #[ptr hb, .int .i64 env, .string s, .bool fx] w (Ends base X hb w (.bool (letF S env s fx).1) (letF S env s fx).2) := by
  have hsc := scope_any h env
  rcases cases_env S env with ht | ⟨i, sc, rfl, hi⟩
  · have e1 : letF S env s fx = (false, S) := by simp [letF, ht]
    rw [e1]
    rw [sptr_out sb ht] at hsc
    have HE := Lib.hid (h.ends (r := .bool false) (Below.refl _ w))
    clear h hs ht e1
    go_enter Try.func38, Try.ntmps38
    go_wp2_with (go_at_call 32; refine hsc.mono ?_; rintro e w2 ⟨rfl, hw2⟩; subst w2)
    go_ret
    exact HE.out
  · rw [sptr_nat sb (at_lt hi)] at hsc
    replace hsc : Calls Try.prog 32 #[ptr hb, .int .i64 i] w fun e w' => e = .returned (.pointer (some ⟨sb i, 0, none⟩)) ∧ w' = w := hsc
    have q1 : w.cell? ⟨sb i, 1, none⟩ = some (.map (some (mb i))) := (h.sco i sc hi).cell 1
    have hlk := (h.map i sc hi).look hs
    cases hf : findV sc.vs s with
    | some j =>
      have e1 : letF S i s fx = (false, S) := by simp [letF, there_nat (at_lt hi), hi, hf]
      rw [e1]
      rw [hf] at hlk
      replace hlk : (Instr.lookup 76 (.map (some (mb i))) (.string s) false).run Try.prog w = .ok (.pointer (some ⟨vb i j, 0, none⟩)) w := hlk
      have HE := Lib.hid (h.ends (r := .bool false) (Below.refl _ w))
      clear h hs e1 hf hi
      go_enter Try.func38, Try.ntmps38
      go_wp2_with (go_at_call 32; refine hsc.mono ?_; rintro e w2 ⟨rfl, hw2⟩; subst w2)
      go_ret
      exact HE.out
    | none =>
      have e1 : letF S i s fx = (true, setVs S i (sc.vs ++ [⟨s, fx, false, zeroV⟩])) := by simp [letF, there_nat (at_lt hi), hi, hf]
      rw [e1]
      rw [hf] at hlk
      replace hlk : (Instr.lookup 76 (.map (some (mb i))) (.string s) false).run Try.prog w = .ok (.pointer none) w := hlk
      have hbd := run_bdP s w fx
      obtain ⟨W1, hW1⟩ : ∃ W1, w.alloc (.cells (pcs ⟨s, fx, false, zeroV⟩) 69) = W1 := ⟨_, rfl⟩
      have b1 : Below w.heap.size w W1 := by rw [← hW1]; exact (Below.refl _ w).alloc (Nat.le_refl _) _
      have x1 : Blk W1 w.heap.size (pcs ⟨s, fx, false, zeroV⟩) 69 := by rw [← hW1]; exact Blk.new w _ _
      have k1 : W1.heap.size = w.heap.size + 1 := by rw [← hW1]; simp
      have hm1 : MapIs W1 (mb i) sc.vs.length (fun s => (findV sc.vs s).map (vb i)) := by rw [← hW1]; exact (h.map i sc hi).old _
      obtain ⟨W2, hst, hm2, ht2⟩ := hm1.store (by have := hl i sc hi; unfold maxLen; omega) hs (some w.heap.size)
      replace hst : (Instr.mapUpdate 76 (.map (some (mb i))) (.string s) (.pointer (some ⟨w.heap.size, 0, none⟩))).run Try.prog W1 = .ok () W2 := hst
      have hml := (h.map i sc hi).lt
      have hne : ∀ b, b < w.heap.size → b ≠ mb i → W2.heap[b]? = w.heap[b]? := fun b hb hn => (turned_other ht2 hn).trans (b1.block b hb)
      have hfr : Fr w W2 := ((Fr.refl w).below b1).turned ht2
      have hv : Blk W2 w.heap.size (pcs ⟨s, fx, false, zeroV⟩) 69 := (turned_other ht2 (by omega)).trans x1
      have hsz : w.heap.size < W2.heap.size := hv.lt
      have hend : Ends base X hb w (.bool true) (setVs S i (sc.vs ++ [⟨s, fx, false, zeroV⟩])) (.returned (.bool true)) W2 :=
        ⟨rfl, ⟨sb, mb, _, a, c, h.addVar (va := ⟨s, fx, false, zeroV⟩) hi hf hne hsz hv hm2⟩, ⟨hfr, fun b hb hx => hne b hb fun e => hx (by rw [e]; exact h.xm i (at_lt hi)), also_more⟩⟩
      have HE := Lib.hid hend
      have q2 : W1.cell? ⟨sb i, 1, none⟩ = some (.map (some (mb i))) := by rw [← hW1]; exact ((h.sco i sc hi).old _).cell 1
      clear h hs e1 hf hi hend hsz hv hfr hne hml hm2 ht2 hm1 x1 b1 k1 hl
      go_enter Try.func38, Try.ntmps38
      go_wp2_with (go_at_call 32; refine hsc.mono ?_; rintro e w2 ⟨rfl, hw2⟩; subst w2)
      go_ret
      exact HE.out
end

end Go.Proofs.Ytblbeinnfbohbaa.Sc

/-
  Maps from names to numbers.
-/
namespace Go.Proofs.Ytblbeinnfbohbaa.Re
open Go Go.RowKit Go.Maps Go.Shelf Go.Proofs.Ytblbeinnfbohbaa.Keys Go.Proofs.Ytblbeinnfbohbaa.Hp Go.Proofs.Ytblbeinnfbohbaa.Mo Go.Proofs.Ytblbeinnfbohbaa.Mw
open Go.Proofs.Ytblbeinnfbohbaa.Des (Vl Ds zeroV zeroD dcs dcs_size dcs_one accF rigF appF eqV)
open Go.Proofs.Ytblbeinnfbohbaa.Arrs (En ecs)
set_option linter.unusedVariables false
set_option linter.unusedSimpArgs false
attribute [local go_sem ↓] ldR stR alR bxR bdR ldV stV alV bxV bdV ldKy bxKy bdKy bdT alT stT bxT ldT bdD alD stD bxD
attribute [local irreducible] rcs dcs ecs vcs acs kcs xcs tcs

open Go.Proofs.Ytblbeinnfbohbaa.Sc (klit skeyed key_of klit_inj key_lit)
/-- How a number reads. -/
def Ri : Value → Option (DataW Unit × List MemPlace)
  | .int .i64 n => some (.lit (.int .i64 n), [])
  | _ => none
theorem ri_int (n : Int) : Ri (.int .i64 n) = some (.lit (.int .i64 n), []) := rfl
theorem ri_inv {v : Value} {n : Int} {ps : List MemPlace} (h : Ri v = some (.lit (.int .i64 n), ps)) : v = .int .i64 n := by
  unfold Ri at h
  split at h
  · simp at h
    rw [h.1]
  · cases h
/-- Block m is a map of at most n names to numbers. -/
def MapN (w : World) (m n : Nat) (f : ByteArray → Int) : Prop := ∃ D, w.ownsMap Try.prog 9 Ri m n D ∧ ∀ k, Sc.Fine k → D.atKey (klit k) (.lit (.int .i64 0)) = .lit (.int .i64 (f k))
theorem MapN.lt {w : World} {m n : Nat} {f : ByteArray → Int} (h : MapN w m n f) : m < w.heap.size := h.choose_spec.1.lt
theorem MapN.obj {w : World} {m n : Nat} {f : ByteArray → Int} (h : MapN w m n f) : ∃ es c, w.heap[m]? = some (.map es c) := by
  obtain ⟨D, ⟨es, c, h, _⟩, _⟩ := h
  exact ⟨es, c, h⟩
theorem MapN.same {w w' : World} {m n : Nat} {f : ByteArray → Int} (h : MapN w m n f) (hw : w'.heap[m]? = w.heap[m]?) : MapN w' m n f := by
  obtain ⟨D, ⟨es, c, h, hr⟩, hf⟩ := h
  exact ⟨D, ⟨es, c, hw.trans h, hr⟩, hf⟩
theorem MapN.call {w w' : World} {m n : Nat} {f : ByteArray → Int} (h : MapN w m n f) (hb : Below w.heap.size w w') : MapN w' m n f := h.same (hb.block m h.lt)
theorem MapN.made (w : World) : MapN (w.alloc (.map #[] 0)) w.heap.size 0 (fun _ => 0) := ⟨_, World.ownsMap_made _ _ _ _, fun k _ => rfl⟩
theorem zeroI (w : World) : (zeroValue 3).run Try.prog w = .ok (.int .i64 0) w := by kernel_rfl
theorem MapN.look {w : World} {m n : Nat} {f : ByteArray → Int} (h : MapN w m n f) {s : ByteArray} (hk : Sc.Fine s) : (Instr.lookup 57 (.map (some m)) (.string s) false).run Try.prog w = .ok (.int .i64 (f s)) w := by
  obtain ⟨D, hd, hf⟩ := h
  obtain ⟨v, ps, hrun, hv⟩ := hd.lookup (t := 57) (e := 3) skeyed Try.underlying57 (zeroI w) (zd := .lit (.int .i64 0)) (zp := []) rfl (key_of hk)
  rw [hf s hk] at hv
  rw [hrun, ri_inv hv]
def updI (f : ByteArray → Int) (k : ByteArray) (o : Int) : ByteArray → Int := fun k' => if k' = k then o else f k'
theorem MapN.store {w : World} {m n : Nat} {f : ByteArray → Int} (h : MapN w m n f) (hn : n < maxLen) {k : ByteArray} (hk : Sc.Fine k) (o : Int) : ∃ w', (Instr.mapUpdate 57 (.map (some m)) (.string k) (.int .i64 o)).run Try.prog w = .ok () w' ∧ MapN w' m (n + 1) (updI f k o) ∧ w.mapTurned w' m := by
  obtain ⟨D, hd, hf⟩ := h
  obtain ⟨w', h1, h2, h3⟩ := hd.store (t := 57) (e := 3) skeyed Try.underlying57 hn (key_of hk) (ri_int o)
  refine ⟨w', h1, ⟨_, h2, fun k' hk' => ?_⟩, h3⟩
  unfold updI
  by_cases e : k' = k
  · subst e
    rw [if_pos rfl, atKey_put_same hd.isMap (key_lit hk)]
  · rw [if_neg e, atKey_put_other (fun h => e (klit_inj h)), hf k' hk']
end Go.Proofs.Ytblbeinnfbohbaa.Re

/-
  What Build makes, as plain functions; how it lies in memory.
-/
namespace Go.Proofs.Ytblbeinnfbohbaa.Re
open Go Go.RowKit Go.Maps Go.Shelf Go.Proofs.Ytblbeinnfbohbaa.Keys Go.Proofs.Ytblbeinnfbohbaa.Hp Go.Proofs.Ytblbeinnfbohbaa.Mo Go.Proofs.Ytblbeinnfbohbaa.Mw
open Go.Proofs.Ytblbeinnfbohbaa.Des (Vl Ds zeroV zeroD dcs dcs_size dcs_one accF rigF appF eqV)
open Go.Proofs.Ytblbeinnfbohbaa.Arrs (En ecs)
set_option linter.unusedVariables false
set_option linter.unusedSimpArgs false
open Go.Proofs.Ytblbeinnfbohbaa.Sc (Sco)
/-- What there is, and whether the room has ended. -/
structure St where
  A : Aw
  S : List Sco
  full : Bool
/-- The functions' codes, in the order in which they are laid. -/
def nm (l : List UInt8) : ByteArray := ⟨l.toArray⟩
abbrev nCall : ByteArray := ⟨#[99, 97, 108, 108]⟩
abbrev nBind : ByteArray := ⟨#[98, 105, 110, 100]⟩
abbrev nProxy : ByteArray := ⟨#[80, 114, 111, 120, 121]⟩
abbrev nRevo : ByteArray := ⟨#[114, 101, 118, 111, 99, 97, 98, 108, 101]⟩
abbrev nCreate : ByteArray := ⟨#[99, 114, 101, 97, 116, 101]⟩
abbrev nFreeze : ByteArray := ⟨#[102, 114, 101, 101, 122, 101]⟩
abbrev nSeal : ByteArray := ⟨#[115, 101, 97, 108]⟩
abbrev nFrozen : ByteArray := ⟨#[105, 115, 70, 114, 111, 122, 101, 110]⟩
abbrev nSealed : ByteArray := ⟨#[105, 115, 83, 101, 97, 108, 101, 100]⟩
abbrev nKeys : ByteArray := ⟨#[107, 101, 121, 115]⟩
abbrev nSymbol : ByteArray := ⟨#[83, 121, 109, 98, 111, 108]⟩
abbrev nIsArr : ByteArray := ⟨#[105, 115, 65, 114, 114, 97, 121]⟩
abbrev nPrint : ByteArray := ⟨#[112, 114, 105, 110, 116]⟩
abbrev nReflect : ByteArray := ⟨#[82, 101, 102, 108, 101, 99, 116]⟩
abbrev nObject : ByteArray := ⟨#[79, 98, 106, 101, 99, 116]⟩
abbrev nArray : ByteArray := ⟨#[65, 114, 114, 97, 121]⟩
def cd13 : ByteArray → Int := updI (updI (updI (updI (updI (updI (updI (updI (updI (updI (updI (updI (updI (fun _ => 0) nCall 37) nBind 36) nProxy 30) nRevo 31) nCreate 38) nFreeze 39) nSeal 40) nFrozen 41) nSealed 42) nKeys 43) nSymbol 34) nIsArr 35) nPrint 33
def cdR : Nat → ByteArray → Int
  | 0 => cd13
  | n + 1 => updI (cdR n) (trapS (n + 1)) (10 + ((n : Int) + 1))
def cd : ByteArray → Int := cdR 13
def mths : List ByteArray := (List.range 13).map fun (i : Nat) => trapS ((i : Int) + 1)
/-- An object made. -/
def mkB (t : Th) (s : St) : Vl × St := if (s.A.objs.length : Int) < s.A.room then (objV s.A.objs.length, { s with A := makeF t [] [] s.A }) else (objV 0, { s with full := true })
/-- Functions made, each as a property. -/
def nmF (h : Vl) : List ByteArray → St → St
  | [], s => s
  | n :: r, s => if (mkB (fnT (cd n)) s).2.full then (mkB (fnT (cd n)) s).2 else nmF h r { (mkB (fnT (cd n)) s).2 with A := putF (mkB (fnT (cd n)) s).2.A h.n (n, 0) (wholeD (mkB (fnT (cd n)) s).1 true false true) }
def scV (v : Vl) : Sc.Vl := ⟨v.k, v.n, v.s⟩
/-- An object made that has a name. -/
def glB (n : ByteArray) (t : Th) (s : St) : Vl × St := ((mkB t s).1, if (mkB t s).2.full then (mkB t s).2 else { (mkB t s).2 with S := (Sc.beginF (Sc.letF (mkB t s).2.S 0 n true).2 0 n (scV (mkB t s).1)).2 })
def glO (n : ByteArray) (s : St) : Vl × St := glB n (plT (objV 0)) s
def glF (n : ByteArray) (s : St) : Vl × St := glB n (fnT (cd n)) s
def protoB (s : St) : St := (mkB (plT (objV 0)) (mkB (plT (objV 0)) (mkB (plT nullV) s).2).2).2
def gnO (n : ByteArray) (l : List ByteArray) (s : St) : St := nmF (glO n s).1 l (glO n s).2
def gnF (n : ByteArray) (l : List ByteArray) (s : St) : St := nmF (glF n s).1 l (glF n s).2
def st1 (s : St) : St := nmF (objV 1) [nCall, nBind] (protoB s)
def st2 (s : St) : St := gnF nProxy [nRevo] (st1 s)
def st3 (s : St) : St := gnO nReflect mths (st2 s)
def st4 (s : St) : St := gnO nObject [nCreate, nFreeze, nSeal, nFrozen, nSealed, nKeys] (st3 s)
def st5 (s : St) : St := (glF nSymbol (st4 s)).2
def st6 (s : St) : St := gnO nArray [nIsArr] (st5 s)
def buildF (s : St) : St := (glF nPrint (st6 s)).2
/-- The builder's own cells. -/
def bcs (hb hs cb : Nat) (f : Bool) : Array Value := #[ptr hb, ptr hs, .map (some cb), .bool f]
abbrev BT : TypeId := 60
/-- A builder at work: the world, the scopes, the builder itself; F: the blocks that turn. -/
structure RF (X : Cx) (hb hs bb cb : Nat) (c n : Nat) (F : Nat → Prop) (s : St) (w : World) : Prop where
  ex : ∃ (M : Wm) (Y : Nat → Prop), M.hb = hb ∧ WIs X c M w s.A ∧ Sc.PIs X.W0.heap.size Y w hs s.S ∧ (∀ b, Y b → b ∉ M.bl X.wb) ∧ (∀ b, F b ↔ b ∈ M.bl X.wb ∨ Y b ∨ b = bb) ∧ bb ∉ M.bl X.wb ∧ ¬ Y bb
  blk : Blk w bb (bcs hb hs cb s.full) BT
  map : MapN w cb 26 cd
  cbo : ¬ F cb
  low : X.W0.heap.size ≤ bb
  lim : Sc.Lim n s.S
section
variable {X : Cx} {hb hs bb cb c n : Nat} {F F' : Nat → Prop} {s s' : St} {w w' w'' : World}
theorem RF.lt (h : RF X hb hs bb cb c n F s w) {b : Nat} (hF : F b) : b < w.heap.size := by
  obtain ⟨M, Y, e, hw, hp, hd, hf, h1, h2⟩ := h.ex
  rcases (hf b).1 hF with hm | hm | rfl
  · exact hw.lt b hm
  · exact (hp.low b hm).2
  · exact h.blk.lt
theorem RF.base (h : RF X hb hs bb cb c n F s w) : Below X.W0.heap.size X.W0 w := by
  obtain ⟨M, Y, e, hw, hp, hd, hf, h1, h2⟩ := h.ex
  exact hw.bel
theorem RF.bbF (h : RF X hb hs bb cb c n F s w) : F bb := by
  obtain ⟨M, Y, e, hw, hp, hd, hf, h1, h2⟩ := h.ex
  exact (hf bb).2 (.inr (.inr rfl))
theorem RF.same (h : RF X hb hs bb cb c n F s w) (hfr : Fr w w') (hs' : ∀ b, F b ∨ b = cb → w'.heap[b]? = w.heap[b]?) (hb' : Below X.W0.heap.size X.W0 w') : RF X hb hs bb cb c n F s w' := by
  obtain ⟨M, Y, e, hw, hp, hd, hf, h1, h2⟩ := h.ex
  exact ⟨⟨M, Y, e, hw.same hfr (fun b hm => hs' b (.inl ((hf b).2 (.inl hm)))) hb', hp.same (fun b hm => hs' b (.inl ((hf b).2 (.inr (.inl hm))))) hfr.size, hd, hf, h1, h2⟩, (hs' bb (.inl h.bbF)).trans h.blk, h.map.same (hs' cb (.inr rfl)), h.cbo, h.low, h.lim⟩
theorem RF.call (h : RF X hb hs bb cb c n F s w) (hb' : Below w.heap.size w w') : RF X hb hs bb cb c n F s w' :=
  h.same ⟨hb'.os, hb'.tape, hb'.output, hb'.size⟩ (fun b hm => hb'.block b (by rcases hm with hm | rfl; exact h.lt hm; exact h.map.lt)) (h.base.trans (hb'.mono h.base.size))
theorem RF.row (h : RF X hb hs bb cb c n F s w) {b : Nat} (cs : Array Value) (hF : ¬ F b) (hc : b ≠ cb) (hlo : X.W0.heap.size ≤ b) : RF X hb hs bb cb c n F s (w.setRow b cs) :=
  h.same ⟨rfl, rfl, rfl, by rw [size_setRow]; exact Nat.le_refl _⟩ (fun k hk => setRow_other w b k cs fun e => by
    subst e
    rcases hk with hk | hk
    · exact hF hk
    · exact hc hk) ⟨h.base.os, h.base.tape, h.base.output, by rw [size_setRow]; exact h.base.size, fun k hk => (setRow_other w b k cs (by omega)).trans (h.base.block k hk)⟩
theorem RF.less {c' n' : Nat} (h : RF X hb hs bb cb c n F s w) (hc : c' ≤ c) (hn : n ≤ n') : RF X hb hs bb cb c' n' F s w := by
  obtain ⟨M, Y, e, hw, hp, hd, hf, h1, h2⟩ := h.ex
  exact ⟨⟨M, Y, e, hw.less hc, hp, hd, hf, h1, h2⟩, h.blk, h.map, h.cbo, h.low, h.lim.mono hn⟩
/-- A local. -/
structure Lc where
  b : Nat
  cs : Array Value
  t : TypeId
/-- The builder at work in a method: the world at its beginning, now; the method's locals, newest first. -/
structure RM (X : Cx) (hb hs bb cb c n : Nat) (F : Nat → Prop) (w : World) (s : St) (ls : List Lc) (w' : World) : Prop where
  ex : ∃ F', RF X hb hs bb cb c n F' s w' ∧ Sc.Step F F' w w' ∧ ∀ x ∈ ls, Blk w' x.b x.cs x.t ∧ w.heap.size ≤ x.b ∧ ¬ F' x.b ∧ x.b ≠ cb
  nd : (ls.map (·.b)).Nodup
abbrev RP (X : Cx) (hb hs bb cb c n : Nat) (F : Nat → Prop) (w : World) (s : St) (w' : World) : Prop := RM X hb hs bb cb c n F w s [] w'
variable {ls : List Lc}
theorem RM.start (h : RF X hb hs bb cb c n F s w) : RM X hb hs bb cb c n F w s [] w := ⟨⟨F, h, Sc.Step.refl _ _, fun x h => by cases h⟩, by simp⟩
theorem RM.less {c' n' : Nat} (h : RM X hb hs bb cb c n F w s ls w') (hc : c' ≤ c) (hn : n ≤ n') : RM X hb hs bb cb c' n' F w s ls w' := by
  obtain ⟨F', h1, h2, h3⟩ := h.ex
  exact ⟨⟨F', h1.less hc hn, h2, h3⟩, h.nd⟩
theorem RM.call (h : RM X hb hs bb cb c n F w s ls w') (hb' : Below w'.heap.size w' w'') : RM X hb hs bb cb c n F w s ls w'' := by
  obtain ⟨F', h1, h2, h3⟩ := h.ex
  exact ⟨⟨F', h1.call hb', h2.below hb' (Nat.le_refl _), fun x hx => let ⟨k1, k2, k3, k4⟩ := h3 x hx; ⟨k1.call hb', k2, k3, k4⟩⟩, h.nd⟩
theorem RM.drew (h : RM X hb hs bb cb c n F w s ls w') : RM X hb hs bb cb c n F w s ls w'.drew := h.call (Below.refl _ _).drew
theorem RM.newg (h : RM X hb hs bb cb c n F w s ls w') (cs : Array Value) (t : TypeId) (g : Nat) (hg : g = w'.heap.size) : RM X hb hs bb cb c n F w s (⟨g, cs, t⟩ :: ls) (w'.alloc (.cells cs t)) := by
  subst hg
  have h' := h.call ((Below.refl _ w').alloc (Nat.le_refl _) (.cells cs t))
  obtain ⟨F', h1, h2, h3⟩ := h'.ex
  obtain ⟨F1, g1, g2, g3⟩ := h.ex
  refine ⟨⟨F1, g1.call ((Below.refl _ w').alloc (Nat.le_refl _) _), g2.below ((Below.refl _ w').alloc (Nat.le_refl _) _) (Nat.le_refl _), fun x hx => ?_⟩, ?_⟩
  · rcases List.mem_cons.1 hx with rfl | hx
    · exact ⟨Blk.new _ _ _, g2.fr.size, fun hF => by have := g1.lt hF; simp at this, fun e => by have := g1.map.lt; simp at e; omega⟩
    · obtain ⟨k1, k2, k3, k4⟩ := g3 x hx
      exact ⟨k1.old _, k2, k3, k4⟩
  · rw [List.map_cons, List.nodup_cons]
    refine ⟨fun hm => ?_, h.nd⟩
    obtain ⟨y, hy, e⟩ := List.mem_map.1 hm
    have := (g3 y hy).1.lt
    simp only at e
    omega
theorem RM.new (h : RM X hb hs bb cb c n F w s ls w') (cs : Array Value) (t : TypeId) : RM X hb hs bb cb c n F w s (⟨w'.heap.size, cs, t⟩ :: ls) (w'.alloc (.cells cs t)) := h.newg cs t _ rfl
/-- Behind a method of the builder. -/
theorem RM.open (h : RM X hb hs bb cb c n F w s ls w') : ∃ F', RF X hb hs bb cb c n F' s w' ∧ ∀ {c2 n2 : Nat} {s' : St} {w'' : World}, RP X hb hs bb cb c2 n2 F' w' s' w'' → RM X hb hs bb cb c2 n2 F w s' ls w'' := by
  obtain ⟨F', h1, h2, h3⟩ := h.ex
  refine ⟨F', h1, fun {c2 n2 s' w''} k => ?_⟩
  obtain ⟨F2, k1, k2, -⟩ := k.ex
  refine ⟨⟨F2, k1, h2.trans k2, fun x hx => ?_⟩, h.nd⟩
  obtain ⟨q1, q2, q3, q4⟩ := h3 x hx
  refine ⟨(k2.stay x.b q1.lt q3).trans q1, q2, fun hF => ?_, q4⟩
  rcases k2.more x.b hF with hF | hF
  · exact q3 hF
  · have := q1.lt; omega
theorem RM.from {w0 : World} (h : RP X hb hs bb cb c n F w s w') (hb0 : Below w0.heap.size w0 w) (hF : ∀ b, F b → b < w0.heap.size) : RP X hb hs bb cb c n F w0 s w' := by
  obtain ⟨F', h1, h2, h3⟩ := h.ex
  exact ⟨⟨F', h1, Sc.Step.ahead hb0 h2, fun x h => by cases h⟩, by simp⟩
theorem RM.rf (h : RM X hb hs bb cb c n F w s ls w') : ∃ F', RF X hb hs bb cb c n F' s w' ∧ Sc.Step F F' w w' := by
  obtain ⟨F', h1, h2, h3⟩ := h.ex
  exact ⟨F', h1, h2⟩
theorem RM.put {x : Lc} (h : RM X hb hs bb cb c n F w s (x :: ls) w') (h0 : X.W0.heap.size ≤ w.heap.size) (ds : Array Value) : RM X hb hs bb cb c n F w s (⟨x.b, ds, x.t⟩ :: ls) (w'.setRow x.b ds) := by
  obtain ⟨F', h1, h2, h3⟩ := h.ex
  obtain ⟨q1, q2, q3, q4⟩ := h3 x (by simp)
  have hnd := h.nd
  rw [List.map_cons, List.nodup_cons] at hnd
  refine ⟨⟨F', h1.row ds q3 q4 (by omega), ⟨⟨h2.fr.os, h2.fr.tape, h2.fr.output, by rw [size_setRow]; exact h2.fr.size⟩, fun k hk hF => (setRow_other w' x.b k ds (by omega)).trans (h2.stay k hk hF), h2.more⟩, fun y hy => ?_⟩, h.nd⟩
  rcases List.mem_cons.1 hy with rfl | hy
  · exact ⟨q1.row ds, q2, q3, q4⟩
  · obtain ⟨k1, k2, k3, k4⟩ := h3 y (by simp [hy])
    exact ⟨k1.row_other ds fun e => hnd.1 (List.mem_map.2 ⟨y, hy, e⟩), k2, k3, k4⟩
theorem RM.put1 {x y : Lc} (h : RM X hb hs bb cb c n F w s (y :: x :: ls) w') (h0 : X.W0.heap.size ≤ w.heap.size) (ds : Array Value) : RM X hb hs bb cb c n F w s (y :: ⟨x.b, ds, x.t⟩ :: ls) (w'.setRow x.b ds) := by
  obtain ⟨F', h1, h2, h3⟩ := h.ex
  have hnd := h.nd
  simp only [List.map_cons, List.nodup_cons, List.mem_cons, not_or] at hnd
  have hsw : RM X hb hs bb cb c n F w s (x :: y :: ls) w' := ⟨⟨F', h1, h2, fun z hz => h3 z (by simp only [List.mem_cons] at hz ⊢; rcases hz with h | h | h <;> simp [h])⟩, by simp only [List.map_cons, List.nodup_cons, List.mem_cons, not_or]; exact ⟨⟨fun e => hnd.1.1 e.symm, hnd.2.1⟩, hnd.1.2, hnd.2.2⟩⟩
  obtain ⟨F2, g1, g2, g3⟩ := (hsw.put h0 ds).ex
  exact ⟨⟨F2, g1, g2, fun z hz => g3 z (by simp only [List.mem_cons] at hz ⊢; rcases hz with h | h | h <;> simp [h])⟩, h.nd⟩
theorem RM.l0 {x : Lc} (h : RM X hb hs bb cb c n F w s (x :: ls) w') : Blk w' x.b x.cs x.t := by
  obtain ⟨F', h1, h2, h3⟩ := h.ex
  exact (h3 x (by simp)).1
theorem RM.l1 {x y : Lc} (h : RM X hb hs bb cb c n F w s (y :: x :: ls) w') : Blk w' x.b x.cs x.t := by
  obtain ⟨F', h1, h2, h3⟩ := h.ex
  exact (h3 x (by simp)).1
theorem RM.l2 {x y z : Lc} (h : RM X hb hs bb cb c n F w s (z :: y :: x :: ls) w') : Blk w' x.b x.cs x.t := by
  obtain ⟨F', h1, h2, h3⟩ := h.ex
  exact (h3 x (by simp)).1
theorem RM.fin (h : RM X hb hs bb cb c n F w s ls w') : RP X hb hs bb cb c n F w s w' := by
  obtain ⟨F', h1, h2, h3⟩ := h.ex
  exact ⟨⟨F', h1, h2, fun x h => by cases h⟩, by simp⟩
theorem RM.blk (h : RM X hb hs bb cb c n F w s ls w') {b : Nat} {cs : Array Value} {t : TypeId} (hk : Blk w b cs t) (hF : ¬ F b) : Blk w' b cs t := by
  obtain ⟨F', h1, h2, h3⟩ := h.ex
  exact (h2.stay b hk.lt hF).trans hk
theorem RM.range (h : RM X hb hs bb cb c n F w s ls w') {b off : Nat} {l : List Value} (hlt : b < w.heap.size) (hr : w.rangeAt b off l) (hF : ¬ F b) : w'.rangeAt b off l := by
  obtain ⟨F', h1, h2, h3⟩ := h.ex
  exact range_same (h2.stay b hlt hF) hr
theorem RM.size (h : RM X hb hs bb cb c n F w s ls w') : w.heap.size ≤ w'.heap.size := by
  obtain ⟨F', h1, h2, h3⟩ := h.ex
  exact h2.fr.size
theorem RM.bblk (h : RM X hb hs bb cb c n F w s ls w') : Blk w' bb (bcs hb hs cb s.full) BT := by
  obtain ⟨F', h1, h2, h3⟩ := h.ex
  exact h1.blk
theorem RM.mp (h : RM X hb hs bb cb c n F w s ls w') : MapN w' cb 26 cd := by
  obtain ⟨F', h1, h2, h3⟩ := h.ex
  exact h1.map
theorem bcs_0 (hb hs cb : Nat) (f : Bool) : (bcs hb hs cb f)[0]? = some (ptr hb) := rfl
theorem bcs_1 (hb hs cb : Nat) (f : Bool) : (bcs hb hs cb f)[1]? = some (ptr hs) := rfl
theorem bcs_2 (hb hs cb : Nat) (f : Bool) : (bcs hb hs cb f)[2]? = some (.map (some cb)) := rfl
theorem bcs_3 (hb hs cb : Nat) (f : Bool) : (bcs hb hs cb f)[3]? = some (.bool f) := rfl
end
end Go.Proofs.Ytblbeinnfbohbaa.Re

/-
  make, function.
-/
namespace Go.Proofs.Ytblbeinnfbohbaa.Re
open Go Go.RowKit Go.Maps Go.Shelf Go.Proofs.Ytblbeinnfbohbaa.Keys Go.Proofs.Ytblbeinnfbohbaa.Hp Go.Proofs.Ytblbeinnfbohbaa.Mo Go.Proofs.Ytblbeinnfbohbaa.Mw
open Go.Proofs.Ytblbeinnfbohbaa.Des (Vl Ds zeroV zeroD dcs dcs_size dcs_one accF rigF appF eqV)
open Go.Proofs.Ytblbeinnfbohbaa.Arrs (En ecs)
set_option linter.unusedVariables false
set_option linter.unusedSimpArgs false

section
variable {X : Cx} {hb hs bb cb c n : Nat} {F F' : Nat → Prop} {s s' : St} {w w' w'' : World}
theorem RF.made (h : RF X hb hs bb cb (c + 1) n F s w) (t : Th) (ht : bare t = t) (hok : t.ok) (hk : t.kind ≠ 4) : Calls Try.prog 35 #[ptr hb, .agg (tcs t)] w fun e w' =>
    if (s.A.objs.length : Int) < s.A.room then e = .returned (.tuple #[.int .i64 s.A.objs.length, .bool true]) ∧ RP X hb hs bb cb c n F w { s with A := makeF t [] [] s.A } w' else e = .returned (.tuple #[.int .i64 0, .bool false]) ∧ Below w.heap.size w w' := by
  obtain ⟨M, Y, e, hw, hp, hd, hf, h1, h2⟩ := h.ex
  subst e
  have hes : t.props = nilS ∧ t.args = nilS := by rw [← ht]; exact ⟨rfl, rfl⟩
  have hg : Give w t [] [] := ⟨⟨none, 0, hes.1, fun j u hj => by simp at hj⟩, ⟨none, 0, hes.2, .inl rfl⟩, (fun e he => by cases he), by simp, by simp⟩
  have hfew := hw.few
  refine (wMake hw hg (by simp) (by simp; omega) (fun _ => hk)).mono ?_
  intro e w' hp'
  unfold MakeP at hp'
  by_cases hr : (s.A.objs.length : Int) < s.A.room
  · simp only [if_pos hr] at hp' ⊢
    obtain ⟨rfl, M', hM', hl⟩ := hp'
    refine ⟨rfl, ?_⟩
    rw [ht] at hl
    obtain ⟨l1, l2⟩ := hl
    have hst : Sc.Step F (fun b => b ∈ M'.bl X.wb ∨ Y b ∨ b = bb) w w' := by
      refine ⟨⟨l2.kp.fr.os, l2.kp.fr.tape, l2.kp.fr.output, l2.kp.fr.size⟩, fun b hb hF => l2.kp.same b hb fun hm => hF ((hf b).2 (.inl hm)), fun b hb => ?_⟩
      rcases hb with hb | hb | hb
      · exact (l2.sub b hb).imp (fun k => (hf b).2 (.inl k)) id
      · exact .inl ((hf b).2 (.inr (.inl hb)))
      · exact .inl ((hf b).2 (.inr (.inr hb)))
    refine ⟨⟨_, ⟨⟨M', Y, hM', l1, hp.same (fun b hb => l2.kp.same b (hp.low b hb).2 (hd b hb)) l2.size, fun b hb hm => ?_, fun b => Iff.rfl, l2.out h.blk.lt h1, h2⟩, l2.blk h.blk h1, h.map.same (l2.kp.same cb h.map.lt fun hm => h.cbo ((hf cb).2 (.inl hm))), fun hm => ?_, h.low, h.lim⟩, hst, fun x hx => by cases hx⟩, by simp⟩
    · rcases l2.sub b hm with k | k
      · exact hd b hb k
      · have := (hp.low b hb).2; omega
    · rcases hst.more cb hm with k | k
      · exact h.cbo k
      · have := h.map.lt; omega
  · simp only [if_neg hr] at hp' ⊢
    exact hp'
/-- The room has ended. -/
theorem RF.fill (h : RF X hb hs bb cb c n F s w) : RP X hb hs bb cb c n F w { s with full := true } (w.setCell ⟨bb, 3, none⟩ (.bool true)) := by
  obtain ⟨M, Y, e, hw, hp, hd, hf, h1, h2⟩ := h.ex
  have hs' : ∀ b, b ≠ bb → (w.setCell ⟨bb, 3, none⟩ (.bool true)).heap[b]? = w.heap[b]? := fun b hb => heap_setCell_other w ⟨bb, 3, none⟩ b _ hb
  have hsz : (w.setCell ⟨bb, 3, none⟩ (.bool true)).heap.size = w.heap.size := by simp [World.setCell]
  have hlow := h.low
  have hfr : Fr w (w.setCell ⟨bb, 3, none⟩ (.bool true)) := ⟨rfl, rfl, rfl, by rw [hsz]; exact Nat.le_refl _⟩
  have hcb : cb ≠ bb := fun e => h.cbo (e ▸ h.bbF)
  exact ⟨⟨F, ⟨⟨M, Y, e, hw.same hfr (fun b hm => hs' b fun e => h1 (e ▸ hm)) ⟨h.base.os, h.base.tape, h.base.output, by rw [hsz]; exact h.base.size, fun b hb => (hs' b (by omega)).trans (h.base.block b hb)⟩, hp.same (fun b hm => hs' b fun e => h2 (e ▸ hm)) hfr.size, hd, hf, h1, h2⟩, h.blk.set 3 (.bool true), h.map.same (hs' cb hcb), h.cbo, h.low, h.lim⟩, ⟨⟨rfl, rfl, rfl, hfr.size⟩, fun b hb hF => hs' b fun e => hF (e ▸ h.bbF), fun b hF => .inl hF⟩, fun x hx => by cases hx⟩, by simp⟩
end
attribute [local go_sem ↓] ldR stR alR bxR bdR ldV stV alV bxV bdV ldKy bxKy bdKy bdT alT stT bxT ldT bdD alD stD
attribute [local irreducible] rcs dcs ecs vcs acs kcs xcs tcs
attribute [local go_sem ↓] bxD
attribute [local go_sem] run_bx run_alV run_stVg run_alT run_bdTp run_bdTf run_bdDh run_bdO6 run_bdN1 run_alD run_stDg run_bdKs
section
variable {X : Cx} {hb hs bb cb c n : Nat} {F F' : Nat → Prop} {s s' : St} {w w' w'' : World}
/-- How a method that gives a value ends. -/
def VP (X : Cx) (hb hs bb cb c n : Nat) (F : Nat → Prop) (w : World) (R : Vl × St) (e : Ending) (w' : World) : Prop := e = .returned (.agg (vcs R.1)) ∧ RP X hb hs bb cb c n F w R.2 w'
set_option maxRecDepth 100000 in
set_option maxHeartbeats 4000000 in
theorem make_v (h : RF X hb hs bb cb (c + 1) n F s w) (t : Th) (ht : bare t = t) (hok : t.ok) (hk : t.kind ≠ 4) : Calls Try.prog 25 #[ptr bb, .agg (tcs t)] w (VP X hb hs bb cb c n F w (mkB t s)) := by
  have h0 := h.base.size
  have G := (((RM.start h).new (tcs t) 85).newg (vcs zeroV) 32 (w.heap.size + 1) (by simp)).drew
  obtain ⟨w1, hw1⟩ : ∃ w1, (w.alloc (.cells (tcs t) 85)).alloc (.cells (vcs zeroV) 32) = w1 := ⟨_, rfl⟩
  rw [hw1] at G
  obtain ⟨F1, r1, pG⟩ := G.open
  have hmk := r1.made t ht hok hk
  have c0 := (r1.blk.cell 0).trans (bcs_0 _ _ _ _)
  have lT := run_ldT G.l1
  have hO := Lib.hid (show (mkB t s) = mkB t s from rfl)
  unfold mkB VP
  by_cases hr : (s.A.objs.length : Int) < s.A.room
  · simp only [if_pos hr] at hmk ⊢
    have HP := Lib.hid (fun (w'' : World) (k : RP X hb hs bb cb c n F1 w1.drew { s with A := makeF t [] [] s.A } w'') => pG k)
    have H0 := Lib.hid h0
    clear h h0 hr r1 G pG
    go_enter Try.func25, Try.ntmps25
    go_wp2
    go_region_with (go_at_call 35; (with_reducible refine hmk.mono ?_); rintro e w2 ⟨rfl, hp⟩; have HG2 := Lib.hid (HP.out w2 hp); clear hp)
    all_goals (go_wp2_with (go_at_call 18; (with_reducible refine (obj_v _ _).mono ?_); rintro e w3 ⟨rfl, hb3⟩; have G3 := HG2.out.call hb3; have s3 := run_stVp (v := objV (s.A.objs.length : Int)) G3.l0; have HG3 := Lib.hid G3; clear hb3 G3))
    all_goals (have G4 := HG3.out.put H0.out (vcs (objV (s.A.objs.length : Int))); refine bodyPost_ret (res_V rfl _ _ _ (objV (s.A.objs.length : Int)) rfl G4.l0) rfl ?_; exact ⟨rfl, G4.fin⟩)
  · simp only [if_neg hr] at hmk ⊢
    have HR := Lib.hid r1
    have HP := Lib.hid (fun (w'' : World) (k : RP X hb hs bb cb c n F1 w1.drew { s with full := true } w'') => pG k)
    have H0 := Lib.hid h0
    clear h h0 hr r1 G pG
    go_enter Try.func25, Try.ntmps25
    go_wp2
    go_region_with (go_at_call 35; (with_reducible refine hmk.mono ?_); rintro e w2 ⟨rfl, hp⟩; have r2 := HR.out.call hp; have q2 := RM.less r2.fill (Nat.le_succ c) (Nat.le_refl n); have T3 := r2.blk.frozen 3; have C3 := (r2.blk.cell 3).trans (bcs_3 _ _ _ _); have HG2 := Lib.hid (HP.out _ (q2.from hp fun b hF => HR.out.lt hF)); clear hp r2 q2)
    all_goals (go_wp2_with (go_at_call 18; (with_reducible refine (obj_v _ _).mono ?_); rintro e w3 ⟨rfl, hb3⟩; have G3 := HG2.out.call hb3; have s3 := run_stVp (v := objV 0) G3.l0; have HG3 := Lib.hid G3; clear hb3 G3))
    all_goals (have G4 := HG3.out.put H0.out (vcs (objV 0)); refine bodyPost_ret (res_V rfl _ _ _ (objV 0) rfl G4.l0) rfl ?_; exact ⟨rfl, G4.fin⟩)
end
end Go.Proofs.Ytblbeinnfbohbaa.Re

/-
  function.
-/
namespace Go.Proofs.Ytblbeinnfbohbaa.Re
open Go Go.RowKit Go.Maps Go.Shelf Go.Proofs.Ytblbeinnfbohbaa.Keys Go.Proofs.Ytblbeinnfbohbaa.Hp Go.Proofs.Ytblbeinnfbohbaa.Mo Go.Proofs.Ytblbeinnfbohbaa.Mw
open Go.Proofs.Ytblbeinnfbohbaa.Des (Vl Ds zeroV zeroD dcs dcs_size dcs_one accF rigF appF eqV)
open Go.Proofs.Ytblbeinnfbohbaa.Arrs (En ecs)
set_option linter.unusedVariables false
set_option linter.unusedSimpArgs false
attribute [local go_sem ↓] ldR stR alR bxR bdR ldV stV alV bxV bdV ldKy bxKy bdKy bdT alT stT bxT ldT bdD alD stD
attribute [local irreducible] rcs dcs ecs vcs acs kcs xcs tcs
attribute [local go_sem ↓] bxD
attribute [local go_sem] run_bx run_alV run_stVg run_alT run_bdTp run_bdTf run_bdDh run_bdO6 run_bdN1 run_alD run_stDg run_bdKs
section
variable {X : Cx} {hb hs bb cb c n : Nat} {F F' : Nat → Prop} {s s' : St} {w w' w'' : World}
theorem below_row {w w' : World} (h : Below w.heap.size w w') (b : Nat) (cs : Array Value) (hb : w.heap.size ≤ b := by omega) : Below w.heap.size w (w'.setRow b cs) :=
  ⟨h.os, h.tape, h.output, by rw [size_setRow]; exact h.size, fun k hk => (setRow_other w' b k cs (by omega)).trans (h.block k hk)⟩
set_option maxRecDepth 100000 in
set_option maxHeartbeats 4000000 in
theorem func_v (h : RF X hb hs bb cb c n F s w) (nme : ByteArray) (hn : Sc.Fine nme) : Calls Try.prog 28 #[ptr bb, .string nme] w fun e w' => e = .returned (.agg (tcs (fnT (cd nme)))) ∧ Below w.heap.size w w' := by
  obtain ⟨w1, hw1⟩ : ∃ w1, w.alloc (.cells (tcs zeroT) 85) = w1 := ⟨_, rfl⟩
  have hB : Below w.heap.size w w1.drew := by rw [← hw1]; exact ((Below.refl _ w).alloc (Nat.le_refl _) _).drew
  have hx : Blk w1.drew w.heap.size (tcs zeroT) 85 := by rw [← hw1]; exact Blk.new w _ _
  have h1 := h.call hB
  have c2 := (h1.blk.cell 2).trans (bcs_2 _ _ _ _)
  have lk := h1.map.look hn
  have HH := Lib.hid h1
  have HB := Lib.hid hB
  have HX := Lib.hid hx
  obtain ⟨cc, hcc⟩ : ∃ cc, cd nme = cc := ⟨_, rfl⟩
  rw [hcc] at lk ⊢
  have HC := Lib.hid hcc
  clear h h1 hB hx hcc
  go_enter Try.func28, Try.ntmps28
  go_wp2
  go_region_with (go_at_call 18; (with_reducible refine (obj_v _ _).mono ?_); rintro e w2 ⟨rfl, hb⟩; have h2 := HH.out.call hb; have c2 := (h2.blk.cell 2).trans (bcs_2 _ _ _ _); have lk := h2.map.look hn; rw [HC.out] at lk; have x2 := HX.out.call hb; have sT := run_st_row (T := 85) x2 (cs := tcs (fnT cc)) (by rw [tcs_size]; kernel_rfl) (by rw [tcs_size, tcs_size]) (tcs_one (fnT_ok cc)); have HX2 := Lib.hid (x2.row (tcs (fnT cc))); have HB2 := Lib.hid (show Below w.heap.size w (w2.setRow w.heap.size (tcs (fnT cc))) from below_row (HB.out.trans (hb.mono HB.out.size)) _ _); clear hb h2 x2)
  all_goals go_wp2
  all_goals (refine bodyPost_ret (res_T rfl _ _ _ (fnT cc) rfl HX2.out) rfl ?_; exact ⟨rfl, HB2.out⟩)
end
end Go.Proofs.Ytblbeinnfbohbaa.Re
