/-
  Texts of this seat in build order: ReGlob, ReCodes, ReNames, MwNew.
-/
import Derived.Test.YtblbeinnfbohbaaMz14
import Derived.Deep.RegionWith
import Derived.Deep.LoopGhost
import Derived.OwnWalk
import Derived.Test.YtblbeinnfbohbaaMz11
import Derived.Test.YtblbeinnfbohbaaMz10
/-
  Names: global and what calls it.
-/
namespace Go.Proofs.Ytblbeinnfbohbaa.Re
open Go Go.RowKit Go.Maps Go.Shelf Go.Proofs.Ytblbeinnfbohbaa.Keys Go.Proofs.Ytblbeinnfbohbaa.Hp Go.Proofs.Ytblbeinnfbohbaa.Mo Go.Proofs.Ytblbeinnfbohbaa.Mw
open Go.Proofs.Ytblbeinnfbohbaa.Des (Vl Ds zeroV zeroD dcs dcs_size dcs_one accF rigF appF eqV)
open Go.Proofs.Ytblbeinnfbohbaa.Arrs (En ecs)
set_option linter.unusedVariables false
set_option linter.unusedSimpArgs false

section
variable {X : Cx} {hb hs bb cb c n : Nat} {F F' : Nat → Prop} {s s' : St} {w w' w'' : World}
theorem scV_cells (v : Vl) : Sc.vcs (scV v) = vcs v := rfl
theorem RF.scope (h : RF X hb hs bb cb c n F s w) {f : FuncId} {args : Array Value} {r : Value} {S' : List Sc.Sco} {n' : Nat} (hc : ∀ Y, Sc.PIs X.W0.heap.size Y w hs s.S → Calls Try.prog f args w (Sc.Ends X.W0.heap.size Y hs w r S')) (hl : Sc.Lim n' S') :
    Calls Try.prog f args w fun e w' => e = .returned r ∧ RP X hb hs bb cb c n' F w { s with S := S' } w' := by
  obtain ⟨M, Y, e, hw, hp, hd, hf, h1, h2⟩ := h.ex
  refine (hc Y hp).mono ?_
  rintro e w' ⟨rfl, k1, k2⟩
  refine ⟨rfl, ?_⟩
  have hsz : w.heap.size ≤ w'.heap.size := k2.fr.size
  have hlow := h.low
  have hwb : ∀ b, b ∈ M.bl X.wb → w'.heap[b]? = w.heap[b]? := fun b hm => k2.stay b (hw.lt b hm) fun hY => hd b hY hm
  have hfr : Fr w w' := ⟨k2.fr.os, k2.fr.tape, k2.fr.output, k2.fr.size⟩
  have hbel : Below X.W0.heap.size X.W0 w' := ⟨k2.fr.os.trans h.base.os, k2.fr.tape.trans h.base.tape, k2.fr.output.trans h.base.output, Nat.le_trans h.base.size hsz, fun b hb => (k2.stay b (Nat.lt_of_lt_of_le hb h.base.size) fun hY => by have := (hp.low b hY).1; omega).trans (h.base.block b hb)⟩
  refine ⟨⟨fun b => b ∈ M.bl X.wb ∨ Sc.Also Y w w' b ∨ b = bb, ⟨⟨M, Sc.Also Y w w', e, hw.same hfr hwb hbel, k1, fun b hb hm => ?_, fun b => Iff.rfl, h1, fun hb => ?_⟩, (k2.stay bb h.blk.lt h2).trans h.blk, h.map.same (k2.stay cb h.map.lt fun hY => h.cbo ((hf cb).2 (.inr (.inl hY)))), fun hm => ?_, h.low, hl⟩, ⟨k2.fr, fun b hb hF => k2.stay b hb fun hY => hF ((hf b).2 (.inr (.inl hY))), fun b hb => ?_⟩, fun x hx => by cases hx⟩, by simp⟩
  · rcases hb with hb | hb
    · exact hd b hb hm
    · have := hw.lt b hm; omega
  · rcases hb with hb | hb
    · exact h2 hb
    · have := h.blk.lt; omega
  · rcases hm with hm | (hm | hm) | hm
    · exact h.cbo ((hf cb).2 (.inl hm))
    · exact h.cbo ((hf cb).2 (.inr (.inl hm)))
    · have := h.map.lt; omega
    · exact h.cbo ((hf cb).2 (.inr (.inr hm)))
  · rcases hb with hb | (hb | hb) | hb
    · exact .inl ((hf b).2 (.inl hb))
    · exact .inl ((hf b).2 (.inr (.inl hb)))
    · exact .inr hb.1
    · exact .inl ((hf b).2 (.inr (.inr hb)))
theorem RF.let (h : RF X hb hs bb cb c n F s w) (hn : n ≤ 900) {nme : ByteArray} (hf : Sc.Fine nme) : Calls Try.prog 38 #[ptr hs, .int .i64 0, .string nme, .bool true] w fun e w' => e = .returned (.bool (Sc.letF s.S 0 nme true).1) ∧ RP X hb hs bb cb c (n + 1) F w { s with S := (Sc.letF s.S 0 nme true).2 } w' :=
  h.scope (fun Y hp => by
    obtain ⟨sb, mb, vb, a, cc, hpa⟩ := hp
    exact Sc.let_any hpa 0 hf true fun i sc hi => Nat.le_trans (h.lim.vars i sc hi) (by omega)) (h.lim.let 0 nme true)
theorem RF.begin (h : RF X hb hs bb cb c n F s w) {nme : ByteArray} (hf : Sc.Fine nme) (v : Vl) : Calls Try.prog 39 #[ptr hs, .int .i64 0, .string nme, .agg (vcs v)] w fun e w' => e = .returned (.bool (Sc.beginF s.S 0 nme (scV v)).1) ∧ RP X hb hs bb cb c n F w { s with S := (Sc.beginF s.S 0 nme (scV v)).2 } w' :=
  h.scope (fun Y hp => by
    obtain ⟨sb, mb, vb, a, cc, hpa⟩ := hp
    rw [← scV_cells v]
    exact Sc.begin_any hpa 0 hf (scV v)) (h.lim.begin 0 nme (scV v))
end
attribute [local go_sem ↓] ldR stR alR bxR bdR ldV stV alV bxV bdV ldKy bxKy bdKy bdT alT stT bxT ldT bdD alD stD
attribute [local irreducible] rcs dcs ecs vcs acs kcs xcs tcs
attribute [local go_sem ↓] bxD
attribute [local go_sem] run_bx run_alV run_stVg run_alT run_bdTp run_bdTf run_bdDh run_bdO6 run_bdN1 run_alD run_stDg run_bdKs
section
variable {X : Cx} {hb hs bb cb c n : Nat} {F F' : Nat → Prop} {s s' : St} {w w' w'' : World}
set_option maxRecDepth 100000 in
set_option maxHeartbeats 4000000 in
theorem global_v (h : RF X hb hs bb cb (c + 1) n F s w) (hn : n ≤ 900) (nme : ByteArray) (hf : Sc.Fine nme) (t : Th) (ht : bare t = t) (hok : t.ok) (hk : t.kind ≠ 4) : Calls Try.prog 31 #[ptr bb, .string nme, .agg (tcs t)] w (VP X hb hs bb cb c (n + 1) F w (glB nme t s)) := by
  have h0 := h.base.size
  obtain ⟨W1, hW1⟩ : ∃ W1, (w.alloc (.cells (tcs t) 85)).alloc (.cells (vcs zeroV) 32) = W1 := ⟨_, rfl⟩
  have G := ((RM.start h).new (tcs t) 85).newg (vcs zeroV) 32 (w.heap.size + 1) (by simp)
  rw [hW1] at G
  have lT := run_ldT G.l1
  obtain ⟨F1, r1, pG⟩ := G.open
  have hmk := make_v r1 t ht hok hk
  obtain ⟨R, hR⟩ : ∃ R, mkB t s = R := ⟨_, rfl⟩
  rw [hR] at hmk
  have HR := Lib.hid hR
  have H0 := Lib.hid h0
  have HP := Lib.hid (fun (w'' : World) (k : RP X hb hs bb cb c n F1 W1 R.2 w'') => pG k)
  unfold VP glB
  rw [hR]
  cases hfull : R.2.full with
  | true =>
    have HF := Lib.hid hfull
    clear hR h h0 r1 pG G hfull
    go_enter Try.func31, Try.ntmps31
    go_wp2_with (go_at_call 25; (with_reducible refine hmk.mono ?_); rintro e w2 ⟨rfl, hp⟩; have G2 := (HP.out w2 hp).newg (vcs R.1) 32 w2.heap.size rfl; have C3 := (G2.bblk.cell 3).trans (bcs_3 _ _ _ _); rw [HF.out] at C3; have L0 := run_ldVp G2.l0; have s3 := run_stVp (v := R.1) G2.l1; have HG2 := Lib.hid (G2.put1 H0.out (vcs R.1)); clear G2 hp hmk)
    refine bodyPost_ret (res_V rfl _ _ _ R.1 rfl HG2.out.l1) rfl ?_
    exact ⟨rfl, HG2.out.fin.less (Nat.le_refl _) (Nat.le_succ _)⟩
  | false =>
    have HF := Lib.hid hfull
    clear hR h h0 r1 pG G hfull
    go_enter Try.func31, Try.ntmps31
    go_wp2_with (first
      | (go_at_call 25; (with_reducible refine hmk.mono ?_); rintro e w2 ⟨rfl, hp⟩; have G2 := (HP.out w2 hp).newg (vcs R.1) 32 w2.heap.size rfl; have C3 := (G2.bblk.cell 3).trans (bcs_3 _ _ _ _); rw [HF.out] at C3; have C1 := (G2.bblk.cell 1).trans (bcs_1 _ _ _ _); obtain ⟨F2, r2, pG2⟩ := G2.open; have hlt := r2.let hn hf; have HP2 := Lib.hid (fun (w'' : World) (k : RP X hb hs bb cb c (n + 1) F2 _ { R.2 with S := (Sc.letF R.2.S 0 nme true).2 } w'') => pG2 k); clear G2 hp hmk pG2 r2)
      | (go_at_call 38; (with_reducible refine hlt.mono ?_); rintro e w3 ⟨rfl, hp⟩; have G3 := (HP2.out w3 hp).drew; have C1 := (G3.bblk.cell 1).trans (bcs_1 _ _ _ _); have L0 := run_ldVp G3.l0; obtain ⟨F3, r3, pG3⟩ := G3.open; have hbg := r3.begin hf R.1; have HP3 := Lib.hid (fun (w'' : World) (k : RP X hb hs bb cb c (n + 1) F3 _ { R.2 with S := (Sc.beginF (Sc.letF R.2.S 0 nme true).2 0 nme (scV R.1)).2 } w'') => pG3 k); clear G3 hp hlt pG3 r3))
    go_region_with (go_at_call 39; (with_reducible refine hbg.mono ?_); rintro e w4 ⟨rfl, hp⟩; have G4 := HP3.out w4 hp; have L0 := run_ldVp G4.l0; have s4 := run_stVp (v := R.1) G4.l1; have HG4 := Lib.hid (G4.put1 H0.out (vcs R.1)); clear G4 hp hbg)
    all_goals go_wp2
    all_goals (
      refine bodyPost_ret (res_V rfl _ _ _ R.1 rfl HG4.out.l1) rfl ?_
      exact ⟨rfl, HG4.out.fin⟩)
set_option maxRecDepth 100000 in
set_option maxHeartbeats 4000000 in
theorem globF_v (h : RF X hb hs bb cb (c + 1) n F s w) (hn : n ≤ 900) (nme : ByteArray) (hf : Sc.Fine nme) : Calls Try.prog 19 #[ptr bb, .string nme] w (VP X hb hs bb cb c (n + 1) F w (glF nme s)) := by
  have h0 := h.base.size
  obtain ⟨W1, hW1⟩ : ∃ W1, w.alloc (.cells (vcs zeroV) 32) = W1 := ⟨_, rfl⟩
  have G := (RM.start h).new (vcs zeroV) 32
  rw [hW1] at G
  obtain ⟨F1, r1, pG⟩ := G.open
  have hfn := func_v r1 nme hf
  have HG := Lib.hid G
  have H0 := Lib.hid h0
  obtain ⟨R, hR⟩ : ∃ R, glF nme s = R := ⟨_, rfl⟩
  rw [hR]
  have HR := Lib.hid (show glB nme (fnT (cd nme)) s = R from hR)
  clear h r1 pG G h0 hR
  go_enter Try.func19, Try.ntmps19
  go_wp2_with (first
    | (go_at_call 28; (with_reducible refine hfn.mono ?_); rintro e w2 ⟨rfl, hb2⟩; have G2 := HG.out.call hb2; obtain ⟨F2, r2, pG2⟩ := G2.open; have hgl := global_v r2 hn nme hf (fnT (cd nme)) rfl (fnT_ok _) (by show (2 : Int) ≠ 4; decide); rw [HR.out] at hgl; have HP := Lib.hid (fun (w'' : World) (k : RP X hb hs bb cb c (n + 1) F2 w2 R.2 w'') => pG2 k); clear G2 pG2 r2 hb2 hfn)
    | (go_at_call 31; (with_reducible refine hgl.mono ?_); rintro e w3 ⟨rfl, hp⟩; have G3 := HP.out w3 hp; have s3 := run_stVp (v := R.1) G3.l0; have HG3 := Lib.hid (G3.put H0.out (vcs R.1)); clear G3 hp hgl))
  refine bodyPost_ret (res_V rfl _ _ _ R.1 rfl HG3.out.l0) rfl ?_
  exact ⟨rfl, HG3.out.fin⟩
set_option maxRecDepth 100000 in
set_option maxHeartbeats 4000000 in
theorem globO_v (h : RF X hb hs bb cb (c + 1) n F s w) (hn : n ≤ 900) (nme : ByteArray) (hf : Sc.Fine nme) : Calls Try.prog 20 #[ptr bb, .string nme] w (VP X hb hs bb cb c (n + 1) F w (glO nme s)) := by
  have h0 := h.base.size
  obtain ⟨W1, hW1⟩ : ∃ W1, w.alloc (.cells (vcs zeroV) 32) = W1 := ⟨_, rfl⟩
  have G := (RM.start h).new (vcs zeroV) 32
  rw [hW1] at G
  have HG := Lib.hid G
  have H0 := Lib.hid h0
  obtain ⟨R, hR⟩ : ∃ R, glO nme s = R := ⟨_, rfl⟩
  rw [hR]
  have HR := Lib.hid (show glB nme (plT (objV 0)) s = R from hR)
  clear h G h0 hR
  go_enter Try.func20, Try.ntmps20
  go_wp2_with (first
    | (go_at_call 18; (with_reducible refine (obj_v _ _).mono ?_); rintro e w2 ⟨rfl, hb2⟩; have HG2 := Lib.hid (HG.out.call hb2); clear hb2)
    | (go_at_call 26; (with_reducible refine (plain_v _ _).mono ?_); rintro e w2b ⟨rfl, hb2⟩; have G2 := HG2.out.call hb2; obtain ⟨F2, r2, pG2⟩ := G2.open; have hgl := global_v r2 hn nme hf (plT (objV 0)) rfl (plT_ok _) (by show (0 : Int) ≠ 4; decide); rw [HR.out] at hgl; have HP := Lib.hid (fun (w'' : World) (k : RP X hb hs bb cb c (n + 1) F2 w2b R.2 w'') => pG2 k); clear G2 pG2 r2 hb2)
    | (go_at_call 31; (with_reducible refine hgl.mono ?_); rintro e w3 ⟨rfl, hp⟩; have G3 := HP.out w3 hp; have s3 := run_stVp (v := R.1) G3.l0; have HG3 := Lib.hid (G3.put H0.out (vcs R.1)); clear G3 hp hgl))
  refine bodyPost_ret (res_V rfl _ _ _ R.1 rfl HG3.out.l0) rfl ?_
  exact ⟨rfl, HG3.out.fin⟩
set_option maxRecDepth 100000 in
set_option maxHeartbeats 4000000 in
theorem proto_v (h : RF X hb hs bb cb (c + 3) n F s w) : Calls Try.prog 16 #[ptr bb] w fun e w' => e = .returned (.tuple #[]) ∧ RP X hb hs bb cb c n F w (protoB s) w' := by
  obtain ⟨R1, hR1⟩ : ∃ R, mkB (plT nullV) s = R := ⟨_, rfl⟩
  obtain ⟨R2, hR2⟩ : ∃ R, mkB (plT (objV 0)) R1.2 = R := ⟨_, rfl⟩
  obtain ⟨R3, hR3⟩ : ∃ R, mkB (plT (objV 0)) R2.2 = R := ⟨_, rfl⟩
  have hP : protoB s = R3.2 := by unfold protoB; rw [hR1, hR2, hR3]
  rw [hP]
  have E1 := Lib.hid hR1
  have E2 := Lib.hid hR2
  have E3 := Lib.hid hR3
  have HG := Lib.hid (RM.start h)
  clear h hR1 hR2 hR3 hP
  go_enter Try.func16, Try.ntmps16
  go_wp2_with (first
    | (go_at_call 27; (with_reducible refine (null_v _).mono ?_); rintro e w2 ⟨rfl, hb2⟩; have HG2 := Lib.hid (HG.out.call hb2); clear hb2)
    | (go_at_call 26; (with_reducible refine (plain_v nullV _).mono ?_); rintro e w2b ⟨rfl, hb2⟩; have G2 := HG2.out.call hb2; obtain ⟨F2, r2, pG2⟩ := G2.open; have hm1 := make_v r2 (plT nullV) rfl (plT_ok _) (by show (0 : Int) ≠ 4; decide); rw [E1.out] at hm1; have HP := Lib.hid (fun (w'' : World) (k : RP X hb hs bb cb (c + 2) n F2 w2b R1.2 w'') => pG2 k); clear G2 pG2 r2 hb2)
    | (go_at_call 25; (with_reducible refine hm1.mono ?_); rintro e w3 ⟨rfl, hp⟩; have HG3 := Lib.hid (HP.out w3 hp); clear hp hm1 HP; refine Hid.out ?_))
  refine Lib.hid ?_
  go_wp2_with (first
    | (go_at_call 18; (with_reducible refine (obj_v _ _).mono ?_); rintro e w4 ⟨rfl, hb2⟩; have HG4 := Lib.hid (HG3.out.call hb2); clear hb2)
    | (go_at_call 26; (with_reducible refine (plain_v _ _).mono ?_); rintro e w4b ⟨rfl, hb2⟩; have G2 := HG4.out.call hb2; obtain ⟨F2, r2, pG2⟩ := G2.open; have hm1 := make_v r2 (plT (objV 0)) rfl (plT_ok _) (by show (0 : Int) ≠ 4; decide); rw [E2.out] at hm1; have HP := Lib.hid (fun (w'' : World) (k : RP X hb hs bb cb (c + 1) n F2 w4b R2.2 w'') => pG2 k); clear G2 pG2 r2 hb2)
    | (go_at_call 25; (with_reducible refine hm1.mono ?_); rintro e w5 ⟨rfl, hp⟩; have HG5 := Lib.hid (HP.out w5 hp); clear hp hm1 HP; refine Hid.out ?_))
  refine Lib.hid ?_
  go_wp2_with (first
    | (go_at_call 18; (with_reducible refine (obj_v _ _).mono ?_); rintro e w6 ⟨rfl, hb2⟩; have HG6 := Lib.hid (HG5.out.call hb2); clear hb2)
    | (go_at_call 26; (with_reducible refine (plain_v _ _).mono ?_); rintro e w6b ⟨rfl, hb2⟩; have G2 := HG6.out.call hb2; obtain ⟨F2, r2, pG2⟩ := G2.open; have hm1 := make_v r2 (plT (objV 0)) rfl (plT_ok _) (by show (0 : Int) ≠ 4; decide); rw [E3.out] at hm1; have HP := Lib.hid (fun (w'' : World) (k : RP X hb hs bb cb c n F2 w6b R3.2 w'') => pG2 k); clear G2 pG2 r2 hb2)
    | (go_at_call 25; (with_reducible refine hm1.mono ?_); rintro e w7 ⟨rfl, hp⟩; have HG7 := Lib.hid (HP.out w7 hp); clear hp hm1 HP))
  refine bodyPost_end (results_none rfl _ _ _) rfl ?_
  exact ⟨rfl, HG7.out.fin⟩
end
end Go.Proofs.Ytblbeinnfbohbaa.Re

/-
  codes, methods.
-/
namespace Go.Proofs.Ytblbeinnfbohbaa.Re
open Go Go.RowKit Go.Maps Go.Shelf Go.Proofs.Ytblbeinnfbohbaa.Keys Go.Proofs.Ytblbeinnfbohbaa.Hp Go.Proofs.Ytblbeinnfbohbaa.Mo Go.Proofs.Ytblbeinnfbohbaa.Mw
open Go.Proofs.Ytblbeinnfbohbaa.Des (Vl Ds zeroV zeroD dcs dcs_size dcs_one accF rigF appF eqV)
open Go.Proofs.Ytblbeinnfbohbaa.Arrs (En ecs)
set_option linter.unusedVariables false
set_option linter.unusedSimpArgs false

theorem bel_turned {w w1 w2 : World} {B m : Nat} (h : Below B w w1) (k : w1.mapTurned w2 m) (hm : B ≤ m) (hB : B ≤ w.heap.size) : Below B w w2 :=
  ⟨k.grown.os.trans h.os, k.grown.tape.trans h.tape, k.grown.output.trans h.output, Nat.le_trans h.size k.grown.size, fun b hb => (Sc.turned_other k (by omega)).trans (h.block b hb)⟩
theorem bel_grown {w w1 w2 : World} {B : Nat} {v : Value} (h : Below B w w1) (hB : B ≤ w.heap.size) (k : w1.grownBy w2 v.ownBlock) (hm : ∀ g, v.ownBlock = some g → B ≤ g) : Below B w w2 :=
  ⟨k.os.trans h.os, k.tape.trans h.tape, k.output.trans h.output, Nat.le_trans h.size k.size, fun b hb => (k.block b (by have := h.size; omega) (fun e => by have := hm b e.symm; omega)).trans (h.block b hb)⟩
theorem own_low {w : World} {base : Nat} {e : TypeId} {sz n : Nat} {v : Value} {xs : List Value} (h : w.ownsRow base e sz v n xs) : ∀ g, v.ownBlock = some g → base ≤ g := fun g hg => by
  rcases h.2 with ⟨rfl, -⟩ | ⟨g2, cap, cur, rfl, h2, -⟩
  · simp [Value.ownBlock] at hg
  · simp [Value.ownBlock] at hg
    omega
theorem mapN_mono {w : World} {m n : Nat} {f g : ByteArray → Int} (h : MapN w m n f) (e : f = g) : MapN w m n g := e ▸ h
theorem trap_fine (j : Nat) (hj : j < 13) : Sc.Fine (trapS ((j : Int) + 1)) ∧ Fine (trapS ((j : Int) + 1), 0) := by
  rcases (by omega : j = 0 ∨ j = 1 ∨ j = 2 ∨ j = 3 ∨ j = 4 ∨ j = 5 ∨ j = 6 ∨ j = 7 ∨ j = 8 ∨ j = 9 ∨ j = 10 ∨ j = 11 ∨ j = 12) with rfl | rfl | rfl | rfl | rfl | rfl | rfl | rfl | rfl | rfl | rfl | rfl | rfl <;> exact ⟨by unfold Sc.Fine maxLen; decide, by decide, by decide, by decide⟩
section
theorem f_nCall : Sc.Fine nCall := by unfold Sc.Fine maxLen; decide
theorem f_nBind : Sc.Fine nBind := by unfold Sc.Fine maxLen; decide
theorem f_nProxy : Sc.Fine nProxy := by unfold Sc.Fine maxLen; decide
theorem f_nRevo : Sc.Fine nRevo := by unfold Sc.Fine maxLen; decide
theorem f_nCreate : Sc.Fine nCreate := by unfold Sc.Fine maxLen; decide
theorem f_nFreeze : Sc.Fine nFreeze := by unfold Sc.Fine maxLen; decide
theorem f_nSeal : Sc.Fine nSeal := by unfold Sc.Fine maxLen; decide
theorem f_nFrozen : Sc.Fine nFrozen := by unfold Sc.Fine maxLen; decide
theorem f_nSealed : Sc.Fine nSealed := by unfold Sc.Fine maxLen; decide
theorem f_nKeys : Sc.Fine nKeys := by unfold Sc.Fine maxLen; decide
theorem f_nSymbol : Sc.Fine nSymbol := by unfold Sc.Fine maxLen; decide
theorem f_nIsArr : Sc.Fine nIsArr := by unfold Sc.Fine maxLen; decide
theorem f_nPrint : Sc.Fine nPrint := by unfold Sc.Fine maxLen; decide
end
set_option maxRecDepth 100000 in
set_option maxHeartbeats 4000000 in
theorem codes_v (w : World) : Calls Try.prog 15 #[] w fun e w' => e = .returned (.map (some w.heap.size)) ∧ Below w.heap.size w w' ∧ MapN w' w.heap.size 26 cd := by
  obtain ⟨W0, hW0⟩ : ∃ W0, w.alloc (.map #[] 0) = W0 := ⟨_, rfl⟩
  have mk0 : (Instr.makeMap 57 none).run Try.prog w = .ok (.map (some w.heap.size)) W0 := by rw [← hW0]; rfl
  have m0 : MapN W0 w.heap.size 0 (fun _ => 0) := by rw [← hW0]; exact MapN.made w
  have b0 : Below w.heap.size w W0 := by rw [← hW0]; exact (Below.refl _ w).alloc (Nat.le_refl _) _
  obtain ⟨W1, r1, m1, t1⟩ := m0.store (by unfold maxLen; omega) f_nCall 37
  have b1 := bel_turned b0 t1 (Nat.le_refl _) (Nat.le_refl _)
  obtain ⟨W2, r2, m2, t2⟩ := m1.store (by unfold maxLen; omega) f_nBind 36
  have b2 := bel_turned b1 t2 (Nat.le_refl _) (Nat.le_refl _)
  obtain ⟨W3, r3, m3, t3⟩ := m2.store (by unfold maxLen; omega) f_nProxy 30
  have b3 := bel_turned b2 t3 (Nat.le_refl _) (Nat.le_refl _)
  obtain ⟨W4, r4, m4, t4⟩ := m3.store (by unfold maxLen; omega) f_nRevo 31
  have b4 := bel_turned b3 t4 (Nat.le_refl _) (Nat.le_refl _)
  obtain ⟨W5, r5, m5, t5⟩ := m4.store (by unfold maxLen; omega) f_nCreate 38
  have b5 := bel_turned b4 t5 (Nat.le_refl _) (Nat.le_refl _)
  obtain ⟨W6, r6, m6, t6⟩ := m5.store (by unfold maxLen; omega) f_nFreeze 39
  have b6 := bel_turned b5 t6 (Nat.le_refl _) (Nat.le_refl _)
  obtain ⟨W7, r7, m7, t7⟩ := m6.store (by unfold maxLen; omega) f_nSeal 40
  have b7 := bel_turned b6 t7 (Nat.le_refl _) (Nat.le_refl _)
  obtain ⟨W8, r8, m8, t8⟩ := m7.store (by unfold maxLen; omega) f_nFrozen 41
  have b8 := bel_turned b7 t8 (Nat.le_refl _) (Nat.le_refl _)
  obtain ⟨W9, r9, m9, t9⟩ := m8.store (by unfold maxLen; omega) f_nSealed 42
  have b9 := bel_turned b8 t9 (Nat.le_refl _) (Nat.le_refl _)
  obtain ⟨W10, r10, m10, t10⟩ := m9.store (by unfold maxLen; omega) f_nKeys 43
  have b10 := bel_turned b9 t10 (Nat.le_refl _) (Nat.le_refl _)
  obtain ⟨W11, r11, m11, t11⟩ := m10.store (by unfold maxLen; omega) f_nSymbol 34
  have b11 := bel_turned b10 t11 (Nat.le_refl _) (Nat.le_refl _)
  obtain ⟨W12, r12, m12, t12⟩ := m11.store (by unfold maxLen; omega) f_nIsArr 35
  have b12 := bel_turned b11 t12 (Nat.le_refl _) (Nat.le_refl _)
  obtain ⟨W13, r13, m13, t13⟩ := m12.store (by unfold maxLen; omega) f_nPrint 33
  have b13 := bel_turned b12 t13 (Nat.le_refl _) (Nat.le_refl _)
  have M13 : MapN W13 w.heap.size 13 (cdR 0) := m13
  have HM := Lib.hid M13
  have HB := Lib.hid b13
  clear hW0 m0 b0 m1 b1 m2 b2 m3 b3 m4 b4 m5 b5 m6 b6 m7 b7 m8 b8 m9 b9 m10 b10 m11 b11 m12 b12 m13 b13 t1 t2 t3 t4 t5 t6 t7 t8 t9 t10 t11 t12 t13 M13
  go_enter Try.func15, Try.ntmps15
  go_wp2
  go_loopg [2] 13 (fun g q wr => ∃ (j : Nat), j ≤ 13 ∧ g = 13 - j ∧ q = .int .i64 ((j : Int) + 1) ∧ MapN wr w.heap.size (13 + j) (cdR j) ∧ Below w.heap.size w wr)
  case atStart => exact ⟨0, by omega, rfl, rfl, HM.out, HB.out⟩
  case round =>
    rename World => wr
    obtain ⟨j, hj, rfl, rfl, hm, hb⟩ := hrel
    by_cases hjl : j < 13
    · have hd1 : decide ((j : Int) + 1 ≤ 13) = true := by simp; omega
      have hw1 : wrap64 (10 + ((j : Int) + 1)) = 10 + ((j : Int) + 1) := by unfold wrap64; omega
      have hw2 : wrap64 ((j : Int) + 1 + 1) = (j : Int) + 1 + 1 := by unfold wrap64; omega
      have HMj := Lib.hid hm
      have HBj := Lib.hid hb
      have hnm := name_v ((j : Int) + 1) wr
      clear hm hb
      go_wp2_with (go_at_call 24; (with_reducible refine hnm.mono ?_); rintro e w2 ⟨rfl, hb2⟩; obtain ⟨w3, r3, m3, t3⟩ := (HMj.out.call hb2).store (by unfold maxLen; omega) (trap_fine j hjl).1 (10 + ((j : Int) + 1)); have HM3 := Lib.hid m3; have HB3 := Lib.hid (bel_turned (HBj.out.trans (hb2.mono HBj.out.size)) t3 (Nat.le_refl _) (Nat.le_refl _)); clear m3 t3 hb2 hnm)
      go_roundg (13 - (j + 1))
      case measure => omega
      case rel => exact ⟨j + 1, by omega, rfl, by go_num, HM3.out, HB3.out⟩
    · have hjl' : j = 13 := by omega
      subst hjl'
      have HMj := Lib.hid hm
      have HBj := Lib.hid hb
      clear hm hb
      go_wp2
      go_ret
      exact ⟨rfl, HBj.out, HMj.out⟩
set_option maxRecDepth 100000 in
set_option maxHeartbeats 4000000 in
theorem methods_v (w : World) : Calls Try.prog 21 #[] w fun e w' => ∃ v, e = .returned v ∧ Below w.heap.size w w' ∧ w'.ownsRow w.heap.size 9 1 v 13 (mths.map .string) := by
  obtain ⟨i9, hi9, hz90, hz91, hz92⟩ : ∃ i, Try.prog.info? 9 = some i ∧ i.zero = some (.string ⟨#[]⟩) ∧ i.size = 1 ∧ i.bytes = 16 := by
    have h : (Try.prog.info? 9).map (fun i => (i.zero, i.size, i.bytes)) = some (some (.string ⟨#[]⟩), 1, 16) := by kernel_rfl
    cases hq : Try.prog.info? 9 with
    | none => rw [hq] at h; cases h
    | some i => rw [hq] at h; simp at h; exact ⟨i, rfl, h.1, h.2.1, h.2.2⟩
  go_enter Try.func21, Try.ntmps21
  go_wp2
  go_loopg [1, 2] 13 (fun g v q wr => ∃ (j : Nat), j ≤ 13 ∧ g = 13 - j ∧ q = .int .i64 ((j : Int) + 1) ∧ wr.ownsRow w.heap.size 9 1 v j (((List.range j).map fun (i : Nat) => trapS ((i : Int) + 1)).map .string) ∧ Below w.heap.size w wr)
  case atStart => exact ⟨0, by omega, rfl, rfl, World.ownsRow_nil _ _ _ _, Below.refl _ _⟩
  case round =>
    rename World => wr
    obtain ⟨j, hj, rfl, rfl, ho, hb⟩ := hrel
    by_cases hjl : j < 13
    · have hd1 : decide ((j : Int) + 1 ≤ 13) = true := by simp; omega
      have hw2 : wrap64 ((j : Int) + 1 + 1) = (j : Int) + 1 + 1 := by unfold wrap64; omega
      have HO := Lib.hid ho
      have HBj := Lib.hid hb
      have hnm := name_v ((j : Int) + 1) wr
      obtain ⟨x, hx⟩ : ∃ x, trapS ((j : Int) + 1) = x := ⟨_, rfl⟩
      rw [hx] at hnm
      have HX := Lib.hid hx
      clear ho hb hx
      go_wp2_with (first
        | (go_at_call 24; (with_reducible refine hnm.mono ?_); go_loud (rintro e w2 ⟨rfl, hb2⟩; have ho2 := Keys.own_below HO.out hb2; have hB2 := HBj.out.trans (hb2.mono HBj.out.size); have HB2 := Lib.hid hB2; clear hb2 hnm))
        | (at_builtin; refine wpList_append_own _ rfl _ _ 23 rfl w.heap.size 9 i9 (.string ⟨#[]⟩) 1 16 Try.underlying23 hi9 hz90 hz91 hz92 rfl (by decide) _ _ _ rfl (ho2.alloc _) ⟨w2.heap.size, 0, none⟩ 1 1 [.string x] rfl rfl (Sc.cell_one _ _ _) (by simp [Value.oneCell']) (by unfold maxLen; omega) (by omega) (by have := HB2.out.size; simp; omega) ?_; intro v' w3 hown3 hgrow3 _; have HO3 := Lib.hid hown3; have HB3 := Lib.hid (bel_grown (HB2.out.alloc HB2.out.size _) (Nat.le_refl _) hgrow3 (own_low HO.out)); clear hown3 hgrow3))
      go_roundg (13 - (j + 1))
      case measure => omega
      case rel =>
        refine ⟨j + 1, by omega, rfl, by go_num, ?_, HB3.out⟩
        rw [List.range_succ, List.map_append, List.map_append]
        simp only [List.map_cons, List.map_nil]
        rw [HX.out]
        exact HO3.out
    · have hjl' : j = 13 := by omega
      subst hjl'
      have HO := Lib.hid ho
      have HBj := Lib.hid hb
      clear ho hb
      go_wp2
      go_ret
      exact ⟨_, rfl, HBj.out, HO.out⟩
end Go.Proofs.Ytblbeinnfbohbaa.Re

/-
  functions: one after another, each as a property.
-/
namespace Go.Proofs.Ytblbeinnfbohbaa.Re
open Go Go.RowKit Go.Maps Go.Shelf Go.Proofs.Ytblbeinnfbohbaa.Keys Go.Proofs.Ytblbeinnfbohbaa.Hp Go.Proofs.Ytblbeinnfbohbaa.Mo Go.Proofs.Ytblbeinnfbohbaa.Mw
open Go.Proofs.Ytblbeinnfbohbaa.Des (Vl Ds zeroV zeroD dcs dcs_size dcs_one accF rigF appF eqV)
open Go.Proofs.Ytblbeinnfbohbaa.Arrs (En ecs)
set_option linter.unusedVariables false
set_option linter.unusedSimpArgs false

section
variable {X : Cx} {hb hs bb cb c n : Nat} {F F' : Nat → Prop} {s s' : St} {w w' w'' : World}
theorem RF.put (h : RF X hb hs bb cb (c + 1) n F s w) (o : Int) (k : KV) (hk : Fine k) (d : Ds) : Calls Try.prog 29 #[ptr hb, .int .i64 o, .agg (kcs k), .agg (dcs d)] w fun e w' =>
    (∃ b, e = .returned (.bool b)) ∧ RP X hb hs bb cb c n F w { s with A := putF s.A o k d } w' := by
  obtain ⟨M, Y, e, hw, hp, hd, hf, h1, h2⟩ := h.ex
  subst e
  refine (wPut hw o k hk d).mono ?_
  rintro e w' ⟨hb', M', hM', l1, l2⟩
  refine ⟨hb', ?_⟩
  have hst : Sc.Step F (fun b => b ∈ M'.bl X.wb ∨ Y b ∨ b = bb) w w' := by
    refine ⟨⟨l2.kp.fr.os, l2.kp.fr.tape, l2.kp.fr.output, l2.kp.fr.size⟩, fun b hb hF => l2.kp.same b hb fun hm => hF ((hf b).2 (.inl hm)), fun b hb => ?_⟩
    rcases hb with hb | hb | hb
    · exact (l2.sub b hb).imp (fun k => (hf b).2 (.inl k)) id
    · exact .inl ((hf b).2 (.inr (.inl hb)))
    · exact .inl ((hf b).2 (.inr (.inr hb)))
  refine ⟨⟨_, ⟨⟨M', Y, hM', l1, hp.same (fun b hb => l2.kp.same b (hp.low b hb).2 (hd b hb)) l2.size, fun b hb hm => ?_, fun b => Iff.rfl, l2.out h.blk.lt h1, h2⟩, l2.blk h.blk h1, h.map.same (l2.kp.same cb h.map.lt fun hm => h.cbo ((hf cb).2 (.inl hm))), fun hm => ?_, h.low, h.lim⟩, hst, fun x hx => by cases hx⟩, by simp⟩
  · rcases l2.sub b hm with k | k
    · exact hd b hb k
    · have := (hp.low b hb).2; omega
  · rcases hst.more cb hm with k | k
    · exact h.cbo k
    · have := h.map.lt; omega
/-- A list of names, out of blocks that don't turn. -/
def NamesAt (F : Nat → Prop) (w : World) (a : Option Addr) (l : List ByteArray) : Prop := ∃ b off, a = some ⟨b, off, none⟩ ∧ b < w.heap.size ∧ ¬ F b ∧ w.rangeAt b off (l.map .string)
theorem nmF_cons (h : Vl) (x : ByteArray) (r : List ByteArray) (s : St) : nmF h (x :: r) s = if (mkB (fnT (cd x)) s).2.full then (mkB (fnT (cd x)) s).2 else nmF h r { (mkB (fnT (cd x)) s).2 with A := putF (mkB (fnT (cd x)) s).2.A h.n (x, 0) (wholeD (mkB (fnT (cd x)) s).1 true false true) } := rfl
theorem fn4 (cc : Int) : (fnT cc).kind ≠ 4 := by show (2 : Int) ≠ 4; decide
theorem v_num {w : World} {b : Nat} {v : Vl} {T : TypeId} (h : Blk w b (vcs v) T) : w.cell? ⟨b, 1, none⟩ = some (.int .i64 v.n) := h.cell 1
end
attribute [local go_sem ↓] ldR stR alR bxR bdR ldV stV alV bxV bdV ldKy bxKy bdKy bdT alT stT bxT ldT bdD alD stD
attribute [local irreducible] rcs dcs ecs vcs acs kcs xcs tcs
attribute [local go_sem ↓] bxD
attribute [local go_sem] run_bx run_alV run_stVg run_alT run_bdTp run_bdTf run_bdDh run_bdO6 run_bdN1 run_alD run_stDg run_bdKs
section
variable {X : Cx} {hb hs bb cb c n : Nat} {F F' : Nat → Prop} {s s' : St} {w w' w'' : World}
set_option maxRecDepth 100000 in
set_option maxHeartbeats 4000000 in
theorem funcs_v (h : RF X hb hs bb cb c n F s w) (v : Vl) (a : Option Addr) (cap : Nat) (l : List ByteArray) (hl : NamesAt F w a l) (hn : ∀ x ∈ l, Sc.Fine x ∧ Fine (x, 0)) (hlen : l.length ≤ 100) (c' : Nat) (hc : c = c' + 2 * l.length) :
    Calls Try.prog 17 #[ptr bb, .agg (vcs v), .slice a l.length cap] w fun e w' => e = .returned (.tuple #[]) ∧ RP X hb hs bb cb c' n F w (nmF v l s) w' := by
  obtain ⟨gb, goff, rfl, hgl, hgF, hgr⟩ := hl
  have G0 := (RM.start h).new (vcs v) 32
  have H0 := Lib.hid h.base.size
  have HW := Lib.hid G0
  clear h G0
  go_enter Try.func17, Try.ntmps17
  go_wp2
  go_loopg [11] l.length (fun g q wr => ∃ (j : Nat) (sj : St), j ≤ l.length ∧ g = l.length - j ∧ q = .int .i64 j ∧ nmF v (l.drop j) sj = nmF v l s ∧ RM X hb hs bb cb (c' + 2 * (l.length - j)) n F w sj [⟨w.heap.size, vcs v, 32⟩] wr)
  case atStart => exact ⟨0, s, by omega, rfl, rfl, rfl, by have := HW.out; rw [hc] at this; exact this⟩
  case round =>
    rename World => wr
    obtain ⟨j, sj, hj, rfl, rfl, hnm, G⟩ := hrel
    by_cases hjl : j < l.length
    · obtain ⟨x, hx⟩ : ∃ x, l[j]? = some x := ⟨l[j], List.getElem?_eq_getElem hjl⟩
      have hdrop : l.drop j = x :: l.drop (j + 1) := by
        rw [List.drop_eq_getElem_cons hjl]
        congr 1
        exact Option.some.inj ((List.getElem?_eq_getElem hjl).symm.trans hx)
      rw [hdrop, nmF_cons] at hnm
      obtain ⟨hfx, hfk⟩ := hn x (List.mem_of_getElem? hx)
      have hcell : wr.cell? ⟨gb, goff + j, none⟩ = some (.string x) := G.range hgl hgr hgF j _ (by simp [hx])
      obtain ⟨kc, hkc⟩ : ∃ kc, c' + 2 * (l.length - j) = kc + 1 + 1 := ⟨c' + 2 * (l.length - (j + 1)), by omega⟩
      rw [hkc] at G
      obtain ⟨F1, r1, pG⟩ := G.open
      have hfn := func_v r1 x hfx
      obtain ⟨R, hR⟩ : ∃ R, mkB (fnT (cd x)) sj = R := ⟨_, rfl⟩
      rw [hR] at hnm
      have hd1 : decide ((j : Int) < l.length) = true := by simp; omega
      have hd2 : decide (j < l.length) = true := by simp; omega
      have HG := Lib.hid G
      have HR := Lib.hid hR
      have HN := Lib.hid hnm
      have HK := Lib.hid hkc
      cases hfull : R.2.full with
      | true =>
        have HF := Lib.hid hfull
        clear hfull G pG r1 hnm hkc hR hgr
        go_wp2_with (first
          | (go_at_call 28; (with_reducible refine hfn.mono ?_); go_loud (rintro e w2 ⟨rfl, hb2⟩; have G2 := HG.out.call hb2; obtain ⟨F2, r2, pG2⟩ := G2.open; have hmk := make_v r2 (fnT (cd x)) rfl (fnT_ok _) (fn4 _); rw [HR.out] at hmk; have HP := Lib.hid (fun (w'' : World) (k : RP X hb hs bb cb (kc + 1) n F2 w2 R.2 w'') => pG2 k); clear G2 pG2 r2 hb2 hfn))
          | (go_at_call 25; (with_reducible refine hmk.mono ?_); rintro e w3 ⟨rfl, hp⟩; have G3 := (HP.out w3 hp).newg (vcs R.1) 32 w3.heap.size rfl; have C3 := (G3.bblk.cell 3).trans (bcs_3 _ _ _ _); rw [HF.out] at C3; have HG3 := Lib.hid G3; clear G3 hp hmk))
        refine bodyPost_ret (results_none rfl _ _ _) rfl ?_
        refine ⟨rfl, ?_⟩
        have e := HN.out
        rw [HF.out, if_pos rfl] at e
        rw [← e]
        exact HG3.out.fin.less (c' := c') (by have := HK.out; omega) (Nat.le_refl _)
      | false =>
        have HF := Lib.hid hfull
        clear hfull G pG r1 hnm hkc hR hgr
        go_wp2_with (first
          | (go_at_call 28; (with_reducible refine hfn.mono ?_); go_loud (rintro e w2 ⟨rfl, hb2⟩; have G2 := HG.out.call hb2; obtain ⟨F2, r2, pG2⟩ := G2.open; have hmk := make_v r2 (fnT (cd x)) rfl (fnT_ok _) (fn4 _); rw [HR.out] at hmk; have HP := Lib.hid (fun (w'' : World) (k : RP X hb hs bb cb (kc + 1) n F2 w2 R.2 w'') => pG2 k); clear G2 pG2 r2 hb2 hfn))
          | (go_at_call 25; (with_reducible refine hmk.mono ?_); rintro e w3 ⟨rfl, hp⟩; have G3 := (HP.out w3 hp).newg (vcs R.1) 32 w3.heap.size rfl; have C3 := (G3.bblk.cell 3).trans (bcs_3 _ _ _ _); rw [HF.out] at C3; have G4 := G3.drew; have C0 := (G4.bblk.cell 0).trans (bcs_0 _ _ _ _); have L0 := run_ldVp G4.l0; have L1 := v_num G4.l1; have HG4 := Lib.hid G4; have SK := run_bdKs ; clear G3 G4 hp hmk))
        go_region_with (first
          | (go_at_call 30; go_loud ((with_reducible refine (hidden_v _ _).mono ?_); rintro e w5 ⟨rfl, hb5⟩; have G5 := HG4.out.call hb5; have C0 := (G5.bblk.cell 0).trans (bcs_0 _ _ _ _); have L1 := v_num G5.l1; obtain ⟨F5, r5, pG5⟩ := G5.open; have hput := r5.put v.n (x, 0) hfk (wholeD R.1 true false true); have HP5 := Lib.hid (fun (w'' : World) (k : RP X hb hs bb cb kc n F5 w5 { R.2 with A := putF R.2.A v.n (x, 0) (wholeD R.1 true false true) } w'') => pG5 k); clear G5 pG5 r5 hb5))
          | (go_at_call 29; (with_reducible refine hput.mono ?_); rintro e w6 ⟨⟨b6, rfl⟩, hp6⟩; have HG6 := Lib.hid (HP5.out w6 hp6); clear hp6 hput))
        all_goals go_wp2
        all_goals (
          go_roundg (l.length - (j + 1))
          case measure => omega
          case rel =>
            have e := HN.out
            rw [HF.out, if_neg (by decide)] at e
            refine ⟨j + 1, _, by omega, rfl, by go_num, e, ?_⟩
            have e2 : kc = c' + 2 * (l.length - (j + 1)) := by have := HK.out; omega
            rw [← e2]
            obtain ⟨F6, q1, q2, q3⟩ := HG6.out.ex
            rw [HF.out] at q1
            exact ⟨⟨F6, q1, q2, fun y hy => q3 y (by simp only [List.mem_singleton] at hy; rw [hy]; simp)⟩, by simp⟩)
    · have hjl' : j = l.length := by omega
      subst hjl'
      have HG := Lib.hid G
      have hd1 : decide ((l.length : Int) < l.length) = false := by simp
      have hd2 : decide (l.length < l.length) = false := by simp
      have HN := Lib.hid hnm
      clear G hgr hnm hjl hj
      go_wp2
      refine bodyPost_end (results_none rfl _ _ _) rfl ?_
      refine ⟨rfl, ?_⟩
      have e := HN.out
      rw [List.drop_length] at e
      rw [← e]
      exact HG.out.fin.less (c' := c') (by omega) (Nat.le_refl _)
end
end Go.Proofs.Ytblbeinnfbohbaa.Re

/-
  New: a world as the laws begin with.
-/
namespace Go.Proofs.Ytblbeinnfbohbaa.Mw
open Go Go.RowKit Go.Maps Go.Shelf Go.Proofs.Ytblbeinnfbohbaa.Keys Go.Proofs.Ytblbeinnfbohbaa.Hp Go.Proofs.Ytblbeinnfbohbaa.Mo
open Go.Proofs.Ytblbeinnfbohbaa.Des (Vl Ds zeroV zeroD dcs dcs_size dcs_one)
open Go.Proofs.Ytblbeinnfbohbaa.Arrs (En ecs ecs_0 ecs_1 ecs_10 ecs_size ecs_list ecs_one ecs_one')
set_option linter.unusedVariables false
set_option linter.unusedSimpArgs false
/-- The world that New gives. -/
def newA (F R D : Int) : Aw := ⟨[], R, 0, max F 0, min (max D 0) 1000, 0, 0, []⟩
theorem new_any (W0 : World) (hLw : Nums.Lw W0) (F R D : Int) (c : Nat) (hc : 8 * (max F 0).toNat + c ≤ 900000) (px : Bool) {w : World} (hb0 : Below W0.heap.size W0 w) :
    Calls Try.prog 5 #[.agg #[.int .i64 F, .int .i64 R, .int .i64 D]] w fun e w' => ∃ wb M, e = .returned (ptr wb) ∧ WIs ⟨W0, wb, .nilIface, px, 0, min (max D 0) 1000⟩ c M w' (newA F R D) ∧ w.heap.size ≤ wb ∧ (∀ b ∈ M.bl wb, w.heap.size ≤ b) ∧ Below w.heap.size w w' := by
  refine (newW_any F R D w).mono ?_
  rintro e w' ⟨wb, hb, rfl, hw, hh, h1, h2, hB⟩
  have hbl : ∀ b ∈ (Wm.bl ⟨hb, nilS, nilS, [], [], []⟩ wb), w.heap.size ≤ b := by
    intro b hm
    simp [Wm.bl, obl, nilS, Value.ownBlock] at hm
    rcases hm with rfl | rfl
    · exact h1
    · exact h2
  have hsz : W0.heap.size ≤ w.heap.size := hb0.size
  refine ⟨wb, ⟨hb, nilS, nilS, [], [], []⟩, rfl, ?_, h1, hbl, hB⟩
  have hrow : ∀ (e : TypeId), w'.ownsRow 0 e 1 nilS 0 [] := fun e => ⟨rfl, .inl ⟨rfl, rfl⟩⟩
  exact {
    wblk := hw
    hblk := hh
    orow := hrow _
    lrow := hrow _
    objs := ⟨rfl, fun i a b h => by simp at h⟩
    log := ⟨rfl, fun i a b h => by simp at h⟩
    rlt := fun b h => by cases h
    apart := fun i j p q _ h => by simp at h
    low := fun b h => Nat.le_trans hsz (hbl b h)
    bel := hb0.trans (hB.mono hsz)
    lw := hLw
    fuel := by show 0 ≤ max F 0; omega
    few := by show 0 + 8 * (max F 0).toNat + c ≤ 900000; omega
    num := fun q h => by cases h
    logn := by show 0 + 8 * (max F 0).toNat + c ≤ 900000; omega
    dep0 := by show (0 : Int) ≤ 0; omega
    dep1 := by show (0 : Int) ≤ min (max D 0) 1000; omega
    deep := by show min (max D 0) 1000 ≤ 1000; omega
    dpe := rfl
    dle := rfl
    nopx := fun _ x h => by cases h }
end Go.Proofs.Ytblbeinnfbohbaa.Mw
