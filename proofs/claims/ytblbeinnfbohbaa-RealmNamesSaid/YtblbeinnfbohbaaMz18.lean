/-
  The walk of the law RealmNames.
-/
import Derived.Test.YtblbeinnfbohbaaMz17
import Derived.Test.YtblbeinnfbohbaaMz03
namespace Go.Proofs.Ytblbeinnfbohbaa.Re
open Go Go.RowKit Go.Maps Go.Shelf Go.Proofs.Ytblbeinnfbohbaa.Keys Go.Proofs.Ytblbeinnfbohbaa.Hp Go.Proofs.Ytblbeinnfbohbaa.Mo Go.Proofs.Ytblbeinnfbohbaa.Mw
open Go.Proofs.Ytblbeinnfbohbaa.Des (Vl Ds zeroV zeroD dcs dcs_size dcs_one accF rigF appF eqV)
open Go.Proofs.Ytblbeinnfbohbaa.Arrs (En ecs)
set_option linter.unusedVariables false
set_option linter.unusedSimpArgs false

def ns6 : Array Value := #[.string nProxy, .string nReflect, .string nObject, .string nSymbol, .string nArray, .string nPrint]
def bs6 : Array Value := #[.bool true, .bool false, .bool false, .bool true, .bool false, .bool true]
theorem at_obj {A : Aw} {o : Nat} {kd code : Int} (h : (at? A o).map (fun x => (x.th.kind, x.th.code)) = some (kd, code)) : ∃ x, at? A (o : Int) = some x ∧ x.th.kind = kd ∧ x.th.code = code := by
  cases hx : at? A o with
  | none => rw [hx] at h; cases h
  | some x => rw [hx] at h; simp at h; exact ⟨x, rfl, h.1, h.2⟩
theorem get_v {base hs : Nat} {Y : Nat → Prop} {w : World} {S : List Sc.Sco} (hp : Sc.PIs base Y w hs S) {nme : ByteArray} (hf : Sc.Fine nme) {v : Vl} {n : Int} (hg : Sc.getF S 0 nme = (scV v, n)) : Calls Try.prog 8 #[ptr hs, .int .i64 0, .string nme] w fun e w' => e = .returned (.tuple #[.agg (vcs v), .int .i64 n]) ∧ Below w.heap.size w w' := by
  obtain ⟨sb, mb, vb, a, cc, hpa⟩ := hp
  have h := Sc.get_any hpa 0 hf
  rw [hg] at h
  exact h
theorem region_inS {P : Program} {id : Nat} {Q : Exit → Act → World → Prop} {a : Act} {w : World} {l : List Oper} {S : World → Prop} (hm : P.follows .mixedOrders = true) (hB : Region.lexB .any l.toArray = true) (h0 : S w.drew)
    (h : Nonempty (Des.Wd S) → wpQuiet P l.toArray (fun w' => ∃ p : Des.Wd S, w' = p.w) (fun a' => ∀ w', (∃ p : Des.Wd S, w' = p.w) → Q .normal a' w') l a) : (Code.region id l.toArray true).wp P Q a w :=
  wp_region_quiet (C := fun w' => ∃ p : Des.Wd S, w' = p.w) hm hB ⟨⟨_, h0⟩, rfl⟩ (by simpa using h ⟨⟨_, h0⟩⟩)
theorem in_callS {P : Program} {S : World → Prop} {f : FuncId} {args : Array Value} {v : Value} {p : Des.Wd S} (hS : ∀ w w', S w → Below w.heap.size w w' → S w') (h : Calls P f args p.w fun e w' => e = .returned v ∧ Below p.w.heap.size p.w w') :
    Calls P f args p.w fun e w'' => e = .returned v ∧ ∃ q : Des.Wd S, w'' = q.w := h.mono fun _ _ ⟨he, hb⟩ => ⟨he, ⟨⟨_, hS _ _ p.ok hb⟩, rfl⟩⟩
section
open Go.Proofs.Ytblbeinnfbohbaa.Sc in
theorem set_const {base : Nat} {X : Nat → Prop} {w : World} {hb : Nat} {S : List Sc.Sco} {sb mb : Nat → Nat} {vb : Nat → Nat → Nat} {a : Option Addr} {c : Nat} (h : Sc.PAt base X w hb S sb mb vb a c) (env : Int) {s : ByteArray} (hs : Sc.Fine s) (v : Sc.Vl) (h3 : (Sc.setF S env s v).1 = 3) :
    Calls Try.prog 11 #[Hp.ptr hb, .int .i64 env, .string s, .agg (Sc.vcs v)] w fun e w' => e = .returned (.int .i64 3) ∧ Below w.heap.size w w' := by
  obtain ⟨w1, hw1⟩ : ∃ w1, w.alloc (.cells (Sc.vcs v) 32) = w1 := ⟨_, rfl⟩
  have h1 : Sc.PAt base X w1 hb S sb mb vb a c := by rw [← hw1]; exact h.alloc _
  have b1 : Below w.heap.size w w1 := by rw [← hw1]; exact (Below.refl _ w).alloc (Nat.le_refl _) _
  have hlk := Sc.look_any h1 env hs
  cases hsk : Sc.seek S env s with
  | none => exfalso; unfold Sc.setF at h3; rw [hsk] at h3; simp at h3
  | some x =>
    obtain ⟨i, j⟩ := x
    obtain ⟨sc, va, hi, hj, hnm, hf⟩ := Sc.seek_got h.par hsk
    have hva : Sc.varAt S i j = some va := by simp [Sc.varAt, hi, hj]
    have hvb := h1.var i j sc va hi hj
    have hset : Sc.setF S env s v = (if va.has then if va.fixed then (3, S) else (0, Sc.setVs S i (sc.vs.set j { va with v := v })) else (2, S)) := by simp [Sc.setF, hsk, hi, hj]
    rw [hset] at h3
    have hh : va.has = true := by
      cases hq : va.has with
      | true => rfl
      | false => rw [hq] at h3; simp at h3
    have hx : va.fixed = true := by
      cases hq : va.fixed with
      | true => rfl
      | false => rw [hh, hq] at h3; simp at h3
    have e2 : Sc.lookV S vb (Sc.seek S env s) = .tuple #[Hp.ptr (vb i j), .int .i64 0] := by rw [hsk]; simp [Sc.lookV, hva, hh]
    rw [e2] at hlk
    have q4 : w1.cell? ⟨vb i j, 4, none⟩ = some (.bool true) := by rw [hvb.cell, Sc.pcs_4, hx]
    have HE := Lib.hid b1
    clear h h1 hs hsk e2 hvb hva hj hi hf hset h3 hh hx
    go_enter Try.func11, Try.ntmps11
    go_wp2_with (go_at_call 22; refine hlk.mono ?_; rintro e w2 ⟨rfl, hw2⟩; subst w2)
    go_ret
    exact ⟨rfl, HE.out⟩
end
theorem set_v {base hs : Nat} {Y : Nat → Prop} {w : World} {S : List Sc.Sco} (hp : Sc.PIs base Y w hs S) {nme : ByteArray} (hf : Sc.Fine nme) (v : Vl) (hg : (Sc.setF S 0 nme (scV v)).1 = 3) : Calls Try.prog 11 #[ptr hs, .int .i64 0, .string nme, .agg (vcs v)] w fun e w' => e = .returned (.int .i64 3) ∧ Below w.heap.size w w' := by
  obtain ⟨sb, mb, vb, a, cc, hpa⟩ := hp
  exact set_const hpa 0 hf (scV v) hg
/-- The worlds that the last test goes through. -/
structure Nc (X : Cx) (hs : Nat) (A : Aw) (S : List Sc.Sco) (b8 b9 : Nat) (v : Vl) (w : World) : Prop where
  wis : ∃ M, WIs X 0 M w A
  pis : ∃ Y, Sc.PIs X.W0.heap.size Y w hs S
  r8 : Blk w b8 (rcs (zeroRr.mem nilS)) 37
  r9 : Blk w b9 (vcs v) 32
theorem Nc.call {X : Cx} {hs : Nat} {A : Aw} {S : List Sc.Sco} {b8 b9 : Nat} {v : Vl} (w w' : World) (h : Nc X hs A S b8 b9 v w) (hb : Below w.heap.size w w') : Nc X hs A S b8 b9 v w' := by
  obtain ⟨⟨M, h1⟩, ⟨Y, h2⟩, h3, h4⟩ := h
  exact ⟨⟨M, h1.call hb⟩, ⟨Y, h2.below hb⟩, h3.call hb, h4.call hb⟩
theorem Nc.bel {X : Cx} {hs : Nat} {A : Aw} {S : List Sc.Sco} {b8 b9 : Nat} {v : Vl} {w : World} (h : Nc X hs A S b8 b9 v w) : Below X.W0.heap.size X.W0 w := by
  obtain ⟨⟨M, h1⟩, h2⟩ := h
  exact h1.bel
theorem run_bdVz (w : World) : (Bd 32 #[]).run Try.prog w = .ok (.agg (vcs zeroV)) w := run_bdV0 w
theorem bel_step {W2 a b : World} (h : Below W2.heap.size W2 a) (k : Below a.heap.size a b) : Below W2.heap.size W2 b := h.trans (k.mono h.size)
attribute [local go_sem ↓] ldR stR alR bxR bdR ldV stV alV bxV bdV ldKy bxKy bdKy bdT alT stT bxT ldT bdD alD stD
attribute [local irreducible] rcs dcs ecs vcs acs kcs xcs tcs
attribute [local go_sem ↓] bxD
attribute [local go_sem] run_bx run_alV run_stVg run_alT run_bdTp run_bdTf run_bdDh run_bdO6 run_bdN1 run_alD run_stDg run_bdKs
attribute [local go_sem] run_alR run_stRg run_bdVz
section
set_option maxRecDepth 100000 in
set_option maxHeartbeats 4000000 in
theorem names_0 (w : World) : Calls Try.prog 3 #[.int .i64 0] w fun e w' => e = .returned (.bool true) ∧ Below w.heap.size w w' := by
  have hal := alive_v w
  obtain ⟨x, hx, hk, hcd⟩ := at_obj nameProxy.obj
  go_enter Try.func3, Try.ntmps3
  go_wp2_with (first
    | (go_at_call 4; (with_reducible refine hal.mono ?_); go_loud (rintro e w1 ⟨rfl, hb⟩; obtain ⟨W2, hW2⟩ : ∃ W2, (w1.alloc (.cells #[.string nProxy, .string nReflect, .string nObject, .string nSymbol, .string nArray, .string nPrint] 9)).alloc (.cells #[.bool true, .bool false, .bool false, .bool true, .bool false, .bool true] 4) = W2 := ⟨_, rfl⟩; have x4 : Blk W2 w1.heap.size ns6 9 := (by rw [← hW2]; exact (Blk.new w1 ns6 _).old _); have x5 : Blk W2 (w1.heap.size + 1) bs6 4 := (by rw [← hW2, show w1.heap.size + 1 = (w1.alloc (.cells #[.string nProxy, .string nReflect, .string nObject, .string nSymbol, .string nArray, .string nPrint] 9)).heap.size from by simp]; exact Blk.new _ bs6 _); have bW : Below w.heap.size w W2 := (by rw [← hW2]; exact (hb.alloc hb.size _).alloc (by have := hb.size; simp; omega) _); have hnew := new_any W2 ⟨trivial⟩ 100 100 10 55 (by decide) false (Below.refl _ W2); have HX4 := Lib.hid x4; have HX5 := Lib.hid x5; have HBW := Lib.hid bW; clear x4 x5 bW hb hal))
    | (go_at_call 5; (with_reducible refine hnew.mono ?_); rintro e w3 ⟨wb, M, rfl, hW, -, -, -⟩; have HW := Lib.hid hW; clear hW hnew)
    | (go_at_call 6; (with_reducible refine (Sc.new_any _).mono ?_); rintro e w4 ⟨hs, Y, rfl, hp, hb⟩; have hbu := begin_v HW.out hp hb; clear hp hb)
    | (go_at_call 7; (with_reducible refine hbu.mono ?_); intro e w5 hq; obtain ⟨rfl, M5, Y5, hW5, hp5⟩ := build_out beg_full hq; have hg5 := goodR zeroRr; have hn5 := hW5.old (.cells (rcs (zeroRr.mem nilS)) 37); have C4 : (w5.alloc (.cells (rcs (zeroRr.mem nilS)) 37)).cell? ⟨w1.heap.size, 0, none⟩ = some (.string nProxy) := (hn5.bel.cell (p := ⟨w1.heap.size, 0, none⟩) HX4.out.lt).trans (HX4.out.cell 0); have hp6 := hp5.alloc (.cells (rcs (zeroRr.mem nilS)) 37); have hge := get_v hp6 nameProxy.fine nameProxy.get; have HWd := Lib.hid hn5; have HPd := Lib.hid hp6; have HRd := Lib.hid (Blk.new w5 (rcs (zeroRr.mem nilS)) 37); clear hq hW5 hbu hp5 hn5 hp6)
    | (go_at_call 8; (with_reducible refine hge.mono ?_); rintro e w7 ⟨rfl, hb7⟩; have s7 := run_stVg w7 w7.heap.size (objV 5) zeroV rfl; have hB8 := (hb7.trans ((Below.refl _ w7).alloc (Nat.le_refl _) (.cells (vcs (objV 5)) 32) |>.mono hb7.size)); have W8 := HWd.out.call hB8; have P8 := HPd.out.below hB8; have R8 := HRd.out.call hB8; have V8 := Blk.new w7 (vcs (objV 5)) 32; obtain ⟨w8, hw8⟩ : ∃ w8, w7.alloc (.cells (vcs (objV 5)) 32) = w8 := ⟨_, rfl⟩; rw [hw8] at s7 W8 P8 R8 V8; have HC8 := Lib.hid (show Nc ⟨W2, wb, .nilIface, false, 0, min (max 10 0) 1000⟩ hs (buildF (beg 100 100 10)).A (buildF (beg 100 100 10)).S w5.heap.size w7.heap.size (objV 5) w8 from ⟨⟨M5, W8⟩, ⟨Y5, P8⟩, R8, V8⟩); clear hb7 hB8 W8 P8 R8 V8 hw8 hge))
  obtain ⟨CC, hCC⟩ : ∃ C : World → Prop, Nc ⟨W2, wb, .nilIface, false, 0, min (max 10 0) 1000⟩ hs (buildF (beg 100 100 10)).A (buildF (beg 100 100 10)).S w5.heap.size w7.heap.size (objV 5) = C := ⟨_, rfl⟩
  have hc8 : CC w8.drew := by rw [← hCC]; exact Nc.call _ _ HC8.out (Below.refl _ _).drew
  have hS : ∀ W W', CC W → Below W.heap.size W W' → CC W' := by rw [← hCC]; exact fun W W' h hb => Nc.call W W' h hb
  have f8 : ∀ p : Des.Wd CC, p.w.cell? ⟨w5.heap.size, 0, none⟩ = some (.int .i64 0) := by rw [← hCC]; exact fun p => rep_f (r := zeroRr.mem nilS) p.ok.r8
  have k9 : ∀ p : Des.Wd CC, p.w.cell? ⟨w7.heap.size, 0, none⟩ = some (.int .i64 6) := by rw [← hCC]; exact fun p => v_kind p.ok.r9
  have l9 : ∀ p : Des.Wd CC, (Ld 32 (.pointer (some ⟨w7.heap.size, 0, none⟩))).run Try.prog p.w = .ok (.agg (vcs (objV 5))) p.w := by rw [← hCC]; exact fun p => run_ldVp p.ok.r9
  have C4 : ∀ p : Des.Wd CC, p.w.cell? ⟨w1.heap.size, 0, none⟩ = some (.string nProxy) := by rw [← hCC]; exact fun p => (p.ok.bel.cell (p := ⟨w1.heap.size, 0, none⟩) HX4.out.lt).trans (HX4.out.cell 0)
  have C5 : ∀ p : Des.Wd CC, p.w.cell? ⟨w1.heap.size + 1, 0, none⟩ = some (.bool true) := by rw [← hCC]; exact fun p => (p.ok.bel.cell (p := ⟨w1.heap.size + 1, 0, none⟩) HX5.out.lt).trans (HX5.out.cell 0)
  have hca : ∀ p : Des.Wd CC, Calls Try.prog 9 #[ptr wb, .agg (vcs (objV 5))] p.w fun e w' => e = .returned (.bool true) ∧ Below p.w.heap.size p.w w' := by rw [← hCC]; exact fun p => by obtain ⟨M, hM⟩ := p.ok.wis; exact calls_f hM 5 hx hk
  have hma : ∀ p : Des.Wd CC, Calls Try.prog 10 #[ptr wb, .agg (vcs (objV 5))] p.w fun e w' => e = .returned (.bool true) ∧ Below p.w.heap.size p.w w' := by rw [← hCC]; exact fun p => by obtain ⟨M, hM⟩ := p.ok.wis; have hmk := makes_f hM 5 hx hk; rw [hcd, show ((30 : Int) == 1 || (30 : Int) == 30) = true from by decide] at hmk; exact hmk
  have hsa : ∀ p : Des.Wd CC, Calls Try.prog 11 #[ptr hs, .int .i64 0, .string nProxy, .agg (vcs zeroV)] p.w fun e w' => e = .returned (.int .i64 3) ∧ Below p.w.heap.size p.w w' := by rw [← hCC]; exact fun p => by obtain ⟨Y, hY⟩ := p.ok.pis; exact set_v hY nameProxy.fine zeroV nameProxy.set
  have hbl : ∀ W, CC W → Below W2.heap.size W2 W := by rw [← hCC]; exact fun W h => h.bel
  have HC := Lib.hid hc8
  have HBL := Lib.hid hbl
  clear hc8 hbl hCC hx hk hcd
  refine region_inS (S := CC) (by kernel_rfl) (by kernel_rfl) HC.out (fun hne => ?_)
  repeat (go_big_quiet_step (first | exact in_callS hS (hca _) | exact in_callS hS (hma _) | exact in_callS hS (hsa _)))
  refine wpQuiet_nil ?_
  intro w11 hw11
  have HBF := Lib.hid (HBW.out.trans ((HBL.out _ (Des.in_out hw11)).mono HBW.out.size))
  clear hw11
  go_wp2
  go_ret
  exact ⟨rfl, HBF.out⟩
set_option maxRecDepth 100000 in
set_option maxHeartbeats 4000000 in
theorem names_1 (w : World) : Calls Try.prog 3 #[.int .i64 1] w fun e w' => e = .returned (.bool true) ∧ Below w.heap.size w w' := by
  have hal := alive_v w
  obtain ⟨x, hx, hk, hcd⟩ := at_obj nameReflect.obj
  go_enter Try.func3, Try.ntmps3
  go_wp2_with (first
    | (go_at_call 4; (with_reducible refine hal.mono ?_); go_loud (rintro e w1 ⟨rfl, hb⟩; obtain ⟨W2, hW2⟩ : ∃ W2, (w1.alloc (.cells #[.string nProxy, .string nReflect, .string nObject, .string nSymbol, .string nArray, .string nPrint] 9)).alloc (.cells #[.bool true, .bool false, .bool false, .bool true, .bool false, .bool true] 4) = W2 := ⟨_, rfl⟩; have x4 : Blk W2 w1.heap.size ns6 9 := (by rw [← hW2]; exact (Blk.new w1 ns6 _).old _); have x5 : Blk W2 (w1.heap.size + 1) bs6 4 := (by rw [← hW2, show w1.heap.size + 1 = (w1.alloc (.cells #[.string nProxy, .string nReflect, .string nObject, .string nSymbol, .string nArray, .string nPrint] 9)).heap.size from by simp]; exact Blk.new _ bs6 _); have bW : Below w.heap.size w W2 := (by rw [← hW2]; exact (hb.alloc hb.size _).alloc (by have := hb.size; simp; omega) _); have hnew := new_any W2 ⟨trivial⟩ 100 100 10 55 (by decide) false (Below.refl _ W2); have HX4 := Lib.hid x4; have HX5 := Lib.hid x5; have HBW := Lib.hid bW; clear x4 x5 bW hb hal))
    | (go_at_call 5; (with_reducible refine hnew.mono ?_); rintro e w3 ⟨wb, M, rfl, hW, -, -, -⟩; have HW := Lib.hid hW; clear hW hnew)
    | (go_at_call 6; (with_reducible refine (Sc.new_any _).mono ?_); rintro e w4 ⟨hs, Y, rfl, hp, hb⟩; have hbu := begin_v HW.out hp hb; clear hp hb)
    | (go_at_call 7; (with_reducible refine hbu.mono ?_); intro e w5 hq; obtain ⟨rfl, M5, Y5, hW5, hp5⟩ := build_out beg_full hq; have hg5 := goodR zeroRr; have hn5 := hW5.old (.cells (rcs (zeroRr.mem nilS)) 37); have C4 : (w5.alloc (.cells (rcs (zeroRr.mem nilS)) 37)).cell? ⟨w1.heap.size, 1, none⟩ = some (.string nReflect) := (hn5.bel.cell (p := ⟨w1.heap.size, 1, none⟩) HX4.out.lt).trans (HX4.out.cell 1); have hp6 := hp5.alloc (.cells (rcs (zeroRr.mem nilS)) 37); have hge := get_v hp6 nameReflect.fine nameReflect.get; have HWd := Lib.hid hn5; have HPd := Lib.hid hp6; have HRd := Lib.hid (Blk.new w5 (rcs (zeroRr.mem nilS)) 37); clear hq hW5 hbu hp5 hn5 hp6)
    | (go_at_call 8; (with_reducible refine hge.mono ?_); rintro e w7 ⟨rfl, hb7⟩; have s7 := run_stVg w7 w7.heap.size (objV 7) zeroV rfl; have hB8 := (hb7.trans ((Below.refl _ w7).alloc (Nat.le_refl _) (.cells (vcs (objV 7)) 32) |>.mono hb7.size)); have W8 := HWd.out.call hB8; have P8 := HPd.out.below hB8; have R8 := HRd.out.call hB8; have V8 := Blk.new w7 (vcs (objV 7)) 32; obtain ⟨w8, hw8⟩ : ∃ w8, w7.alloc (.cells (vcs (objV 7)) 32) = w8 := ⟨_, rfl⟩; rw [hw8] at s7 W8 P8 R8 V8; have HC8 := Lib.hid (show Nc ⟨W2, wb, .nilIface, false, 0, min (max 10 0) 1000⟩ hs (buildF (beg 100 100 10)).A (buildF (beg 100 100 10)).S w5.heap.size w7.heap.size (objV 7) w8 from ⟨⟨M5, W8⟩, ⟨Y5, P8⟩, R8, V8⟩); clear hb7 hB8 W8 P8 R8 V8 hw8 hge))
  obtain ⟨CC, hCC⟩ : ∃ C : World → Prop, Nc ⟨W2, wb, .nilIface, false, 0, min (max 10 0) 1000⟩ hs (buildF (beg 100 100 10)).A (buildF (beg 100 100 10)).S w5.heap.size w7.heap.size (objV 7) = C := ⟨_, rfl⟩
  have hc8 : CC w8.drew := by rw [← hCC]; exact Nc.call _ _ HC8.out (Below.refl _ _).drew
  have hS : ∀ W W', CC W → Below W.heap.size W W' → CC W' := by rw [← hCC]; exact fun W W' h hb => Nc.call W W' h hb
  have f8 : ∀ p : Des.Wd CC, p.w.cell? ⟨w5.heap.size, 0, none⟩ = some (.int .i64 0) := by rw [← hCC]; exact fun p => rep_f (r := zeroRr.mem nilS) p.ok.r8
  have k9 : ∀ p : Des.Wd CC, p.w.cell? ⟨w7.heap.size, 0, none⟩ = some (.int .i64 6) := by rw [← hCC]; exact fun p => v_kind p.ok.r9
  have l9 : ∀ p : Des.Wd CC, (Ld 32 (.pointer (some ⟨w7.heap.size, 0, none⟩))).run Try.prog p.w = .ok (.agg (vcs (objV 7))) p.w := by rw [← hCC]; exact fun p => run_ldVp p.ok.r9
  have C4 : ∀ p : Des.Wd CC, p.w.cell? ⟨w1.heap.size, 1, none⟩ = some (.string nReflect) := by rw [← hCC]; exact fun p => (p.ok.bel.cell (p := ⟨w1.heap.size, 1, none⟩) HX4.out.lt).trans (HX4.out.cell 1)
  have C5 : ∀ p : Des.Wd CC, p.w.cell? ⟨w1.heap.size + 1, 1, none⟩ = some (.bool false) := by rw [← hCC]; exact fun p => (p.ok.bel.cell (p := ⟨w1.heap.size + 1, 1, none⟩) HX5.out.lt).trans (HX5.out.cell 1)
  have hca : ∀ p : Des.Wd CC, Calls Try.prog 9 #[ptr wb, .agg (vcs (objV 7))] p.w fun e w' => e = .returned (.bool false) ∧ Below p.w.heap.size p.w w' := by rw [← hCC]; exact fun p => by obtain ⟨M, hM⟩ := p.ok.wis; exact calls_o hM 7 hx hk
  have hma : ∀ p : Des.Wd CC, Calls Try.prog 10 #[ptr wb, .agg (vcs (objV 7))] p.w fun e w' => e = .returned (.bool false) ∧ Below p.w.heap.size p.w w' := by rw [← hCC]; exact fun p => by obtain ⟨M, hM⟩ := p.ok.wis; exact makes_o hM 7 hx hk
  have hsa : ∀ p : Des.Wd CC, Calls Try.prog 11 #[ptr hs, .int .i64 0, .string nReflect, .agg (vcs zeroV)] p.w fun e w' => e = .returned (.int .i64 3) ∧ Below p.w.heap.size p.w w' := by rw [← hCC]; exact fun p => by obtain ⟨Y, hY⟩ := p.ok.pis; exact set_v hY nameReflect.fine zeroV nameReflect.set
  have hbl : ∀ W, CC W → Below W2.heap.size W2 W := by rw [← hCC]; exact fun W h => h.bel
  have HC := Lib.hid hc8
  have HBL := Lib.hid hbl
  clear hc8 hbl hCC hx hk hcd
  refine region_inS (S := CC) (by kernel_rfl) (by kernel_rfl) HC.out (fun hne => ?_)
  repeat (go_big_quiet_step (first | exact in_callS hS (hca _) | exact in_callS hS (hma _) | exact in_callS hS (hsa _)))
  refine wpQuiet_nil ?_
  intro w11 hw11
  have HBF := Lib.hid (HBW.out.trans ((HBL.out _ (Des.in_out hw11)).mono HBW.out.size))
  clear hw11
  go_wp2
  go_ret
  exact ⟨rfl, HBF.out⟩
set_option maxRecDepth 100000 in
set_option maxHeartbeats 4000000 in
theorem names_2 (w : World) : Calls Try.prog 3 #[.int .i64 2] w fun e w' => e = .returned (.bool true) ∧ Below w.heap.size w w' := by
  have hal := alive_v w
  obtain ⟨x, hx, hk, hcd⟩ := at_obj nameObject.obj
  go_enter Try.func3, Try.ntmps3
  go_wp2_with (first
    | (go_at_call 4; (with_reducible refine hal.mono ?_); go_loud (rintro e w1 ⟨rfl, hb⟩; obtain ⟨W2, hW2⟩ : ∃ W2, (w1.alloc (.cells #[.string nProxy, .string nReflect, .string nObject, .string nSymbol, .string nArray, .string nPrint] 9)).alloc (.cells #[.bool true, .bool false, .bool false, .bool true, .bool false, .bool true] 4) = W2 := ⟨_, rfl⟩; have x4 : Blk W2 w1.heap.size ns6 9 := (by rw [← hW2]; exact (Blk.new w1 ns6 _).old _); have x5 : Blk W2 (w1.heap.size + 1) bs6 4 := (by rw [← hW2, show w1.heap.size + 1 = (w1.alloc (.cells #[.string nProxy, .string nReflect, .string nObject, .string nSymbol, .string nArray, .string nPrint] 9)).heap.size from by simp]; exact Blk.new _ bs6 _); have bW : Below w.heap.size w W2 := (by rw [← hW2]; exact (hb.alloc hb.size _).alloc (by have := hb.size; simp; omega) _); have hnew := new_any W2 ⟨trivial⟩ 100 100 10 55 (by decide) false (Below.refl _ W2); have HX4 := Lib.hid x4; have HX5 := Lib.hid x5; have HBW := Lib.hid bW; clear x4 x5 bW hb hal))
    | (go_at_call 5; (with_reducible refine hnew.mono ?_); rintro e w3 ⟨wb, M, rfl, hW, -, -, -⟩; have HW := Lib.hid hW; clear hW hnew)
    | (go_at_call 6; (with_reducible refine (Sc.new_any _).mono ?_); rintro e w4 ⟨hs, Y, rfl, hp, hb⟩; have hbu := begin_v HW.out hp hb; clear hp hb)
    | (go_at_call 7; (with_reducible refine hbu.mono ?_); intro e w5 hq; obtain ⟨rfl, M5, Y5, hW5, hp5⟩ := build_out beg_full hq; have hg5 := goodR zeroRr; have hn5 := hW5.old (.cells (rcs (zeroRr.mem nilS)) 37); have C4 : (w5.alloc (.cells (rcs (zeroRr.mem nilS)) 37)).cell? ⟨w1.heap.size, 2, none⟩ = some (.string nObject) := (hn5.bel.cell (p := ⟨w1.heap.size, 2, none⟩) HX4.out.lt).trans (HX4.out.cell 2); have hp6 := hp5.alloc (.cells (rcs (zeroRr.mem nilS)) 37); have hge := get_v hp6 nameObject.fine nameObject.get; have HWd := Lib.hid hn5; have HPd := Lib.hid hp6; have HRd := Lib.hid (Blk.new w5 (rcs (zeroRr.mem nilS)) 37); clear hq hW5 hbu hp5 hn5 hp6)
    | (go_at_call 8; (with_reducible refine hge.mono ?_); rintro e w7 ⟨rfl, hb7⟩; have s7 := run_stVg w7 w7.heap.size (objV 21) zeroV rfl; have hB8 := (hb7.trans ((Below.refl _ w7).alloc (Nat.le_refl _) (.cells (vcs (objV 21)) 32) |>.mono hb7.size)); have W8 := HWd.out.call hB8; have P8 := HPd.out.below hB8; have R8 := HRd.out.call hB8; have V8 := Blk.new w7 (vcs (objV 21)) 32; obtain ⟨w8, hw8⟩ : ∃ w8, w7.alloc (.cells (vcs (objV 21)) 32) = w8 := ⟨_, rfl⟩; rw [hw8] at s7 W8 P8 R8 V8; have HC8 := Lib.hid (show Nc ⟨W2, wb, .nilIface, false, 0, min (max 10 0) 1000⟩ hs (buildF (beg 100 100 10)).A (buildF (beg 100 100 10)).S w5.heap.size w7.heap.size (objV 21) w8 from ⟨⟨M5, W8⟩, ⟨Y5, P8⟩, R8, V8⟩); clear hb7 hB8 W8 P8 R8 V8 hw8 hge))
  obtain ⟨CC, hCC⟩ : ∃ C : World → Prop, Nc ⟨W2, wb, .nilIface, false, 0, min (max 10 0) 1000⟩ hs (buildF (beg 100 100 10)).A (buildF (beg 100 100 10)).S w5.heap.size w7.heap.size (objV 21) = C := ⟨_, rfl⟩
  have hc8 : CC w8.drew := by rw [← hCC]; exact Nc.call _ _ HC8.out (Below.refl _ _).drew
  have hS : ∀ W W', CC W → Below W.heap.size W W' → CC W' := by rw [← hCC]; exact fun W W' h hb => Nc.call W W' h hb
  have f8 : ∀ p : Des.Wd CC, p.w.cell? ⟨w5.heap.size, 0, none⟩ = some (.int .i64 0) := by rw [← hCC]; exact fun p => rep_f (r := zeroRr.mem nilS) p.ok.r8
  have k9 : ∀ p : Des.Wd CC, p.w.cell? ⟨w7.heap.size, 0, none⟩ = some (.int .i64 6) := by rw [← hCC]; exact fun p => v_kind p.ok.r9
  have l9 : ∀ p : Des.Wd CC, (Ld 32 (.pointer (some ⟨w7.heap.size, 0, none⟩))).run Try.prog p.w = .ok (.agg (vcs (objV 21))) p.w := by rw [← hCC]; exact fun p => run_ldVp p.ok.r9
  have C4 : ∀ p : Des.Wd CC, p.w.cell? ⟨w1.heap.size, 2, none⟩ = some (.string nObject) := by rw [← hCC]; exact fun p => (p.ok.bel.cell (p := ⟨w1.heap.size, 2, none⟩) HX4.out.lt).trans (HX4.out.cell 2)
  have C5 : ∀ p : Des.Wd CC, p.w.cell? ⟨w1.heap.size + 1, 2, none⟩ = some (.bool false) := by rw [← hCC]; exact fun p => (p.ok.bel.cell (p := ⟨w1.heap.size + 1, 2, none⟩) HX5.out.lt).trans (HX5.out.cell 2)
  have hca : ∀ p : Des.Wd CC, Calls Try.prog 9 #[ptr wb, .agg (vcs (objV 21))] p.w fun e w' => e = .returned (.bool false) ∧ Below p.w.heap.size p.w w' := by rw [← hCC]; exact fun p => by obtain ⟨M, hM⟩ := p.ok.wis; exact calls_o hM 21 hx hk
  have hma : ∀ p : Des.Wd CC, Calls Try.prog 10 #[ptr wb, .agg (vcs (objV 21))] p.w fun e w' => e = .returned (.bool false) ∧ Below p.w.heap.size p.w w' := by rw [← hCC]; exact fun p => by obtain ⟨M, hM⟩ := p.ok.wis; exact makes_o hM 21 hx hk
  have hsa : ∀ p : Des.Wd CC, Calls Try.prog 11 #[ptr hs, .int .i64 0, .string nObject, .agg (vcs zeroV)] p.w fun e w' => e = .returned (.int .i64 3) ∧ Below p.w.heap.size p.w w' := by rw [← hCC]; exact fun p => by obtain ⟨Y, hY⟩ := p.ok.pis; exact set_v hY nameObject.fine zeroV nameObject.set
  have hbl : ∀ W, CC W → Below W2.heap.size W2 W := by rw [← hCC]; exact fun W h => h.bel
  have HC := Lib.hid hc8
  have HBL := Lib.hid hbl
  clear hc8 hbl hCC hx hk hcd
  refine region_inS (S := CC) (by kernel_rfl) (by kernel_rfl) HC.out (fun hne => ?_)
  repeat (go_big_quiet_step (first | exact in_callS hS (hca _) | exact in_callS hS (hma _) | exact in_callS hS (hsa _)))
  refine wpQuiet_nil ?_
  intro w11 hw11
  have HBF := Lib.hid (HBW.out.trans ((HBL.out _ (Des.in_out hw11)).mono HBW.out.size))
  clear hw11
  go_wp2
  go_ret
  exact ⟨rfl, HBF.out⟩
set_option maxRecDepth 100000 in
set_option maxHeartbeats 4000000 in
theorem names_3 (w : World) : Calls Try.prog 3 #[.int .i64 3] w fun e w' => e = .returned (.bool true) ∧ Below w.heap.size w w' := by
  have hal := alive_v w
  obtain ⟨x, hx, hk, hcd⟩ := at_obj nameSymbol.obj
  go_enter Try.func3, Try.ntmps3
  go_wp2_with (first
    | (go_at_call 4; (with_reducible refine hal.mono ?_); go_loud (rintro e w1 ⟨rfl, hb⟩; obtain ⟨W2, hW2⟩ : ∃ W2, (w1.alloc (.cells #[.string nProxy, .string nReflect, .string nObject, .string nSymbol, .string nArray, .string nPrint] 9)).alloc (.cells #[.bool true, .bool false, .bool false, .bool true, .bool false, .bool true] 4) = W2 := ⟨_, rfl⟩; have x4 : Blk W2 w1.heap.size ns6 9 := (by rw [← hW2]; exact (Blk.new w1 ns6 _).old _); have x5 : Blk W2 (w1.heap.size + 1) bs6 4 := (by rw [← hW2, show w1.heap.size + 1 = (w1.alloc (.cells #[.string nProxy, .string nReflect, .string nObject, .string nSymbol, .string nArray, .string nPrint] 9)).heap.size from by simp]; exact Blk.new _ bs6 _); have bW : Below w.heap.size w W2 := (by rw [← hW2]; exact (hb.alloc hb.size _).alloc (by have := hb.size; simp; omega) _); have hnew := new_any W2 ⟨trivial⟩ 100 100 10 55 (by decide) false (Below.refl _ W2); have HX4 := Lib.hid x4; have HX5 := Lib.hid x5; have HBW := Lib.hid bW; clear x4 x5 bW hb hal))
    | (go_at_call 5; (with_reducible refine hnew.mono ?_); rintro e w3 ⟨wb, M, rfl, hW, -, -, -⟩; have HW := Lib.hid hW; clear hW hnew)
    | (go_at_call 6; (with_reducible refine (Sc.new_any _).mono ?_); rintro e w4 ⟨hs, Y, rfl, hp, hb⟩; have hbu := begin_v HW.out hp hb; clear hp hb)
    | (go_at_call 7; (with_reducible refine hbu.mono ?_); intro e w5 hq; obtain ⟨rfl, M5, Y5, hW5, hp5⟩ := build_out beg_full hq; have hg5 := goodR zeroRr; have hn5 := hW5.old (.cells (rcs (zeroRr.mem nilS)) 37); have C4 : (w5.alloc (.cells (rcs (zeroRr.mem nilS)) 37)).cell? ⟨w1.heap.size, 3, none⟩ = some (.string nSymbol) := (hn5.bel.cell (p := ⟨w1.heap.size, 3, none⟩) HX4.out.lt).trans (HX4.out.cell 3); have hp6 := hp5.alloc (.cells (rcs (zeroRr.mem nilS)) 37); have hge := get_v hp6 nameSymbol.fine nameSymbol.get; have HWd := Lib.hid hn5; have HPd := Lib.hid hp6; have HRd := Lib.hid (Blk.new w5 (rcs (zeroRr.mem nilS)) 37); clear hq hW5 hbu hp5 hn5 hp6)
    | (go_at_call 8; (with_reducible refine hge.mono ?_); rintro e w7 ⟨rfl, hb7⟩; have s7 := run_stVg w7 w7.heap.size (objV 28) zeroV rfl; have hB8 := (hb7.trans ((Below.refl _ w7).alloc (Nat.le_refl _) (.cells (vcs (objV 28)) 32) |>.mono hb7.size)); have W8 := HWd.out.call hB8; have P8 := HPd.out.below hB8; have R8 := HRd.out.call hB8; have V8 := Blk.new w7 (vcs (objV 28)) 32; obtain ⟨w8, hw8⟩ : ∃ w8, w7.alloc (.cells (vcs (objV 28)) 32) = w8 := ⟨_, rfl⟩; rw [hw8] at s7 W8 P8 R8 V8; have HC8 := Lib.hid (show Nc ⟨W2, wb, .nilIface, false, 0, min (max 10 0) 1000⟩ hs (buildF (beg 100 100 10)).A (buildF (beg 100 100 10)).S w5.heap.size w7.heap.size (objV 28) w8 from ⟨⟨M5, W8⟩, ⟨Y5, P8⟩, R8, V8⟩); clear hb7 hB8 W8 P8 R8 V8 hw8 hge))
  obtain ⟨CC, hCC⟩ : ∃ C : World → Prop, Nc ⟨W2, wb, .nilIface, false, 0, min (max 10 0) 1000⟩ hs (buildF (beg 100 100 10)).A (buildF (beg 100 100 10)).S w5.heap.size w7.heap.size (objV 28) = C := ⟨_, rfl⟩
  have hc8 : CC w8.drew := by rw [← hCC]; exact Nc.call _ _ HC8.out (Below.refl _ _).drew
  have hS : ∀ W W', CC W → Below W.heap.size W W' → CC W' := by rw [← hCC]; exact fun W W' h hb => Nc.call W W' h hb
  have f8 : ∀ p : Des.Wd CC, p.w.cell? ⟨w5.heap.size, 0, none⟩ = some (.int .i64 0) := by rw [← hCC]; exact fun p => rep_f (r := zeroRr.mem nilS) p.ok.r8
  have k9 : ∀ p : Des.Wd CC, p.w.cell? ⟨w7.heap.size, 0, none⟩ = some (.int .i64 6) := by rw [← hCC]; exact fun p => v_kind p.ok.r9
  have l9 : ∀ p : Des.Wd CC, (Ld 32 (.pointer (some ⟨w7.heap.size, 0, none⟩))).run Try.prog p.w = .ok (.agg (vcs (objV 28))) p.w := by rw [← hCC]; exact fun p => run_ldVp p.ok.r9
  have C4 : ∀ p : Des.Wd CC, p.w.cell? ⟨w1.heap.size, 3, none⟩ = some (.string nSymbol) := by rw [← hCC]; exact fun p => (p.ok.bel.cell (p := ⟨w1.heap.size, 3, none⟩) HX4.out.lt).trans (HX4.out.cell 3)
  have C5 : ∀ p : Des.Wd CC, p.w.cell? ⟨w1.heap.size + 1, 3, none⟩ = some (.bool true) := by rw [← hCC]; exact fun p => (p.ok.bel.cell (p := ⟨w1.heap.size + 1, 3, none⟩) HX5.out.lt).trans (HX5.out.cell 3)
  have hca : ∀ p : Des.Wd CC, Calls Try.prog 9 #[ptr wb, .agg (vcs (objV 28))] p.w fun e w' => e = .returned (.bool true) ∧ Below p.w.heap.size p.w w' := by rw [← hCC]; exact fun p => by obtain ⟨M, hM⟩ := p.ok.wis; exact calls_f hM 28 hx hk
  have hma : ∀ p : Des.Wd CC, Calls Try.prog 10 #[ptr wb, .agg (vcs (objV 28))] p.w fun e w' => e = .returned (.bool false) ∧ Below p.w.heap.size p.w w' := by rw [← hCC]; exact fun p => by obtain ⟨M, hM⟩ := p.ok.wis; have hmk := makes_f hM 28 hx hk; rw [hcd, show ((34 : Int) == 1 || (34 : Int) == 30) = false from by decide] at hmk; exact hmk
  have hsa : ∀ p : Des.Wd CC, Calls Try.prog 11 #[ptr hs, .int .i64 0, .string nSymbol, .agg (vcs zeroV)] p.w fun e w' => e = .returned (.int .i64 3) ∧ Below p.w.heap.size p.w w' := by rw [← hCC]; exact fun p => by obtain ⟨Y, hY⟩ := p.ok.pis; exact set_v hY nameSymbol.fine zeroV nameSymbol.set
  have hbl : ∀ W, CC W → Below W2.heap.size W2 W := by rw [← hCC]; exact fun W h => h.bel
  have HC := Lib.hid hc8
  have HBL := Lib.hid hbl
  clear hc8 hbl hCC hx hk hcd
  refine region_inS (S := CC) (by kernel_rfl) (by kernel_rfl) HC.out (fun hne => ?_)
  repeat (go_big_quiet_step (first | exact in_callS hS (hca _) | exact in_callS hS (hma _) | exact in_callS hS (hsa _)))
  refine wpQuiet_nil ?_
  intro w11 hw11
  have HBF := Lib.hid (HBW.out.trans ((HBL.out _ (Des.in_out hw11)).mono HBW.out.size))
  clear hw11
  go_wp2
  go_ret
  exact ⟨rfl, HBF.out⟩
set_option maxRecDepth 100000 in
set_option maxHeartbeats 4000000 in
theorem names_4 (w : World) : Calls Try.prog 3 #[.int .i64 4] w fun e w' => e = .returned (.bool true) ∧ Below w.heap.size w w' := by
  have hal := alive_v w
  obtain ⟨x, hx, hk, hcd⟩ := at_obj nameArray.obj
  go_enter Try.func3, Try.ntmps3
  go_wp2_with (first
    | (go_at_call 4; (with_reducible refine hal.mono ?_); go_loud (rintro e w1 ⟨rfl, hb⟩; obtain ⟨W2, hW2⟩ : ∃ W2, (w1.alloc (.cells #[.string nProxy, .string nReflect, .string nObject, .string nSymbol, .string nArray, .string nPrint] 9)).alloc (.cells #[.bool true, .bool false, .bool false, .bool true, .bool false, .bool true] 4) = W2 := ⟨_, rfl⟩; have x4 : Blk W2 w1.heap.size ns6 9 := (by rw [← hW2]; exact (Blk.new w1 ns6 _).old _); have x5 : Blk W2 (w1.heap.size + 1) bs6 4 := (by rw [← hW2, show w1.heap.size + 1 = (w1.alloc (.cells #[.string nProxy, .string nReflect, .string nObject, .string nSymbol, .string nArray, .string nPrint] 9)).heap.size from by simp]; exact Blk.new _ bs6 _); have bW : Below w.heap.size w W2 := (by rw [← hW2]; exact (hb.alloc hb.size _).alloc (by have := hb.size; simp; omega) _); have hnew := new_any W2 ⟨trivial⟩ 100 100 10 55 (by decide) false (Below.refl _ W2); have HX4 := Lib.hid x4; have HX5 := Lib.hid x5; have HBW := Lib.hid bW; clear x4 x5 bW hb hal))
    | (go_at_call 5; (with_reducible refine hnew.mono ?_); rintro e w3 ⟨wb, M, rfl, hW, -, -, -⟩; have HW := Lib.hid hW; clear hW hnew)
    | (go_at_call 6; (with_reducible refine (Sc.new_any _).mono ?_); rintro e w4 ⟨hs, Y, rfl, hp, hb⟩; have hbu := begin_v HW.out hp hb; clear hp hb)
    | (go_at_call 7; (with_reducible refine hbu.mono ?_); intro e w5 hq; obtain ⟨rfl, M5, Y5, hW5, hp5⟩ := build_out beg_full hq; have hg5 := goodR zeroRr; have hn5 := hW5.old (.cells (rcs (zeroRr.mem nilS)) 37); have C4 : (w5.alloc (.cells (rcs (zeroRr.mem nilS)) 37)).cell? ⟨w1.heap.size, 4, none⟩ = some (.string nArray) := (hn5.bel.cell (p := ⟨w1.heap.size, 4, none⟩) HX4.out.lt).trans (HX4.out.cell 4); have hp6 := hp5.alloc (.cells (rcs (zeroRr.mem nilS)) 37); have hge := get_v hp6 nameArray.fine nameArray.get; have HWd := Lib.hid hn5; have HPd := Lib.hid hp6; have HRd := Lib.hid (Blk.new w5 (rcs (zeroRr.mem nilS)) 37); clear hq hW5 hbu hp5 hn5 hp6)
    | (go_at_call 8; (with_reducible refine hge.mono ?_); rintro e w7 ⟨rfl, hb7⟩; have s7 := run_stVg w7 w7.heap.size (objV 29) zeroV rfl; have hB8 := (hb7.trans ((Below.refl _ w7).alloc (Nat.le_refl _) (.cells (vcs (objV 29)) 32) |>.mono hb7.size)); have W8 := HWd.out.call hB8; have P8 := HPd.out.below hB8; have R8 := HRd.out.call hB8; have V8 := Blk.new w7 (vcs (objV 29)) 32; obtain ⟨w8, hw8⟩ : ∃ w8, w7.alloc (.cells (vcs (objV 29)) 32) = w8 := ⟨_, rfl⟩; rw [hw8] at s7 W8 P8 R8 V8; have HC8 := Lib.hid (show Nc ⟨W2, wb, .nilIface, false, 0, min (max 10 0) 1000⟩ hs (buildF (beg 100 100 10)).A (buildF (beg 100 100 10)).S w5.heap.size w7.heap.size (objV 29) w8 from ⟨⟨M5, W8⟩, ⟨Y5, P8⟩, R8, V8⟩); clear hb7 hB8 W8 P8 R8 V8 hw8 hge))
  obtain ⟨CC, hCC⟩ : ∃ C : World → Prop, Nc ⟨W2, wb, .nilIface, false, 0, min (max 10 0) 1000⟩ hs (buildF (beg 100 100 10)).A (buildF (beg 100 100 10)).S w5.heap.size w7.heap.size (objV 29) = C := ⟨_, rfl⟩
  have hc8 : CC w8.drew := by rw [← hCC]; exact Nc.call _ _ HC8.out (Below.refl _ _).drew
  have hS : ∀ W W', CC W → Below W.heap.size W W' → CC W' := by rw [← hCC]; exact fun W W' h hb => Nc.call W W' h hb
  have f8 : ∀ p : Des.Wd CC, p.w.cell? ⟨w5.heap.size, 0, none⟩ = some (.int .i64 0) := by rw [← hCC]; exact fun p => rep_f (r := zeroRr.mem nilS) p.ok.r8
  have k9 : ∀ p : Des.Wd CC, p.w.cell? ⟨w7.heap.size, 0, none⟩ = some (.int .i64 6) := by rw [← hCC]; exact fun p => v_kind p.ok.r9
  have l9 : ∀ p : Des.Wd CC, (Ld 32 (.pointer (some ⟨w7.heap.size, 0, none⟩))).run Try.prog p.w = .ok (.agg (vcs (objV 29))) p.w := by rw [← hCC]; exact fun p => run_ldVp p.ok.r9
  have C4 : ∀ p : Des.Wd CC, p.w.cell? ⟨w1.heap.size, 4, none⟩ = some (.string nArray) := by rw [← hCC]; exact fun p => (p.ok.bel.cell (p := ⟨w1.heap.size, 4, none⟩) HX4.out.lt).trans (HX4.out.cell 4)
  have C5 : ∀ p : Des.Wd CC, p.w.cell? ⟨w1.heap.size + 1, 4, none⟩ = some (.bool false) := by rw [← hCC]; exact fun p => (p.ok.bel.cell (p := ⟨w1.heap.size + 1, 4, none⟩) HX5.out.lt).trans (HX5.out.cell 4)
  have hca : ∀ p : Des.Wd CC, Calls Try.prog 9 #[ptr wb, .agg (vcs (objV 29))] p.w fun e w' => e = .returned (.bool false) ∧ Below p.w.heap.size p.w w' := by rw [← hCC]; exact fun p => by obtain ⟨M, hM⟩ := p.ok.wis; exact calls_o hM 29 hx hk
  have hma : ∀ p : Des.Wd CC, Calls Try.prog 10 #[ptr wb, .agg (vcs (objV 29))] p.w fun e w' => e = .returned (.bool false) ∧ Below p.w.heap.size p.w w' := by rw [← hCC]; exact fun p => by obtain ⟨M, hM⟩ := p.ok.wis; exact makes_o hM 29 hx hk
  have hsa : ∀ p : Des.Wd CC, Calls Try.prog 11 #[ptr hs, .int .i64 0, .string nArray, .agg (vcs zeroV)] p.w fun e w' => e = .returned (.int .i64 3) ∧ Below p.w.heap.size p.w w' := by rw [← hCC]; exact fun p => by obtain ⟨Y, hY⟩ := p.ok.pis; exact set_v hY nameArray.fine zeroV nameArray.set
  have hbl : ∀ W, CC W → Below W2.heap.size W2 W := by rw [← hCC]; exact fun W h => h.bel
  have HC := Lib.hid hc8
  have HBL := Lib.hid hbl
  clear hc8 hbl hCC hx hk hcd
  refine region_inS (S := CC) (by kernel_rfl) (by kernel_rfl) HC.out (fun hne => ?_)
  repeat (go_big_quiet_step (first | exact in_callS hS (hca _) | exact in_callS hS (hma _) | exact in_callS hS (hsa _)))
  refine wpQuiet_nil ?_
  intro w11 hw11
  have HBF := Lib.hid (HBW.out.trans ((HBL.out _ (Des.in_out hw11)).mono HBW.out.size))
  clear hw11
  go_wp2
  go_ret
  exact ⟨rfl, HBF.out⟩
set_option maxRecDepth 100000 in
set_option maxHeartbeats 4000000 in
theorem names_5 (w : World) : Calls Try.prog 3 #[.int .i64 5] w fun e w' => e = .returned (.bool true) ∧ Below w.heap.size w w' := by
  have hal := alive_v w
  obtain ⟨x, hx, hk, hcd⟩ := at_obj namePrint.obj
  go_enter Try.func3, Try.ntmps3
  go_wp2_with (first
    | (go_at_call 4; (with_reducible refine hal.mono ?_); go_loud (rintro e w1 ⟨rfl, hb⟩; obtain ⟨W2, hW2⟩ : ∃ W2, (w1.alloc (.cells #[.string nProxy, .string nReflect, .string nObject, .string nSymbol, .string nArray, .string nPrint] 9)).alloc (.cells #[.bool true, .bool false, .bool false, .bool true, .bool false, .bool true] 4) = W2 := ⟨_, rfl⟩; have x4 : Blk W2 w1.heap.size ns6 9 := (by rw [← hW2]; exact (Blk.new w1 ns6 _).old _); have x5 : Blk W2 (w1.heap.size + 1) bs6 4 := (by rw [← hW2, show w1.heap.size + 1 = (w1.alloc (.cells #[.string nProxy, .string nReflect, .string nObject, .string nSymbol, .string nArray, .string nPrint] 9)).heap.size from by simp]; exact Blk.new _ bs6 _); have bW : Below w.heap.size w W2 := (by rw [← hW2]; exact (hb.alloc hb.size _).alloc (by have := hb.size; simp; omega) _); have hnew := new_any W2 ⟨trivial⟩ 100 100 10 55 (by decide) false (Below.refl _ W2); have HX4 := Lib.hid x4; have HX5 := Lib.hid x5; have HBW := Lib.hid bW; clear x4 x5 bW hb hal))
    | (go_at_call 5; (with_reducible refine hnew.mono ?_); rintro e w3 ⟨wb, M, rfl, hW, -, -, -⟩; have HW := Lib.hid hW; clear hW hnew)
    | (go_at_call 6; (with_reducible refine (Sc.new_any _).mono ?_); rintro e w4 ⟨hs, Y, rfl, hp, hb⟩; have hbu := begin_v HW.out hp hb; clear hp hb)
    | (go_at_call 7; (with_reducible refine hbu.mono ?_); intro e w5 hq; obtain ⟨rfl, M5, Y5, hW5, hp5⟩ := build_out beg_full hq; have hg5 := goodR zeroRr; have hn5 := hW5.old (.cells (rcs (zeroRr.mem nilS)) 37); have C4 : (w5.alloc (.cells (rcs (zeroRr.mem nilS)) 37)).cell? ⟨w1.heap.size, 5, none⟩ = some (.string nPrint) := (hn5.bel.cell (p := ⟨w1.heap.size, 5, none⟩) HX4.out.lt).trans (HX4.out.cell 5); have hp6 := hp5.alloc (.cells (rcs (zeroRr.mem nilS)) 37); have hge := get_v hp6 namePrint.fine namePrint.get; have HWd := Lib.hid hn5; have HPd := Lib.hid hp6; have HRd := Lib.hid (Blk.new w5 (rcs (zeroRr.mem nilS)) 37); clear hq hW5 hbu hp5 hn5 hp6)
    | (go_at_call 8; (with_reducible refine hge.mono ?_); rintro e w7 ⟨rfl, hb7⟩; have s7 := run_stVg w7 w7.heap.size (objV 31) zeroV rfl; have hB8 := (hb7.trans ((Below.refl _ w7).alloc (Nat.le_refl _) (.cells (vcs (objV 31)) 32) |>.mono hb7.size)); have W8 := HWd.out.call hB8; have P8 := HPd.out.below hB8; have R8 := HRd.out.call hB8; have V8 := Blk.new w7 (vcs (objV 31)) 32; obtain ⟨w8, hw8⟩ : ∃ w8, w7.alloc (.cells (vcs (objV 31)) 32) = w8 := ⟨_, rfl⟩; rw [hw8] at s7 W8 P8 R8 V8; have HC8 := Lib.hid (show Nc ⟨W2, wb, .nilIface, false, 0, min (max 10 0) 1000⟩ hs (buildF (beg 100 100 10)).A (buildF (beg 100 100 10)).S w5.heap.size w7.heap.size (objV 31) w8 from ⟨⟨M5, W8⟩, ⟨Y5, P8⟩, R8, V8⟩); clear hb7 hB8 W8 P8 R8 V8 hw8 hge))
  obtain ⟨CC, hCC⟩ : ∃ C : World → Prop, Nc ⟨W2, wb, .nilIface, false, 0, min (max 10 0) 1000⟩ hs (buildF (beg 100 100 10)).A (buildF (beg 100 100 10)).S w5.heap.size w7.heap.size (objV 31) = C := ⟨_, rfl⟩
  have hc8 : CC w8.drew := by rw [← hCC]; exact Nc.call _ _ HC8.out (Below.refl _ _).drew
  have hS : ∀ W W', CC W → Below W.heap.size W W' → CC W' := by rw [← hCC]; exact fun W W' h hb => Nc.call W W' h hb
  have f8 : ∀ p : Des.Wd CC, p.w.cell? ⟨w5.heap.size, 0, none⟩ = some (.int .i64 0) := by rw [← hCC]; exact fun p => rep_f (r := zeroRr.mem nilS) p.ok.r8
  have k9 : ∀ p : Des.Wd CC, p.w.cell? ⟨w7.heap.size, 0, none⟩ = some (.int .i64 6) := by rw [← hCC]; exact fun p => v_kind p.ok.r9
  have l9 : ∀ p : Des.Wd CC, (Ld 32 (.pointer (some ⟨w7.heap.size, 0, none⟩))).run Try.prog p.w = .ok (.agg (vcs (objV 31))) p.w := by rw [← hCC]; exact fun p => run_ldVp p.ok.r9
  have C4 : ∀ p : Des.Wd CC, p.w.cell? ⟨w1.heap.size, 5, none⟩ = some (.string nPrint) := by rw [← hCC]; exact fun p => (p.ok.bel.cell (p := ⟨w1.heap.size, 5, none⟩) HX4.out.lt).trans (HX4.out.cell 5)
  have C5 : ∀ p : Des.Wd CC, p.w.cell? ⟨w1.heap.size + 1, 5, none⟩ = some (.bool true) := by rw [← hCC]; exact fun p => (p.ok.bel.cell (p := ⟨w1.heap.size + 1, 5, none⟩) HX5.out.lt).trans (HX5.out.cell 5)
  have hca : ∀ p : Des.Wd CC, Calls Try.prog 9 #[ptr wb, .agg (vcs (objV 31))] p.w fun e w' => e = .returned (.bool true) ∧ Below p.w.heap.size p.w w' := by rw [← hCC]; exact fun p => by obtain ⟨M, hM⟩ := p.ok.wis; exact calls_f hM 31 hx hk
  have hma : ∀ p : Des.Wd CC, Calls Try.prog 10 #[ptr wb, .agg (vcs (objV 31))] p.w fun e w' => e = .returned (.bool false) ∧ Below p.w.heap.size p.w w' := by rw [← hCC]; exact fun p => by obtain ⟨M, hM⟩ := p.ok.wis; have hmk := makes_f hM 31 hx hk; rw [hcd, show ((33 : Int) == 1 || (33 : Int) == 30) = false from by decide] at hmk; exact hmk
  have hsa : ∀ p : Des.Wd CC, Calls Try.prog 11 #[ptr hs, .int .i64 0, .string nPrint, .agg (vcs zeroV)] p.w fun e w' => e = .returned (.int .i64 3) ∧ Below p.w.heap.size p.w w' := by rw [← hCC]; exact fun p => by obtain ⟨Y, hY⟩ := p.ok.pis; exact set_v hY namePrint.fine zeroV namePrint.set
  have hbl : ∀ W, CC W → Below W2.heap.size W2 W := by rw [← hCC]; exact fun W h => h.bel
  have HC := Lib.hid hc8
  have HBL := Lib.hid hbl
  clear hc8 hbl hCC hx hk hcd
  refine region_inS (S := CC) (by kernel_rfl) (by kernel_rfl) HC.out (fun hne => ?_)
  repeat (go_big_quiet_step (first | exact in_callS hS (hca _) | exact in_callS hS (hma _) | exact in_callS hS (hsa _)))
  refine wpQuiet_nil ?_
  intro w11 hw11
  have HBF := Lib.hid (HBW.out.trans ((HBL.out _ (Des.in_out hw11)).mono HBW.out.size))
  clear hw11
  go_wp2
  go_ret
  exact ⟨rfl, HBF.out⟩
set_option maxRecDepth 100000 in
set_option maxHeartbeats 4000000 in
theorem names_out (n : Int) (w : World) (h : n < 0 ∨ 6 ≤ n) : Calls Try.prog 3 #[.int .i64 n] w fun e w' => e = .returned (.bool true) ∧ Below w.heap.size w w' := by
  have hal := alive_v w
  by_cases h1 : n < 0
  · clear h
    go_enter Try.func3, Try.ntmps3
    go_wp2_with (go_at_call 4; (with_reducible refine hal.mono ?_); rintro e w1 ⟨rfl, hb⟩; have HB := Lib.hid hb; clear hb)
    go_ret
    exact ⟨rfl, (HB.out.alloc HB.out.size _).alloc (by have := HB.out.size; simp; omega) _⟩
  · have d1 : decide (n < 0) = false := by simp; omega
    have h2 : 6 ≤ n := by omega
    clear h h1
    go_enter Try.func3, Try.ntmps3
    go_wp2_with (go_at_call 4; (with_reducible refine hal.mono ?_); rintro e w1 ⟨rfl, hb⟩; have HB := Lib.hid hb; clear hb)
    go_ret
    exact ⟨rfl, (HB.out.alloc HB.out.size _).alloc (by have := HB.out.size; simp; omega) _⟩
theorem lawNames_walk (n : Int) (w : World) : Calls Try.prog 3 #[.int .i64 n] w fun e w' => e = .returned (.bool true) ∧ Below w.heap.size w w' := by
  by_cases h : n < 0 ∨ 6 ≤ n
  · exact names_out n w h
  · rcases (by omega : n = 0 ∨ n = 1 ∨ n = 2 ∨ n = 3 ∨ n = 4 ∨ n = 5) with rfl | rfl | rfl | rfl | rfl | rfl
    · exact names_0 w
    · exact names_1 w
    · exact names_2 w
    · exact names_3 w
    · exact names_4 w
    · exact names_5 w
end
end Go.Proofs.Ytblbeinnfbohbaa.Re
