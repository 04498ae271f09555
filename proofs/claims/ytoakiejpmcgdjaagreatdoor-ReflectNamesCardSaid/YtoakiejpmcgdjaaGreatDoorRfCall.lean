/-
  Call without arguments throws.
-/
import Derived.Test.YtoakiejpmcgdjaaGreatDoorRfName
namespace Go.Proofs.YtoakiejpmcgdjaaGreatDoor.Mo
open Go Go.RowKit Go.Maps Go.Shelf Go.Proofs.YtoakiejpmcgdjaaGreatDoor.Keys Go.Proofs.YtoakiejpmcgdjaaGreatDoor.Hp
set_option linter.unusedVariables false
set_option linter.unusedSimpArgs false
set_option maxRecDepth 100000
attribute [local go_sem ↓] ldR stR alR bxR bdR ldV stV alV bxV bdV
attribute [local irreducible] rcs dcs ecs vcs tcs
attribute [local go_sem] run_bx run_alR run_alV run_bdR0 run_bdR1 run_bdV0 run_stVg run_stRg
/-- A call's own cells. -/
def ccs (wb : Nat) (m : Int) (t : Value) : Array Value := #[ptr wb, .int .i64 m, t, nilS]
theorem ccs_size (wb : Nat) (m : Int) (t : Value) : (ccs wb m t).size = 4 := rfl
theorem ccs_0 (wb : Nat) (m : Int) (t : Value) : (ccs wb m t)[0]? = some (ptr wb) := rfl
theorem ccs_2 (wb : Nat) (m : Int) (t : Value) : (ccs wb m t)[2]? = some t := rfl
theorem ccs_3 (wb : Nat) (m : Int) (t : Value) : (ccs wb m t)[3]? = some nilS := rfl
theorem ccs_set2 (wb : Nat) (m : Int) (t v : Value) : (ccs wb m t).setIfInBounds 2 v = ccs wb m v := rfl
theorem ldC (v : Value) : Instr.loadAt 49 v = Ld 49 v := (rfl)
theorem stC (p v : Value) : Instr.storeAt 49 p v = St 49 p v := (rfl)
theorem alC : Instr.alloc 49 true (.tuple #[]) = Al 49 := (rfl)
theorem bxC (v : Value) : Instr.box 49 v = Bx 49 v := (rfl)
theorem bdC (ps : Array (Nat × Value)) : Instr.build 49 ps = Bd 49 ps := (rfl)
def zeroC : Array Value := #[.pointer none, .int .i64 0, .nilIface, nilS]
theorem infoC : (Tryz.prog.info? 49).map (fun i => (i.zero, i.size)) = some (some (.agg zeroC), 4) := by kernel_rfl
theorem sizeC : (Tryz.prog.info? 49).map (·.size) = some 4 := by kernel_rfl
theorem run_alC (w : World) : (Al 49).run Tryz.prog w = .ok (ptr w.heap.size) (w.alloc (.cells zeroC 49)) := run_al infoC w
theorem run_bdC (w : World) (wb : Nat) (m : Int) : (Bd 49 #[(0, .pointer (some ⟨wb, 0, none⟩)), (1, .int .i64 m), (3, .slice none 0 0)]).run Tryz.prog w = .ok (.agg (ccs wb m .nilIface)) w := run_build w _ _ _ (by kernel_rfl)
theorem run_ldCp {w : World} {b wb : Nat} {m : Int} {t : Value} {T : TypeId} (h : Blk w b (ccs wb m t) T) : (Ld 49 (.pointer (some ⟨b, 0, none⟩))).run Tryz.prog w = .ok (.agg (ccs wb m t)) w := by
  have := run_loadAt_mid (P := Tryz.prog) w b 0 49 (ccs wb m t).toList _ (h.range (r := []) (by simp)) Tryz.underlying49 rfl sizeC
  simpa [Ld] using this
theorem run_stCg (w : World) (g wb : Nat) (m : Int) (hg : g = w.heap.size) : (St 49 (.pointer (some ⟨g, 0, none⟩)) (.agg (ccs wb m .nilIface))).run Tryz.prog (w.alloc (.cells zeroC 49)) = .ok () (w.alloc (.cells (ccs wb m .nilIface) 49)) := by
  subst hg
  rw [run_st_row (Blk.new w zeroC _) (by rw [ccs_size]; exact sizeC) (by rw [ccs_size]; rfl) (by simp [ccs, Value.oneCell']), setRow_new]
attribute [local go_sem ↓] ldC stC alC bxC bdC
attribute [local irreducible] ccs zeroC
attribute [local go_sem] run_alC run_bdC run_stCg
theorem arg_none (wb : Nat) (m : Int) (t : Value) (i : Nat) (w : World) : Calls Tryz.prog 13 #[.agg (ccs wb m t), .int .i64 i] w fun e w' => e = .returned (.agg (vcs zeroV)) ∧ Below w.heap.size w w' := by
  have h0 : decide ((0 : Int) ≤ i) = true := by simp
  have c3 : ((w.alloc (.cells (ccs wb m t) 49)).alloc (.cells (vcs zeroV) 30)).cell? ⟨w.heap.size, 3, none⟩ = some nilS := (((Blk.new w (ccs wb m t) 49).old _).cell 3).trans (ccs_3 wb m t)
  go_enter Tryz.func13, Tryz.ntmps13
  go_wp2
  refine bodyPost_ret (res_V rfl _ _ (w.heap.size + 1) zeroV rfl (blk_newg (by simp))) rfl ⟨rfl, ?_⟩
  exact ((Below.refl _ w).alloc (Nat.le_refl _) _).alloc (by simp) _
theorem objectOf_none (wb : Nat) (v : Vl) (hv : (v.k != 6) = true) (w : World) : Calls Tryz.prog 12 #[ptr wb, .agg (vcs v)] w fun e w' => e = .returned .nilIface ∧ Below w.heap.size w w' := by
  have c0 : (w.alloc (.cells (vcs v) 30)).cell? ⟨w.heap.size, 0, none⟩ = some (.int .i64 v.k) := ((Blk.new w (vcs v) 30).cell 0).trans (vcs_0 v)
  go_enter Tryz.func12, Tryz.ntmps12
  go_wp2
  go_ret
  exact ⟨rfl, (Below.refl _ w).alloc (Nat.le_refl _) _⟩
theorem as_cl (w : World) : (Instr.typeAssert .nilIface 47 64 true).run Tryz.prog w = .ok (.tuple #[.agg #[.int .i64 0, .int .i64 0, .string ⟨#[]⟩], .bool false]) w := by kernel_rfl
theorem as_fu (w : World) : (Instr.typeAssert .nilIface 47 65 true).run Tryz.prog w = .ok (.tuple #[.agg #[.int .i64 0, .int .i64 0, .string ⟨#[]⟩], .bool false]) w := by kernel_rfl
theorem as_fa (w : World) : (Instr.typeAssert .nilIface 47 62 true).run Tryz.prog w = .ok (.tuple #[.agg #[.int .i64 0, .int .i64 0, .string ⟨#[]⟩], .bool false]) w := by kernel_rfl
theorem as_pl (w : World) : (Instr.typeAssert .nilIface 47 59 true).run Tryz.prog w = .ok (.tuple #[.agg #[.int .i64 0, .int .i64 0, .string ⟨#[]⟩], .bool false]) w := by kernel_rfl
attribute [local go_sem] as_cl as_fu as_fa as_pl
theorem can_none (m : Int) (w : World) : Calls Tryz.prog 14 #[.int .i64 m, .nilIface] w fun e w' => e = .returned (.bool false) ∧ w' = w := by
  go_enter Tryz.func14, Tryz.ntmps14
  go_wp2
  go_ret
  exact ⟨rfl, rfl⟩
/-- Fail in a world without objects. -/
theorem fail_new (base wb hb : Nat) (cl : Value) (f d p q : Int) (lg : Value) (R : Int) (nm : ByteArray) (w : World) (hw : Blk w wb (wcs hb cl f d p q lg) 44) (hh : Blk w hb (hp R nilS 0) 57) (hR : 0 < R) (hbase : base ≤ hb) :
    Calls Tryz.prog 20 #[ptr wb, .string nm] w fun e w' => e = .returned (.agg (rcs (thrownR ⟨6, 0, ⟨#[]⟩⟩))) ∧ Below base w w' ∧ Stay (fun b => b = hb) w w' := by
  have hlt := hh.lt
  refine (fail_run (fun b => b = hb ∨ some b = (Value.slice none 0 0).ownBlock) base wb 0 nm w (fun b hb1 hx => ?_) (by omega) ?_).mono fun e w' h => ⟨h.1, h.2.1, h.2.2.size, fun b hb1 hx => h.2.2.block b hb1 (fun q => q.elim hx (fun q => by simp [Value.ownBlock] at q))⟩
  · rcases hx with rfl | hx
    · omega
    · simp [Value.ownBlock] at hx
  · intro W g hB hg hg2
    have hB' : Below w.heap.size w W := (((Below.refl _ w).alloc (Nat.le_refl _) (.cells (rcs zeroR) 35)).alloc (by simp) (.cells (vcs ⟨4, 0, nm⟩) 30)).drew.trans (hB.mono (by omega))
    refine create_any base wb hb cl f d p q lg R none 0 0 0 [] 5 ⟨1, 0, ⟨#[]⟩⟩ (some ⟨g, 0, none⟩) 1 [⟨⟨#[110, 97, 109, 101]⟩, 0, dataD ⟨4, 0, nm⟩ true false true⟩] W (hw.call hB') (hh.call hB') hbase (World.ownsRow_nil _ _ _ _) (by omega) (by simpa using hR) (by simp) ?_ ?_
    · intro j e he
      cases j with
      | zero =>
        simp at he
        subst he
        exact ⟨g, 0, rfl, hg.lt, hg.range (r := []) (by simp)⟩
      | succ j => simp at he
    · intro e he
      simp at he
      subst he
      exact ⟨by show (4 : Nat) ≤ _; omega, by show _ ≤ (0 : Int); omega, by show (0 : Int) ≤ _; omega⟩
set_option maxHeartbeats 2000000 in
theorem cfail_new (base wb hb : Nat) (m : Int) (t : Value) (cl : Value) (f d p q : Int) (lg : Value) (R : Int) (w : World) (hw : Blk w wb (wcs hb cl f d p q lg) 44) (hh : Blk w hb (hp R nilS 0) 57) (hR : 0 < R) (hbase : base ≤ hb) :
    Calls Tryz.prog 15 #[.agg (ccs wb m t)] w fun e w' => e = .returned (.agg (rcs (thrownR ⟨6, 0, ⟨#[]⟩⟩))) ∧ Below base w w' ∧ Stay (fun b => b = hb) w w' := by
  obtain ⟨w1, hw1⟩ : ∃ w1, (w.alloc (.cells (ccs wb m t) 49)).alloc (.cells (rcs zeroR) 35) = w1 := ⟨_, rfl⟩
  have k1 : w1.heap.size = w.heap.size + 2 := by rw [← hw1]; simp
  have b1 : Below w.heap.size w w1 := by rw [← hw1]; exact ((Below.refl _ w).alloc (Nat.le_refl _) _).alloc (by simp) _
  have x0 : Blk w1 w.heap.size (ccs wb m t) 49 := by rw [← hw1]; exact (Blk.new w _ _).old _
  have x1 : Blk w1 (w.heap.size + 1) (rcs zeroR) 35 := by rw [← hw1]; exact blk_newg (by simp)
  have c0 : w1.cell? ⟨w.heap.size, 0, none⟩ = some (ptr wb) := (x0.cell 0).trans (ccs_0 wb m t)
  have hf := fail_new base wb hb cl f d p q lg R ⟨#[84, 121, 112, 101, 69, 114, 114, 111, 114]⟩ w1 (hw.call b1) (hh.call b1) hR hbase
  have hlt := hh.lt
  have X1 := Lib.hid x1
  have B1 := Lib.hid b1
  clear x0 x1 b1 hw hh
  go_enter Tryz.func15, Tryz.ntmps15
  go_wp2_with (go_at_call 20; refine hf.mono ?_; rintro e w2 ⟨rfl, hb2, hs2⟩; have y1 := hs2.blk X1.out (by omega); have sv := run_stRp y1 (thrownR_good ⟨6, 0, ⟨#[]⟩⟩); have Y1 := Lib.hid y1; have HB2 := Lib.hid hb2; have HS2 := Lib.hid hs2; clear y1 hb2 hs2)
  refine bodyPost_ret (res_R rfl _ _ (w.heap.size + 1) _ rfl (Y1.out.row _)) rfl ⟨rfl, ?_, ?_⟩
  · exact below_row ((B1.out.mono (by omega)).trans HB2.out) _ (by omega)
  · exact ((show Stay _ w w1 from ⟨B1.out.size, fun b hb _ => B1.out.block b hb⟩).trans HS2.out).row _ (by omega)
end Go.Proofs.YtoakiejpmcgdjaaGreatDoor.Mo
