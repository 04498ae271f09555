/-
  Replies and worlds in memory.
-/
import Derived.Test.YtoakiejpmcgdjaaGreatDoorHpMake
import Derived.Test.YtoakiejpmcgdjaaGreatDoorRgInv
import Derived.Test.YtoakiejpmcgdjaaGreatDoorHpColl
import Derived.Laws.ResultCell
namespace Go.Proofs.YtoakiejpmcgdjaaGreatDoor.Mo
open Go Go.RowKit Go.Maps Go.Shelf Go.Proofs.YtoakiejpmcgdjaaGreatDoor.Keys Go.Proofs.YtoakiejpmcgdjaaGreatDoor.Hp
set_option linter.unusedVariables false
set_option linter.unusedSimpArgs false

/-- A reply: its keys as a slice. -/
structure Rp where
  flow : Int
  v : Vl
  ok : Bool
  has : Bool
  d : Ds
  keys : Value
def zeroR : Rp := ⟨0, zeroV, false, false, zeroD, nilS⟩
def vcs (v : Vl) : Array Value := #[.int .i64 v.k, .int .i64 v.n, .string v.s]
def rcs (r : Rp) : Array Value := #[.int .i64 r.flow, .int .i64 r.v.k, .int .i64 r.v.n, .string r.v.s, .bool r.ok, .bool r.has, .bool r.d.hv, .bool r.d.hg, .bool r.d.hs, .bool r.d.hw, .bool r.d.he, .bool r.d.hc, .int .i64 r.d.v.k, .int .i64 r.d.v.n, .string r.d.v.s, .int .i64 r.d.g.k, .int .i64 r.d.g.n, .string r.d.g.s, .int .i64 r.d.s.k, .int .i64 r.d.s.n, .string r.d.s.s, .bool r.d.w, .bool r.d.e, .bool r.d.c, r.keys]
theorem rcs_size (r : Rp) : (rcs r).size = 25 := rfl
theorem rcs_0 (r : Rp) : (rcs r)[0]? = some (.int .i64 r.flow) := rfl
theorem rcs_1 (r : Rp) : (rcs r)[1]? = some (.int .i64 r.v.k) := rfl
theorem rcs_2 (r : Rp) : (rcs r)[2]? = some (.int .i64 r.v.n) := rfl
theorem rcs_3 (r : Rp) : (rcs r)[3]? = some (.string r.v.s) := rfl
theorem rcs_4 (r : Rp) : (rcs r)[4]? = some (.bool r.ok) := rfl
theorem rcs_5 (r : Rp) : (rcs r)[5]? = some (.bool r.has) := rfl
theorem rcs_24 (r : Rp) : (rcs r)[24]? = some r.keys := rfl
/-- Its keys are a slice. -/
def Rp.good (r : Rp) : Prop := ∃ a n c, r.keys = .slice a n c
theorem zeroR_good : zeroR.good := ⟨_, _, _, rfl⟩
theorem rcs_one {r : Rp} (h : r.good) : (rcs r).all (·.oneCell') = true := by
  obtain ⟨a, n, c, h1⟩ := h
  unfold rcs
  rw [h1]
  simp [Value.oneCell']
theorem ldR (v : Value) : Instr.loadAt 35 v = Ld 35 v := (rfl)
theorem stR (p v : Value) : Instr.storeAt 35 p v = St 35 p v := (rfl)
theorem alR : Instr.alloc 35 true (.tuple #[]) = Al 35 := (rfl)
theorem bxR (v : Value) : Instr.box 35 v = Bx 35 v := (rfl)
theorem bdR (ps : Array (Nat × Value)) : Instr.build 35 ps = Bd 35 ps := (rfl)
theorem bdD (ps : Array (Nat × Value)) : Instr.build 32 ps = Bd 32 ps := (rfl)
theorem bdE (ps : Array (Nat × Value)) : Instr.build 83 ps = Bd 83 ps := (rfl)
theorem infoR : (Tryz.prog.info? 35).map (fun i => (i.zero, i.size)) = some (some (.agg (rcs zeroR)), 25) := by kernel_rfl
theorem sizeR : (Tryz.prog.info? 35).map (·.size) = some 25 := by kernel_rfl
theorem run_alR (w : World) : (Al 35).run Tryz.prog w = .ok (ptr w.heap.size) (w.alloc (.cells (rcs zeroR) 35)) := run_al infoR w
theorem run_ldRp {w : World} {b : Nat} {r : Rp} {T : TypeId} (h : Blk w b (rcs r) T) : (Ld 35 (.pointer (some ⟨b, 0, none⟩))).run Tryz.prog w = .ok (.agg (rcs r)) w := by
  have := run_loadAt_mid (P := Tryz.prog) w b 0 35 (rcs r).toList _ (h.range (r := []) (by simp)) Tryz.underlying35 rfl sizeR
  simpa [Ld] using this
theorem run_stRp {w : World} {b : Nat} {o r : Rp} (h : Blk w b (rcs o) 35) (hr : r.good) : (St 35 (.pointer (some ⟨b, 0, none⟩)) (.agg (rcs r))).run Tryz.prog w = .ok () (w.setRow b (rcs r)) :=
  run_st_row h (by rw [rcs_size]; exact sizeR) (by rw [rcs_size, rcs_size]) (rcs_one hr)
theorem run_stRn (w : World) (r o : Rp) (h : r.good) : (St 35 (.pointer (some ⟨w.heap.size, 0, none⟩)) (.agg (rcs r))).run Tryz.prog (w.alloc (.cells (rcs o) 35)) = .ok () (w.alloc (.cells (rcs r) 35)) := by
  rw [run_stRp (Blk.new w (rcs o) _) h, setRow_new]
theorem blk_newg {w : World} {g : Nat} {cs : Array Value} {t : TypeId} (hg : g = w.heap.size) : Blk (w.alloc (.cells cs t)) g cs t := by
  subst hg
  exact Blk.new w cs t
theorem run_stRg (w : World) (g : Nat) (r o : Rp) (h : r.good) (hg : g = w.heap.size) : (St 35 (.pointer (some ⟨g, 0, none⟩)) (.agg (rcs r))).run Tryz.prog (w.alloc (.cells (rcs o) 35)) = .ok () (w.alloc (.cells (rcs r) 35)) := by
  subst hg
  exact run_stRn w r o h
theorem run_stDg (w : World) (g : Nat) (r o : Ds) (hg : g = w.heap.size) : (St 32 (.pointer (some ⟨g, 0, none⟩)) (.agg (dcs r))).run Tryz.prog (w.alloc (.cells (dcs o) 32)) = .ok () (w.alloc (.cells (dcs r) 32)) := by
  subst hg
  exact run_stD w r o
theorem run_bdR0 (w : World) : (Bd 35 #[]).run Tryz.prog w = .ok (.agg (rcs zeroR)) w := run_build w _ _ _ (by kernel_rfl)
theorem run_bdR1 (w : World) (f : Int) : (Bd 35 #[(0, .int .i64 f)]).run Tryz.prog w = .ok (.agg (rcs { zeroR with flow := f })) w := run_build w _ _ _ (by kernel_rfl)
theorem run_bdR2 (w : World) (f k n : Int) (s : ByteArray) : (Bd 35 #[(0, .int .i64 f), (1, .agg #[.int .i64 k, .int .i64 n, .string s])]).run Tryz.prog w = .ok (.agg (rcs { zeroR with flow := f, v := ⟨k, n, s⟩ })) w := run_build w _ _ _ (by kernel_rfl)
/-- A whole data property. -/
def dataD (v : Vl) (w e c : Bool) : Ds := ⟨true, false, false, true, true, true, v, zeroV, zeroV, w, e, c⟩
theorem run_bdData (W : World) (k n : Int) (s : ByteArray) (w e c : Bool) : (Bd 32 #[(0, .bool true), (6, .agg #[.int .i64 k, .int .i64 n, .string s]), (3, .bool true), (9, .bool w), (4, .bool true), (10, .bool e), (5, .bool true), (11, .bool c)]).run Tryz.prog W = .ok (.agg (dcs (dataD ⟨k, n, s⟩ w e c))) W := run_build W _ _ _ (by kernel_rfl)
theorem run_bdEn (W : World) (ks : ByteArray) (kn : Int) (d : Ds) : (Bd 83 #[(0, .agg #[.string ks, .int .i64 kn]), (1, .agg (dcs d))]).run Tryz.prog W = .ok (.agg (ecs ⟨ks, kn, d⟩)) W := run_build W _ _ _ (by kernel_rfl)
/-- A world's own cells. -/
def wcs (hb : Nat) (cl : Value) (fuel deep depth deepest : Int) (lg : Value) : Array Value := #[ptr hb, cl, .int .i64 fuel, .int .i64 deep, .int .i64 depth, .int .i64 deepest, lg]
theorem wcs_0 (hb : Nat) (cl : Value) (f d p q : Int) (lg : Value) : (wcs hb cl f d p q lg)[0]? = some (ptr hb) := rfl
/-! ### Values by a name -/
theorem vcs_size (v : Vl) : (vcs v).size = 3 := rfl
theorem vcs_0 (v : Vl) : (vcs v)[0]? = some (.int .i64 v.k) := rfl
theorem vcs_1 (v : Vl) : (vcs v)[1]? = some (.int .i64 v.n) := rfl
theorem vcs_2 (v : Vl) : (vcs v)[2]? = some (.string v.s) := rfl
theorem vcs_one (v : Vl) : (vcs v).all (·.oneCell') = true := by simp [vcs, Value.oneCell']
theorem ldV (v : Value) : Instr.loadAt 30 v = Ld 30 v := (rfl)
theorem stV (p v : Value) : Instr.storeAt 30 p v = St 30 p v := (rfl)
theorem alV : Instr.alloc 30 true (.tuple #[]) = Al 30 := (rfl)
theorem bxV (v : Value) : Instr.box 30 v = Bx 30 v := (rfl)
theorem bdV (ps : Array (Nat × Value)) : Instr.build 30 ps = Bd 30 ps := (rfl)
theorem infoV : (Tryz.prog.info? 30).map (fun i => (i.zero, i.size)) = some (some (.agg (vcs zeroV)), 3) := by kernel_rfl
theorem sizeV : (Tryz.prog.info? 30).map (·.size) = some 3 := by kernel_rfl
theorem run_alV (w : World) : (Al 30).run Tryz.prog w = .ok (ptr w.heap.size) (w.alloc (.cells (vcs zeroV) 30)) := run_al infoV w
theorem run_ldVp {w : World} {b : Nat} {v : Vl} {T : TypeId} (h : Blk w b (vcs v) T) : (Ld 30 (.pointer (some ⟨b, 0, none⟩))).run Tryz.prog w = .ok (.agg (vcs v)) w := by
  have := run_loadAt_mid (P := Tryz.prog) w b 0 30 (vcs v).toList _ (h.range (r := []) (by simp)) Tryz.underlying30 rfl sizeV
  simpa [Ld] using this
theorem run_stVp {w : World} {b : Nat} {o v : Vl} (h : Blk w b (vcs o) 30) : (St 30 (.pointer (some ⟨b, 0, none⟩)) (.agg (vcs v))).run Tryz.prog w = .ok () (w.setRow b (vcs v)) :=
  run_st_row h (by rw [vcs_size]; exact sizeV) (by rw [vcs_size, vcs_size]) (vcs_one v)
theorem run_stVg (w : World) (g : Nat) (r o : Vl) (hg : g = w.heap.size) : (St 30 (.pointer (some ⟨g, 0, none⟩)) (.agg (vcs r))).run Tryz.prog (w.alloc (.cells (vcs o) 30)) = .ok () (w.alloc (.cells (vcs r) 30)) := by
  subst hg
  rw [run_stVp (Blk.new w (vcs o) _), setRow_new]
theorem run_bdV0 (w : World) : (Bd 30 #[]).run Tryz.prog w = .ok (.agg (vcs zeroV)) w := run_build w _ _ _ (by kernel_rfl)
theorem run_bdV1 (w : World) (k : Int) : (Bd 30 #[(0, .int .i64 k)]).run Tryz.prog w = .ok (.agg (vcs ⟨k, 0, ⟨#[]⟩⟩)) w := run_build w _ _ _ (by kernel_rfl)
theorem run_bdV2 (w : World) (k n : Int) : (Bd 30 #[(0, .int .i64 k), (1, .int .i64 n)]).run Tryz.prog w = .ok (.agg (vcs ⟨k, n, ⟨#[]⟩⟩)) w := run_build w _ _ _ (by kernel_rfl)
theorem run_bdV3 (w : World) (k : Int) (s : ByteArray) : (Bd 30 #[(0, .int .i64 k), (2, .string s)]).run Tryz.prog w = .ok (.agg (vcs ⟨k, 0, s⟩)) w := run_build w _ _ _ (by kernel_rfl)
theorem run_bdRv (w : World) (f : Int) (v : Vl) : (Bd 35 #[(0, .int .i64 f), (1, .agg (vcs v))]).run Tryz.prog w = .ok (.agg (rcs { zeroR with flow := f, v := v })) w := run_build w _ _ _ (by kernel_rfl)
/-- What throws v. -/
def thrownR (v : Vl) : Rp := { zeroR with flow := 1, v := v }
theorem thrownR_good (v : Vl) : (thrownR v).good := ⟨_, _, _, rfl⟩
theorem run_bdRt (w : World) (v : Vl) : (Bd 35 #[(0, .int .i64 1), (1, .agg (vcs v))]).run Tryz.prog w = .ok (.agg (rcs (thrownR v))) w := run_bdRv w 1 v
/-- An object as create lays it. -/
def newT (kd : Int) (p : Vl) (props : Value) : Th := { zeroT with kind := kd, proto := p, ext := true, props := props }
theorem run_bdTn (w : World) (kd : Int) (p : Vl) (x : Bool) (a : Option Addr) (n c : Nat) : (Bd 100 #[(0, .int .i64 kd), (1, .agg (vcs p)), (2, .bool x), (3, .slice a n c)]).run Tryz.prog w = .ok (.agg (tcs { newT kd p (.slice a n c) with ext := x })) w := run_build w _ _ _ (by kernel_rfl)
def BsE (ps : Array (Nat × Value)) : Sem Value := Instr.buildSlice 84 1 ps
theorem bsE (ps : Array (Nat × Value)) : Instr.buildSlice 84 1 ps = BsE ps := (rfl)
theorem run_bsE (w : World) (e : En) : (BsE #[(0, .agg (ecs e))]).run Tryz.prog w = .ok (.slice (some ⟨w.heap.size, 0, none⟩) 1 1) (w.alloc (.cells (ecs e) 83)) := by
  obtain ⟨i, hi, hz, hs, hb⟩ := info_parts infoE
  exact run_buildSlice w 84 83 1 _ (ecs e) i (.agg (ecs zeroE)) Tryz.underlying84 hi hz (by rw [hs]; decide) (by rw [hs]; decide) (by rw [hs]; have h := Go.Great.fill_whole (s := 20) (by decide) [.agg (ecs e)] ((Array.range (1 * 20)).map ((Value.agg (ecs zeroE)).cells[· % (Value.agg (ecs zeroE)).cells.size]!)) (fun v hv => by rw [List.mem_singleton.1 hv]; rfl) (by simp); simpa [Value.cells] using h)
/-! ### Results -/
theorem res_V {fn : Func} {p : Tmp} (h : fn.results = #[.cell p 30]) (tmps : Array Value) (w : World) (g : Nat) (v : Vl) (hp : tmps.getD p undef = .pointer (some ⟨g, 0, none⟩)) {T : TypeId} (hr : Blk w g (vcs v) T) : (results fn tmps).run Tryz.prog w = .ok (.agg (vcs v)) w :=
  results_cell_row h tmps w g T (vcs v) (0, 0) _ hp hr Tryz.underlying30 rfl (by exact sizeV)
theorem res_R {fn : Func} {p : Tmp} (h : fn.results = #[.cell p 35]) (tmps : Array Value) (w : World) (g : Nat) (r : Rp) (hp : tmps.getD p undef = .pointer (some ⟨g, 0, none⟩)) {T : TypeId} (hr : Blk w g (rcs r) T) : (results fn tmps).run Tryz.prog w = .ok (.agg (rcs r)) w :=
  results_cell_row h tmps w g T (rcs r) (0, 0) _ hp hr Tryz.underlying35 rfl (by rw [rcs_size]; exact sizeR)
theorem res_D {fn : Func} {p : Tmp} (h : fn.results = #[.cell p 32]) (tmps : Array Value) (w : World) (g : Nat) (d : Ds) (hp : tmps.getD p undef = .pointer (some ⟨g, 0, none⟩)) {T : TypeId} (hr : Blk w g (dcs d) T) : (results fn tmps).run Tryz.prog w = .ok (.agg (dcs d)) w :=
  results_cell_row h tmps w g T (dcs d) (0, 0) _ hp hr Tryz.underlying32 rfl (by rw [dcs_size]; exact sizeD)
theorem res_VR {fn : Func} {p q : Tmp} (h : fn.results = #[.cell p 30, .cell q 35]) (tmps : Array Value) (w : World) (g k : Nat) (v : Vl) (r : Rp) (hp : tmps.getD p undef = .pointer (some ⟨g, 0, none⟩)) (hq : tmps.getD q undef = .pointer (some ⟨k, 0, none⟩)) {T U : TypeId} (hv : Blk w g (vcs v) T) (hr : Blk w k (rcs r) U) : (results fn tmps).run Tryz.prog w = .ok (.tuple #[.agg (vcs v), .agg (rcs r)]) w := by
  have e1 := run_loadVar_row (P := Tryz.prog) w g T 30 (vcs v) (0, 0) _ hv Tryz.underlying30 rfl (by exact sizeV)
  have e2 := run_loadVar_row (P := Tryz.prog) w k U 35 (rcs r) (0, 0) _ hr Tryz.underlying35 rfl (by rw [rcs_size]; exact sizeR)
  have hp' : tmps[p]?.getD undef = .pointer (some ⟨g, 0, none⟩) := by simpa using hp
  have hq' : tmps[q]?.getD undef = .pointer (some ⟨k, 0, none⟩) := by simpa using hq
  simp only [results, h]
  simp [Sem.run_bind, Result.andThen, hp', hq', asAddr, e1, e2]
end Go.Proofs.YtoakiejpmcgdjaaGreatDoor.Mo
