/-
  Descriptors: their shape, a whole one read out of and laid into memory, and '==' of two.
-/
import Derived.Test.YtlpfdhmifcmhaaaVaRight
import Derived.Laws.Tables
import Derived.Laws.Rows
import Derived.Laws.StructEq
import Derived.Laws.ResultCell
import Derived.Deep.MidRow
namespace Go.Proofs.Ytlpfdhmifcmhaaa.Des
open Go.RowKit Go.Proofs.Ytlpfdhmifcmhaaa.Vals
set_option linter.unusedVariables false
set_option linter.unusedSimpArgs false

theorem two_bels (w : World) (a b : Obj) : Below w.heap.size w ((w.alloc a).alloc b) := ((Below.refl _ _).alloc (Nat.le_refl _) _).alloc (by simp) _
theorem three_bels (w : World) (a b c : Obj) : Below w.heap.size w (((w.alloc a).alloc b).alloc c) := (((Below.refl _ _).alloc (Nat.le_refl _) _).alloc (by simp) _).alloc (by simp; omega) _
theorem below_dn {B : Nat} {a w : World} (h : Below B a w) (n : Nat) : Below B a (w.drewN n) := h.trans ⟨rfl, rfl, rfl, Nat.le_refl _, fun _ _ => rfl⟩
theorem n2 (n : Nat) : (n + 1 + 1 = n) = False := by simp only [eq_iff_iff, iff_false]; omega
theorem n3 (n : Nat) : (n + 1 + 1 + 1 = n) = False := by simp only [eq_iff_iff, iff_false]; omega
theorem m2 (n : Nat) : (n = n + 1 + 1) = False := by simp only [eq_iff_iff, iff_false]; omega
theorem m3 (n : Nat) : (n = n + 1 + 1 + 1) = False := by simp only [eq_iff_iff, iff_false]; omega
theorem bel_keep {w0 w w' : World} (hb : Below w.heap.size w w') (h : Below w0.heap.size w0 w) : Below w0.heap.size w0 w' := h.trans (hb.mono h.size)
theorem bel_drew {B : Nat} {a w : World} (h : Below B a w) : Below B a w.drew := h.drew
/-- A value's parts; a descriptor's parts. -/
structure Vl where
  k : Int
  n : Int
  s : ByteArray
structure Ds where
  hv : Bool
  hg : Bool
  hs : Bool
  hw : Bool
  he : Bool
  hc : Bool
  v : Vl
  g : Vl
  s : Vl
  w : Bool
  e : Bool
  c : Bool
def dcs (d : Ds) : Array Value := #[.bool d.hv, .bool d.hg, .bool d.hs, .bool d.hw, .bool d.he, .bool d.hc, .int .i64 d.v.k, .int .i64 d.v.n, .string d.v.s, .int .i64 d.g.k, .int .i64 d.g.n, .string d.g.s, .int .i64 d.s.k, .int .i64 d.s.n, .string d.s.s, .bool d.w, .bool d.e, .bool d.c]
abbrev DV (d : Ds) : Value := .agg (dcs d)
abbrev VV (v : Vl) : Value := .agg #[.int .i64 v.k, .int .i64 v.n, .string v.s]
def zeroV : Vl := ⟨0, 0, ⟨#[]⟩⟩
def zeroD : Ds := ⟨false, false, false, false, false, false, zeroV, zeroV, zeroV, false, false, false⟩
theorem dcs_0 (d : Ds) : (dcs d)[0]? = some (.bool d.hv) := rfl
theorem dcs_1 (d : Ds) : (dcs d)[1]? = some (.bool d.hg) := rfl
theorem dcs_2 (d : Ds) : (dcs d)[2]? = some (.bool d.hs) := rfl
theorem dcs_3 (d : Ds) : (dcs d)[3]? = some (.bool d.hw) := rfl
theorem dcs_4 (d : Ds) : (dcs d)[4]? = some (.bool d.he) := rfl
theorem dcs_5 (d : Ds) : (dcs d)[5]? = some (.bool d.hc) := rfl
theorem dcs_6 (d : Ds) : (dcs d)[6]? = some (.int .i64 d.v.k) := rfl
theorem dcs_7 (d : Ds) : (dcs d)[7]? = some (.int .i64 d.v.n) := rfl
theorem dcs_8 (d : Ds) : (dcs d)[8]? = some (.string d.v.s) := rfl
theorem dcs_9 (d : Ds) : (dcs d)[9]? = some (.int .i64 d.g.k) := rfl
theorem dcs_10 (d : Ds) : (dcs d)[10]? = some (.int .i64 d.g.n) := rfl
theorem dcs_11 (d : Ds) : (dcs d)[11]? = some (.string d.g.s) := rfl
theorem dcs_12 (d : Ds) : (dcs d)[12]? = some (.int .i64 d.s.k) := rfl
theorem dcs_13 (d : Ds) : (dcs d)[13]? = some (.int .i64 d.s.n) := rfl
theorem dcs_14 (d : Ds) : (dcs d)[14]? = some (.string d.s.s) := rfl
theorem dcs_15 (d : Ds) : (dcs d)[15]? = some (.bool d.w) := rfl
theorem dcs_16 (d : Ds) : (dcs d)[16]? = some (.bool d.e) := rfl
theorem dcs_17 (d : Ds) : (dcs d)[17]? = some (.bool d.c) := rfl
theorem dcs_size (d : Ds) : (dcs d).size = 18 := rfl
theorem dcs_one (d : Ds) : (dcs d).all (·.oneCell') = true := by simp [dcs, Value.oneCell']

theorem dcs_one18 (d : Ds) : (dcs d).all (fun x => x.oneCell') 0 18 = true := dcs_one d
theorem one_b (b : Bool) : (Value.bool b).oneCell' = true := rfl
theorem one_i (k : IntKind) (n : Int) : (Value.int k n).oneCell' = true := rfl
theorem one_s (s : ByteArray) : (Value.string s).oneCell' = true := rfl
/-- A block that holds a descriptor and may be written: its cells. -/
def objRow : Obj → Option (Array Value)
  | .cells cs _ fz => if cs.size = 18 ∧ fz = (0, 0) then some cs else none
  | _ => none
def rowD (w : World) (g : Nat) : Option (Array Value) := (w.heap[g]?).bind objRow
theorem objRow_some {o : Obj} {cs : Array Value} (h : objRow o = some cs) : ∃ t, o = .cells cs t (0, 0) ∧ cs.size = 18 := by
  unfold objRow at h
  split at h
  · split at h
    · rename_i h2
      obtain ⟨h2, rfl⟩ := h2
      simp at h
      subst h
      exact ⟨_, rfl, h2⟩
    · cases h
  · cases h
theorem objRow_cells (cs : Array Value) (t : TypeId) (h : cs.size = 18) : objRow (.cells cs t) = some cs := by unfold objRow; simp [h]
theorem rowD_some {w : World} {g : Nat} {cs : Array Value} (h : rowD w g = some cs) : ∃ t, w.heap[g]? = some (.cells cs t (0, 0)) ∧ cs.size = 18 := by
  unfold rowD at h
  cases hg : w.heap[g]? with
  | none => rw [hg] at h; cases h
  | some o =>
    rw [hg] at h
    obtain ⟨t, rfl, hs⟩ := objRow_some h
    exact ⟨t, rfl, hs⟩
theorem rowD_is {w : World} {g : Nat} (h : (rowD w g).isSome = true) : ∃ cs t, rowD w g = some cs ∧ w.heap[g]? = some (.cells cs t (0, 0)) ∧ cs.size = 18 := by
  obtain ⟨cs, hc⟩ := Option.isSome_iff_exists.1 h
  obtain ⟨t, ht, hs⟩ := rowD_some hc
  exact ⟨cs, t, hc, ht, hs⟩
theorem rowD_lt {w : World} {g : Nat} (h : (rowD w g).isSome = true) : g < w.heap.size := by
  obtain ⟨cs, t, hc, ht, hs⟩ := rowD_is h
  exact (Array.getElem?_eq_some_iff.1 ht).1
theorem rowD_drew (w : World) (g : Nat) : rowD w.drew g = rowD w g := (rfl)
theorem rowD_drewN (w : World) (n g : Nat) : rowD (w.drewN n) g = rowD w g := (rfl)
theorem rowD_new (w : World) (o : Obj) (g : Nat) (h : w.heap.size = g) : rowD (w.alloc o) g = objRow o := by
  subst h
  unfold rowD
  rw [heap_alloc_new]
  rfl
theorem rowD_old (w : World) (o : Obj) (g : Nat) (h : (rowD w g).isSome = true) : rowD (w.alloc o) g = rowD w g := by
  unfold rowD
  rw [heap_alloc_old _ _ (rowD_lt h)]
theorem rowD_alloc (w : World) (o : Obj) (g : Nat) : rowD (w.alloc o) g = if w.heap.size = g then objRow o else rowD w g := by
  split
  · rename_i h
    exact rowD_new w o g h
  · rename_i h
    unfold rowD World.alloc
    simp only [Array.getElem?_push]
    rw [if_neg (fun e => h e.symm)]
theorem objRow_lit (a0 a1 a2 a3 a4 a5 a6 a7 a8 a9 a10 a11 a12 a13 a14 a15 a16 a17 : Value) (t : TypeId) : objRow (.cells #[a0, a1, a2, a3, a4, a5, a6, a7, a8, a9, a10, a11, a12, a13, a14, a15, a16, a17] t) = some #[a0, a1, a2, a3, a4, a5, a6, a7, a8, a9, a10, a11, a12, a13, a14, a15, a16, a17] := rfl
theorem objRow_dcs (d : Ds) (t : TypeId) : objRow (.cells (dcs d) t) = some (dcs d) := objRow_cells _ _ rfl
theorem rowD_keep {w w' : World} {B g : Nat} {cs : Array Value} (hb : Below B w w') (hg : g < B) (h : rowD w g = some cs) : rowD w' g = some cs := by
  unfold rowD at *
  rw [hb.block g hg]
  exact h
/-- What a call leaves of a block that was there. -/
theorem rowD_call {w w' : World} {g : Nat} {cs : Array Value} (hb : Below w.heap.size w w') (h : rowD w g = some cs) : rowD w' g = some cs :=
  rowD_keep hb (rowD_lt (by rw [h]; rfl)) h
theorem is_call {w w' : World} {g : Nat} (hb : Below w.heap.size w w') (h : (rowD w g).isSome = true) : (rowD w' g).isSome = true := by
  obtain ⟨cs, hc⟩ := Option.isSome_iff_exists.1 h
  rw [rowD_call hb hc]
  rfl
/-- A descriptor laid into a block. -/
def putD (w : World) (g : Nat) (cs : Array Value) : World := w.setRow g cs
theorem putD_drew (w : World) (g : Nat) (cs : Array Value) : putD w.drew g cs = (putD w g cs).drew := (rfl)
theorem putD_drewN (w : World) (n g : Nat) (cs : Array Value) : putD (w.drewN n) g cs = (putD w g cs).drewN n := (rfl)
theorem putD_size (w : World) (g : Nat) (cs : Array Value) : (putD w g cs).heap.size = w.heap.size := by simp [putD, World.setRow]
theorem putD_new (w : World) (g : Nat) (c cs : Array Value) (t : TypeId) (h : w.heap.size = g) : putD (w.alloc (.cells c t)) g cs = w.alloc (.cells cs t) := by
  subst h
  unfold putD World.setRow World.alloc
  simp only
  congr 1
  apply Array.ext_getElem?
  intro i
  rw [Array.getElem?_modify]
  by_cases h : w.heap.size = i
  · subst h
    simp
  · have h' : ¬ i = w.heap.size := fun e => h e.symm
    simp [h, h', Array.getElem?_push]
theorem putD_old (w : World) (o : Obj) (g : Nat) (cs : Array Value) (h : (rowD w g).isSome = true) : putD (w.alloc o) g cs = (putD w g cs).alloc o := by
  have hl := rowD_lt h
  unfold putD World.setRow World.alloc
  simp only
  congr 1
  apply Array.ext_getElem?
  intro i
  simp only [Array.getElem?_modify, Array.getElem?_push, Array.size_modify]
  by_cases h1 : g = i
  · subst h1
    rw [if_pos rfl, if_neg (by omega), if_neg (by omega), if_pos rfl]
  · rw [if_neg h1]
    split
    · rfl
    · rfl
def setObj (o : Obj) (cs : Array Value) : Obj := match o with | .cells _ t fz => .cells cs t fz | o => o
theorem setObj_cells (c cs : Array Value) (t : TypeId) (fz : Nat × Nat) : setObj (.cells c t fz) cs = .cells cs t fz := rfl
theorem putD_alloc (w : World) (o : Obj) (g : Nat) (cs : Array Value) : putD (w.alloc o) g cs = if w.heap.size = g then w.alloc (setObj o cs) else (putD w g cs).alloc o := by
  unfold putD World.setRow World.alloc
  split
  · rename_i h
    subst h
    simp only
    congr 1
    apply Array.ext_getElem?
    intro i
    rw [Array.getElem?_modify]
    by_cases h : w.heap.size = i
    · subst h
      simp only [if_true, Array.getElem?_push, Option.map_some]
      cases o <;> rfl
    · have h' : ¬ i = w.heap.size := fun e => h e.symm
      simp [h, h', Array.getElem?_push]
  · rename_i h
    simp only
    congr 1
    apply Array.ext_getElem?
    intro i
    simp only [Array.getElem?_modify, Array.getElem?_push, Array.size_modify]
    by_cases h1 : g = i
    · subst h1
      rw [if_pos rfl, if_neg (fun e => h e.symm), if_neg (fun e => h e.symm), if_pos rfl]
    · rw [if_neg h1]
      split
      · rfl
      · rfl
theorem rowD_put (w : World) (g : Nat) (cs : Array Value) (h : (rowD w g).isSome = true) (hs : cs.size = 18) : rowD (putD w g cs) g = some cs := by
  obtain ⟨c, t, hc, ht, hs2⟩ := rowD_is h
  unfold rowD putD World.setRow
  simp only [Array.getElem?_modify]
  rw [if_pos trivial, ht]
  simp [objRow, hs]
theorem rowD_other (w : World) (g g2 : Nat) (cs : Array Value) (h : ¬ g = g2) : rowD (putD w g cs) g2 = rowD w g2 := by
  unfold rowD putD World.setRow
  simp only [Array.getElem?_modify]
  rw [if_neg h]
theorem bel_put {B g : Nat} {w0 w : World} (hb : Below B w0 w) (hBg : B ≤ g) (cs : Array Value) : Below B w0 (putD w g cs) :=
  hb.trans ⟨rfl, rfl, rfl, by simp [putD, World.setRow], fun k hk => by
    unfold putD World.setRow
    simp only [Array.getElem?_modify]
    rw [if_neg (by omega)]⟩
theorem cell_rowD (w : World) (g i : Nat) (h : (rowD w g).isSome = true) : w.cell? ⟨g, i, none⟩ = ((rowD w g).getD #[])[i]? := by
  obtain ⟨cs, t, hc, ht, hs⟩ := rowD_is h
  rw [hc, cell_of_row w g i cs t (0, 0) ht]
  rfl

/-- A whole one is read. -/
def ldD (v : Value) : Sem Value := Instr.loadAt 28 v
theorem to_ldD (v : Value) : Instr.loadAt 28 v = ldD v := (rfl)
theorem info18 : (Try.prog.info? 28).map (·.size) = some 18 := by kernel_rfl
theorem run_ldD (w : World) (g : Nat) (h : (rowD w g).isSome = true) : (ldD (.pointer (some ⟨g, 0, none⟩))).run Try.prog w = .ok (.agg ((rowD w g).getD #[])) w := by
  obtain ⟨cs, t, hc, ht, hs⟩ := rowD_is h
  rw [hc]
  unfold ldD
  simp only [Instr.loadAt, Instr.sureAddr, Sem.run_bind, Sem.run_pure, Result.andThen_ok, run_loadVar_row w g t 28 cs (0, 0) _ ht Try.underlying28 rfl (by rw [hs]; exact info18), Option.getD_some]
theorem res_rowD {fn : Func} {p : Tmp} (h : fn.results = #[.cell p 28]) (tmps : Array Value) (w : World) (g : Nat) (cs : Array Value) (hp : tmps.getD p undef = .pointer (some ⟨g, 0, none⟩)) (hr : rowD w g = some cs) :
    (results fn tmps).run Try.prog w = .ok (.agg cs) w := by
  obtain ⟨t, ht, hs⟩ := rowD_some hr
  exact results_cell_row h tmps w g t cs (0, 0) _ hp ht Try.underlying28 rfl (by rw [hs]; exact info18)
theorem res2_rowD {fn : Func} {p u : Tmp} (h : fn.results = #[.cell p 28, .tmp u]) (tmps : Array Value) (w : World) (g : Nat) (cs : Array Value) (hp : tmps.getD p undef = .pointer (some ⟨g, 0, none⟩)) (hr : rowD w g = some cs) :
    (results fn tmps).run Try.prog w = .ok (.tuple #[.agg cs, tmps.getD u undef]) w := by
  obtain ⟨t, ht, hs⟩ := rowD_some hr
  have hv := run_loadVar_row (P := Try.prog) w g t 28 cs (0, 0) _ ht Try.underlying28 rfl (by rw [hs]; exact info18)
  rw [results_cell_tmp h, hp]
  simp [asAddr, hv, Result.andThen]
/-- Cells that make a whole one. -/
def okC (cells : Array Value) : Bool := decide (cells.size = 18) && cells.all (·.oneCell')
theorem okC_dcs (d : Ds) : okC (dcs d) = true := by simp [okC, dcs_size, dcs_one18]
theorem okC_lit (a0 a1 a2 a3 a4 a5 a6 a7 a8 a9 a10 a11 a12 a13 a14 a15 a16 a17 : Value) : okC #[a0, a1, a2, a3, a4, a5, a6, a7, a8, a9, a10, a11, a12, a13, a14, a15, a16, a17] = (a0.oneCell' && a1.oneCell' && a2.oneCell' && a3.oneCell' && a4.oneCell' && a5.oneCell' && a6.oneCell' && a7.oneCell' && a8.oneCell' && a9.oneCell' && a10.oneCell' && a11.oneCell' && a12.oneCell' && a13.oneCell' && a14.oneCell' && a15.oneCell' && a16.oneCell' && a17.oneCell') := by simp [okC, Bool.and_assoc]
/-- A whole one is laid. -/
def stD (p v : Value) : Sem Unit := Instr.storeAt 28 p v
theorem to_stD (p v : Value) : Instr.storeAt 28 p v = stD p v := (rfl)
theorem rowD_putc (w : World) (g : Nat) (cs : Array Value) (h : (rowD w g).isSome = true) (hs : okC cs = true) : rowD (putD w g cs) g = some cs := by
  simp only [okC, Bool.and_eq_true, decide_eq_true_eq] at hs
  exact rowD_put w g cs h hs.1
theorem run_stD (w : World) (g : Nat) (cells : Array Value) (h : (rowD w g).isSome = true) (h2 : okC cells = true) : (stD (.pointer (some ⟨g, 0, none⟩)) (.agg cells)).run Try.prog w = .ok () (putD w g cells) := by
  obtain ⟨cs, t, hc, ht, hs⟩ := rowD_is h
  simp only [okC, Bool.and_eq_true, decide_eq_true_eq] at h2
  obtain ⟨hs2, h1⟩ := h2
  unfold stD
  simp only [Instr.storeAt, Instr.sureAddr, Sem.run_bind, Sem.run_pure, Result.andThen_ok, run_storeVar_row w g t 28 cs cells ht (by rw [hs2]; exact info18) (hs.trans hs2.symm) h1]
  rfl

/-- '==' of two values, of two descriptors. -/
def eqV (a b : Vl) : Bool := a.k == b.k && (a.n == b.n && a.s.toList == b.s.toList)
def eqD (a b : Ds) : Bool := a.hv == b.hv && (a.hg == b.hg && (a.hs == b.hs && (a.hw == b.hw && (a.he == b.he && (a.hc == b.hc && (eqV a.v b.v && (eqV a.g b.g && (eqV a.s b.s && (a.w == b.w && (a.e == b.e && a.c == b.c))))))))))
theorem tl_inj {a b : ByteArray} (h : a.toList = b.toList) : a = b := by
  rw [ByteArray.toList_eq, ByteArray.toList_eq] at h
  exact ByteArray.ext (Array.toList_inj.1 h)
theorem eqV_iff {a b : Vl} : eqV a b = true ↔ a = b := by
  obtain ⟨ak, an, az⟩ := a
  obtain ⟨bk, bn, bz⟩ := b
  simp only [eqV, Bool.and_eq_true, beq_iff_eq, Vl.mk.injEq]
  exact ⟨fun ⟨h1, h2, h3⟩ => ⟨h1, h2, tl_inj h3⟩, fun ⟨h1, h2, h3⟩ => ⟨h1, h2, by rw [h3]⟩⟩
theorem eqD_iff {a b : Ds} : eqD a b = true ↔ a = b := by
  obtain ⟨a1, a2, a3, a4, a5, a6, a7, a8, a9, a10, a11, a12⟩ := a
  obtain ⟨b1, b2, b3, b4, b5, b6, b7, b8, b9, b10, b11, b12⟩ := b
  simp only [eqD, Bool.and_eq_true, beq_iff_eq, Ds.mk.injEq, eqV_iff]
theorem eqV_refl (a : Vl) : eqV a a = true := eqV_iff.2 rfl
theorem eqD_refl (a : Ds) : eqD a a = true := eqD_iff.2 rfl
theorem run_eqV (d : Nat) (k n k2 n2 : Int) (s s2 : ByteArray) (w : World) : (Op.equalIn (d + 2) 23 (.agg #[.int .i64 k, .int .i64 n, .string s]) (.agg #[.int .i64 k2, .int .i64 n2, .string s2])).run Try.prog w = .ok (eqV ⟨k, n, s⟩ ⟨k2, n2, s2⟩) w := by
  unfold eqV
  by_cases h1 : k = k2
  · by_cases h2 : n = n2
    · by_cases h3 : s.toList = s2.toList
      · simp [go_sem, h1, h2, h3]
      · simp [go_sem, h1, h2, h3]
    · simp [go_sem, h1, h2]
  · simp [go_sem, h1]
theorem run_eqV0 (k n k2 n2 : Int) (s s2 : ByteArray) (w : World) : (Op.equalIn 10000 23 (.agg #[.int .i64 k, .int .i64 n, .string s]) (.agg #[.int .i64 k2, .int .i64 n2, .string s2])).run Try.prog w = .ok (eqV ⟨k, n, s⟩ ⟨k2, n2, s2⟩) w := run_eqV 9998 k n k2 n2 s s2 w
theorem eqf_cons {P : Program} {w : World} {d : Nat} {xs ys : Array Value} {f : Field} {fs : List Field} {a b : Value} {r s : Bool} (hn : f.name ≠ "_") (ha : (part f.type xs f.offset).run P w = .ok a w) (hb : (part f.type ys f.offset).run P w = .ok b w)
    (h : (Op.equalIn d f.type a b).run P w = .ok r w) (ht : (Op.eqFields d xs ys fs).run P w = .ok s w) : (Op.eqFields d xs ys (f :: fs)).run P w = .ok (r && s) w := by
  simp only [Op.eqFields]
  rw [if_pos hn]
  simp only [Sem.run_bind, ha, hb, h, Result.andThen_ok, Sem.run_ite, Sem.run_pure, ht]
  cases r <;> simp
theorem eqf_nil {P : Program} {w : World} {d : Nat} {xs ys : Array Value} : (Op.eqFields d xs ys []).run P w = .ok true w := by simp [Op.eqFields]
theorem run_eqD (a b : Ds) (w : World) : (Op.equalIn 10000 28 (.agg (dcs a)) (.agg (dcs b))).run Try.prog w = .ok (eqD a b) w := by
  rw [run_equalIn_struct w 9999 28 _ _ (by kernel_rfl) (by kernel_rfl)]
  simp only [Program.fieldsOf, Try.underlying28]
  have e : eqD a b = (a.hv == b.hv && (a.hg == b.hg && (a.hs == b.hs && (a.hw == b.hw && (a.he == b.he && (a.hc == b.hc && (eqV a.v b.v && (eqV a.g b.g && (eqV a.s b.s && (a.w == b.w && (a.e == b.e && (a.c == b.c && true)))))))))))) := by simp only [eqD, Bool.and_true]
  rw [e]
  refine eqf_cons (a := .bool a.hv) (b := .bool b.hv) (by decide) (by simp [go_sem, dcs]) (by simp [go_sem, dcs]) (run_equalIn_bool' w 9998 4 a.hv b.hv Try.underlying4) ?_
  refine eqf_cons (a := .bool a.hg) (b := .bool b.hg) (by decide) (by simp [go_sem, dcs]) (by simp [go_sem, dcs]) (run_equalIn_bool' w 9998 4 a.hg b.hg Try.underlying4) ?_
  refine eqf_cons (a := .bool a.hs) (b := .bool b.hs) (by decide) (by simp [go_sem, dcs]) (by simp [go_sem, dcs]) (run_equalIn_bool' w 9998 4 a.hs b.hs Try.underlying4) ?_
  refine eqf_cons (a := .bool a.hw) (b := .bool b.hw) (by decide) (by simp [go_sem, dcs]) (by simp [go_sem, dcs]) (run_equalIn_bool' w 9998 4 a.hw b.hw Try.underlying4) ?_
  refine eqf_cons (a := .bool a.he) (b := .bool b.he) (by decide) (by simp [go_sem, dcs]) (by simp [go_sem, dcs]) (run_equalIn_bool' w 9998 4 a.he b.he Try.underlying4) ?_
  refine eqf_cons (a := .bool a.hc) (b := .bool b.hc) (by decide) (by simp [go_sem, dcs]) (by simp [go_sem, dcs]) (run_equalIn_bool' w 9998 4 a.hc b.hc Try.underlying4) ?_
  refine eqf_cons (a := VV a.v) (b := VV b.v) (by decide) (by simp [go_sem, dcs]) (by simp [go_sem, dcs]) (run_eqV 9997 a.v.k a.v.n b.v.k b.v.n a.v.s b.v.s w) ?_
  refine eqf_cons (a := VV a.g) (b := VV b.g) (by decide) (by simp [go_sem, dcs]) (by simp [go_sem, dcs]) (run_eqV 9997 a.g.k a.g.n b.g.k b.g.n a.g.s b.g.s w) ?_
  refine eqf_cons (a := VV a.s) (b := VV b.s) (by decide) (by simp [go_sem, dcs]) (by simp [go_sem, dcs]) (run_eqV 9997 a.s.k a.s.n b.s.k b.s.n a.s.s b.s.s w) ?_
  refine eqf_cons (a := .bool a.w) (b := .bool b.w) (by decide) (by simp [go_sem, dcs]) (by simp [go_sem, dcs]) (run_equalIn_bool' w 9998 4 a.w b.w Try.underlying4) ?_
  refine eqf_cons (a := .bool a.e) (b := .bool b.e) (by decide) (by simp [go_sem, dcs]) (by simp [go_sem, dcs]) (run_equalIn_bool' w 9998 4 a.e b.e Try.underlying4) ?_
  refine eqf_cons (a := .bool a.c) (b := .bool b.c) (by decide) (by simp [go_sem, dcs]) (by simp [go_sem, dcs]) (run_equalIn_bool' w 9998 4 a.c b.c Try.underlying4) ?_
  exact eqf_nil
end Go.Proofs.Ytlpfdhmifcmhaaa.Des
