/-
  Properties of objects (a key and a descriptor): their shape, a whole one read out of and laid into memory, '==' of one with itself, lists of them.
-/
import Derived.Test.YtifkfidkokdijaaDoorKyIndex
import Derived.Laws.Tables
import Derived.Laws.Rows
import Derived.Laws.Cells
import Derived.Laws.StructEq
import Derived.Laws.OwnMore
import Derived.Great.BuildSlice
import Derived.Maps.AppendAt
import Derived.OwnWalk
import Derived.KernelRfl
import Derived.WalkArith
namespace Go.Proofs.YtifkfidkokdijaaDoor.Arrs
open Go Go.RowKit Go.Maps Go.Proofs.YtifkfidkokdijaaDoor.Nums Go.Proofs.YtifkfidkokdijaaDoor.Keys
set_option linter.unusedVariables false
set_option linter.unusedSimpArgs false

/-- A value's parts; a descriptor's parts. -/
structure Vl where
  k : Int
  n : Int
  s : ByteArray
structure Ds where
  hv : Bool
  hg : Bool
  hs : Bool
  hw : Bool
  he : Bool
  hc : Bool
  v : Vl
  g : Vl
  s : Vl
  w : Bool
  e : Bool
  c : Bool
def dcs (d : Ds) : Array Value := #[.bool d.hv, .bool d.hg, .bool d.hs, .bool d.hw, .bool d.he, .bool d.hc, .int .i64 d.v.k, .int .i64 d.v.n, .string d.v.s, .int .i64 d.g.k, .int .i64 d.g.n, .string d.g.s, .int .i64 d.s.k, .int .i64 d.s.n, .string d.s.s, .bool d.w, .bool d.e, .bool d.c]
abbrev VV (v : Vl) : Value := .agg #[.int .i64 v.k, .int .i64 v.n, .string v.s]
/-- A property. -/
structure En where
  ks : ByteArray
  kn : Int
  d : Ds
def ecs (e : En) : Array Value := #[.string e.ks, .int .i64 e.kn, .bool e.d.hv, .bool e.d.hg, .bool e.d.hs, .bool e.d.hw, .bool e.d.he, .bool e.d.hc, .int .i64 e.d.v.k, .int .i64 e.d.v.n, .string e.d.v.s, .int .i64 e.d.g.k, .int .i64 e.d.g.n, .string e.d.g.s, .int .i64 e.d.s.k, .int .i64 e.d.s.n, .string e.d.s.s, .bool e.d.w, .bool e.d.e, .bool e.d.c]
def zer : Array Value := #[.string ⟨#[]⟩, .int .i64 0, .bool false, .bool false, .bool false, .bool false, .bool false, .bool false, .int .i64 0, .int .i64 0, .string ⟨#[]⟩, .int .i64 0, .int .i64 0, .string ⟨#[]⟩, .int .i64 0, .int .i64 0, .string ⟨#[]⟩, .bool false, .bool false, .bool false]
theorem ecs_0 (e : En) : (ecs e)[0]? = some (.string e.ks) := rfl
theorem ecs_1 (e : En) : (ecs e)[1]? = some (.int .i64 e.kn) := rfl
theorem ecs_10 (e : En) : (ecs e)[10]? = some (.string e.d.v.s) := rfl
theorem ecs_19 (e : En) : (ecs e)[19]? = some (.bool e.d.c) := rfl
theorem ecs_size (e : En) : (ecs e).size = 20 := rfl
theorem zer_size : zer.size = 20 := rfl
theorem zer_cells : (Value.agg zer).cells.size = 20 := rfl
theorem ecs_one (e : En) : (ecs e).all (·.oneCell') = true := by simp [ecs, Value.oneCell']
theorem ecs_list (e : En) : (ecs e).toList.length = 20 := rfl
theorem ecs_one' (e : En) : ∀ u ∈ (ecs e).toList, u.oneCell' = true := fun u hu => by
  have h := ecs_one e
  rw [Array.all_eq_true_iff_forall_mem] at h
  exact h u (by simpa using hu)

/-! ### One read, one laid -/
theorem infoE : (Tryd.prog.info? 39).map (fun i => (i.zero, i.size, i.bytes)) = some (some (.agg zer), 20, 136) := by kernel_rfl
theorem sizeE : (Tryd.prog.info? 39).map (·.size) = some 20 := by kernel_rfl
/-- A whole one lies at an address. -/
def enAt (w : World) (a : Addr) (e : En) : Prop := ∀ j v, (ecs e).toList[j]? = some v → w.cell? (a.add j) = some v
def ldE (v : Value) : Sem Value := Instr.loadAt 39 v
theorem to_ldE (v : Value) : Instr.loadAt 39 v = ldE v := (rfl)
theorem run_ldE {w : World} {a : Addr} {e : En} (h : enAt w a e) : (ldE (.pointer (some a))).run Tryd.prog w = .ok (.agg (ecs e)) w := by
  have hl := run_loadCells_list (P := Tryd.prog) (w := w) a (ecs e).toList h
  rw [ecs_list] at hl
  obtain ⟨i, hi, hz, hs, hb⟩ := info_parts infoE
  have hagg : (isAgg 39).run Tryd.prog w = .ok true w := by
    unfold isAgg
    rw [Sem.run_bind, run_underlying Tryd.underlying39 w]
    rfl
  unfold ldE
  simp [Instr.loadAt, Instr.sureAddr, loadVar, Sem.run_bind, hagg, sizeOf, typeInfo, hi, hs, hl]
/-- A new variable for one. -/
def alE : Sem Value := Instr.alloc 39 true (.tuple #[])
theorem to_alE : Instr.alloc 39 true (.tuple #[]) = alE := (rfl)
theorem run_alE (w : World) : alE.run Tryd.prog w = .ok (.pointer (some ⟨w.heap.size, 0, none⟩)) (w.alloc (.cells zer 39)) := by
  obtain ⟨i, hi, hz, hs, hb⟩ := info_parts infoE
  unfold alE
  simp [Instr.alloc, zeroValue, typeInfo, hi, hz, newVar, newRow, go_sem]
def stE (p v : Value) : Sem Unit := Instr.storeAt 39 p v
theorem to_stE (p v : Value) : Instr.storeAt 39 p v = stE p v := (rfl)
theorem setRow_new (w : World) (c cs : Array Value) (t : TypeId) : (w.alloc (.cells c t)).setRow w.heap.size cs = w.alloc (.cells cs t) := by
  unfold World.setRow World.alloc
  simp only
  congr 1
  apply Array.ext_getElem?
  intro i
  rw [Array.getElem?_modify]
  by_cases h : w.heap.size = i
  · subst h
    simp
  · have h' : ¬ i = w.heap.size := fun e => h e.symm
    simp [h, h', Array.getElem?_push]
theorem run_stE (w : World) (e : En) : (stE (.pointer (some ⟨w.heap.size, 0, none⟩)) (.agg (ecs e))).run Tryd.prog (w.alloc (.cells zer 39)) = .ok () (w.alloc (.cells (ecs e) 39)) := by
  have h := run_storeVar_row (P := Tryd.prog) (w.alloc (.cells zer 39)) w.heap.size 39 39 zer (ecs e) (heap_alloc_new w _) (by rw [ecs_size]; exact sizeE) (by rw [ecs_size]; rfl) (ecs_one e)
  unfold stE
  simp only [Instr.storeAt, Instr.sureAddr, Sem.run_bind, Sem.run_pure, Result.andThen_ok, h, setRow_new]
def bsE (ps : Array (Nat × Value)) : Sem Value := Instr.buildSlice 28 1 ps
theorem to_bsE (ps : Array (Nat × Value)) : Instr.buildSlice 28 1 ps = bsE ps := (rfl)
theorem run_bsE (w : World) (e : En) : (bsE #[(0, .agg (ecs e))]).run Tryd.prog w = .ok (.slice (some ⟨w.heap.size, 0, none⟩) 1 1) (w.alloc (.cells (ecs e) 39)) := by
  obtain ⟨i, hi, hz, hs, hb⟩ := info_parts infoE
  exact run_buildSlice w 28 39 1 _ (ecs e) i (.agg zer) Tryd.underlying28 hi hz (by rw [hs]; decide) (by rw [hs]; decide) (by rw [hs]; have h := Go.Great.fill_whole (s := 20) (by decide) [.agg (ecs e)] ((Array.range (1 * 20)).map ((Value.agg zer).cells[· % (Value.agg zer).cells.size]!)) (fun v hv => by rw [List.mem_singleton.1 hv]; rfl) (by simp); simpa [Value.cells] using h)
theorem enAt_new (w : World) (e : En) (t : TypeId) : enAt (w.alloc (.cells (ecs e) t)) ⟨w.heap.size, 0, none⟩ e := fun j v hv => by
  have ha : (⟨w.heap.size, 0, none⟩ : Addr).add j = ⟨w.heap.size, j, none⟩ := by unfold Addr.add; split <;> simp_all
  rw [ha, cell_of_row (w.alloc (.cells (ecs e) t)) w.heap.size j (ecs e) t (0, 0) (heap_alloc_new w _)]
  simpa using hv
theorem enAt_below {B : Nat} {w w' : World} {a : Addr} {e : En} (h : enAt w a e) (hb : Below B w w') (ha : a.block < B) : enAt w' a e := fun j v hv => by
  have hbl : (a.add j).block = a.block := by unfold Addr.add; split <;> rfl
  rw [hb.cell (p := a.add j) (by rw [hbl]; exact ha)]
  exact h j v hv
theorem enAt_cell {w : World} {b o : Nat} {e : En} (h : enAt w ⟨b, o, none⟩ e) (j : Nat) (v : Value) (hv : (ecs e)[j]? = some v) : w.cell? ⟨b, o + j, none⟩ = some v := by
  have ha : (⟨b, o, none⟩ : Addr).add j = ⟨b, o + j, none⟩ := by unfold Addr.add; split <;> simp_all
  rw [← ha]
  exact h j v (by simpa using hv)

/-- '==' of two values, of two descriptors. -/
def eqV (a b : Vl) : Bool := a.k == b.k && (a.n == b.n && a.s.toList == b.s.toList)
def eqD (a b : Ds) : Bool := a.hv == b.hv && (a.hg == b.hg && (a.hs == b.hs && (a.hw == b.hw && (a.he == b.he && (a.hc == b.hc && (eqV a.v b.v && (eqV a.g b.g && (eqV a.s b.s && (a.w == b.w && (a.e == b.e && a.c == b.c))))))))))
theorem tl_inj {a b : ByteArray} (h : a.toList = b.toList) : a = b := by
  rw [ByteArray.toList_eq, ByteArray.toList_eq] at h
  exact ByteArray.ext (Array.toList_inj.1 h)
theorem eqV_iff {a b : Vl} : eqV a b = true ↔ a = b := by
  obtain ⟨ak, an, az⟩ := a
  obtain ⟨bk, bn, bz⟩ := b
  simp only [eqV, Bool.and_eq_true, beq_iff_eq, Vl.mk.injEq]
  exact ⟨fun ⟨h1, h2, h3⟩ => ⟨h1, h2, tl_inj h3⟩, fun ⟨h1, h2, h3⟩ => ⟨h1, h2, by rw [h3]⟩⟩
theorem eqV_refl (a : Vl) : eqV a a = true := eqV_iff.2 rfl
theorem eqD_refl (a : Ds) : eqD a a = true := by simp [eqD, eqV_refl]
theorem run_eqV (d : Nat) (k n k2 n2 : Int) (s s2 : ByteArray) (w : World) : (Op.equalIn (d + 2) 23 (.agg #[.int .i64 k, .int .i64 n, .string s]) (.agg #[.int .i64 k2, .int .i64 n2, .string s2])).run Tryd.prog w = .ok (eqV ⟨k, n, s⟩ ⟨k2, n2, s2⟩) w := by
  unfold eqV
  by_cases h1 : k = k2
  · by_cases h2 : n = n2
    · by_cases h3 : s.toList = s2.toList
      · simp [go_sem, h1, h2, h3]
      · simp [go_sem, h1, h2, h3]
    · simp [go_sem, h1, h2]
  · simp [go_sem, h1]
theorem eqf_cons {P : Program} {w : World} {d : Nat} {xs ys : Array Value} {f : Field} {fs : List Field} {a b : Value} {r s : Bool} (hn : f.name ≠ "_") (ha : (part f.type xs f.offset).run P w = .ok a w) (hb : (part f.type ys f.offset).run P w = .ok b w)
    (h : (Op.equalIn d f.type a b).run P w = .ok r w) (ht : (Op.eqFields d xs ys fs).run P w = .ok s w) : (Op.eqFields d xs ys (f :: fs)).run P w = .ok (r && s) w := by
  simp only [Op.eqFields]
  rw [if_pos hn]
  simp only [Sem.run_bind, ha, hb, h, Result.andThen_ok, Sem.run_ite, Sem.run_pure, ht]
  cases r <;> simp
theorem eqf_nil {P : Program} {w : World} {d : Nat} {xs ys : Array Value} : (Op.eqFields d xs ys []).run P w = .ok true w := by simp [Op.eqFields]
theorem run_eqD (m : Nat) (a b : Ds) (w : World) : (Op.equalIn (m + 4) 37 (.agg (dcs a)) (.agg (dcs b))).run Tryd.prog w = .ok (eqD a b) w := by
  rw [run_equalIn_struct w (m + 3) 37 _ _ (by kernel_rfl) (by kernel_rfl)]
  simp only [Program.fieldsOf, Tryd.underlying37]
  have e : eqD a b = (a.hv == b.hv && (a.hg == b.hg && (a.hs == b.hs && (a.hw == b.hw && (a.he == b.he && (a.hc == b.hc && (eqV a.v b.v && (eqV a.g b.g && (eqV a.s b.s && (a.w == b.w && (a.e == b.e && (a.c == b.c && true)))))))))))) := by simp only [eqD, Bool.and_true]
  rw [e]
  refine eqf_cons (a := .bool a.hv) (b := .bool b.hv) (by decide) (by simp [go_sem, dcs]) (by simp [go_sem, dcs]) (run_equalIn_bool' w (m + 2) 4 a.hv b.hv Tryd.underlying4) ?_
  refine eqf_cons (a := .bool a.hg) (b := .bool b.hg) (by decide) (by simp [go_sem, dcs]) (by simp [go_sem, dcs]) (run_equalIn_bool' w (m + 2) 4 a.hg b.hg Tryd.underlying4) ?_
  refine eqf_cons (a := .bool a.hs) (b := .bool b.hs) (by decide) (by simp [go_sem, dcs]) (by simp [go_sem, dcs]) (run_equalIn_bool' w (m + 2) 4 a.hs b.hs Tryd.underlying4) ?_
  refine eqf_cons (a := .bool a.hw) (b := .bool b.hw) (by decide) (by simp [go_sem, dcs]) (by simp [go_sem, dcs]) (run_equalIn_bool' w (m + 2) 4 a.hw b.hw Tryd.underlying4) ?_
  refine eqf_cons (a := .bool a.he) (b := .bool b.he) (by decide) (by simp [go_sem, dcs]) (by simp [go_sem, dcs]) (run_equalIn_bool' w (m + 2) 4 a.he b.he Tryd.underlying4) ?_
  refine eqf_cons (a := .bool a.hc) (b := .bool b.hc) (by decide) (by simp [go_sem, dcs]) (by simp [go_sem, dcs]) (run_equalIn_bool' w (m + 2) 4 a.hc b.hc Tryd.underlying4) ?_
  refine eqf_cons (a := VV a.v) (b := VV b.v) (by decide) (by simp [go_sem, dcs]) (by simp [go_sem, dcs]) (run_eqV (m + 1) a.v.k a.v.n b.v.k b.v.n a.v.s b.v.s w) ?_
  refine eqf_cons (a := VV a.g) (b := VV b.g) (by decide) (by simp [go_sem, dcs]) (by simp [go_sem, dcs]) (run_eqV (m + 1) a.g.k a.g.n b.g.k b.g.n a.g.s b.g.s w) ?_
  refine eqf_cons (a := VV a.s) (b := VV b.s) (by decide) (by simp [go_sem, dcs]) (by simp [go_sem, dcs]) (run_eqV (m + 1) a.s.k a.s.n b.s.k b.s.n a.s.s b.s.s w) ?_
  refine eqf_cons (a := .bool a.w) (b := .bool b.w) (by decide) (by simp [go_sem, dcs]) (by simp [go_sem, dcs]) (run_equalIn_bool' w (m + 2) 4 a.w b.w Tryd.underlying4) ?_
  refine eqf_cons (a := .bool a.e) (b := .bool b.e) (by decide) (by simp [go_sem, dcs]) (by simp [go_sem, dcs]) (run_equalIn_bool' w (m + 2) 4 a.e b.e Tryd.underlying4) ?_
  refine eqf_cons (a := .bool a.c) (b := .bool b.c) (by decide) (by simp [go_sem, dcs]) (by simp [go_sem, dcs]) (run_equalIn_bool' w (m + 2) 4 a.c b.c Tryd.underlying4) ?_
  exact eqf_nil
theorem run_eqK (m : Nat) (s : ByteArray) (n : Int) (w : World) : (Op.equalIn (m + 2) 35 (.agg #[.string s, .int .i64 n]) (.agg #[.string s, .int .i64 n])).run Tryd.prog w = .ok true w := by
  simp [go_sem]
theorem run_eqE (e : En) (w : World) : (Op.equalIn 10000 39 (.agg (ecs e)) (.agg (ecs e))).run Tryd.prog w = .ok true w := by
  rw [run_equalIn_struct w 9999 39 _ _ (by kernel_rfl) (by kernel_rfl)]
  simp only [Program.fieldsOf, Tryd.underlying39]
  have e1 : true = (true && (eqD e.d e.d && true)) := by simp [eqD_refl]
  rw [e1]
  refine eqf_cons (a := .agg #[.string e.ks, .int .i64 e.kn]) (b := .agg #[.string e.ks, .int .i64 e.kn]) (by decide) (by simp [go_sem, ecs]) (by simp [go_sem, ecs]) (run_eqK 9997 e.ks e.kn w) ?_
  refine eqf_cons (a := .agg (dcs e.d)) (b := .agg (dcs e.d)) (by decide) (by simp [go_sem, ecs, dcs]) (by simp [go_sem, ecs, dcs]) (run_eqD 9995 e.d e.d w) ?_
  exact eqf_nil

/-! ### Lists -/
def cellsE (l : List En) : List Value := l.flatMap fun e => (ecs e).toList
theorem cellsE_append (a b : List En) : cellsE (a ++ b) = cellsE a ++ cellsE b := by simp [cellsE]
theorem cellsE_one (e : En) : cellsE [e] = (ecs e).toList := by simp [cellsE]
theorem cellsE_length (l : List En) : (cellsE l).length = l.length * 20 := by
  induction l with
  | nil => rfl
  | cons a r ih =>
    have e : cellsE (a :: r) = (ecs a).toList ++ cellsE r := rfl
    rw [e, List.length_append, ecs_list, ih, List.length_cons]
    omega
theorem cellsE_at (l : List En) : ∀ (j : Nat) (e : En), l[j]? = some e → ∀ k v, (ecs e).toList[k]? = some v → (cellsE l)[j * 20 + k]? = some v := by
  induction l with
  | nil => intro j e h; simp at h
  | cons a r ih =>
    intro j e h k v hv
    have e1 : cellsE (a :: r) = (ecs a).toList ++ cellsE r := rfl
    have hk : k < 20 := by have := (List.getElem?_eq_some_iff.1 hv).1; rw [ecs_list] at this; exact this
    cases j with
    | zero =>
      simp only [List.getElem?_cons_zero, Option.some.injEq] at h
      subst h
      rw [e1, List.getElem?_append_left (by rw [ecs_list]; omega), Nat.zero_mul, Nat.zero_add]
      exact hv
    | succ j =>
      rw [e1, List.getElem?_append_right (by rw [ecs_list]; omega), ecs_list, show (j + 1) * 20 + k - 20 = j * 20 + k by omega]
      exact ih j e (by simpa using h) k v hv
/-- A slice's cells hold properties. -/
def EsAt (ao : Option Addr) (es : List En) (w : World) : Prop := ∀ j e, es[j]? = some e → ∃ b off, ao = some ⟨b, off, none⟩ ∧ b < w.heap.size ∧ enAt w ⟨b, off + j * 20, none⟩ e
theorem esAt_own {w : World} {base : Nat} {ao : Option Addr} {cp : Nat} {es : List En} (h : w.ownsRow base 39 20 (.slice ao es.length cp) es.length (cellsE es)) : EsAt ao es w := fun j e he => by
  have hj : j < es.length := (List.getElem?_eq_some_iff.1 he).1
  rcases h.2 with ⟨_, hn⟩ | ⟨g, cap, cur, hv, hb, hg, _⟩
  · omega
  · simp only [Value.slice.injEq] at hv
    obtain ⟨rfl, -, rfl⟩ := hv
    refine ⟨g, 0, rfl, (Array.getElem?_eq_some_iff.1 hg).1, fun k v hv => ?_⟩
    have hk : k < 20 := by have := (List.getElem?_eq_some_iff.1 hv).1; rw [ecs_list] at this; exact this
    have ha : (⟨g, 0 + j * 20, none⟩ : Addr).add k = ⟨g, j * 20 + k, none⟩ := by unfold Addr.add; split <;> simp_all
    rw [ha, h.cellAt _ (by omega)]
    exact cellsE_at es j e he k v hv
theorem EsAt.below {ao : Option Addr} {es : List En} {w w' : World} (h : EsAt ao es w) (hb : Below w.heap.size w w') : EsAt ao es w' := fun j e he => by
  obtain ⟨b, off, ha, hlt, hat⟩ := h j e he
  exact ⟨b, off, ha, Nat.lt_of_lt_of_le hlt hb.size, enAt_below hat hb hlt⟩
theorem esAt_nil (ao : Option Addr) (w : World) : EsAt ao [] w := fun j e he => by simp at he
end Go.Proofs.YtifkfidkokdijaaDoor.Arrs
