/-
  Properties of objects (a key and a descriptor): their shape, a whole one read out of and laid into memory, lists of them; Big.
-/
import Derived.Test.YtlpfdhmifcmhaaaDeMem
import Derived.Test.YtlpfdhmifcmhaaaRuKey
import Derived.Laws.Cells
import Derived.Great.BuildSlice
import Derived.OwnWalk
namespace Go.Proofs.Ytlpfdhmifcmhaaa.Arrs
open Go Go.RowKit Go.Maps Go.Proofs.Ytlpfdhmifcmhaaa.Keys
open Go.Proofs.Ytlpfdhmifcmhaaa.Des (Vl Ds dcs DV VV)
set_option linter.unusedVariables false
set_option linter.unusedSimpArgs false

/-- A property. -/
structure En where
  ks : ByteArray
  kn : Int
  d : Ds
def ecs (e : En) : Array Value := #[.string e.ks, .int .i64 e.kn, .bool e.d.hv, .bool e.d.hg, .bool e.d.hs, .bool e.d.hw, .bool e.d.he, .bool e.d.hc, .int .i64 e.d.v.k, .int .i64 e.d.v.n, .string e.d.v.s, .int .i64 e.d.g.k, .int .i64 e.d.g.n, .string e.d.g.s, .int .i64 e.d.s.k, .int .i64 e.d.s.n, .string e.d.s.s, .bool e.d.w, .bool e.d.e, .bool e.d.c]
def zer : Array Value := #[.string ⟨#[]⟩, .int .i64 0, .bool false, .bool false, .bool false, .bool false, .bool false, .bool false, .int .i64 0, .int .i64 0, .string ⟨#[]⟩, .int .i64 0, .int .i64 0, .string ⟨#[]⟩, .int .i64 0, .int .i64 0, .string ⟨#[]⟩, .bool false, .bool false, .bool false]
theorem ecs_0 (e : En) : (ecs e)[0]? = some (.string e.ks) := rfl
theorem ecs_1 (e : En) : (ecs e)[1]? = some (.int .i64 e.kn) := rfl
theorem ecs_10 (e : En) : (ecs e)[10]? = some (.string e.d.v.s) := rfl
theorem ecs_19 (e : En) : (ecs e)[19]? = some (.bool e.d.c) := rfl
theorem ecs_size (e : En) : (ecs e).size = 20 := rfl
theorem zer_size : zer.size = 20 := rfl
theorem zer_cells : (Value.agg zer).cells.size = 20 := rfl
theorem ecs_one (e : En) : (ecs e).all (·.oneCell') = true := by simp [ecs, Value.oneCell']
theorem ecs_list (e : En) : (ecs e).toList.length = 20 := rfl
theorem ecs_one' (e : En) : ∀ u ∈ (ecs e).toList, u.oneCell' = true := fun u hu => by
  have h := ecs_one e
  rw [Array.all_eq_true_iff_forall_mem] at h
  exact h u (by simpa using hu)

theorem infoE : (Try.prog.info? 41).map (fun i => (i.zero, i.size, i.bytes)) = some (some (.agg zer), 20, 136) := by kernel_rfl
theorem sizeE : (Try.prog.info? 41).map (·.size) = some 20 := by kernel_rfl
/-- A whole one lies at an address. -/
def enAt (w : World) (a : Addr) (e : En) : Prop := ∀ j v, (ecs e).toList[j]? = some v → w.cell? (a.add j) = some v
def ldE (v : Value) : Sem Value := Instr.loadAt 41 v
theorem to_ldE (v : Value) : Instr.loadAt 41 v = ldE v := (rfl)
theorem run_ldE {w : World} {a : Addr} {e : En} (h : enAt w a e) : (ldE (.pointer (some a))).run Try.prog w = .ok (.agg (ecs e)) w := by
  have hl := run_loadCells_list (P := Try.prog) (w := w) a (ecs e).toList h
  rw [ecs_list] at hl
  obtain ⟨i, hi, hz, hs, hb⟩ := info_parts infoE
  have hagg : (isAgg 41).run Try.prog w = .ok true w := by
    unfold isAgg
    rw [Sem.run_bind, run_underlying Try.underlying41 w]
    rfl
  unfold ldE
  simp [Instr.loadAt, Instr.sureAddr, loadVar, Sem.run_bind, hagg, sizeOf, typeInfo, hi, hs, hl]
/-- A new variable for one. -/
def alE : Sem Value := Instr.alloc 41 true (.tuple #[])
theorem to_alE : Instr.alloc 41 true (.tuple #[]) = alE := (rfl)
theorem run_alE (w : World) : alE.run Try.prog w = .ok (.pointer (some ⟨w.heap.size, 0, none⟩)) (w.alloc (.cells zer 41)) := by
  obtain ⟨i, hi, hz, hs, hb⟩ := info_parts infoE
  unfold alE
  simp [Instr.alloc, zeroValue, typeInfo, hi, hz, newVar, newRow, go_sem]
def stE (p v : Value) : Sem Unit := Instr.storeAt 41 p v
theorem to_stE (p v : Value) : Instr.storeAt 41 p v = stE p v := (rfl)
theorem setRow_new (w : World) (c cs : Array Value) (t : TypeId) : (w.alloc (.cells c t)).setRow w.heap.size cs = w.alloc (.cells cs t) := by
  unfold World.setRow World.alloc
  simp only
  congr 1
  apply Array.ext_getElem?
  intro i
  rw [Array.getElem?_modify]
  by_cases h : w.heap.size = i
  · subst h
    simp
  · have h' : ¬ i = w.heap.size := fun e => h e.symm
    simp [h, h', Array.getElem?_push]
theorem run_stE (w : World) (e : En) : (stE (.pointer (some ⟨w.heap.size, 0, none⟩)) (.agg (ecs e))).run Try.prog (w.alloc (.cells zer 41)) = .ok () (w.alloc (.cells (ecs e) 41)) := by
  have h := run_storeVar_row (P := Try.prog) (w.alloc (.cells zer 41)) w.heap.size 41 41 zer (ecs e) (heap_alloc_new w _) (by rw [ecs_size]; exact sizeE) (by rw [ecs_size]; rfl) (ecs_one e)
  unfold stE
  simp only [Instr.storeAt, Instr.sureAddr, Sem.run_bind, Sem.run_pure, Result.andThen_ok, h, setRow_new]
theorem enAt_new (w : World) (e : En) (t : TypeId) : enAt (w.alloc (.cells (ecs e) t)) ⟨w.heap.size, 0, none⟩ e := fun j v hv => by
  have ha : (⟨w.heap.size, 0, none⟩ : Addr).add j = ⟨w.heap.size, j, none⟩ := by unfold Addr.add; split <;> simp_all
  rw [ha, cell_of_row (w.alloc (.cells (ecs e) t)) w.heap.size j (ecs e) t (0, 0) (heap_alloc_new w _)]
  simpa using hv
theorem enAt_below {B : Nat} {w w' : World} {a : Addr} {e : En} (h : enAt w a e) (hb : Below B w w') (ha : a.block < B) : enAt w' a e := fun j v hv => by
  have hbl : (a.add j).block = a.block := by unfold Addr.add; split <;> rfl
  rw [hb.cell (p := a.add j) (by rw [hbl]; exact ha)]
  exact h j v hv
theorem enAt_cell {w : World} {b o : Nat} {e : En} (h : enAt w ⟨b, o, none⟩ e) (j : Nat) (v : Value) (hv : (ecs e)[j]? = some v) : w.cell? ⟨b, o + j, none⟩ = some v := by
  have ha : (⟨b, o, none⟩ : Addr).add j = ⟨b, o + j, none⟩ := by unfold Addr.add; split <;> simp_all
  rw [← ha]
  exact h j v (by simpa using hv)

/-- A slice's cells hold properties. -/
def EsAt (ao : Option Addr) (es : List En) (w : World) : Prop := ∀ j e, es[j]? = some e → ∃ b off, ao = some ⟨b, off, none⟩ ∧ b < w.heap.size ∧ enAt w ⟨b, off + j * 20, none⟩ e
theorem EsAt.below {ao : Option Addr} {es : List En} {w w' : World} (h : EsAt ao es w) (hb : Below w.heap.size w w') : EsAt ao es w' := fun j e he => by
  obtain ⟨b, off, ha, hlt, hat⟩ := h j e he
  exact ⟨b, off, ha, Nat.lt_of_lt_of_le hlt hb.size, enAt_below hat hb hlt⟩
theorem esAt_nil (ao : Option Addr) (w : World) : EsAt ao [] w := fun j e he => by simp at he
/-- A property's key. -/
def ekey (e : En) : KV := (e.ks, e.kn)
section
attribute [local go_sem ↓] to_ldE to_alE to_stE
attribute [local irreducible] ecs zer
attribute [local go_sem] run_alE run_stE ecs_0 ecs_1 ecs_10 ecs_19
/-- Big: at a list of which it says no there are at most sixty properties. -/
def BigPost (es : List En) (w : World) (x : Ending) (w' : World) : Prop := ∃ b, x = .returned (.bool b) ∧ (b = false → es.length ≤ 60 ∧ ∀ e ∈ es, e.ks.size ≤ 100) ∧ w = w'
theorem small_next {es : List En} {j : Nat} {e : En} (he : es[j]? = some e) (h : ∀ x ∈ es.take j, x.ks.size ≤ 100) (hs : e.ks.size ≤ 100) : ∀ x ∈ es.take (j + 1), x.ks.size ≤ 100 := fun x hx => by
  rw [List.take_add_one, he] at hx
  simp at hx
  rcases hx with hx | rfl
  · exact h x hx
  · exact hs
theorem size_bound (s : ByteArray) : 100 < (s.size : Int) ∨ (s.size : Int) ≤ 100 := by omega
set_option maxRecDepth 100000 in
set_option maxHeartbeats 2000000 in
theorem big_any (ao : Option Addr) (cap : Nat) (es : List En) (w : World) (hlen : (es.length : Int) ≤ 9223372036854775807) (hc : EsAt ao es w) :
    Calls Try.prog 25 #[.slice ao es.length cap] w (BigPost es w) := by
  have HC := Lib.hid hc
  clear hc
  go_enter Try.func25, Try.ntmps25
  go_wp2
  go_loopw [3] (fun i wr => ∃ j : Nat, j ≤ es.length ∧ i = .int .i64 j ∧ wr = w ∧ Hid (∀ e ∈ es.take j, e.ks.size ≤ 100)) (fun i _ => es.length - (intOf i).toNat)
  case atStart => exact ⟨0, Nat.zero_le _, rfl, rfl, Lib.hid (fun e he => by simp at he)⟩
  case round =>
    obtain ⟨j, hj, rfl, rfl, hsm⟩ := hrel
    by_cases hlt : j < es.length
    · obtain ⟨e, he⟩ : ∃ e, es[j]? = some e := ⟨es[j], by simp [hlt]⟩
      have hlt2 : (j : Int) < es.length := by omega
      obtain ⟨b, off, rfl, hb, hat⟩ := HC.out j e he
      have c0 := enAt_cell hat 0 _ (ecs_0 e)
      have c10 := enAt_cell hat 10 _ (ecs_10 e)
      rw [Nat.add_zero] at c0
      have HE := Lib.hid he
      clear he hat hb
      rcases size_bound e.ks with h1 | h1
      · go_wp2
        go_ret
        exact ⟨true, rfl, (fun h => by cases h), rfl⟩
      · rcases size_bound e.d.v.s with h2 | h2
        · go_wp2
          go_ret
          exact ⟨true, rfl, (fun h => by cases h), rfl⟩
        · go_wp2
          go_roundw
          case rel => exact ⟨j + 1, by omega, by go_num, trivial, Lib.hid (small_next HE.out hsm.out (by omega))⟩
          case measure => simp [intOf]; omega
    · obtain rfl : j = es.length := by omega
      clear hlt hj
      by_cases h : (es.length : Int) ≤ 60
      · have h60 : decide (60 < (es.length : Int)) = false := by simp; omega
        go_wp2
        go_ret
        exact ⟨false, rfl, (fun _ => ⟨by omega, by have := hsm.out; rwa [List.take_length] at this⟩), rfl⟩
      · have h' : 60 < (es.length : Int) := by omega
        clear h
        go_wp2
        go_ret
        exact ⟨true, rfl, (fun h => by cases h), rfl⟩

end
end Go.Proofs.Ytlpfdhmifcmhaaa.Arrs
