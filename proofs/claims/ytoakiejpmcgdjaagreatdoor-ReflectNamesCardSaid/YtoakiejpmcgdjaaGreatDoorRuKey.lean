/-
  Keys: lists of them in memory, sets of them, '==' of two; plain mathematics of lists without repeats.
-/
import Derived.Test.YtoakiejpmcgdjaaGreatDoorProg
import Derived.Maps.OwnSet
import Derived.DeepKeys4
import Derived.KernelRfl
import Derived.WalkArith
import Derived.WalkKit
import Derived.Below
import Derived.Maps.AppendAt
import Derived.Laws.AppendOwnNone
import Derived.Laws.OwnMore
import Derived.Laws.StructEq
namespace Go.Proofs.YtoakiejpmcgdjaaGreatDoor.Keys
open Go Go.RowKit Go.Maps
set_option linter.unusedVariables false
set_option linter.unusedSimpArgs false

/-- A key: its text and its symbol. -/
abbrev KV := ByteArray × Int
/-- Keys as cells. -/
def cellsK (l : List KV) : List Value := l.flatMap fun k => [.string k.1, .int .i64 k.2]
theorem cellsK_nil : cellsK [] = [] := rfl
theorem cellsK_append (a b : List KV) : cellsK (a ++ b) = cellsK a ++ cellsK b := by simp [cellsK]
theorem cellsK_one (k : KV) : cellsK [k] = [.string k.1, .int .i64 k.2] := rfl
theorem cellsK_length (l : List KV) : (cellsK l).length = l.length * 2 := by
  induction l with
  | nil => rfl
  | cons a r ih => simp only [cellsK, List.flatMap_cons, List.length_append, List.length_cons, List.length_nil] at ih ⊢; omega
theorem cellsK_at (l : List KV) : ∀ (j : Nat) (k : KV), l[j]? = some k → (cellsK l)[2 * j]? = some (.string k.1) ∧ (cellsK l)[2 * j + 1]? = some (.int .i64 k.2) := by
  induction l with
  | nil => intro j k h; simp at h
  | cons a r ih =>
    intro j k h
    have e : cellsK (a :: r) = .string a.1 :: .int .i64 a.2 :: cellsK r := rfl
    cases j with
    | zero => simp at h; subst h; exact ⟨rfl, rfl⟩
    | succ j =>
      have := ih j k (by simpa using h)
      rw [e, show 2 * (j + 1) = 2 * j + 1 + 1 by omega]
      exact this

theorem snoc_ind {α : Type} {P : List α → Prop} (h0 : P []) (h1 : ∀ l a, P l → P (l ++ [a])) (l : List α) : P l := by
  have h : ∀ r : List α, P r.reverse := fun r => by
    induction r with
    | nil => exact h0
    | cons a r ih => rw [List.reverse_cons]; exact h1 _ _ ih
  have := h l.reverse
  rwa [List.reverse_reverse] at this

instance : DecidableEq ByteArray := fun a b => if h : a.data = b.data then .isTrue (ByteArray.ext h) else .isFalse fun e => h (by rw [e])
/-- Is a key on a list? -/
def memb (k : KV) (l : List KV) : Bool := l.any fun x => decide (x = k)
theorem memb_iff (k : KV) (l : List KV) : memb k l = true ↔ k ∈ l := by simp [memb]
theorem memb_no {k : KV} {l : List KV} (h : memb k l = false) : k ∉ l := fun hm => by rw [(memb_iff k l).2 hm] at h; cases h
/-- Each key once, where it first stands. -/
def once (l : List KV) : List KV := l.foldl (fun acc k => if memb k acc = true then acc else acc ++ [k]) []
theorem once_snoc (l : List KV) (k : KV) : once (l ++ [k]) = if memb k (once l) = true then once l else once l ++ [k] := by unfold once; rw [List.foldl_append]; rfl
theorem once_mem (l : List KV) : ∀ k, k ∈ once l ↔ k ∈ l := by
  refine snoc_ind (P := fun l => ∀ k, k ∈ once l ↔ k ∈ l) ?_ ?_ l
  · intro k; simp [once]
  · intro l a ih k
    rw [once_snoc]
    split
    · rename_i h
      rw [ih, List.mem_append]
      constructor
      · exact Or.inl
      · rintro (h' | h')
        · exact h'
        · rw [List.mem_singleton.1 h']; exact (ih a).1 ((memb_iff _ _).1 h)
    · rw [List.mem_append, List.mem_append, ih]
theorem once_nodup (l : List KV) : (once l).Nodup := by
  refine snoc_ind (P := fun l => (once l).Nodup) (by simp [once]) ?_ l
  · intro l a ih
    rw [once_snoc]
    split
    · exact ih
    · rename_i h
      rw [List.nodup_append]
      exact ⟨ih, by simp, fun x hx y hy => by rw [List.mem_singleton.1 hy]; exact fun e => h ((memb_iff _ _).2 (e ▸ hx))⟩
theorem once_length (l : List KV) : (once l).length ≤ l.length := by
  refine snoc_ind (P := fun l => (once l).length ≤ l.length) (by simp [once]) ?_ l
  · intro l a ih
    rw [once_snoc]
    split <;> simp <;> omega

/-! ### The set of keys that were met -/
theorem laidOut : laidOutB Tryz.prog = true := by kernel_rfl
theorem row26 : (69 : TypeId) < Tryz.prog.types.size := of_decide_eq_true (by kernel_rfl)
theorem wide26 : (match Tryz.prog.underlying 69 with | some (.array _ _) | some (.struct _) => true | _ => false) = true := by rw [Tryz.underlying69]
set_option maxRecDepth 100000 in
theorem law26 : Keyed Tryz.prog 69 := Keyed.of_law (deep_law_laid laidOut (m := 2) (by omega) row26 (by kernel_rfl) wide26)
theorem cells26 : Tryz.prog.cellsOf 69 = 2 := by kernel_rfl
theorem cells9 : Tryz.prog.cellsOf 9 = 1 := by kernel_rfl
theorem cells3 : Tryz.prog.cellsOf 3 = 1 := by kernel_rfl
/-- A key as the map reads it. -/
def klit (k : KV) : Lit := .string (keyBytes [.string k.1.data.toList, .int .i64 k.2])
theorem formed26 (a b : Value) : (Value.agg #[a, b]).formed Tryz.prog 69 = true := by simp [Value.formed, Tryz.underlying69, cells26]
theorem keyType26 : Tryz.prog.keyType 69 = true := by kernel_rfl
theorem key_lits (k : KV) (hs : k.1.size ≤ maxLen) (hw : (Lit.int .i64 k.2).wf = true) (d : Nat) : Tryz.prog.keyLits (d + 2) 69 [.string k.1, .int .i64 k.2] = some [.string k.1.data.toList, .int .i64 k.2] := by
  simp [Program.keyLits, Tryz.underlying69, Tryz.underlying9, Tryz.underlying3, cells26, cells9, cells3, hs, hw]
theorem key_of (k : KV) (hs : k.1.size ≤ maxLen) (hw : (Lit.int .i64 k.2).wf = true) : keyOf Tryz.prog 69 (.agg #[.string k.1, .int .i64 k.2]) = some (klit k) := by
  unfold keyOf
  rw [Tryz.underlying69]
  simp only [keyType26, formed26, Bool.and_self, if_true]
  obtain ⟨d, hd⟩ : ∃ d, Tryz.prog.types.size + 1 = d + 2 := ⟨Tryz.prog.types.size - 1, by have h : 69 < Tryz.prog.types.size := row26; omega⟩
  rw [hd]
  have e : (Value.agg #[.string k.1, .int .i64 k.2]).cells.toList = [.string k.1, .int .i64 k.2] := rfl
  rw [e, key_lits k hs hw]
  rfl
/-- A key that a map may hold. -/
def Fine (k : KV) : Prop := k.1.size ≤ 281474976710656 ∧ -9223372036854775808 ≤ k.2 ∧ k.2 ≤ 9223372036854775807
theorem Fine.key {k : KV} (h : Fine k) : keyOf Tryz.prog 69 (.agg #[.string k.1, .int .i64 k.2]) = some (klit k) := by
  obtain ⟨h1, h2, h3⟩ := h
  exact key_of k (by unfold maxLen; omega) (WalkArith.wf_i64 (by omega))
theorem klit_inj {a b : KV} (ha : Fine a) (hb : Fine b) (h : klit a = klit b) : a = b := by
  have e := law26.inj ha.key (h ▸ hb.key)
  simp at e
  exact Prod.ext e.1 e.2
def SetK (l : List KV) : DataW Unit := setOf (.agg []) (l.map klit)
theorem has_set {l : List KV} {k : KV} (hl : ∀ x ∈ l, Fine x) (hk : Fine k) : Maps.has (SetK l) (klit k) = memb k l := by
  unfold SetK
  rw [has_setOf _ _ _ (fun y hy => by obtain ⟨x, hx, rfl⟩ := List.mem_map.1 hy; exact law26.key (hl x hx).key), List.any_map]
  unfold memb
  rw [Bool.eq_iff_iff]
  simp only [List.any_eq_true, Function.comp_apply, decide_eq_true_eq]
  constructor
  · rintro ⟨x, hx, h⟩
    exact ⟨x, hx, klit_inj (hl x hx) hk (WideAt.sameKey_eq h)⟩
  · rintro ⟨x, hx, rfl⟩
    exact ⟨x, hx, WideAt.sameKey_self (law26.key hk.key)⟩
theorem set_snoc (l : List KV) (k : KV) : SetK (l ++ [k]) = (SetK l).put (klit k) (.agg []) := by
  unfold SetK
  rw [List.map_append, List.map_singleton, setOf_snoc]

theorem take_snoc {l : List KV} {j : Nat} {k : KV} (h : l[j]? = some k) : l.take (j + 1) = l.take j ++ [k] := by rw [List.take_add_one, h]; rfl
theorem make_map {P : Program} {t k e : TypeId} (h : P.underlying t = some (.map k e)) (kk : IntKind) (n : Int) (w : World) : (Instr.makeMap t (some (.int kk n))).run P w = .ok (.map (some w.heap.size)) (w.alloc (.map #[] 0)) := by
  simp [Instr.makeMap, run_underlying h, asInt, asIntOf, Result.andThen]
theorem grown_of_below {w w' : World} (hb : Below w.heap.size w w') : w.grownBy w' none := ⟨hb.os, hb.tape, hb.output, hb.size, fun k hk _ => hb.block k hk⟩
theorem two_new (w : World) (a b : Value) (t : TypeId) : ∀ j u, [a, b][j]? = some u → (w.alloc (.cells #[a, b] t)).cell? ((⟨w.heap.size, 0, none⟩ : Addr).add j) = some u := by
  intro j u hj
  match j, hj with
  | 0, hj => simp at hj; subst hj; simp [Addr.add]
  | 1, hj => simp at hj; subst hj; simp [Addr.add]
theorem two_cells (s : ByteArray) (a : Int) : ∀ u ∈ [Value.string s, Value.int .i64 a], u.oneCell' = true := by
  intro u hu
  simp at hu
  rcases hu with rfl | rfl <;> rfl
theorem size_alloc_le {w : World} {B : Nat} (o : Obj) (h : B ≤ w.heap.size) : B ≤ (w.alloc o).heap.size := by simp; omega
theorem info26 : (Tryz.prog.info? 69).map (fun i => (i.zero, i.size, i.bytes)) = some (some (.agg #[.string ⟨#[]⟩, .int .i64 0]), 2, 24) := by kernel_rfl
/-- A slice's cells hold keys. -/
def KeysAt (ao : Option Addr) (ks : List KV) (w : World) : Prop := ∀ j k, ks[j]? = some k → ∃ b off, ao = some ⟨b, off, none⟩ ∧ b < w.heap.size ∧ w.cell? ⟨b, off + j * 2, none⟩ = some (.string k.1) ∧ w.cell? ⟨b, off + j * 2 + 1, none⟩ = some (.int .i64 k.2)
theorem keysAt_own {w : World} {base : Nat} {ao : Option Addr} {cp : Nat} {ks : List KV} (h : w.ownsRow base 69 2 (.slice ao ks.length cp) ks.length (cellsK ks)) : KeysAt ao ks w := fun j k hk => by
  have hj : j < ks.length := (List.getElem?_eq_some_iff.1 hk).1
  rcases h.2 with ⟨_, hn⟩ | ⟨g, cap, cur, hv, hb, hg, _⟩
  · omega
  · simp only [Value.slice.injEq] at hv
    obtain ⟨rfl, -, rfl⟩ := hv
    obtain ⟨e0, e1⟩ := cellsK_at ks j k hk
    exact ⟨g, 0, rfl, (Array.getElem?_eq_some_iff.1 hg).1, by rw [h.cellAt _ (by omega), ← e0]; congr 1; omega, by rw [h.cellAt _ (by omega), ← e1]; congr 1; omega⟩
theorem KeysAt.below {ao : Option Addr} {ks : List KV} {w w' : World} (h : KeysAt ao ks w) (hb : Below w.heap.size w w') : KeysAt ao ks w' := fun j k hk => by
  obtain ⟨b, off, ha, hlt, h0, h1⟩ := h j k hk
  exact ⟨b, off, ha, Nat.lt_of_lt_of_le hlt hb.size, by rw [hb.cell (p := ⟨b, _, none⟩) hlt, h0], by rw [hb.cell (p := ⟨b, _, none⟩) hlt, h1]⟩
theorem keysAt_nil (ao : Option Addr) (w : World) : KeysAt ao [] w := fun j e he => by simp at he
theorem tl_inj {a b : ByteArray} (h : a.toList = b.toList) : a = b := by
  rw [ByteArray.toList_eq, ByteArray.toList_eq] at h
  exact ByteArray.ext (Array.toList_inj.1 h)
/-- '==' of two keys. -/
def eqK (a : ByteArray) (n : Int) (b : ByteArray) (m : Int) : Bool := a.toList == b.toList && n == m
theorem eqK_iff {a b : KV} : eqK a.1 a.2 b.1 b.2 = true ↔ a = b := by
  obtain ⟨a, n⟩ := a
  obtain ⟨b, m⟩ := b
  simp only [eqK, Bool.and_eq_true, beq_iff_eq, Prod.mk.injEq]
  exact ⟨fun ⟨h1, h2⟩ => ⟨tl_inj h1, h2⟩, fun ⟨h1, h2⟩ => ⟨by rw [h1], h2⟩⟩
theorem run_eqK (a b : ByteArray) (n m : Int) (w : World) : (Op.equalIn 10000 69 (.agg #[.string a, .int .i64 n]) (.agg #[.string b, .int .i64 m])).run Tryz.prog w = .ok (eqK a n b m) w := by
  unfold eqK
  by_cases h1 : a.toList = b.toList
  · by_cases h2 : n = m
    · simp [go_sem, h1, h2]
    · simp [go_sem, h1, h2]
  · simp [go_sem, h1]
/-- How many different ones a set holds. -/
theorem size_set {l : List KV} (hl : ∀ x ∈ l, Fine x) : Maps.size (SetK l) = (once l).length := by
  revert hl
  refine snoc_ind (P := fun l => (∀ x ∈ l, Fine x) → Maps.size (SetK l) = (once l).length) (fun _ => rfl) ?_ l
  intro l a ih hl
  have hl' : ∀ x ∈ l, Fine x := fun x hx => hl x (by simp [hx])
  have ha := hl a (by simp)
  have ht : Tidy (SetK l) := tidy_setOf _ _ (fun y hy => by obtain ⟨x, hx, rfl⟩ := List.mem_map.1 hy; exact law26.key (hl' x hx).key)
  have hm : memb a l = memb a (once l) := by
    rw [Bool.eq_iff_iff, memb_iff, memb_iff, once_mem]
  rw [set_snoc, size_put ht, has_set hl' ha, once_snoc, ih hl', hm]
  split <;> simp
/-- A list no longer than another one that holds it has the same elements. -/
theorem full {α : Type} [DecidableEq α] : ∀ (a b : List α), a.Nodup → b.Nodup → (∀ x ∈ a, x ∈ b) → b.length ≤ a.length → ∀ x ∈ b, x ∈ a
  | [], b, _, _, _, hl, x, hx => by
    have : b = [] := List.length_eq_zero_iff.1 (by simpa using hl)
    rw [this] at hx
    cases hx
  | y :: a, b, ha, hb, hs, hl, x, hx => by
    by_cases hxy : x = y
    · rw [hxy]; exact List.mem_cons_self
    · have hy : y ∈ b := hs y List.mem_cons_self
      obtain ⟨ha1, ha2⟩ := List.nodup_cons.1 ha
      have hle : (b.erase y).length ≤ a.length := by
        rw [List.length_erase_of_mem hy]
        simp at hl
        omega
      have := full a (b.erase y) ha2 (hb.erase y) (fun z hz => (hb.mem_erase_iff).2 ⟨fun e => ha1 (e ▸ hz), hs z (List.mem_cons_of_mem _ hz)⟩) hle x ((hb.mem_erase_iff).2 ⟨hxy, hx⟩)
      exact List.mem_cons_of_mem _ this
theorem once_self {l : List KV} (h : l.Nodup) : once l = l := by
  revert h
  refine snoc_ind (P := fun l => l.Nodup → once l = l) (fun _ => rfl) ?_ l
  intro l a ih h
  rw [List.nodup_append] at h
  obtain ⟨h1, _, h2⟩ := h
  rw [once_snoc, ih h1, if_neg]
  intro hm
  exact h2 a ((memb_iff _ _).1 hm) a (by simp) rfl
end Go.Proofs.YtoakiejpmcgdjaaGreatDoor.Keys
