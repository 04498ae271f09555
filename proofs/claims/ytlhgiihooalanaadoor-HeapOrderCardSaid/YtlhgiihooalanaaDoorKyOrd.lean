/-
  Plain mathematics of the order of keys: what stands where, and why each key stands once.
-/
import Derived.Test.YtlhgiihooalanaaDoorKyMath
import Derived.Test.YtlhgiihooalanaaDoorProg
import Derived.Maps.OwnSet
import Derived.DeepKeys4
import Derived.KernelRfl
import Derived.WalkArith
namespace Go.Proofs.YtlhgiihooalanaaDoor.Keys
open Go Go.RowKit Go.Maps Go.Proofs.YtlhgiihooalanaaDoor.Nums
set_option linter.unusedVariables false

/-- A key: its text and its symbol. -/
abbrev KV := ByteArray × Int
/-- The text of a number. -/
def kb (n : Int) : ByteArray := ⟨(Lib.itoa n).toArray⟩
theorem kb_list (n : Int) : (kb n).data.toList = Lib.itoa n := rfl
/-- Keys as cells. -/
def cellsK (l : List KV) : List Value := l.flatMap fun k => [.string k.1, .int .i64 k.2]
theorem cellsK_nil : cellsK [] = [] := rfl
theorem cellsK_append (a b : List KV) : cellsK (a ++ b) = cellsK a ++ cellsK b := by simp [cellsK]
theorem cellsK_one (k : KV) : cellsK [k] = [.string k.1, .int .i64 k.2] := rfl
theorem cellsK_length (l : List KV) : (cellsK l).length = l.length * 2 := by
  induction l with
  | nil => rfl
  | cons a r ih => simp only [cellsK, List.flatMap_cons, List.length_append, List.length_cons, List.length_nil] at ih ⊢; omega
theorem cellsK_at (l : List KV) : ∀ (j : Nat) (k : KV), l[j]? = some k → (cellsK l)[2 * j]? = some (.string k.1) ∧ (cellsK l)[2 * j + 1]? = some (.int .i64 k.2) := by
  induction l with
  | nil => intro j k h; simp at h
  | cons a r ih =>
    intro j k h
    have e : cellsK (a :: r) = .string a.1 :: .int .i64 a.2 :: cellsK r := rfl
    cases j with
    | zero => simp at h; subst h; exact ⟨rfl, rfl⟩
    | succ j =>
      have := ih j k (by simpa using h)
      rw [e, show 2 * (j + 1) = 2 * j + 1 + 1 by omega]
      exact this

/-- What a key is as an array index. -/
def kidx (k : KV) : Option Int := if k.2 = 0 then idxF k.1.data.toList else none
def isSym (k : KV) : Bool := k.2 != 0
def isName (k : KV) : Bool := k.2 == 0 && (idxF k.1.data.toList).isNone

instance : DecidableEq ByteArray := fun a b => if h : a.data = b.data then .isTrue (ByteArray.ext h) else .isFalse fun e => h (by rw [e])
theorem snoc_ind {α : Type} {P : List α → Prop} (h0 : P []) (h1 : ∀ l a, P l → P (l ++ [a])) (l : List α) : P l := by
  have h : ∀ r : List α, P r.reverse := fun r => by
    induction r with
    | nil => exact h0
    | cons a r ih => rw [List.reverse_cons]; exact h1 _ _ ih
  have := h l.reverse
  rwa [List.reverse_reverse] at this

/-- Is a key on a list? -/
def memb (k : KV) (l : List KV) : Bool := l.any fun x => decide (x = k)
theorem memb_iff (k : KV) (l : List KV) : memb k l = true ↔ k ∈ l := by simp [memb]
theorem memb_no {k : KV} {l : List KV} (h : memb k l = false) : k ∉ l := fun hm => by rw [(memb_iff k l).2 hm] at h; cases h
/-- Each key once, where it first stands. -/
def once (l : List KV) : List KV := l.foldl (fun acc k => if memb k acc = true then acc else acc ++ [k]) []
theorem once_snoc (l : List KV) (k : KV) : once (l ++ [k]) = if memb k (once l) = true then once l else once l ++ [k] := by unfold once; rw [List.foldl_append]; rfl
theorem once_mem (l : List KV) : ∀ k, k ∈ once l ↔ k ∈ l := by
  refine snoc_ind (P := fun l => ∀ k, k ∈ once l ↔ k ∈ l) ?_ ?_ l
  · intro k; simp [once]
  · intro l a ih k
    rw [once_snoc]
    split
    · rename_i h
      rw [ih, List.mem_append]
      constructor
      · exact Or.inl
      · rintro (h' | h')
        · exact h'
        · rw [List.mem_singleton.1 h']; exact (ih a).1 ((memb_iff _ _).1 h)
    · rw [List.mem_append, List.mem_append, ih]
theorem once_nodup (l : List KV) : (once l).Nodup := by
  refine snoc_ind (P := fun l => (once l).Nodup) (by simp [once]) ?_ l
  · intro l a ih
    rw [once_snoc]
    split
    · exact ih
    · rename_i h
      rw [List.nodup_append]
      exact ⟨ih, by simp, fun x hx y hy => by rw [List.mem_singleton.1 hy]; exact fun e => h ((memb_iff _ _).2 (e ▸ hx))⟩
theorem once_length (l : List KV) : (once l).length ≤ l.length := by
  refine snoc_ind (P := fun l => (once l).length ≤ l.length) (by simp [once]) ?_ l
  · intro l a ih
    rw [once_snoc]
    split <;> simp <;> omega

/-! ### The set of keys that were met -/
theorem laidOut : laidOutB Tryd.prog = true := by kernel_rfl
theorem row26 : (35 : TypeId) < Tryd.prog.types.size := of_decide_eq_true (by kernel_rfl)
theorem wide26 : (match Tryd.prog.underlying 35 with | some (.array _ _) | some (.struct _) => true | _ => false) = true := by rw [Tryd.underlying35]
set_option maxRecDepth 100000 in
theorem law26 : Keyed Tryd.prog 35 := Keyed.of_law (deep_law_laid laidOut (m := 2) (by omega) row26 (by kernel_rfl) wide26)
theorem zero36 (w : World) : (zeroValue 77).run Tryd.prog w = .ok (.agg #[]) w := by kernel_rfl
theorem cells26 : Tryd.prog.cellsOf 35 = 2 := by kernel_rfl
theorem cells9 : Tryd.prog.cellsOf 9 = 1 := by kernel_rfl
theorem cells3 : Tryd.prog.cellsOf 3 = 1 := by kernel_rfl
/-- A key as the map reads it. -/
def klit (k : KV) : Lit := .string (keyBytes [.string k.1.data.toList, .int .i64 k.2])
theorem formed26 (a b : Value) : (Value.agg #[a, b]).formed Tryd.prog 35 = true := by simp [Value.formed, Tryd.underlying35, cells26]
theorem keyType26 : Tryd.prog.keyType 35 = true := by kernel_rfl
theorem key_lits (k : KV) (hs : k.1.size ≤ maxLen) (hw : (Lit.int .i64 k.2).wf = true) (d : Nat) : Tryd.prog.keyLits (d + 2) 35 [.string k.1, .int .i64 k.2] = some [.string k.1.data.toList, .int .i64 k.2] := by
  simp [Program.keyLits, Tryd.underlying35, Tryd.underlying9, Tryd.underlying3, cells26, cells9, cells3, hs, hw]
theorem key_of (k : KV) (hs : k.1.size ≤ maxLen) (hw : (Lit.int .i64 k.2).wf = true) : keyOf Tryd.prog 35 (.agg #[.string k.1, .int .i64 k.2]) = some (klit k) := by
  unfold keyOf
  rw [Tryd.underlying35]
  simp only [keyType26, formed26, Bool.and_self, if_true]
  obtain ⟨d, hd⟩ : ∃ d, Tryd.prog.types.size + 1 = d + 2 := ⟨Tryd.prog.types.size - 1, by have h : 35 < Tryd.prog.types.size := row26; omega⟩
  rw [hd]
  have e : (Value.agg #[.string k.1, .int .i64 k.2]).cells.toList = [.string k.1, .int .i64 k.2] := rfl
  rw [e, key_lits k hs hw]
  rfl
/-- A key that a map may hold. -/
def Fine (k : KV) : Prop := k.1.size ≤ 281474976710656 ∧ -9223372036854775808 ≤ k.2 ∧ k.2 ≤ 9223372036854775807
theorem Fine.key {k : KV} (h : Fine k) : keyOf Tryd.prog 35 (.agg #[.string k.1, .int .i64 k.2]) = some (klit k) := by
  obtain ⟨h1, h2, h3⟩ := h
  exact key_of k (by unfold maxLen; omega) (WalkArith.wf_i64 (by omega))
theorem klit_inj {a b : KV} (ha : Fine a) (hb : Fine b) (h : klit a = klit b) : a = b := by
  have e := law26.inj ha.key (h ▸ hb.key)
  simp at e
  exact Prod.ext e.1 e.2
def SetK (l : List KV) : DataW Unit := setOf (.agg []) (l.map klit)
theorem has_set {l : List KV} {k : KV} (hl : ∀ x ∈ l, Fine x) (hk : Fine k) : Maps.has (SetK l) (klit k) = memb k l := by
  unfold SetK
  rw [has_setOf _ _ _ (fun y hy => by obtain ⟨x, hx, rfl⟩ := List.mem_map.1 hy; exact law26.key (hl x hx).key), List.any_map]
  unfold memb
  rw [Bool.eq_iff_iff]
  simp only [List.any_eq_true, Function.comp_apply, decide_eq_true_eq]
  constructor
  · rintro ⟨x, hx, h⟩
    exact ⟨x, hx, klit_inj (hl x hx) hk (WideAt.sameKey_eq h)⟩
  · rintro ⟨x, hx, rfl⟩
    exact ⟨x, hx, WideAt.sameKey_self (law26.key hk.key)⟩
theorem set_snoc (l : List KV) (k : KV) : SetK (l ++ [k]) = (SetK l).put (klit k) (.agg []) := by
  unfold SetK
  rw [List.map_append, List.map_singleton, setOf_snoc]

/-! ### Indexes, names, symbols -/
def ints (l : List Int) : List Value := l.map (Value.int .i64)
def idxs (l : List KV) : List Int := l.filterMap kidx
def names (l : List KV) : List KV := l.filter isName
def syms (l : List KV) : List KV := l.filter isSym
/-- The documented order of keys. -/
def ordF (l : List KV) : List KV := ((idxs (once l)).mergeSort (fun x y => decide (x ≤ y))).map (fun n => (kb n, 0)) ++ names (once l) ++ syms (once l)

theorem kidx_some {k : KV} {n : Int} (h : kidx k = some n) : k.2 = 0 ∧ idxF k.1.data.toList = some n := by
  unfold kidx at h
  split at h
  · exact ⟨by assumption, h⟩
  · cases h
/-- What a key is: an index, a symbol, or a name. -/
inductive Sort3 (k : KV) : Prop
  | idx (n : Int) (h : kidx k = some n)
  | sym (h : (k.2 != 0) = true) (h0 : kidx k = none)
  | name (h : k.2 = 0) (h0 : idxF k.1.data.toList = none)
theorem sort3 (k : KV) : Sort3 k := by
  by_cases h : k.2 = 0
  · cases hi : idxF k.1.data.toList with
    | none => exact .name h hi
    | some n => exact .idx n (by rw [kidx, if_pos h, hi])
  · exact .sym (by simpa using h) (by rw [kidx, if_neg h])
theorem step_idx {k : KV} {n : Int} (h : kidx k = some n) (l : List KV) : idxs (l ++ [k]) = idxs l ++ [n] ∧ names (l ++ [k]) = names l ∧ syms (l ++ [k]) = syms l := by
  obtain ⟨h1, h2⟩ := kidx_some h
  refine ⟨by simp [idxs, List.filterMap_append, h], ?_, ?_⟩
  · simp [names, isName, h2]
  · simp [syms, isSym, h1]
theorem step_sym {k : KV} (h : (k.2 != 0) = true) (h0 : kidx k = none) (l : List KV) : idxs (l ++ [k]) = idxs l ∧ names (l ++ [k]) = names l ∧ syms (l ++ [k]) = syms l ++ [k] := by
  have h' : k.2 ≠ 0 := by simpa using h
  refine ⟨by simp [idxs, List.filterMap_append, h0], ?_, ?_⟩
  · simp [names, isName, h']
  · simp [syms, isSym, h']
theorem step_name {k : KV} (h : k.2 = 0) (h0 : idxF k.1.data.toList = none) (l : List KV) : idxs (l ++ [k]) = idxs l ∧ names (l ++ [k]) = names l ++ [k] ∧ syms (l ++ [k]) = syms l := by
  refine ⟨by simp [idxs, List.filterMap_append, kidx, h, h0], ?_, ?_⟩
  · simp [names, isName, h, h0]
  · simp [syms, isSym, h]
theorem take_snoc {l : List KV} {j : Nat} {k : KV} (h : l[j]? = some k) : l.take (j + 1) = l.take j ++ [k] := by rw [List.take_add_one, h]; rfl
theorem once_old {l : List KV} {j : Nat} {k : KV} (h : l[j]? = some k) (hm : memb k (once (l.take j)) = true) : once (l.take (j + 1)) = once (l.take j) := by rw [take_snoc h, once_snoc, if_pos hm]
theorem once_new {l : List KV} {j : Nat} {k : KV} (h : l[j]? = some k) (hm : memb k (once (l.take j)) = false) : once (l.take (j + 1)) = once (l.take j) ++ [k] := by rw [take_snoc h, once_snoc, if_neg (by rw [hm]; decide)]
theorem once_len {l : List KV} {j : Nat} (h : j ≤ l.length) : (once (l.take j)).length ≤ j := by
  have := once_length (l.take j)
  rw [List.length_take] at this
  omega
theorem idxs_len (l : List KV) : (idxs l).length ≤ l.length := List.length_filterMap_le _ _
theorem names_len (l : List KV) : (names l).length ≤ l.length := List.length_filter_le _ _
theorem syms_len (l : List KV) : (syms l).length ≤ l.length := List.length_filter_le _ _
end Go.Proofs.YtlhgiihooalanaaDoor.Keys
