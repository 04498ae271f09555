/-
  Plain mathematics of the law KeysPlaces: the keys of numbers in their order.
-/
import Derived.Test.YtfhhpkaojnnobaaDoorKyOw
namespace Go.Proofs.YtfhhpkaojnnobaaDoor.Keys
open Go Go.RowKit Go.Maps Go.Proofs.YtfhhpkaojnnobaaDoor.Nums

theorem kb_size (n : Int) (h0 : -9223372036854775808 ≤ n) (h1 : n ≤ 9223372036854775807) : (kb n).size ≤ 21 := by
  show (Lib.itoa n).toArray.size ≤ 21
  have hl : (Lib.itoa n).length ≤ 21 := by
    rcases itoa_shape (v := n) rfl with ⟨_, e⟩ | ⟨_, e⟩
    · have := dec_len 19 n.natAbs (by omega); rw [e, List.length_cons]; omega
    · have := dec_len 19 n.natAbs (by omega); rw [e]; omega
  simpa using hl
theorem kidx_num {n : Int} (h0 : 0 ≤ n) (h1 : n ≤ 4294967294) : kidx (kb n, 0) = some n := by
  unfold kidx
  rw [if_pos rfl]
  exact idxF_itoa h0 h1
theorem kidx_inj {k k' : KV} {n : Int} (h : kidx k = some n) (h' : kidx k' = some n) : k = k' := by
  obtain ⟨a, b⟩ := kidx_some h
  obtain ⟨a', b'⟩ := kidx_some h'
  have e := (idxF_some b).2.2
  have e' := (idxF_some b').2.2
  refine Prod.ext (ByteArray.ext (Array.toList_inj.1 (e.symm.trans e'))) (a.trans a'.symm)
theorem rise_sorted (l : List Int) : (rise l).Pairwise (fun x y => x ≤ y) := by
  have h := List.pairwise_mergeSort (le := fun x y : Int => decide (x ≤ y)) (fun a b c h1 h2 => by simp only [decide_eq_true_eq] at h1 h2 ⊢; omega) (fun a b => by simp only [Bool.or_eq_true, decide_eq_true_eq]; omega) l
  exact h.imp fun h => by simpa using h
theorem idxs_nodup (l : List KV) (h : l.Nodup) : (idxs l).Nodup := by
  unfold idxs
  unfold List.Nodup
  rw [List.pairwise_filterMap]
  exact h.imp fun {a b} hne n hn m hm e => by subst e; exact hne (kidx_inj hn hm)
theorem rise_strict (l : List KV) (h : l.Nodup) : (rise (idxs l)).Pairwise (fun x y => x < y) := by
  have h1 := rise_sorted (idxs l)
  have h2 : (rise (idxs l)).Nodup := ((List.mergeSort_perm (idxs l) _).nodup_iff).2 (idxs_nodup l h)
  exact (h1.and h2).imp fun ⟨a, b⟩ => by omega
/-- Numbers that are indexes. -/
def InR (l : List Int) : Prop := ∀ n ∈ l, 0 ≤ n ∧ n ≤ 4294967294
theorem num_names {l : List Int} (h : InR l) {m : List KV} (hm : ∀ k ∈ m, k ∈ numK l) : names m = [] ∧ syms m = [] := by
  constructor
  · unfold names
    rw [List.filter_eq_nil_iff]
    intro k hk
    obtain ⟨n, hn, rfl⟩ := List.mem_map.1 (hm k hk)
    have := h n hn
    have e : idxF (kb n).data.toList = some n := idxF_itoa this.1 this.2
    simp [isName, e]
  · unfold syms
    rw [List.filter_eq_nil_iff]
    intro k hk
    obtain ⟨n, hn, rfl⟩ := List.mem_map.1 (hm k hk)
    simp [isSym]
/-- The numbers in their order, each once. -/
def places (l : List Int) : List Int := rise (idxs (once (numK l)))
theorem order_num {l : List Int} (h : InR l) : ordF (numK l) = numK (places l) := by
  obtain ⟨h1, h2⟩ := num_names h (m := once (numK l)) (fun k hk => (once_mem _ _).1 hk)
  rw [ordF_eq, h1, h2]
  simp [places]
theorem places_len (l : List Int) : (places l).length ≤ l.length := by
  unfold places
  rw [rise_length]
  have h1 := idxs_len (once (numK l))
  have h2 := once_length (numK l)
  rw [numK_length] at h2
  omega
theorem places_in (l : List Int) : InR (places l) := rise_bd _
theorem places_next {l : List Int} {j : Nat} {a b : Int} (ha : (places l)[j]? = some a) (hb : (places l)[j + 1]? = some b) : a < b := by
  have h := rise_strict _ (once_nodup (numK l))
  obtain ⟨h1, rfl⟩ := List.getElem?_eq_some_iff.1 ha
  obtain ⟨h2, rfl⟩ := List.getElem?_eq_some_iff.1 hb
  exact List.pairwise_iff_getElem.1 h j (j + 1) h1 h2 (by omega)
theorem fine_num {l : List Int} (h : InR l) : ∀ k ∈ numK l, Fine k := fun k hk => by
  obtain ⟨n, hn, rfl⟩ := List.mem_map.1 hk
  have := h n hn
  exact ⟨by have h : (kb n).size ≤ 21 := kb_size n (by omega) (by omega); show (kb n).size ≤ _; omega, by simp, by simp⟩
theorem InR.snoc {l : List Int} {j : Nat} {n : Int} (h : InR (l.take j)) (hn : l[j]? = some n) (h0 : 0 ≤ n) (h1 : n ≤ 4294967294) : InR (l.take (j + 1)) := fun x hx => by
  rw [List.take_add_one, hn] at hx
  rcases List.mem_append.1 hx with hx | hx
  · exact h x hx
  · simp at hx; subst hx; exact ⟨h0, h1⟩
end Go.Proofs.YtfhhpkaojnnobaaDoor.Keys
