/-
  LexLong: long programs and long strings.
-/
import Derived.Test.YtlboaldikgonoaaDoorLxStr
import Derived.Laws.OwnMore
namespace Go.Proofs.YtlboaldikgonoaaDoor.Lx
open Go Go.RowKit Go.Maps Go.Proofs.YtlboaldikgonoaaDoor.Uni
set_option linter.unusedVariables false
set_option linter.unusedSimpArgs false

theorem strOf_bytes (l : List UInt8) : strOfNums (l.map fun b => (b.toNat : Int)) = bs l := by
  unfold strOfNums
  rw [List.map_map]
  have : ((fun n : Int => UInt8.ofNat n.toNat) ∘ fun b : UInt8 => (b.toNat : Int)) = id := by
    funext b
    simp
  rw [this, List.map_id]
  rfl
/-- string(b) of a row of bytes that the call owns. -/
theorem conv_row {w : World} {base n cp : Nat} {ao : Option Addr} {l : List UInt8} (hn : l.length = n) (h : w.ownsRow base 5 1 (.slice ao n cp) n (Lib.byteCells l)) : (convert 25 9 (.slice ao n cp)).run Tryd.prog w = .ok (.string (bs l)) w := by
  subst hn
  cases l with
  | nil =>
    rcases h.2 with ⟨hv, _⟩ | ⟨g, cap, cur, hv, _⟩
    · simp at hv
      rw [hv.1]
      exact run_convert_bytes_nil w 25 5 Tryd.underlying25 Tryd.underlying5 _ _ 9 Tryd.underlying9
    · simp at hv
      rw [hv.1]
      exact run_convert_bytes_arg w 25 5 Tryd.underlying25 Tryd.underlying5 g 0 0 cp [] rfl (fun i hi => by omega) 9 Tryd.underlying9
  | cons a r =>
    obtain ⟨g, rfl, _⟩ := own_at h (k := 0) (u := .int .u8 (a.toNat : Nat)) (by simp [Lib.byteCells])
    have hr := run_convert_bytes_arg w 25 5 Tryd.underlying25 Tryd.underlying5 g 0 (a :: r).length cp ((a :: r).map fun b => (b.toNat : Int)) (by simp) (fun i hi => by
      obtain ⟨g', e, hc⟩ := own_at h (k := i) (u := .int .u8 ((a :: r)[i].toNat : Nat)) (by unfold Lib.byteCells; rw [List.getElem?_map, List.getElem?_eq_getElem hi]; rfl)
      obtain rfl : g = g' := by simpa using e
      rw [Nat.zero_add, hc]
      rw [List.getD_eq_getElem?_getD, List.getElem?_map, List.getElem?_eq_getElem hi]
      simp) 9 Tryd.underlying9
    rw [hr, strOf_bytes]
/-- Tokens of a row of bytes of the call's own. -/
theorem toks_row (l : By) (n cp base : Nat) (ao : Option Addr) (w : World) (hF : Fa w) (h7 : 7 ≤ w.heap.size) (hn : l.length = n) (hm : n ≤ 9223372036854775807) (h : w.ownsRow base 5 1 (.slice ao n cp) n (Lib.byteCells l)) :
    Calls Tryd.prog 12 #[.slice ao n cp] w (TokPost (bs l) w) := by
  have hz : (bs l).size = n := by rw [bs_size, hn]
  have := toks_any ao cp (bs l) w hF h7 (by rw [hz]; exact conv_row hn h) (by omega)
  rwa [hz] at this

/-! ### Rows of bytes -/
theorem set_mid {α : Type} (A : List α) (x y : α) (R : List α) (k : Nat) (h : k = A.length) : (A ++ x :: R).set k y = A ++ y :: R := by
  subst h
  rw [List.set_append_right _ _ (Nat.le_refl _), Nat.sub_self]
  rfl
theorem bc_set (l : By) (k : Nat) (c : UInt8) : (Lib.byteCells l).set k (.int .u8 (c.toNat : Nat)) = Lib.byteCells (l.set k c) := by unfold Lib.byteCells; rw [List.map_set]
def B1 (n k : Nat) : By := List.replicate k 32 ++ List.replicate (n - k) 0
theorem B1_len (n k : Nat) (h : k ≤ n) : (B1 n k).length = n := by simp [B1]; omega
theorem B1_set (n k : Nat) (h : k < n) : (B1 n k).set k 32 = B1 n (k + 1) := by
  unfold B1
  obtain ⟨r, hr⟩ : ∃ r, n - k = r + 1 := ⟨n - k - 1, by omega⟩
  rw [hr, show n - (k + 1) = r by omega, List.replicate_succ, set_mid _ _ _ _ k (by simp), List.replicate_succ']
  simp
theorem B1_zero (n : Nat) : B1 n 0 = List.replicate n 0 := by simp [B1]
theorem B1_full (n : Nat) : B1 n n = List.replicate n 32 := by simp [B1]
def C1 (m j : Nat) : By := 34 :: (List.replicate j 120 ++ (List.replicate (m - j) 32 ++ [34]))
theorem C1_len (m j : Nat) (h : j ≤ m) : (C1 m j).length = m + 2 := by simp [C1]; omega
theorem C1_set (m j : Nat) (h : j < m) : (C1 m j).set (j + 1) 120 = C1 m (j + 1) := by
  unfold C1
  obtain ⟨r, hr⟩ : ∃ r, m - j = r + 1 := ⟨m - j - 1, by omega⟩
  rw [hr, show m - (j + 1) = r by omega, List.replicate_succ, List.cons_append, List.set_cons_succ, set_mid _ _ _ _ j (by simp), List.replicate_succ']
  simp
theorem C1_start (m : Nat) : ((List.replicate (m + 2) (32 : UInt8)).set 0 34).set (m + 1) 34 = C1 m 0 := by
  unfold C1
  rw [List.replicate_succ, List.set_cons_zero, List.set_cons_succ, List.replicate_succ', set_mid _ _ _ _ m (by simp)]
  simp
def qx (m : Nat) : By := 34 :: (List.replicate m 120 ++ [34])
theorem C1_full (m : Nat) : C1 m m = qx m := by simp [C1, qx]

/-! ### What the lexer gives -/
theorem sk_spaces (n : Nat) : Sk (List.replicate n 32) true [] := by
  induction n with
  | zero => exact .stop [] trivial
  | succ n ih => rw [List.replicate_succ]; exact .white 32 _ _ _ (by decide) ih
theorem lex_spaces (n : Nat) : lexT (bs (List.replicate n 32)) = if 65536 < n then (3, 0, []) else (0, 0, [⟨0, n, 0, ⟨#[]⟩⟩]) := by
  have hz : (bs (List.replicate n (32 : UInt8))).size = n := by rw [bs_size, List.length_replicate]
  have hl : (bs (List.replicate n (32 : UInt8))).data.toList = List.replicate n 32 := bs_list _
  unfold lexT
  rw [hz]
  by_cases h : 65536 < n
  · rw [if_pos h, if_pos h]
  · rw [if_neg h, if_neg h, bad_ascii (fun c hc => by rw [hl] at hc; rw [List.eq_of_mem_replicate hc]; decide)]
    simp only
    rw [hl, lex_succ]
    have e : nextF (List.replicate n 32) = .ok ⟨0, 0, ⟨#[]⟩⟩ [] := by
      unfold nextF
      rw [sk_skipL (sk_spaces n)]
      rfl
    rw [e]
    simp only [if_true]
    rw [sk_skipL (sk_spaces n)]
    simp [tokOf]
theorem text_x (m : Nat) : (text (List.replicate m 120)).length = m := by
  have hp : ∀ u ∈ List.replicate m 120, Vals.plainB u = true := fun u hu => by rw [List.eq_of_mem_replicate hu]; decide
  have h1 : uns (List.replicate m 120) = List.replicate m 120 := by
    induction m with
    | zero => rfl
    | succ m ih =>
      have e : uns (120 :: List.replicate m 120) = un 120 ++ uns (List.replicate m 120) := by simp [uns]
      rw [List.replicate_succ, e, ih (fun u hu => hp u (by rw [List.replicate_succ]; exact List.mem_cons_of_mem _ hu))]
      rfl
  have h2 := cps_uns (List.replicate m 120) (fun c hc => by rw [List.eq_of_mem_replicate hc]; decide) (np_plain false _ hp)
  rw [h1] at h2
  unfold text
  rw [h2, encs_plain _ hp, List.length_map, List.length_replicate]
theorem one_qx (m : Nat) : oneF (qx m) = if 10000 < m then .bad (qx m) else .ok ⟨4, 0, ⟨(text (List.replicate m 120)).toArray⟩⟩ [] := by
  unfold qx
  rw [one_quot (by decide) (by decide) (.inl rfl), show (34 : UInt8).toNat = 34 from rfl, quot_succ]
  have hm : (List.replicate m (120 : UInt8)) = (List.replicate m 120).map Nat.toUInt8 := by simp
  have hp : ∀ u ∈ List.replicate m 120, Vals.plainB u = true := fun u hu => by rw [List.eq_of_mem_replicate hu]; decide
  have hrun : lead (runN 34) (List.replicate m 120 ++ [34]) = List.replicate m 120 := lead_app _ _ _ (fun c hc => by rw [List.eq_of_mem_replicate hc]; decide) (.inr ⟨34, [], rfl, by decide⟩)
  rw [hrun, List.drop_left]
  simp only
  rw [if_neg (by decide), if_neg (by decide), hm, units_plain _ hp, List.nil_append, List.length_replicate]
theorem lex_qx (m : Nat) (hz : m + 2 ≤ 65536) : lexT (bs (qx m)) = if 10000 < m then (2, 0, []) else (0, 0, [⟨4, 0, 0, ⟨(text (List.replicate m 120)).toArray⟩⟩, ⟨0, ((m + 2 : Nat) : Int), 0, ⟨#[]⟩⟩]) := by
  have hl : (bs (qx m)).data.toList = qx m := bs_list _
  have hsz : (bs (qx m)).size = m + 2 := by rw [bs_size]; simp [qx]
  have hb : badS (bs (qx m)) = none := bad_ascii (fun c hc => by
    rw [hl] at hc
    unfold qx at hc
    simp only [List.mem_cons, List.mem_append, List.not_mem_nil, or_false] at hc
    rcases hc with rfl | hc | rfl
    · decide
    · rw [List.eq_of_mem_replicate hc]; decide
    · decide)
  have hst : Stop (qx m) := ⟨by decide, fun h => by cases h.1⟩
  by_cases h : 10000 < m
  · rw [if_pos h]
    exact lexT_bad (by omega) hb (by rw [hl]; exact hst) (by rw [hl, one_qx, if_pos h])
  · rw [if_neg h]
    have := lexT_one (s := bs (qx m)) (t := ⟨4, 0, ⟨(text (List.replicate m 120)).toArray⟩⟩) (by omega) (by omega) hb (by rw [hl]; exact hst) (by rw [hl, one_qx, if_neg h]) (by simp)
    rw [hsz] at this
    exact this
theorem lexT_huge {s : ByteArray} (h : 65536 < s.size) : lexT s = (3, 0, []) := by unfold lexT; rw [if_pos h]
end Go.Proofs.YtlboaldikgonoaaDoor.Lx
