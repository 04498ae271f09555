/-
  Plain mathematics: to put each index before the first greater one is to sort.
-/
import Derived.Test.YtlhgiihooalanaaDoorKyOw
namespace Go.Proofs.YtlhgiihooalanaaDoor.Hp
open Go Go.Proofs.YtlhgiihooalanaaDoor.Keys
theorem pw_eq : ∀ (a b : List Int), a.Perm b → a.Pairwise (· ≤ ·) → b.Pairwise (· ≤ ·) → a = b
  | [], b, h, _, _ => by simpa using h.symm
  | x :: a, b, h, h1, h2 => by
    cases b with
    | nil => simp at h
    | cons y b =>
      have hxy : x = y := by
        rw [List.pairwise_cons] at h1 h2
        have m1 : x ∈ y :: b := h.subset (by simp)
        have m2 : y ∈ x :: a := h.symm.subset (by simp)
        rcases List.mem_cons.1 m1 with e | m1
        · exact e
        · rcases List.mem_cons.1 m2 with e | m2
          · exact e.symm
          · have := h1.1 y m2; have := h2.1 x m1; omega
      subst hxy
      rw [pw_eq a b ((List.perm_cons x).1 h) (List.pairwise_cons.1 h1).2 (List.pairwise_cons.1 h2).2]
def insI (n : Int) (l : List Int) : List Int := l.takeWhile (fun m => decide (m ≤ n)) ++ n :: l.dropWhile (fun m => decide (m ≤ n))
theorem insI_perm (n : Int) (l : List Int) : (insI n l).Perm (l ++ [n]) := by
  unfold insI
  have h : (l.takeWhile (fun m => decide (m ≤ n)) ++ l.dropWhile (fun m => decide (m ≤ n)) ++ [n]).Perm (l ++ [n]) := by rw [List.takeWhile_append_dropWhile]
  refine List.Perm.trans ?_ h
  rw [List.append_assoc]
  exact List.Perm.append_left _ (by simpa using (List.perm_append_comm (l₁ := [n]) (l₂ := l.dropWhile (fun m => decide (m ≤ n)))))
theorem insI_cons (n x : Int) (l : List Int) : insI n (x :: l) = if x ≤ n then x :: insI n l else n :: x :: l := by
  unfold insI
  by_cases h : x ≤ n <;> simp [h]
theorem insI_sorted (n : Int) : ∀ (l : List Int), l.Pairwise (· ≤ ·) → (insI n l).Pairwise (· ≤ ·)
  | [], _ => by simp [insI]
  | x :: l, h => by
    have h' := List.pairwise_cons.1 h
    rw [insI_cons]
    by_cases hx : x ≤ n
    · rw [if_pos hx, List.pairwise_cons]
      refine ⟨fun y hy => ?_, insI_sorted n l h'.2⟩
      have := (insI_perm n l).subset hy
      simp at this
      rcases this with hm | rfl
      · exact h'.1 y hm
      · exact hx
    · rw [if_neg hx, List.pairwise_cons]
      refine ⟨fun y hy => ?_, h⟩
      rcases List.mem_cons.1 hy with rfl | hm
      · omega
      · have := h'.1 y hm; omega
theorem rise_sorted (l : List Int) : (rise l).Pairwise (· ≤ ·) := by
  have := List.pairwise_mergeSort (le := fun (x y : Int) => decide (x ≤ y)) (fun a b c h1 h2 => by simp at *; omega) (fun a b => by simp; omega) l
  exact this.imp (fun h => by simpa using h)
theorem insI_rise (n : Int) (l : List Int) : insI n (rise l) = rise (l ++ [n]) :=
  pw_eq _ _ ((insI_perm n _).trans (((List.mergeSort_perm l _).append_right [n]).trans (List.mergeSort_perm (l ++ [n]) _).symm)) (insI_sorted n _ (rise_sorted l)) (rise_sorted _)
theorem rise_snoc (l : List KV) {k : KV} {n : Int} (h : kidx k = some n) : rise (idxs (l ++ [k])) = insI n (rise (idxs l)) := by
  rw [(step_idx h l).1, insI_rise]
theorem key_kb {k : KV} {n : Int} (h : kidx k = some n) : k = (kb n, 0) := by
  obtain ⟨h1, h2⟩ := kidx_some h
  obtain ⟨_, _, h3⟩ := idxF_some h2
  obtain ⟨⟨d⟩, m⟩ := k
  simp only at h1 h3
  subst h1
  unfold kb
  rw [h3]
/-- The keys of indexes in order: the reference's list. -/
theorem nums_snoc (l : List KV) {k : KV} {n : Int} (h : kidx k = some n) : numK (rise (idxs (l ++ [k]))) = numK ((rise (idxs l)).takeWhile (fun m => decide (m ≤ n))) ++ k :: numK ((rise (idxs l)).dropWhile (fun m => decide (m ≤ n))) := by
  rw [rise_snoc l h, key_kb h]
  simp [insI, numK]
end Go.Proofs.YtlhgiihooalanaaDoor.Hp
