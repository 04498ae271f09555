/-
  The reference's NewScopes, walked.
-/
import Derived.Test.YtglnihecgjfkiaaScRNew
namespace Go.Proofs.Ytglnihecgjfkiaa.Sc
open Go Go.RowKit Go.Maps
set_option linter.unusedVariables false
set_option linter.unusedSimpArgs false
attribute [local irreducible] vcs pcs

theorem rat_new (w : World) : RAt w.heap.size (fun b => w.heap.size ≤ b ∧ b < w.heap.size + 3) (((w.alloc (.cells #[.int .i64 (-1)] 3)).alloc (.cells #[.slice none 0 0] 59)).alloc (.cells (rhd (.slice (some ⟨w.heap.size, 0, none⟩) 1 1) (.slice (some ⟨w.heap.size + 1, 0, none⟩) 1 1)) 49)) (w.heap.size + 2) [⟨-1, []⟩] (some ⟨w.heap.size, 0, none⟩) 1 (some ⟨w.heap.size + 1, 0, none⟩) 1 (fun _ => .slice none 0 0) := by
  obtain ⟨w1, hw1⟩ : ∃ w1, w.alloc (.cells #[.int .i64 (-1)] 3) = w1 := ⟨_, rfl⟩
  have k1 : w1.heap.size = w.heap.size + 1 := by rw [← hw1]; simp
  have b1 : Blk w1 w.heap.size #[.int .i64 (-1)] 3 := by rw [← hw1]; exact Blk.new w _ _
  rw [hw1]
  obtain ⟨w2, hw2⟩ : ∃ w2, w1.alloc (.cells #[.slice none 0 0] 59) = w2 := ⟨_, rfl⟩
  have k2 : w2.heap.size = w.heap.size + 2 := by rw [← hw2]; simp [k1]
  have b2 : Blk w2 (w.heap.size + 1) #[.slice none 0 0] 59 := by
    have := Blk.new w1 #[.slice none 0 0] 59
    rw [k1] at this
    rw [← hw2]; exact this
  have c2 : Blk w2 w.heap.size #[.int .i64 (-1)] 3 := by rw [← hw2]; exact b1.old _
  rw [hw2]
  have h3 := Blk.new w2 (rhd (.slice (some ⟨w.heap.size, 0, none⟩) 1 1) (.slice (some ⟨w.heap.size + 1, 0, none⟩) 1 1)) 49
  rw [k2] at h3
  have k3 : (w2.alloc (.cells (rhd (.slice (some ⟨w.heap.size, 0, none⟩) 1 1) (.slice (some ⟨w.heap.size + 1, 0, none⟩) 1 1)) 49)).heap.size = w.heap.size + 3 := by simp [k2]
  have p2 : w2.ownsRow w.heap.size 3 1 (.slice (some ⟨w.heap.size, 0, none⟩) 1 1) 1 [.int .i64 (-1)] := ⟨rfl, .inr ⟨w.heap.size, 1, _, rfl, Nat.le_refl _, c2, Nat.le_refl _, by unfold maxLen; omega, rfl, rfl⟩⟩
  have l2 : w2.ownsRow w.heap.size 59 1 (.slice (some ⟨w.heap.size + 1, 0, none⟩) 1 1) 1 [.slice none 0 0] := ⟨rfl, .inr ⟨w.heap.size + 1, 1, _, rfl, by omega, b2, Nat.le_refl _, by unfold maxLen; omega, rfl, rfl⟩⟩
  have one : ∀ (i : Nat) (sc : Sco), [(⟨-1, []⟩ : Sco)][i]? = some sc → i = 0 ∧ sc = ⟨-1, []⟩ := fun i sc h => by
    cases i with
    | zero => simp at h; exact ⟨rfl, h.symm⟩
    | succ i => simp at h
  refine ⟨h3, p2.alloc _, l2.alloc _, fun i sc hi => ?_, fun i sc hi => ?_, fun i j g hi hj hg => ?_, fun b hb => ⟨hb.1, by omega⟩, by omega, ⟨by omega, by omega⟩, fun g hg => ?_, fun g hg => ?_, fun i g hi hg => ?_⟩
  · obtain ⟨rfl, rfl⟩ := one i sc hi
    exact World.ownsRow_nil _ _ _ _
  · obtain ⟨rfl, rfl⟩ := one i sc hi
    exact ⟨Int.le_refl _, by simp⟩
  · simp [Value.ownBlock] at hg
  · simp [Value.ownBlock] at hg; exact ⟨by omega, by omega⟩
  · simp [Value.ownBlock] at hg; exact ⟨by omega, by omega⟩
  · simp [Value.ownBlock] at hg
theorem run_mk (w : World) : (Instr.makeSlice 47 (.int .i64 1) (.int .i64 1)).run Try.prog w = .ok (.slice (some ⟨w.heap.size, 0, none⟩) 1 1) (w.alloc (.cells #[.slice none 0 0] 59)) := by kernel_rfl
attribute [local go_sem] run_mk
theorem rnew_any (w : World) : Calls Try.prog 8 #[] w fun e w' => ∃ rb X, e = .returned (ptr rb) ∧ RIs w.heap.size X w' rb [⟨-1, []⟩] ∧ Below w.heap.size w w' := by
  go_enter Try.func8, Try.ntmps8
  go_wp2
  go_ret
  exact ⟨w.heap.size + 2, _, by simp [ptr], ⟨_, _, _, _, _, rat_new w⟩, ((((Below.refl _ w).alloc (Nat.le_refl _) _).alloc (by simp) _).alloc (by simp; omega) _)⟩
end Go.Proofs.Ytglnihecgjfkiaa.Sc
