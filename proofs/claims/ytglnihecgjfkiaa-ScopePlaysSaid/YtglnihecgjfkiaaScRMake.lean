/-
  The reference's Let walked.
-/
import Derived.Test.YtglnihecgjfkiaaScRLet
namespace Go.Proofs.Ytglnihecgjfkiaa.Sc
open Go Go.RowKit Go.Maps
set_option linter.unusedVariables false
set_option linter.unusedSimpArgs false
attribute [local go_sem ↓] bdR
attribute [local irreducible] vcs pcs
attribute [local go_sem] run_bdR
section
variable {base : Nat} {X : Nat → Prop} {w w' : World} {rb : Nat} {S : List Sco} {ap : Option Addr} {cp : Nat} {al : Option Addr} {cl : Nat} {hv : Nat → Value}
set_option maxRecDepth 100000 in
set_option maxHeartbeats 4000000 in
theorem rlet_any (h : RAt base X w rb S ap cp al cl hv) (env : Int) (s : ByteArray) (fx : Bool) (hl : ∀ (i : Nat) (sc : Sco), S[i]? = some sc → sc.vs.length ≤ 1000) :
    Calls Try.prog 12 #[ptr rb, .int .i64 env, .string s, .bool fx] w (EndsR base X rb w (.bool (letF S env s fx).1) (letF S env s fx).2) := by
  have hth := there_any h env
  rcases cases_env S env with ht | ⟨i, sc, rfl, hi⟩
  · have e0 : there S env = false := by simpa using ht
    have e1 : letF S env s fx = (false, S) := by simp [letF, ht]
    rw [e1]
    rw [e0] at hth
    have HE := Lib.hid (h.ends (r := .bool false) (Below.refl _ w))
    clear h ht e1 e0 hl
    go_enter Try.func12, Try.ntmps12
    go_wp2_with (go_at_call 21; refine hth.mono ?_; rintro e w2 ⟨rfl, hw2⟩; subst w2)
    go_ret
    exact HE.out
  · rw [there_nat (at_lt hi)] at hth
    have hat := at_any h hi s (hl i sc hi)
    cases hf : findV sc.vs s with
    | some j =>
      have e1 : letF S i s fx = (false, S) := by simp [letF, there_nat (at_lt hi), hi, hf]
      rw [e1]
      rw [hf] at hat
      have e3 : plc 0 (some j) = (j : Int) := by simp [plc]
      rw [e3] at hat
      have HE := Lib.hid (h.ends (r := .bool false) (Below.refl _ w))
      clear h e1 hf hi hl e3
      go_enter Try.func12, Try.ntmps12
      go_wp2_with (first | (go_at_call 21; refine hth.mono ?_; rintro e w2 ⟨rfl, hw2⟩; subst w2) | (go_at_call 22; refine hat.mono ?_; rintro e w2 ⟨rfl, hw2⟩; subst w2))
      go_ret
      exact HE.out
    | none =>
      have e1 : letF S i s fx = (true, setVs S i (sc.vs ++ [⟨s, fx, false, zeroV⟩])) := by simp [letF, there_nat (at_lt hi), hi, hf]
      rw [e1]
      rw [hf] at hat
      have e3 : plc 0 none = -1 := rfl
      rw [e3] at hat
      have c1 : w.cell? ⟨rb, 1, none⟩ = some (.slice al S.length cl) := h.head.cell 1
      obtain ⟨gl, hal, c2⟩ := h.list hi
      have happ := rlet_app h hi hal (hl i sc hi) s fx (W := w.drew) rfl (Fr.refl w).drew
      obtain ⟨g', c', W4, hrun, d1, d2, d3, hend⟩ := happ
      obtain ⟨X', k1, k2⟩ := hend
      have HE : Hid (EndsR base X rb w (.bool true) (setVs S i (sc.vs ++ [⟨s, fx, false, zeroV⟩])) (.returned (.bool true)) (W4.setCell ⟨gl, i, none⟩ (.slice (some ⟨g', 0, none⟩) (sc.vs.length + 1) c'))) := Lib.hid ⟨rfl, X', k1, k2⟩
      have glt : gl < w.heap.size := (h.low gl (h.xl gl (by rw [hal]; rfl))).2
      have rlt := h.head.lt
      have hc1 : w.cell? ⟨rb, 1, none⟩ = some (.slice (some ⟨gl, 0, none⟩) S.length cl) := by rw [c1, hal]
      have a1 : (w.alloc (.cells (rnew s fx) 61)).cell? ⟨rb, 1, none⟩ = some (.slice (some ⟨gl, 0, none⟩) S.length cl) := by rw [World.cell?_alloc_lt _ _ _ rlt]; exact hc1
      have a2 : (w.alloc (.cells (rnew s fx) 61)).cell? ⟨gl, i, none⟩ = some (hv i) := by rw [World.cell?_alloc_lt _ _ _ glt]; exact c2
      obtain ⟨a, c, hsh⟩ := h.shape hi
      have hil := at_lt hi
      rw [hal] at d3
      rw [hsh] at c2 hrun d1 a2
      replace hrun : (Builtin.append_ #[59, 59] 59 #[.slice a sc.vs.length c, .slice (some ⟨w.heap.size, 0, none⟩) 1 1]).run Try.prog (w.alloc (.cells (rnew s fx) 61)).drew = .ok (.slice (some ⟨g', 0, none⟩) (sc.vs.length + 1) c') W4 := hrun
      obtain ⟨N, hN⟩ : ∃ N, S.length = N := ⟨_, rfl⟩
      obtain ⟨n, hn⟩ : ∃ n, sc.vs.length = n := ⟨_, rfl⟩
      rw [hN] at hc1 hil d3 a1
      rw [hn] at c2 hrun d1 a2 HE
      have t1 : (i : Int) < N := by omega
      have t2 : decide ((N : Int) ≤ i) = false := by simp; omega
      clear h e1 hf hi hl e3 c1 hN hn hsh k1 k2 glt rlt hal
      go_enter Try.func12, Try.ntmps12
      go_wp2_with (first | (go_at_call 21; refine hth.mono ?_; rintro e w2 ⟨rfl, hw2⟩; subst w2) | (go_at_call 22; refine hat.mono ?_; rintro e w2 ⟨rfl, hw2⟩; subst w2))
      go_region_law (refine step_app rfl (.tmp 31) (.tmp 35) 59 rfl rfl _ _ _ (by simp [Act.eval, Act.put]) (by simp [Act.eval, Act.put]) hrun ?_)
      all_goals go_wp2
      all_goals go_ret
      all_goals exact HE.out
end
end Go.Proofs.Ytglnihecgjfkiaa.Sc
