/-
  The reference's find and Get.
-/
import Derived.Test.YtglnihecgjfkiaaScRef
namespace Go.Proofs.Ytglnihecgjfkiaa.Sc
open Go Go.RowKit Go.Maps
set_option linter.unusedVariables false
set_option linter.unusedSimpArgs false
attribute [local go_sem ↓] ldV stV alV bxV bxP bdV bdP
attribute [local irreducible] vcs pcs
attribute [local go_sem] run_bx run_alV run_bd0

section
variable {base : Nat} {X : Nat → Prop} {w w' : World} {rb : Nat} {S : List Sco} {ap : Option Addr} {cp : Nat} {al : Option Addr} {cl : Nat} {hv : Nat → Value}
theorem RAt.alloc (h : RAt base X w rb S ap cp al cl hv) (o : Obj) : RAt base X (w.alloc o) rb S ap cp al cl hv := h.same (fun b hx => heap_alloc_old w o (h.low b hx).2) (by simp)
/-- What find hands back. -/
def findV2 : Option (Nat × Nat) → Value
  | none => .tuple #[.int .i64 (-1), .int .i64 (-1)]
  | some (i, j) => .tuple #[.int .i64 i, .int .i64 j]
set_option maxRecDepth 100000 in
set_option maxHeartbeats 2000000 in
theorem find_any (h : RAt base X w rb S ap cp al cl hv) (env : Int) (s : ByteArray) (hl : ∀ (i : Nat) (sc : Sco), S[i]? = some sc → sc.vs.length ≤ 1000) : Calls Try.prog 24 #[ptr rb, .int .i64 env, .string s] w fun e w' => e = .returned (findV2 (seek S env s)) ∧ w' = w := by
  obtain ⟨R, hR⟩ : ∃ R, findV2 (seek S env s) = R := ⟨_, rfl⟩
  rw [hR]
  obtain ⟨G, hG⟩ : ∃ G, (env + 1).toNat = G := ⟨_, rfl⟩
  have HST : Hid (∃ e : Int, Value.int .i64 env = .int .i64 e ∧ findV2 (seek S e s) = R ∧ G = (e + 1).toNat) := Lib.hid ⟨env, rfl, hR, hG.symm⟩
  have H := Lib.hid h
  have HL := Lib.hid hl
  clear h hR hG hl
  go_enter Try.func24, Try.ntmps24
  go_wp2_with fail
  go_loopg [1] G (fun g v wr => wr = w ∧ ∃ e : Int, v = .int .i64 e ∧ findV2 (seek S e s) = R ∧ g = (e + 1).toNat)
  case atStart => exact ⟨rfl, HST.out⟩
  case round =>
    obtain ⟨rfl, e, rfl, hR, hg⟩ := hrel
    have hth := there_any H.out e
    rcases cases_env S e with ht | ⟨n, sc, rfl, hn⟩
    · have e1 : there S e = false := by simpa using ht
      rw [e1] at hth
      have e2 : seek S e s = none := seek_out (by rw [there_iff] at ht; omega) s
      rw [e2] at hR
      subst hR
      clear ht e1 e2 hg
      go_wp2_with (go_at_call 21; refine hth.mono ?_; rintro e w2 ⟨rfl, hw2⟩; subst w2)
      go_ret2
      exact ⟨rfl, rfl⟩
    · rw [there_nat (at_lt hn)] at hth
      have hat := at_any H.out hn s (HL.out n sc hn)
      rw [seek_in H.out.par hn] at hR
      cases hf : findV sc.vs s with
      | some j =>
        rw [hf] at hR hat
        replace hR : findV2 (some (n, j)) = R := hR
        have e3 : plc 0 (some j) = (j : Int) := by simp [plc]
        rw [e3] at hat
        subst hR
        clear hf hg hn
        go_wp2_with (first | (go_at_call 21; refine hth.mono ?_; rintro e w2 ⟨rfl, hw2⟩; subst w2) | (go_at_call 22; refine hat.mono ?_; rintro e w2 ⟨rfl, hw2⟩; subst w2))
        go_ret2
        exact ⟨rfl, rfl⟩
      | none =>
        rw [hf] at hR hat
        replace hR : findV2 (seek S sc.parent s) = R := hR
        have e3 : plc 0 none = -1 := rfl
        rw [e3] at hat
        obtain ⟨gp, q1, q2⟩ := H.out.parent hn
        have c0 : wr.cell? ⟨rb, 0, none⟩ = some (.slice (some ⟨gp, 0, none⟩) S.length cp) := by have := H.out.head.cell 0; rw [q1] at this; exact this
        have hlt := at_lt hn
        have hpar := H.out.par _ _ hn
        obtain ⟨N, hN⟩ : ∃ N, S.length = N := ⟨_, rfl⟩
        rw [hN] at c0 hlt
        have d1 : (n : Int) < N := by omega
        have d2 : decide ((N : Int) ≤ n) = false := by simp; omega
        have HR := Lib.hid hR
        have HG := Lib.hid hg
        have HP := Lib.hid hpar
        clear hf hg hn hN q1 hpar hR
        go_wp2_with (first | (go_at_call 21; refine hth.mono ?_; rintro e w2 ⟨rfl, hw2⟩; subst w2) | (go_at_call 22; refine hat.mono ?_; rintro e w2 ⟨rfl, hw2⟩; subst w2))
        go_roundg (sc.parent + 1).toNat
        case measure => have := HG.out; have := HP.out; omega
        case rel => exact ⟨rfl, sc.parent, rfl, HR.out, rfl⟩
end
end Go.Proofs.Ytglnihecgjfkiaa.Sc
