/-
  Plain mathematics of descriptors: both sides' Apply agree, and what the laws ask of its result.
-/
import Derived.Test.YtlpfdhmifcmhaaaDeSpec2
namespace Go.Proofs.Ytlpfdhmifcmhaaa.Des
open Go.RowKit Go.Proofs.Ytlpfdhmifcmhaaa.Vals
set_option linter.unusedVariables false
set_option linter.unusedSimpArgs false

def fixA (d n : Ds) : Bool := (d.hc && d.c) || (d.he && (d.e != n.e))
theorem f1_is (d n : Ds) : f1F d n = (!n.c && fixA d n) := rfl
theorem kx_is (d n : Ds) : kxF d n = if fixA d n then false else if othF d n then false else if datF n then n.w || kvF d n else kfF d n := rfl
theorem app_tail {d n : Ds} (hd : rigR d = true) (hn : whR n = true) : (if !n.c && !kxF d n then (zeroD, false) else (replF (if othF d n then convF n else n) d, true)) =
    (if f1F d n then (zeroD, false) else if !accF d && !datF d then (overF d n, true) else if datF d && datF n then (if t4F d n then (zeroD, false) else (overF d n, true)) else if accF d && accF n then (if t5F d n then (zeroD, false) else (overF d n, true)) else if !n.c then (zeroD, false) else (overF d (turnF d n), true)) := by
  rw [f1_is, kx_is, replF_def, overF_def, overF_def, conv_is]
  generalize fixA d n = A
  rcases wh_cases hn with ⟨v', w', e', c', rfl⟩ | ⟨g', s', e', c', rfl, k1, k2⟩ <;> rcases rig_sort hd with ⟨hv, hw, he, hc, v, w, e, c, rfl, r1, r2, r3, r4⟩ | ⟨hg, hs, he, hc, g, s, e, c, rfl, r0, r1, r2, r3, r4, r5, r6⟩ <;> clear hn hd
  · cases A <;> cases c' <;> cases w' <;> cases hv <;> cases hw <;> cases w <;> cases hq : eqV v v' <;> simp [othF, kvF, t4F, accF, datF, turnF, hq]
  · cases A <;> cases c' <;> cases hg <;> cases hs <;> simp [othF, kvF, kfF, t4F, accF, datF, turnF] at r0 ⊢
  · cases A <;> cases c' <;> cases hv <;> cases hw <;> simp [othF, kvF, kfF, t4F, accF, datF, turnF]
  · cases A <;> cases c' <;> cases hg <;> cases hs <;> cases hq1 : eqV g g' <;> cases hq2 : eqV s s' <;> simp [othF, kfF, t5F, accF, datF, turnF, hq1, hq2] at r0 ⊢
theorem app_eq (x : Bool) (d : Ds) (h : Bool) (n : Ds) : appF x d h n = appR x d h n := by
  unfold appF appR
  rw [rig_eq, wh_eq]
  cases hr : rigR d
  · simp
  · cases h
    · cases x
      · simp [addF]
      · simp [addF, comp_eq hr]
    · cases hw : whR n
      · simp
      · have := app_tail hr hw
        simp only [Bool.not_true, Bool.and_false, Bool.or_self, if_false, Bool.false_eq_true]
        exact this
theorem comp_wh {d : Ds} (h : rigR d = true) : whR (compF d) = true := by
  obtain ⟨c1, c2⟩ := clear_wh h
  exact (repl_res c1 h c2).1
theorem comp_same {c : Ds} (h : whR c = true) : compF c = c := by
  unfold compF clearF
  rw [replF_def]
  rcases wh_cases h with ⟨v', w', e', c', rfl⟩ | ⟨g', s', e', c', rfl, k1, k2⟩ <;> simp [accF]
/-- A property that is fixed. -/
theorem fast {x : Bool} {d n a : Ds} (hh : appF x d true n = (a, true)) (hc : n.c = false) : a.c = false ∧ a.e = n.e ∧ datF a = datF n ∧ a.g = n.g ∧ a.s = n.s ∧ (accF n = true ∨ n.w = true ∨ (a.w = false ∧ a.v = n.v)) := by
  obtain ⟨hd, hn, ha, hk⟩ := app_ok hh
  have hk : kxF d n = true := by
    rcases hk with hk | hk
    · rw [hc] at hk; cases hk
    · exact hk
  rw [kx_is] at hk
  cases hA : fixA d n
  · cases ho : othF d n
    · rw [ho] at ha
      simp only [hA, ho, Bool.false_eq_true, if_false] at hk
      simp only [Bool.false_eq_true, if_false] at ha
      rw [replF_def] at ha
      unfold fixA at hA
      simp only [Bool.or_eq_false_iff] at hA
      obtain ⟨hA1, hA2⟩ := hA
      have q1 : a.c = false := by rw [ha]; simp only; cases h1 : d.hc <;> simp_all
      have q2 : a.e = n.e := by rw [ha]; simp only; cases h1 : d.he <;> simp_all
      refine ⟨q1, q2, ?_⟩
      clear q1 q2
      rcases wh_cases hn with ⟨v', w', e', c', rfl⟩ | ⟨g', s', e', c', rfl, k1, k2⟩
      · rcases rig_sort hd with ⟨hv, hw, he, hcc, v, w, e, c, rfl, r1, r2, r3, r4⟩ | ⟨hg, hs, he, hcc, g, s, e, c, rfl, r0, r1, r2, r3, r4, r5, r6⟩
        · subst ha
          simp [datF, kvF] at hk ⊢
          rcases hk with hk | hk
          · simp [hk]
          · right; cases w'
            · right
              cases hw <;> cases hv <;> simp_all [eqV_iff]
            · left; rfl
        · simp [othF, accF, datF, r0] at ho
      · rcases rig_sort hd with ⟨hv, hw, he, hcc, v, w, e, c, rfl, r1, r2, r3, r4⟩ | ⟨hg, hs, he, hcc, g, s, e, c, rfl, r0, r1, r2, r3, r4, r5, r6⟩
        · simp [othF, accF, datF] at ho
          obtain ⟨rfl, rfl⟩ := ho
          subst ha
          simp [datF, accF]
        · subst ha
          simp [datF, kfF, accF] at hk ⊢
          cases hg <;> cases hs <;> simp_all [eqV_iff]
    · simp [hA, ho] at hk
  · simp [hA] at hk
/-- A property that may change. -/
theorem turns {x : Bool} {d n : Ds} (hd : rigR d = true) (hn : whR n = true) (hc : n.c = true) : ∃ a, appF x d true n = (a, true) ∧ whR a = true ∧ a.e = cond d.he d.e n.e ∧ a.c = cond d.hc d.c n.c ∧ (d.hv = true → a.v = d.v) ∧ (d.hw = true → a.w = d.w) ∧ (d.hg = true → a.g = d.g) ∧ (d.hs = true → a.s = d.s) ∧
    (datF a = datF n → (d.hv = true ∨ a.v = n.v) ∧ (d.hg = true ∨ a.g = n.g) ∧ (d.hs = true ∨ a.s = n.s) ∧ (d.hw = true ∨ a.w = n.w)) := by
  have h1 := app_yes (x := x) hd hn (.inl hc)
  refine ⟨_, h1, (res_rel h1).2.1, ?_⟩
  clear h1
  cases ho : othF d n
  · simp only [Bool.false_eq_true, if_false]
    rw [replF_def]
    refine ⟨rfl, rfl, fun h => by simp [h], fun h => by simp [h], fun h => by simp [h], fun h => by simp [h], fun _ => ⟨?_, ?_, ?_, ?_⟩⟩
    · cases d.hv <;> simp
    · cases d.hg <;> simp
    · cases d.hs <;> simp
    · cases d.hw <;> simp
  · obtain ⟨c1, c2⟩ := conv_wh hn hd ho
    obtain ⟨b1, b2, b3, b4⟩ := repl_res c1 hd c2
    have hne : datF (replF (convF n) d) = datF n → False := by
      rw [b3, conv_is]
      rcases wh_cases hn with ⟨v', w', e', c', rfl⟩ | ⟨g', s', e', c', rfl, k1, k2⟩ <;> simp [datF]
    simp only [if_true]
    rw [replF_def] at hne ⊢
    have e1 : (convF n).e = n.e := by rw [conv_is]; cases datF n <;> rfl
    have e2 : (convF n).c = n.c := by rw [conv_is]; cases datF n <;> rfl
    rw [e1, e2] at hne ⊢
    exact ⟨rfl, rfl, fun h => by simp [h], fun h => by simp [h], fun h => by simp [h], fun h => by simp [h], fun h => (hne h).elim⟩
/-- A property that is not there. -/
theorem new_is {d n : Ds} (hd : rigR d = true) : appF true d false n = (compF d, true) ∧ appF false d false n = (zeroD, false) ∧ (d.he = true ∨ (compF d).e = false) ∧ (d.hc = true ∨ (compF d).c = false) ∧ (d.hw = true ∨ (compF d).w = false) := by
  refine ⟨by simp [appF, rig_eq, hd, addF], by simp [appF, rig_eq, hd, addF], ?_⟩
  rw [comp_eq hd]
  obtain ⟨r1, r2, r3, r4, r5, r6, r7, r8, r9⟩ := rig_and hd
  unfold compR
  cases a1 : d.he <;> cases a2 : d.hc <;> cases a3 : d.hw <;> cases accF d <;> simp_all
end Go.Proofs.Ytlpfdhmifcmhaaa.Des
