/-
  Plain mathematics of descriptors: what Apply gives.
-/
import Derived.Test.YtlpfdhmifcmhaaaDeSpec
namespace Go.Proofs.Ytlpfdhmifcmhaaa.Des
open Go.RowKit Go.Proofs.Ytlpfdhmifcmhaaa.Vals
set_option linter.unusedVariables false
set_option linter.unusedSimpArgs false

theorem wh_cases {n : Ds} (h : whR n = true) : (∃ v w e c, n = ⟨true, false, false, true, true, true, v, zeroV, zeroV, w, e, c⟩) ∨ (∃ g s e c, n = ⟨false, true, true, false, true, true, zeroV, g, s, false, e, c⟩ ∧ canF g = true ∧ canF s = true) := by
  unfold whR at h
  simp only [Bool.and_eq_true] at h
  obtain ⟨⟨⟨hr, he⟩, hc⟩, hs⟩ := h
  obtain ⟨r1, r2, r3, r4, r5, r6, r7, r8, r9⟩ := rig_and hr
  obtain ⟨a1, a2, a3, a4, a5, a6, v, g, s, w, e, c⟩ := n
  cases a1 <;> cases a2 <;> cases a3 <;> cases a4 <;> simp_all [accF, datF]
  exact ⟨_, _, ⟨rfl, rfl⟩, r2, r3⟩
theorem wh_rig {n : Ds} (h : whR n = true) : rigR n = true := by
  unfold whR at h
  simp only [Bool.and_eq_true] at h
  exact h.1.1.1
theorem wh_data (v : Vl) (w e c : Bool) : whR ⟨true, false, false, true, true, true, v, zeroV, zeroV, w, e, c⟩ = true := by simp [whR, rigR, badF, accF, datF, eqV_refl]
theorem wh_acc (g s : Vl) (e c : Bool) (hg : canF g = true) (hs : canF s = true) : whR ⟨false, true, true, false, true, true, zeroV, g, s, false, e, c⟩ = true := by simp [whR, rigR, badF, accF, datF, eqV_refl, hg, hs]
/-- A right one is of one sort at most. -/
theorem rig_sort {d : Ds} (h : rigR d = true) : (∃ hv hw he hc v w e c, d = ⟨hv, false, false, hw, he, hc, v, zeroV, zeroV, w, e, c⟩ ∧ (hv = false → v = zeroV) ∧ (hw = false → w = false) ∧ (he = false → e = false) ∧ (hc = false → c = false)) ∨
    (∃ hg hs he hc g s e c, d = ⟨false, hg, hs, false, he, hc, zeroV, g, s, false, e, c⟩ ∧ (hg || hs) = true ∧ canF g = true ∧ canF s = true ∧ (hg = false → g = zeroV) ∧ (hs = false → s = zeroV) ∧ (he = false → e = false) ∧ (hc = false → c = false)) := by
  obtain ⟨r1, r2, r3, r4, r5, r6, r7, r8, r9⟩ := rig_and h
  obtain ⟨a1, a2, a3, a4, a5, a6, v, g, s, w, e, c⟩ := d
  cases a2
  · cases a3
    · left
      simp at r5 r6
      subst r5 r6
      exact ⟨a1, a4, a5, a6, v, w, e, c, rfl, r4, r7, r8, r9⟩
    · right
      cases a1 <;> cases a4 <;> simp [accF, datF] at r1
      simp at r3 r4 r5 r7
      subst r4 r5 r7
      exact ⟨false, true, a5, a6, zeroV, s, e, c, rfl, rfl, rfl, r3, fun _ => rfl, fun h => by simp at h, r8, r9⟩
  · right
    cases a1 <;> cases a4 <;> simp [accF, datF] at r1
    simp at r2 r4 r7
    subst r4 r7
    cases a3
    · simp at r6
      subst r6
      exact ⟨true, false, a5, a6, g, zeroV, e, c, rfl, rfl, r2, rfl, fun h => by simp at h, fun _ => rfl, r8, r9⟩
    · simp at r3
      exact ⟨true, true, a5, a6, g, s, e, c, rfl, rfl, r2, r3, fun h => by simp at h, fun h => by simp at h, r8, r9⟩
theorem comp_eq {d : Ds} (h : rigR d = true) : compF d = compR d := by
  unfold compF clearF compR
  rw [replF_def]
  rcases rig_sort h with ⟨hv, hw, he, hc, v, w, e, c, rfl, r1, r2, r3, r4⟩ | ⟨hg, hs, he, hc, g, s, e, c, rfl, r0, r1, r2, r3, r4, r5, r6⟩
  · cases hv <;> cases hw <;> cases he <;> cases hc <;> simp_all [accF]
  · cases hg <;> cases hs <;> cases he <;> cases hc <;> simp_all [accF]
theorem clear_wh {d : Ds} (h : rigR d = true) : whR (clearF d) = true ∧ othF d (clearF d) = false := by
  rcases rig_sort h with ⟨hv, hw, he, hc, v, w, e, c, rfl, r1, r2, r3, r4⟩ | ⟨hg, hs, he, hc, g, s, e, c, rfl, r0, r1, r2, r3, r4, r5, r6⟩
  · constructor
    · exact wh_data _ _ _ _
    · cases hv <;> cases hw <;> rfl
  · have e : clearF ⟨false, hg, hs, false, he, hc, zeroV, g, s, false, e, c⟩ = ⟨false, true, true, false, true, true, zeroV, zeroV, zeroV, false, false, false⟩ := by simp [clearF, accF, r0]
    rw [e]
    exact ⟨wh_acc _ _ _ _ rfl rfl, by cases hg <;> cases hs <;> rfl⟩
/-- One that is whole, replaced by a right one of its sort. -/
theorem repl_res {m d : Ds} (hm : whR m = true) (hd : rigR d = true) (ho : othF d m = false) : whR (replF m d) = true ∧ othF d (replF m d) = false ∧ datF (replF m d) = datF m ∧ replF (replF m d) d = replF m d := by
  have h4 : replF (replF m d) d = replF m d := by
    rw [replF_def (replF m d) d, replF_def m d]
    cases d.hv <;> cases d.hg <;> cases d.hs <;> cases d.hw <;> cases d.he <;> cases d.hc <;> rfl
  rcases wh_cases hm with ⟨v', w', e', c', rfl⟩ | ⟨g', s', e', c', rfl, k1, k2⟩
  · rcases rig_sort hd with ⟨hv, hw, he, hc, v, w, e, c, rfl, r1, r2, r3, r4⟩ | ⟨hg, hs, he, hc, g, s, e, c, rfl, r0, r1, r2, r3, r4, r5, r6⟩
    · refine ⟨?_, ?_, ?_, h4⟩
      · rw [replF_def]
        simp only [Bool.or_true, Bool.or_false, cond_false]
        exact wh_data _ _ _ _
      · rw [replF_def]; simp [othF, accF, datF]
      · rw [replF_def]; simp [datF]
    · simp [othF, accF, datF, r0] at ho
  · rcases rig_sort hd with ⟨hv, hw, he, hc, v, w, e, c, rfl, r1, r2, r3, r4⟩ | ⟨hg, hs, he, hc, g, s, e, c, rfl, r0, r1, r2, r3, r4, r5, r6⟩
    · simp [othF, accF, datF] at ho
      obtain ⟨rfl, rfl⟩ := ho
      refine ⟨?_, ?_, ?_, h4⟩
      · rw [replF_def]
        simp only [Bool.or_true, Bool.or_false, cond_false, Bool.false_or]
        exact wh_acc _ _ _ _ k1 k2
      · rw [replF_def]; simp [othF, accF, datF]
      · rw [replF_def]; simp [datF]
    · refine ⟨?_, ?_, ?_, h4⟩
      · rw [replF_def]
        simp only [Bool.or_true, Bool.or_false, cond_false, Bool.false_or]
        exact wh_acc _ _ _ _ (by cases hg <;> simp [k1, r1]) (by cases hs <;> simp [k2, r2])
      · rw [replF_def]; simp [othF, accF, datF]
      · rw [replF_def]; simp [datF]
theorem conv_is {n : Ds} : convF n = cond (datF n) ⟨false, true, true, false, true, true, zeroV, zeroV, zeroV, false, n.e, n.c⟩ ⟨true, false, false, true, true, true, zeroV, zeroV, zeroV, false, n.e, n.c⟩ := by
  unfold convF compF convA
  rw [replF_def]
  cases datF n <;> rfl
theorem conv_wh {d n : Ds} (hn : whR n = true) (hd : rigR d = true) (ho : othF d n = true) : whR (convF n) = true ∧ othF d (convF n) = false := by
  rw [conv_is]
  rcases wh_cases hn with ⟨v', w', e', c', rfl⟩ | ⟨g', s', e', c', rfl, k1, k2⟩
  · refine ⟨wh_acc _ _ _ _ rfl rfl, ?_⟩
    rcases rig_sort hd with ⟨hv, hw, he, hc, v, w, e, c, rfl, r1, r2, r3, r4⟩ | ⟨hg, hs, he, hc, g, s, e, c, rfl, r0, r1, r2, r3, r4, r5, r6⟩
    · simp [othF, accF, datF] at ho
    · simp [othF, accF, datF]
  · refine ⟨wh_data _ _ _ _, ?_⟩
    rcases rig_sort hd with ⟨hv, hw, he, hc, v, w, e, c, rfl, r1, r2, r3, r4⟩ | ⟨hg, hs, he, hc, g, s, e, c, rfl, r0, r1, r2, r3, r4, r5, r6⟩
    · simp [othF, accF, datF]
    · simp [othF, accF, datF] at ho
/-- Where Apply says yes of a property that is there. -/
theorem app_ok {x : Bool} {d n a : Ds} (h : appF x d true n = (a, true)) : rigR d = true ∧ whR n = true ∧ a = replF (if othF d n then convF n else n) d ∧ (n.c = true ∨ kxF d n = true) := by
  unfold appF at h
  rw [rig_eq, wh_eq] at h
  cases hr : rigR d <;> cases hw : whR n <;> cases hc : n.c <;> cases hk : kxF d n <;> simp [hr, hw, hc, hk] at h <;> simp [h]
theorem app_yes {x : Bool} {d n : Ds} (hd : rigR d = true) (hn : whR n = true) (hc : n.c = true ∨ kxF d n = true) : appF x d true n = (replF (if othF d n then convF n else n) d, true) := by
  unfold appF
  rw [rig_eq, wh_eq, hd, hn]
  rcases hc with hc | hc <;> simp [hc]
/-- What the result of a yes is. -/
theorem res_rel {x h : Bool} {d n a : Ds} (hh : appF x d h n = (a, true)) : rigR d = true ∧ whR a = true ∧ othF d a = false ∧ replF a d = a := by
  cases h
  · unfold appF at hh
    rw [rig_eq] at hh
    cases hr : rigR d <;> simp [hr, addF] at hh
    obtain ⟨h1, rfl⟩ := hh
    simp at h1
    subst h1
    obtain ⟨c1, c2⟩ := clear_wh hr
    obtain ⟨b1, b2, b3, b4⟩ := repl_res c1 hr c2
    exact ⟨rfl, b1, b2, b4⟩
  · obtain ⟨hd, hn, rfl, hk⟩ := app_ok hh
    cases ho : othF d n
    · obtain ⟨b1, b2, b3, b4⟩ := repl_res hn hd ho
      exact ⟨hd, by simpa using b1, by simpa using b2, by simpa using b4⟩
    · obtain ⟨c1, c2⟩ := conv_wh hn hd ho
      obtain ⟨b1, b2, b3, b4⟩ := repl_res c1 hd c2
      exact ⟨hd, by simpa using b1, by simpa using b2, by simpa using b4⟩
theorem again {x : Bool} {d a : Ds} (hd : rigR d = true) (ha : whR a = true) (ho : othF d a = false) (hr : replF a d = a) : appF x d true a = (a, true) := by
  have hk : a.c = true ∨ kxF d a = true := by
    cases hc : a.c
    · right
      have e := hr
      rw [replF_def] at e
      have e1 := congrArg Ds.v e
      have e2 := congrArg Ds.g e
      have e3 := congrArg Ds.s e
      have e4 := congrArg Ds.w e
      have e5 := congrArg Ds.e e
      have e6 := congrArg Ds.c e
      simp only at e1 e2 e3 e4 e5 e6
      clear e hr ha hd
      unfold kxF kvF kfF
      rw [ho]
      cases a1 : d.hv <;> cases a2 : d.hg <;> cases a3 : d.hs <;> cases a4 : d.hw <;> cases a5 : d.he <;> cases a6 : d.hc <;> simp [a1, a2, a3, a4, a5, a6, hc] at e1 e2 e3 e4 e5 e6 <;> simp [*, eqV_refl] <;> (cases a.w <;> simp)
    · exact .inl rfl
  rw [app_yes hd ha hk, ho]
  simp [hr]
end Go.Proofs.Ytlpfdhmifcmhaaa.Des
