/-
  Plain mathematics of joining two texts: what stands at the seam.
-/
import Derived.Test.YthfgicdpbbpnjaaGreatUnPairs
import Derived.Test.YthfgicdpbbpnjaaGreatUnUnits
namespace Go.Proofs.YthfgicdpbbpnjaaGreat.Uni

/-- The bytes of an encoding that stands in a text. -/
theorem B_enc {s : ByteArray} {pre post : List UInt8} {c q : Nat} (hc : c ≤ 1114111) (h : s.data.toList = pre ++ enc c ++ post) (hq : q < (encN c).length) : B s (pre.length + q) = (encN c).getD q 0 := by
  have hbyte := encN_byte hc
  unfold B
  rw [h, List.append_assoc]
  rw [List.getElem?_append_right (by omega), Nat.add_sub_cancel_left, List.getElem?_append_left (by rw [enc_len]; exact hq)]
  unfold enc
  rw [List.getElem?_map, List.getD_eq_getElem?_getD, List.getElem?_eq_getElem hq]
  simp
  have := hbyte _ (List.getElem_mem hq)
  omega

theorem sur_of_enc {s : ByteArray} {pre post : List UInt8} {c : Nat} (h : s.data.toList = pre ++ enc c ++ post) (h1 : 55296 ≤ c) (h2 : c ≤ 57343) : surB s pre.length = true ∧ surV s pre.length = c := by
  have e := encN_3 (c := c) (by omega) (by omega)
  have l : (encN c).length = 3 := by rw [e]; rfl
  have b0 := B_enc (q := 0) (by omega) h (by omega)
  have b1 := B_enc (q := 1) (by omega) h (by omega)
  have b2 := B_enc (q := 2) (by omega) h (by omega)
  rw [e] at b0 b1 b2
  simp at b0 b1 b2
  have hz : s.size = pre.length + 3 + post.length := by
    have := congrArg List.length h
    rw [List.length_append, List.length_append, enc_len, l] at this
    simpa using this
  refine ⟨decide_eq_true ⟨by omega, by omega, by omega, by omega⟩, ?_⟩
  unfold surV
  omega

theorem first_lo {b : ByteArray} {c : Nat} {t : List Nat} (h : pts b = some (c :: t)) (hl : isLo c = true) : surB b 0 = true ∧ surV b 0 = c := by
  have hl := isLo_iff.1 hl
  have := (pts_back h).1
  rw [encs_cons] at this
  exact sur_of_enc (pre := []) (by simpa using this) (by omega) (by omega)

theorem first_sur {b : ByteArray} {C : List Nat} (h : pts b = some C) (hs : surB b 0 = true) : ∃ C', C = surV b 0 :: C' ∧ b.data.toList.drop 3 = encs C' := by
  have hz := (surB_iff hs).1
  have hb := (pts_back h).1
  unfold pts at h
  obtain ⟨f, hf⟩ : ∃ f, b.size = f + 1 := ⟨b.size - 1, by omega⟩
  rw [hf] at h
  simp only [dec] at h
  rw [if_pos (by omega), pt_sur hs] at h
  simp only at h
  rw [if_neg (by simp)] at h
  simp only [Option.map_eq_some_iff] at h
  obtain ⟨r, hr, rfl⟩ := h
  refine ⟨r, rfl, ?_⟩
  have := dec_back b f 3 _ r (by simpa using hr) (by omega) (by omega)
  exact this.1

theorem lh_last : ∀ (A : List Nat) (ah : Bool), lh ah A = true → A ≠ [] → ∃ A' c, A = A' ++ [c] ∧ isHi c = true := by
  intro A ah h hne
  rcases List.eq_nil_or_concat A with rfl | ⟨A', c, rfl⟩
  · exact absurd rfl hne
  · refine ⟨A', c, by simp, ?_⟩
    rw [List.concat_eq_append, lh_snoc] at h
    exact h

theorem last_hi {a : ByteArray} {A : List Nat} (h : pts a = some A) (hl : lh false A = true) : 3 ≤ a.size ∧ surB a (a.size - 3) = true ∧ isHi (surV a (a.size - 3)) = true := by
  have hne : A ≠ [] := by rintro rfl; simp [lh] at hl
  obtain ⟨A', c, rfl, hc⟩ := lh_last A false hl hne
  have hi := isHi_iff.1 hc
  have hb := (pts_back h).1
  rw [encs_append, show encs [c] = enc c by simp [encs]] at hb
  have hs := sur_of_enc (s := a) (pre := encs A') (post := []) (by simpa using hb) (by omega) (by omega)
  have l : (encN c).length = 3 := by rw [encN_3 (by omega) (by omega)]; rfl
  have hz : a.size = (encs A').length + 3 := by
    have := congrArg List.length hb
    rw [List.length_append, enc_len, l] at this
    simpa using this
  have e : a.size - 3 = (encs A').length := by omega
  rw [e]
  exact ⟨by omega, hs.1, by rw [hs.2]; exact hc⟩

theorem last_sur {a : ByteArray} {A : List Nat} (h : pts a = some A) (h3 : 3 ≤ a.size) (hs : surB a (a.size - 3) = true) : ∃ A', A = A' ++ [surV a (a.size - 3)] ∧ a.data.toList.take (a.size - 3) = encs A' := by
  have hbk := (pts_back h).1
  have hbd := pts_bd h
  rcases List.eq_nil_or_concat A with rfl | ⟨A', c, rfl⟩
  · exfalso
    have e : a.data.toList.length = 0 := by rw [hbk]; rfl
    have e2 : a.data.toList.length = a.size := rfl
    omega
  · rw [List.concat_eq_append] at hbk hbd ⊢
    rw [encs_append, show encs [c] = enc c by simp [encs]] at hbk
    have hc : c ≤ 1114111 := hbd c (by simp)
    have hl := encN_len c
    have hz : a.size = (encs A').length + (encN c).length := by
      have := congrArg List.length hbk
      rw [List.length_append, enc_len] at this
      simpa using this
    obtain ⟨_, s0, s1, s2⟩ := surB_iff hs
    have hB : ∀ q, q < (encN c).length → B a ((encs A').length + q) = (encN c).getD q 0 := fun q hq => B_enc (post := []) hc (by simpa using hbk) hq
    by_cases c1 : c < 128
    · exfalso
      rw [encN_1 c1] at hz hB
      have b0 := hB 0 (by simp)
      simp at b0 hz
      have e : a.size - 3 + 2 = (encs A').length := by omega
      rw [e] at s2
      omega
    · by_cases c2 : c < 2048
      · exfalso
        rw [encN_2 (by omega) c2] at hz hB
        have b0 := hB 0 (by simp)
        simp at b0 hz
        have e : a.size - 3 + 1 = (encs A').length := by omega
        rw [e] at s1
        omega
      · by_cases c3 : c < 65536
        · rw [encN_3 (by omega) c3] at hz hB
          have b1 := hB 1 (by simp)
          have b2 := hB 2 (by simp)
          have b0 := hB 0 (by simp)
          simp at b0 b1 b2 hz
          have e : a.size - 3 = (encs A').length := by omega
          rw [e] at s0 s1 s2
          have ev : surV a (a.size - 3) = c := by
            rw [e]
            unfold surV
            omega
          refine ⟨A', by rw [ev], ?_⟩
          rw [hbk, e]
          simp
        · exfalso
          rw [encN_4 (by omega)] at hz hB
          have b1 := hB 1 (by simp)
          simp at b1 hz
          have e : a.size - 3 = (encs A').length + 1 := by omega
          rw [e] at s0
          omega
end Go.Proofs.YthfgicdpbbpnjaaGreat.Uni
