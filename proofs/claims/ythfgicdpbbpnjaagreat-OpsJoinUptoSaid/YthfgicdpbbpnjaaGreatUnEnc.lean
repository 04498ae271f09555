/-
  Plain mathematics of chapter 1: encodings of code points, and pairs of surrogates.
-/
import Derived.Test.YthfgicdpbbpnjaaGreatUnPtm
namespace Go.Proofs.YthfgicdpbbpnjaaGreat.Uni

def encN (c : Nat) : List Nat :=
  if c < 128 then [c] else if c < 2048 then [192 + c / 64, 128 + c % 64] else if c < 65536 then [224 + c / 4096, 128 + c / 64 % 64, 128 + c % 64]
  else [240 + c / 262144, 128 + c / 4096 % 64, 128 + c / 64 % 64, 128 + c % 64]
theorem encN_1 {c : Nat} (h : c < 128) : encN c = [c] := if_pos h
theorem encN_2 {c : Nat} (h : 128 ≤ c) (h2 : c < 2048) : encN c = [192 + c / 64, 128 + c % 64] := by unfold encN; rw [if_neg (by omega), if_pos h2]
theorem encN_3 {c : Nat} (h : 2048 ≤ c) (h2 : c < 65536) : encN c = [224 + c / 4096, 128 + c / 64 % 64, 128 + c % 64] := by unfold encN; rw [if_neg (by omega), if_neg (by omega), if_pos h2]
theorem encN_4 {c : Nat} (h : 65536 ≤ c) : encN c = [240 + c / 262144, 128 + c / 4096 % 64, 128 + c / 64 % 64, 128 + c % 64] := by unfold encN; rw [if_neg (by omega), if_neg (by omega), if_neg (by omega)]
def enc (c : Nat) : List UInt8 := (encN c).map Nat.toUInt8
theorem enc_len (c : Nat) : (enc c).length = (encN c).length := by simp [enc]
theorem encN_len (c : Nat) : 1 ≤ (encN c).length ∧ (encN c).length ≤ 4 := by
  unfold encN
  split
  · simp
  · split
    · simp
    · split <;> simp
theorem encN_byte {c : Nat} (hc : c ≤ 1114111) : ∀ x ∈ encN c, x < 256 := by
  intro x hx
  unfold encN at hx
  split at hx
  · simp at hx; omega
  · split at hx
    · simp at hx; omega
    · split at hx
      · simp at hx; omega
      · simp at hx; omega

theorem enc_pt {s : ByteArray} {i c : Nat} (hc : c ≤ 1114111) (hs : i + (encN c).length ≤ s.size) (h : ∀ q, q < (encN c).length → B s (i + q) = (encN c).getD q 0) : pt s i = (c, (encN c).length) := by
  by_cases h1 : c < 128
  · rw [encN_1 h1] at h ⊢
    have b0 := h 0 (by simp)
    simp at b0
    rw [pt_ascii (by omega), b0]
    rfl
  · by_cases h2 : c < 2048
    · rw [encN_2 (by omega) h2] at h hs ⊢
      have b0 := h 0 (by simp)
      have b1 := h 1 (by simp)
      simp at b0 b1 hs
      have hcl : Cls (B s i) 2 (B s i % 32) 128 := .inl ⟨by omega, by omega, rfl, rfl, rfl⟩
      have e : acc s i (B s i % 32) 2 = B s i % 32 * 64 + B s (i + 1) % 64 := rfl
      rw [pt_ok hcl hs (fun q h1 h2 => (by obtain rfl : q = 1 := by omega
                                           omega)) (by omega) (by omega)]
      rw [e]
      simp
      omega
    · by_cases h3 : c < 65536
      · rw [encN_3 (by omega) h3] at h hs ⊢
        have b0 := h 0 (by simp)
        have b1 := h 1 (by simp)
        have b2 := h 2 (by simp)
        simp at b0 b1 b2 hs
        have hcl : Cls (B s i) 3 (B s i % 16) 2048 := .inr (.inl ⟨by omega, by omega, rfl, rfl, rfl⟩)
        have e : acc s i (B s i % 16) 3 = (B s i % 16 * 64 + B s (i + 1) % 64) * 64 + B s (i + 2) % 64 := rfl
        rw [pt_ok hcl hs (fun q h1 h2 => (by obtain rfl | rfl : q = 1 ∨ q = 2 := by omega
                                             all_goals omega)) (by omega) (by omega)]
        rw [e]
        simp
        omega
      · rw [encN_4 (by omega)] at h hs ⊢
        have b0 := h 0 (by simp)
        have b1 := h 1 (by simp)
        have b2 := h 2 (by simp)
        have b3 := h 3 (by simp)
        simp at b0 b1 b2 b3 hs
        have hcl : Cls (B s i) 4 (B s i % 8) 65536 := .inr (.inr ⟨by omega, by omega, rfl, rfl, rfl⟩)
        have e : acc s i (B s i % 8) 4 = ((B s i % 8 * 64 + B s (i + 1) % 64) * 64 + B s (i + 2) % 64) * 64 + B s (i + 3) % 64 := rfl
        rw [pt_ok hcl hs (fun q h1 h2 => (by obtain rfl | rfl | rfl : q = 1 ∨ q = 2 ∨ q = 3 := by omega
                                             all_goals omega)) (by omega) (by omega)]
        rw [e]
        simp
        omega

theorem pt_enc {s : ByteArray} {i : Nat} (_hi : i < s.size) (hn : (pt s i).2 ≠ 0) : (encN (pt s i).1).length = (pt s i).2 ∧ ∀ q, q < (pt s i).2 → B s (i + q) = (encN (pt s i).1).getD q 0 := by
  have b0 := B_lt s i
  have b1 := B_lt s (i + 1)
  have b2 := B_lt s (i + 2)
  have b3 := B_lt s (i + 3)
  by_cases h1 : B s i < 128
  · rw [pt_ascii h1]
    simp only
    rw [encN_1 h1]
    refine ⟨rfl, fun q hq => ?_⟩
    obtain rfl : q = 0 := by omega
    rfl
  · by_cases hcl : ∃ n c0 low, Cls (B s i) n c0 low
    · obtain ⟨n, c0, low, hcl⟩ := hcl
      by_cases hb : i + n ≤ s.size ∧ Conts s i n ∧ low ≤ acc s i c0 n ∧ acc s i c0 n ≤ 1114111
      · obtain ⟨hs, hc, hl, hm⟩ := hb
        rw [pt_ok hcl hs hc hl hm]
        simp only
        rcases hcl with ⟨h1, h2, rfl, rfl, rfl⟩ | ⟨h1, h2, rfl, rfl, rfl⟩ | ⟨h1, h2, rfl, rfl, rfl⟩
        · have k1 := hc 1 (by omega) (by omega)
          have e : acc s i (B s i % 32) 2 = B s i % 32 * 64 + B s (i + 1) % 64 := rfl
          rw [e] at hl hm ⊢
          rw [encN_2 (by omega) (by omega)]
          refine ⟨rfl, fun q hq => ?_⟩
          obtain rfl | rfl : q = 0 ∨ q = 1 := by omega
          all_goals simp
          all_goals omega
        · have k1 := hc 1 (by omega) (by omega)
          have k2 := hc 2 (by omega) (by omega)
          have e : acc s i (B s i % 16) 3 = (B s i % 16 * 64 + B s (i + 1) % 64) * 64 + B s (i + 2) % 64 := rfl
          rw [e] at hl hm ⊢
          rw [encN_3 (by omega) (by omega)]
          refine ⟨rfl, fun q hq => ?_⟩
          obtain rfl | rfl | rfl : q = 0 ∨ q = 1 ∨ q = 2 := by omega
          all_goals simp
          all_goals omega
        · have k1 := hc 1 (by omega) (by omega)
          have k2 := hc 2 (by omega) (by omega)
          have k3 := hc 3 (by omega) (by omega)
          have e : acc s i (B s i % 8) 4 = ((B s i % 8 * 64 + B s (i + 1) % 64) * 64 + B s (i + 2) % 64) * 64 + B s (i + 3) % 64 := rfl
          rw [e] at hl hm ⊢
          rw [encN_4 (by omega)]
          refine ⟨rfl, fun q hq => ?_⟩
          obtain rfl | rfl | rfl | rfl : q = 0 ∨ q = 1 ∨ q = 2 ∨ q = 3 := by omega
          all_goals simp
          all_goals omega
      · rw [pt_bad hcl hb] at hn
        simp at hn
    · rw [pt_out (by omega) (fun n c0 low h => hcl ⟨n, c0, low, h⟩)] at hn
      simp at hn

/-- Encodings of a row of code points. -/
def encs (L : List Nat) : List UInt8 := L.flatMap enc
/-- No high half directly before a low one; 'ah': what stands before is a high half. -/
def np : Bool → List Nat → Bool
  | _, [] => true
  | ah, c :: r => !(ah && isLo c) && np (isHi c) r

theorem encs_cons (c : Nat) (r : List Nat) : encs (c :: r) = enc c ++ encs r := by simp [encs]

theorem dec_encs (s : ByteArray) : ∀ (L : List Nat) (pre : List UInt8) (f : Nat) (ah : Bool), s.data.toList = pre ++ encs L → (∀ c ∈ L, c ≤ 1114111) → np ah L = true → s.size ≤ pre.length + f → dec s f pre.length ah = some L := by
  intro L
  induction L with
  | nil =>
    intro pre f ah h _ _ _
    have hz : ¬ pre.length < s.size := by
      have : s.size = pre.length := by
        have := congrArg List.length h
        simpa [encs] using this
      omega
    cases f with
    | zero => rfl
    | succ f => simp only [dec, hz, if_false]
  | cons c r ih =>
    intro pre f ah h hb hp hf
    have hsz : s.size = pre.length + ((encN c).length + (encs r).length) := by
      have := congrArg List.length h
      rw [encs_cons, List.length_append, List.length_append, enc_len] at this
      simpa using this
    have hl := encN_len c
    have hlt : pre.length < s.size := by omega
    have hc := hb c (by simp)
    have hbyte := encN_byte hc
    have hB : ∀ q, q < (encN c).length → B s (pre.length + q) = (encN c).getD q 0 := by
      intro q hq
      unfold B
      rw [h, encs_cons]
      rw [List.getElem?_append_right (by omega), Nat.add_sub_cancel_left, List.getElem?_append_left (by rw [enc_len]; exact hq)]
      unfold enc
      rw [List.getElem?_map, List.getD_eq_getElem?_getD, List.getElem?_eq_getElem hq]
      simp
      have := hbyte _ (List.getElem_mem hq)
      omega
    have hpt := enc_pt hc (by omega) hB
    obtain ⟨g, rfl⟩ : ∃ g, f = g + 1 := ⟨f - 1, by omega⟩
    simp only [dec, hlt, if_true, hpt]
    simp only [np, Bool.and_eq_true, Bool.not_eq_true'] at hp
    rw [if_neg (by
      rintro (x | ⟨x, y⟩)
      · omega
      · rw [x, y] at hp; simp at hp)]
    have h2 : s.data.toList = (pre ++ enc c) ++ encs r := by rw [h, encs_cons, List.append_assoc]
    have := ih (pre ++ enc c) g (isHi c) h2 (fun x hx => hb x (by simp [hx])) hp.2 (by rw [List.length_append, enc_len]; omega)
    rw [List.length_append, enc_len] at this
    rw [this]
    rfl

theorem pts_encs {L : List Nat} (hb : ∀ c ∈ L, c ≤ 1114111) (hp : np false L = true) : pts ⟨(encs L).toArray⟩ = some L := by
  unfold pts
  have := dec_encs ⟨(encs L).toArray⟩ L [] (ByteArray.size ⟨(encs L).toArray⟩) false (by simp) hb hp (by simp)
  exact this

theorem dec_back (s : ByteArray) : ∀ (f i : Nat) (ah : Bool) (L : List Nat), dec s f i ah = some L → i ≤ s.size → s.size ≤ i + f → s.data.toList.drop i = encs L ∧ np ah L = true := by
  intro f
  induction f with
  | zero =>
    intro i ah L h hi hf
    simp [dec] at h
    subst h
    refine ⟨?_, rfl⟩
    rw [List.drop_of_length_le (by simp; omega)]
    rfl
  | succ f ih =>
    intro i ah L h hi hf
    simp only [dec] at h
    split at h
    · rename_i hlt
      split at h
      · simp at h
      · rename_i hno
        simp only [Option.map_eq_some_iff] at h
        obtain ⟨r, hr, rfl⟩ := h
        have hn : (pt s i).2 ≠ 0 := fun x => hno (.inl x)
        have hle := pt_le s i hlt
        obtain ⟨e1, e2⟩ := pt_enc hlt hn
        obtain ⟨d1, d2⟩ := ih _ _ r hr hle (by omega)
        constructor
        · rw [encs_cons, ← d1]
          apply List.ext_getElem?
          intro q
          by_cases hq : q < (pt s i).2
          · rw [List.getElem?_append_left (by rw [enc_len]; omega), List.getElem?_drop]
            have hlt2 : i + q < s.data.toList.length := by simp; omega
            have := e2 q hq
            unfold B at this
            rw [List.getElem?_eq_getElem hlt2] at this ⊢
            unfold enc
            rw [List.getElem?_map, List.getElem?_eq_getElem (by omega)]
            rw [List.getD_eq_getElem?_getD, List.getElem?_eq_getElem (by omega)] at this
            simp only [Option.getD_some] at this
            simp only [Option.map_some, Option.some.injEq]
            rw [← this]
            simp
          · rw [List.getElem?_append_right (by rw [enc_len]; omega), enc_len, e1, List.getElem?_drop, List.getElem?_drop]
            congr 1
            omega
        · simp only [np, d2, Bool.and_true, Bool.not_eq_true']
          cases ha : ah && isLo (pt s i).1 with
          | false => rfl
          | true =>
            simp at ha
            exact absurd (.inr ha) hno
    · rename_i hlt
      simp at h
      subst h
      refine ⟨?_, rfl⟩
      rw [List.drop_of_length_le (by simp; omega)]
      rfl

theorem pts_back {s : ByteArray} {L : List Nat} (h : pts s = some L) : s.data.toList = encs L ∧ np false L = true := by
  have := dec_back s s.size 0 false L h (by omega) (by omega)
  simpa using this
end Go.Proofs.YthfgicdpbbpnjaaGreat.Uni
