/-
  Texts of this seat in build order: UnEnc, UnPairs, LxSpec, UnLow.
-/
import Derived.Test.YtkknglmpdmhhjaaGreatDoorMg00
import Derived.Lib.IndexMore
import Derived.Lib.Strings
import Derived.Test.YtkknglmpdmhhjaaGreatDoorProg
import Derived.WalkKit
import Derived.WalkSpells
import Derived.WalkLawsBesides
import Derived.RegionTactic
import Derived.ChangeAlike
import Derived.Deep.QuietTactic
import Derived.BigQuiet
import Derived.Lib.Hide
/-
  Plain mathematics of chapter 1: encodings of code points, and pairs of surrogates.
-/
namespace Go.Proofs.YtkknglmpdmhhjaaGreatDoor.Uni

def encN (c : Nat) : List Nat :=
  if c < 128 then [c] else if c < 2048 then [192 + c / 64, 128 + c % 64] else if c < 65536 then [224 + c / 4096, 128 + c / 64 % 64, 128 + c % 64]
  else [240 + c / 262144, 128 + c / 4096 % 64, 128 + c / 64 % 64, 128 + c % 64]
theorem encN_1 {c : Nat} (h : c < 128) : encN c = [c] := if_pos h
theorem encN_2 {c : Nat} (h : 128 ≤ c) (h2 : c < 2048) : encN c = [192 + c / 64, 128 + c % 64] := by unfold encN; rw [if_neg (by omega), if_pos h2]
theorem encN_3 {c : Nat} (h : 2048 ≤ c) (h2 : c < 65536) : encN c = [224 + c / 4096, 128 + c / 64 % 64, 128 + c % 64] := by unfold encN; rw [if_neg (by omega), if_neg (by omega), if_pos h2]
theorem encN_4 {c : Nat} (h : 65536 ≤ c) : encN c = [240 + c / 262144, 128 + c / 4096 % 64, 128 + c / 64 % 64, 128 + c % 64] := by unfold encN; rw [if_neg (by omega), if_neg (by omega), if_neg (by omega)]
def enc (c : Nat) : List UInt8 := (encN c).map Nat.toUInt8
theorem enc_len (c : Nat) : (enc c).length = (encN c).length := by simp [enc]
theorem encN_len (c : Nat) : 1 ≤ (encN c).length ∧ (encN c).length ≤ 4 := by
  unfold encN
  split
  · simp
  · split
    · simp
    · split <;> simp
theorem encN_byte {c : Nat} (hc : c ≤ 1114111) : ∀ x ∈ encN c, x < 256 := by
  intro x hx
  unfold encN at hx
  split at hx
  · simp at hx; omega
  · split at hx
    · simp at hx; omega
    · split at hx
      · simp at hx; omega
      · simp at hx; omega

theorem enc_pt {s : ByteArray} {i c : Nat} (hc : c ≤ 1114111) (hs : i + (encN c).length ≤ s.size) (h : ∀ q, q < (encN c).length → B s (i + q) = (encN c).getD q 0) : pt s i = (c, (encN c).length) := by
  by_cases h1 : c < 128
  · rw [encN_1 h1] at h ⊢
    have b0 := h 0 (by simp)
    simp at b0
    rw [pt_ascii (by omega), b0]
    rfl
  · by_cases h2 : c < 2048
    · rw [encN_2 (by omega) h2] at h hs ⊢
      have b0 := h 0 (by simp)
      have b1 := h 1 (by simp)
      simp at b0 b1 hs
      have hcl : Cls (B s i) 2 (B s i % 32) 128 := .inl ⟨by omega, by omega, rfl, rfl, rfl⟩
      have e : acc s i (B s i % 32) 2 = B s i % 32 * 64 + B s (i + 1) % 64 := rfl
      rw [pt_ok hcl hs (fun q h1 h2 => (by obtain rfl : q = 1 := by omega
                                           omega)) (by omega) (by omega)]
      rw [e]
      simp
      omega
    · by_cases h3 : c < 65536
      · rw [encN_3 (by omega) h3] at h hs ⊢
        have b0 := h 0 (by simp)
        have b1 := h 1 (by simp)
        have b2 := h 2 (by simp)
        simp at b0 b1 b2 hs
        have hcl : Cls (B s i) 3 (B s i % 16) 2048 := .inr (.inl ⟨by omega, by omega, rfl, rfl, rfl⟩)
        have e : acc s i (B s i % 16) 3 = (B s i % 16 * 64 + B s (i + 1) % 64) * 64 + B s (i + 2) % 64 := rfl
        rw [pt_ok hcl hs (fun q h1 h2 => (by obtain rfl | rfl : q = 1 ∨ q = 2 := by omega
                                             all_goals omega)) (by omega) (by omega)]
        rw [e]
        simp
        omega
      · rw [encN_4 (by omega)] at h hs ⊢
        have b0 := h 0 (by simp)
        have b1 := h 1 (by simp)
        have b2 := h 2 (by simp)
        have b3 := h 3 (by simp)
        simp at b0 b1 b2 b3 hs
        have hcl : Cls (B s i) 4 (B s i % 8) 65536 := .inr (.inr ⟨by omega, by omega, rfl, rfl, rfl⟩)
        have e : acc s i (B s i % 8) 4 = ((B s i % 8 * 64 + B s (i + 1) % 64) * 64 + B s (i + 2) % 64) * 64 + B s (i + 3) % 64 := rfl
        rw [pt_ok hcl hs (fun q h1 h2 => (by obtain rfl | rfl | rfl : q = 1 ∨ q = 2 ∨ q = 3 := by omega
                                             all_goals omega)) (by omega) (by omega)]
        rw [e]
        simp
        omega

theorem pt_enc {s : ByteArray} {i : Nat} (_hi : i < s.size) (hn : (pt s i).2 ≠ 0) : (encN (pt s i).1).length = (pt s i).2 ∧ ∀ q, q < (pt s i).2 → B s (i + q) = (encN (pt s i).1).getD q 0 := by
  have b0 := B_lt s i
  have b1 := B_lt s (i + 1)
  have b2 := B_lt s (i + 2)
  have b3 := B_lt s (i + 3)
  by_cases h1 : B s i < 128
  · rw [pt_ascii h1]
    simp only
    rw [encN_1 h1]
    refine ⟨rfl, fun q hq => ?_⟩
    obtain rfl : q = 0 := by omega
    rfl
  · by_cases hcl : ∃ n c0 low, Cls (B s i) n c0 low
    · obtain ⟨n, c0, low, hcl⟩ := hcl
      by_cases hb : i + n ≤ s.size ∧ Conts s i n ∧ low ≤ acc s i c0 n ∧ acc s i c0 n ≤ 1114111
      · obtain ⟨hs, hc, hl, hm⟩ := hb
        rw [pt_ok hcl hs hc hl hm]
        simp only
        rcases hcl with ⟨h1, h2, rfl, rfl, rfl⟩ | ⟨h1, h2, rfl, rfl, rfl⟩ | ⟨h1, h2, rfl, rfl, rfl⟩
        · have k1 := hc 1 (by omega) (by omega)
          have e : acc s i (B s i % 32) 2 = B s i % 32 * 64 + B s (i + 1) % 64 := rfl
          rw [e] at hl hm ⊢
          rw [encN_2 (by omega) (by omega)]
          refine ⟨rfl, fun q hq => ?_⟩
          obtain rfl | rfl : q = 0 ∨ q = 1 := by omega
          all_goals simp
          all_goals omega
        · have k1 := hc 1 (by omega) (by omega)
          have k2 := hc 2 (by omega) (by omega)
          have e : acc s i (B s i % 16) 3 = (B s i % 16 * 64 + B s (i + 1) % 64) * 64 + B s (i + 2) % 64 := rfl
          rw [e] at hl hm ⊢
          rw [encN_3 (by omega) (by omega)]
          refine ⟨rfl, fun q hq => ?_⟩
          obtain rfl | rfl | rfl : q = 0 ∨ q = 1 ∨ q = 2 := by omega
          all_goals simp
          all_goals omega
        · have k1 := hc 1 (by omega) (by omega)
          have k2 := hc 2 (by omega) (by omega)
          have k3 := hc 3 (by omega) (by omega)
          have e : acc s i (B s i % 8) 4 = ((B s i % 8 * 64 + B s (i + 1) % 64) * 64 + B s (i + 2) % 64) * 64 + B s (i + 3) % 64 := rfl
          rw [e] at hl hm ⊢
          rw [encN_4 (by omega)]
          refine ⟨rfl, fun q hq => ?_⟩
          obtain rfl | rfl | rfl | rfl : q = 0 ∨ q = 1 ∨ q = 2 ∨ q = 3 := by omega
          all_goals simp
          all_goals omega
      · rw [pt_bad hcl hb] at hn
        simp at hn
    · rw [pt_out (by omega) (fun n c0 low h => hcl ⟨n, c0, low, h⟩)] at hn
      simp at hn

/-- Encodings of a row of code points. -/
def encs (L : List Nat) : List UInt8 := L.flatMap enc
/-- No high half directly before a low one; 'ah': what stands before is a high half. -/
def np : Bool → List Nat → Bool
  | _, [] => true
  | ah, c :: r => !(ah && isLo c) && np (isHi c) r

theorem encs_cons (c : Nat) (r : List Nat) : encs (c :: r) = enc c ++ encs r := by simp [encs]

theorem dec_encs (s : ByteArray) : ∀ (L : List Nat) (pre : List UInt8) (f : Nat) (ah : Bool), s.data.toList = pre ++ encs L → (∀ c ∈ L, c ≤ 1114111) → np ah L = true → s.size ≤ pre.length + f → dec s f pre.length ah = some L := by
  intro L
  induction L with
  | nil =>
    intro pre f ah h _ _ _
    have hz : ¬ pre.length < s.size := by
      have : s.size = pre.length := by
        have := congrArg List.length h
        simpa [encs] using this
      omega
    cases f with
    | zero => rfl
    | succ f => simp only [dec, hz, if_false]
  | cons c r ih =>
    intro pre f ah h hb hp hf
    have hsz : s.size = pre.length + ((encN c).length + (encs r).length) := by
      have := congrArg List.length h
      rw [encs_cons, List.length_append, List.length_append, enc_len] at this
      simpa using this
    have hl := encN_len c
    have hlt : pre.length < s.size := by omega
    have hc := hb c (by simp)
    have hbyte := encN_byte hc
    have hB : ∀ q, q < (encN c).length → B s (pre.length + q) = (encN c).getD q 0 := by
      intro q hq
      unfold B
      rw [h, encs_cons]
      rw [List.getElem?_append_right (by omega), Nat.add_sub_cancel_left, List.getElem?_append_left (by rw [enc_len]; exact hq)]
      unfold enc
      rw [List.getElem?_map, List.getD_eq_getElem?_getD, List.getElem?_eq_getElem hq]
      simp
      have := hbyte _ (List.getElem_mem hq)
      omega
    have hpt := enc_pt hc (by omega) hB
    obtain ⟨g, rfl⟩ : ∃ g, f = g + 1 := ⟨f - 1, by omega⟩
    simp only [dec, hlt, if_true, hpt]
    simp only [np, Bool.and_eq_true, Bool.not_eq_true'] at hp
    rw [if_neg (by
      rintro (x | ⟨x, y⟩)
      · omega
      · rw [x, y] at hp; simp at hp)]
    have h2 : s.data.toList = (pre ++ enc c) ++ encs r := by rw [h, encs_cons, List.append_assoc]
    have := ih (pre ++ enc c) g (isHi c) h2 (fun x hx => hb x (by simp [hx])) hp.2 (by rw [List.length_append, enc_len]; omega)
    rw [List.length_append, enc_len] at this
    rw [this]
    rfl

theorem pts_encs {L : List Nat} (hb : ∀ c ∈ L, c ≤ 1114111) (hp : np false L = true) : pts ⟨(encs L).toArray⟩ = some L := by
  unfold pts
  have := dec_encs ⟨(encs L).toArray⟩ L [] (ByteArray.size ⟨(encs L).toArray⟩) false (by simp) hb hp (by simp)
  exact this

theorem dec_back (s : ByteArray) : ∀ (f i : Nat) (ah : Bool) (L : List Nat), dec s f i ah = some L → i ≤ s.size → s.size ≤ i + f → s.data.toList.drop i = encs L ∧ np ah L = true := by
  intro f
  induction f with
  | zero =>
    intro i ah L h hi hf
    simp [dec] at h
    subst h
    refine ⟨?_, rfl⟩
    rw [List.drop_of_length_le (by simp; omega)]
    rfl
  | succ f ih =>
    intro i ah L h hi hf
    simp only [dec] at h
    split at h
    · rename_i hlt
      split at h
      · simp at h
      · rename_i hno
        simp only [Option.map_eq_some_iff] at h
        obtain ⟨r, hr, rfl⟩ := h
        have hn : (pt s i).2 ≠ 0 := fun x => hno (.inl x)
        have hle := pt_le s i hlt
        obtain ⟨e1, e2⟩ := pt_enc hlt hn
        obtain ⟨d1, d2⟩ := ih _ _ r hr hle (by omega)
        constructor
        · rw [encs_cons, ← d1]
          apply List.ext_getElem?
          intro q
          by_cases hq : q < (pt s i).2
          · rw [List.getElem?_append_left (by rw [enc_len]; omega), List.getElem?_drop]
            have hlt2 : i + q < s.data.toList.length := by simp; omega
            have := e2 q hq
            unfold B at this
            rw [List.getElem?_eq_getElem hlt2] at this ⊢
            unfold enc
            rw [List.getElem?_map, List.getElem?_eq_getElem (by omega)]
            rw [List.getD_eq_getElem?_getD, List.getElem?_eq_getElem (by omega)] at this
            simp only [Option.getD_some] at this
            simp only [Option.map_some, Option.some.injEq]
            rw [← this]
            simp
          · rw [List.getElem?_append_right (by rw [enc_len]; omega), enc_len, e1, List.getElem?_drop, List.getElem?_drop]
            congr 1
            omega
        · simp only [np, d2, Bool.and_true, Bool.not_eq_true']
          cases ha : ah && isLo (pt s i).1 with
          | false => rfl
          | true =>
            simp at ha
            exact absurd (.inr ha) hno
    · rename_i hlt
      simp at h
      subst h
      refine ⟨?_, rfl⟩
      rw [List.drop_of_length_le (by simp; omega)]
      rfl

theorem pts_back {s : ByteArray} {L : List Nat} (h : pts s = some L) : s.data.toList = encs L ∧ np false L = true := by
  have := dec_back s s.size 0 false L h (by omega) (by omega)
  simpa using this
end Go.Proofs.YtkknglmpdmhhjaaGreatDoor.Uni

/-
  Plain mathematics of chapter 1: units, pairs of surrogates and code points.
-/
namespace Go.Proofs.YtkknglmpdmhhjaaGreatDoor.Uni

/-- The code points of a row of units. -/
def cps : List Nat → List Nat
  | [] => []
  | [a] => [a]
  | a :: b :: r => if isHi a = true ∧ isLo b = true then (65536 + (a - 55296) * 1024 + (b - 56320)) :: cps r else a :: cps (b :: r)
def text (u : List Nat) : List UInt8 := encs (cps u)

theorem isHi_iff {c : Nat} : isHi c = true ↔ 55296 ≤ c ∧ c < 56320 := by simp [isHi]
theorem isLo_iff {c : Nat} : isLo c = true ↔ 56320 ≤ c ∧ c ≤ 57343 := by simp [isLo]
theorem uns_cons (c : Nat) (r : List Nat) : uns (c :: r) = un c ++ uns r := by simp [uns]

theorem cps_bd : ∀ u : List Nat, (∀ x ∈ u, x < 65536) → ∀ c ∈ cps u, c ≤ 1114111
  | [], _, c, hc => by simp [cps] at hc
  | [a], h, c, hc => by simp [cps] at hc; have := h a (by simp); omega
  | a :: b :: r, h, c, hc => by
    simp only [cps] at hc
    split at hc
    · rename_i hp
      have h1 := isHi_iff.1 hp.1
      have h2 := isLo_iff.1 hp.2
      rw [List.mem_cons] at hc
      rcases hc with hc | hc
      · omega
      · exact cps_bd r (fun x hx => h x (by simp [hx])) c hc
    · simp only [List.mem_cons] at hc
      rcases hc with rfl | hc
      · have := h c (by simp); omega
      · exact cps_bd (b :: r) (fun x hx => h x (by simp at hx ⊢; right; exact hx)) c hc

theorem uns_cps : ∀ u : List Nat, (∀ x ∈ u, x < 65536) → uns (cps u) = u
  | [], _ => rfl
  | [a], h => by have := h a (by simp); simp [cps, uns, un_small this]
  | a :: b :: r, h => by
    have ha := h a (by simp)
    simp only [cps]
    split
    · rename_i hp
      have h1 := isHi_iff.1 hp.1
      have h2 := isLo_iff.1 hp.2
      rw [uns_cons, un_great (by omega), uns_cps r (fun x hx => h x (by simp [hx]))]
      simp
      omega
    · rw [uns_cons, un_small ha, uns_cps (b :: r) (fun x hx => h x (by simp at hx ⊢; right; exact hx))]
      rfl

/-- The first code point of a row of units is a low half only if the first unit is. -/
theorem cps_head (b : Nat) (r : List Nat) : ∃ c t, cps (b :: r) = c :: t ∧ (isLo c = true → isLo b = true) := by
  match r with
  | [] => exact ⟨b, [], rfl, id⟩
  | d :: r =>
    simp only [cps]
    split
    · rename_i hp
      have h1 := isHi_iff.1 hp.1
      have h2 := isLo_iff.1 hp.2
      exact ⟨_, _, rfl, fun h => by have := isLo_iff.1 h; omega⟩
    · exact ⟨_, _, rfl, id⟩

theorem np_any {L : List Nat} : ∀ {ah : Bool}, np false L = true → (∀ c t, L = c :: t → ah = true → isLo c = false) → np ah L = true := by
  cases L with
  | nil => intro ah _ _; rfl
  | cons c t =>
    intro ah h1 h2
    simp only [np] at h1 ⊢
    simp at h1
    simp only [h1, Bool.and_true, Bool.not_eq_true']
    cases ah with
    | false => rfl
    | true => simpa using h2 c t rfl rfl

theorem np_cps : ∀ u : List Nat, np false (cps u) = true
  | [] => rfl
  | [a] => by simp [cps, np]
  | a :: b :: r => by
    simp only [cps]
    split
    · rename_i hp
      have h1 := isHi_iff.1 hp.1
      have h2 := isLo_iff.1 hp.2
      have e : isHi (65536 + (a - 55296) * 1024 + (b - 56320)) = false := by simp [isHi]; omega
      simp [np, e, np_cps r]
    · rename_i hp
      obtain ⟨c, t, hct, hlo⟩ := cps_head b r
      have ih := np_cps (b :: r)
      simp only [np, Bool.false_and, Bool.not_false, Bool.true_and]
      refine np_any ih ?_
      intro c' t' e ha
      rw [hct] at e
      obtain ⟨rfl, rfl⟩ := List.cons.inj e
      cases hl : isLo c with
      | false => rfl
      | true => exact absurd ⟨ha, hlo hl⟩ hp

theorem un_not_lo {c : Nat} (h : 65536 ≤ c) (hc : c ≤ 1114111) : isHi (55296 + (c - 65536) / 1024) = true ∧ isLo (56320 + (c - 65536) % 1024) = true := by
  rw [isHi_iff, isLo_iff]; omega

/-- The units of a row, taken together again: the first unit of what follows must not make a pair. -/
theorem cps_un (c : Nat) (hc : c ≤ 1114111) (u : List Nat) (h : ∀ b t, u = b :: t → isHi c = true → isLo b = false) : cps (un c ++ u) = c :: cps u := by
  by_cases hb : c < 65536
  · rw [un_small hb]
    match u, h with
    | [], _ => rfl
    | b :: t, h =>
      show cps (c :: b :: t) = _
      simp only [cps]
      rw [if_neg (by
        rintro ⟨h1, h2⟩
        have := h b t rfl h1
        rw [this] at h2
        cases h2)]
  · rw [un_great hb]
    have ⟨h1, h2⟩ := un_not_lo (c := c) (by omega) hc
    show cps ((55296 + (c - 65536) / 1024) :: (56320 + (c - 65536) % 1024) :: u) = _
    have e : 65536 + (55296 + (c - 65536) / 1024 - 55296) * 1024 + (56320 + (c - 65536) % 1024 - 56320) = c := by omega
    simp only [cps]
    rw [if_pos ⟨h1, h2⟩, e]

theorem uns_head {c : Nat} {r : List Nat} {b : Nat} {t : List Nat} (hc : c ≤ 1114111) (h : uns (c :: r) = b :: t) (hl : isLo b = true) : isLo c = true := by
  rw [uns_cons] at h
  have h2 := isLo_iff.1 hl
  by_cases hb : c < 65536
  · rw [un_small hb] at h
    simp at h
    rw [h.1]
    exact hl
  · rw [un_great hb] at h
    have h3 := (List.cons.inj h).1
    omega

theorem cps_uns : ∀ L : List Nat, (∀ c ∈ L, c ≤ 1114111) → np false L = true → cps (uns L) = L
  | [], _, _ => rfl
  | c :: r, hb, hp => by
    have hr : np false r = true := by
      simp only [np] at hp
      simp at hp
      revert hp
      cases r with
      | nil => intro _; rfl
      | cons d r => simp only [np]; intro hp; simp at hp ⊢; exact hp.2
    rw [uns_cons, cps_un c (hb c (by simp)), cps_uns r (fun x hx => hb x (by simp [hx])) hr]
    intro b t hbt hi
    cases hl : isLo b with
    | false => rfl
    | true =>
      match r, hbt, hb, hp with
      | [], hbt, _, _ => simp [uns] at hbt
      | d :: r, hbt, hb, hp =>
        have := uns_head (hb d (by simp)) hbt hl
        simp only [np] at hp
        simp [hi, this] at hp

def lh : Bool → List Nat → Bool
  | ah, [] => ah
  | _, c :: r => lh (isHi c) r
theorem np_append (A C : List Nat) : ∀ ah, np ah (A ++ C) = (np ah A && np (lh ah A) C) := by
  induction A with
  | nil => intro ah; simp [np, lh]
  | cons c r ih => intro ah; simp [np, lh, ih, Bool.and_assoc]
theorem lh_snoc (A : List Nat) (c : Nat) : ∀ ah, lh ah (A ++ [c]) = isHi c := by
  induction A with
  | nil => intro ah; rfl
  | cons d r ih => intro ah; simp [lh, ih]
theorem uns_append (A C : List Nat) : uns (A ++ C) = uns A ++ uns C := by simp [uns]
theorem encs_append (A C : List Nat) : encs (A ++ C) = encs A ++ encs C := by simp [encs]

theorem np_false {ah : Bool} {L : List Nat} (h : np ah L = true) : np false L = true := by
  cases L with
  | nil => rfl
  | cons c r => simp only [np] at h ⊢; simp at h ⊢; exact h.2

/-- What joins two rows without a pair at the seam. -/
theorem text_flat {A C : List Nat} (ha : ∀ c ∈ A, c ≤ 1114111) (hc : ∀ c ∈ C, c ≤ 1114111) (na : np false A = true) (nc : np false C = true) (hs : lh false A = false ∨ ∀ c t, C = c :: t → isLo c = false) :
    text (uns A ++ uns C) = encs A ++ encs C := by
  have h1 : np (lh false A) C = true := by
    rcases hs with hs | hs
    · rw [hs]; exact nc
    · exact np_any nc (fun c t e _ => hs c t e)
  unfold text
  rw [← uns_append, cps_uns _ (fun c h => (List.mem_append.1 h).elim (ha c) (hc c)) (by rw [np_append, na, h1]; rfl), encs_append]

/-- What joins two rows with a pair at the seam. -/
theorem text_pair {A C : List Nat} {h l : Nat} (ha : ∀ c ∈ A ++ [h], c ≤ 1114111) (hc : ∀ c ∈ l :: C, c ≤ 1114111) (na : np false (A ++ [h]) = true) (nc : np false (l :: C) = true) (hh : isHi h = true) (hl : isLo l = true) :
    text (uns (A ++ [h]) ++ uns (l :: C)) = encs A ++ enc (65536 + (h - 55296) * 1024 + (l - 56320)) ++ encs C := by
  have b1 := isHi_iff.1 hh
  have b2 := isLo_iff.1 hl
  obtain ⟨m, hm⟩ : ∃ m, m = 65536 + (h - 55296) * 1024 + (l - 56320) := ⟨_, rfl⟩
  have hmb : m ≤ 1114111 := by omega
  have hun : un m = [h, l] := by
    rw [un_great (by omega)]
    have e1 : 55296 + (m - 65536) / 1024 = h := by omega
    have e2 : 56320 + (m - 65536) % 1024 = l := by omega
    rw [e1, e2]
  have e : uns (A ++ [h]) ++ uns (l :: C) = uns (A ++ m :: C) := by
    rw [uns_append, uns_append, uns_cons, uns_cons, uns_cons, hun, un_small (by omega), un_small (by omega)]
    simp [uns]
  have hmh : isHi m = false := by cases x : isHi m with
    | false => rfl
    | true => have := isHi_iff.1 x; omega
  have hml : isLo m = false := by cases x : isLo m with
    | false => rfl
    | true => have := isLo_iff.1 x; omega
  have hlh : isHi l = false := by cases x : isHi l with
    | false => rfl
    | true => have := isHi_iff.1 x; omega
  have hnp : np false (A ++ m :: C) = true := by
    rw [np_append] at na ⊢
    simp only [np] at nc ⊢
    simp [hlh] at nc
    simp at na
    simp [na.1, hml, hmh, nc]
  unfold text
  rw [← hm, e, cps_uns _ (by
    intro c hx
    rcases List.mem_append.1 hx with hx | hx
    · exact ha c (by simp [hx])
    · rcases List.mem_cons.1 hx with hx | hx
      · omega
      · exact hc c (by simp [hx])) hnp, encs_append, encs_cons, List.append_assoc]
end Go.Proofs.YtkknglmpdmhhjaaGreatDoor.Uni

/-
  Plain mathematics of the lexer: what it gives for a list of bytes; nothing here speaks of the program.
-/
namespace Go.Proofs.YtkknglmpdmhhjaaGreatDoor.Lx
open Go.Proofs.YtkknglmpdmhhjaaGreatDoor.Uni Go.Proofs.YtkknglmpdmhhjaaGreatDoor.Nums
set_option linter.unusedVariables false

abbrev By := List UInt8

/-- Classes of code points. -/
def endN (p : Nat) : Bool := decide (p = 10) || decide (p = 13)
def whiteN (p : Nat) : Bool := decide (p = 32) || (decide (p = 9) || endN p)
def digitN (p : Nat) : Bool := decide (48 ≤ p) && decide (p ≤ 57)
def leadN (p : Nat) : Bool := decide (97 ≤ p) && decide (p ≤ 122) || (decide (65 ≤ p) && decide (p ≤ 90) || (decide (p = 95) || decide (p = 36)))
def contN (p : Nat) : Bool := leadN p || digitN p
def lineN (p : Nat) : Bool := decide (p ≠ 10)
def runN (q p : Nat) : Bool := decide (p ≠ q) && (decide (p ≠ 92) && !endN p)

/-- What a text begins with of a class. -/
def lead (f : Nat → Bool) (l : By) : By := l.takeWhile fun c => f c.toNat
theorem lead_nil (f : Nat → Bool) : lead f [] = [] := rfl
theorem lead_cons (f : Nat → Bool) (c : UInt8) (l : By) : lead f (c :: l) = if f c.toNat then c :: lead f l else [] := by
  unfold lead
  rw [List.takeWhile_cons]
theorem lead_len (f : Nat → Bool) (l : By) : (lead f l).length ≤ l.length := by
  unfold lead
  exact (List.takeWhile_sublist _).length_le
theorem lead_take (f : Nat → Bool) (l : By) : lead f l = l.take (lead f l).length := by
  induction l with
  | nil => rfl
  | cons c l ih =>
    rw [lead_cons]
    split
    · simp only [List.length_cons, List.take_succ_cons]
      rw [← ih]
    · rfl

/-- How long the white space or the comment is that a text begins with; 'none': the comment has no end. -/
def gapN (l : By) : Option Nat :=
  if Lib.hasPrefix l [47, 47] then some (lead lineN l).length
  else if Lib.hasPrefix l [47, 42] then (if 0 ≤ Lib.index (l.drop 2) [42, 47] then some (2 + (Lib.index (l.drop 2) [42, 47]).toNat + 2) else none)
  else some (lead whiteN l).length

/-- What is left behind white space and comments; false: a comment has no end. -/
def skipF : Nat → By → Bool × By
  | 0, l => (true, l)
  | f + 1, l => match gapN l with
    | none => (false, l)
    | some 0 => (true, l)
    | some (n + 1) => skipF f (l.drop (n + 1))
def skipL (l : By) : Bool × By := skipF l.length l

/-- A token without its place. -/
structure Tk where
  kind : Nat
  num : Int
  text : ByteArray

def used : List By := [[98, 114, 101, 97, 107], [99, 97, 116, 99, 104], [99, 111, 110, 115, 116], [99, 111, 110, 116, 105, 110, 117, 101], [100, 101, 108, 101, 116, 101], [101, 108, 115, 101], [102, 97, 108, 115, 101], [102, 105, 110, 97, 108, 108, 121], [102, 117, 110, 99, 116, 105, 111, 110], [105, 102], [105, 110], [108, 101, 116], [110, 101, 119], [110, 117, 108, 108], [114, 101, 116, 117, 114, 110], [116, 104, 105, 115], [116, 104, 114, 111, 119], [116, 114, 117, 101], [116, 114, 121], [116, 121, 112, 101, 111, 102], [117, 110, 100, 101, 102, 105, 110, 101, 100], [119, 104, 105, 108, 101]]
def unused : List By := [[97, 119, 97, 105, 116], [99, 97, 115, 101], [99, 108, 97, 115, 115], [100, 101, 98, 117, 103, 103, 101, 114], [100, 101, 102, 97, 117, 108, 116], [100, 111], [101, 110, 117, 109], [101, 120, 112, 111, 114, 116], [101, 120, 116, 101, 110, 100, 115], [102, 111, 114], [105, 109, 112, 108, 101, 109, 101, 110, 116, 115], [105, 109, 112, 111, 114, 116], [105, 110, 115, 116, 97, 110, 99, 101, 111, 102], [105, 110, 116, 101, 114, 102, 97, 99, 101], [112, 97, 99, 107, 97, 103, 101], [112, 114, 105, 118, 97, 116, 101], [112, 114, 111, 116, 101, 99, 116, 101, 100], [112, 117, 98, 108, 105, 99], [115, 116, 97, 116, 105, 99], [115, 117, 112, 101, 114], [115, 119, 105, 116, 99, 104], [118, 97, 114], [118, 111, 105, 100], [119, 105, 116, 104], [121, 105, 101, 108, 100]]
def wordF (l : By) : Nat := if l ∈ used then 1 else if l ∈ unused then 2 else 0

def signs : List By := [[61, 61, 61], [33, 61, 61], [38, 38], [124, 124], [60, 61], [62, 61], [123], [125], [40], [41], [91], [93], [59], [44], [46], [63], [58], [61], [60], [62], [43], [45], [42], [47], [37], [33]]
def signF (l : By) : Option By := signs.find? fun t => Lib.hasPrefix l t

def hexN (p : Nat) : Option Nat := if 48 ≤ p ∧ p ≤ 57 then some (p - 48) else if 97 ≤ p ∧ p ≤ 102 then some (p - 87) else if 65 ≤ p ∧ p ≤ 70 then some (p - 55) else none
def hexF : Nat → By → Option Nat
  | u, [] => some u
  | u, c :: r => match hexN c.toNat with
    | none => none
    | some d => hexF (u * 16 + d) r

/-- The unit of the escape sequence at the beginning, and its length: 0 if it isn't one. -/
def escF : By → Nat × Nat
  | _ :: c :: r =>
    if c = 110 then (10, 2) else if c = 116 then (9, 2) else if c = 92 ∨ c = 34 ∨ c = 39 then (c.toNat, 2)
    else if c = 117 then (if r.length < 4 then (0, 0) else match hexF 0 (r.take 4) with | none => (0, 0) | some u => (u, 6))
    else (0, 0)
  | _ => (0, 0)

inductive Got where
  | ok (t : Tk) (r : By)
  | bad (r : By)

/-- A string from behind its quote on; l0: from its quote on. -/
def quotF (q : Nat) (l0 : By) : Nat → List Nat → By → Got
  | 0, _, _ => .bad l0
  | f + 1, v, l => match l.drop (lead (runN q) l).length with
    | [] => .bad l0
    | c :: r => if endN c.toNat then .bad l0
      else if c = 92 then (if (escF (c :: r)).2 = 0 then .bad (c :: r) else quotF q l0 f (v ++ units ⟨(lead (runN q) l).toArray⟩ ++ [(escF (c :: r)).1]) ((c :: r).drop (escF (c :: r)).2))
      else if 10000 < (v ++ units ⟨(lead (runN q) l).toArray⟩).length then .bad l0
      else .ok ⟨4, 0, ⟨(text (v ++ units ⟨(lead (runN q) l).toArray⟩)).toArray⟩⟩ r

def nameF (l : By) : Got :=
  if wordF (lead contN l) = 2 then .bad l else .ok ⟨if wordF (lead contN l) = 1 then 2 else 1, 0, ⟨(lead contN l).toArray⟩⟩ (l.drop (lead contN l).length)
def numbF (l : By) : Got :=
  match readF (lead digitN l) with
  | none => .bad l
  | some n => if lead leadN (l.drop (lead digitN l).length) = [] then .ok ⟨3, n, ⟨#[]⟩⟩ (l.drop (lead digitN l).length) else .bad l
def signT (l : By) : Got := match signF l with
  | none => .bad l
  | some t => .ok ⟨5, 0, ⟨t.toArray⟩⟩ (l.drop t.length)
/-- One token at a place that is no white space. -/
def oneF (l : By) : Got := match l with
  | [] => .ok ⟨0, 0, ⟨#[]⟩⟩ []
  | c :: r => if leadN c.toNat then nameF l else if digitN c.toNat then numbF l else if c = 34 ∨ c = 39 then quotF c.toNat l (r.length + 1) [] r else signT l
/-- One token and what stands before it; the place is told by what is left. -/
def nextF (l : By) : Got := match skipL l with
  | (false, r) => .bad r
  | (true, r) => oneF r

/-- All tokens, each with how many bytes are left from it on; or how many are left where the error is. -/
def lexF : Nat → By → Except Nat (List (Tk × Nat))
  | 0, l => .error l.length
  | f + 1, l => match nextF l with
    | .bad r => .error r.length
    | .ok t r => if t.kind = 0 then .ok [(t, (skipL l).2.length)] else match lexF f r with
      | .error n => .error n
      | .ok ts => .ok ((t, (skipL l).2.length) :: ts)
end Go.Proofs.YtkknglmpdmhhjaaGreatDoor.Lx

/-
  The small functions of package units: what each call gives.
-/
namespace Go.Proofs.YtkknglmpdmhhjaaGreatDoor.Uni
open Go.RowKit
set_option linter.unusedVariables false

theorem ret_ib {k : IntKind} {a b : Int} {c : Bool} (h : a = b) : Ending.returned (.tuple #[.int k a, .bool c]) = Ending.returned (.tuple #[.int k b, .bool c]) := by rw [h]
theorem gB (s : ByteArray) : ∀ (n : Nat) (h : n < s.size), ((s[n]'h).toNat : Int) = ((B s n : Nat) : Int) := fun n h => by rw [B_get s n h]

/-- How many units a code point takes. -/
def wd (p : Nat) : Nat := if p < 65536 then 1 else 2
theorem width_any (p : Nat) (w : World) :
    Calls Tryz.prog 196 #[.int .i32 p] w fun e w' => e = .returned (.int .i64 (wd p)) ∧ w = w' := by
  by_cases h : (p : Int) < 65536
  · have e : wd p = 1 := if_pos (by omega)
    rw [e]
    clear e
    go_enter Tryz.func196, Tryz.ntmps196
    go_wp2
    go_ret
    exact ⟨rfl, rfl⟩
  · have e : wd p = 2 := if_neg (by omega)
    rw [e]
    clear e
    go_enter Tryz.func196, Tryz.ntmps196
    go_wp2
    go_ret
    exact ⟨rfl, rfl⟩

theorem isHigh_any (p : Nat) (w : World) :
    Calls Tryz.prog 187 #[.int .i32 p] w fun e w' => e = .returned (.bool (isHi p)) ∧ w = w' := by
  unfold isHi
  by_cases h : 55296 ≤ p
  · by_cases h2 : p < 56320
    · go_enter Tryz.func187, Tryz.ntmps187
      go_wp2
      go_ret
      exact ⟨by simp [h, h2]; try omega, rfl⟩
    · go_enter Tryz.func187, Tryz.ntmps187
      go_wp2
      go_ret
      exact ⟨by simp [h, h2]; try omega, rfl⟩
  · go_enter Tryz.func187, Tryz.ntmps187
    go_wp2
    go_ret
    exact ⟨by simp; try omega, rfl⟩

theorem isLow_any (p : Nat) (w : World) :
    Calls Tryz.prog 188 #[.int .i32 p] w fun e w' => e = .returned (.bool (isLo p)) ∧ w = w' := by
  unfold isLo
  by_cases h : 56320 ≤ p
  · by_cases h2 : p ≤ 57343
    · go_enter Tryz.func188, Tryz.ntmps188
      go_wp2
      go_ret
      exact ⟨by simp [h, h2]; try omega, rfl⟩
    · go_enter Tryz.func188, Tryz.ntmps188
      go_wp2
      go_ret
      exact ⟨by simp [h, h2]; try omega, rfl⟩
  · go_enter Tryz.func188, Tryz.ntmps188
    go_wp2
    go_ret
    exact ⟨by simp; try omega, rfl⟩

theorem and224 : ∀ a : Fin 256, (bits .and .u8 (a.val : Int) 224 = 160) ↔ a.val / 32 = 5 := by
  intro a
  have := u8_and_nat a.val 224 a.isLt (by omega)
  have e : ∀ a : Fin 256, (a.val &&& 224 = 160) ↔ a.val / 32 = 5 := by decide +kernel
  rw [show ((224 : Int)) = ((224 : Nat) : Int) from rfl, this]
  rw [← e a]
  omega
theorem and192 : ∀ a : Fin 256, (bits .and .u8 (a.val : Int) 192 = 128) ↔ a.val / 64 = 2 := by
  intro a
  have := u8_and_nat a.val 192 a.isLt (by omega)
  have e : ∀ a : Fin 256, (a.val &&& 192 = 128) ↔ a.val / 64 = 2 := by decide +kernel
  rw [show ((192 : Int)) = ((192 : Nat) : Int) from rfl, this]
  rw [← e a]
  omega
theorem and63 (a : Nat) (h : a < 256) : bits .and .u8 (a : Int) 63 = ((a % 64 : Nat) : Int) := by
  have := u8_and_nat a 63 h (by omega)
  rw [show ((63 : Int)) = ((63 : Nat) : Int) from rfl, this]
  rw [show (63 : Nat) = 2 ^ 6 - 1 from rfl, Nat.and_two_pow_sub_one_eq_mod]

set_option maxHeartbeats 400000 in
theorem first_no (s : ByteArray) (w : World) (hs : s.size ≤ 9223372036854775807) (h : surB s 0 = false) :
    Calls Tryz.prog 213 #[.string s] w fun e w' => e = .returned (.tuple #[.int .i32 0, .bool false]) ∧ w = w' := by
  have hn := surB_not h
  have hb := gB s
  have e1 := and224 ⟨B s 1, B_lt s 1⟩
  have e2 := and192 ⟨B s 2, B_lt s 2⟩
  clear h
  by_cases h3 : 3 ≤ s.size
  · by_cases h0 : B s 0 = 237
    · by_cases h1 : B s 1 / 32 = 5
      · have f1 := e1.2 h1
        have f2 : (bits .and .u8 (B s 2 : Int) 192 != 128) = true := by simp only [bne_iff_ne]; exact fun x => hn ⟨by omega, h0, h1, e2.1 x⟩
        have f0 : ((B s 0 : Nat) : Int) = 237 := by omega
        clear e1 e2 h0 h1 hn
        go_enter Tryz.func213, Tryz.ntmps213
        go_wp2
        go_ret2
        exact ⟨rfl, rfl⟩
      · have f1 : (bits .and .u8 (B s 1 : Int) 224 != 160) = true := by simp only [bne_iff_ne]; exact fun x => h1 (e1.1 x)
        have f0 : ((B s 0 : Nat) : Int) = 237 := by omega
        clear e1 e2 h0 h1 hn
        go_enter Tryz.func213, Tryz.ntmps213
        go_wp2
        go_ret2
        exact ⟨rfl, rfl⟩
    · have f0 : (((B s 0 : Nat) : Int) != 237) = true := by simp only [bne_iff_ne]; omega
      clear e1 e2 h0 hn
      go_enter Tryz.func213, Tryz.ntmps213
      go_wp2
      go_ret2
      exact ⟨rfl, rfl⟩
  · clear e1 e2 hn
    go_enter Tryz.func213, Tryz.ntmps213
    go_wp2
    go_ret2
    exact ⟨rfl, rfl⟩

set_option maxHeartbeats 400000 in
theorem first_yes (s : ByteArray) (w : World) (hs : s.size ≤ 9223372036854775807) (h : surB s 0 = true) :
    Calls Tryz.prog 213 #[.string s] w fun e w' => e = .returned (.tuple #[.int .i32 (surV s 0), .bool true]) ∧ ∃ n, w' = w.drewN n := by
  obtain ⟨h3, h0, h1, h2⟩ := surB_iff h
  have hb := gB s
  have f1 := (and224 ⟨B s 1, B_lt s 1⟩).2 h1
  have f2 := (and192 ⟨B s 2, B_lt s 2⟩).2 h2
  have f0 : ((B s 0 : Nat) : Int) = 237 := by omega
  have g1 := and63 (B s 1) (B_lt s 1)
  have g2 := and63 (B s 2) (B_lt s 2)
  simp only [Nat.zero_add] at h3 h1 h2
  have k1 : 1 < s.size := by omega
  have k2 : 2 < s.size := by omega
  clear h0 h1 h2 h
  go_enter Tryz.func213, Tryz.ntmps213
  go_wp2
  go_quiet (fail)
  go_wp2
  go_ret2
  exact ⟨ret_ib (by unfold surV; simp), _, rfl⟩
end Go.Proofs.YtkknglmpdmhhjaaGreatDoor.Uni
