/-
  Plain mathematics of chapter 1: bytes, code points and 16-bit units; nothing here speaks of the program.
-/
import Derived.Laws.RangeString
import Derived.Laws.RangeAny
namespace Go.Proofs.YthfgicdpbbpnjaaGreat.Uni

/-- The byte at a place, 0 beyond the end. -/
def B (s : ByteArray) (k : Nat) : Nat := (s.data.toList[k]?.getD 0).toNat

theorem B_lt (s : ByteArray) (k : Nat) : B s k < 256 := by unfold B; exact UInt8.toNat_lt _
theorem B_get (s : ByteArray) (k : Nat) (h : k < s.size) : (s[k]'h).toNat = B s k := by
  unfold B
  have h' : k < s.data.toList.length := by simpa using h
  rw [List.getElem?_eq_getElem h']
  rfl
theorem B_get! (s : ByteArray) (k : Nat) : (s.get! k).toNat = B s k := by
  by_cases h : k < s.size
  · rw [← B_get s k h]
    have := get_at s k h
    simp only [Nat.add_zero] at this
    rw [this]
  · unfold B
    have h' : ¬ k < s.data.size := by simpa using h
    have e : s.data[k]? = none := by simp; exact Nat.le_of_not_lt h'
    have e2 : s.data[k]! = default := by rw [getElem!_def, e]
    simp only [ByteArray.get!, e2]
    have e3 : s.data.toList[k]? = none := by simp; exact Nat.le_of_not_lt h'
    rw [e3]
    rfl
theorem B_out (s : ByteArray) (k : Nat) (h : s.size ≤ k) : B s k = 0 := by
  unfold B
  rw [List.getElem?_eq_none (by simpa using h)]
  rfl
theorem B_extract (s : ByteArray) (i k : Nat) : B (s.extract i s.size) k = B s (i + k) := by
  by_cases h : i + k < s.size
  · have h' : k < (s.extract i s.size).size := by simp; omega
    rw [← B_get _ _ h', ← B_get _ _ h]
    congr 1
    exact ByteArray.getElem_extract h'
  · rw [B_out s (i + k) (by omega), B_out _ k (by simp; omega)]

/-- Does a single surrogate's encoding stand at a place? -/
def surB (s : ByteArray) (i : Nat) : Bool := decide (i + 3 ≤ s.size ∧ B s i = 237 ∧ B s (i + 1) / 32 = 5 ∧ B s (i + 2) / 64 = 2)
def surV (s : ByteArray) (i : Nat) : Nat := 53248 + B s (i + 1) % 64 * 64 + B s (i + 2) % 64

theorem sur_at (s : ByteArray) (i : Nat) : surB (s.extract i s.size) 0 = surB s i := by
  unfold surB
  simp only [B_extract, Nat.zero_add, Nat.add_zero]
  have : (3 ≤ (s.extract i s.size).size) ↔ (i + 3 ≤ s.size) := by simp; omega
  simp only [this]
theorem surV_at (s : ByteArray) (i : Nat) : surV (s.extract i s.size) 0 = surV s i := by
  unfold surV
  simp only [B_extract, Nat.zero_add]
theorem surB_iff {s : ByteArray} {i : Nat} (h : surB s i = true) : i + 3 ≤ s.size ∧ B s i = 237 ∧ B s (i + 1) / 32 = 5 ∧ B s (i + 2) / 64 = 2 := of_decide_eq_true h
theorem surB_not {s : ByteArray} {i : Nat} (h : surB s i = false) : ¬ (i + 3 ≤ s.size ∧ B s i = 237 ∧ B s (i + 1) / 32 = 5 ∧ B s (i + 2) / 64 = 2) := of_decide_eq_false h
theorem surV_bd {s : ByteArray} {i : Nat} (h : surB s i = true) : 55296 ≤ surV s i ∧ surV s i ≤ 57343 := by
  obtain ⟨_, _, h1, h2⟩ := surB_iff h
  have := B_lt s (i + 1)
  unfold surV
  omega

/-- The model's decoding, in bytes' numbers. -/
theorem dec_eq (s : ByteArray) (i : Nat) : Utf8.decode s i =
    (if B s i < 128 then (B s i, 1)
     else if B s i / 32 = 6 ∧ i + 1 < s.size ∧ B s (i + 1) / 64 = 2 then
       (if 128 ≤ (B s i % 32) * 64 + B s (i + 1) % 64 then ((B s i % 32) * 64 + B s (i + 1) % 64, 2) else (65533, 1))
     else if B s i / 16 = 14 ∧ i + 1 < s.size ∧ B s (i + 1) / 64 = 2 ∧ i + 2 < s.size ∧ B s (i + 2) / 64 = 2 then
       (if 2048 ≤ (B s i % 16) * 4096 + B s (i + 1) % 64 * 64 + B s (i + 2) % 64 ∧ ((B s i % 16) * 4096 + B s (i + 1) % 64 * 64 + B s (i + 2) % 64 < 55296 ∨ 57344 ≤ (B s i % 16) * 4096 + B s (i + 1) % 64 * 64 + B s (i + 2) % 64)
        then ((B s i % 16) * 4096 + B s (i + 1) % 64 * 64 + B s (i + 2) % 64, 3) else (65533, 1))
     else if B s i / 8 = 30 ∧ i + 1 < s.size ∧ B s (i + 1) / 64 = 2 ∧ i + 2 < s.size ∧ B s (i + 2) / 64 = 2 ∧ i + 3 < s.size ∧ B s (i + 3) / 64 = 2 then
       (if 65536 ≤ (B s i % 8) * 262144 + B s (i + 1) % 64 * 4096 + B s (i + 2) % 64 * 64 + B s (i + 3) % 64 ∧ (B s i % 8) * 262144 + B s (i + 1) % 64 * 4096 + B s (i + 2) % 64 * 64 + B s (i + 3) % 64 ≤ 1114111
        then ((B s i % 8) * 262144 + B s (i + 1) % 64 * 4096 + B s (i + 2) % 64 * 64 + B s (i + 3) % 64, 4) else (65533, 1))
     else (65533, 1)) := by
  unfold Utf8.decode Utf8.valid Utf8.runeError
  simp only [B_get!, Nat.add_zero, ge_iff_le]
  have h0 := B_lt s i
  have h1 := B_lt s (i + 1)
  have h2 := B_lt s (i + 2)
  have h3 := B_lt s (i + 3)
  by_cases a : B s i < 128
  · rw [if_pos a, if_pos a]
  · rw [if_neg a, if_neg a]
    by_cases b : B s i / 32 = 6 ∧ i + 1 < s.size ∧ B s (i + 1) / 64 = 2
    · rw [if_pos (by simp [b]), if_pos b]
    · rw [if_neg (by simp; intro x y; omega), if_neg b]
      by_cases c : B s i / 16 = 14 ∧ i + 1 < s.size ∧ B s (i + 1) / 64 = 2 ∧ i + 2 < s.size ∧ B s (i + 2) / 64 = 2
      · rw [if_pos (by simp [c]), if_pos c]
        refine ite_congr ?_ (fun _ => rfl) (fun _ => rfl)
        simp
        intro _
        omega
      · rw [if_neg (by simp; intro x y; omega), if_neg c]
        by_cases d : B s i / 8 = 30 ∧ i + 1 < s.size ∧ B s (i + 1) / 64 = 2 ∧ i + 2 < s.size ∧ B s (i + 2) / 64 = 2 ∧ i + 3 < s.size ∧ B s (i + 3) / 64 = 2
        · rw [if_pos (by simp [d]), if_pos d]
          refine ite_congr ?_ (fun _ => rfl) (fun _ => rfl)
          simp
          intro _
          omega
        · rw [if_neg (by simp; intro x y; omega), if_neg d]

theorem decode_sur {s : ByteArray} {i : Nat} (h : surB s i = true) : Utf8.decode s i = (65533, 1) ∧ Utf8.decode s (i + 1) = (65533, 1) ∧ Utf8.decode s (i + 2) = (65533, 1) := by
  obtain ⟨h0, h1, h2, h3⟩ := surB_iff h
  have := B_lt s (i + 1)
  have := B_lt s (i + 2)
  refine ⟨?_, ?_, ?_⟩
  · rw [dec_eq]
    rw [if_neg (by omega), if_neg (by omega), if_pos (by omega), if_neg (by omega)]
  · rw [dec_eq]
    rw [if_neg (by omega), if_neg (by omega), if_neg (by omega), if_neg (by omega)]
  · rw [dec_eq]
    rw [if_neg (by omega), if_neg (by omega), if_neg (by omega), if_neg (by omega)]

/-- What decoding gives, put short. -/
theorem decode_cases (s : ByteArray) (i : Nat) (hi : i < s.size) :
    (Utf8.decode s i = (65533, 1)) ∨
    (1 ≤ (Utf8.decode s i).2 ∧ i + (Utf8.decode s i).2 ≤ s.size ∧ (Utf8.decode s i).2 ≤ 4 ∧ (Utf8.decode s i).1 ≤ 1114111 ∧ ((Utf8.decode s i).1 < 55296 ∨ 57344 ≤ (Utf8.decode s i).1) ∧
      ((Utf8.decode s i).1 = 65533 → (Utf8.decode s i).2 = 3)) := by
  have h0 := B_lt s i
  have h1 := B_lt s (i + 1)
  have h2 := B_lt s (i + 2)
  have h3 := B_lt s (i + 3)
  rw [dec_eq]
  split
  · right; simp; omega
  · split
    · split
      · right; simp; omega
      · left; rfl
    · split
      · split
        · right; simp; omega
        · left; rfl
      · split
        · split
          · right; simp; omega
          · left; rfl
        · left; rfl

/-- The three bytes of the replacement character, and decoding. -/
theorem decode_fffd (s : ByteArray) (i : Nat) : Utf8.decode s i = (65533, 3) ↔ (i + 3 ≤ s.size ∧ B s i = 239 ∧ B s (i + 1) = 191 ∧ B s (i + 2) = 189) := by
  have h0 := B_lt s i
  have h1 := B_lt s (i + 1)
  have h2 := B_lt s (i + 2)
  have h3 := B_lt s (i + 3)
  constructor
  · intro h
    rw [dec_eq] at h
    split at h
    · simp at h
    · split at h
      · split at h <;> simp at h
      · split at h
        · split at h
          · simp at h; omega
          · simp at h
        · split at h
          · split at h <;> simp at h
          · simp at h
  · intro h
    rw [dec_eq]
    rw [if_neg (by omega), if_neg (by omega), if_pos (by omega), if_pos (by omega)]
    simp; omega

/-- The code point at a place and how many bytes it has; 0 bytes: there is none. -/
def pt (s : ByteArray) (i : Nat) : Nat × Nat :=
  if surB s i then (surV s i, 3) else if Utf8.decode s i = (65533, 1) then (0, 0) else Utf8.decode s i
def isHi (c : Nat) : Bool := decide (55296 ≤ c ∧ c < 56320)
def isLo (c : Nat) : Bool := decide (56320 ≤ c ∧ c ≤ 57343)

/-- The code points from a place on; 'none': the text isn't valid there. 'ah': the one before is a high half. -/
def dec (s : ByteArray) : Nat → Nat → Bool → Option (List Nat)
  | 0, _, _ => some []
  | f + 1, i, ah => if i < s.size then (if (pt s i).2 = 0 ∨ (ah = true ∧ isLo (pt s i).1 = true) then none else (dec s f (i + (pt s i).2) (isHi (pt s i).1)).map ((pt s i).1 :: ·)) else some []
def pts (s : ByteArray) : Option (List Nat) := dec s s.size 0 false

/-- What has been taken so far, and what is still to come. -/
def Went (s : ByteArray) (done : List Nat) (f i : Nat) (ah : Bool) : Prop :=
  s.size ≤ i + f ∧ i ≤ s.size ∧ done.length ≤ i ∧ pts s = (dec s f i ah).map (done ++ ·)
theorem went_start (s : ByteArray) : Went s [] s.size 0 false := by
  refine ⟨by omega, by omega, by simp, ?_⟩
  unfold pts
  cases dec s s.size 0 false <;> simp
theorem went_end {s : ByteArray} {done : List Nat} {f i : Nat} {ah : Bool} (h : Went s done f i ah) (hi : ¬ i < s.size) : pts s = some done := by
  rw [h.2.2.2]
  cases f with
  | zero => simp [dec]
  | succ f => simp [dec, hi]
theorem went_step {s : ByteArray} {done : List Nat} {f i : Nat} {ah : Bool} (h : Went s done f i ah) (hi : i < s.size) (hn : 1 ≤ (pt s i).2) (hs : i + (pt s i).2 ≤ s.size)
    (ha : ¬ (ah = true ∧ isLo (pt s i).1 = true)) : ∃ g, Went s (done ++ [(pt s i).1]) g (i + (pt s i).2) (isHi (pt s i).1) := by
  obtain ⟨h1, h2, h3, h4⟩ := h
  obtain ⟨g, rfl⟩ : ∃ g, f = g + 1 := ⟨f - 1, by omega⟩
  refine ⟨g, by omega, hs, by simp; omega, ?_⟩
  rw [h4]
  simp only [dec, hi, if_true]
  rw [if_neg (fun x => x.elim (by omega) ha)]
  cases dec s g (i + (pt s i).2) (isHi (pt s i).1) <;> simp
theorem went_none {s : ByteArray} {done : List Nat} {f i : Nat} {ah : Bool} (h : Went s done f i ah) (hi : i < s.size) (hn : (pt s i).2 = 0) : pts s = none := by
  obtain ⟨h1, h2, h3, h4⟩ := h
  obtain ⟨g, rfl⟩ : ∃ g, f = g + 1 := ⟨f - 1, by omega⟩
  rw [h4]
  simp [dec, hi, hn]
theorem went_pair {s : ByteArray} {done : List Nat} {f i : Nat} {ah : Bool} (h : Went s done f i ah) (hi : i < s.size) (ha : ah = true) (hl : isLo (pt s i).1 = true) : pts s = none := by
  obtain ⟨h1, h2, h3, h4⟩ := h
  obtain ⟨g, rfl⟩ : ∃ g, f = g + 1 := ⟨f - 1, by omega⟩
  rw [h4]
  simp [dec, hi, ha, hl]

theorem pt_sur {s : ByteArray} {i : Nat} (h : surB s i = true) : pt s i = (surV s i, 3) := by unfold pt; rw [if_pos h]
theorem pt_none {s : ByteArray} {i : Nat} (h : surB s i = false) (h2 : Utf8.decode s i = (65533, 1)) : pt s i = (0, 0) := by
  unfold pt; rw [if_neg (by simp [h]), if_pos h2]
theorem pt_dec {s : ByteArray} {i : Nat} (h2 : ¬ Utf8.decode s i = (65533, 1)) : pt s i = Utf8.decode s i := by
  unfold pt
  rw [if_neg (fun h => h2 (decode_sur h).1), if_neg h2]

/-- The units of a code point, of a row of them, of a text. -/
def un (p : Nat) : List Nat := if p < 65536 then [p] else [55296 + (p - 65536) / 1024, 56320 + (p - 65536) % 1024]
def uns (l : List Nat) : List Nat := l.flatMap un
def units (s : ByteArray) : List Nat := ((pts s).map uns).getD []
theorem un_small {p : Nat} (h : p < 65536) : un p = [p] := if_pos h
theorem un_great {p : Nat} (h : ¬ p < 65536) : un p = [55296 + (p - 65536) / 1024, 56320 + (p - 65536) % 1024] := if_neg h
theorem un_len (p : Nat) : (un p).length = if p < 65536 then 1 else 2 := by unfold un; split <;> rfl
theorem uns_snoc (l : List Nat) (p : Nat) : uns (l ++ [p]) = uns l ++ un p := by simp [uns]
theorem uns_le (l : List Nat) : (uns l).length ≤ 2 * l.length := by
  induction l with
  | nil => simp [uns]
  | cons a r ih =>
    have h1 : uns (a :: r) = un a ++ uns r := by simp [uns]
    have h2 := un_len a
    rw [h1, List.length_append, List.length_cons]
    split at h2 <;> omega
theorem dec_len (s : ByteArray) : ∀ f i ah l, dec s f i ah = some l → i ≤ s.size → (∀ j, j < s.size → j + (pt s j).2 ≤ s.size) → l.length + i ≤ s.size := by
  intro f
  induction f with
  | zero => intro i ah l h hi _; simp [dec] at h; subst h; simpa using hi
  | succ f ih =>
    intro i ah l h hi hpt
    simp only [dec] at h
    split at h
    · rename_i hlt
      split at h
      · simp at h
      · rename_i hn
        simp only [Option.map_eq_some_iff] at h
        obtain ⟨r, hr, rfl⟩ := h
        have h2 := ih _ _ r hr (hpt i hlt) hpt
        have : (pt s i).2 ≠ 0 := fun x => hn (.inl x)
        simp only [List.length_cons]
        omega
    · simp at h; subst h; simpa using hi
theorem pt_le (s : ByteArray) (i : Nat) (h : i < s.size) : i + (pt s i).2 ≤ s.size := by
  unfold pt
  split
  · rename_i h'; exact (surB_iff h').1
  · split
    · simp; omega
    · rename_i h2
      rcases decode_cases s i h with h3 | h3
      · exact absurd h3 h2
      · exact h3.2.1
theorem pts_len {s : ByteArray} {l : List Nat} (h : pts s = some l) : l.length ≤ s.size := by
  have := dec_len s _ _ _ l h (Nat.zero_le _) (pt_le s)
  omega
theorem units_le (s : ByteArray) : (units s).length ≤ 2 * s.size := by
  unfold units
  cases h : pts s with
  | none => simp
  | some l => simp; have := uns_le l; have := pts_len h; omega
end Go.Proofs.YthfgicdpbbpnjaaGreat.Uni
