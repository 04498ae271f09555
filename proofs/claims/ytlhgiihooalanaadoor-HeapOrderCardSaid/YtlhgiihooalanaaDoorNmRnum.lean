/-
  Plain mathematics of the reference's ReadNumber: bytes of a text, the number that a part of it spells, and why a text that it refuses is no number's.
-/
import Derived.Test.YtlhgiihooalanaaDoorNmNum
namespace Go.Proofs.YtlhgiihooalanaaDoor.Nums
open Go
set_option linter.unusedVariables false

/-- The k-th byte of a text, 0 behind its end. -/
def B (s : ByteArray) (k : Nat) : Nat := (s.data.toList[k]?.getD 0).toNat
theorem B_lt (s : ByteArray) (k : Nat) : B s k < 256 := by unfold B; exact UInt8.toNat_lt _
theorem B_get (s : ByteArray) (k : Nat) (h : k < s.size) : (s[k]'h).toNat = B s k := by
  unfold B
  have h' : k < s.data.toList.length := by simpa using h
  rw [List.getElem?_eq_getElem h']
  rfl
theorem gB (s : ByteArray) : ∀ (n : Nat) (h : n < s.size), ((s[n]'h).toNat : Int) = ((B s n : Nat) : Int) := fun n h => by rw [B_get s n h]
theorem size_eq (s : ByteArray) : s.data.toList.length = s.size := by simp

/-- The number that the bytes from i up to j spell. -/
def accJ (s : ByteArray) (i j : Nat) : Nat := valD ((s.data.toList.take j).drop i)
theorem accJ_start (s : ByteArray) (i : Nat) : accJ s i i = 0 := by
  unfold accJ
  rw [List.drop_eq_nil_of_le (by simp; omega)]
  rfl
theorem accJ_succ (s : ByteArray) (i j : Nat) (hi : i ≤ j) (hj : j < s.size) : accJ s i (j + 1) = accJ s i j * 10 + (B s j - 48) := by
  unfold accJ B
  have h' : j < s.data.toList.length := by rw [size_eq]; exact hj
  rw [List.take_succ_eq_append_getElem h', List.drop_append_of_le_length (by simp; omega), valD_snoc, List.getElem?_eq_getElem h']
  rfl
/-- The bytes from i up to j are digits. -/
def DigJ (s : ByteArray) (i j : Nat) : Prop := ∀ x, i ≤ x → x < j → 48 ≤ B s x ∧ B s x ≤ 57
theorem DigJ.start (s : ByteArray) (i : Nat) : DigJ s i i := fun x h1 h2 => by omega
theorem DigJ.next {s : ByteArray} {i j : Nat} (h : DigJ s i j) (h0 : 48 ≤ B s j) (h1 : B s j ≤ 57) : DigJ s i (j + 1) := fun x hx hy => by
  by_cases e : x = j
  · subst e; exact ⟨h0, h1⟩
  · exact h x hx (by omega)
theorem accJ_lt (s : ByteArray) (i m : Nat) (hj : i + m ≤ s.size) (hd : DigJ s i (i + m)) : accJ s i (i + m) < 10 ^ m := by
  induction m with
  | zero => rw [Nat.add_zero, accJ_start]; decide
  | succ m ih =>
    have h1 := ih (by omega) (fun x hx hy => hd x hx (by omega))
    have h2 := hd (i + m) (by omega) (by omega)
    rw [← Nat.add_assoc, accJ_succ s i (i + m) (by omega) (by omega), Nat.pow_succ]
    omega
theorem accJ_bd (s : ByteArray) (i j : Nat) (hij : i ≤ j) (hj : j ≤ s.size) (h16 : s.size ≤ i + 16) (hd : DigJ s i j) : accJ s i j < 10000000000000000 := by
  have h := accJ_lt s i (j - i) (by omega) (by rw [show i + (j - i) = j by omega]; exact hd)
  rw [show i + (j - i) = j by omega] at h
  have : 10 ^ (j - i) ≤ 10 ^ 16 := Nat.pow_le_pow_right (by decide) (by omega)
  omega

/-- A numeral's sign and digits. -/
theorem itoa_shape {v : Int} {l : List UInt8} (h : Lib.itoa v = l) : (v < 0 ∧ l = 45 :: Lib.decDigits v.natAbs) ∨ (0 ≤ v ∧ l = Lib.decDigits v.natAbs) := by
  unfold Lib.itoa at h
  split at h
  · exact .inl ⟨by assumption, h.symm⟩
  · have hv : 0 ≤ v := by omega
    refine .inr ⟨hv, ?_⟩
    rw [← h]
    congr 1
    omega

/-- Where the digits of a text begin: behind a sign. -/
def SgAt (s : ByteArray) (i : Nat) : Prop := (i = 0 ∧ (0 < s.size → B s 0 ≠ 45)) ∨ (i = 1 ∧ 0 < s.size ∧ B s 0 = 45)
/-- What the reference's ReadNumber says of a text: y and f. -/
def RN (s : ByteArray) (y : Int) (f : Bool) : Prop := (f = true → readF s.data.toList = some y) ∧ (f = false → readF s.data.toList = none)

theorem head_B {s : ByteArray} {c : UInt8} {r : List UInt8} (h : s.data.toList = c :: r) : B s 0 = c.toNat ∧ s.size = r.length + 1 := by
  refine ⟨by unfold B; rw [h]; rfl, by rw [← size_eq, h]; rfl⟩
theorem sg_digits {s : ByteArray} {i : Nat} (hi : SgAt s i) {v : Int} (h : Lib.itoa v = s.data.toList) :
    s.data.toList.drop i = Lib.decDigits v.natAbs ∧ s.size = i + (Lib.decDigits v.natAbs).length ∧ (i = 0 → 0 ≤ v) ∧ (i = 1 → v < 0) := by
  rcases itoa_shape h with ⟨hv, hl⟩ | ⟨hv, hl⟩
  · obtain ⟨hb, hz⟩ := head_B hl
    have hb : B s 0 = 45 := hb
    rcases hi with ⟨rfl, h0⟩ | ⟨rfl, _, _⟩
    · exact absurd hb (h0 (by omega))
    · exact ⟨by rw [hl]; rfl, by omega, fun e => by omega, fun _ => hv⟩
  · cases hd : Lib.decDigits v.natAbs with
    | nil => exact absurd hd (dec_ne _)
    | cons c r =>
      have hc := dec_digits v.natAbs c (by rw [hd]; simp)
      rw [hd] at hl
      obtain ⟨hb, hz⟩ := head_B hl
      rcases hi with ⟨rfl, h0⟩ | ⟨rfl, _, h1⟩
      · exact ⟨by rw [hl]; rfl, by simp; omega, fun _ => hv, fun e => by omega⟩
      · omega
theorem B_drop {s : ByteArray} {i m : Nat} {l : List UInt8} (h : s.data.toList.drop i = l) (hm : m < l.length) : B s (i + m) = (l[m]'hm).toNat := by
  subst h
  unfold B
  have : i + m < s.data.toList.length := by simp at hm; simp; omega
  rw [List.getElem?_eq_getElem this, List.getElem_drop]
  rfl

theorem rn_no {s : ByteArray} (h : ∀ v, sf v = true → Lib.itoa v = s.data.toList → False) (y : Int) : RN s y false := ⟨fun h => (by cases h), fun _ => readF_no h⟩
theorem rn_short {s : ByteArray} {i : Nat} (hi : SgAt s i) (h : s.size ≤ i) : RN s 0 false := rn_no (fun v _ hl => by
  have := (sg_digits hi hl).2.1
  have h2 : (Lib.decDigits v.natAbs).length ≠ 0 := fun e => dec_ne v.natAbs (List.length_eq_zero_iff.1 e)
  omega) 0
theorem rn_long {s : ByteArray} {i : Nat} (hi : SgAt s i) (h : i + 16 < s.size) : RN s 0 false := rn_no (fun v hv hl => by
  have := (sg_digits hi hl).2.1
  have h0 := sf_true hv
  have h2 := dec_len 15 v.natAbs (by omega)
  omega) 0
theorem rn_zero {s : ByteArray} {i : Nat} (hi : SgAt s i) (h0 : B s i = 48) (h : 1 < s.size) : RN s 0 false := rn_no (fun v hv hl => by
  obtain ⟨hd, hz, hp, hn⟩ := sg_digits hi hl
  cases hdd : Lib.decDigits v.natAbs with
  | nil => exact dec_ne _ hdd
  | cons c r =>
    have hb := B_drop (m := 0) hd (by rw [hdd]; simp)
    simp only [Nat.add_zero, hdd, List.getElem_cons_zero] at hb
    have hv0 : v.natAbs = 0 := by
      rcases Nat.eq_zero_or_pos v.natAbs with e | e
      · exact e
      · exact absurd (hb.symm.trans h0) (dec_head v.natAbs e c (by rw [hdd]; rfl))
    have hv1 : v = 0 := by omega
    have hl1 : (Lib.decDigits v.natAbs).length = 1 := by rw [hv0, Lib.decDigits_one (by decide)]; rfl
    rcases hi with ⟨rfl, _⟩ | ⟨rfl, _⟩
    · omega
    · have := hn rfl; omega) 0
theorem rn_digit {s : ByteArray} {i j : Nat} (hi : SgAt s i) (hij : i ≤ j) (hj : j < s.size) (h : B s j < 48 ∨ 57 < B s j) : RN s 0 false := rn_no (fun v hv hl => by
  obtain ⟨hd, hz, _, _⟩ := sg_digits hi hl
  have hm : j - i < (Lib.decDigits v.natAbs).length := by omega
  have hb := B_drop (m := j - i) hd hm
  rw [show i + (j - i) = j by omega] at hb
  have := dec_digits v.natAbs _ (List.getElem_mem hm)
  omega) 0
theorem accJ_whole {s : ByteArray} {i : Nat} (hi : SgAt s i) {v : Int} (hl : Lib.itoa v = s.data.toList) : accJ s i s.size = v.natAbs := by
  obtain ⟨hd, _, _, _⟩ := sg_digits hi hl
  unfold accJ
  rw [List.take_of_length_le (by rw [size_eq]; exact Nat.le_refl _), hd, val_dec]
/-- The digits of a text, one by one. -/
theorem dig_each {s : ByteArray} {i : Nat} (hd : DigJ s i s.size) : ∀ c ∈ s.data.toList.drop i, 48 ≤ c.toNat ∧ c.toNat ≤ 57 := fun c hc => by
  obtain ⟨m, hm, rfl⟩ := List.getElem_of_mem hc
  have hm' : m < s.size - i := by simpa using hm
  have hb := B_drop (s := s) (i := i) (m := m) rfl hm
  have := hd (i + m) (by omega) (by omega)
  omega
theorem head_not {s : ByteArray} {i : Nat} (h : B s i ≠ 48 ∨ s.size ≤ i + 1) : ∀ c r, s.data.toList.drop i = c :: r → c.toNat = 48 → r = [] := fun c r e hc => by
  have hl : (s.data.toList.drop i).length = s.size - i := by simp
  rw [e] at hl
  rcases h with h | h
  · have hb := B_drop (m := 0) e (by simp)
    simp only [Nat.add_zero, List.getElem_cons_zero] at hb
    exact absurd (hb.trans hc) h
  · simp at hl
    exact List.length_eq_zero_iff.1 (by omega)
theorem acc_dec {s : ByteArray} {i : Nat} (hs : i < s.size) (hd : DigJ s i s.size) (hz : B s i ≠ 48 ∨ s.size ≤ i + 1) : Lib.decDigits (accJ s i s.size) = s.data.toList.drop i := by
  unfold accJ
  rw [List.take_of_length_le (by rw [size_eq]; exact Nat.le_refl _)]
  refine dec_of_digits _ _ rfl (fun e => ?_) (dig_each hd) (head_not hz)
  have := congrArg List.length e
  simp at this
  omega
theorem rn_mk {s : ByteArray} {y : Int} (h : Lib.itoa y = s.data.toList) : RN s y (sf y) := ⟨fun hf => readF_mk hf h, fun hf => readF_no fun v hv hl => by
  have e : v = y := itoa_inj (hl.trans h.symm)
  rw [e, hf] at hv
  cases hv⟩
theorem rn_pos {s : ByteArray} (hs : 0 < s.size) (hd : DigJ s 0 s.size) (hz : B s 0 ≠ 48 ∨ s.size ≤ 1) : RN s (accJ s 0 s.size : Nat) (sf (accJ s 0 s.size : Nat)) := rn_mk (by
  have e : Lib.itoa ((accJ s 0 s.size : Nat) : Int) = Lib.decDigits (accJ s 0 s.size) := if_neg (by omega)
  rw [e, acc_dec hs hd hz]; rfl)
theorem rn_neg {s : ByteArray} (hi : SgAt s 1) (hs : 1 < s.size) (hd : DigJ s 1 s.size) (hz : B s 1 ≠ 48) : RN s (-(accJ s 1 s.size : Nat)) (sf (-(accJ s 1 s.size : Nat))) := rn_mk (by
  have hdec := acc_dec hs hd (.inl hz)
  have h45 : B s 0 = 45 := by
    rcases hi with ⟨h, _⟩ | ⟨_, _, h⟩
    · omega
    · exact h
  have hpos : accJ s 1 s.size ≠ 0 := fun e => by
    rw [e, Lib.decDigits_one (by decide)] at hdec
    have hb := B_drop (m := 0) hdec.symm (by simp)
    simp only [Nat.add_zero, List.getElem_cons_zero] at hb
    exact hz hb
  have ei : Lib.itoa (-((accJ s 1 s.size : Nat) : Int)) = 45 :: Lib.decDigits (accJ s 1 s.size) := by
    unfold Lib.itoa
    rw [if_pos (by omega)]
    congr 2
    omega
  rw [ei, hdec]
  have hl : 0 < s.data.toList.length := by rw [size_eq]; omega
  have e0 : s.data.toList = s.data.toList[0] :: s.data.toList.drop 1 := by
    conv => lhs; rw [← List.drop_zero (l := s.data.toList), List.drop_eq_getElem_cons hl]
  rw [e0]
  congr 1
  have hb : B s 0 = (s.data.toList[0]).toNat := by
    unfold B
    rw [List.getElem?_eq_getElem hl]
    rfl
  apply UInt8.toNat_inj.1
  rw [← hb, h45]
  rfl)
/-- What ReadNumber gives of a text that spells its own number. -/
theorem RN.yes {s : ByteArray} {y : Int} {f : Bool} (h : RN s y f) {n : Int} (hr : readF s.data.toList = some n) : y = n ∧ f = true := by
  cases f with
  | false => rw [h.2 rfl] at hr; cases hr
  | true => rw [h.1 rfl] at hr; exact ⟨Option.some.inj hr, rfl⟩
theorem RN.no {s : ByteArray} {y : Int} {f : Bool} (h : RN s y f) (hr : readF s.data.toList = none) : f = false := by
  cases f with
  | false => rfl
  | true => rw [h.1 rfl] at hr; cases hr
end Go.Proofs.YtlhgiihooalanaaDoor.Nums
