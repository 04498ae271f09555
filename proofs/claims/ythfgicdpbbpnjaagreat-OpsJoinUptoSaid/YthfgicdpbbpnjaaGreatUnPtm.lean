/-
  Plain mathematics of a code point's decoding by the reference's steps.
-/
import Derived.Test.YthfgicdpbbpnjaaGreatUnMath
namespace Go.Proofs.YthfgicdpbbpnjaaGreat.Uni

def acc (s : ByteArray) (i c0 : Nat) : Nat → Nat
  | 0 => c0
  | 1 => c0
  | k + 2 => acc s i c0 (k + 1) * 64 + B s (i + (k + 1)) % 64
theorem acc_succ (s : ByteArray) (i c0 k : Nat) (h : 1 ≤ k) : acc s i c0 (k + 1) = acc s i c0 k * 64 + B s (i + k) % 64 := by
  obtain ⟨j, rfl⟩ : ∃ j, k = j + 1 := ⟨k - 1, by omega⟩
  rfl
def Cls (b n c0 low : Nat) : Prop :=
  (194 ≤ b ∧ b ≤ 223 ∧ n = 2 ∧ c0 = b % 32 ∧ low = 128) ∨ (224 ≤ b ∧ b ≤ 239 ∧ n = 3 ∧ c0 = b % 16 ∧ low = 2048) ∨ (240 ≤ b ∧ b ≤ 244 ∧ n = 4 ∧ c0 = b % 8 ∧ low = 65536)
def Conts (s : ByteArray) (i k : Nat) : Prop := ∀ q, 1 ≤ q → q < k → B s (i + q) / 64 = 2

theorem acc_le (s : ByteArray) (i c0 : Nat) (h : c0 ≤ 31) : ∀ k, k ≤ 4 → acc s i c0 k ≤ 32 * 262144 := by
  intro k hk
  have a1 : acc s i c0 1 = c0 := rfl
  have a2 : acc s i c0 2 = acc s i c0 1 * 64 + B s (i + 1) % 64 := rfl
  have a3 : acc s i c0 3 = acc s i c0 2 * 64 + B s (i + 2) % 64 := rfl
  have a4 : acc s i c0 4 = acc s i c0 3 * 64 + B s (i + 3) % 64 := rfl
  have e : k = 0 ∨ k = 1 ∨ k = 2 ∨ k = 3 ∨ k = 4 := by omega
  rcases e with rfl | rfl | rfl | rfl | rfl
  · show c0 ≤ _; omega
  all_goals omega

theorem pt_ascii {s : ByteArray} {i : Nat} (h : B s i < 128) : pt s i = (B s i, 1) := by
  unfold pt
  have h1 : surB s i = false := by
    cases e : surB s i with
    | false => rfl
    | true => have := surB_iff e; omega
  have hd : Utf8.decode s i = (B s i, 1) := by rw [dec_eq, if_pos h]
  rw [if_neg (by rw [h1]; simp), hd]
  rw [if_neg (by simp; omega)]

theorem pt_ok {s : ByteArray} {i n c0 low : Nat} (h : Cls (B s i) n c0 low) (hs : i + n ≤ s.size) (hc : Conts s i n) (hl : low ≤ acc s i c0 n) (hm : acc s i c0 n ≤ 1114111) : pt s i = (acc s i c0 n, n) := by
  have b0 := B_lt s i
  have b1 := B_lt s (i + 1)
  have b2 := B_lt s (i + 2)
  have b3 := B_lt s (i + 3)
  rcases h with ⟨h1, h2, rfl, rfl, rfl⟩ | ⟨h1, h2, rfl, rfl, rfl⟩ | ⟨h1, h2, rfl, rfl, rfl⟩
  · have k1 := hc 1 (by omega) (by omega)
    have e : acc s i (B s i % 32) 2 = B s i % 32 * 64 + B s (i + 1) % 64 := rfl
    rw [e] at hl hm ⊢
    have hd : Utf8.decode s i = (B s i % 32 * 64 + B s (i + 1) % 64, 2) := by rw [dec_eq, if_neg (by omega), if_pos (by omega), if_pos (by omega)]
    rw [pt_dec (by rw [hd]; simp), hd]
  · have k1 := hc 1 (by omega) (by omega)
    have k2 := hc 2 (by omega) (by omega)
    have e : acc s i (B s i % 16) 3 = (B s i % 16 * 64 + B s (i + 1) % 64) * 64 + B s (i + 2) % 64 := rfl
    rw [e] at hl hm ⊢
    unfold pt
    cases hsur : surB s i with
    | true =>
      have := surB_iff hsur
      rw [if_pos rfl]
      unfold surV
      simp
      omega
    | false =>
      have hn := surB_not hsur
      have hd : Utf8.decode s i = ((B s i % 16) * 4096 + B s (i + 1) % 64 * 64 + B s (i + 2) % 64, 3) := by rw [dec_eq, if_neg (by omega), if_neg (by omega), if_pos (by omega), if_pos (by omega)]
      rw [if_neg (by simp), hd, if_neg (by simp)]
      simp
      omega
  · have k1 := hc 1 (by omega) (by omega)
    have k2 := hc 2 (by omega) (by omega)
    have k3 := hc 3 (by omega) (by omega)
    have e : acc s i (B s i % 8) 4 = ((B s i % 8 * 64 + B s (i + 1) % 64) * 64 + B s (i + 2) % 64) * 64 + B s (i + 3) % 64 := rfl
    rw [e] at hl hm ⊢
    have hd : Utf8.decode s i = ((B s i % 8) * 262144 + B s (i + 1) % 64 * 4096 + B s (i + 2) % 64 * 64 + B s (i + 3) % 64, 4) := by rw [dec_eq, if_neg (by omega), if_neg (by omega), if_neg (by omega), if_pos (by omega), if_pos (by omega)]
    rw [pt_dec (by rw [hd]; simp), hd]
    simp
    omega

theorem pt_out {s : ByteArray} {i : Nat} (h1 : 128 ≤ B s i) (h2 : ∀ n c0 low, ¬ Cls (B s i) n c0 low) : pt s i = (0, 0) := by
  have b0 := B_lt s i
  have b1 := B_lt s (i + 1)
  have n2 : ¬ (194 ≤ B s i ∧ B s i ≤ 223) := fun h => h2 2 _ 128 (.inl ⟨h.1, h.2, rfl, rfl, rfl⟩)
  have n3 : ¬ (224 ≤ B s i ∧ B s i ≤ 239) := fun h => h2 3 _ 2048 (.inr (.inl ⟨h.1, h.2, rfl, rfl, rfl⟩))
  have n4 : ¬ (240 ≤ B s i ∧ B s i ≤ 244) := fun h => h2 4 _ 65536 (.inr (.inr ⟨h.1, h.2, rfl, rfl, rfl⟩))
  have hn : surB s i = false := by
    cases e : surB s i with
    | false => rfl
    | true => have := surB_iff e; omega
  refine pt_none hn ?_
  rw [dec_eq, if_neg (by omega)]
  by_cases c2 : B s i / 32 = 6 ∧ i + 1 < s.size ∧ B s (i + 1) / 64 = 2
  · rw [if_pos c2, if_neg (by omega)]
  · rw [if_neg c2, if_neg (by omega)]
    split
    · rw [if_neg (by omega)]
    · rfl

theorem pt_bad {s : ByteArray} {i n c0 low : Nat} (h : Cls (B s i) n c0 low) (hb : ¬ (i + n ≤ s.size ∧ Conts s i n ∧ low ≤ acc s i c0 n ∧ acc s i c0 n ≤ 1114111)) : pt s i = (0, 0) := by
  have b0 := B_lt s i
  have b1 := B_lt s (i + 1)
  have b2 := B_lt s (i + 2)
  have b3 := B_lt s (i + 3)
  rcases h with ⟨h1, h2, rfl, rfl, rfl⟩ | ⟨h1, h2, rfl, rfl, rfl⟩ | ⟨h1, h2, rfl, rfl, rfl⟩
  · have e : acc s i (B s i % 32) 2 = B s i % 32 * 64 + B s (i + 1) % 64 := rfl
    rw [e] at hb
    have hn : surB s i = false := by
      cases e : surB s i with
      | false => rfl
      | true => have := surB_iff e; omega
    have hc : ¬ (i + 2 ≤ s.size ∧ B s (i + 1) / 64 = 2) := fun x => hb ⟨x.1, (fun q q1 q2 => by
      obtain rfl : q = 1 := by omega
      exact x.2), by omega, by omega⟩
    refine pt_none hn ?_
    rw [dec_eq, if_neg (by omega), if_neg (by omega), if_neg (by omega), if_neg (by omega)]
  · have e : acc s i (B s i % 16) 3 = (B s i % 16 * 64 + B s (i + 1) % 64) * 64 + B s (i + 2) % 64 := rfl
    rw [e] at hb
    have hc : ¬ (i + 3 ≤ s.size ∧ B s (i + 1) / 64 = 2 ∧ B s (i + 2) / 64 = 2 ∧ 2048 ≤ (B s i % 16 * 64 + B s (i + 1) % 64) * 64 + B s (i + 2) % 64) := fun x => hb ⟨x.1, (fun q q1 q2 => by
      obtain rfl | rfl : q = 1 ∨ q = 2 := by omega
      · exact x.2.1
      · exact x.2.2.1), x.2.2.2, by omega⟩
    have hn : surB s i = false := by
      cases e : surB s i with
      | false => rfl
      | true => have := surB_iff e; omega
    refine pt_none hn ?_
    rw [dec_eq, if_neg (by omega), if_neg (by omega)]
    split
    · rw [if_neg (by omega)]
    · rw [if_neg (by omega)]
  · have e : acc s i (B s i % 8) 4 = ((B s i % 8 * 64 + B s (i + 1) % 64) * 64 + B s (i + 2) % 64) * 64 + B s (i + 3) % 64 := rfl
    rw [e] at hb
    have hc : ¬ (i + 4 ≤ s.size ∧ B s (i + 1) / 64 = 2 ∧ B s (i + 2) / 64 = 2 ∧ B s (i + 3) / 64 = 2 ∧ 65536 ≤ ((B s i % 8 * 64 + B s (i + 1) % 64) * 64 + B s (i + 2) % 64) * 64 + B s (i + 3) % 64 ∧ ((B s i % 8 * 64 + B s (i + 1) % 64) * 64 + B s (i + 2) % 64) * 64 + B s (i + 3) % 64 ≤ 1114111) := fun x => hb ⟨x.1, (fun q q1 q2 => by
      obtain rfl | rfl | rfl : q = 1 ∨ q = 2 ∨ q = 3 := by omega
      · exact x.2.1
      · exact x.2.2.1
      · exact x.2.2.2.1), x.2.2.2.2.1, x.2.2.2.2.2⟩
    have hn : surB s i = false := by
      cases e : surB s i with
      | false => rfl
      | true => have := surB_iff e; omega
    refine pt_none hn ?_
    rw [dec_eq, if_neg (by omega), if_neg (by omega), if_neg (by omega)]
    split
    · rw [if_neg (by omega)]
    · rfl
end Go.Proofs.YthfgicdpbbpnjaaGreat.Uni
