/-
  The walk of the law ScopeNear.
-/
import Derived.Test.YtglnihecgjfkiaaScApart
namespace Go.Proofs.Ytglnihecgjfkiaa.Sc
open Go Go.RowKit Go.Maps
set_option linter.unusedVariables false
set_option linter.unusedSimpArgs false
attribute [local go_sem ↓] ldV stV alV bxV bxP bdV bdP run_eqVV
attribute [local irreducible] vcs pcs
attribute [local go_sem] run_bx run_alV run_bd0 run_bd1 run_stN

/-! ### A chain of scopes -/
/-- n + 1 scopes, each in the one before; f: their variables. -/
def chain (f : Nat → List Va) (n : Nat) : List Sco := (List.range (n + 1)).map fun (k : Nat) => ⟨(k : Int) - 1, f k⟩
theorem chain_len (f : Nat → List Va) (n : Nat) : (chain f n).length = n + 1 := by simp [chain]
theorem chain_at (f : Nat → List Va) {n k : Nat} (h : k ≤ n) : (chain f n)[k]? = some ⟨(k : Int) - 1, f k⟩ := by
  unfold chain
  rw [List.getElem?_map, List.getElem?_range (by omega)]
  rfl
theorem chain_ext (f : Nat → List Va) {n : Nat} {S : List Sco} (hl : S.length = n + 1) (h : ∀ k, k ≤ n → S[k]? = some ⟨(k : Int) - 1, f k⟩) : S = chain f n := by
  apply List.ext_getElem?
  intro k
  by_cases e : k ≤ n
  · rw [h k e, chain_at f e]
  · rw [List.getElem?_eq_none (by omega), List.getElem?_eq_none (by rw [chain_len]; omega)]
theorem chain_par (f : Nat → List Va) (n : Nat) : Par (chain f n) := fun i sc hi => by
  have hlt : i ≤ n := by have := at_lt hi; rw [chain_len] at this; omega
  rw [chain_at f hlt] at hi
  cases hi
  exact ⟨by show -1 ≤ (i : Int) - 1; omega, by show (i : Int) - 1 < i; omega⟩
theorem chain_make (f : Nat → List Va) (n : Nat) (h : f (n + 1) = []) : makeF (chain f n) n = (((n + 1 : Nat) : Int), chain f (n + 1)) := by
  have ht : there (chain f n) n = true := by rw [there_iff, chain_len]; omega
  unfold makeF
  rw [if_pos ht, chain_len]
  congr 1
  refine chain_ext f (by simp [chain_len]) fun k hk => ?_
  by_cases e : k ≤ n
  · rw [List.getElem?_append_left (by rw [chain_len]; omega), chain_at f e]
  · obtain rfl : k = n + 1 := by omega
    rw [List.getElem?_append_right (by rw [chain_len]; omega), chain_len, h]
    simp
theorem chain_set (f g : Nat → List Va) {n m : Nat} (hm : m ≤ n) (h : ∀ k, k ≠ m → g k = f k) : setVs (chain f n) m (g m) = chain g n := by
  refine chain_ext g (by rw [setVs_len, chain_len]) fun k hk => ?_
  by_cases e : k = m
  · subst e
    rw [setVs_same (chain_at f hk)]
  · rw [setVs_other _ e, chain_at f hk, h k e]
theorem chain_seek (f : Nat → List Va) (N : Nat) (s : ByteArray) (m : Nat) (hm : findV (f m) s = some 0) : ∀ d, m + d ≤ N → (∀ k, m < k → k ≤ m + d → f k = []) → seek (chain f N) (m + d : Nat) s = some (m, 0) := by
  intro d
  induction d with
  | zero =>
    intro hN _
    rw [Nat.add_zero] at hN ⊢
    rw [seek_in (chain_par f N) (chain_at f hN)]
    simp only [hm]
  | succ d ih =>
    intro hN hk
    rw [seek_in (chain_par f N) (chain_at f hN)]
    simp only [hk (m + (d + 1)) (by omega) (Nat.le_refl _), findV]
    have e : (((m + (d + 1) : Nat) : Int) - 1) = ((m + d : Nat) : Int) := by omega
    rw [e]
    exact ih (by omega) fun k h1 h2 => hk k h1 (by omega)
theorem chain_lim (f : Nat → List Va) (n : Nat) (hf : ∀ k, (f k).length ≤ 1) : Lim (n + 1) (chain f n) := ⟨by rw [chain_len]; omega, fun i sc hi => by
  have hlt : i ≤ n := by have := at_lt hi; rw [chain_len] at this; omega
  rw [chain_at f hlt] at hi
  cases hi
  have := hf i
  show (f i).length ≤ n + 1
  omega⟩
abbrev sa : ByteArray := ⟨#[97]⟩
/-- 'a' is v outermost; in the scope at: u. -/
def fA (v : Vl) (at_ : Nat) (u : List Va) : Nat → List Va := fun k => if k = 0 then [⟨sa, false, true, v⟩] else if k = at_ then u else []
theorem fA_0 (v : Vl) (at_ : Nat) (u : List Va) : fA v at_ u 0 = [⟨sa, false, true, v⟩] := rfl
theorem fA_at (v : Vl) {at_ : Nat} (h : at_ ≠ 0) (u : List Va) : fA v at_ u at_ = u := by simp [fA, h]
theorem fA_else (v : Vl) {at_ k : Nat} (h : k ≠ 0) (h2 : k ≠ at_) (u : List Va) : fA v at_ u k = [] := by simp [fA, h, h2]
theorem fA_nil (v : Vl) {at_ k : Nat} (h : k ≠ 0) : fA v at_ [] k = [] := by simp [fA, h]
theorem fA_len (v : Vl) (at_ : Nat) {u : List Va} (h : u.length ≤ 1) (k : Nat) : (fA v at_ u k).length ≤ 1 := by
  unfold fA
  split
  · exact Nat.le_refl _
  · split
    · exact h
    · exact Nat.zero_le _
/-- The variables of the scope at when n scopes have come. -/
def uA (at_ n : Nat) : List Va := if n < at_ then [] else [⟨sa, false, false, zeroV⟩]
theorem uA_len (at_ n : Nat) : (uA at_ n).length ≤ 1 := by unfold uA; split <;> simp
abbrev CA (v : Vl) (at_ n : Nat) : List Sco := chain (fA v at_ (uA at_ n)) n
theorem ca_lim (v : Vl) (at_ n : Nat) : Lim (n + 1) (CA v at_ n) := chain_lim _ n (fA_len v at_ (uA_len at_ n))
theorem ca_start (v : Vl) (at_ : Nat) : CA v at_ 0 = [⟨-1, [⟨sa, false, true, v⟩]⟩] := by simp [CA, chain, fA_0]
/-- A scope comes that is not the scope at. -/
theorem ca_else (v : Vl) {at_ n : Nat} (h : n + 1 ≠ at_) : makeF (CA v at_ n) n = (((n + 1 : Nat) : Int), CA v at_ (n + 1)) := by
  have e : uA at_ (n + 1) = uA at_ n := by
    unfold uA
    by_cases h1 : n < at_
    · rw [if_pos h1, if_pos (by omega)]
    · rw [if_neg h1, if_neg (by omega)]
  unfold CA
  rw [e]
  exact chain_make _ n (fA_else v (by omega) h _)
/-- The scope at comes, and its variable. -/
theorem ca_make (v : Vl) {at_ n : Nat} (h : n + 1 = at_) : makeF (CA v at_ n) n = (((n + 1 : Nat) : Int), chain (fA v at_ []) (n + 1)) := by
  have e : uA at_ n = [] := by unfold uA; rw [if_pos (by omega)]
  unfold CA
  rw [e]
  exact chain_make _ n (fA_nil v (by omega))
theorem chain_there (f : Nat → List Va) {n m : Nat} (h : m ≤ n) : there (chain f n) m = true := by rw [there_iff, chain_len]; omega
theorem ca_let (v : Vl) {at_ n : Nat} (h : n + 1 = at_) : letF (chain (fA v at_ []) (n + 1)) (n + 1 : Nat) sa false = (true, CA v at_ (n + 1)) := by
  subst h
  unfold letF
  rw [if_pos (chain_there _ (Nat.le_refl _))]
  have e2 : ((n + 1 : Nat) : Int).toNat = n + 1 := by omega
  rw [e2, chain_at _ (Nat.le_refl _)]
  simp only [fA_nil v (Nat.succ_ne_zero n), findV, List.nil_append]
  congr 1
  have e : uA (n + 1) (n + 1) = [⟨sa, false, false, zeroV⟩] := by unfold uA; rw [if_neg (by omega)]
  have := chain_set (fA v (n + 1) []) (fA v (n + 1) [⟨sa, false, false, zeroV⟩]) (Nat.le_refl (n + 1)) (fun k hk => by
    by_cases h0 : k = 0
    · subst h0; rfl
    · rw [fA_else v h0 hk, fA_else v h0 hk])
  rw [fA_at v (Nat.succ_ne_zero n)] at this
  unfold CA
  rw [e]
  exact this
theorem fa_find (f fx : Bool) (v : Vl) : findV [⟨sa, f, fx, v⟩] sa = some 0 := rfl
/-- What is seen from the innermost one, where 'a' is there but outermost. -/
theorem ca_seek0 (v : Vl) (n : Nat) (N : Nat) (h : n ≤ N) (u : List Va) : seek (chain (fA v 0 u) N) n sa = some (0, 0) := by
  have := chain_seek (fA v 0 u) N sa 0 rfl n (by omega) (fun k h1 h2 => fA_else v (by omega) (by omega) u)
  rwa [Nat.zero_add] at this
theorem ca_seek (v : Vl) {at_ n : Nat} (h0 : at_ ≠ 0) (h : at_ ≤ n) (N : Nat) (hN : n ≤ N) (f x : Bool) (y : Vl) : seek (chain (fA v at_ [⟨sa, f, x, y⟩]) N) n sa = some (at_, 0) := by
  obtain ⟨d, rfl⟩ : ∃ d, n = at_ + d := ⟨n - at_, by omega⟩
  exact chain_seek _ N sa at_ (by rw [fA_at v h0]; rfl) d (by omega) (fun k h1 h2 => fA_else v (by omega) (by omega) _)
theorem ca_end (v : Vl) {at_ n : Nat} (h : at_ ≤ n) : CA v at_ n = chain (fA v at_ [⟨sa, false, false, zeroV⟩]) n := by
  unfold CA uA
  rw [if_neg (by omega)]
theorem ca_set (v : Vl) {at_ n : Nat} (h0 : at_ ≠ 0) (h : at_ ≤ n) (u u' : List Va) : setVs (chain (fA v at_ u) n) at_ u' = chain (fA v at_ u') n := by
  have := chain_set (fA v at_ u) (fA v at_ u') h (fun k hk => by
    by_cases h1 : k = 0
    · subst h1; rfl
    · rw [fA_else v h1 hk, fA_else v h1 hk])
  rwa [fA_at v h0] at this
section
variable (v x : Vl) {at_ n : Nat}
theorem ca_get0 (u : List Va) : getF (chain (fA v 0 u) n) n sa = (v, 0) := by
  unfold getF
  rw [ca_seek0 v n n (Nat.le_refl _) u]
  simp only [varAt, chain_at _ (Nat.zero_le n), fA_0]
  rfl
theorem ca_set0 (u : List Va) : (setF (chain (fA v 0 u) n) n sa x).1 = 0 := by
  unfold setF
  rw [ca_seek0 v n n (Nat.le_refl _) u]
  simp only [chain_at _ (Nat.zero_le n), fA_0]
  rfl
theorem ca_get (h0 : at_ ≠ 0) (h : at_ ≤ n) : getF (CA v at_ n) n sa = (zeroV, 2) := by
  rw [ca_end v h]
  unfold getF
  rw [ca_seek v h0 h n (Nat.le_refl _)]
  simp only [varAt, chain_at _ h, fA_at v h0]
  rfl
theorem ca_begin (h0 : at_ ≠ 0) (h : at_ ≤ n) : beginF (CA v at_ n) at_ sa x = (true, chain (fA v at_ [⟨sa, false, true, x⟩]) n) := by
  rw [ca_end v h]
  unfold beginF
  rw [if_pos (chain_there _ h)]
  have e2 : ((at_ : Nat) : Int).toNat = at_ := by omega
  rw [e2, chain_at _ h]
  simp only [fA_at v h0, fa_find, List.getElem?_cons_zero, List.set_cons_zero]
  rw [ca_set v h0 h]
  rfl
theorem ca_get1 (h0 : at_ ≠ 0) (h : at_ ≤ n) : getF (chain (fA v at_ [⟨sa, false, true, x⟩]) n) n sa = (x, 0) := by
  unfold getF
  rw [ca_seek v h0 h n (Nat.le_refl _)]
  simp only [varAt, chain_at _ h, fA_at v h0]
  rfl
theorem ca_set1 (h0 : at_ ≠ 0) (h : at_ ≤ n) : setF (chain (fA v at_ [⟨sa, false, true, x⟩]) n) n sa v = (0, chain (fA v at_ [⟨sa, false, true, v⟩]) n) := by
  unfold setF
  rw [ca_seek v h0 h n (Nat.le_refl _)]
  simp only [chain_at _ h, fA_at v h0, List.getElem?_cons_zero, List.set_cons_zero]
  rw [ca_set v h0 h]
  rfl
theorem ca_get2 (u : List Va) : getF (chain (fA v at_ u) n) 0 sa = (v, 0) := by
  unfold getF
  have := chain_seek (fA v at_ u) n sa 0 rfl 0 (by omega) (fun k h1 h2 => by omega)
  have e : seek (chain (fA v at_ u) n) 0 sa = some (0, 0) := this
  rw [e]
  simp only [varAt, chain_at _ (Nat.zero_le n), fA_0]
  rfl
end
end Go.Proofs.Ytglnihecgjfkiaa.Sc
