/-
  Scopes as plain data: what each call answers and leaves (P1701).
-/
import Derived.Test.YtglnihecgjfkiaaScMem
namespace Go.Proofs.Ytglnihecgjfkiaa.Sc
open Go Go.RowKit Go.Maps
set_option linter.unusedVariables false
set_option linter.unusedSimpArgs false

/-- A name's place in a scope. -/
def findV : List Va → ByteArray → Option Nat
  | [], _ => none
  | a :: r, s => if a.name = s then some 0 else (findV r s).map (· + 1)
theorem findV_some : ∀ {l : List Va} {s : ByteArray} {j : Nat}, findV l s = some j → ∃ a, l[j]? = some a ∧ a.name = s
  | [], _, _, h => by cases h
  | a :: r, s, j, h => by
    unfold findV at h
    by_cases e : a.name = s
    · rw [if_pos e] at h
      cases h
      exact ⟨a, rfl, e⟩
    · rw [if_neg e] at h
      obtain ⟨i, hi, rfl⟩ := Option.map_eq_some_iff.1 h
      obtain ⟨b, hb, hn⟩ := findV_some hi
      exact ⟨b, by simpa using hb, hn⟩
theorem findV_snoc (l : List Va) (a : Va) (h : findV l a.name = none) (s : ByteArray) : findV (l ++ [a]) s = if s = a.name then some l.length else findV l s := by
  induction l with
  | nil =>
    by_cases e : s = a.name
    · subst e; simp [findV]
    · have e' : ¬ a.name = s := fun h => e h.symm
      simp [findV, e, e']
  | cons b r ih =>
    unfold findV at h
    by_cases e : b.name = a.name
    · rw [if_pos e] at h; cases h
    · rw [if_neg e] at h
      have h' : findV r a.name = none := by simpa using h
      rw [List.cons_append, findV, ih h']
      by_cases e1 : b.name = s
      · rw [if_pos e1, findV, if_pos e1]
        have : ¬ s = a.name := fun e2 => e (e1.trans e2)
        rw [if_neg this]
      · rw [if_neg e1, findV, if_neg e1]
        by_cases e2 : s = a.name
        · simp [e2]
        · simp [e2]
theorem findV_set (l : List Va) (j : Nat) (a b : Va) (h : l[j]? = some a) (hn : b.name = a.name) (s : ByteArray) : findV (l.set j b) s = findV l s := by
  induction l generalizing j with
  | nil => rfl
  | cons c r ih =>
    cases j with
    | zero => simp at h; subst h; simp [findV, hn]
    | succ j =>
      have h' : r[j]? = some a := by simpa using h
      simp [findV, ih j h']

/-- The nearest scope that declares a name, and its place there. -/
def findS (S : List Sco) : Nat → Int → ByteArray → Option (Nat × Nat)
  | 0, _, _ => none
  | k + 1, env, s => if env < 0 then none else match S[env.toNat]? with
    | none => none
    | some sc => match findV sc.vs s with
      | some j => some (env.toNat, j)
      | none => findS S k sc.parent s
def seek (S : List Sco) (env : Int) (s : ByteArray) : Option (Nat × Nat) := findS S (env + 1).toNat env s
/-- Each parent comes before. -/
def Par (S : List Sco) : Prop := ∀ (i : Nat) (sc : Sco), S[i]? = some sc → -1 ≤ sc.parent ∧ sc.parent < i
theorem findS_more {S : List Sco} (hp : Par S) (s : ByteArray) : ∀ (k : Nat) (env : Int), (env + 1).toNat ≤ k → findS S k env s = findS S (env + 1).toNat env s := by
  intro k
  induction k using Nat.strongRecOn with
  | _ k ih =>
    intro env hk
    by_cases h0 : env < 0
    · have e : (env + 1).toNat = 0 := by omega
      rw [e]
      clear ih hk
      cases k with
      | zero => rfl
      | succ k => simp only [findS, if_pos h0]
    · obtain ⟨n, rfl⟩ : ∃ n : Nat, env = n := ⟨env.toNat, by omega⟩
      have e : ((n : Int) + 1).toNat = n + 1 := by omega
      rw [e] at hk ⊢
      obtain ⟨k', rfl⟩ : ∃ k', k = k' + 1 := ⟨k - 1, by omega⟩
      rw [findS, findS, if_neg h0, if_neg h0]
      cases hS : S[(n : Int).toNat]? with
      | none => rfl
      | some sc =>
        have hpar := hp _ _ hS
        have hn : ((n : Int).toNat : Int) = n := by omega
        rw [hn] at hpar
        simp only
        cases findV sc.vs s with
        | some j => rfl
        | none =>
          simp only
          rw [ih k' (by omega) sc.parent (by omega)]
          by_cases hlt : n < k' + 1
          · rw [ih n hlt sc.parent (by omega)]
          · omega
theorem seek_out {S : List Sco} {env : Int} (h : env < 0 ∨ (S.length : Int) ≤ env) (s : ByteArray) : seek S env s = none := by
  unfold seek
  by_cases h0 : env < 0
  · have e : (env + 1).toNat = 0 := by omega
    rw [e]
    rfl
  · obtain ⟨n, hn⟩ : ∃ n, (env + 1).toNat = n + 1 := ⟨env.toNat, by omega⟩
    rw [hn, findS, if_neg h0]
    have : S[env.toNat]? = none := List.getElem?_eq_none (by omega)
    rw [this]
theorem seek_in {S : List Sco} (hp : Par S) {i : Nat} {sc : Sco} (h : S[i]? = some sc) (s : ByteArray) : seek S i s = match findV sc.vs s with | some j => some (i, j) | none => seek S sc.parent s := by
  unfold seek
  have e : ((i : Int) + 1).toNat = i + 1 := by omega
  rw [e, findS, if_neg (by omega)]
  have e2 : (i : Int).toNat = i := by omega
  rw [e2, h]
  simp only
  have hpar := hp _ _ h
  cases findV sc.vs s with
  | some j => rfl
  | none => exact findS_more hp s i sc.parent (by omega)
theorem seek_some {S : List Sco} (hp : Par S) (s : ByteArray) : ∀ (n : Nat) (env : Int), env < n → ∀ i j, seek S env s = some (i, j) → ∃ sc va, S[i]? = some sc ∧ sc.vs[j]? = some va ∧ va.name = s ∧ findV sc.vs s = some j := by
  intro n
  induction n with
  | zero => intro env he i j h; rw [seek_out (.inl (by omega))] at h; cases h
  | succ n ih =>
    intro env he i j h
    by_cases h0 : env < 0
    · rw [seek_out (.inl h0)] at h; cases h
    by_cases h1 : (S.length : Int) ≤ env
    · rw [seek_out (.inr h1)] at h; cases h
    obtain ⟨m, rfl⟩ : ∃ m : Nat, env = m := ⟨env.toNat, by omega⟩
    obtain ⟨sc, hsc⟩ : ∃ sc, S[m]? = some sc := ⟨S[m]'(by omega), List.getElem?_eq_getElem (by omega)⟩
    rw [seek_in hp hsc] at h
    cases hf : findV sc.vs s with
    | some j' =>
      rw [hf] at h
      cases h
      obtain ⟨va, h2, h3⟩ := findV_some hf
      exact ⟨sc, va, hsc, h2, h3, hf⟩
    | none =>
      rw [hf] at h
      have := hp _ _ hsc
      exact ih sc.parent (by omega) i j h
theorem seek_got {S : List Sco} (hp : Par S) {env : Int} {s : ByteArray} {i j : Nat} (h : seek S env s = some (i, j)) : ∃ sc va, S[i]? = some sc ∧ sc.vs[j]? = some va ∧ va.name = s ∧ findV sc.vs s = some j :=
  seek_some hp s (env + 1).toNat env (by omega) i j h

/-! ### The calls -/
def there (S : List Sco) (env : Int) : Bool := decide (0 ≤ env) && decide (env < S.length)
/-- A scope's variables anew. -/
def setVs (S : List Sco) (i : Nat) (l : List Va) : List Sco := S.modify i fun sc => { sc with vs := l }
def makeF (S : List Sco) (p : Int) : Int × List Sco := if there S p then (S.length, S ++ [⟨p, []⟩]) else (-1, S)
def letF (S : List Sco) (env : Int) (s : ByteArray) (fx : Bool) : Bool × List Sco :=
  if there S env then match S[env.toNat]? with
    | none => (false, S)
    | some sc => match findV sc.vs s with
      | some _ => (false, S)
      | none => (true, setVs S env.toNat (sc.vs ++ [⟨s, fx, false, zeroV⟩]))
  else (false, S)
def beginF (S : List Sco) (env : Int) (s : ByteArray) (v : Vl) : Bool × List Sco :=
  if there S env then match S[env.toNat]? with
    | none => (false, S)
    | some sc => match findV sc.vs s with
      | none => (false, S)
      | some j => match sc.vs[j]? with
        | none => (false, S)
        | some a => if a.has then (false, S) else (true, setVs S env.toNat (sc.vs.set j { a with has := true, v := v }))
  else (false, S)
def varAt (S : List Sco) (i j : Nat) : Option Va := match S[i]? with | none => none | some sc => sc.vs[j]?
def getF (S : List Sco) (env : Int) (s : ByteArray) : Vl × Int := match seek S env s with
  | none => (zeroV, 1)
  | some (i, j) => match varAt S i j with
    | none => (zeroV, 1)
    | some a => if a.has then (a.v, 0) else (zeroV, 2)
def setF (S : List Sco) (env : Int) (s : ByteArray) (v : Vl) : Int × List Sco := match seek S env s with
  | none => (1, S)
  | some (i, j) => match S[i]? with
    | none => (1, S)
    | some sc => match sc.vs[j]? with
      | none => (1, S)
      | some a => if a.has then if a.fixed then (3, S) else (0, setVs S i (sc.vs.set j { a with v := v })) else (2, S)
theorem setVs_len (S : List Sco) (i : Nat) (l : List Va) : (setVs S i l).length = S.length := by simp [setVs]
theorem setVs_same {S : List Sco} {i : Nat} {sc : Sco} (h : S[i]? = some sc) (l : List Va) : (setVs S i l)[i]? = some { sc with vs := l } := by simp [setVs, List.getElem?_modify, h]
theorem setVs_other (S : List Sco) {i k : Nat} (hne : k ≠ i) (l : List Va) : (setVs S i l)[k]? = S[k]? := by
  have : ¬ i = k := fun e => hne e.symm
  simp [setVs, List.getElem?_modify, this]
theorem setVs_cases {S : List Sco} {i k : Nat} {l : List Va} {sc : Sco} (h : (setVs S i l)[k]? = some sc) : (k ≠ i ∧ S[k]? = some sc) ∨ (k = i ∧ ∃ sc0, S[i]? = some sc0 ∧ sc = { sc0 with vs := l }) := by
  by_cases e : k = i
  · subst e
    right
    refine ⟨rfl, ?_⟩
    simp [setVs, List.getElem?_modify] at h
    obtain ⟨sc0, h1, h2⟩ := h
    exact ⟨sc0, h1, h2.symm⟩
  · exact .inl ⟨e, by rw [setVs_other S e] at h; exact h⟩
theorem Par.setVs {S : List Sco} (h : Par S) (i : Nat) (l : List Va) : Par (setVs S i l) := fun k sc hk => by
  rcases setVs_cases hk with ⟨_, h1⟩ | ⟨rfl, sc0, h1, rfl⟩
  · exact h k sc h1
  · exact h k sc0 h1
theorem Par.snoc {S : List Sco} (h : Par S) {p : Int} (h0 : -1 ≤ p) (h1 : p < S.length) (l : List Va) : Par (S ++ [⟨p, l⟩]) := fun k sc hk => by
  by_cases e : k < S.length
  · rw [List.getElem?_append_left e] at hk
    exact h k sc hk
  · by_cases e2 : k = S.length
    · subst e2
      simp at hk
      subst hk
      exact ⟨h0, h1⟩
    · rw [List.getElem?_eq_none (by simp; omega)] at hk
      cases hk
/-- At most n + 1 scopes, at most n variables in each. -/
structure Lim (n : Nat) (S : List Sco) : Prop where
  scopes : S.length ≤ n + 1
  vars : ∀ (i : Nat) (sc : Sco), S[i]? = some sc → sc.vs.length ≤ n
theorem Lim.mono {n m : Nat} {S : List Sco} (h : Lim n S) (hm : n ≤ m) : Lim m S := ⟨by have := h.scopes; omega, fun i sc hi => Nat.le_trans (h.vars i sc hi) hm⟩
theorem Lim.setVs {n : Nat} {S : List Sco} (h : Lim n S) {i m : Nat} {l : List Va} (hm : n ≤ m) (hl : l.length ≤ m) : Lim m (setVs S i l) := by
  refine ⟨by rw [setVs_len]; have := h.scopes; omega, fun k sc hk => ?_⟩
  rcases setVs_cases hk with ⟨_, h1⟩ | ⟨rfl, sc0, h1, rfl⟩
  · exact Nat.le_trans (h.vars k sc h1) hm
  · exact hl
theorem Lim.make {n : Nat} {S : List Sco} (h : Lim n S) (p : Int) : Lim (n + 1) (makeF S p).2 := by
  unfold makeF
  split
  · refine ⟨by simp; have := h.scopes; omega, fun k sc hk => ?_⟩
    simp only at hk
    by_cases e : k < S.length
    · rw [List.getElem?_append_left e] at hk
      exact Nat.le_succ_of_le (h.vars k sc hk)
    · by_cases e2 : k = S.length
      · subst e2; simp at hk; subst hk; simp
      · rw [List.getElem?_eq_none (by simp; omega)] at hk; cases hk
  · exact h.mono (Nat.le_succ n)
theorem Lim.let {n : Nat} {S : List Sco} (h : Lim n S) (env : Int) (s : ByteArray) (fx : Bool) : Lim (n + 1) (letF S env s fx).2 := by
  unfold letF
  split
  · split
    · exact h.mono (Nat.le_succ n)
    · rename_i sc hsc
      split
      · exact h.mono (Nat.le_succ n)
      · exact h.setVs (Nat.le_succ n) (by simp; exact h.vars _ _ hsc)
  · exact h.mono (Nat.le_succ n)
theorem Lim.begin {n : Nat} {S : List Sco} (h : Lim n S) (env : Int) (s : ByteArray) (v : Vl) : Lim n (beginF S env s v).2 := by
  unfold beginF
  split
  · split
    · exact h
    · rename_i sc hsc
      split
      · exact h
      · split
        · exact h
        · split
          · exact h
          · exact h.setVs (Nat.le_refl n) (by simp; exact h.vars _ _ hsc)
  · exact h
theorem Lim.set {n : Nat} {S : List Sco} (h : Lim n S) (env : Int) (s : ByteArray) (v : Vl) : Lim n (setF S env s v).2 := by
  unfold setF
  split
  · exact h
  · split
    · exact h
    · rename_i sc hsc
      split
      · exact h
      · split
        · split
          · exact h
          · exact h.setVs (Nat.le_refl n) (by simp; exact h.vars _ _ hsc)
        · exact h
end Go.Proofs.Ytglnihecgjfkiaa.Sc
