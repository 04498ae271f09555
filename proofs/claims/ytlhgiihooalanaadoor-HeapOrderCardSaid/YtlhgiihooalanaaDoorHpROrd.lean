/-
  The reference's Order: what holds at the head of a round, and what each way through a round does to it. Plain mathematics.
-/
import Derived.Test.YtlhgiihooalanaaDoorHpKeyed
import Derived.Test.YtlhgiihooalanaaDoorHpOrd
import Derived.Test.YtlhgiihooalanaaDoorKyRidx
import Derived.Deep.RegionLaw
import Derived.WalkSpells
import Derived.WalkLawsBesides
import Derived.RegionTactic
namespace Go.Proofs.YtlhgiihooalanaaDoor.Hp
open Go Go.RowKit Go.Maps Go.Proofs.YtlhgiihooalanaaDoor.Keys Go.Proofs.YtlhgiihooalanaaDoor.Nums
set_option linter.unusedVariables false
set_option linter.unusedSimpArgs false

section
variable {w w' : World} {base : Nat} {e : TypeId} {size n : Nat} {xs : List Value}
/-- The first k elements of a list of the call's own. -/
theorem own_head {a : Option Addr} {c k : Nat} (h : w.ownsRow base e size (.slice a n c) n xs) (hk : k ≤ n) : w.ownsRow base e size (.slice a k c) k (xs.take (k * size)) := by
  have hl : (xs.take (k * size)).length = k * size := by
    rw [List.length_take, h.1]
    exact Nat.min_eq_left (Nat.mul_le_mul_right _ hk)
  refine ⟨hl, ?_⟩
  rcases h.2 with ⟨h1, h2⟩ | ⟨g, cap, cur, h1, h2, h3, h4, h5, h6, h7⟩
  · left
    simp only [Value.slice.injEq] at h1
    obtain ⟨rfl, -, rfl⟩ := h1
    obtain rfl : k = 0 := by omega
    exact ⟨rfl, rfl⟩
  · right
    simp only [Value.slice.injEq] at h1
    obtain ⟨rfl, -, rfl⟩ := h1
    refine ⟨g, c, cur, rfl, h2, h3, by omega, h5, h6, ?_⟩
    rw [← h7, List.take_take, Nat.min_eq_left (Nat.mul_le_mul_right _ hk)]
/-- What lies from the k-th element on. -/
theorem own_tail {a : Option Addr} {c k : Nat} (h : w.ownsRow base e size (.slice a n c) n xs) (hk : k ≤ n) : (a = none ∧ n = 0 ∧ c = 0) ∨ ∃ g, a = some ⟨g, 0, none⟩ ∧ ∀ j u, (xs.drop (k * size))[j]? = some u → w.cell? ⟨g, k * size + j, none⟩ = some u := by
  rcases h.2 with ⟨h1, h2⟩ | ⟨g, cap, cur, h1, h2, h3, h4, h5, h6, h7⟩
  · left
    simp only [Value.slice.injEq] at h1
    exact ⟨h1.1, h2, h1.2.2⟩
  · right
    simp only [Value.slice.injEq] at h1
    obtain ⟨rfl, -, rfl⟩ := h1
    refine ⟨g, rfl, fun j u hj => ?_⟩
    rw [List.getElem?_drop] at hj
    have := h.cells (g := g) rfl _ u hj
    have e : (⟨g, 0, none⟩ : Addr).add (k * size + j) = ⟨g, k * size + j, none⟩ := by unfold Addr.add; split <;> simp_all
    rwa [e] at this
end
theorem ap_symm {x y : Option Nat} (h : x = none ∨ x ≠ y) : y = none ∨ y ≠ x := by
  rcases h with rfl | h
  · cases y <;> simp
  · exact .inr h.symm

/-- The keys of the indexes in order. -/
def numsOf (l : List KV) : List KV := numK (rise (idxs (once l)))
structure ROrd (w0 : World) (ks : List KV) (j : Nat) (v1 v2 v3 : Value) (wr : World) : Prop where
  r1 : wr.ownsRow w0.heap.size 35 2 v1 (numsOf (ks.take j)).length (cellsK (numsOf (ks.take j)))
  r2 : wr.ownsRow w0.heap.size 35 2 v2 (names (once (ks.take j))).length (cellsK (names (once (ks.take j))))
  r3 : wr.ownsRow w0.heap.size 35 2 v3 (syms (once (ks.take j))).length (cellsK (syms (once (ks.take j))))
  a12 : v1.ownBlock = none ∨ v1.ownBlock ≠ v2.ownBlock
  a13 : v1.ownBlock = none ∨ v1.ownBlock ≠ v3.ownBlock
  a23 : v2.ownBlock = none ∨ v2.ownBlock ≠ v3.ownBlock
  below : Below w0.heap.size w0 wr
theorem numsOf_nil : numsOf [] = [] := by simp [numsOf, once, idxs, rise, numK]
theorem ROrd.start (w0 : World) (ks : List KV) : ROrd w0 ks 0 (.slice none 0 0) (.slice none 0 0) (.slice none 0 0) w0 where
  r1 := by rw [List.take_zero, numsOf_nil]; exact World.ownsRow_nil _ _ _ _
  r2 := World.ownsRow_nil _ _ _ _
  r3 := World.ownsRow_nil _ _ _ _
  a12 := .inl rfl
  a13 := .inl rfl
  a23 := .inl rfl
  below := Below.refl _ _
section
variable {w0 wr w1 w2 w3 : World} {ks : List KV} {j : Nat} {v1 v2 v3 v' : Value} {k : KV} {o : Obj}
theorem ROrd.next (h : ROrd w0 ks j v1 v2 v3 wr) (hb : Below wr.heap.size wr w1) : ROrd w0 ks j v1 v2 v3 w1 :=
  ⟨own_below h.r1 hb, own_below h.r2 hb, own_below h.r3 hb, h.a12, h.a13, h.a23, h.below.trans (hb.mono h.below.size)⟩
theorem once_memb {l : List KV} {k : KV} : memb k (once l) = memb k l := by
  rw [Bool.eq_iff_iff, memb_iff, memb_iff, once_mem]
theorem ROrd.old (h : ROrd w0 ks j v1 v2 v3 wr) (hk : ks[j]? = some k) (hm : memb k (ks.take j) = true) : ROrd w0 ks (j + 1) v1 v2 v3 wr := by
  have e := once_old hk (by rw [once_memb]; exact hm)
  have e1 : numsOf (ks.take (j + 1)) = numsOf (ks.take j) := by unfold numsOf; rw [e]
  exact ⟨by rw [e1]; exact h.r1, by rw [e]; exact h.r2, by rw [e]; exact h.r3, h.a12, h.a13, h.a23, h.below⟩
theorem numsOf_len (l : List KV) : (numsOf l).length ≤ l.length := by
  unfold numsOf
  rw [numK_length, rise_length]
  exact Nat.le_trans (idxs_len _) (once_length _)
/-- A name went to the list of names. -/
theorem ROrd.name (h : ROrd w0 ks j v1 v2 v3 w2) (hk : ks[j]? = some k) (hm : memb k (ks.take j) = false) (h0 : k.2 = 0) (hi : idxF k.1.data.toList = none)
    (hown : w3.ownsRow w0.heap.size 35 2 v' ((names (once (ks.take j))).length + 1) (cellsK (names (once (ks.take j))) ++ [.string k.1, .int .i64 k.2])) (hg : (w2.alloc o).grownBy w3 v2.ownBlock)
    (hat : v'.ownBlock = v2.ownBlock ∨ v'.ownBlock = some (w2.alloc o).heap.size) : ROrd w0 ks (j + 1) v1 v' v3 w3 := by
  have e := once_new hk (by rw [once_memb]; exact hm)
  obtain ⟨s1, s2, s3⟩ := step_name h0 hi (once (ks.take j))
  have e1 : numsOf (ks.take (j + 1)) = numsOf (ks.take j) := by unfold numsOf; rw [e, s1]
  have hs := h.below.size
  refine ⟨by rw [e1]; exact (h.r1.alloc o).kept hg h.a12, by rw [e, s2, List.length_append, cellsK_append, cellsK_one]; exact hown, by rw [e, s3]; exact (h.r3.alloc o).kept hg (ap_symm h.a23), ?_, h.a13, ?_,
    (h.below.alloc hs o).grown hg (by simp; omega) (fun k hk => (h.r2.lt k hk).1)⟩
  · rcases hat with hat | hat
    · rw [hat]; exact h.a12
    · rw [hat]; exact .inr (own_far (h.r1.alloc o))
  · rcases hat with hat | hat
    · rw [hat]; exact h.a23
    · rw [hat]; exact .inr (own_far (h.r3.alloc o)).symm
/-- A symbol went to the list of symbols. -/
theorem ROrd.sym (h : ROrd w0 ks j v1 v2 v3 w2) (hk : ks[j]? = some k) (hm : memb k (ks.take j) = false) (h0 : (k.2 != 0) = true) (hi : kidx k = none)
    (hown : w3.ownsRow w0.heap.size 35 2 v' ((syms (once (ks.take j))).length + 1) (cellsK (syms (once (ks.take j))) ++ [.string k.1, .int .i64 k.2])) (hg : (w2.alloc o).grownBy w3 v3.ownBlock)
    (hat : v'.ownBlock = v3.ownBlock ∨ v'.ownBlock = some (w2.alloc o).heap.size) : ROrd w0 ks (j + 1) v1 v2 v' w3 := by
  have e := once_new hk (by rw [once_memb]; exact hm)
  obtain ⟨s1, s2, s3⟩ := step_sym h0 hi (once (ks.take j))
  have e1 : numsOf (ks.take (j + 1)) = numsOf (ks.take j) := by unfold numsOf; rw [e, s1]
  have hs := h.below.size
  refine ⟨by rw [e1]; exact (h.r1.alloc o).kept hg h.a13, by rw [e, s2]; exact (h.r2.alloc o).kept hg h.a23, by rw [e, s3, List.length_append, cellsK_append, cellsK_one]; exact hown, h.a12, ?_, ?_,
    (h.below.alloc hs o).grown hg (by simp; omega) (fun k hk => (h.r3.lt k hk).1)⟩
  · rcases hat with hat | hat
    · rw [hat]; exact h.a13
    · rw [hat]; exact .inr (own_far (h.r1.alloc o))
  · rcases hat with hat | hat
    · rw [hat]; exact h.a23
    · rw [hat]; exact .inr (own_far (h.r2.alloc o))
/-- How many indexes stand ahead of n. -/
def ahead (n : Int) (l : List KV) : Nat := ((rise (idxs (once l))).takeWhile (fun m => decide (m ≤ n))).length
theorem tw_len {α : Type} (p : α → Bool) : ∀ l : List α, l.take (l.takeWhile p).length = l.takeWhile p ∧ l.drop (l.takeWhile p).length = l.dropWhile p
  | [] => ⟨rfl, rfl⟩
  | a :: l => by
    by_cases h : p a = true
    · simp only [List.takeWhile_cons, List.dropWhile_cons, h, if_true, List.length_cons, List.take_succ_cons, List.drop_succ_cons, (tw_len p l).1, (tw_len p l).2, and_self]
    · simp [List.takeWhile_cons, List.dropWhile_cons, h]
theorem tw_le {α : Type} (p : α → Bool) : ∀ l : List α, (l.takeWhile p).length ≤ l.length
  | [] => Nat.le_refl _
  | a :: l => by
    by_cases h : p a = true
    · simp only [List.takeWhile_cons, h, if_true, List.length_cons]; have := tw_le p l; omega
    · simp [List.takeWhile_cons, h]
theorem tw_at {α : Type} (p : α → Bool) : ∀ (l : List α) (i : Nat) (a : α), l[i]? = some a → i ≤ (l.takeWhile p).length → (i < (l.takeWhile p).length ↔ p a = true)
  | [], _, _, h, _ => by simp at h
  | b :: l, i, a, h, hi => by
    by_cases hp : p b = true
    · simp only [List.takeWhile_cons, hp, if_true, List.length_cons] at hi ⊢
      cases i with
      | zero => simp at h; subst h; simp [hp]
      | succ i =>
        have := tw_at p l i a (by simpa using h) (by omega)
        rw [← this]
        omega
    · simp only [List.takeWhile_cons, hp] at hi ⊢
      have hi : i = 0 := by simpa using hi
      subst hi
      simp at h
      subst h
      simp [hp]
theorem ahead_le (n : Int) (l : List KV) : ahead n l ≤ (numsOf l).length := by
  unfold numsOf ahead
  rw [numK_length]
  exact tw_le _ _
theorem nums_at {l : List KV} {i : Nat} (h : i < (numsOf l).length) : ∃ m : Int, (numsOf l)[i]? = some (kb m, 0) ∧ (rise (idxs (once l)))[i]? = some m ∧ 0 ≤ m ∧ m ≤ 4294967294 := by
  unfold numsOf at h ⊢
  rw [numK_length] at h
  refine ⟨(rise (idxs (once l)))[i], ?_, ?_, ?_⟩
  · simp [numK, h]
  · simp [h]
  · exact rise_bd _ _ (List.getElem_mem h)
theorem ahead_at {n : Int} {l : List KV} {i : Nat} {m : Int} (h : (rise (idxs (once l)))[i]? = some m) (hi : i ≤ ahead n l) : i < ahead n l ↔ m ≤ n := by
  have := tw_at (fun m => decide (m ≤ n)) _ i m h hi
  rw [decide_eq_true_eq] at this
  exact this
theorem nums_new {n : Int} (hk : ks[j]? = some k) (hm : memb k (ks.take j) = false) (hi : kidx k = some n) : numsOf (ks.take (j + 1)) = (numsOf (ks.take j)).take (ahead n (ks.take j)) ++ k :: (numsOf (ks.take j)).drop (ahead n (ks.take j)) := by
  have e := once_new hk (by rw [once_memb]; exact hm)
  unfold numsOf ahead
  rw [e, nums_snoc _ hi, ← (tw_len (fun m => decide (m ≤ n)) (rise (idxs (once (ks.take j))))).1, ← (tw_len (fun m => decide (m ≤ n)) (rise (idxs (once (ks.take j))))).2]
  simp only [numK, List.map_take, List.map_drop]
  congr 2 <;> simp [(tw_len (fun m => decide (m ≤ n)) (rise (idxs (once (ks.take j))))).1]
theorem cellsK_take (l : List KV) (i : Nat) : (cellsK l).take (i * 2) = cellsK (l.take i) := by
  induction l generalizing i with
  | nil => simp [cellsK]
  | cons a r ih =>
    cases i with
    | zero => simp [cellsK]
    | succ i =>
      have e : cellsK (a :: r) = .string a.1 :: .int .i64 a.2 :: cellsK r := rfl
      rw [e, show (i + 1) * 2 = i * 2 + 1 + 1 by omega, List.take_succ_cons, List.take_succ_cons, ih]
      rfl
theorem cellsK_drop (l : List KV) (i : Nat) : (cellsK l).drop (i * 2) = cellsK (l.drop i) := by
  induction l generalizing i with
  | nil => simp [cellsK]
  | cons a r ih =>
    cases i with
    | zero => simp [cellsK]
    | succ i =>
      have e : cellsK (a :: r) = .string a.1 :: .int .i64 a.2 :: cellsK r := rfl
      rw [e, show (i + 1) * 2 = i * 2 + 1 + 1 by omega, List.drop_succ_cons, List.drop_succ_cons, ih]
      rfl
/-- Behind the copy of what lies behind the place. -/
structure RTail (w0 : World) (ks : List KV) (j kk m : Nat) (v1 v2 v3 vt : Value) (wr : World) : Prop where
  ord : ROrd w0 ks j v1 v2 v3 wr
  rt : wr.ownsRow w0.heap.size 35 2 vt m (cellsK ((numsOf (ks.take j)).drop kk))
  at1 : vt.ownBlock = none ∨ vt.ownBlock ≠ v1.ownBlock
theorem ROrd.tail {kk m : Nat} {vt : Value} (h : ROrd w0 ks j v1 v2 v3 wr) (hown : w1.ownsRow w0.heap.size 35 2 vt m (cellsK ((numsOf (ks.take j)).drop kk))) (hg : wr.grownBy w1 none)
    (hat : vt.ownBlock = none ∨ vt.ownBlock = some wr.heap.size) : RTail w0 ks j kk m v1 v2 v3 vt w1 := by
  have f : ∀ {v : Value}, v.ownBlock = none ∨ v.ownBlock ≠ none := fun {v} => by cases v.ownBlock <;> simp
  refine ⟨⟨h.r1.kept hg f, h.r2.kept hg f, h.r3.kept hg f, h.a12, h.a13, h.a23, h.below.grown hg h.below.size (fun k hk => by cases hk)⟩, hown, ?_⟩
  rcases hat with hat | hat
  · exact .inl hat
  · rw [hat]; exact .inr (own_far h.r1).symm
/-- Behind the key's own append. -/
structure RHead (w0 : World) (ks : List KV) (j kk m : Nat) (k : KV) (v5 v2 v3 vt : Value) (wr : World) : Prop where
  r5 : wr.ownsRow w0.heap.size 35 2 v5 (kk + 1) (cellsK ((numsOf (ks.take j)).take kk) ++ [.string k.1, .int .i64 k.2])
  rt : wr.ownsRow w0.heap.size 35 2 vt m (cellsK ((numsOf (ks.take j)).drop kk))
  r2 : wr.ownsRow w0.heap.size 35 2 v2 (names (once (ks.take j))).length (cellsK (names (once (ks.take j))))
  r3 : wr.ownsRow w0.heap.size 35 2 v3 (syms (once (ks.take j))).length (cellsK (syms (once (ks.take j))))
  a52 : v5.ownBlock = none ∨ v5.ownBlock ≠ v2.ownBlock
  a53 : v5.ownBlock = none ∨ v5.ownBlock ≠ v3.ownBlock
  a23 : v2.ownBlock = none ∨ v2.ownBlock ≠ v3.ownBlock
  below : Below w0.heap.size w0 wr
theorem blk_slice {a : Option Addr} {n m c d : Nat} : (Value.slice a n c).ownBlock = (Value.slice a m d).ownBlock := by cases a <;> rfl
theorem RTail.head {kk m : Nat} {vt v5 : Value} (h : RTail w0 ks j kk m v1 v2 v3 vt w2)
    (hown : w3.ownsRow w0.heap.size 35 2 v5 (kk + 1) (cellsK ((numsOf (ks.take j)).take kk) ++ [.string k.1, .int .i64 k.2])) (hg : (w2.alloc o).grownBy w3 v1.ownBlock)
    (hat : v5.ownBlock = v1.ownBlock ∨ v5.ownBlock = some (w2.alloc o).heap.size) : RHead w0 ks j kk m k v5 v2 v3 vt w3 := by
  obtain ⟨h, ht, h1⟩ := h
  have hs := h.below.size
  refine ⟨hown, (ht.alloc o).kept hg h1, (h.r2.alloc o).kept hg (ap_symm h.a12), (h.r3.alloc o).kept hg (ap_symm h.a13), ?_, ?_, h.a23, (h.below.alloc hs o).grown hg (by simp; omega) (fun k hk => (h.r1.lt k hk).1)⟩
  · rcases hat with hat | hat
    · rw [hat]; exact h.a12
    · rw [hat]; exact .inr (own_far (h.r2.alloc o)).symm
  · rcases hat with hat | hat
    · rw [hat]; exact h.a13
    · rw [hat]; exact .inr (own_far (h.r3.alloc o)).symm
/-- An index has come to its place. -/
theorem RHead.idx {kk m : Nat} {n : Int} {vt v5 v6 : Value} (h : RHead w0 ks j kk m k v5 v2 v3 vt w2) (hk : ks[j]? = some k) (hm : memb k (ks.take j) = false) (hi : kidx k = some n) (hkk : kk = ahead n (ks.take j))
    (hown : w3.ownsRow w0.heap.size 35 2 v6 (kk + 1 + m) ((cellsK ((numsOf (ks.take j)).take kk) ++ [.string k.1, .int .i64 k.2]) ++ cellsK ((numsOf (ks.take j)).drop kk))) (hg : w2.grownBy w3 v5.ownBlock)
    (hat : v6.ownBlock = v5.ownBlock ∨ v6.ownBlock = some w2.heap.size) : ROrd w0 ks (j + 1) v6 v2 v3 w3 := by
  subst hkk
  have e := once_new hk (by rw [once_memb]; exact hm)
  obtain ⟨s1, s2, s3⟩ := step_idx hi (once (ks.take j))
  have e1 := nums_new hk hm hi
  have e2 : cellsK ((numsOf (ks.take j)).take (ahead n (ks.take j)) ++ k :: (numsOf (ks.take j)).drop (ahead n (ks.take j))) = (cellsK ((numsOf (ks.take j)).take (ahead n (ks.take j))) ++ [.string k.1, .int .i64 k.2]) ++ cellsK ((numsOf (ks.take j)).drop (ahead n (ks.take j))) := by
    rw [cellsK_append, List.append_assoc]
    rfl
  have e3 : (numsOf (ks.take (j + 1))).length = ahead n (ks.take j) + 1 + m := by
    have h1 := hown.1
    rw [← e2, cellsK_length, ← e1] at h1
    omega
  refine ⟨by rw [e3, e1, e2]; exact hown, by rw [e, s2]; exact h.r2.kept hg (ap_symm h.a52), by rw [e, s3]; exact h.r3.kept hg (ap_symm h.a53), ?_, ?_, h.a23, h.below.grown hg h.below.size (fun k hk => (h.r5.lt k hk).1)⟩
  · rcases hat with hat | hat
    · rw [hat]; exact h.a52
    · rw [hat]; exact .inr (own_far h.r2).symm
  · rcases hat with hat | hat
    · rw [hat]; exact h.a53
    · rw [hat]; exact .inr (own_far h.r3).symm
/-- The reference's Index at a key of a number. -/
theorem rindex_kb (m : Int) (h0 : 0 ≤ m) (h1 : m ≤ 4294967294) (w : World) : Calls Tryd.prog 20 #[.agg #[.string (kb m), .int .i64 0]] w fun e w' => e = .returned (.tuple #[.int .i64 m, .bool true]) ∧ Below w.heap.size w w' := by
  refine (rindex_str (kb m) w).mono fun e w' ⟨he, hb⟩ => ⟨?_, hb⟩
  rw [he, kb_list, idxF_itoa h0 h1]
  rfl
theorem rindex_key (k : KV) (w : World) : Calls Tryd.prog 20 #[.agg #[.string k.1, .int .i64 k.2]] w fun e w' => e = .returned (.tuple #[.int .i64 ((kidx k).getD 0), .bool (kidx k).isSome]) ∧ Below w.heap.size w w' := by
  unfold kidx
  split
  · rename_i h
    rw [h]
    exact rindex_str k.1 w
  · rename_i h
    exact rindex_sym k.1 k.2 (by simpa using h) w
theorem keysAt_take {ao : Option Addr} {w : World} (h : KeysAt ao ks w) (j : Nat) : KeysAt ao (ks.take j) w := fun i k hk => h i k (by
  rw [List.getElem?_take] at hk
  split at hk
  · exact hk
  · cases hk)
end
/-- How the reference's Order ends. -/
def RPost (ks : List KV) (w : World) (e : Ending) (w' : World) : Prop := ∃ v, e = .returned v ∧ w'.ownsRow w.heap.size 35 2 v (ordF ks).length (cellsK (ordF ks)) ∧ Below w.heap.size w w'
theorem elemK : Tryd.prog.elem 22 = 35 := by kernel_rfl
theorem sizeK (w : World) : (sizeOf (Tryd.prog.elem 22)).run Tryd.prog w = .ok 2 w := by kernel_rfl
theorem sl_head (a : Option Addr) (n c j : Nat) (hj : j ≤ c) (w : World) : (Instr.slice 22 (.slice a n c) none (some (.int .i64 (j : Int))) none).run Tryd.prog w = .ok (.slice a j c) w := by
  rw [run_slice_h _ _ a n c (by rw [elemK]; exact Tryd.underlying22) .i64 (j : Int) (by omega) (by omega), sizeK]
  simp only [Result.andThen, sliced, Int.toNat_natCast, Nat.zero_mul, Nat.sub_zero]
  have e : (if c = 0 then a else a.map fun x => x.add 0) = a := by
    split
    · rfl
    · cases a <;> rfl
  rw [e]
/-- A list from an element on. -/
def from_ (a : Option Addr) (n c j : Nat) : Value := .slice (if c = j then a else a.map fun x => x.add (j * 2)) (n - j) (c - j)
theorem sl_from (a : Option Addr) (n c j : Nat) (hj : j ≤ n) (w : World) : (Instr.slice 22 (.slice a n c) (some (.int .i64 (j : Int))) none none).run Tryd.prog w = .ok (from_ a n c j) w := by
  rw [run_slice_l _ _ a n c (by rw [elemK]; exact Tryd.underlying22) .i64 (j : Int) (by omega) (by omega), sizeK]
  simp only [Result.andThen, sliced, Int.toNat_natCast, from_]
/-- append of a list's rest to a list of the call's own, as a run. -/
theorem run_tail {w : World} {base base2 n c kk : Nat} {a : Option Addr} {ks : List KV} {v : Value} {n1 : Nat} {xs : List Value} (hv : w.ownsRow base 35 2 v n1 xs) (h : w.ownsRow base2 35 2 (.slice a n c) n (cellsK ks)) (hk : kk ≤ n) (hn : n1 + n ≤ 3000000) (hb : base ≤ w.heap.size) :
    ∃ v' w', (Builtin.append_ #[22, 22] 22 #[v, from_ a n c kk]).run Tryd.prog w = .ok v' w' ∧ w'.ownsRow base 35 2 v' (n1 + (n - kk)) (xs ++ cellsK (ks.drop kk)) ∧ w.grownBy w' v.ownBlock ∧ (v'.ownBlock = v.ownBlock ∨ v'.ownBlock = some w.heap.size) := by
  obtain ⟨i26, hi26, hz260, hz261, hz262⟩ := info_parts info26
  rcases own_tail h hk with ⟨rfl, rfl, rfl⟩ | ⟨g, rfl, hc⟩
  · obtain rfl : kk = 0 := by omega
    have hks : cellsK (ks.drop 0) = [] := by
      have := h.1
      rw [List.drop_zero]
      exact List.eq_nil_of_length_eq_zero (by simpa using this)
    refine ⟨v, w, ?_, by rw [hks, List.append_nil]; exact hv, World.grownBy.refl _ _, .inl rfl⟩
    exact run_append_owned_none (P := Tryd.prog) (w := w) base 22 22 35 i26 2 Tryd.underlying22 hi26 v n1 xs hv
  · rw [cellsK_drop] at hc
    have hl : (cellsK (ks.drop kk)).length = (n - kk) * 2 := by
      have := h.1
      rw [cellsK_length] at this ⊢
      rw [List.length_drop]
      omega
    have hone := cellsK_one' (ks.drop kk)
    by_cases hck : c = kk
    · have hnc : n - kk = 0 := by
        rcases h.2 with ⟨h1, -⟩ | ⟨g', cap, cur, h1, h2, h3, h4, _⟩
        · cases h1
        · simp only [Value.slice.injEq] at h1
          omega
      have e0 : cellsK (ks.drop kk) = [] := List.eq_nil_of_length_eq_zero (by rw [hl, hnc])
      obtain ⟨v', w', h1, h2, h3, _, h4⟩ := run_append_own_at (P := Tryd.prog) w base 22 22 35 i26 (.agg #[.string ⟨#[]⟩, .int .i64 0]) 2 24 Tryd.underlying22 hi26 hz260 hz261 hz262 rfl (by decide) v n1 xs hv ⟨g, 0, none⟩ (n - kk) (c - kk) (cellsK (ks.drop kk)) hl (by rw [e0]; intro j u hj; simp at hj) hone (by unfold maxLen; omega) (by omega) hb
      refine ⟨v', w', ?_, h2, h3, h4⟩
      rw [from_, if_pos hck]
      exact h1
    · obtain ⟨v', w', h1, h2, h3, _, h4⟩ := run_append_own_at (P := Tryd.prog) w base 22 22 35 i26 (.agg #[.string ⟨#[]⟩, .int .i64 0]) 2 24 Tryd.underlying22 hi26 hz260 hz261 hz262 rfl (by decide) v n1 xs hv ((⟨g, 0, none⟩ : Addr).add (kk * 2)) (n - kk) (c - kk) (cellsK (ks.drop kk)) hl (fun j u hj => by
        have := hc j u hj
        have e : ((⟨g, 0, none⟩ : Addr).add (kk * 2)).add j = ⟨g, kk * 2 + j, none⟩ := by
          unfold Addr.add
          split <;> split <;> simp_all
        rw [e]
        exact this) hone (by unfold maxLen; omega) (by omega) hb
      refine ⟨v', w', ?_, h2, h3, h4⟩
      rw [from_, if_neg hck]
      exact h1
/-- append of a list of the call's own to another one, as a run. -/
theorem run_src {w : World} {base base2 n1 n2 : Nat} {v v2 : Value} {xs : List Value} {ks : List KV} (hv : w.ownsRow base 35 2 v n1 xs) (h2 : w.ownsRow base2 35 2 v2 n2 (cellsK ks)) (hn : n1 + n2 ≤ 3000000) (hb : base ≤ w.heap.size) :
    ∃ v' w', (Builtin.append_ #[22, 22] 22 #[v, v2]).run Tryd.prog w = .ok v' w' ∧ w'.ownsRow base 35 2 v' (n1 + n2) (xs ++ cellsK ks) ∧ w.grownBy w' v.ownBlock ∧ (v'.ownBlock = v.ownBlock ∨ v'.ownBlock = some w.heap.size) := by
  obtain ⟨a, c, rfl⟩ := own_shape h2
  have e : from_ a n2 c 0 = .slice a n2 c := by
    unfold from_
    rw [Nat.zero_mul, Nat.sub_zero, Nat.sub_zero]
    congr 1
    split
    · rfl
    · cases a <;> rfl
  obtain ⟨v', w', h3, h4, h5, h6⟩ := run_tail hv h2 (Nat.zero_le _) hn hb
  rw [e] at h3
  rw [Nat.sub_zero, List.drop_zero] at h4
  exact ⟨v', w', h3, h4, h5, h6⟩
/-- append of a key that was just laid, as a run. -/
theorem run_one {w : World} {base n1 : Nat} {v : Value} {xs : List Value} (hv : w.ownsRow base 35 2 v n1 xs) (k : KV) (hn : n1 ≤ 3000000) (hb : base ≤ w.heap.size) :
    ∃ v' w', (Builtin.append_ #[22, 22] 22 #[v, .slice (some ⟨w.heap.size, 0, none⟩) 1 1]).run Tryd.prog (w.alloc (.cells #[.string k.1, .int .i64 k.2] 35)) = .ok v' w' ∧ w'.ownsRow base 35 2 v' (n1 + 1) (xs ++ [.string k.1, .int .i64 k.2]) ∧ (w.alloc (.cells #[.string k.1, .int .i64 k.2] 35)).grownBy w' v.ownBlock ∧ (v'.ownBlock = v.ownBlock ∨ v'.ownBlock = some (w.alloc (.cells #[.string k.1, .int .i64 k.2] 35)).heap.size) := by
  obtain ⟨i26, hi26, hz260, hz261, hz262⟩ := info_parts info26
  obtain ⟨v', w', h1, h2, h3, _, h4⟩ := run_append_own_at (P := Tryd.prog) (w.alloc (.cells #[.string k.1, .int .i64 k.2] 35)) base 22 22 35 i26 (.agg #[.string ⟨#[]⟩, .int .i64 0]) 2 24 Tryd.underlying22 hi26 hz260 hz261 hz262 rfl (by decide) v n1 xs (hv.alloc _) ⟨w.heap.size, 0, none⟩ 1 1 [.string k.1, .int .i64 k.2] rfl (two_new _ _ _ _) (two_cells _ _) (by unfold maxLen; omega) (by omega) (size_alloc_le _ hb)
  exact ⟨v', w', h1, h2, h3, h4⟩
theorem own_cap {w : World} {base n c size : Nat} {e : TypeId} {a : Option Addr} {xs : List Value} (h : w.ownsRow base e size (.slice a n c) n xs) : n ≤ c := by
  rcases h.2 with ⟨h1, h2⟩ | ⟨g, cap, cur, h1, _, _, h4, _⟩
  · omega
  · simp only [Value.slice.injEq] at h1
    omega
section
variable {w0 wc : World} {ks : List KV} {j T L : Nat} {a3 : Option Addr} {c3 : Nat} {v2 v3 : Value} {k : KV} {n : Int}
/-- An index comes to its place. -/
theorem idx_steps (h : ROrd w0 ks j (.slice a3 L c3) v2 v3 wc) (hk : ks[j]? = some k) (hm : memb k (ks.take j) = false) (hi : kidx k = some n) (hT : ahead n (ks.take j) = T) (hL : (numsOf (ks.take j)).length = L) (hj : j ≤ 1000000) :
    ∃ vt w5 v5 w6 v6 w7, (Builtin.append_ #[22, 22] 22 #[.slice none 0 0, from_ a3 L c3 T]).run Tryd.prog wc = .ok vt w5 ∧
      (Builtin.append_ #[22, 22] 22 #[.slice a3 T c3, .slice (some ⟨w5.heap.size, 0, none⟩) 1 1]).run Tryd.prog (w5.drew.alloc (.cells #[.string k.1, .int .i64 k.2] 35)) = .ok v5 w6 ∧
      (Builtin.append_ #[22, 22] 22 #[v5, vt]).run Tryd.prog w6 = .ok v6 w7 ∧ Below w0.heap.size w0 w5 ∧ ROrd w0 ks (j + 1) v6 v2 v3 w7 := by
  have hTL : T ≤ L := by rw [← hT, ← hL]; exact ahead_le _ _
  have hLj : L ≤ j := by have := numsOf_len (ks.take j); rw [hL, List.length_take] at this; omega
  have r1 := h.r1
  rw [hL] at r1
  have hs := h.below.size
  obtain ⟨vt, w5, e5, o5, g5, t5⟩ := run_tail (World.ownsRow_nil wc w0.heap.size 35 2) r1 hTL (by omega) hs
  rw [Nat.zero_add, List.nil_append] at o5
  have ht := h.tail o5 g5 t5
  have htd : RTail w0 ks j T (L - T) (.slice a3 L c3) v2 v3 vt w5.drew := ⟨ht.ord.next (Below.refl _ _).drew, ht.rt, ht.at1⟩
  have hs5 := htd.ord.below.size
  have r2 := htd.ord.r1
  rw [hL] at r2
  have r3 := own_head r2 hTL
  rw [cellsK_take] at r3
  obtain ⟨v5, w6, e6, o6, g6, t6⟩ := run_one r3 k (by omega) hs5
  rw [blk_slice (m := L) (d := c3)] at g6 t6
  have hh := htd.head o6 g6 t6
  obtain ⟨v6, w7, e7, o7, g7, t7⟩ := run_src hh.r5 hh.rt (by omega) hh.below.size
  exact ⟨vt, w5, v5, w6, v6, w7, e5, e6, e7, ht.ord.below, hh.idx hk hm hi hT.symm o7 g7 t7⟩
end
end Go.Proofs.YtlhgiihooalanaaDoor.Hp
