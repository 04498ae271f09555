/-
  Texts of this seat in build order: UnPtm, UnPoint, UnRef, UnUnits, VaRight, DeMem.
-/
import Derived.Test.YtblbeinnfbohbaaMz01
import Derived.Laws.Tables
import Derived.Laws.Rows
import Derived.Laws.StructEq
import Derived.Laws.ResultCell
import Derived.Deep.MidRow
/-
  Plain mathematics of a code point's decoding by the reference's steps.
-/
namespace Go.Proofs.Ytblbeinnfbohbaa.Uni

def acc (s : ByteArray) (i c0 : Nat) : Nat → Nat
  | 0 => c0
  | 1 => c0
  | k + 2 => acc s i c0 (k + 1) * 64 + B s (i + (k + 1)) % 64
theorem acc_succ (s : ByteArray) (i c0 k : Nat) (h : 1 ≤ k) : acc s i c0 (k + 1) = acc s i c0 k * 64 + B s (i + k) % 64 := by
  obtain ⟨j, rfl⟩ : ∃ j, k = j + 1 := ⟨k - 1, by omega⟩
  rfl
def Cls (b n c0 low : Nat) : Prop :=
  (194 ≤ b ∧ b ≤ 223 ∧ n = 2 ∧ c0 = b % 32 ∧ low = 128) ∨ (224 ≤ b ∧ b ≤ 239 ∧ n = 3 ∧ c0 = b % 16 ∧ low = 2048) ∨ (240 ≤ b ∧ b ≤ 244 ∧ n = 4 ∧ c0 = b % 8 ∧ low = 65536)
def Conts (s : ByteArray) (i k : Nat) : Prop := ∀ q, 1 ≤ q → q < k → B s (i + q) / 64 = 2

theorem acc_le (s : ByteArray) (i c0 : Nat) (h : c0 ≤ 31) : ∀ k, k ≤ 4 → acc s i c0 k ≤ 32 * 262144 := by
  intro k hk
  have a1 : acc s i c0 1 = c0 := rfl
  have a2 : acc s i c0 2 = acc s i c0 1 * 64 + B s (i + 1) % 64 := rfl
  have a3 : acc s i c0 3 = acc s i c0 2 * 64 + B s (i + 2) % 64 := rfl
  have a4 : acc s i c0 4 = acc s i c0 3 * 64 + B s (i + 3) % 64 := rfl
  have e : k = 0 ∨ k = 1 ∨ k = 2 ∨ k = 3 ∨ k = 4 := by omega
  rcases e with rfl | rfl | rfl | rfl | rfl
  · show c0 ≤ _; omega
  all_goals omega

theorem pt_ascii {s : ByteArray} {i : Nat} (h : B s i < 128) : pt s i = (B s i, 1) := by
  unfold pt
  have h1 : surB s i = false := by
    cases e : surB s i with
    | false => rfl
    | true => have := surB_iff e; omega
  have hd : Utf8.decode s i = (B s i, 1) := by rw [dec_eq, if_pos h]
  rw [if_neg (by rw [h1]; simp), hd]
  rw [if_neg (by simp; omega)]

theorem pt_ok {s : ByteArray} {i n c0 low : Nat} (h : Cls (B s i) n c0 low) (hs : i + n ≤ s.size) (hc : Conts s i n) (hl : low ≤ acc s i c0 n) (hm : acc s i c0 n ≤ 1114111) : pt s i = (acc s i c0 n, n) := by
  have b0 := B_lt s i
  have b1 := B_lt s (i + 1)
  have b2 := B_lt s (i + 2)
  have b3 := B_lt s (i + 3)
  rcases h with ⟨h1, h2, rfl, rfl, rfl⟩ | ⟨h1, h2, rfl, rfl, rfl⟩ | ⟨h1, h2, rfl, rfl, rfl⟩
  · have k1 := hc 1 (by omega) (by omega)
    have e : acc s i (B s i % 32) 2 = B s i % 32 * 64 + B s (i + 1) % 64 := rfl
    rw [e] at hl hm ⊢
    have hd : Utf8.decode s i = (B s i % 32 * 64 + B s (i + 1) % 64, 2) := by rw [dec_eq, if_neg (by omega), if_pos (by omega), if_pos (by omega)]
    rw [pt_dec (by rw [hd]; simp), hd]
  · have k1 := hc 1 (by omega) (by omega)
    have k2 := hc 2 (by omega) (by omega)
    have e : acc s i (B s i % 16) 3 = (B s i % 16 * 64 + B s (i + 1) % 64) * 64 + B s (i + 2) % 64 := rfl
    rw [e] at hl hm ⊢
    unfold pt
    cases hsur : surB s i with
    | true =>
      have := surB_iff hsur
      rw [if_pos rfl]
      unfold surV
      simp
      omega
    | false =>
      have hn := surB_not hsur
      have hd : Utf8.decode s i = ((B s i % 16) * 4096 + B s (i + 1) % 64 * 64 + B s (i + 2) % 64, 3) := by rw [dec_eq, if_neg (by omega), if_neg (by omega), if_pos (by omega), if_pos (by omega)]
      rw [if_neg (by simp), hd, if_neg (by simp)]
      simp
      omega
  · have k1 := hc 1 (by omega) (by omega)
    have k2 := hc 2 (by omega) (by omega)
    have k3 := hc 3 (by omega) (by omega)
    have e : acc s i (B s i % 8) 4 = ((B s i % 8 * 64 + B s (i + 1) % 64) * 64 + B s (i + 2) % 64) * 64 + B s (i + 3) % 64 := rfl
    rw [e] at hl hm ⊢
    have hd : Utf8.decode s i = ((B s i % 8) * 262144 + B s (i + 1) % 64 * 4096 + B s (i + 2) % 64 * 64 + B s (i + 3) % 64, 4) := by rw [dec_eq, if_neg (by omega), if_neg (by omega), if_neg (by omega), if_pos (by omega), if_pos (by omega)]
    rw [pt_dec (by rw [hd]; simp), hd]
    simp
    omega

theorem pt_out {s : ByteArray} {i : Nat} (h1 : 128 ≤ B s i) (h2 : ∀ n c0 low, ¬ Cls (B s i) n c0 low) : pt s i = (0, 0) := by
  have b0 := B_lt s i
  have b1 := B_lt s (i + 1)
  have n2 : ¬ (194 ≤ B s i ∧ B s i ≤ 223) := fun h => h2 2 _ 128 (.inl ⟨h.1, h.2, rfl, rfl, rfl⟩)
  have n3 : ¬ (224 ≤ B s i ∧ B s i ≤ 239) := fun h => h2 3 _ 2048 (.inr (.inl ⟨h.1, h.2, rfl, rfl, rfl⟩))
  have n4 : ¬ (240 ≤ B s i ∧ B s i ≤ 244) := fun h => h2 4 _ 65536 (.inr (.inr ⟨h.1, h.2, rfl, rfl, rfl⟩))
  have hn : surB s i = false := by
    cases e : surB s i with
    | false => rfl
    | true => have := surB_iff e; omega
  refine pt_none hn ?_
  rw [dec_eq, if_neg (by omega)]
  by_cases c2 : B s i / 32 = 6 ∧ i + 1 < s.size ∧ B s (i + 1) / 64 = 2
  · rw [if_pos c2, if_neg (by omega)]
  · rw [if_neg c2, if_neg (by omega)]
    split
    · rw [if_neg (by omega)]
    · rfl

theorem pt_bad {s : ByteArray} {i n c0 low : Nat} (h : Cls (B s i) n c0 low) (hb : ¬ (i + n ≤ s.size ∧ Conts s i n ∧ low ≤ acc s i c0 n ∧ acc s i c0 n ≤ 1114111)) : pt s i = (0, 0) := by
  have b0 := B_lt s i
  have b1 := B_lt s (i + 1)
  have b2 := B_lt s (i + 2)
  have b3 := B_lt s (i + 3)
  rcases h with ⟨h1, h2, rfl, rfl, rfl⟩ | ⟨h1, h2, rfl, rfl, rfl⟩ | ⟨h1, h2, rfl, rfl, rfl⟩
  · have e : acc s i (B s i % 32) 2 = B s i % 32 * 64 + B s (i + 1) % 64 := rfl
    rw [e] at hb
    have hn : surB s i = false := by
      cases e : surB s i with
      | false => rfl
      | true => have := surB_iff e; omega
    have hc : ¬ (i + 2 ≤ s.size ∧ B s (i + 1) / 64 = 2) := fun x => hb ⟨x.1, (fun q q1 q2 => by
      obtain rfl : q = 1 := by omega
      exact x.2), by omega, by omega⟩
    refine pt_none hn ?_
    rw [dec_eq, if_neg (by omega), if_neg (by omega), if_neg (by omega), if_neg (by omega)]
  · have e : acc s i (B s i % 16) 3 = (B s i % 16 * 64 + B s (i + 1) % 64) * 64 + B s (i + 2) % 64 := rfl
    rw [e] at hb
    have hc : ¬ (i + 3 ≤ s.size ∧ B s (i + 1) / 64 = 2 ∧ B s (i + 2) / 64 = 2 ∧ 2048 ≤ (B s i % 16 * 64 + B s (i + 1) % 64) * 64 + B s (i + 2) % 64) := fun x => hb ⟨x.1, (fun q q1 q2 => by
      obtain rfl | rfl : q = 1 ∨ q = 2 := by omega
      · exact x.2.1
      · exact x.2.2.1), x.2.2.2, by omega⟩
    have hn : surB s i = false := by
      cases e : surB s i with
      | false => rfl
      | true => have := surB_iff e; omega
    refine pt_none hn ?_
    rw [dec_eq, if_neg (by omega), if_neg (by omega)]
    split
    · rw [if_neg (by omega)]
    · rw [if_neg (by omega)]
  · have e : acc s i (B s i % 8) 4 = ((B s i % 8 * 64 + B s (i + 1) % 64) * 64 + B s (i + 2) % 64) * 64 + B s (i + 3) % 64 := rfl
    rw [e] at hb
    have hc : ¬ (i + 4 ≤ s.size ∧ B s (i + 1) / 64 = 2 ∧ B s (i + 2) / 64 = 2 ∧ B s (i + 3) / 64 = 2 ∧ 65536 ≤ ((B s i % 8 * 64 + B s (i + 1) % 64) * 64 + B s (i + 2) % 64) * 64 + B s (i + 3) % 64 ∧ ((B s i % 8 * 64 + B s (i + 1) % 64) * 64 + B s (i + 2) % 64) * 64 + B s (i + 3) % 64 ≤ 1114111) := fun x => hb ⟨x.1, (fun q q1 q2 => by
      obtain rfl | rfl | rfl : q = 1 ∨ q = 2 ∨ q = 3 := by omega
      · exact x.2.1
      · exact x.2.2.1
      · exact x.2.2.2.1), x.2.2.2.2.1, x.2.2.2.2.2⟩
    have hn : surB s i = false := by
      cases e : surB s i with
      | false => rfl
      | true => have := surB_iff e; omega
    refine pt_none hn ?_
    rw [dec_eq, if_neg (by omega), if_neg (by omega), if_neg (by omega)]
    split
    · rw [if_neg (by omega)]
    · rfl
end Go.Proofs.Ytblbeinnfbohbaa.Uni

/-
  understudyref1.point: what it gives.
-/
namespace Go.Proofs.Ytblbeinnfbohbaa.Uni
open Go.RowKit
set_option linter.unusedVariables false

def PtPost (s : ByteArray) (i : Nat) (w : World) (e : Ending) (w' : World) : Prop :=
  e = .returned (.tuple #[.int .i64 ((pt s i).1 : Nat), .int .i64 ((pt s i).2 : Nat)]) ∧ w = w'
theorem int_eq {k : IntKind} {a b : Int} (h : a = b) : Value.int k a = Value.int k b := by rw [h]
theorem conts_snoc {s : ByteArray} {i q : Nat} (h : Conts s i q) (hq : B s (i + q) / 64 = 2) : Conts s i (q + 1) := by
  intro j h1 h2
  by_cases e : j = q
  · subst e; exact hq
  · exact h j h1 (by omega)

theorem wraps_i64 (n : Int) (h0 : 0 ≤ n) (h1 : n < 2 ^ 63) : IntKind.i64.wrap n = n := by rw [IntKind.wrap_i64]; omega
theorem and64 (x : Int) (h0 : 0 ≤ x) (h1 : x < 1000000000) : bits .and .i64 x 63 = x % 64 := bits_mask .i64 63 (by decide) wraps_i64 6 (by decide) x h0 (by omega)
theorem and32 (x : Int) (h0 : 0 ≤ x) (h1 : x < 1000000000) : bits .and .i64 x 31 = x % 32 := bits_mask .i64 63 (by decide) wraps_i64 5 (by decide) x h0 (by omega)
theorem and16 (x : Int) (h0 : 0 ≤ x) (h1 : x < 1000000000) : bits .and .i64 x 15 = x % 16 := bits_mask .i64 63 (by decide) wraps_i64 4 (by decide) x h0 (by omega)
theorem and8 (x : Int) (h0 : 0 ≤ x) (h1 : x < 1000000000) : bits .and .i64 x 7 = x % 8 := bits_mask .i64 63 (by decide) wraps_i64 3 (by decide) x h0 (by omega)
theorem and1024 (x : Int) (h0 : 0 ≤ x) (h1 : x < 1000000000) : bits .and .i64 x 1023 = x % 1024 := bits_mask .i64 63 (by decide) wraps_i64 10 (by decide) x h0 (by omega)
theorem or64 (x y : Int) (h0 : 0 ≤ x) (h1 : x < 1000000000) (h2 : 0 ≤ y) (h3 : y < 64) : bits .or .i64 (x * 64) y = x * 64 + y := bits_join .i64 63 (by decide) wraps_i64 6 (x * 64) y (by omega) (by omega) (by omega) h2 (by omega) (by omega)

end Go.Proofs.Ytblbeinnfbohbaa.Uni

/-
  understudyref1.points, RightText and Units: what they give.
-/
namespace Go.Proofs.Ytblbeinnfbohbaa.Uni
open Go.RowKit
set_option linter.unusedVariables false

/-- Code points as cells. -/
def ic (l : List Nat) : List Value := l.map fun n : Nat => Value.int .i64 (n : Int)
theorem ic_append (a b : List Nat) : ic (a ++ b) = ic a ++ ic b := by simp [ic]
theorem ic_length (a : List Nat) : (ic a).length = a.length := by simp [ic]
theorem info3 : (Try.prog.info? 3).map (fun i => (i.zero, i.size, i.bytes)) = some (some (.int .i64 0), 1, 8) := by kernel_rfl

/-- What ref's points gives. -/
def RPost (s : ByteArray) (w : World) (e : Ending) (w' : World) : Prop :=
  ∃ v, e = .returned (.tuple #[v, .bool (pts s).isSome]) ∧ w'.ownsRow w.heap.size 3 1 v ((pts s).getD []).length (ic ((pts s).getD [])) ∧ Below w.heap.size w w'

/-- Went, with what the last code point was. -/
def lastHi (l : List Nat) : Bool := match l.getLast? with | some c => isHi c | none => false
theorem lastHi_snoc (l : List Nat) (c : Nat) : lastHi (l ++ [c]) = isHi c := by simp [lastHi]

def RInv (s : ByteArray) (w0 : World) (v i : Value) (wr : World) : Prop :=
  ∃ done f j, i = .int .i64 (j : Nat) ∧ wr.ownsRow w0.heap.size 3 1 v done.length (ic done) ∧ Below w0.heap.size w0 wr ∧ Went s done f j (lastHi done)

theorem isLo_bd {c : Nat} (h : isLo c = true) : 56320 ≤ c ∧ c ≤ 57343 := of_decide_eq_true h
theorem isHi_bd {c : Nat} (h : isHi c = true) : 55296 ≤ c ∧ c < 56320 := of_decide_eq_true h
theorem isHi_bd2 {c : Nat} (h : isHi c = false) : ¬ (55296 ≤ c ∧ c < 56320) := of_decide_eq_false h
theorem isLo_bd2 {c : Nat} (h : ¬ isLo c = true) : ¬ (56320 ≤ c ∧ c ≤ 57343) := of_decide_eq_false (by simpa [isLo] using h)

theorem last_cell2 {w : World} {base : Nat} {v : Value} {done : List Nat} (h : w.ownsRow base 3 1 v done.length (ic done)) :
    done.length = 0 ∨ ∃ (m d g cp : Nat), v = .slice (some ⟨g, 0, none⟩) (m + 1) cp ∧ w.cell? ⟨g, m, none⟩ = some (.int .i64 (d : Nat)) ∧ done.length = m + 1 ∧ lastHi done = isHi d := by
  rcases List.eq_nil_or_concat done with rfl | ⟨pre, d, rfl⟩
  · exact .inl rfl
  · right
    rcases h.2 with ⟨_, hn⟩ | ⟨g, cap, cur, hv, _⟩
    · simp at hn
    · refine ⟨pre.length, d, g, cap, by rw [hv]; simp, ?_, by simp, by simp [lastHi]⟩
      have := h.cells (g := g) (by rw [hv]; rfl) pre.length (.int .i64 (d : Nat)) (by simp [ic])
      have e : (⟨g, 0, none⟩ : Addr).add pre.length = ⟨g, pre.length, none⟩ := by unfold Addr.add; split <;> simp_all
      rw [e] at this
      exact this
theorem last_cell {w : World} {base : Nat} {v : Value} {done : List Nat} (h : w.ownsRow base 3 1 v done.length (ic done)) (hh : lastHi done = true) :
    ∃ (m d g cp : Nat), v = .slice (some ⟨g, 0, none⟩) (m + 1) cp ∧ w.cell? ⟨g, m, none⟩ = some (.int .i64 (d : Nat)) ∧ done.length = m + 1 ∧ isHi d = true := by
  rcases last_cell2 h with h0 | ⟨m, d, g, cp, h1, h2, h3, h4⟩
  · have : done = [] := List.eq_nil_of_length_eq_zero h0
    subst this
    simp [lastHi] at hh
  · exact ⟨m, d, g, cp, h1, h2, h3, by rw [← h4]; exact hh⟩

theorem rinv_step {w0 wr w1 : World} {o : Obj} {v v' : Value} {done : List Nat} {c m : Nat} (hm : done.length = m) (hown : wr.ownsRow w0.heap.size 3 1 v m (ic done)) (hbel : Below w0.heap.size w0 wr)
    (hown' : w1.ownsRow w0.heap.size 3 1 v' (m + 1) (ic done ++ [.int .i64 (c : Nat)])) (hgrow' : (wr.alloc o).grownBy w1 v.ownBlock) :
    w1.ownsRow w0.heap.size 3 1 v' (done ++ [c]).length (ic (done ++ [c])) ∧ Below w0.heap.size w0 w1 := by
  subst hm
  refine ⟨by rw [ic_append, List.length_append]; exact hown', ?_⟩
  refine (hbel.alloc hbel.size o).grown hgrow' (by have := hbel.size; simp; omega) (fun k hk => (hown.lt k hk).1)

end Go.Proofs.Ytblbeinnfbohbaa.Uni

/-
  understudyref1.RightText and Units.
-/
namespace Go.Proofs.Ytblbeinnfbohbaa.Uni
open Go.RowKit
set_option linter.unusedVariables false

theorem pt_bd (s : ByteArray) (i : Nat) (h : i < s.size) : (pt s i).1 ≤ 1114111 := by
  by_cases e : surB s i = true
  · rw [pt_sur e]; have := surV_bd e; simp; omega
  · by_cases d : Utf8.decode s i = (65533, 1)
    · rw [pt_none (by simpa using e) d]; simp
    · rw [pt_dec d]
      rcases decode_cases s i h with x | x
      · exact absurd x d
      · exact x.2.2.2.1
theorem dec_bd (s : ByteArray) : ∀ f i ah l, dec s f i ah = some l → ∀ c ∈ l, c ≤ 1114111 := by
  intro f
  induction f with
  | zero => intro i ah l h c hc; simp [dec] at h; subst h; simp at hc
  | succ f ih =>
    intro i ah l h c hc
    simp only [dec] at h
    split at h
    · rename_i hlt
      split at h
      · simp at h
      · simp only [Option.map_eq_some_iff] at h
        obtain ⟨r, hr, rfl⟩ := h
        simp at hc
        rcases hc with rfl | hc
        · exact pt_bd s i hlt
        · exact ih _ _ r hr c hc
    · simp at h; subst h; simp at hc
theorem pts_bd {s : ByteArray} {l : List Nat} (h : pts s = some l) : ∀ c ∈ l, c ≤ 1114111 := dec_bd s _ _ _ l h

theorem un_big {p : Nat} (h : 65536 ≤ p) : ∃ _h : True, uc (un p) = [.int .u16 (55296 + ((p : Int) - 65536) / 1024), .int .u16 (56320 + ((p : Int) - 65536) % 1024)] ∧ (un p).length = 2 := by
  refine ⟨trivial, ?_, by rw [un_great (by omega)]; rfl⟩
  rw [un_great (by omega)]
  simp [uc]
  omega
theorem two_new (w : World) (k : IntKind) (a b : Int) (t : TypeId) : ∀ j u, [Value.int k a, Value.int k b][j]? = some u → (w.alloc (.cells #[.int k a, .int k b] t)).cell? ((⟨w.heap.size, 0, none⟩ : Addr).add j) = some u := by
  intro j u hj
  match j, hj with
  | 0, hj => simp at hj; subst hj; simp [Addr.add]
  | 1, hj => simp at hj; subst hj; simp [Addr.add]
theorem one_cells (k : IntKind) (a : Int) : ∀ u ∈ [Value.int k a], u.oneCell' = true := by
  intro u hu
  simp at hu
  subst hu
  rfl
theorem two_cells (k : IntKind) (a b : Int) : ∀ u ∈ [Value.int k a, Value.int k b], u.oneCell' = true := by
  intro u hu
  simp at hu
  rcases hu with rfl | rfl <;> rfl
theorem size_alloc_le {w : World} {B : Nat} (o : Obj) (h : B ≤ w.heap.size) : B ≤ (w.alloc o).heap.size := by simp; omega
theorem own_at {w : World} {base e : Nat} {n : Nat} {ao : Option Addr} {cp k : Nat} {xs : List Value} {u : Value} (h : w.ownsRow base e 1 (.slice ao n cp) n xs) (hu : xs[k]? = some u) :
    ∃ g, ao = some ⟨g, 0, none⟩ ∧ w.cell? ⟨g, k, none⟩ = some u := by
  rcases h.2 with ⟨hv, hn⟩ | ⟨g, cap, cur, hv, _⟩
  · subst hn
    have : xs = [] := List.eq_nil_of_length_eq_zero (by simpa using h.1)
    subst this
    simp at hu
  · simp at hv
    refine ⟨g, hv.1, ?_⟩
    have := h.cells (g := g) (by rw [hv.1]; rfl) k u hu
    have e : (⟨g, 0, none⟩ : Addr).add k = ⟨g, k, none⟩ := by unfold Addr.add; split <;> simp_all
    rw [e] at this
    exact this

theorem own_ne2 {w : World} {base e1 e2 : Nat} {v v2 : Value} {n n2 : Nat} {xs xs2 : List Value} (h : w.ownsRow base e1 1 v n xs) (h2 : w.ownsRow base e2 1 v2 n2 xs2) (hne : e1 ≠ e2) : v2.ownBlock = none ∨ v2.ownBlock ≠ v.ownBlock := by
  rcases h2.2 with ⟨rfl, _⟩ | ⟨g, cap, cur, rfl, _, hg, _⟩
  · exact .inl rfl
  · right
    intro e
    exact own_ne h hg hne e.symm

end Go.Proofs.Ytblbeinnfbohbaa.Uni

/-
  values.Right and the reference's RightValue: what they give.
-/
namespace Go.Proofs.Ytblbeinnfbohbaa.Vals
open Go.RowKit Go.Proofs.Ytblbeinnfbohbaa.Nums Go.Proofs.Ytblbeinnfbohbaa.Uni
set_option linter.unusedVariables false

/-- A text of the language; a number of each kind; a value. -/
def rtF (s : ByteArray) : Bool := (pts s).isSome && decide ((units s).length ≤ 10000)
def rnF (k n : Int) : Bool := if k = 0 ∨ k = 1 then n == 0 else if k = 2 then (n == 0 || n == 1) else if k = 3 then sf n else if k = 5 then decide (1 ≤ n) else if k = 6 then decide (0 ≤ n) else false
def rightF (k n : Int) (s : ByteArray) : Bool := if k = 4 then (n == 0 && rtF s) else (s.toList.isEmpty && rnF k n)

theorem new_cell {w w1 : World} {cs : Array Value} {t : TypeId} (hb : Below (w.alloc (.cells cs t)).heap.size (w.alloc (.cells cs t)) w1) (i : Nat) : w1.cell? ⟨w.heap.size, i, none⟩ = cs[i]? := by
  rw [hb.cell (p := ⟨w.heap.size, i, none⟩) (by simp)]
  simp

end Go.Proofs.Ytblbeinnfbohbaa.Vals

/-
  Descriptors: their shape, a whole one read out of and laid into memory, and '==' of two.
-/
namespace Go.Proofs.Ytblbeinnfbohbaa.Des
open Go.RowKit Go.Proofs.Ytblbeinnfbohbaa.Vals
set_option linter.unusedVariables false
set_option linter.unusedSimpArgs false

theorem two_bels (w : World) (a b : Obj) : Below w.heap.size w ((w.alloc a).alloc b) := ((Below.refl _ _).alloc (Nat.le_refl _) _).alloc (by simp) _
theorem three_bels (w : World) (a b c : Obj) : Below w.heap.size w (((w.alloc a).alloc b).alloc c) := (((Below.refl _ _).alloc (Nat.le_refl _) _).alloc (by simp) _).alloc (by simp; omega) _
theorem below_dn {B : Nat} {a w : World} (h : Below B a w) (n : Nat) : Below B a (w.drewN n) := h.trans ⟨rfl, rfl, rfl, Nat.le_refl _, fun _ _ => rfl⟩
theorem n2 (n : Nat) : (n + 1 + 1 = n) = False := by simp only [eq_iff_iff, iff_false]; omega
theorem n3 (n : Nat) : (n + 1 + 1 + 1 = n) = False := by simp only [eq_iff_iff, iff_false]; omega
theorem m2 (n : Nat) : (n = n + 1 + 1) = False := by simp only [eq_iff_iff, iff_false]; omega
theorem m3 (n : Nat) : (n = n + 1 + 1 + 1) = False := by simp only [eq_iff_iff, iff_false]; omega
theorem bel_keep {w0 w w' : World} (hb : Below w.heap.size w w') (h : Below w0.heap.size w0 w) : Below w0.heap.size w0 w' := h.trans (hb.mono h.size)
theorem bel_drew {B : Nat} {a w : World} (h : Below B a w) : Below B a w.drew := h.drew
/-- A value's parts; a descriptor's parts. -/
structure Vl where
  k : Int
  n : Int
  s : ByteArray
structure Ds where
  hv : Bool
  hg : Bool
  hs : Bool
  hw : Bool
  he : Bool
  hc : Bool
  v : Vl
  g : Vl
  s : Vl
  w : Bool
  e : Bool
  c : Bool
def dcs (d : Ds) : Array Value := #[.bool d.hv, .bool d.hg, .bool d.hs, .bool d.hw, .bool d.he, .bool d.hc, .int .i64 d.v.k, .int .i64 d.v.n, .string d.v.s, .int .i64 d.g.k, .int .i64 d.g.n, .string d.g.s, .int .i64 d.s.k, .int .i64 d.s.n, .string d.s.s, .bool d.w, .bool d.e, .bool d.c]
abbrev DV (d : Ds) : Value := .agg (dcs d)
abbrev VV (v : Vl) : Value := .agg #[.int .i64 v.k, .int .i64 v.n, .string v.s]
def zeroV : Vl := ⟨0, 0, ⟨#[]⟩⟩
def zeroD : Ds := ⟨false, false, false, false, false, false, zeroV, zeroV, zeroV, false, false, false⟩
theorem dcs_0 (d : Ds) : (dcs d)[0]? = some (.bool d.hv) := rfl
theorem dcs_1 (d : Ds) : (dcs d)[1]? = some (.bool d.hg) := rfl
theorem dcs_2 (d : Ds) : (dcs d)[2]? = some (.bool d.hs) := rfl
theorem dcs_3 (d : Ds) : (dcs d)[3]? = some (.bool d.hw) := rfl
theorem dcs_4 (d : Ds) : (dcs d)[4]? = some (.bool d.he) := rfl
theorem dcs_5 (d : Ds) : (dcs d)[5]? = some (.bool d.hc) := rfl
theorem dcs_6 (d : Ds) : (dcs d)[6]? = some (.int .i64 d.v.k) := rfl
theorem dcs_7 (d : Ds) : (dcs d)[7]? = some (.int .i64 d.v.n) := rfl
theorem dcs_8 (d : Ds) : (dcs d)[8]? = some (.string d.v.s) := rfl
theorem dcs_9 (d : Ds) : (dcs d)[9]? = some (.int .i64 d.g.k) := rfl
theorem dcs_10 (d : Ds) : (dcs d)[10]? = some (.int .i64 d.g.n) := rfl
theorem dcs_11 (d : Ds) : (dcs d)[11]? = some (.string d.g.s) := rfl
theorem dcs_12 (d : Ds) : (dcs d)[12]? = some (.int .i64 d.s.k) := rfl
theorem dcs_13 (d : Ds) : (dcs d)[13]? = some (.int .i64 d.s.n) := rfl
theorem dcs_14 (d : Ds) : (dcs d)[14]? = some (.string d.s.s) := rfl
theorem dcs_15 (d : Ds) : (dcs d)[15]? = some (.bool d.w) := rfl
theorem dcs_16 (d : Ds) : (dcs d)[16]? = some (.bool d.e) := rfl
theorem dcs_17 (d : Ds) : (dcs d)[17]? = some (.bool d.c) := rfl
theorem dcs_size (d : Ds) : (dcs d).size = 18 := rfl
theorem dcs_one (d : Ds) : (dcs d).all (·.oneCell') = true := by simp [dcs, Value.oneCell']

theorem dcs_one18 (d : Ds) : (dcs d).all (fun x => x.oneCell') 0 18 = true := dcs_one d
theorem one_b (b : Bool) : (Value.bool b).oneCell' = true := rfl
theorem one_i (k : IntKind) (n : Int) : (Value.int k n).oneCell' = true := rfl
theorem one_s (s : ByteArray) : (Value.string s).oneCell' = true := rfl
/-- A block that holds a descriptor and may be written: its cells. -/
def objRow : Obj → Option (Array Value)
  | .cells cs _ fz => if cs.size = 18 ∧ fz = (0, 0) then some cs else none
  | _ => none
def rowD (w : World) (g : Nat) : Option (Array Value) := (w.heap[g]?).bind objRow
theorem objRow_some {o : Obj} {cs : Array Value} (h : objRow o = some cs) : ∃ t, o = .cells cs t (0, 0) ∧ cs.size = 18 := by
  unfold objRow at h
  split at h
  · split at h
    · rename_i h2
      obtain ⟨h2, rfl⟩ := h2
      simp at h
      subst h
      exact ⟨_, rfl, h2⟩
    · cases h
  · cases h
theorem objRow_cells (cs : Array Value) (t : TypeId) (h : cs.size = 18) : objRow (.cells cs t) = some cs := by unfold objRow; simp [h]
theorem rowD_some {w : World} {g : Nat} {cs : Array Value} (h : rowD w g = some cs) : ∃ t, w.heap[g]? = some (.cells cs t (0, 0)) ∧ cs.size = 18 := by
  unfold rowD at h
  cases hg : w.heap[g]? with
  | none => rw [hg] at h; cases h
  | some o =>
    rw [hg] at h
    obtain ⟨t, rfl, hs⟩ := objRow_some h
    exact ⟨t, rfl, hs⟩
theorem rowD_is {w : World} {g : Nat} (h : (rowD w g).isSome = true) : ∃ cs t, rowD w g = some cs ∧ w.heap[g]? = some (.cells cs t (0, 0)) ∧ cs.size = 18 := by
  obtain ⟨cs, hc⟩ := Option.isSome_iff_exists.1 h
  obtain ⟨t, ht, hs⟩ := rowD_some hc
  exact ⟨cs, t, hc, ht, hs⟩
theorem rowD_lt {w : World} {g : Nat} (h : (rowD w g).isSome = true) : g < w.heap.size := by
  obtain ⟨cs, t, hc, ht, hs⟩ := rowD_is h
  exact (Array.getElem?_eq_some_iff.1 ht).1
theorem rowD_drew (w : World) (g : Nat) : rowD w.drew g = rowD w g := (rfl)
theorem rowD_drewN (w : World) (n g : Nat) : rowD (w.drewN n) g = rowD w g := (rfl)
theorem rowD_new (w : World) (o : Obj) (g : Nat) (h : w.heap.size = g) : rowD (w.alloc o) g = objRow o := by
  subst h
  unfold rowD
  rw [heap_alloc_new]
  rfl
theorem rowD_old (w : World) (o : Obj) (g : Nat) (h : (rowD w g).isSome = true) : rowD (w.alloc o) g = rowD w g := by
  unfold rowD
  rw [heap_alloc_old _ _ (rowD_lt h)]
theorem rowD_alloc (w : World) (o : Obj) (g : Nat) : rowD (w.alloc o) g = if w.heap.size = g then objRow o else rowD w g := by
  split
  · rename_i h
    exact rowD_new w o g h
  · rename_i h
    unfold rowD World.alloc
    simp only [Array.getElem?_push]
    rw [if_neg (fun e => h e.symm)]
theorem objRow_lit (a0 a1 a2 a3 a4 a5 a6 a7 a8 a9 a10 a11 a12 a13 a14 a15 a16 a17 : Value) (t : TypeId) : objRow (.cells #[a0, a1, a2, a3, a4, a5, a6, a7, a8, a9, a10, a11, a12, a13, a14, a15, a16, a17] t) = some #[a0, a1, a2, a3, a4, a5, a6, a7, a8, a9, a10, a11, a12, a13, a14, a15, a16, a17] := rfl
theorem objRow_dcs (d : Ds) (t : TypeId) : objRow (.cells (dcs d) t) = some (dcs d) := objRow_cells _ _ rfl
theorem rowD_keep {w w' : World} {B g : Nat} {cs : Array Value} (hb : Below B w w') (hg : g < B) (h : rowD w g = some cs) : rowD w' g = some cs := by
  unfold rowD at *
  rw [hb.block g hg]
  exact h
/-- What a call leaves of a block that was there. -/
theorem rowD_call {w w' : World} {g : Nat} {cs : Array Value} (hb : Below w.heap.size w w') (h : rowD w g = some cs) : rowD w' g = some cs :=
  rowD_keep hb (rowD_lt (by rw [h]; rfl)) h
theorem is_call {w w' : World} {g : Nat} (hb : Below w.heap.size w w') (h : (rowD w g).isSome = true) : (rowD w' g).isSome = true := by
  obtain ⟨cs, hc⟩ := Option.isSome_iff_exists.1 h
  rw [rowD_call hb hc]
  rfl
/-- A descriptor laid into a block. -/
def putD (w : World) (g : Nat) (cs : Array Value) : World := w.setRow g cs
theorem putD_drew (w : World) (g : Nat) (cs : Array Value) : putD w.drew g cs = (putD w g cs).drew := (rfl)
theorem putD_drewN (w : World) (n g : Nat) (cs : Array Value) : putD (w.drewN n) g cs = (putD w g cs).drewN n := (rfl)
theorem putD_size (w : World) (g : Nat) (cs : Array Value) : (putD w g cs).heap.size = w.heap.size := by simp [putD, World.setRow]
theorem putD_new (w : World) (g : Nat) (c cs : Array Value) (t : TypeId) (h : w.heap.size = g) : putD (w.alloc (.cells c t)) g cs = w.alloc (.cells cs t) := by
  subst h
  unfold putD World.setRow World.alloc
  simp only
  congr 1
  apply Array.ext_getElem?
  intro i
  rw [Array.getElem?_modify]
  by_cases h : w.heap.size = i
  · subst h
    simp
  · have h' : ¬ i = w.heap.size := fun e => h e.symm
    simp [h, h', Array.getElem?_push]
theorem putD_old (w : World) (o : Obj) (g : Nat) (cs : Array Value) (h : (rowD w g).isSome = true) : putD (w.alloc o) g cs = (putD w g cs).alloc o := by
  have hl := rowD_lt h
  unfold putD World.setRow World.alloc
  simp only
  congr 1
  apply Array.ext_getElem?
  intro i
  simp only [Array.getElem?_modify, Array.getElem?_push, Array.size_modify]
  by_cases h1 : g = i
  · subst h1
    rw [if_pos rfl, if_neg (by omega), if_neg (by omega), if_pos rfl]
  · rw [if_neg h1]
    split
    · rfl
    · rfl
def setObj (o : Obj) (cs : Array Value) : Obj := match o with | .cells _ t fz => .cells cs t fz | o => o
theorem setObj_cells (c cs : Array Value) (t : TypeId) (fz : Nat × Nat) : setObj (.cells c t fz) cs = .cells cs t fz := rfl
theorem putD_alloc (w : World) (o : Obj) (g : Nat) (cs : Array Value) : putD (w.alloc o) g cs = if w.heap.size = g then w.alloc (setObj o cs) else (putD w g cs).alloc o := by
  unfold putD World.setRow World.alloc
  split
  · rename_i h
    subst h
    simp only
    congr 1
    apply Array.ext_getElem?
    intro i
    rw [Array.getElem?_modify]
    by_cases h : w.heap.size = i
    · subst h
      simp only [if_true, Array.getElem?_push, Option.map_some]
      cases o <;> rfl
    · have h' : ¬ i = w.heap.size := fun e => h e.symm
      simp [h, h', Array.getElem?_push]
  · rename_i h
    simp only
    congr 1
    apply Array.ext_getElem?
    intro i
    simp only [Array.getElem?_modify, Array.getElem?_push, Array.size_modify]
    by_cases h1 : g = i
    · subst h1
      rw [if_pos rfl, if_neg (fun e => h e.symm), if_neg (fun e => h e.symm), if_pos rfl]
    · rw [if_neg h1]
      split
      · rfl
      · rfl
theorem rowD_put (w : World) (g : Nat) (cs : Array Value) (h : (rowD w g).isSome = true) (hs : cs.size = 18) : rowD (putD w g cs) g = some cs := by
  obtain ⟨c, t, hc, ht, hs2⟩ := rowD_is h
  unfold rowD putD World.setRow
  simp only [Array.getElem?_modify]
  rw [if_pos trivial, ht]
  simp [objRow, hs]
theorem rowD_other (w : World) (g g2 : Nat) (cs : Array Value) (h : ¬ g = g2) : rowD (putD w g cs) g2 = rowD w g2 := by
  unfold rowD putD World.setRow
  simp only [Array.getElem?_modify]
  rw [if_neg h]
theorem bel_put {B g : Nat} {w0 w : World} (hb : Below B w0 w) (hBg : B ≤ g) (cs : Array Value) : Below B w0 (putD w g cs) :=
  hb.trans ⟨rfl, rfl, rfl, by simp [putD, World.setRow], fun k hk => by
    unfold putD World.setRow
    simp only [Array.getElem?_modify]
    rw [if_neg (by omega)]⟩
theorem cell_rowD (w : World) (g i : Nat) (h : (rowD w g).isSome = true) : w.cell? ⟨g, i, none⟩ = ((rowD w g).getD #[])[i]? := by
  obtain ⟨cs, t, hc, ht, hs⟩ := rowD_is h
  rw [hc, cell_of_row w g i cs t (0, 0) ht]
  rfl

/-- A whole one is read. -/
def ldD (v : Value) : Sem Value := Instr.loadAt 34 v
theorem to_ldD (v : Value) : Instr.loadAt 34 v = ldD v := (rfl)
theorem info18 : (Try.prog.info? 34).map (·.size) = some 18 := by kernel_rfl
theorem run_ldD (w : World) (g : Nat) (h : (rowD w g).isSome = true) : (ldD (.pointer (some ⟨g, 0, none⟩))).run Try.prog w = .ok (.agg ((rowD w g).getD #[])) w := by
  obtain ⟨cs, t, hc, ht, hs⟩ := rowD_is h
  rw [hc]
  unfold ldD
  simp only [Instr.loadAt, Instr.sureAddr, Sem.run_bind, Sem.run_pure, Result.andThen_ok, run_loadVar_row w g t 34 cs (0, 0) _ ht Try.underlying34 rfl (by rw [hs]; exact info18), Option.getD_some]
theorem res_rowD {fn : Func} {p : Tmp} (h : fn.results = #[.cell p 34]) (tmps : Array Value) (w : World) (g : Nat) (cs : Array Value) (hp : tmps.getD p undef = .pointer (some ⟨g, 0, none⟩)) (hr : rowD w g = some cs) :
    (results fn tmps).run Try.prog w = .ok (.agg cs) w := by
  obtain ⟨t, ht, hs⟩ := rowD_some hr
  exact results_cell_row h tmps w g t cs (0, 0) _ hp ht Try.underlying34 rfl (by rw [hs]; exact info18)
theorem res2_rowD {fn : Func} {p u : Tmp} (h : fn.results = #[.cell p 34, .tmp u]) (tmps : Array Value) (w : World) (g : Nat) (cs : Array Value) (hp : tmps.getD p undef = .pointer (some ⟨g, 0, none⟩)) (hr : rowD w g = some cs) :
    (results fn tmps).run Try.prog w = .ok (.tuple #[.agg cs, tmps.getD u undef]) w := by
  obtain ⟨t, ht, hs⟩ := rowD_some hr
  have hv := run_loadVar_row (P := Try.prog) w g t 34 cs (0, 0) _ ht Try.underlying34 rfl (by rw [hs]; exact info18)
  rw [results_cell_tmp h, hp]
  simp [asAddr, hv, Result.andThen]
/-- Cells that make a whole one. -/
def okC (cells : Array Value) : Bool := decide (cells.size = 18) && cells.all (·.oneCell')
theorem okC_dcs (d : Ds) : okC (dcs d) = true := by simp [okC, dcs_size, dcs_one18]
theorem okC_lit (a0 a1 a2 a3 a4 a5 a6 a7 a8 a9 a10 a11 a12 a13 a14 a15 a16 a17 : Value) : okC #[a0, a1, a2, a3, a4, a5, a6, a7, a8, a9, a10, a11, a12, a13, a14, a15, a16, a17] = (a0.oneCell' && a1.oneCell' && a2.oneCell' && a3.oneCell' && a4.oneCell' && a5.oneCell' && a6.oneCell' && a7.oneCell' && a8.oneCell' && a9.oneCell' && a10.oneCell' && a11.oneCell' && a12.oneCell' && a13.oneCell' && a14.oneCell' && a15.oneCell' && a16.oneCell' && a17.oneCell') := by simp [okC, Bool.and_assoc]
/-- A whole one is laid. -/
def stD (p v : Value) : Sem Unit := Instr.storeAt 34 p v
theorem to_stD (p v : Value) : Instr.storeAt 34 p v = stD p v := (rfl)
theorem rowD_putc (w : World) (g : Nat) (cs : Array Value) (h : (rowD w g).isSome = true) (hs : okC cs = true) : rowD (putD w g cs) g = some cs := by
  simp only [okC, Bool.and_eq_true, decide_eq_true_eq] at hs
  exact rowD_put w g cs h hs.1
theorem run_stD (w : World) (g : Nat) (cells : Array Value) (h : (rowD w g).isSome = true) (h2 : okC cells = true) : (stD (.pointer (some ⟨g, 0, none⟩)) (.agg cells)).run Try.prog w = .ok () (putD w g cells) := by
  obtain ⟨cs, t, hc, ht, hs⟩ := rowD_is h
  simp only [okC, Bool.and_eq_true, decide_eq_true_eq] at h2
  obtain ⟨hs2, h1⟩ := h2
  unfold stD
  simp only [Instr.storeAt, Instr.sureAddr, Sem.run_bind, Sem.run_pure, Result.andThen_ok, run_storeVar_row w g t 34 cs cells ht (by rw [hs2]; exact info18) (hs.trans hs2.symm) h1]
  rfl

/-- '==' of two values, of two descriptors. -/
def eqV (a b : Vl) : Bool := a.k == b.k && (a.n == b.n && a.s.toList == b.s.toList)
def eqD (a b : Ds) : Bool := a.hv == b.hv && (a.hg == b.hg && (a.hs == b.hs && (a.hw == b.hw && (a.he == b.he && (a.hc == b.hc && (eqV a.v b.v && (eqV a.g b.g && (eqV a.s b.s && (a.w == b.w && (a.e == b.e && a.c == b.c))))))))))
theorem tl_inj {a b : ByteArray} (h : a.toList = b.toList) : a = b := by
  rw [ByteArray.toList_eq, ByteArray.toList_eq] at h
  exact ByteArray.ext (Array.toList_inj.1 h)
theorem eqV_iff {a b : Vl} : eqV a b = true ↔ a = b := by
  obtain ⟨ak, an, az⟩ := a
  obtain ⟨bk, bn, bz⟩ := b
  simp only [eqV, Bool.and_eq_true, beq_iff_eq, Vl.mk.injEq]
  exact ⟨fun ⟨h1, h2, h3⟩ => ⟨h1, h2, tl_inj h3⟩, fun ⟨h1, h2, h3⟩ => ⟨h1, h2, by rw [h3]⟩⟩
theorem eqD_iff {a b : Ds} : eqD a b = true ↔ a = b := by
  obtain ⟨a1, a2, a3, a4, a5, a6, a7, a8, a9, a10, a11, a12⟩ := a
  obtain ⟨b1, b2, b3, b4, b5, b6, b7, b8, b9, b10, b11, b12⟩ := b
  simp only [eqD, Bool.and_eq_true, beq_iff_eq, Ds.mk.injEq, eqV_iff]
theorem eqV_refl (a : Vl) : eqV a a = true := eqV_iff.2 rfl
theorem eqD_refl (a : Ds) : eqD a a = true := eqD_iff.2 rfl
theorem run_eqV (d : Nat) (k n k2 n2 : Int) (s s2 : ByteArray) (w : World) : (Op.equalIn (d + 2) 32 (.agg #[.int .i64 k, .int .i64 n, .string s]) (.agg #[.int .i64 k2, .int .i64 n2, .string s2])).run Try.prog w = .ok (eqV ⟨k, n, s⟩ ⟨k2, n2, s2⟩) w := by
  unfold eqV
  by_cases h1 : k = k2
  · by_cases h2 : n = n2
    · by_cases h3 : s.toList = s2.toList
      · simp [go_sem, h1, h2, h3]
      · simp [go_sem, h1, h2, h3]
    · simp [go_sem, h1, h2]
  · simp [go_sem, h1]
theorem run_eqV0 (k n k2 n2 : Int) (s s2 : ByteArray) (w : World) : (Op.equalIn 10000 32 (.agg #[.int .i64 k, .int .i64 n, .string s]) (.agg #[.int .i64 k2, .int .i64 n2, .string s2])).run Try.prog w = .ok (eqV ⟨k, n, s⟩ ⟨k2, n2, s2⟩) w := run_eqV 9998 k n k2 n2 s s2 w
theorem eqf_cons {P : Program} {w : World} {d : Nat} {xs ys : Array Value} {f : Field} {fs : List Field} {a b : Value} {r s : Bool} (hn : f.name ≠ "_") (ha : (part f.type xs f.offset).run P w = .ok a w) (hb : (part f.type ys f.offset).run P w = .ok b w)
    (h : (Op.equalIn d f.type a b).run P w = .ok r w) (ht : (Op.eqFields d xs ys fs).run P w = .ok s w) : (Op.eqFields d xs ys (f :: fs)).run P w = .ok (r && s) w := by
  simp only [Op.eqFields]
  rw [if_pos hn]
  simp only [Sem.run_bind, ha, hb, h, Result.andThen_ok, Sem.run_ite, Sem.run_pure, ht]
  cases r <;> simp
theorem eqf_nil {P : Program} {w : World} {d : Nat} {xs ys : Array Value} : (Op.eqFields d xs ys []).run P w = .ok true w := by simp [Op.eqFields]
theorem run_eqD (a b : Ds) (w : World) : (Op.equalIn 10000 34 (.agg (dcs a)) (.agg (dcs b))).run Try.prog w = .ok (eqD a b) w := by
  rw [run_equalIn_struct w 9999 34 _ _ (by kernel_rfl) (by kernel_rfl)]
  simp only [Program.fieldsOf, Try.underlying34]
  have e : eqD a b = (a.hv == b.hv && (a.hg == b.hg && (a.hs == b.hs && (a.hw == b.hw && (a.he == b.he && (a.hc == b.hc && (eqV a.v b.v && (eqV a.g b.g && (eqV a.s b.s && (a.w == b.w && (a.e == b.e && (a.c == b.c && true)))))))))))) := by simp only [eqD, Bool.and_true]
  rw [e]
  refine eqf_cons (a := .bool a.hv) (b := .bool b.hv) (by decide) (by simp [go_sem, dcs]) (by simp [go_sem, dcs]) (run_equalIn_bool' w 9998 4 a.hv b.hv Try.underlying4) ?_
  refine eqf_cons (a := .bool a.hg) (b := .bool b.hg) (by decide) (by simp [go_sem, dcs]) (by simp [go_sem, dcs]) (run_equalIn_bool' w 9998 4 a.hg b.hg Try.underlying4) ?_
  refine eqf_cons (a := .bool a.hs) (b := .bool b.hs) (by decide) (by simp [go_sem, dcs]) (by simp [go_sem, dcs]) (run_equalIn_bool' w 9998 4 a.hs b.hs Try.underlying4) ?_
  refine eqf_cons (a := .bool a.hw) (b := .bool b.hw) (by decide) (by simp [go_sem, dcs]) (by simp [go_sem, dcs]) (run_equalIn_bool' w 9998 4 a.hw b.hw Try.underlying4) ?_
  refine eqf_cons (a := .bool a.he) (b := .bool b.he) (by decide) (by simp [go_sem, dcs]) (by simp [go_sem, dcs]) (run_equalIn_bool' w 9998 4 a.he b.he Try.underlying4) ?_
  refine eqf_cons (a := .bool a.hc) (b := .bool b.hc) (by decide) (by simp [go_sem, dcs]) (by simp [go_sem, dcs]) (run_equalIn_bool' w 9998 4 a.hc b.hc Try.underlying4) ?_
  refine eqf_cons (a := VV a.v) (b := VV b.v) (by decide) (by simp [go_sem, dcs]) (by simp [go_sem, dcs]) (run_eqV 9997 a.v.k a.v.n b.v.k b.v.n a.v.s b.v.s w) ?_
  refine eqf_cons (a := VV a.g) (b := VV b.g) (by decide) (by simp [go_sem, dcs]) (by simp [go_sem, dcs]) (run_eqV 9997 a.g.k a.g.n b.g.k b.g.n a.g.s b.g.s w) ?_
  refine eqf_cons (a := VV a.s) (b := VV b.s) (by decide) (by simp [go_sem, dcs]) (by simp [go_sem, dcs]) (run_eqV 9997 a.s.k a.s.n b.s.k b.s.n a.s.s b.s.s w) ?_
  refine eqf_cons (a := .bool a.w) (b := .bool b.w) (by decide) (by simp [go_sem, dcs]) (by simp [go_sem, dcs]) (run_equalIn_bool' w 9998 4 a.w b.w Try.underlying4) ?_
  refine eqf_cons (a := .bool a.e) (b := .bool b.e) (by decide) (by simp [go_sem, dcs]) (by simp [go_sem, dcs]) (run_equalIn_bool' w 9998 4 a.e b.e Try.underlying4) ?_
  refine eqf_cons (a := .bool a.c) (b := .bool b.c) (by decide) (by simp [go_sem, dcs]) (by simp [go_sem, dcs]) (run_equalIn_bool' w 9998 4 a.c b.c Try.underlying4) ?_
  exact eqf_nil
end Go.Proofs.Ytblbeinnfbohbaa.Des
