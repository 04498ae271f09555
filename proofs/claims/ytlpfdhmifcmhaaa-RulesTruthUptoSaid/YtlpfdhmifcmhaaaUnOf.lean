/-
  units.Of, units.Right and units.Len, by their visitors.
-/
import Derived.Test.YtlpfdhmifcmhaaaUnPts
import Derived.OneCell
namespace Go.Proofs.Ytlpfdhmifcmhaaa.Uni
open Go.RowKit
set_option linter.unusedVariables false

/-- Units as cells. -/
def uc (l : List Nat) : List Value := l.map fun n : Nat => Value.int .u16 (n : Int)
theorem uc_append (a b : List Nat) : uc (a ++ b) = uc a ++ uc b := by simp [uc]
theorem uc_length (a : List Nat) : (uc a).length = a.length := by simp [uc]

theorem info32 : (Try.prog.info? 61).map (fun i => (i.zero, i.size, i.bytes)) = some (some (.int .u16 0), 1, 2) := by kernel_rfl

def AppU (base : Nat) (v : Value) (n : Nat) (xs : List Value) (p : Nat) (w : World) (e : Ending) (w' : World) : Prop :=
  ∃ v', e = .returned v' ∧ w'.ownsRow base 61 1 v' (n + (un p).length) (xs ++ uc (un p)) ∧ w.grownBy w' v.ownBlock

theorem grownBy_of_alloc {w w' : World} {o : Obj} {row : Option Nat} (h : (w.alloc o).grownBy w' row) : w.grownBy w' row := by
  refine ⟨h.os, h.tape, h.output, ?_, ?_⟩
  · have := h.size; simp at this; omega
  · intro k hk hr
    rw [h.block k (by simp; omega) hr]
    exact heap_alloc_old w o hk

theorem mask10 (x : Int) (h0 : 0 ≤ x) (h1 : x < 2147483648) : bits .and .i32 x 1023 = x % 1024 :=
  bits_mask .i32 31 (by decide) wraps_i32 10 (by decide) x h0 h1

theorem iter_below {B : Nat} {w : World} (h : B ≤ w.heap.size) (s : ByteArray) : Below B w (w.iter s 0) := (Below.refl _ w).alloc h _

/-- What the visitor of Of keeps: the captured variable's block holds a slice that owns the units so far. -/
def InvOf (w0 : World) (base c : Nat) (done : List Nat) (wr : World) : Prop :=
  ∃ v, wr.heap[c]? = some (.cells #[v] 50 (0, 0)) ∧ wr.ownsRow base 61 1 v (uns done).length (uc (uns done)) ∧ Below base w0 wr ∧ base ≤ wr.heap.size

theorem own_shape {w : World} {base e1 : Nat} {v : Value} {n : Nat} {xs : List Value} (h : w.ownsRow base e1 1 v n xs) : ∃ a c, v = .slice a n c := by
  rcases h.2 with ⟨rfl, rfl⟩ | ⟨g, cap, cur, rfl, _⟩
  · exact ⟨none, 0, rfl⟩
  · exact ⟨_, cap, rfl⟩
theorem own_ne {w : World} {base e1 e2 : Nat} {v : Value} {n c : Nat} {xs : List Value} {cs : Array Value} {fz : Nat × Nat} (h : w.ownsRow base e1 1 v n xs) (hc : w.heap[c]? = some (.cells cs e2 fz)) (hne : e1 ≠ e2) : v.ownBlock ≠ some c := by
  rcases h.2 with ⟨rfl, _⟩ | ⟨g, cap, cur, rfl, _, hg, _⟩
  · simp [Value.ownBlock]
  · simp [Value.ownBlock]
    rintro rfl
    rw [hg] at hc
    simp at hc
    exact hne hc.2.1
theorem own_ne_iter {w : World} {base e1 : Nat} {v : Value} {n c : Nat} {xs : List Value} {s : ByteArray} {pos : Nat} (h : w.ownsRow base e1 1 v n xs) (hc : w.heap[c]? = some (.stringIter s pos)) : v.ownBlock ≠ some c := by
  rcases h.2 with ⟨rfl, _⟩ | ⟨g, cap, cur, rfl, _, hg, _⟩
  · simp [Value.ownBlock]
  · simp [Value.ownBlock]
    rintro rfl
    rw [hg] at hc
    simp at hc
theorem own_iterAt {w : World} {base e1 : Nat} {v : Value} {n k : Nat} {xs : List Value} {s : ByteArray} {pos : Nat} (h : w.ownsRow base e1 1 v n xs) (hk : w.heap[k]? = some (.stringIter s pos)) (pos' : Nat) : (w.iterAt k s pos').ownsRow base e1 1 v n xs := by
  have hne := own_ne_iter h hk
  refine ⟨h.1, ?_⟩
  rcases h.2 with hn | ⟨g, cap, cur, rfl, hb, hg, rest⟩
  · exact .inl hn
  · refine .inr ⟨g, cap, cur, rfl, hb, ?_, rest⟩
    rw [Lib.iterAt_other w k g s pos' (by simpa [Value.ownBlock] using hne)]
    exact hg

/-- What Of gives: a slice that owns the units. -/
def OfPost (s : ByteArray) (w : World) (e : Ending) (w' : World) : Prop :=
  ∃ v, e = .returned v ∧ w'.ownsRow w.heap.size 61 1 v (units s).length (uc (units s)) ∧ Below w.heap.size w w'

end Go.Proofs.Ytlpfdhmifcmhaaa.Uni
