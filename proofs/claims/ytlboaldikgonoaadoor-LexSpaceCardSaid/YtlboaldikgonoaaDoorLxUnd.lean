/-
  lex.undecodable.
-/
import Derived.Test.YtlboaldikgonoaaDoorLxNext
import Derived.Test.YtlboaldikgonoaaDoorLxTok
namespace Go.Proofs.YtlboaldikgonoaaDoor.Lx
open Go Go.RowKit Go.Proofs.YtlboaldikgonoaaDoor.Uni
set_option linter.unusedVariables false
set_option linter.unusedSimpArgs false

/-- The first place, from i on, at which nothing is encoded. -/
def badF (s : ByteArray) : Nat → Nat → Option Nat
  | 0, _ => none
  | f + 1, i => if i < s.size then (if Utf8.decode s i = (65533, 1) then some i else badF s f (i + (Utf8.decode s i).2)) else none
def badS (s : ByteArray) : Option Nat := badF s s.size 0
theorem badF_end {s : ByteArray} {f i : Nat} (h : ¬ i < s.size) : badF s f i = none := by
  cases f with
  | zero => rfl
  | succ f => simp only [badF]; rw [if_neg h]
theorem badF_hit {s : ByteArray} {f i : Nat} (h : i < s.size) (hd : Utf8.decode s i = (65533, 1)) : badF s (f + 1) i = some i := by simp only [badF]; rw [if_pos h, if_pos hd]
theorem badF_step {s : ByteArray} {f i : Nat} (h : i < s.size) (hd : ¬ Utf8.decode s i = (65533, 1)) : badF s (f + 1) i = badF s f (i + (Utf8.decode s i).2) := by simp only [badF]; rw [if_pos h, if_neg hd]

def UInv (s : ByteArray) (w0 : World) (wr : World) : Prop :=
  ∃ pos f, pos ≤ s.size ∧ s.size ≤ pos + f ∧ badS s = badF s f pos ∧ wr.heap[w0.heap.size]? = some (.stringIter s pos) ∧ Below w0.heap.size w0 wr

set_option maxHeartbeats 1000000 in
theorem und_any (s : ByteArray) (w : World) (hs : s.size ≤ 1000000) :
    Calls Tryd.prog 19 #[.string s] w fun e w' => e = .returned (.tuple #[.int .i64 ((badS s).getD 0 : Nat), .bool (badS s).isSome]) ∧ Below w.heap.size w w' := by
  go_enter Tryd.func19, Tryd.ntmps19
  go_wp2
  go_loopw [] (fun wr => UInv s w wr) (fun wr => s.size - wr.iterPos w.heap.size)
  case atStart => exact ⟨0, s.size, Nat.zero_le _, by omega, rfl, World.iter_heap _ _ _, iter_below (Nat.le_refl _) s⟩
  case round =>
    obtain ⟨pos, f, hps, hfu, hbad, hit, hbel⟩ := hrel
    by_cases hp : pos < s.size
    · obtain ⟨f', rfl⟩ : ∃ f', f = f' + 1 := ⟨f - 1, by omega⟩
      have hnx : ∀ ty, (Instr.next (.pointer (some ⟨w.heap.size, 0, none⟩)) true ty).run Tryd.prog wr = _ := fun ty => Lib.run_next_any_at wr w.heap.size s pos ty hit hp
      have hcur := decode_cases s pos hp
      have hsz : (pos : Int) ≤ s.size := by omega
      by_cases hd : Utf8.decode s pos = (65533, 1)
      · rw [badF_hit hp hd] at hbad
        have hb2 : Below w.heap.size w (wr.iterAt w.heap.size s (pos + 1)) := Lib.below_iterAt hbel (Nat.le_refl _) s (pos + 1)
        rw [hd] at hnx
        have HBAD := Lib.hid hbad
        have HDD := Lib.hid hd
        clear hcur hbad hd
        go_wp2_with (go_at_call 25; refine (pre_no s pos _ (by rw [HDD.out]; simp)).mono ?_; rintro e w' ⟨rfl, rfl⟩)
        go_ret2
        exact ⟨by rw [HBAD.out]; rfl, hb2⟩
      · have hcur := hcur.resolve_left hd
        rw [badF_step hp hd] at hbad
        obtain ⟨r, n, hrn⟩ : ∃ r n, Utf8.decode s pos = (r, n) := ⟨_, _, rfl⟩
        rw [hrn] at hcur hnx hbad
        simp only at hcur
        obtain ⟨hn1, hn2, hn3, hr1, hr2, hr3⟩ := hcur
        have hh := Lib.iterAt_heap wr w.heap.size s pos (pos + n) hit
        have hb2 : Below w.heap.size w (wr.iterAt w.heap.size s (pos + n)) := Lib.below_iterAt hbel (Nat.le_refl _) s (pos + n)
        have HBAD := Lib.hid hbad
        clear hbad hr2 hd
        by_cases hff : r = 65533
        · have hn := hr3 hff
          subst hff hn
          clear hr3
          go_wp2_with (go_at_call 25; refine (pre_yes s pos _ hrn).mono ?_; rintro e w' ⟨rfl, rfl⟩)
          go_roundw
          case rel => exact ⟨pos + 3, f', hn2, by omega, HBAD.out, hh, hb2⟩
          case measure => simp only [World.iterPos, hh, hit]; omega
        · have hff2 : ((r : Int) == 65533) = false := by simp; omega
          clear hff hr3 hrn
          go_wp2
          go_roundw
          case rel => exact ⟨pos + n, f', hn2, by omega, HBAD.out, hh, hb2⟩
          case measure => simp only [World.iterPos, hh, hit]; omega
    · have hnx : ∀ ty, (Instr.next (.pointer (some ⟨w.heap.size, 0, none⟩)) true ty).run Tryd.prog wr = _ := fun ty => Lib.run_next_end_at wr w.heap.size s pos ty hit hp
      rw [badF_end hp] at hbad
      have HBAD := Lib.hid hbad
      clear hbad
      go_wp2
      go_ret2
      exact ⟨by rw [HBAD.out]; rfl, hbel⟩
end Go.Proofs.YtlboaldikgonoaaDoor.Lx
