/-
  Texts of this seat in build order: PgSm, VaKind, UnLen, VaRight.
-/
import Derived.Test.YtinoaajohkafmaaGreatMw05
import Derived.Test.YtinoaajohkafmaaGreatMw02
import Derived.Test.YtinoaajohkafmaaGreatMw01
import Derived.Below
import Derived.Test.YtinoaajohkafmaaGreatMw00
import Derived.Deep.RegionWith
/-
  The printer's small functions on texts.
-/
namespace Go.Proofs.YtinoaajohkafmaaGreat.Pr
open Go Go.RowKit Go.Proofs.YtinoaajohkafmaaGreat.Pa Go.Proofs.YtinoaajohkafmaaGreat.Uni
open Go.Proofs.YtinoaajohkafmaaGreat.Lx
set_option linter.unusedVariables false
set_option linter.unusedSimpArgs false
attribute [local go_sem ↓] ldK stK alK bdK bsK ldN stN alN bdN bsN
attribute [local irreducible] kcs ncs ncells
attribute [local go_sem] run_alN run_stNg run_ldNg run_bdN0
theorem dec_hi {s : ByteArray} {i : Nat} (h : 128 ≤ B s i) : 128 ≤ (Utf8.decode s i).1 := by
  have h1 := B_lt s (i + 1)
  have h2 := B_lt s (i + 2)
  have h3 := B_lt s (i + 3)
  rw [dec_eq]
  split
  · omega
  · split
    · split
      · simp; omega
      · simp
    · split
      · split
        · simp; omega
        · simp
      · split
        · split
          · simp; omega
          · simp
        · simp
theorem dec_lo {s : ByteArray} {i : Nat} (h : B s i < 128) : Utf8.decode s i = (B s i, 1) := by rw [dec_eq, if_pos h]
theorem nameL_bad {s : ByteArray} {i : Nat} (hi : i < s.size) (h1 : leadN (B s i) = false) (h2 : i = 0 ∨ digitN (B s i) = false) : nameL s.data.toList = false := by
  cases h : nameL s.data.toList with
  | false => rfl
  | true =>
    have := ((nameL_iff _).1 h).2 i (by rw [show s.data.toList.length = s.size from by simp]; exact hi)
    have e : (s.data.toList[i]?.getD 0).toNat = B s i := rfl
    rw [e, h1] at this
    rcases this with h3 | ⟨h3, h4⟩
    · cases h3
    · rcases h2 with h2 | h2
      · omega
      · rw [h2] at h4; cases h4
theorem nameL_end {s : ByteArray} (h0 : 0 < s.size) (h : NamedTo s s.size) : nameL s.data.toList = true := by
  rw [nameL_iff]
  have e : s.data.toList.length = s.size := by simp
  rw [e]
  exact ⟨h0, h⟩
structure MI (s : ByteArray) (w wr : World) (i : Nat) : Prop where
  le : i ≤ s.size
  it : wr.heap[w.heap.size]? = some (.stringIter s i)
  bel : Below w.heap.size w wr
  nm : NamedTo s i
set_option maxRecDepth 100000 in
set_option maxHeartbeats 8000000 in
theorem isName_any (s : ByteArray) (w : World) (hs : s.size ≤ 1048576) : Calls Tryz.prog 45 #[.string s] w (PostR w (.bool (nameB s))) := by
  unfold nameB
  rw [decide_eq_true hs, Bool.and_true]
  go_enter Tryz.func45, Tryz.ntmps45
  go_wp2
  go_loopw [] (fun wr => ∃ i, MI s w wr i) (fun wr => s.size - wr.iterPos w.heap.size)
  case atStart => exact ⟨0, Nat.zero_le _, World.iter_heap _ _ _, iter_below (Nat.le_refl _) s, fun j hj => by omega⟩
  case round =>
    obtain ⟨i, hI⟩ := hrel
    have hit := hI.it
    by_cases hp : i < s.size
    · have hnx : ∀ ty, (Instr.next (.pointer (some ⟨w.heap.size, 0, none⟩)) true ty).run Tryz.prog wr = _ := fun ty => Lib.run_next_any_at wr w.heap.size s i ty hit hp
      obtain ⟨r, n, hrn⟩ : ∃ r n, Utf8.decode s i = (r, n) := ⟨_, _, rfl⟩
      have hr : r = B s i ∧ n = 1 ∨ 128 ≤ r ∧ 128 ≤ B s i := by
        by_cases hb : B s i < 128
        · rw [dec_lo hb] at hrn
          simp at hrn
          exact .inl ⟨hrn.1.symm, hrn.2.symm⟩
        · have := dec_hi (s := s) (i := i) (by omega)
          rw [hrn] at this
          exact .inr ⟨this, by omega⟩
      rw [hrn] at hnx
      have hsi : (i : Int) ≤ 1048576 := by omega
      have hh := Lib.iterAt_heap wr w.heap.size s i (i + n) hit
      have hb2 : Below w.heap.size w (wr.iterAt w.heap.size s (i + n)) := Lib.below_iterAt hI.bel (Nat.le_refl _) s (i + n)
      have HI := Lib.hid hI
      have HB := Lib.hid hb2
      have HH := Lib.hid hh
      have HP := Lib.hid hp
      have HR := Lib.hid hr
      have hno : leadN (B s i) = false → (i = 0 ∨ digitN (B s i) = false) → nameL s.data.toList = false := nameL_bad hp
      have HNO := Lib.hid hno
      clear hI hb2 hrn hno
      rcases (by omega : (0 ≤ r ∧ r ≤ 35) ∨ (36 ≤ r ∧ r ≤ 36) ∨ (37 ≤ r ∧ r ≤ 47) ∨ (48 ≤ r ∧ r ≤ 57) ∨ (58 ≤ r ∧ r ≤ 64) ∨ (65 ≤ r ∧ r ≤ 90) ∨ (91 ≤ r ∧ r ≤ 94) ∨ (95 ≤ r ∧ r ≤ 95) ∨ (96 ≤ r ∧ r ≤ 96) ∨ (97 ≤ r ∧ r ≤ 122) ∨ 123 ≤ r) with hr2 | hr2 | hr2 | hr2 | hr2 | hr2 | hr2 | hr2 | hr2 | hr2 | hr2
      · have f0 : decide (97 ≤ (r : Int)) = false := by simp; omega
        have f1 : decide ((r : Int) ≤ 122) = true := by simp; omega
        have f2 : decide (65 ≤ (r : Int)) = false := by simp; omega
        have f3 : decide ((r : Int) ≤ 90) = true := by simp; omega
        have f4 : ((r : Int) == 95) = false := by simp; omega
        have f5 : ((r : Int) == 36) = false := by simp; omega
        have f6 : decide (48 ≤ (r : Int)) = false := by simp; omega
        have f7 : decide ((r : Int) ≤ 57) = true := by simp; omega
        have hz : nameL s.data.toList = false := HNO.out (by have := HR.out; unfold leadN; simp; omega) (.inr (by have := HR.out; unfold digitN; simp; omega))
        rw [hz]
        clear hz
        go_wp2
        go_ret
        exact ⟨rfl, by have := HB.out; simpa using this⟩
      · have f0 : decide (97 ≤ (r : Int)) = false := by simp; omega
        have f1 : decide ((r : Int) ≤ 122) = true := by simp; omega
        have f2 : decide (65 ≤ (r : Int)) = false := by simp; omega
        have f3 : decide ((r : Int) ≤ 90) = true := by simp; omega
        have f4 : ((r : Int) == 95) = false := by simp; omega
        have f5 : ((r : Int) == 36) = true := by simp; omega
        have f6 : decide (48 ≤ (r : Int)) = false := by simp; omega
        have f7 : decide ((r : Int) ≤ 57) = true := by simp; omega
        go_wp2
        go_roundw
        case rel =>
          obtain ⟨h1, h2⟩ : r = B s i ∧ n = 1 := by rcases HR.out with h | h; exact h; omega
          subst h2
          refine ⟨i + 1, by have := HP.out; omega, HH.out, HB.out, fun j hj => ?_⟩
          by_cases hji : j = i
          · subst hji
            rw [← h1]
            exact .inl (by unfold leadN; simp; omega)
          · exact HI.out.nm j (by omega)
        case measure =>
          obtain ⟨h1, h2⟩ : r = B s i ∧ n = 1 := by rcases HR.out with h | h; exact h; omega
          subst h2
          have := HP.out
          simp only [World.iterPos, HH.out, hit]; omega
      · have f0 : decide (97 ≤ (r : Int)) = false := by simp; omega
        have f1 : decide ((r : Int) ≤ 122) = true := by simp; omega
        have f2 : decide (65 ≤ (r : Int)) = false := by simp; omega
        have f3 : decide ((r : Int) ≤ 90) = true := by simp; omega
        have f4 : ((r : Int) == 95) = false := by simp; omega
        have f5 : ((r : Int) == 36) = false := by simp; omega
        have f6 : decide (48 ≤ (r : Int)) = false := by simp; omega
        have f7 : decide ((r : Int) ≤ 57) = true := by simp; omega
        have hz : nameL s.data.toList = false := HNO.out (by have := HR.out; unfold leadN; simp; omega) (.inr (by have := HR.out; unfold digitN; simp; omega))
        rw [hz]
        clear hz
        go_wp2
        go_ret
        exact ⟨rfl, by have := HB.out; simpa using this⟩
      · have f0 : decide (97 ≤ (r : Int)) = false := by simp; omega
        have f1 : decide ((r : Int) ≤ 122) = true := by simp; omega
        have f2 : decide (65 ≤ (r : Int)) = false := by simp; omega
        have f3 : decide ((r : Int) ≤ 90) = true := by simp; omega
        have f4 : ((r : Int) == 95) = false := by simp; omega
        have f5 : ((r : Int) == 36) = false := by simp; omega
        have f6 : decide (48 ≤ (r : Int)) = true := by simp; omega
        have f7 : decide ((r : Int) ≤ 57) = true := by simp; omega
        by_cases h0 : i = 0
        · subst h0
          have hz : nameL s.data.toList = false := HNO.out (by have := HR.out; unfold leadN; simp; omega) (.inl rfl)
          rw [hz]
          clear hz
          go_wp2
          go_ret
          exact ⟨rfl, by have := HB.out; simpa using this⟩
        · have g0 : ((i : Int) == 0) = false := by simp; omega
          go_wp2
          go_roundw
          case rel =>
            obtain ⟨h1, h2⟩ : r = B s i ∧ n = 1 := by rcases HR.out with h | h; exact h; omega
            subst h2
            refine ⟨i + 1, by have := HP.out; omega, HH.out, HB.out, fun j hj => ?_⟩
            by_cases hji : j = i
            · subst hji
              rw [← h1]
              exact .inr ⟨by omega, by unfold digitN; simp; omega⟩
            · exact HI.out.nm j (by omega)
          case measure =>
            obtain ⟨h1, h2⟩ : r = B s i ∧ n = 1 := by rcases HR.out with h | h; exact h; omega
            subst h2
            have := HP.out
            simp only [World.iterPos, HH.out, hit]; omega
      · have f0 : decide (97 ≤ (r : Int)) = false := by simp; omega
        have f1 : decide ((r : Int) ≤ 122) = true := by simp; omega
        have f2 : decide (65 ≤ (r : Int)) = false := by simp; omega
        have f3 : decide ((r : Int) ≤ 90) = true := by simp; omega
        have f4 : ((r : Int) == 95) = false := by simp; omega
        have f5 : ((r : Int) == 36) = false := by simp; omega
        have f6 : decide (48 ≤ (r : Int)) = true := by simp; omega
        have f7 : decide ((r : Int) ≤ 57) = false := by simp; omega
        have hz : nameL s.data.toList = false := HNO.out (by have := HR.out; unfold leadN; simp; omega) (.inr (by have := HR.out; unfold digitN; simp; omega))
        rw [hz]
        clear hz
        go_wp2
        go_ret
        exact ⟨rfl, by have := HB.out; simpa using this⟩
      · have f0 : decide (97 ≤ (r : Int)) = false := by simp; omega
        have f1 : decide ((r : Int) ≤ 122) = true := by simp; omega
        have f2 : decide (65 ≤ (r : Int)) = true := by simp; omega
        have f3 : decide ((r : Int) ≤ 90) = true := by simp; omega
        have f4 : ((r : Int) == 95) = false := by simp; omega
        have f5 : ((r : Int) == 36) = false := by simp; omega
        have f6 : decide (48 ≤ (r : Int)) = true := by simp; omega
        have f7 : decide ((r : Int) ≤ 57) = false := by simp; omega
        go_wp2
        go_roundw
        case rel =>
          obtain ⟨h1, h2⟩ : r = B s i ∧ n = 1 := by rcases HR.out with h | h; exact h; omega
          subst h2
          refine ⟨i + 1, by have := HP.out; omega, HH.out, HB.out, fun j hj => ?_⟩
          by_cases hji : j = i
          · subst hji
            rw [← h1]
            exact .inl (by unfold leadN; simp; omega)
          · exact HI.out.nm j (by omega)
        case measure =>
          obtain ⟨h1, h2⟩ : r = B s i ∧ n = 1 := by rcases HR.out with h | h; exact h; omega
          subst h2
          have := HP.out
          simp only [World.iterPos, HH.out, hit]; omega
      · have f0 : decide (97 ≤ (r : Int)) = false := by simp; omega
        have f1 : decide ((r : Int) ≤ 122) = true := by simp; omega
        have f2 : decide (65 ≤ (r : Int)) = true := by simp; omega
        have f3 : decide ((r : Int) ≤ 90) = false := by simp; omega
        have f4 : ((r : Int) == 95) = false := by simp; omega
        have f5 : ((r : Int) == 36) = false := by simp; omega
        have f6 : decide (48 ≤ (r : Int)) = true := by simp; omega
        have f7 : decide ((r : Int) ≤ 57) = false := by simp; omega
        have hz : nameL s.data.toList = false := HNO.out (by have := HR.out; unfold leadN; simp; omega) (.inr (by have := HR.out; unfold digitN; simp; omega))
        rw [hz]
        clear hz
        go_wp2
        go_ret
        exact ⟨rfl, by have := HB.out; simpa using this⟩
      · have f0 : decide (97 ≤ (r : Int)) = false := by simp; omega
        have f1 : decide ((r : Int) ≤ 122) = true := by simp; omega
        have f2 : decide (65 ≤ (r : Int)) = true := by simp; omega
        have f3 : decide ((r : Int) ≤ 90) = false := by simp; omega
        have f4 : ((r : Int) == 95) = true := by simp; omega
        have f5 : ((r : Int) == 36) = false := by simp; omega
        have f6 : decide (48 ≤ (r : Int)) = true := by simp; omega
        have f7 : decide ((r : Int) ≤ 57) = false := by simp; omega
        go_wp2
        go_roundw
        case rel =>
          obtain ⟨h1, h2⟩ : r = B s i ∧ n = 1 := by rcases HR.out with h | h; exact h; omega
          subst h2
          refine ⟨i + 1, by have := HP.out; omega, HH.out, HB.out, fun j hj => ?_⟩
          by_cases hji : j = i
          · subst hji
            rw [← h1]
            exact .inl (by unfold leadN; simp; omega)
          · exact HI.out.nm j (by omega)
        case measure =>
          obtain ⟨h1, h2⟩ : r = B s i ∧ n = 1 := by rcases HR.out with h | h; exact h; omega
          subst h2
          have := HP.out
          simp only [World.iterPos, HH.out, hit]; omega
      · have f0 : decide (97 ≤ (r : Int)) = false := by simp; omega
        have f1 : decide ((r : Int) ≤ 122) = true := by simp; omega
        have f2 : decide (65 ≤ (r : Int)) = true := by simp; omega
        have f3 : decide ((r : Int) ≤ 90) = false := by simp; omega
        have f4 : ((r : Int) == 95) = false := by simp; omega
        have f5 : ((r : Int) == 36) = false := by simp; omega
        have f6 : decide (48 ≤ (r : Int)) = true := by simp; omega
        have f7 : decide ((r : Int) ≤ 57) = false := by simp; omega
        have hz : nameL s.data.toList = false := HNO.out (by have := HR.out; unfold leadN; simp; omega) (.inr (by have := HR.out; unfold digitN; simp; omega))
        rw [hz]
        clear hz
        go_wp2
        go_ret
        exact ⟨rfl, by have := HB.out; simpa using this⟩
      · have f0 : decide (97 ≤ (r : Int)) = true := by simp; omega
        have f1 : decide ((r : Int) ≤ 122) = true := by simp; omega
        have f2 : decide (65 ≤ (r : Int)) = true := by simp; omega
        have f3 : decide ((r : Int) ≤ 90) = false := by simp; omega
        have f4 : ((r : Int) == 95) = false := by simp; omega
        have f5 : ((r : Int) == 36) = false := by simp; omega
        have f6 : decide (48 ≤ (r : Int)) = true := by simp; omega
        have f7 : decide ((r : Int) ≤ 57) = false := by simp; omega
        go_wp2
        go_roundw
        case rel =>
          obtain ⟨h1, h2⟩ : r = B s i ∧ n = 1 := by rcases HR.out with h | h; exact h; omega
          subst h2
          refine ⟨i + 1, by have := HP.out; omega, HH.out, HB.out, fun j hj => ?_⟩
          by_cases hji : j = i
          · subst hji
            rw [← h1]
            exact .inl (by unfold leadN; simp; omega)
          · exact HI.out.nm j (by omega)
        case measure =>
          obtain ⟨h1, h2⟩ : r = B s i ∧ n = 1 := by rcases HR.out with h | h; exact h; omega
          subst h2
          have := HP.out
          simp only [World.iterPos, HH.out, hit]; omega
      · have f0 : decide (97 ≤ (r : Int)) = true := by simp; omega
        have f1 : decide ((r : Int) ≤ 122) = false := by simp; omega
        have f2 : decide (65 ≤ (r : Int)) = true := by simp; omega
        have f3 : decide ((r : Int) ≤ 90) = false := by simp; omega
        have f4 : ((r : Int) == 95) = false := by simp; omega
        have f5 : ((r : Int) == 36) = false := by simp; omega
        have f6 : decide (48 ≤ (r : Int)) = true := by simp; omega
        have f7 : decide ((r : Int) ≤ 57) = false := by simp; omega
        have hz : nameL s.data.toList = false := HNO.out (by have := HR.out; unfold leadN; simp; omega) (.inr (by have := HR.out; unfold digitN; simp; omega))
        rw [hz]
        clear hz
        go_wp2
        go_ret
        exact ⟨rfl, by have := HB.out; simpa using this⟩
    · have hnx : ∀ ty, (Instr.next (.pointer (some ⟨w.heap.size, 0, none⟩)) true ty).run Tryz.prog wr = _ := fun ty => Lib.run_next_end_at wr w.heap.size s i ty hit hp
      have hie : i = s.size := by have := hI.le; omega
      have hres : nameL s.data.toList = !s.toList.isEmpty := by
        by_cases h0 : s.size = 0
        · have e1 : s.data.toList = [] := List.eq_nil_of_length_eq_zero (by simpa using h0)
          rw [tl_data, e1]
          rfl
        · rw [nameL_end (by omega) (hie ▸ hI.nm), tl_data]
          have : s.data.toList ≠ [] := fun h => h0 (by have := congrArg List.length h; simpa using this)
          cases hq : s.data.toList with
          | nil => exact absurd hq this
          | cons _ _ => rfl
      have HI := Lib.hid hI
      obtain ⟨E, hE⟩ : ∃ E, s.toList.isEmpty = E := ⟨_, rfl⟩
      rw [hE] at hres
      have HRES := Lib.hid hres
      have HW : Hid (Below w.heap.size w (wr.iterAt w.heap.size s s.size)) := Lib.hid (Lib.below_iterAt hI.bel (Nat.le_refl _) s s.size)
      clear hI hie hres hp
      cases E <;> (
        go_wp2
        go_ret
        exact ⟨by rw [HRES.out]; rfl, HI.out.bel⟩)
theorem isVar_0 (s : ByteArray) (w : World) (hs : s.size ≤ 1048576) (h : nameB s = false) : Calls Tryz.prog 43 #[.string s] w (PostR w (.bool false)) := by
  have c1 := isName_any s w hs
  rw [h] at c1
  clear h hs
  go_enter Tryz.func43, Tryz.ntmps43
  go_wp2_with (go_at_call 45; (with_reducible refine c1.mono ?_); rintro e w1 ⟨rfl, hb⟩; have HB := Lib.hid hb; clear hb)
  go_ret
  exact ⟨rfl, HB.out⟩
theorem isVar_10 (s : ByteArray) (w : World) (hs : s.size ≤ 1048576) (h : nameB s = true) (hw : wordF s.toList = 0) : Calls Tryz.prog 43 #[.string s] w (PostR w (.bool true)) := by
  have c1 := isName_any s w hs
  have c2 := fun w => word_any s w
  rw [h] at c1
  rw [hw] at c2
  clear h hs hw
  go_enter Tryz.func43, Tryz.ntmps43
  go_wp2_with (first | (go_at_call 45; (with_reducible refine c1.mono ?_); rintro e w1 ⟨rfl, hb⟩; have HB := Lib.hid hb; clear hb) | (go_at_call 46; (with_reducible refine (c2 _).mono ?_); rintro e w1 ⟨rfl, rfl⟩))
  go_ret
  exact ⟨rfl, HB.out⟩
theorem isVar_11 (s : ByteArray) (w : World) (hs : s.size ≤ 1048576) (h : nameB s = true) (hw : wordF s.toList = 1) : Calls Tryz.prog 43 #[.string s] w (PostR w (.bool false)) := by
  have c1 := isName_any s w hs
  have c2 := fun w => word_any s w
  rw [h] at c1
  rw [hw] at c2
  clear h hs hw
  go_enter Tryz.func43, Tryz.ntmps43
  go_wp2_with (first | (go_at_call 45; (with_reducible refine c1.mono ?_); rintro e w1 ⟨rfl, hb⟩; have HB := Lib.hid hb; clear hb) | (go_at_call 46; (with_reducible refine (c2 _).mono ?_); rintro e w1 ⟨rfl, rfl⟩))
  go_ret
  exact ⟨rfl, HB.out⟩
theorem isVar_12 (s : ByteArray) (w : World) (hs : s.size ≤ 1048576) (h : nameB s = true) (hw : wordF s.toList = 2) : Calls Tryz.prog 43 #[.string s] w (PostR w (.bool false)) := by
  have c1 := isName_any s w hs
  have c2 := fun w => word_any s w
  rw [h] at c1
  rw [hw] at c2
  clear h hs hw
  go_enter Tryz.func43, Tryz.ntmps43
  go_wp2_with (first | (go_at_call 45; (with_reducible refine c1.mono ?_); rintro e w1 ⟨rfl, hb⟩; have HB := Lib.hid hb; clear hb) | (go_at_call 46; (with_reducible refine (c2 _).mono ?_); rintro e w1 ⟨rfl, rfl⟩))
  go_ret
  exact ⟨rfl, HB.out⟩
theorem isVar_any (s : ByteArray) (w : World) (hs : s.size ≤ 1048576) : Calls Tryz.prog 43 #[.string s] w (PostR w (.bool (varB s))) := by
  unfold varB
  rw [← tl_data]
  cases h : nameB s with
  | false => exact isVar_0 s w hs h
  | true =>
    rcases (by unfold wordF; split; exact .inr (.inl rfl); split; exact .inr (.inr rfl); exact .inl rfl : wordF s.toList = 0 ∨ wordF s.toList = 1 ∨ wordF s.toList = 2) with h2 | h2 | h2
    · rw [h2]; exact isVar_10 s w hs h h2
    · rw [h2]; exact isVar_11 s w hs h h2
    · rw [h2]; exact isVar_12 s w hs h h2
end Go.Proofs.YtinoaajohkafmaaGreat.Pr

/-
  values.Truth and Type, and the reference's: what they give, kind by kind.
-/
namespace Go.Proofs.YtinoaajohkafmaaGreat.Vals
open Go.RowKit Go.Proofs.YtinoaajohkafmaaGreat.Nums
set_option linter.unusedVariables false
structure NoKind (k : Int) : Prop where
  e0 : (k == 0) = false
  e1 : (k == 1) = false
  e2 : (k == 2) = false
  e3 : (k == 3) = false
  e4 : (k == 4) = false
  e5 : (k == 5) = false
  e6 : (k == 6) = false
theorem kind_cases (k : Int) : k = 0 ∨ k = 1 ∨ k = 2 ∨ k = 3 ∨ k = 4 ∨ k = 5 ∨ k = 6 ∨ NoKind k := by
  by_cases h0 : k = 0
  · exact .inl h0
  by_cases h1 : k = 1
  · exact .inr (.inl h1)
  by_cases h2 : k = 2
  · exact .inr (.inr (.inl h2))
  by_cases h3 : k = 3
  · exact .inr (.inr (.inr (.inl h3)))
  by_cases h4 : k = 4
  · exact .inr (.inr (.inr (.inr (.inl h4))))
  by_cases h5 : k = 5
  · exact .inr (.inr (.inr (.inr (.inr (.inl h5)))))
  by_cases h6 : k = 6
  · exact .inr (.inr (.inr (.inr (.inr (.inr (.inl h6))))))
  · exact .inr (.inr (.inr (.inr (.inr (.inr (.inr ⟨by simpa using h0, by simpa using h1, by simpa using h2, by simpa using h3, by simpa using h4, by simpa using h5, by simpa using h6⟩))))))
theorem NoKind.ne {k : Int} (h : NoKind k) : k ≠ 0 ∧ k ≠ 1 ∧ k ≠ 2 ∧ k ≠ 3 ∧ k ≠ 4 ∧ k ≠ 5 ∧ k ≠ 6 :=
  ⟨by simpa using h.e0, by simpa using h.e1, by simpa using h.e2, by simpa using h.e3, by simpa using h.e4, by simpa using h.e5, by simpa using h.e6⟩
abbrev V (k n : Int) (s : ByteArray) : Value := .agg #[.int .i64 k, .int .i64 n, .string s]
theorem ball (w : World) (o : Obj) : Below w.heap.size w (w.alloc o) := (Below.refl _ _).alloc (Nat.le_refl _) _
theorem bnext {w w1 w2 : World} (h1 : Below w.heap.size w w1) (h2 : Below w1.heap.size w1 w2) : Below w.heap.size w w2 := h1.trans (h2.mono h1.size)
end Go.Proofs.YtinoaajohkafmaaGreat.Vals

/-
  units.Len by its visitor.
-/
namespace Go.Proofs.YtinoaajohkafmaaGreat.Uni
open Go.RowKit
set_option linter.unusedVariables false
set_option maxHeartbeats 400000 in
theorem len1_any (c n : Nat) (p : Nat) (w : World) (hn : n ≤ 1000000000) (hc : w.heap[c]? = some (.cells #[.int .i64 (n : Nat)] 3 (0, 0))) :
    Calls Tryz.prog 108 #[.int .i32 p, .pointer (some ⟨c, 0, none⟩)] w fun e w' => e = .returned (.tuple #[]) ∧ ∃ q, w' = (w.setCell ⟨c, 0, none⟩ (.int .i64 ((n : Int) + (wd p : Nat)))).drewN q := by
  have hcell := cell_of_one hc
  have hfree := free_of_one hc
  have hw : wd p ≤ 2 := by unfold wd; split <;> omega
  clear hc
  go_enter Tryz.func108, Tryz.ntmps108
  go_wp2
  go_region_with (go_at_call 109; refine (width_any p _).mono ?_; rintro e w' ⟨rfl, rfl⟩)
  all_goals go_wp2
  all_goals go_end0
  all_goals
    have e : IntKind.i64.wrap ((n : Int) + (wd p : Nat)) = (n : Int) + (wd p : Nat) := by rw [IntKind.wrap_i64]; omega
    rw [e]
    exact ⟨rfl, 1, rfl⟩
def InvLen (w0 : World) (base c : Nat) (done : List Nat) (wr : World) : Prop :=
  wr.heap[c]? = some (.cells #[.int .i64 ((uns done).length : Nat)] 3 (0, 0)) ∧ Below base w0 wr
theorem un_wd (p : Nat) : (un p).length = wd p := by rw [un_len]; rfl
theorem len1_inv (w0 : World) (base c it : Nat) (s : ByteArray) (hs : s.size ≤ 100000000) (hcb : base ≤ c) (hit : c ≠ it) (done : List Nat) (p : Nat) (wr : World) (pos : Nat) (hi : wr.heap[it]? = some (.stringIter s pos)) (h : InvLen w0 base c done wr) (hl : done.length < s.size) :
    Calls Tryz.prog 108 (#[.int .i32 p] ++ #[.pointer (some ⟨c, 0, none⟩)]) wr fun e w' => e = .returned (.tuple #[]) ∧ InvLen w0 base c (done ++ [p]) w' ∧ w'.heap[it]? = some (.stringIter s pos) := by
  obtain ⟨hc, hbel⟩ := h
  have hul := uns_le done
  refine (len1_any c _ p wr (by omega) hc).mono ?_
  rintro e w' ⟨rfl, q, rfl⟩
  refine ⟨rfl, ⟨?_, below_drewN (hbel.setCell hcb _) q⟩, ?_⟩
  · have := one_setCell hc (u := .int .i64 (((uns done).length : Int) + (wd p : Nat)))
    rw [uns_snoc, List.length_append, un_wd, Int.natCast_add]
    exact this
  · show (wr.setCell _ _).heap[it]? = _
    rw [Below.heap_setCell _ _ _ _ (fun e => hit e.symm)]
    exact hi
theorem vis24 (w0 : World) (base c it : Nat) (s : ByteArray) (hs : s.size ≤ 100000000) (hcb : base ≤ c) (hci : c < it) (hbi : base ≤ it) : Vis 108 #[.pointer (some ⟨c, 0, none⟩)] s it (InvLen w0 base c) where
  move := by
    rintro done wr pos pos' hi ⟨hc, hbel⟩
    refine ⟨?_, Lib.below_iterAt hbel hbi s pos'⟩
    rw [Lib.iterAt_other wr it c s pos' (by omega)]
    exact hc
  enter := fun _ _ => by kernel_rfl
  draws := by
    rintro done wr n ⟨hc, hbel⟩
    exact ⟨hc, below_drewN hbel n⟩
  call := fun done p wr pos hi h _ hl => len1_inv w0 base c it s hs hcb (by omega) done p wr pos hi h hl
set_option maxHeartbeats 400000 in
theorem len_any (s : ByteArray) (w : World) (hs : s.size ≤ 100000000) :
    Calls Tryz.prog 89 #[.string s] w fun e w' => e = .returned (.int .i64 ((units s).length : Nat)) ∧ Below w.heap.size w w' := by
  go_enter Tryz.func89, Tryz.ntmps89
  go_wp2_with (fail)
  have hst : InvLen w w.heap.size w.heap.size [] ((w.alloc (.cells #[.int .i64 0] 3)).iter s 0) := by
    refine ⟨?_, ((Below.refl _ _).alloc (Nat.le_refl _) _).alloc (by simp) _⟩
    unfold World.iter
    rw [heap_alloc_old _ _ (by simp)]
    exact heap_alloc_new w _
  refine (points_gen 108 #[.pointer (some ⟨w.heap.size, 0, none⟩)] s _ _ (by omega) (vis24 w w.heap.size w.heap.size _ s hs (Nat.le_refl _) (by simp) (by simp)) hst).mono ?_
  clear hst
  rintro e w' ⟨rfl, hsome, l, hc0, hbel0⟩
  cases hp : pts s with
  | none =>
    have H := Lib.hid hp
    clear hp hsome hc0
    go_wp2
    go_ret
    refine ⟨?_, hbel0⟩
    unfold units
    rw [H.out]
    rfl
  | some l1 =>
    obtain ⟨hc, hbel⟩ := hsome l1 hp
    have H := Lib.hid hp
    have hcell := cell_of_one hc
    clear hp hsome hc0 hc
    go_wp2
    go_ret
    refine ⟨?_, hbel⟩
    unfold units
    rw [H.out]
    rfl
end Go.Proofs.YtinoaajohkafmaaGreat.Uni

/-
  values.Right and the reference's RightValue: what they give.
-/
namespace Go.Proofs.YtinoaajohkafmaaGreat.Vals
open Go.RowKit Go.Proofs.YtinoaajohkafmaaGreat.Nums Go.Proofs.YtinoaajohkafmaaGreat.Uni
set_option linter.unusedVariables false
def rtF (s : ByteArray) : Bool := (pts s).isSome && decide ((units s).length ≤ 10000)
def rnF (k n : Int) : Bool := if k = 0 ∨ k = 1 then n == 0 else if k = 2 then (n == 0 || n == 1) else if k = 3 then sf n else if k = 5 then decide (1 ≤ n) else if k = 6 then decide (0 ≤ n) else false
def rightF (k n : Int) (s : ByteArray) : Bool := if k = 4 then (n == 0 && rtF s) else (s.toList.isEmpty && rnF k n)
theorem rightTextP (s : ByteArray) (w : World) (hs : s.size ≤ 2000000) :
    Calls Tryz.prog 63 #[.string s] w fun e w' => e = .returned (.bool (rtF s)) ∧ Below w.heap.size w w' := by
  have hr := fun w => right_any s w (by omega)
  have hl := fun w => len_any s w (by omega)
  cases hp : pts s with
  | none =>
    rw [hp] at hr
    have he : rtF s = false := by unfold rtF; rw [hp]; rfl
    have HE := Lib.hid he
    have HR : ∀ w, Calls Tryz.prog 88 #[.string s] w fun e w' => e = .returned (.bool false) ∧ Below w.heap.size w w' := hr
    clear hp he hl hr
    go_enter Tryz.func63, Tryz.ntmps63
    go_wp2_with (go_at_call 88; refine (HR _).mono ?_; rintro e w1 ⟨rfl, hb⟩)
    go_ret
    exact ⟨by rw [HE.out]; rfl, hb⟩
  | some L =>
    rw [hp] at hr
    obtain ⟨m, hm⟩ : ∃ m, (units s).length = m := ⟨_, rfl⟩
    have he : rtF s = decide ((m : Int) ≤ 10000) := by
      unfold rtF; rw [hp, hm]
      have : ((m : Int) ≤ 10000) ↔ m ≤ 10000 := by omega
      simp [this]
    have HE := Lib.hid he
    rw [hm] at hl
    have HR : ∀ w, Calls Tryz.prog 88 #[.string s] w fun e w' => e = .returned (.bool true) ∧ Below w.heap.size w w' := hr
    clear hp he hr hm
    go_enter Tryz.func63, Tryz.ntmps63
    go_wp2_with (first | (go_at_call 88; refine (HR _).mono ?_; rintro e w1 ⟨rfl, hb⟩) | (go_at_call 89; refine (hl _).mono ?_; rintro e w2 ⟨rfl, hb2⟩))
    go_ret
    exact ⟨by rw [HE.out]; rfl, bnext hb hb2⟩
theorem rn_0 (n : Int) (w : World) : Calls Tryz.prog 64 #[.int .i64 0, .int .i64 n] w fun e w' => e = .returned (.bool (n == 0)) ∧ w = w' := by
  go_enter Tryz.func64, Tryz.ntmps64
  go_wp2
  go_ret
  exact ⟨rfl, rfl⟩
theorem rn_1 (n : Int) (w : World) : Calls Tryz.prog 64 #[.int .i64 1, .int .i64 n] w fun e w' => e = .returned (.bool (n == 0)) ∧ w = w' := by
  go_enter Tryz.func64, Tryz.ntmps64
  go_wp2
  go_ret
  exact ⟨rfl, rfl⟩
theorem rn_2a (n : Int) (w : World) (h : (n == 0) = true) : Calls Tryz.prog 64 #[.int .i64 2, .int .i64 n] w fun e w' => e = .returned (.bool true) ∧ w = w' := by
  go_enter Tryz.func64, Tryz.ntmps64
  go_wp2
  go_ret
  exact ⟨rfl, rfl⟩
theorem rn_2b (n : Int) (w : World) (h : (n == 0) = false) : Calls Tryz.prog 64 #[.int .i64 2, .int .i64 n] w fun e w' => e = .returned (.bool (n == 1)) ∧ w = w' := by
  go_enter Tryz.func64, Tryz.ntmps64
  go_wp2
  go_ret
  exact ⟨rfl, rfl⟩
theorem rn_3 (n : Int) (w : World) : Calls Tryz.prog 64 #[.int .i64 3, .int .i64 n] w fun e w' => e = .returned (.bool (sf n)) ∧ w = w' := by
  go_enter Tryz.func64, Tryz.ntmps64
  go_wp2_with (go_at_call 90; refine (safe_any _ _).mono ?_; rintro e w' ⟨rfl, rfl⟩)
  go_ret
  exact ⟨rfl, rfl⟩
theorem rn_4 (n : Int) (w : World) : Calls Tryz.prog 64 #[.int .i64 4, .int .i64 n] w fun e w' => e = .returned (.bool false) ∧ w = w' := by
  go_enter Tryz.func64, Tryz.ntmps64
  go_wp2
  go_ret
  exact ⟨rfl, rfl⟩
theorem rn_5 (n : Int) (w : World) : Calls Tryz.prog 64 #[.int .i64 5, .int .i64 n] w fun e w' => e = .returned (.bool (decide (1 ≤ n))) ∧ w = w' := by
  go_enter Tryz.func64, Tryz.ntmps64
  go_wp2
  go_ret
  exact ⟨rfl, rfl⟩
theorem rn_6 (n : Int) (w : World) : Calls Tryz.prog 64 #[.int .i64 6, .int .i64 n] w fun e w' => e = .returned (.bool (decide (0 ≤ n))) ∧ w = w' := by
  go_enter Tryz.func64, Tryz.ntmps64
  go_wp2
  go_ret
  exact ⟨rfl, rfl⟩
theorem rn_k (k n : Int) (w : World) (hk : NoKind k) : Calls Tryz.prog 64 #[.int .i64 k, .int .i64 n] w fun e w' => e = .returned (.bool false) ∧ w = w' := by
  obtain ⟨e0, e1, e2, e3, e4, e5, e6⟩ := hk
  go_enter Tryz.func64, Tryz.ntmps64
  go_wp2
  go_ret
  exact ⟨rfl, rfl⟩
theorem rightNum_any (k n : Int) (w : World) : Calls Tryz.prog 64 #[.int .i64 k, .int .i64 n] w fun e w' => e = .returned (.bool (rnF k n)) ∧ w = w' := by
  rcases kind_cases k with rfl | rfl | rfl | rfl | rfl | rfl | rfl | hk
  · exact rn_0 n w
  · exact rn_1 n w
  · cases h : (n == 0) with
    | true => have e : rnF 2 n = true := by simp [rnF, h]
              rw [e]; exact rn_2a n w h
    | false => have e : rnF 2 n = (n == 1) := by simp [rnF, h]
               rw [e]; exact rn_2b n w h
  · exact rn_3 n w
  · exact rn_4 n w
  · exact rn_5 n w
  · exact rn_6 n w
  · have h := hk.ne
    have e : rnF k n = false := by simp [rnF, h]
    rw [e]; exact rn_k k n w hk
theorem right_4a (n : Int) (s : ByteArray) (w : World) (h : (n == 0) = true) (hs : s.size ≤ 2000000) : Calls Tryz.prog 41 #[V 4 n s] w fun e w' => e = .returned (.bool (rtF s)) ∧ Below w.heap.size w w' := by
  have hc := fun w => rightTextP s w hs
  go_enter Tryz.func41, Tryz.ntmps41
  go_wp2_with (go_at_call 63; refine (hc _).mono ?_; rintro e w1 ⟨rfl, hb⟩)
  go_ret
  exact ⟨rfl, bnext (ball _ _) hb⟩
theorem right_4b (n : Int) (s : ByteArray) (w : World) (h : (n == 0) = false) : Calls Tryz.prog 41 #[V 4 n s] w fun e w' => e = .returned (.bool false) ∧ Below w.heap.size w w' := by
  go_enter Tryz.func41, Tryz.ntmps41
  go_wp2
  go_ret
  exact ⟨rfl, ball _ _⟩
theorem right_oa (k n : Int) (s : ByteArray) (w : World) (hk : (k == 4) = false) (h : s.toList.isEmpty = true) : Calls Tryz.prog 41 #[V k n s] w fun e w' => e = .returned (.bool (rnF k n)) ∧ Below w.heap.size w w' := by
  have hc := fun w => rightNum_any k n w
  go_enter Tryz.func41, Tryz.ntmps41
  go_wp2_with (go_at_call 64; refine (hc _).mono ?_; rintro e w1 ⟨rfl, rfl⟩)
  go_ret
  exact ⟨rfl, ball _ _⟩
theorem right_ob (k n : Int) (s : ByteArray) (w : World) (hk : (k == 4) = false) (h : s.toList.isEmpty = false) : Calls Tryz.prog 41 #[V k n s] w fun e w' => e = .returned (.bool false) ∧ Below w.heap.size w w' := by
  go_enter Tryz.func41, Tryz.ntmps41
  go_wp2
  go_ret
  exact ⟨rfl, ball _ _⟩
theorem Right_any (k n : Int) (s : ByteArray) (w : World) (hs : s.size ≤ 2000000) : Calls Tryz.prog 41 #[V k n s] w fun e w' => e = .returned (.bool (rightF k n s)) ∧ Below w.heap.size w w' := by
  by_cases hk : k = 4
  · subst hk
    cases h : (n == 0) with
    | true => have e : rightF 4 n s = rtF s := by simp [rightF, h]
              rw [e]; exact right_4a n s w h hs
    | false => have e : rightF 4 n s = false := by simp [rightF, h]
               rw [e]; exact right_4b n s w h
  · have hk2 : (k == 4) = false := by simpa using hk
    cases h : s.toList.isEmpty with
    | true => have e : rightF k n s = rnF k n := by simp [rightF, hk, h]
              rw [e]; exact right_oa k n s w hk2 h
    | false => have e : rightF k n s = false := by simp [rightF, hk, h]
               rw [e]; exact right_ob k n s w hk2 h
end Go.Proofs.YtinoaajohkafmaaGreat.Vals
