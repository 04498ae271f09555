/-
  lex.leading.
-/
import Derived.Test.YtlboaldikgonoaaDoorLxSmall
import Derived.Test.YtlboaldikgonoaaDoorUnUnits
namespace Go.Proofs.YtlboaldikgonoaaDoor.Lx
open Go.RowKit Go.Proofs.YtlboaldikgonoaaDoor.Uni
set_option linter.unusedVariables false
set_option linter.unusedSimpArgs false

/-- A class that tells nothing apart beyond the first 128 code points. -/
def Flat (f : Nat → Bool) : Prop := ∀ p, 128 ≤ p → f p = f 128
theorem flat_white : Flat whiteN := fun p h => by simp [whiteN, endN]; omega
theorem flat_digit : Flat digitN := fun p h => by simp [digitN]; omega
theorem flat_lead : Flat leadN := fun p h => by simp [leadN]; omega
theorem flat_cont : Flat contN := fun p h => by simp [contN, flat_lead p h, flat_digit p h]
theorem flat_line : Flat lineN := fun p h => by simp [lineN]; omega
theorem run_high {q p : Nat} (hq : q < 128) (h : 128 ≤ p) : runN q p = true := by
  have h1 : p ≠ q := by omega
  have h2 : p ≠ 92 := by omega
  have h3 : p ≠ 10 := by omega
  have h4 : p ≠ 13 := by omega
  simp [runN, endN, h1, h2, h3, h4]
theorem flat_run {q : Nat} (hq : q < 128) : Flat (runN q) := fun p h => (run_high hq h).trans (run_high hq (Nat.le_refl _)).symm

/-- A class that a function value tells, without a trace. -/
structure Pred (N : Nat) (cap : Array Value) (f : Nat → Bool) (B : Nat) (w0 : World) : Prop where
  enter : ∀ (args : Array Value) (w : World), (callFunc N args).run Tryd.prog w = .ok (.enter N args) w
  call : ∀ (p : Nat) (w : World), Below B w0 w → Calls Tryd.prog N (#[.int .i32 (p : Int)] ++ cap) w fun e w' => e = .returned (.bool (f p)) ∧ w = w'

/-- All before a place is of the class. -/
def Led (f : Nat → Bool) (s : ByteArray) (i : Nat) : Prop := i ≤ s.size ∧ ∀ k, k < i → f (B s k) = true
theorem led_lead {f : Nat → Bool} {s : ByteArray} {i : Nat} (h : Led f s i) (hs : i = s.size ∨ f (B s i) = false) : lead f s.data.toList = s.data.toList.take i := by
  have e : s.data.toList = s.data.toList.take i ++ s.data.toList.drop i := (List.take_append_drop i _).symm
  have hz : s.data.toList.length = s.size := by simp
  have h1 : ∀ c ∈ s.data.toList.take i, f c.toNat = true := by
    intro c hc
    obtain ⟨k, hk, rfl⟩ := List.getElem_of_mem hc
    have hk2 : k < i := by simp at hk; omega
    have := h.2 k hk2
    unfold B at this
    rw [List.getElem?_eq_getElem (by have := h.1; omega)] at this
    simpa using this
  have h2 : s.data.toList.drop i = [] ∨ ∃ c r', s.data.toList.drop i = c :: r' ∧ f c.toNat = false := by
    by_cases hi : i < s.size
    · right
      refine ⟨s.data.toList[i]'(by omega), s.data.toList.drop (i + 1), List.drop_eq_getElem_cons (by omega), ?_⟩
      rcases hs with hs | hs
      · omega
      · unfold B at hs
        rw [List.getElem?_eq_getElem (by omega)] at hs
        simpa using hs
    · left
      exact List.drop_eq_nil_of_le (by omega)
  conv => lhs; rw [e]
  exact lead_app' f _ _ h1 h2
where lead_app' (f : Nat → Bool) : ∀ (m r : By), (∀ c ∈ m, f c.toNat = true) → (r = [] ∨ ∃ c r', r = c :: r' ∧ f c.toNat = false) → lead f (m ++ r) = m
  | [], r, _, h => by
    rcases h with rfl | ⟨c, r', rfl, h⟩
    · rfl
    · rw [List.nil_append, lead_cons, if_neg (by simp [h])]
  | a :: m, r, h, hr => by
    rw [List.cons_append, lead_cons, if_pos (h a (List.mem_cons_self ..)), lead_app' f m r (fun c hc => h c (List.mem_cons_of_mem _ hc)) hr]
theorem ext_take (s : ByteArray) (i : Nat) : s.extract 0 i = ⟨(s.data.toList.take i).toArray⟩ := by
  apply ByteArray.ext
  apply Array.toList_inj.1
  simp

/-- What is decoded at a place, its bytes all of the class if the code point is. -/
theorem dec_class {f : Nat → Bool} (hf : Flat f) (s : ByteArray) (i : Nat) (hi : i < s.size) :
    ((Utf8.decode s i).2 = 1 ∧ B s i < 128 ∧ (Utf8.decode s i).1 = B s i) ∨ (128 ≤ B s i ∧ 128 ≤ (Utf8.decode s i).1 ∧ 1 ≤ (Utf8.decode s i).2 ∧ i + (Utf8.decode s i).2 ≤ s.size ∧ ∀ k, i ≤ k → k < i + (Utf8.decode s i).2 → 128 ≤ B s k) := by
  have h0 := B_lt s i
  rw [dec_eq]
  by_cases h : B s i < 128
  · rw [if_pos h]
    exact .inl ⟨rfl, h, rfl⟩
  · right
    rw [if_neg h]
    refine ⟨by omega, ?_⟩
    have one : ∀ (c : Nat), 128 ≤ c → (128 ≤ ((c, 1) : Nat × Nat).1 ∧ 1 ≤ ((c, 1) : Nat × Nat).2 ∧ i + ((c, 1) : Nat × Nat).2 ≤ s.size ∧ ∀ k, i ≤ k → k < i + ((c, 1) : Nat × Nat).2 → 128 ≤ B s k) := by
      intro c hc
      refine ⟨hc, Nat.le_refl _, by simp; omega, ?_⟩
      intro k h1 h2
      obtain rfl : k = i := by simp at h2; omega
      omega
    split
    · rename_i h2
      split
      · rename_i h3
        refine ⟨h3, by simp, by simp; omega, ?_⟩
        intro k k1 k2
        rcases (by simp at k2; omega : k = i ∨ k = i + 1) with rfl | rfl <;> omega
      · exact one _ (by decide)
    · split
      · rename_i h2
        split
        · rename_i h3
          refine ⟨by simp; omega, by simp, by simp; omega, ?_⟩
          intro k k1 k2
          rcases (by simp at k2; omega : k = i ∨ k = i + 1 ∨ k = i + 2) with rfl | rfl | rfl <;> omega
        · exact one _ (by decide)
      · split
        · rename_i h2
          split
          · rename_i h3
            refine ⟨by simp; omega, by simp, by simp; omega, ?_⟩
            intro k k1 k2
            rcases (by simp at k2; omega : k = i ∨ k = i + 1 ∨ k = i + 2 ∨ k = i + 3) with rfl | rfl | rfl | rfl <;> omega
          · exact one _ (by decide)
        · exact one _ (by decide)
theorem led_step {f : Nat → Bool} (hf : Flat f) {s : ByteArray} {i : Nat} (h : Led f s i) (hi : i < s.size) (hc : f (Utf8.decode s i).1 = true) : Led f s (i + (Utf8.decode s i).2) := by
  rcases dec_class hf s i hi with ⟨h1, h2, h3⟩ | ⟨h1, h2, h3, h4, h5⟩
  · rw [h1]
    refine ⟨by omega, fun k hk => ?_⟩
    by_cases e : k = i
    · subst e; rw [← h3]; exact hc
    · exact h.2 k (by omega)
  · refine ⟨h4, fun k hk => ?_⟩
    by_cases e : k < i
    · exact h.2 k e
    · rw [hf _ (h5 k (by omega) hk), ← hf _ h2]; exact hc
theorem led_halt {f : Nat → Bool} (hf : Flat f) {s : ByteArray} {i : Nat} (hi : i < s.size) (hc : f (Utf8.decode s i).1 = false) : f (B s i) = false := by
  rcases dec_class hf s i hi with ⟨h1, h2, h3⟩ | ⟨h1, h2, h3, h4, h5⟩
  · rw [← h3]; exact hc
  · rw [hf _ h1, ← hf _ h2]; exact hc

def LInv2 (f : Nat → Bool) (s : ByteArray) (w0 : World) (wr : World) : Prop :=
  ∃ pos, Led f s pos ∧ wr.heap[w0.heap.size]? = some (.stringIter s pos) ∧ Below w0.heap.size w0 wr

set_option maxHeartbeats 1000000 in
theorem leading_any (N : Nat) (cap : Array Value) (f : Nat → Bool) (hf : Flat f) (s : ByteArray) (w : World) (hs : s.size ≤ 9223372036854775807) (V : Pred N cap f w.heap.size w) :
    Calls Tryd.prog 37 #[.string s, .func (.func N) #[] cap] w fun e w' => e = .returned (.string ⟨(lead f s.data.toList).toArray⟩) ∧ Below w.heap.size w w' := by
  have hcf := V.enter
  have HV := Lib.hid V
  clear V
  go_enter Tryd.func37, Tryd.ntmps37
  go_wp2
  go_loopw [] (fun wr => LInv2 f s w wr) (fun wr => s.size - wr.iterPos w.heap.size)
  case atStart => exact ⟨0, ⟨Nat.zero_le _, fun k hk => by omega⟩, World.iter_heap _ _ _, iter_below (Nat.le_refl _) s⟩
  case round =>
    obtain ⟨pos, hled, hit, hbel⟩ := hrel
    by_cases hp : pos < s.size
    · have hnx : ∀ ty, (Instr.next (.pointer (some ⟨w.heap.size, 0, none⟩)) true ty).run Tryd.prog wr = _ := fun ty => Lib.run_next_any_at wr w.heap.size s pos ty hit hp
      obtain ⟨r, n, hrn⟩ : ∃ r n, Utf8.decode s pos = (r, n) := ⟨_, _, rfl⟩
      have hcases := dec_class hf s pos hp
      rw [hrn] at hnx hcases
      have hh := Lib.iterAt_heap wr w.heap.size s pos (pos + n) hit
      have hb2 : Below w.heap.size w (wr.iterAt w.heap.size s (pos + n)) := Lib.below_iterAt hbel (Nat.le_refl _) s (pos + n)
      have hcall := HV.out.call r (wr.iterAt w.heap.size s (pos + n)) hb2
      have hn1 : 1 ≤ n := by simp only at hcases; omega
      have hsz : (pos : Int) ≤ s.size := by omega
      clear hcases
      cases hfr : f r with
      | true =>
        have hl2 := led_step hf hled hp (by rw [hrn]; exact hfr)
        rw [hrn] at hl2
        rw [hfr] at hcall
        have HL := Lib.hid hl2
        clear hl2 hrn hfr hled
        go_wp2_with (fail)
        refine hcall.mono ?_
        rintro e W1 ⟨rfl, rfl⟩
        go_wp2
        go_roundw
        case rel => exact ⟨_, HL.out, hh, hb2⟩
        case measure => simp only [World.iterPos, hh, hit]; omega
      | false =>
        have hno := led_halt hf hp (by rw [hrn]; exact hfr)
        have hfin := led_lead hled (.inr hno)
        rw [hfr] at hcall
        have HF := Lib.hid hfin
        clear hno hrn hfr hled hfin
        go_wp2_with (fail)
        refine hcall.mono ?_
        rintro e W1 ⟨rfl, rfl⟩
        go_wp2
        go_ret
        exact ⟨by rw [HF.out, ext_take]; rfl, hb2⟩
    · have hnx : ∀ ty, (Instr.next (.pointer (some ⟨w.heap.size, 0, none⟩)) true ty).run Tryd.prog wr = _ := fun ty => Lib.run_next_end_at wr w.heap.size s pos ty hit hp
      have hfin := led_lead hled (.inl (by have := hled.1; omega))
      have hall : s.data.toList.take pos = s.data.toList := List.take_of_length_le (by simp; omega)
      rw [hall] at hfin
      have HF := Lib.hid hfin
      clear hled hfin hall
      go_wp2
      go_ret
      exact ⟨by rw [HF.out]; rfl, hbel⟩
end Go.Proofs.YtlboaldikgonoaaDoor.Lx
