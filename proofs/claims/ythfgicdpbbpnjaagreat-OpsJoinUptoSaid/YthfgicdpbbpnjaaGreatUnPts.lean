/-
  units.points: what it gives for whatever visitor keeps its own invariant.
-/
import Derived.Test.YthfgicdpbbpnjaaGreatUnLow
import Derived.Test.YthfgicdpbbpnjaaGreatShelf
namespace Go.Proofs.YthfgicdpbbpnjaaGreat.Uni
open Go.RowKit
set_option linter.unusedVariables false

theorem pre_list (s : ByteArray) (i : Nat) : Lib.hasPrefix (s.extract i s.size).data.toList [239, 191, 189] = decide (i + 3 ≤ s.size ∧ B s i = 239 ∧ B s (i + 1) = 191 ∧ B s (i + 2) = 189) := by
  have hB : ∀ k, B (s.extract i s.size) k = B s (i + k) := B_extract s i
  have hsz : (s.extract i s.size).data.toList.length = s.size - i := by
    simp
  have hb : ∀ k, ((s.extract i s.size).data.toList[k]?.getD 0).toNat = B s (i + k) := hB
  generalize (s.extract i s.size).data.toList = l at hsz hb
  have h0 := hb 0
  have h1 := hb 1
  have h2 := hb 2
  simp only [Nat.add_zero] at h0
  rw [← h0, ← h1, ← h2]
  have key : ∀ (a : UInt8) (n : Nat), n < 256 → (a.toNat = n ↔ a = UInt8.ofNat n) := by
    intro a n hn
    constructor
    · rintro rfl; simp
    · rintro rfl; simp; omega
  unfold Lib.hasPrefix
  rw [Bool.eq_iff_iff]
  simp only [decide_eq_true_eq]
  match l, hsz with
  | [], hsz => simp at hsz; simp [List.isPrefixOf]
  | [a], hsz => simp at hsz; simp [List.isPrefixOf]
  | [a, b], hsz => simp at hsz; simp [List.isPrefixOf]
  | a :: b :: c :: r, hsz =>
    simp at hsz
    simp [List.isPrefixOf, key]
    constructor
    · rintro ⟨rfl, rfl, rfl⟩; exact ⟨by omega, rfl, rfl, rfl⟩
    · rintro ⟨_, rfl, rfl, rfl⟩; exact ⟨rfl, rfl, rfl⟩

theorem pre_yes (s : ByteArray) (i : Nat) (w : World) (h : Utf8.decode s i = (65533, 3)) :
    Calls Tryz.prog 57 #[.string (s.extract i s.size), .string ⟨#[239, 191, 189]⟩] w fun e w' => e = .returned (.bool true) ∧ w = w' := by
  refine (Tryz.strings_HasPrefix _ _ w).mono ?_
  rintro e w' ⟨rfl, rfl⟩
  refine ⟨?_, rfl⟩
  have := pre_list s i
  rw [decide_eq_true ((decode_fffd s i).1 h)] at this
  rw [← this]
theorem pre_no (s : ByteArray) (i : Nat) (w : World) (h : ¬ Utf8.decode s i = (65533, 3)) :
    Calls Tryz.prog 57 #[.string (s.extract i s.size), .string ⟨#[239, 191, 189]⟩] w fun e w' => e = .returned (.bool false) ∧ w = w' := by
  refine (Tryz.strings_HasPrefix _ _ w).mono ?_
  rintro e w' ⟨rfl, rfl⟩
  refine ⟨?_, rfl⟩
  have := pre_list s i
  rw [decide_eq_false (fun x => h ((decode_fffd s i).2 x))] at this
  rw [← this]

theorem firstAt_yes (s : ByteArray) (i : Nat) (w : World) (hs : s.size ≤ 9223372036854775807) (h : surB s i = true) :
    Calls Tryz.prog 45 #[.string (s.extract i s.size)] w fun e w' => e = .returned (.tuple #[.int .i32 (surV s i), .bool true]) ∧ ∃ n, w' = w.drewN n := by
  have := first_yes (s.extract i s.size) w (by simp; omega) (by rw [sur_at]; exact h)
  rw [surV_at] at this
  exact this
theorem firstAt_no (s : ByteArray) (i : Nat) (w : World) (hs : s.size ≤ 9223372036854775807) (h : surB s i = false) :
    Calls Tryz.prog 45 #[.string (s.extract i s.size)] w fun e w' => e = .returned (.tuple #[.int .i32 0, .bool false]) ∧ w = w' :=
  first_no (s.extract i s.size) w (by simp; omega) (by rw [sur_at]; exact h)

/-- A visitor that keeps an invariant over what it has seen; 'it': the iterator's block. -/
structure Vis (N : Nat) (cap : Array Value) (s : ByteArray) (it : Nat) (Inv : List Nat → World → Prop) : Prop where
  move : ∀ done wr pos pos', wr.heap[it]? = some (.stringIter s pos) → Inv done wr → Inv done (wr.iterAt it s pos')
  enter : ∀ (args : Array Value) (w : World), (callFunc N args).run Tryz.prog w = .ok (.enter N args) w
  draws : ∀ done wr n, Inv done wr → Inv done (wr.drewN n)
  call : ∀ done (p : Nat) wr pos, wr.heap[it]? = some (.stringIter s pos) → Inv done wr → p ≤ 1114111 → done.length < s.size →
    Calls Tryz.prog N (#[.int .i32 p] ++ cap) wr fun e w' => e = .returned (.tuple #[]) ∧ Inv (done ++ [p]) w' ∧ w'.heap[it]? = some (.stringIter s pos)

/-- Where the range stands beside the place up to which all is decoded. -/
def Stand (s : ByteArray) (pos j sk : Nat) : Prop := pos ≤ j ∧ ((pos = j ∧ sk ≤ j) ∨ (sk = j ∧ j ≤ s.size ∧ ∀ q, pos ≤ q → q < j → Utf8.decode s q = (65533, 1)))

def PInv (s : ByteArray) (it : Nat) (Inv : List Nat → World → Prop) (sk ah : Value) (wr : World) : Prop :=
  ∃ done f j pos sk' ahb, sk = .int .i64 (sk' : Nat) ∧ ah = .bool ahb ∧ wr.heap[it]? = some (.stringIter s pos) ∧ Inv done wr ∧ Went s done f j ahb ∧ Stand s pos j sk'

set_option maxHeartbeats 400000 in
theorem points_gen (N : Nat) (cap : Array Value) (s : ByteArray) (w : World) (Inv : List Nat → World → Prop) (hs : s.size ≤ 9223372036854775807)
    (V : Vis N cap s w.heap.size Inv) (h0 : Inv [] (w.iter s 0)) :
    Calls Tryz.prog 39 #[.string s, .func (.func N) #[] cap] w fun e w' => e = .returned (.bool (pts s).isSome) ∧ (∀ l, pts s = some l → Inv l w') ∧ ∃ l, Inv l w' := by
  have hcf := V.enter
  go_enter Tryz.func39, Tryz.ntmps39
  go_wp2
  go_loopw [5, 6] (fun sk ah wr => PInv s w.heap.size Inv sk ah wr) (fun _ _ wr => s.size - wr.iterPos w.heap.size)
  case atStart =>
    exact ⟨[], s.size, 0, 0, 0, false, rfl, rfl, World.iter_heap _ _ _, h0, went_start s, Nat.le_refl _, .inl ⟨rfl, Nat.le_refl _⟩⟩
  case round =>
    obtain ⟨done, f, j, pos, sk, ahb, rfl, rfl, hit, hinv, hwent, hst⟩ := hrel
    by_cases hp : pos < s.size
    · have hnx : ∀ ty, (Instr.next (.pointer (some ⟨w.heap.size, 0, none⟩)) true ty).run Tryz.prog wr = _ := fun ty => Lib.run_next_any_at wr w.heap.size s pos ty hit hp
      have hcur := decode_cases s pos hp
      have hjs := hwent.2.1
      have hdl := hwent.2.2.1
      by_cases hj : pos < j
      · obtain ⟨rfl, hq⟩ : sk = j ∧ Utf8.decode s pos = (65533, 1) := by
          rcases hst.2 with ⟨rfl, _⟩ | ⟨h1, _, h⟩
          · omega
          · exact ⟨h1, h pos (Nat.le_refl _) hj⟩
        have hlt : (pos : Int) < sk := by omega
        have hm := V.move done wr pos (pos + 1) hit hinv
        have hh := Lib.iterAt_heap wr w.heap.size s pos (pos + 1) hit
        clear hcur
        go_wp2
        go_roundw
        case rel =>
          refine ⟨done, f, sk, pos + 1, sk, ahb, rfl, rfl, hh, hm, hwent, by omega, ?_⟩
          by_cases e : pos + 1 = sk
          · exact .inl ⟨e, Nat.le_refl _⟩
          · exact .inr ⟨rfl, hjs, fun q h1 h2 => (hst.2.elim (fun x => by omega) (fun x => x.2.2 q (by omega) h2))⟩
        case measure => simp only [World.iterPos, hh, hit]; omega
      · obtain ⟨rfl, hsk⟩ : pos = j ∧ sk ≤ pos := by
          rcases hst.2 with ⟨rfl, h⟩ | ⟨_, _, _⟩
          · exact ⟨rfl, h⟩
          · have := hst.1; omega
        have hlt : ¬ (pos : Int) < sk := by omega
        by_cases hd : Utf8.decode s pos = (65533, 1)
        · have hm := V.move done wr pos (pos + 1) hit hinv
          have hh := Lib.iterAt_heap wr w.heap.size s pos (pos + 1) hit
          by_cases hsur : surB s pos = true
          · have hb3 := (surB_iff hsur).1
            have hbd := surV_bd hsur
            have hpt := pt_sur hsur
            by_cases hpair : ahb = true ∧ isLo (surV s pos) = true
            · obtain ⟨rfl, hlo⟩ := hpair
              have hpts : pts s = none := went_pair hwent hp rfl (by rw [hpt]; exact hlo)
              clear hcur hwent hst
              go_wp2_with (first | (go_at_call 57; refine (pre_no s pos _ (by rw [hd]; simp)).mono ?_; rintro e w' ⟨rfl, rfl⟩) | (go_at_call 45; refine (firstAt_yes s pos _ hs hsur).mono ?_; rintro e w' ⟨rfl, n1, rfl⟩) | (go_at_call 47; refine (isLow_any _ _).mono ?_; rintro e w' ⟨rfl, rfl⟩))
              go_ret
              exact ⟨by rw [hpts]; rfl, (fun l hl => by rw [hpts] at hl; cases hl), done, V.draws _ _ _ hm⟩
            · obtain ⟨g, hw2⟩ := went_step hwent hp (by rw [hpt]; exact Nat.le_add_left 1 2) (by rw [hpt]; exact hb3) (by rw [hpt]; exact hpair)
              rw [hpt] at hw2
              obtain ⟨hd0, hd1, hd2⟩ := decode_sur hsur
              have hst2 : Stand s (pos + 1) (pos + 3) (pos + 3) := ⟨by omega, .inr ⟨rfl, hb3, fun q h1 h2 => by
                obtain rfl | rfl : q = pos + 1 ∨ q = pos + 2 := by omega
                · exact hd1
                · exact hd2⟩⟩
              have hcall := fun n => V.call done (surV s pos) ((wr.iterAt w.heap.size s (pos + 1)).drewN n) (pos + 1) hh (V.draws _ _ n hm) (by omega) (by omega)
              clear hcur hwent hst hd0 hd1 hd2 hpt
              cases ahb with
              | false =>
                go_wp2_with (first | (go_at_call 57; refine (pre_no s pos _ (by rw [hd]; simp)).mono ?_; rintro e w' ⟨rfl, rfl⟩) | (go_at_call 45; refine (firstAt_yes s pos _ hs hsur).mono ?_; rintro e w' ⟨rfl, n1, rfl⟩) | (go_at_call 47; refine (isLow_any _ _).mono ?_; rintro e w' ⟨rfl, rfl⟩) | (go_at_call 46; refine (isHigh_any _ _).mono ?_; rintro e w' ⟨rfl, rfl⟩))
                refine (hcall n1).mono ?_
                rintro e W1 ⟨rfl, hi1, hh1⟩
                go_wp2
                go_roundw
                case rel => exact ⟨_, g, pos + 3, pos + 1, pos + 3, _, by go_num, rfl, hh1, hi1, hw2, hst2⟩
                case measure => simp only [World.iterPos, hh1, hit]; omega
              | true =>
                have hlo : isLo (surV s pos) = false := by simpa using hpair
                clear hpair
                go_wp2_with (first | (go_at_call 57; refine (pre_no s pos _ (by rw [hd]; simp)).mono ?_; rintro e w' ⟨rfl, rfl⟩) | (go_at_call 45; refine (firstAt_yes s pos _ hs hsur).mono ?_; rintro e w' ⟨rfl, n1, rfl⟩) | (go_at_call 47; refine (isLow_any _ _).mono ?_; rintro e w' ⟨rfl, rfl⟩) | (go_at_call 46; refine (isHigh_any _ _).mono ?_; rintro e w' ⟨rfl, rfl⟩))
                refine (hcall n1).mono ?_
                rintro e W1 ⟨rfl, hi1, hh1⟩
                go_wp2
                go_roundw
                case rel => exact ⟨_, g, pos + 3, pos + 1, pos + 3, _, by go_num, rfl, hh1, hi1, hw2, hst2⟩
                case measure => simp only [World.iterPos, hh1, hit]; omega
          · have hno : surB s pos = false := by simpa using hsur
            have hpts : pts s = none := went_none hwent hp (by rw [pt_none hno hd])
            clear hsur hcur hwent
            go_wp2_with (first | (go_at_call 57; refine (pre_no s pos _ (by rw [hd]; simp)).mono ?_; rintro e w' ⟨rfl, rfl⟩) | (go_at_call 45; refine (firstAt_no s pos _ hs hno).mono ?_; rintro e w' ⟨rfl, rfl⟩))
            go_ret
            exact ⟨by rw [hpts]; rfl, (fun l hl => by rw [hpts] at hl; cases hl), done, hm⟩
        · obtain hcur := hcur.resolve_left hd
          have hpt := pt_dec hd
          obtain ⟨r, n, hrn⟩ : ∃ r n, Utf8.decode s pos = (r, n) := ⟨_, _, rfl⟩
          rw [hrn] at hcur hpt hnx
          simp only at hcur
          obtain ⟨hn1, hn2, hn3, hr1, hr2, hr3⟩ := hcur
          have hm := V.move done wr pos (pos + n) hit hinv
          have hh := Lib.iterAt_heap wr w.heap.size s pos (pos + n) hit
          have hlo : isLo r = false := by simp [isLo]; omega
          obtain ⟨g, hw2⟩ := went_step hwent hp (by rw [hpt]; exact hn1) (by rw [hpt]; exact hn2) (by rw [hpt, hlo]; simp)
          rw [hpt] at hw2
          have hst2 : Stand s (pos + n) (pos + n) sk := ⟨by omega, .inl ⟨rfl, by omega⟩⟩
          have hcall := V.call done r (wr.iterAt w.heap.size s (pos + n)) (pos + n) hh hm hr1 (by omega)
          have hsz : (pos : Int) < s.size := by omega
          clear hwent hst hpt hlo hr2 hd
          by_cases hff : r = 65533
          · have hn : n = 3 := hr3 hff
            subst hff hn
            clear hr3
            go_wp2_with (first | (go_at_call 57; refine (pre_yes s pos _ hrn).mono ?_; rintro e w' ⟨rfl, rfl⟩) | (go_at_call 46; refine (isHigh_any _ _).mono ?_; rintro e w' ⟨rfl, rfl⟩))
            refine hcall.mono ?_
            rintro e W1 ⟨rfl, hi1, hh1⟩
            go_wp2
            go_roundw
            case rel => exact ⟨_, g, pos + 3, pos + 3, sk, _, rfl, rfl, hh1, hi1, hw2, hst2⟩
            case measure => simp only [World.iterPos, hh1, hit]; omega
          · have hff2 : ((r : Int) == 65533) = false := by simp; omega
            clear hff hr3 hrn
            go_wp2_with (first | (go_at_call 46; refine (isHigh_any _ _).mono ?_; rintro e w' ⟨rfl, rfl⟩))
            refine hcall.mono ?_
            rintro e W1 ⟨rfl, hi1, hh1⟩
            go_wp2
            go_roundw
            case rel => exact ⟨_, g, pos + n, pos + n, sk, _, rfl, rfl, hh1, hi1, hw2, hst2⟩
            case measure => simp only [World.iterPos, hh1, hit]; omega
    · have hnx : ∀ ty, (Instr.next (.pointer (some ⟨w.heap.size, 0, none⟩)) true ty).run Tryz.prog wr = _ := fun ty => Lib.run_next_end_at wr w.heap.size s pos ty hit hp
      have hpts : pts s = some done := by
        refine went_end hwent ?_
        rcases hst.2 with ⟨rfl, _⟩ | ⟨_, _, h⟩
        · exact hp
        · have := hwent.2.1; have := hst.1; omega
      go_wp2
      go_ret
      exact ⟨by rw [hpts]; rfl, (fun l hl => by rw [hpts] at hl; cases hl; exact hinv), done, hinv⟩
end Go.Proofs.YthfgicdpbbpnjaaGreat.Uni
