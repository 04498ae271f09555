/-
  Texts of this seat in build order: UnPts, UnOf.
-/
import Derived.Test.YtkknglmpdmhhjaaGreatDoorMg01
import Derived.Test.YtkknglmpdmhhjaaGreatDoorMg03
import Derived.OneCell
/-
  units.points: what it gives for whatever visitor keeps its own invariant.
-/
namespace Go.Proofs.YtkknglmpdmhhjaaGreatDoor.Uni
open Go.RowKit
set_option linter.unusedVariables false

theorem pre_list (s : ByteArray) (i : Nat) : Lib.hasPrefix (s.extract i s.size).data.toList [239, 191, 189] = decide (i + 3 ≤ s.size ∧ B s i = 239 ∧ B s (i + 1) = 191 ∧ B s (i + 2) = 189) := by
  have hB : ∀ k, B (s.extract i s.size) k = B s (i + k) := B_extract s i
  have hsz : (s.extract i s.size).data.toList.length = s.size - i := by
    simp
  have hb : ∀ k, ((s.extract i s.size).data.toList[k]?.getD 0).toNat = B s (i + k) := hB
  generalize (s.extract i s.size).data.toList = l at hsz hb
  have h0 := hb 0
  have h1 := hb 1
  have h2 := hb 2
  simp only [Nat.add_zero] at h0
  rw [← h0, ← h1, ← h2]
  have key : ∀ (a : UInt8) (n : Nat), n < 256 → (a.toNat = n ↔ a = UInt8.ofNat n) := by
    intro a n hn
    constructor
    · rintro rfl; simp
    · rintro rfl; simp; omega
  unfold Lib.hasPrefix
  rw [Bool.eq_iff_iff]
  simp only [decide_eq_true_eq]
  match l, hsz with
  | [], hsz => simp at hsz; simp [List.isPrefixOf]
  | [a], hsz => simp at hsz; simp [List.isPrefixOf]
  | [a, b], hsz => simp at hsz; simp [List.isPrefixOf]
  | a :: b :: c :: r, hsz =>
    simp at hsz
    simp [List.isPrefixOf, key]
    constructor
    · rintro ⟨rfl, rfl, rfl⟩; exact ⟨by omega, rfl, rfl, rfl⟩
    · rintro ⟨_, rfl, rfl, rfl⟩; exact ⟨rfl, rfl, rfl⟩

theorem pre_yes (s : ByteArray) (i : Nat) (w : World) (h : Utf8.decode s i = (65533, 3)) :
    Calls Tryz.prog 73 #[.string (s.extract i s.size), .string ⟨#[239, 191, 189]⟩] w fun e w' => e = .returned (.bool true) ∧ w = w' := by
  refine (Tryz.strings_HasPrefix _ _ w).mono ?_
  rintro e w' ⟨rfl, rfl⟩
  refine ⟨?_, rfl⟩
  have := pre_list s i
  rw [decide_eq_true ((decode_fffd s i).1 h)] at this
  rw [← this]
theorem pre_no (s : ByteArray) (i : Nat) (w : World) (h : ¬ Utf8.decode s i = (65533, 3)) :
    Calls Tryz.prog 73 #[.string (s.extract i s.size), .string ⟨#[239, 191, 189]⟩] w fun e w' => e = .returned (.bool false) ∧ w = w' := by
  refine (Tryz.strings_HasPrefix _ _ w).mono ?_
  rintro e w' ⟨rfl, rfl⟩
  refine ⟨?_, rfl⟩
  have := pre_list s i
  rw [decide_eq_false (fun x => h ((decode_fffd s i).2 x))] at this
  rw [← this]

theorem firstAt_yes (s : ByteArray) (i : Nat) (w : World) (hs : s.size ≤ 9223372036854775807) (h : surB s i = true) :
    Calls Tryz.prog 213 #[.string (s.extract i s.size)] w fun e w' => e = .returned (.tuple #[.int .i32 (surV s i), .bool true]) ∧ ∃ n, w' = w.drewN n := by
  have := first_yes (s.extract i s.size) w (by simp; omega) (by rw [sur_at]; exact h)
  rw [surV_at] at this
  exact this
theorem firstAt_no (s : ByteArray) (i : Nat) (w : World) (hs : s.size ≤ 9223372036854775807) (h : surB s i = false) :
    Calls Tryz.prog 213 #[.string (s.extract i s.size)] w fun e w' => e = .returned (.tuple #[.int .i32 0, .bool false]) ∧ w = w' :=
  first_no (s.extract i s.size) w (by simp; omega) (by rw [sur_at]; exact h)

/-- A visitor that keeps an invariant over what it has seen; 'it': the iterator's block. -/
structure Vis (N : Nat) (cap : Array Value) (s : ByteArray) (it : Nat) (Inv : List Nat → World → Prop) : Prop where
  move : ∀ done wr pos pos', wr.heap[it]? = some (.stringIter s pos) → Inv done wr → Inv done (wr.iterAt it s pos')
  enter : ∀ (args : Array Value) (w : World), (callFunc N args).run Tryz.prog w = .ok (.enter N args) w
  draws : ∀ done wr n, Inv done wr → Inv done (wr.drewN n)
  call : ∀ done (p : Nat) wr pos, wr.heap[it]? = some (.stringIter s pos) → Inv done wr → p ≤ 1114111 → done.length < s.size →
    Calls Tryz.prog N (#[.int .i32 p] ++ cap) wr fun e w' => e = .returned (.tuple #[]) ∧ Inv (done ++ [p]) w' ∧ w'.heap[it]? = some (.stringIter s pos)

/-- Where the range stands beside the place up to which all is decoded. -/
def Stand (s : ByteArray) (pos j sk : Nat) : Prop := pos ≤ j ∧ ((pos = j ∧ sk ≤ j) ∨ (sk = j ∧ j ≤ s.size ∧ ∀ q, pos ≤ q → q < j → Utf8.decode s q = (65533, 1)))

def PInv (s : ByteArray) (it : Nat) (Inv : List Nat → World → Prop) (sk ah : Value) (wr : World) : Prop :=
  ∃ done f j pos sk' ahb, sk = .int .i64 (sk' : Nat) ∧ ah = .bool ahb ∧ wr.heap[it]? = some (.stringIter s pos) ∧ Inv done wr ∧ Went s done f j ahb ∧ Stand s pos j sk'

set_option maxHeartbeats 400000 in
theorem points_gen (N : Nat) (cap : Array Value) (s : ByteArray) (w : World) (Inv : List Nat → World → Prop) (hs : s.size ≤ 9223372036854775807)
    (V : Vis N cap s w.heap.size Inv) (h0 : Inv [] (w.iter s 0)) :
    Calls Tryz.prog 183 #[.string s, .func (.func N) #[] cap] w fun e w' => e = .returned (.bool (pts s).isSome) ∧ (∀ l, pts s = some l → Inv l w') ∧ ∃ l, Inv l w' := by
  have hcf := V.enter
  go_enter Tryz.func183, Tryz.ntmps183
  go_wp2
  go_loopw [5, 6] (fun sk ah wr => PInv s w.heap.size Inv sk ah wr) (fun _ _ wr => s.size - wr.iterPos w.heap.size)
  case atStart =>
    exact ⟨[], s.size, 0, 0, 0, false, rfl, rfl, World.iter_heap _ _ _, h0, went_start s, Nat.le_refl _, .inl ⟨rfl, Nat.le_refl _⟩⟩
  case round =>
    obtain ⟨done, f, j, pos, sk, ahb, rfl, rfl, hit, hinv, hwent, hst⟩ := hrel
    by_cases hp : pos < s.size
    · have hnx : ∀ ty, (Instr.next (.pointer (some ⟨w.heap.size, 0, none⟩)) true ty).run Tryz.prog wr = _ := fun ty => Lib.run_next_any_at wr w.heap.size s pos ty hit hp
      have hcur := decode_cases s pos hp
      have hjs := hwent.2.1
      have hdl := hwent.2.2.1
      by_cases hj : pos < j
      · obtain ⟨rfl, hq⟩ : sk = j ∧ Utf8.decode s pos = (65533, 1) := by
          rcases hst.2 with ⟨rfl, _⟩ | ⟨h1, _, h⟩
          · omega
          · exact ⟨h1, h pos (Nat.le_refl _) hj⟩
        have hlt : (pos : Int) < sk := by omega
        have hm := V.move done wr pos (pos + 1) hit hinv
        have hh := Lib.iterAt_heap wr w.heap.size s pos (pos + 1) hit
        clear hcur
        go_wp2
        go_roundw
        case rel =>
          refine ⟨done, f, sk, pos + 1, sk, ahb, rfl, rfl, hh, hm, hwent, by omega, ?_⟩
          by_cases e : pos + 1 = sk
          · exact .inl ⟨e, Nat.le_refl _⟩
          · exact .inr ⟨rfl, hjs, fun q h1 h2 => (hst.2.elim (fun x => by omega) (fun x => x.2.2 q (by omega) h2))⟩
        case measure => simp only [World.iterPos, hh, hit]; omega
      · obtain ⟨rfl, hsk⟩ : pos = j ∧ sk ≤ pos := by
          rcases hst.2 with ⟨rfl, h⟩ | ⟨_, _, _⟩
          · exact ⟨rfl, h⟩
          · have := hst.1; omega
        have hlt : ¬ (pos : Int) < sk := by omega
        by_cases hd : Utf8.decode s pos = (65533, 1)
        · have hm := V.move done wr pos (pos + 1) hit hinv
          have hh := Lib.iterAt_heap wr w.heap.size s pos (pos + 1) hit
          by_cases hsur : surB s pos = true
          · have hb3 := (surB_iff hsur).1
            have hbd := surV_bd hsur
            have hpt := pt_sur hsur
            by_cases hpair : ahb = true ∧ isLo (surV s pos) = true
            · obtain ⟨rfl, hlo⟩ := hpair
              have hpts : pts s = none := went_pair hwent hp rfl (by rw [hpt]; exact hlo)
              clear hcur hwent hst
              go_wp2_with (first | (go_at_call 73; refine (pre_no s pos _ (by rw [hd]; simp)).mono ?_; rintro e w' ⟨rfl, rfl⟩) | (go_at_call 213; refine (firstAt_yes s pos _ hs hsur).mono ?_; rintro e w' ⟨rfl, n1, rfl⟩) | (go_at_call 188; refine (isLow_any _ _).mono ?_; rintro e w' ⟨rfl, rfl⟩))
              go_ret
              exact ⟨by rw [hpts]; rfl, (fun l hl => by rw [hpts] at hl; cases hl), done, V.draws _ _ _ hm⟩
            · obtain ⟨g, hw2⟩ := went_step hwent hp (by rw [hpt]; exact Nat.le_add_left 1 2) (by rw [hpt]; exact hb3) (by rw [hpt]; exact hpair)
              rw [hpt] at hw2
              obtain ⟨hd0, hd1, hd2⟩ := decode_sur hsur
              have hst2 : Stand s (pos + 1) (pos + 3) (pos + 3) := ⟨by omega, .inr ⟨rfl, hb3, fun q h1 h2 => by
                obtain rfl | rfl : q = pos + 1 ∨ q = pos + 2 := by omega
                · exact hd1
                · exact hd2⟩⟩
              have hcall := fun n => V.call done (surV s pos) ((wr.iterAt w.heap.size s (pos + 1)).drewN n) (pos + 1) hh (V.draws _ _ n hm) (by omega) (by omega)
              clear hcur hwent hst hd0 hd1 hd2 hpt
              cases ahb with
              | false =>
                go_wp2_with (first | (go_at_call 73; refine (pre_no s pos _ (by rw [hd]; simp)).mono ?_; rintro e w' ⟨rfl, rfl⟩) | (go_at_call 213; refine (firstAt_yes s pos _ hs hsur).mono ?_; rintro e w' ⟨rfl, n1, rfl⟩) | (go_at_call 188; refine (isLow_any _ _).mono ?_; rintro e w' ⟨rfl, rfl⟩) | (go_at_call 187; refine (isHigh_any _ _).mono ?_; rintro e w' ⟨rfl, rfl⟩))
                refine (hcall n1).mono ?_
                rintro e W1 ⟨rfl, hi1, hh1⟩
                go_wp2
                go_roundw
                case rel => exact ⟨_, g, pos + 3, pos + 1, pos + 3, _, by go_num, rfl, hh1, hi1, hw2, hst2⟩
                case measure => simp only [World.iterPos, hh1, hit]; omega
              | true =>
                have hlo : isLo (surV s pos) = false := by simpa using hpair
                clear hpair
                go_wp2_with (first | (go_at_call 73; refine (pre_no s pos _ (by rw [hd]; simp)).mono ?_; rintro e w' ⟨rfl, rfl⟩) | (go_at_call 213; refine (firstAt_yes s pos _ hs hsur).mono ?_; rintro e w' ⟨rfl, n1, rfl⟩) | (go_at_call 188; refine (isLow_any _ _).mono ?_; rintro e w' ⟨rfl, rfl⟩) | (go_at_call 187; refine (isHigh_any _ _).mono ?_; rintro e w' ⟨rfl, rfl⟩))
                refine (hcall n1).mono ?_
                rintro e W1 ⟨rfl, hi1, hh1⟩
                go_wp2
                go_roundw
                case rel => exact ⟨_, g, pos + 3, pos + 1, pos + 3, _, by go_num, rfl, hh1, hi1, hw2, hst2⟩
                case measure => simp only [World.iterPos, hh1, hit]; omega
          · have hno : surB s pos = false := by simpa using hsur
            have hpts : pts s = none := went_none hwent hp (by rw [pt_none hno hd])
            clear hsur hcur hwent
            go_wp2_with (first | (go_at_call 73; refine (pre_no s pos _ (by rw [hd]; simp)).mono ?_; rintro e w' ⟨rfl, rfl⟩) | (go_at_call 213; refine (firstAt_no s pos _ hs hno).mono ?_; rintro e w' ⟨rfl, rfl⟩))
            go_ret
            exact ⟨by rw [hpts]; rfl, (fun l hl => by rw [hpts] at hl; cases hl), done, hm⟩
        · obtain hcur := hcur.resolve_left hd
          have hpt := pt_dec hd
          obtain ⟨r, n, hrn⟩ : ∃ r n, Utf8.decode s pos = (r, n) := ⟨_, _, rfl⟩
          rw [hrn] at hcur hpt hnx
          simp only at hcur
          obtain ⟨hn1, hn2, hn3, hr1, hr2, hr3⟩ := hcur
          have hm := V.move done wr pos (pos + n) hit hinv
          have hh := Lib.iterAt_heap wr w.heap.size s pos (pos + n) hit
          have hlo : isLo r = false := by simp [isLo]; omega
          obtain ⟨g, hw2⟩ := went_step hwent hp (by rw [hpt]; exact hn1) (by rw [hpt]; exact hn2) (by rw [hpt, hlo]; simp)
          rw [hpt] at hw2
          have hst2 : Stand s (pos + n) (pos + n) sk := ⟨by omega, .inl ⟨rfl, by omega⟩⟩
          have hcall := V.call done r (wr.iterAt w.heap.size s (pos + n)) (pos + n) hh hm hr1 (by omega)
          have hsz : (pos : Int) < s.size := by omega
          clear hwent hst hpt hlo hr2 hd
          by_cases hff : r = 65533
          · have hn : n = 3 := hr3 hff
            subst hff hn
            clear hr3
            go_wp2_with (first | (go_at_call 73; refine (pre_yes s pos _ hrn).mono ?_; rintro e w' ⟨rfl, rfl⟩) | (go_at_call 187; refine (isHigh_any _ _).mono ?_; rintro e w' ⟨rfl, rfl⟩))
            refine hcall.mono ?_
            rintro e W1 ⟨rfl, hi1, hh1⟩
            go_wp2
            go_roundw
            case rel => exact ⟨_, g, pos + 3, pos + 3, sk, _, rfl, rfl, hh1, hi1, hw2, hst2⟩
            case measure => simp only [World.iterPos, hh1, hit]; omega
          · have hff2 : ((r : Int) == 65533) = false := by simp; omega
            clear hff hr3 hrn
            go_wp2_with (first | (go_at_call 187; refine (isHigh_any _ _).mono ?_; rintro e w' ⟨rfl, rfl⟩))
            refine hcall.mono ?_
            rintro e W1 ⟨rfl, hi1, hh1⟩
            go_wp2
            go_roundw
            case rel => exact ⟨_, g, pos + n, pos + n, sk, _, rfl, rfl, hh1, hi1, hw2, hst2⟩
            case measure => simp only [World.iterPos, hh1, hit]; omega
    · have hnx : ∀ ty, (Instr.next (.pointer (some ⟨w.heap.size, 0, none⟩)) true ty).run Tryz.prog wr = _ := fun ty => Lib.run_next_end_at wr w.heap.size s pos ty hit hp
      have hpts : pts s = some done := by
        refine went_end hwent ?_
        rcases hst.2 with ⟨rfl, _⟩ | ⟨_, _, h⟩
        · exact hp
        · have := hwent.2.1; have := hst.1; omega
      go_wp2
      go_ret
      exact ⟨by rw [hpts]; rfl, (fun l hl => by rw [hpts] at hl; cases hl; exact hinv), done, hinv⟩
end Go.Proofs.YtkknglmpdmhhjaaGreatDoor.Uni

/-
  units.Of, units.Right and units.Len, by their visitors.
-/
namespace Go.Proofs.YtkknglmpdmhhjaaGreatDoor.Uni
open Go.RowKit
set_option linter.unusedVariables false

/-- Units as cells. -/
def uc (l : List Nat) : List Value := l.map fun n : Nat => Value.int .u16 (n : Int)
theorem uc_append (a b : List Nat) : uc (a ++ b) = uc a ++ uc b := by simp [uc]
theorem uc_length (a : List Nat) : (uc a).length = a.length := by simp [uc]

theorem info32 : (Tryz.prog.info? 127).map (fun i => (i.zero, i.size, i.bytes)) = some (some (.int .u16 0), 1, 2) := by kernel_rfl

def AppU (base : Nat) (v : Value) (n : Nat) (xs : List Value) (p : Nat) (w : World) (e : Ending) (w' : World) : Prop :=
  ∃ v', e = .returned v' ∧ w'.ownsRow base 127 1 v' (n + (un p).length) (xs ++ uc (un p)) ∧ w.grownBy w' v.ownBlock

theorem grownBy_of_alloc {w w' : World} {o : Obj} {row : Option Nat} (h : (w.alloc o).grownBy w' row) : w.grownBy w' row := by
  refine ⟨h.os, h.tape, h.output, ?_, ?_⟩
  · have := h.size; simp at this; omega
  · intro k hk hr
    rw [h.block k (by simp; omega) hr]
    exact heap_alloc_old w o hk

theorem mask10 (x : Int) (h0 : 0 ≤ x) (h1 : x < 2147483648) : bits .and .i32 x 1023 = x % 1024 :=
  bits_mask .i32 31 (by decide) wraps_i32 10 (by decide) x h0 h1

set_option maxHeartbeats 400000 in
theorem appendUnits_any (base : Nat) (v : Value) (n : Nat) (xs : List Value) (p : Nat) (w : World) (hp : p ≤ 1114111) (hown : w.ownsRow base 127 1 v n xs) (hn : n ≤ 1000000000) (hb : base ≤ w.heap.size) :
    Calls Tryz.prog 185 #[v, .int .i32 p] w (AppU base v n xs p w) := by
  obtain ⟨i0, hi, hz0, hz1, hz2⟩ := info_parts info32
  have hx0 : 0 ≤ (p : Int) := by omega
  by_cases h : (p : Int) < 65536
  · go_enter Tryz.func185, Tryz.ntmps185
    go_wp2_with (at_builtin; refine wpList_append_own _ rfl _ _ 125 rfl base 127 i0 (.int .u16 0) 1 2 Tryz.underlying125 hi hz0 hz1 hz2 rfl (by decide) _ _ _ rfl (hown.alloc _) ⟨w.heap.size, 0, none⟩ 1 1 [.int .u16 p] rfl rfl ?c1 ?c2 ?c3 ?c4 ?c5 ?_)
    case c1 =>
      intro j u hj
      match j, hj with
      | 0, hj => simp at hj; subst hj; simp [Addr.add]
    case c2 => intro u hu; simp at hu; subst hu; rfl
    case c3 => unfold maxLen; omega
    case c4 => omega
    case c5 => simp; omega
    intro v' w1 hown' hgrow _
    go_wp2
    go_ret
    exact ⟨v', rfl, (by rw [un_small (by omega)]; exact hown'), grownBy_of_alloc hgrow⟩
  · have hq := mask10 ((p : Int) - 65536) (by omega) (by omega)
    have hq0 : 0 ≤ ((p : Int) - 65536) % 1024 := by omega
    have hq1 : ((p : Int) - 65536) % 1024 ≤ 1023 := by omega
    go_enter Tryz.func185, Tryz.ntmps185
    go_wp2_with (at_builtin; (refine wpList_append_own _ rfl _ _ 125 rfl base 127 i0 (.int .u16 0) 1 2 Tryz.underlying125 hi hz0 hz1 hz2 rfl (by decide) _ _ _ rfl (hown.alloc _) ⟨w.heap.size, 0, none⟩ 2 2 [.int .u16 (55296 + ((p : Int) - 65536) / 1024), .int .u16 (56320 + ((p : Int) - 65536) % 1024)] rfl rfl ?c1 ?c2 ?c3 ?c4 ?c5 ?_))
    case c2 => exact ⟨rfl, rfl⟩
    case c3 => unfold maxLen; omega
    case c4 => omega
    case c5 => omega
    intro v' w1 hown' hgrow _
    go_wp2
    go_ret
    refine ⟨v', rfl, ?_, grownBy_of_alloc hgrow⟩
    rw [un_great (by omega)]
    have e : uc [55296 + (p - 65536) / 1024, 56320 + (p - 65536) % 1024] = [.int .u16 (55296 + ((p : Int) - 65536) / 1024), .int .u16 (56320 + ((p : Int) - 65536) % 1024)] := by
      simp [uc]; omega
    rw [e]
    exact hown'

theorem right1_any (p : Nat) (w : World) : Calls Tryz.prog 194 #[.int .i32 p] w fun e w' => e = .returned (.tuple #[]) ∧ w = w' := by
  go_enter Tryz.func194, Tryz.ntmps194
  go_wp2
  go_end0
  exact ⟨rfl, rfl⟩

theorem vis22 (s : ByteArray) (w : World) : Vis 194 #[] s w.heap.size (fun _ wr => Below w.heap.size w wr) where
  move := fun _ wr pos pos' _ h => Lib.below_iterAt h (Nat.le_refl _) s pos'
  enter := fun _ _ => by kernel_rfl
  draws := fun _ wr n h => below_drewN h n
  call := fun _ p wr pos hit h _ _ => (right1_any p wr).mono (by rintro e w' ⟨rfl, rfl⟩; exact ⟨rfl, h, hit⟩)

theorem iter_below {B : Nat} {w : World} (h : B ≤ w.heap.size) (s : ByteArray) : Below B w (w.iter s 0) := (Below.refl _ w).alloc h _

theorem right_any (s : ByteArray) (w : World) (hs : s.size ≤ 9223372036854775807) :
    Calls Tryz.prog 150 #[.string s] w fun e w' => e = .returned (.bool (pts s).isSome) ∧ Below w.heap.size w w' := by
  go_enter Tryz.func150, Tryz.ntmps150
  go_wp2_with (fail)
  refine (points_gen 194 #[] s w _ hs (vis22 s w) (iter_below (Nat.le_refl _) s)).mono ?_
  rintro e w' ⟨rfl, _, l, hl⟩
  go_wp2
  go_ret
  exact ⟨rfl, hl⟩

/-- What the visitor of Of keeps: the captured variable's block holds a slice that owns the units so far. -/
def InvOf (w0 : World) (base c : Nat) (done : List Nat) (wr : World) : Prop :=
  ∃ v, wr.heap[c]? = some (.cells #[v] 125 (0, 0)) ∧ wr.ownsRow base 127 1 v (uns done).length (uc (uns done)) ∧ Below base w0 wr ∧ base ≤ wr.heap.size

theorem own_shape {w : World} {base e1 : Nat} {v : Value} {n : Nat} {xs : List Value} (h : w.ownsRow base e1 1 v n xs) : ∃ a c, v = .slice a n c := by
  rcases h.2 with ⟨rfl, rfl⟩ | ⟨g, cap, cur, rfl, _⟩
  · exact ⟨none, 0, rfl⟩
  · exact ⟨_, cap, rfl⟩
theorem own_ne {w : World} {base e1 e2 : Nat} {v : Value} {n c : Nat} {xs : List Value} {cs : Array Value} {fz : Nat × Nat} (h : w.ownsRow base e1 1 v n xs) (hc : w.heap[c]? = some (.cells cs e2 fz)) (hne : e1 ≠ e2) : v.ownBlock ≠ some c := by
  rcases h.2 with ⟨rfl, _⟩ | ⟨g, cap, cur, rfl, _, hg, _⟩
  · simp [Value.ownBlock]
  · simp [Value.ownBlock]
    rintro rfl
    rw [hg] at hc
    simp at hc
    exact hne hc.2.1
theorem own_ne_iter {w : World} {base e1 : Nat} {v : Value} {n c : Nat} {xs : List Value} {s : ByteArray} {pos : Nat} (h : w.ownsRow base e1 1 v n xs) (hc : w.heap[c]? = some (.stringIter s pos)) : v.ownBlock ≠ some c := by
  rcases h.2 with ⟨rfl, _⟩ | ⟨g, cap, cur, rfl, _, hg, _⟩
  · simp [Value.ownBlock]
  · simp [Value.ownBlock]
    rintro rfl
    rw [hg] at hc
    simp at hc
theorem own_iterAt {w : World} {base e1 : Nat} {v : Value} {n k : Nat} {xs : List Value} {s : ByteArray} {pos : Nat} (h : w.ownsRow base e1 1 v n xs) (hk : w.heap[k]? = some (.stringIter s pos)) (pos' : Nat) : (w.iterAt k s pos').ownsRow base e1 1 v n xs := by
  have hne := own_ne_iter h hk
  refine ⟨h.1, ?_⟩
  rcases h.2 with hn | ⟨g, cap, cur, rfl, hb, hg, rest⟩
  · exact .inl hn
  · refine .inr ⟨g, cap, cur, rfl, hb, ?_, rest⟩
    rw [Lib.iterAt_other w k g s pos' (by simpa [Value.ownBlock] using hne)]
    exact hg

set_option maxHeartbeats 400000 in
theorem of1_any (base c : Nat) (v : Value) (n : Nat) (xs : List Value) (p : Nat) (w : World) (hp : p ≤ 1114111) (hc : w.heap[c]? = some (.cells #[v] 125 (0, 0))) (hown : w.ownsRow base 127 1 v n xs) (hn : n ≤ 1000000000) (hb : base ≤ w.heap.size) :
    Calls Tryz.prog 184 #[.int .i32 p, .pointer (some ⟨c, 0, none⟩)] w fun e w' => e = .returned (.tuple #[]) ∧ ∃ v' w1, w1.ownsRow base 127 1 v' (n + (un p).length) (xs ++ uc (un p)) ∧ w.grownBy w1 v.ownBlock ∧ w' = w1.setCell ⟨c, 0, none⟩ v' := by
  have hcell := cell_of_one hc
  have hcne := own_ne hown hc (by decide)
  have hH := Lib.hid hc
  clear hc
  go_enter Tryz.func184, Tryz.ntmps184
  go_wp2_with (go_at_call 185; refine (appendUnits_any base v n xs p _ hp hown hn hb).mono ?_)
  rintro e w1 ⟨v', rfl, hown1, hg1⟩
  have hc1 : w1.heap[c]? = some (.cells #[v] 125 (0, 0)) := (hg1.block c (lt_of_block hH.out) (fun e => hcne e.symm)).trans hH.out
  have hcell1 := cell_of_one hc1
  have hfree1 := free_of_one hc1
  clear hc1
  obtain ⟨ao, cp, rfl⟩ := own_shape hown1
  go_wp2
  go_end0
  exact ⟨rfl, _, w1, hown1, hg1, rfl⟩

theorem of1_inv (w0 : World) (base c it : Nat) (s : ByteArray) (hs : s.size ≤ 100000000) (hcb : base ≤ c) (hit : c ≠ it) (done : List Nat) (p : Nat) (wr : World) (pos : Nat) (hi : wr.heap[it]? = some (.stringIter s pos)) (h : InvOf w0 base c done wr) (hp : p ≤ 1114111) (hl : done.length < s.size) :
    Calls Tryz.prog 184 (#[.int .i32 p] ++ #[.pointer (some ⟨c, 0, none⟩)]) wr fun e w' => e = .returned (.tuple #[]) ∧ InvOf w0 base c (done ++ [p]) w' ∧ w'.heap[it]? = some (.stringIter s pos) := by
  obtain ⟨v, hc, hown, hbel, hb⟩ := h
  have hul := uns_le done
  refine (of1_any base c v _ _ p wr hp hc hown (by omega) hb).mono ?_
  rintro e w' ⟨rfl, v', w1, hown1, hg1, rfl⟩
  have hcne := own_ne hown hc (by decide)
  have hc1 : w1.heap[c]? = some (.cells #[v] 125 (0, 0)) := (hg1.block c (lt_of_block hc) (fun e => hcne e.symm)).trans hc
  have hi1 : w1.heap[it]? = some (.stringIter s pos) := (hg1.block it (lt_of_block hi) (fun e => own_ne_iter hown hi e.symm)).trans hi
  have hcne1 := own_ne hown1 hc1 (by decide)
  refine ⟨rfl, ⟨v', one_setCell hc1, ?_, ?_, ?_⟩, ?_⟩
  · refine ownsRow_setCell_other ?_ hcne1 v'
    rw [uns_snoc, uc_append, List.length_append]
    exact hown1
  · refine Below.setCell ?_ hcb _
    exact hbel.grown hg1 hb (fun k hk => (hown.lt k hk).1)
  · have := hg1.size
    simp
    omega
  · rw [Below.heap_setCell _ _ _ _ (fun e => hit e.symm)]
    exact hi1

theorem vis20 (w0 : World) (base c it : Nat) (s : ByteArray) (hs : s.size ≤ 100000000) (hcb : base ≤ c) (hci : c < it) (hbi : base ≤ it) : Vis 184 #[.pointer (some ⟨c, 0, none⟩)] s it (InvOf w0 base c) where
  move := by
    rintro done wr pos pos' hi ⟨v, hc, hown, hbel, hb⟩
    refine ⟨v, ?_, own_iterAt hown hi pos', Lib.below_iterAt hbel hbi s pos', by rw [Lib.iterAt_size]; exact hb⟩
    rw [Lib.iterAt_other wr it c s pos' (by omega)]
    exact hc
  enter := fun _ _ => by kernel_rfl
  draws := by
    rintro done wr n ⟨v, hc, hown, hbel, hb⟩
    exact ⟨v, hc, hown, below_drewN hbel n, hb⟩
  call := fun done p wr pos hi h hp hl => of1_inv w0 base c it s hs hcb (by omega) done p wr pos hi h hp hl

/-- What Of gives: a slice that owns the units. -/
def OfPost (s : ByteArray) (w : World) (e : Ending) (w' : World) : Prop :=
  ∃ v, e = .returned v ∧ w'.ownsRow w.heap.size 127 1 v (units s).length (uc (units s)) ∧ Below w.heap.size w w'

set_option maxHeartbeats 400000 in
theorem of_any (s : ByteArray) (w : World) (hs : s.size ≤ 100000000) :
    Calls Tryz.prog 132 #[.string s] w (OfPost s w) := by
  obtain ⟨i0, hi, hz0, hz1, hz2⟩ := info_parts info32
  go_enter Tryz.func132, Tryz.ntmps132
  go_wp2_with (at_make; refine wpList_make_own _ rfl _ _ 125 rfl w.heap.size 127 i0 (.int .u16 0) 1 Tryz.underlying125 hi hz0 hz1 _ _ _ s.size rfl rfl (by omega) ?b2 ?b3 (Nat.le_refl _) ?_)
  case b2 => rw [hz2]; omega
  case b3 => unfold maxLen; omega
  intro w0 hown0 hgrow0
  have hsz0 := hgrow0.size
  go_wp2_with (fail)
  have hst : InvOf w w.heap.size w0.heap.size [] ((w0.alloc (.cells #[.slice (some ⟨w.heap.size, 0, none⟩) 0 s.size] 125)).iter s 0) := by
    refine ⟨_, ?_, (hown0.alloc _).alloc _, (((Below.refl _ _).grown hgrow0 (Nat.le_refl _) (fun k h => by cases h)).alloc hsz0 _).alloc (by simp; omega) _, ?_⟩
    · unfold World.iter
      rw [heap_alloc_old _ _ (by simp)]
      exact heap_alloc_new w0 _
    · unfold World.iter; simp; omega
  refine (points_gen 184 #[.pointer (some ⟨w0.heap.size, 0, none⟩)] s _ _ (by omega) (vis20 w w.heap.size w0.heap.size _ s hs hsz0 (by simp) (by simp; omega)) hst).mono ?_
  clear hst hown0 hgrow0
  rintro e w' ⟨rfl, hsome, l, v0, hc0, hown0, hbel0, hb0⟩
  cases hp : pts s with
  | none =>
    have H := Lib.hid hp
    clear hp hsome hc0
    go_wp2
    go_ret
    refine ⟨_, rfl, ?_, hbel0⟩
    unfold units
    rw [H.out]
    exact World.ownsRow_nil _ _ _ _
  | some l1 =>
    obtain ⟨v, hc, hown, hbel, hb⟩ := hsome l1 hp
    have H := Lib.hid hp
    have hcell := cell_of_one hc
    clear hp hsome hc0 hc hown0
    go_wp2
    go_ret
    refine ⟨v, rfl, ?_, hbel⟩
    unfold units
    rw [H.out]
    exact hown
end Go.Proofs.YtkknglmpdmhhjaaGreatDoor.Uni
