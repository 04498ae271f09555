/-
  Texts of this seat in build order: UnPts, UnOf, UnPoint.
-/
import Derived.Test.YtinoaajohkafmaaGreatMt00
import Derived.OneCell
/-
  units.points: what it gives for whatever visitor keeps its own invariant.
-/
namespace Go.Proofs.YtinoaajohkafmaaGreat.Uni
open Go.RowKit
set_option linter.unusedVariables false
theorem pre_list (s : ByteArray) (i : Nat) : Lib.hasPrefix (s.extract i s.size).data.toList [239, 191, 189] = decide (i + 3 ≤ s.size ∧ B s i = 239 ∧ B s (i + 1) = 191 ∧ B s (i + 2) = 189) := by
  have hB : ∀ k, B (s.extract i s.size) k = B s (i + k) := B_extract s i
  have hsz : (s.extract i s.size).data.toList.length = s.size - i := by
    simp
  have hb : ∀ k, ((s.extract i s.size).data.toList[k]?.getD 0).toNat = B s (i + k) := hB
  generalize (s.extract i s.size).data.toList = l at hsz hb
  have h0 := hb 0
  have h1 := hb 1
  have h2 := hb 2
  simp only [Nat.add_zero] at h0
  rw [← h0, ← h1, ← h2]
  have key : ∀ (a : UInt8) (n : Nat), n < 256 → (a.toNat = n ↔ a = UInt8.ofNat n) := by
    intro a n hn
    constructor
    · rintro rfl; simp
    · rintro rfl; simp; omega
  unfold Lib.hasPrefix
  rw [Bool.eq_iff_iff]
  simp only [decide_eq_true_eq]
  match l, hsz with
  | [], hsz => simp at hsz; simp [List.isPrefixOf]
  | [a], hsz => simp at hsz; simp [List.isPrefixOf]
  | [a, b], hsz => simp at hsz; simp [List.isPrefixOf]
  | a :: b :: c :: r, hsz =>
    simp at hsz
    simp [List.isPrefixOf, key]
    constructor
    · rintro ⟨rfl, rfl, rfl⟩; exact ⟨by omega, rfl, rfl, rfl⟩
    · rintro ⟨_, rfl, rfl, rfl⟩; exact ⟨rfl, rfl, rfl⟩
theorem pre_yes (s : ByteArray) (i : Nat) (w : World) (h : Utf8.decode s i = (65533, 3)) :
    Calls Tryz.prog 114 #[.string (s.extract i s.size), .string ⟨#[239, 191, 189]⟩] w fun e w' => e = .returned (.bool true) ∧ w = w' := by
  refine (Tryz.strings_HasPrefix _ _ w).mono ?_
  rintro e w' ⟨rfl, rfl⟩
  refine ⟨?_, rfl⟩
  have := pre_list s i
  rw [decide_eq_true ((decode_fffd s i).1 h)] at this
  rw [← this]
theorem pre_no (s : ByteArray) (i : Nat) (w : World) (h : ¬ Utf8.decode s i = (65533, 3)) :
    Calls Tryz.prog 114 #[.string (s.extract i s.size), .string ⟨#[239, 191, 189]⟩] w fun e w' => e = .returned (.bool false) ∧ w = w' := by
  refine (Tryz.strings_HasPrefix _ _ w).mono ?_
  rintro e w' ⟨rfl, rfl⟩
  refine ⟨?_, rfl⟩
  have := pre_list s i
  rw [decide_eq_false (fun x => h ((decode_fffd s i).2 x))] at this
  rw [← this]
theorem firstAt_yes (s : ByteArray) (i : Nat) (w : World) (hs : s.size ≤ 9223372036854775807) (h : surB s i = true) :
    Calls Tryz.prog 115 #[.string (s.extract i s.size)] w fun e w' => e = .returned (.tuple #[.int .i32 (surV s i), .bool true]) ∧ ∃ n, w' = w.drewN n := by
  have := first_yes (s.extract i s.size) w (by simp; omega) (by rw [sur_at]; exact h)
  rw [surV_at] at this
  exact this
theorem firstAt_no (s : ByteArray) (i : Nat) (w : World) (hs : s.size ≤ 9223372036854775807) (h : surB s i = false) :
    Calls Tryz.prog 115 #[.string (s.extract i s.size)] w fun e w' => e = .returned (.tuple #[.int .i32 0, .bool false]) ∧ w = w' :=
  first_no (s.extract i s.size) w (by simp; omega) (by rw [sur_at]; exact h)
structure Vis (N : Nat) (cap : Array Value) (s : ByteArray) (it : Nat) (Inv : List Nat → World → Prop) : Prop where
  move : ∀ done wr pos pos', wr.heap[it]? = some (.stringIter s pos) → Inv done wr → Inv done (wr.iterAt it s pos')
  enter : ∀ (args : Array Value) (w : World), (callFunc N args).run Tryz.prog w = .ok (.enter N args) w
  draws : ∀ done wr n, Inv done wr → Inv done (wr.drewN n)
  call : ∀ done (p : Nat) wr pos, wr.heap[it]? = some (.stringIter s pos) → Inv done wr → p ≤ 1114111 → done.length < s.size →
    Calls Tryz.prog N (#[.int .i32 p] ++ cap) wr fun e w' => e = .returned (.tuple #[]) ∧ Inv (done ++ [p]) w' ∧ w'.heap[it]? = some (.stringIter s pos)
def Stand (s : ByteArray) (pos j sk : Nat) : Prop := pos ≤ j ∧ ((pos = j ∧ sk ≤ j) ∨ (sk = j ∧ j ≤ s.size ∧ ∀ q, pos ≤ q → q < j → Utf8.decode s q = (65533, 1)))
def PInv (s : ByteArray) (it : Nat) (Inv : List Nat → World → Prop) (sk ah : Value) (wr : World) : Prop :=
  ∃ done f j pos sk' ahb, sk = .int .i64 (sk' : Nat) ∧ ah = .bool ahb ∧ wr.heap[it]? = some (.stringIter s pos) ∧ Inv done wr ∧ Went s done f j ahb ∧ Stand s pos j sk'
set_option maxHeartbeats 400000 in
theorem points_gen (N : Nat) (cap : Array Value) (s : ByteArray) (w : World) (Inv : List Nat → World → Prop) (hs : s.size ≤ 9223372036854775807)
    (V : Vis N cap s w.heap.size Inv) (h0 : Inv [] (w.iter s 0)) :
    Calls Tryz.prog 106 #[.string s, .func (.func N) #[] cap] w fun e w' => e = .returned (.bool (pts s).isSome) ∧ (∀ l, pts s = some l → Inv l w') ∧ ∃ l, Inv l w' := by
  have hcf := V.enter
  go_enter Tryz.func106, Tryz.ntmps106
  go_wp2
  go_loopw [5, 6] (fun sk ah wr => PInv s w.heap.size Inv sk ah wr) (fun _ _ wr => s.size - wr.iterPos w.heap.size)
  case atStart =>
    exact ⟨[], s.size, 0, 0, 0, false, rfl, rfl, World.iter_heap _ _ _, h0, went_start s, Nat.le_refl _, .inl ⟨rfl, Nat.le_refl _⟩⟩
  case round =>
    obtain ⟨done, f, j, pos, sk, ahb, rfl, rfl, hit, hinv, hwent, hst⟩ := hrel
    by_cases hp : pos < s.size
    · have hnx : ∀ ty, (Instr.next (.pointer (some ⟨w.heap.size, 0, none⟩)) true ty).run Tryz.prog wr = _ := fun ty => Lib.run_next_any_at wr w.heap.size s pos ty hit hp
      have hcur := decode_cases s pos hp
      have hjs := hwent.2.1
      have hdl := hwent.2.2.1
      by_cases hj : pos < j
      · obtain ⟨rfl, hq⟩ : sk = j ∧ Utf8.decode s pos = (65533, 1) := by
          rcases hst.2 with ⟨rfl, _⟩ | ⟨h1, _, h⟩
          · omega
          · exact ⟨h1, h pos (Nat.le_refl _) hj⟩
        have hlt : (pos : Int) < sk := by omega
        have hm := V.move done wr pos (pos + 1) hit hinv
        have hh := Lib.iterAt_heap wr w.heap.size s pos (pos + 1) hit
        clear hcur
        go_wp2
        go_roundw
        case rel =>
          refine ⟨done, f, sk, pos + 1, sk, ahb, rfl, rfl, hh, hm, hwent, by omega, ?_⟩
          by_cases e : pos + 1 = sk
          · exact .inl ⟨e, Nat.le_refl _⟩
          · exact .inr ⟨rfl, hjs, fun q h1 h2 => (hst.2.elim (fun x => by omega) (fun x => x.2.2 q (by omega) h2))⟩
        case measure => simp only [World.iterPos, hh, hit]; omega
      · obtain ⟨rfl, hsk⟩ : pos = j ∧ sk ≤ pos := by
          rcases hst.2 with ⟨rfl, h⟩ | ⟨_, _, _⟩
          · exact ⟨rfl, h⟩
          · have := hst.1; omega
        have hlt : ¬ (pos : Int) < sk := by omega
        by_cases hd : Utf8.decode s pos = (65533, 1)
        · have hm := V.move done wr pos (pos + 1) hit hinv
          have hh := Lib.iterAt_heap wr w.heap.size s pos (pos + 1) hit
          by_cases hsur : surB s pos = true
          · have hb3 := (surB_iff hsur).1
            have hbd := surV_bd hsur
            have hpt := pt_sur hsur
            by_cases hpair : ahb = true ∧ isLo (surV s pos) = true
            · obtain ⟨rfl, hlo⟩ := hpair
              have hpts : pts s = none := went_pair hwent hp rfl (by rw [hpt]; exact hlo)
              clear hcur hwent hst
              go_wp2_with (first | (go_at_call 114; refine (pre_no s pos _ (by rw [hd]; simp)).mono ?_; rintro e w' ⟨rfl, rfl⟩) | (go_at_call 115; refine (firstAt_yes s pos _ hs hsur).mono ?_; rintro e w' ⟨rfl, n1, rfl⟩) | (go_at_call 116; refine (isLow_any _ _).mono ?_; rintro e w' ⟨rfl, rfl⟩))
              go_ret
              exact ⟨by rw [hpts]; rfl, (fun l hl => by rw [hpts] at hl; cases hl), done, V.draws _ _ _ hm⟩
            · obtain ⟨g, hw2⟩ := went_step hwent hp (by rw [hpt]; exact Nat.le_add_left 1 2) (by rw [hpt]; exact hb3) (by rw [hpt]; exact hpair)
              rw [hpt] at hw2
              obtain ⟨hd0, hd1, hd2⟩ := decode_sur hsur
              have hst2 : Stand s (pos + 1) (pos + 3) (pos + 3) := ⟨by omega, .inr ⟨rfl, hb3, fun q h1 h2 => by
                obtain rfl | rfl : q = pos + 1 ∨ q = pos + 2 := by omega
                · exact hd1
                · exact hd2⟩⟩
              have hcall := fun n => V.call done (surV s pos) ((wr.iterAt w.heap.size s (pos + 1)).drewN n) (pos + 1) hh (V.draws _ _ n hm) (by omega) (by omega)
              clear hcur hwent hst hd0 hd1 hd2 hpt
              cases ahb with
              | false =>
                go_wp2_with (first | (go_at_call 114; refine (pre_no s pos _ (by rw [hd]; simp)).mono ?_; rintro e w' ⟨rfl, rfl⟩) | (go_at_call 115; refine (firstAt_yes s pos _ hs hsur).mono ?_; rintro e w' ⟨rfl, n1, rfl⟩) | (go_at_call 116; refine (isLow_any _ _).mono ?_; rintro e w' ⟨rfl, rfl⟩) | (go_at_call 117; refine (isHigh_any _ _).mono ?_; rintro e w' ⟨rfl, rfl⟩))
                refine (hcall n1).mono ?_
                rintro e W1 ⟨rfl, hi1, hh1⟩
                go_wp2
                go_roundw
                case rel => exact ⟨_, g, pos + 3, pos + 1, pos + 3, _, by go_num, rfl, hh1, hi1, hw2, hst2⟩
                case measure => simp only [World.iterPos, hh1, hit]; omega
              | true =>
                have hlo : isLo (surV s pos) = false := by simpa using hpair
                clear hpair
                go_wp2_with (first | (go_at_call 114; refine (pre_no s pos _ (by rw [hd]; simp)).mono ?_; rintro e w' ⟨rfl, rfl⟩) | (go_at_call 115; refine (firstAt_yes s pos _ hs hsur).mono ?_; rintro e w' ⟨rfl, n1, rfl⟩) | (go_at_call 116; refine (isLow_any _ _).mono ?_; rintro e w' ⟨rfl, rfl⟩) | (go_at_call 117; refine (isHigh_any _ _).mono ?_; rintro e w' ⟨rfl, rfl⟩))
                refine (hcall n1).mono ?_
                rintro e W1 ⟨rfl, hi1, hh1⟩
                go_wp2
                go_roundw
                case rel => exact ⟨_, g, pos + 3, pos + 1, pos + 3, _, by go_num, rfl, hh1, hi1, hw2, hst2⟩
                case measure => simp only [World.iterPos, hh1, hit]; omega
          · have hno : surB s pos = false := by simpa using hsur
            have hpts : pts s = none := went_none hwent hp (by rw [pt_none hno hd])
            clear hsur hcur hwent
            go_wp2_with (first | (go_at_call 114; refine (pre_no s pos _ (by rw [hd]; simp)).mono ?_; rintro e w' ⟨rfl, rfl⟩) | (go_at_call 115; refine (firstAt_no s pos _ hs hno).mono ?_; rintro e w' ⟨rfl, rfl⟩))
            go_ret
            exact ⟨by rw [hpts]; rfl, (fun l hl => by rw [hpts] at hl; cases hl), done, hm⟩
        · obtain hcur := hcur.resolve_left hd
          have hpt := pt_dec hd
          obtain ⟨r, n, hrn⟩ : ∃ r n, Utf8.decode s pos = (r, n) := ⟨_, _, rfl⟩
          rw [hrn] at hcur hpt hnx
          simp only at hcur
          obtain ⟨hn1, hn2, hn3, hr1, hr2, hr3⟩ := hcur
          have hm := V.move done wr pos (pos + n) hit hinv
          have hh := Lib.iterAt_heap wr w.heap.size s pos (pos + n) hit
          have hlo : isLo r = false := by simp [isLo]; omega
          obtain ⟨g, hw2⟩ := went_step hwent hp (by rw [hpt]; exact hn1) (by rw [hpt]; exact hn2) (by rw [hpt, hlo]; simp)
          rw [hpt] at hw2
          have hst2 : Stand s (pos + n) (pos + n) sk := ⟨by omega, .inl ⟨rfl, by omega⟩⟩
          have hcall := V.call done r (wr.iterAt w.heap.size s (pos + n)) (pos + n) hh hm hr1 (by omega)
          have hsz : (pos : Int) < s.size := by omega
          clear hwent hst hpt hlo hr2 hd
          by_cases hff : r = 65533
          · have hn : n = 3 := hr3 hff
            subst hff hn
            clear hr3
            go_wp2_with (first | (go_at_call 114; refine (pre_yes s pos _ hrn).mono ?_; rintro e w' ⟨rfl, rfl⟩) | (go_at_call 117; refine (isHigh_any _ _).mono ?_; rintro e w' ⟨rfl, rfl⟩))
            refine hcall.mono ?_
            rintro e W1 ⟨rfl, hi1, hh1⟩
            go_wp2
            go_roundw
            case rel => exact ⟨_, g, pos + 3, pos + 3, sk, _, rfl, rfl, hh1, hi1, hw2, hst2⟩
            case measure => simp only [World.iterPos, hh1, hit]; omega
          · have hff2 : ((r : Int) == 65533) = false := by simp; omega
            clear hff hr3 hrn
            go_wp2_with (first | (go_at_call 117; refine (isHigh_any _ _).mono ?_; rintro e w' ⟨rfl, rfl⟩))
            refine hcall.mono ?_
            rintro e W1 ⟨rfl, hi1, hh1⟩
            go_wp2
            go_roundw
            case rel => exact ⟨_, g, pos + n, pos + n, sk, _, rfl, rfl, hh1, hi1, hw2, hst2⟩
            case measure => simp only [World.iterPos, hh1, hit]; omega
    · have hnx : ∀ ty, (Instr.next (.pointer (some ⟨w.heap.size, 0, none⟩)) true ty).run Tryz.prog wr = _ := fun ty => Lib.run_next_end_at wr w.heap.size s pos ty hit hp
      have hpts : pts s = some done := by
        refine went_end hwent ?_
        rcases hst.2 with ⟨rfl, _⟩ | ⟨_, _, h⟩
        · exact hp
        · have := hwent.2.1; have := hst.1; omega
      go_wp2
      go_ret
      exact ⟨by rw [hpts]; rfl, (fun l hl => by rw [hpts] at hl; cases hl; exact hinv), done, hinv⟩
end Go.Proofs.YtinoaajohkafmaaGreat.Uni

/-
  units.Of, units.Right and units.Len, by their visitors.
-/
namespace Go.Proofs.YtinoaajohkafmaaGreat.Uni
open Go.RowKit
set_option linter.unusedVariables false
def uc (l : List Nat) : List Value := l.map fun n : Nat => Value.int .u16 (n : Int)
theorem uc_append (a b : List Nat) : uc (a ++ b) = uc a ++ uc b := by simp [uc]
theorem info32 : (Tryz.prog.info? 96).map (fun i => (i.zero, i.size, i.bytes)) = some (some (.int .u16 0), 1, 2) := by kernel_rfl
theorem right1_any (p : Nat) (w : World) : Calls Tryz.prog 107 #[.int .i32 p] w fun e w' => e = .returned (.tuple #[]) ∧ w = w' := by
  go_enter Tryz.func107, Tryz.ntmps107
  go_wp2
  go_end0
  exact ⟨rfl, rfl⟩
theorem vis22 (s : ByteArray) (w : World) : Vis 107 #[] s w.heap.size (fun _ wr => Below w.heap.size w wr) where
  move := fun _ wr pos pos' _ h => Lib.below_iterAt h (Nat.le_refl _) s pos'
  enter := fun _ _ => by kernel_rfl
  draws := fun _ wr n h => below_drewN h n
  call := fun _ p wr pos hit h _ _ => (right1_any p wr).mono (by rintro e w' ⟨rfl, rfl⟩; exact ⟨rfl, h, hit⟩)
theorem iter_below {B : Nat} {w : World} (h : B ≤ w.heap.size) (s : ByteArray) : Below B w (w.iter s 0) := (Below.refl _ w).alloc h _
theorem right_any (s : ByteArray) (w : World) (hs : s.size ≤ 9223372036854775807) :
    Calls Tryz.prog 88 #[.string s] w fun e w' => e = .returned (.bool (pts s).isSome) ∧ Below w.heap.size w w' := by
  go_enter Tryz.func88, Tryz.ntmps88
  go_wp2_with (fail)
  refine (points_gen 107 #[] s w _ hs (vis22 s w) (iter_below (Nat.le_refl _) s)).mono ?_
  rintro e w' ⟨rfl, _, l, hl⟩
  go_wp2
  go_ret
  exact ⟨rfl, hl⟩
theorem own_shape {w : World} {base e1 : Nat} {v : Value} {n : Nat} {xs : List Value} (h : w.ownsRow base e1 1 v n xs) : ∃ a c, v = .slice a n c := by
  rcases h.2 with ⟨rfl, rfl⟩ | ⟨g, cap, cur, rfl, _⟩
  · exact ⟨none, 0, rfl⟩
  · exact ⟨_, cap, rfl⟩
theorem own_ne {w : World} {base e1 e2 : Nat} {v : Value} {n c : Nat} {xs : List Value} {cs : Array Value} {fz : Nat × Nat} (h : w.ownsRow base e1 1 v n xs) (hc : w.heap[c]? = some (.cells cs e2 fz)) (hne : e1 ≠ e2) : v.ownBlock ≠ some c := by
  rcases h.2 with ⟨rfl, _⟩ | ⟨g, cap, cur, rfl, _, hg, _⟩
  · simp [Value.ownBlock]
  · simp [Value.ownBlock]
    rintro rfl
    rw [hg] at hc
    simp at hc
    exact hne hc.2.1
def OfPost (s : ByteArray) (w : World) (e : Ending) (w' : World) : Prop :=
  ∃ v, e = .returned v ∧ w'.ownsRow w.heap.size 96 1 v (units s).length (uc (units s)) ∧ Below w.heap.size w w'
end Go.Proofs.YtinoaajohkafmaaGreat.Uni

/-
  understudyref1.point: what it gives.
-/
namespace Go.Proofs.YtinoaajohkafmaaGreat.Uni
open Go.RowKit
set_option linter.unusedVariables false
def PtPost (s : ByteArray) (i : Nat) (w : World) (e : Ending) (w' : World) : Prop :=
  e = .returned (.tuple #[.int .i64 ((pt s i).1 : Nat), .int .i64 ((pt s i).2 : Nat)]) ∧ w = w'
theorem int_eq {k : IntKind} {a b : Int} (h : a = b) : Value.int k a = Value.int k b := by rw [h]
theorem conts_snoc {s : ByteArray} {i q : Nat} (h : Conts s i q) (hq : B s (i + q) / 64 = 2) : Conts s i (q + 1) := by
  intro j h1 h2
  by_cases e : j = q
  · subst e; exact hq
  · exact h j h1 (by omega)
theorem wraps_i64 (n : Int) (h0 : 0 ≤ n) (h1 : n < 2 ^ 63) : IntKind.i64.wrap n = n := by rw [IntKind.wrap_i64]; omega
theorem and64 (x : Int) (h0 : 0 ≤ x) (h1 : x < 1000000000) : bits .and .i64 x 63 = x % 64 := bits_mask .i64 63 (by decide) wraps_i64 6 (by decide) x h0 (by omega)
theorem and32 (x : Int) (h0 : 0 ≤ x) (h1 : x < 1000000000) : bits .and .i64 x 31 = x % 32 := bits_mask .i64 63 (by decide) wraps_i64 5 (by decide) x h0 (by omega)
theorem and16 (x : Int) (h0 : 0 ≤ x) (h1 : x < 1000000000) : bits .and .i64 x 15 = x % 16 := bits_mask .i64 63 (by decide) wraps_i64 4 (by decide) x h0 (by omega)
theorem and8 (x : Int) (h0 : 0 ≤ x) (h1 : x < 1000000000) : bits .and .i64 x 7 = x % 8 := bits_mask .i64 63 (by decide) wraps_i64 3 (by decide) x h0 (by omega)
theorem and1024 (x : Int) (h0 : 0 ≤ x) (h1 : x < 1000000000) : bits .and .i64 x 1023 = x % 1024 := bits_mask .i64 63 (by decide) wraps_i64 10 (by decide) x h0 (by omega)
theorem or64 (x y : Int) (h0 : 0 ≤ x) (h1 : x < 1000000000) (h2 : 0 ≤ y) (h3 : y < 64) : bits .or .i64 (x * 64) y = x * 64 + y := bits_join .i64 63 (by decide) wraps_i64 6 (x * 64) y (by omega) (by omega) (by omega) h2 (by omega) (by omega)
theorem point_1 (s : ByteArray) (i : Nat) (w : World) (_hs : s.size ≤ 100000000) (hi : i < s.size) (h1 : B s i < 128) :
    Calls Tryz.prog 54 #[.string s, .int .i64 i] w (PtPost s i w) := by
  have hpt := pt_ascii h1
  have HP := Lib.hid hpt
  have hb := gB s
  have c1 : ((B s i : Nat) : Int) < 128 := by omega
  have hi0 : (i : Int) < s.size := by omega
  clear hpt
  go_enter Tryz.func54, Tryz.ntmps54
  go_wp2
  go_ret2
  exact ⟨by rw [HP.out]; rfl, rfl⟩
set_option maxRecDepth 100000 in
set_option maxHeartbeats 1000000 in
theorem point_2 (s : ByteArray) (i : Nat) (w : World) (hs : s.size ≤ 100000000) (hi : i < s.size) (h1 : 194 ≤ B s i) (h2 : B s i ≤ 223) :
    Calls Tryz.prog 54 #[.string s, .int .i64 i] w (PtPost s i w) := by
  have hcls0 : Cls (B s i) 2 (B s i % 32) 128 := .inl ⟨h1, h2, rfl, rfl, rfl⟩
  have hb := gB s
  have hB0 := B_lt s i
  have hm0 := and32 (B s i : Nat) (by omega) (by omega)
  have c1 : (194 : Int) ≤ (B s i : Nat) := by omega
  have c2 : ((B s i : Nat) : Int) ≤ 223 := by omega
  have hi0 : (i : Int) < s.size := by omega
  have HCL := Lib.hid hcls0
  clear hcls0 h1 h2
  by_cases hz : i + 2 ≤ s.size
  · have hz1 : ¬ ((s.size : Int) - i < 2) := by omega
    go_enter Tryz.func54, Tryz.ntmps54
    go_wp2
    go_loop [6, 9] (fun c k => ∃ q : Nat, 1 ≤ q ∧ q ≤ 2 ∧ k = .int .i64 q ∧ c = .int .i64 (acc s i (B s i % 32) q : Nat) ∧ Conts s i q) (fun _ k => 2 - (intOf k).toNat)
    case atStart => exact ⟨1, by omega, by omega, rfl, int_eq rfl, fun q h1 h2 => by omega⟩
    case round =>
      obtain ⟨q, hq1, hq2, rfl, rfl, hcs⟩ := hrel
      have ha := acc_le s i (B s i % 32) (by omega) q (by omega)
      have hs1 := acc_succ s i (B s i % 32) q hq1
      have hbq := B_lt s (i + q)
      by_cases hlt : q < 2
      · have hiq : ((i : Int) + q) < s.size := by omega
        have hiq2 : i + q < s.size := by omega
        by_cases hcont : B s (i + q) / 64 = 2
        · have d1 : ¬ ((B s (i + q) : Nat) : Int) < 128 := by omega
          have m1 := and64 (B s (i + q) : Nat) (by omega) (by omega)
          have m2 := or64 (acc s i (B s i % 32) q : Nat) ((B s (i + q) : Nat) % 64) (by omega) (by omega) (by omega) (by omega)
          have d2 : ((B s (i + q) : Nat) : Int) ≤ 191 := by omega
          have HS := Lib.hid hs1
          have HC := Lib.hid hcont
          clear hs1 hcont
          go_wp2
          go_round
          case rel => exact ⟨q + 1, by omega, by omega, by go_num, by rw [HS.out]; go_num, conts_snoc hcs HC.out⟩
          case measure => simp [intOf]; omega
        · have hpt := pt_bad (s := s) (i := i) HCL.out (fun x => hcont (x.2.1 q hq1 hlt))
          have HP := Lib.hid hpt
          clear hpt hs1
          by_cases d1 : ((B s (i + q) : Nat) : Int) < 128
          · clear hcont
            go_wp2
            go_ret2
            exact ⟨by rw [HP.out]; rfl, rfl⟩
          · have d2 : ¬ ((B s (i + q) : Nat) : Int) ≤ 191 := by omega
            clear hcont
            go_wp2
            go_ret2
            exact ⟨by rw [HP.out]; rfl, rfl⟩
      · obtain rfl : q = 2 := by omega
        clear hs1
        by_cases hl : 128 ≤ acc s i (B s i % 32) 2 ∧ acc s i (B s i % 32) 2 ≤ 1114111
        · have hpt := pt_ok (s := s) (i := i) HCL.out (by omega) hcs hl.1 hl.2
          have HP := Lib.hid hpt
          have l1 : ¬ ((acc s i (B s i % 32) 2 : Nat) : Int) < 128 := by omega
          have l2 : ¬ 1114111 < ((acc s i (B s i % 32) 2 : Nat) : Int) := by omega
          clear hpt hl
          go_wp2
          go_ret2
          exact ⟨by rw [HP.out]; rfl, rfl⟩
        · have hpt := pt_bad (s := s) (i := i) HCL.out (fun x => hl x.2.2)
          have HP := Lib.hid hpt
          clear hpt
          by_cases l1 : ((acc s i (B s i % 32) 2 : Nat) : Int) < 128
          · clear hl
            go_wp2
            go_ret2
            exact ⟨by rw [HP.out]; rfl, rfl⟩
          · have l2 : 1114111 < ((acc s i (B s i % 32) 2 : Nat) : Int) := by omega
            clear hl
            go_wp2
            go_ret2
            exact ⟨by rw [HP.out]; rfl, rfl⟩
  · have hpt := pt_bad HCL.out (fun x => hz x.1)
    have HP := Lib.hid hpt
    have hz1 : (s.size : Int) - i < 2 := by omega
    clear hpt hz
    go_enter Tryz.func54, Tryz.ntmps54
    go_wp2
    go_ret2
    exact ⟨by rw [HP.out]; rfl, rfl⟩
set_option maxRecDepth 100000 in
set_option maxHeartbeats 1000000 in
theorem point_3 (s : ByteArray) (i : Nat) (w : World) (hs : s.size ≤ 100000000) (hi : i < s.size) (h1 : 224 ≤ B s i) (h2 : B s i ≤ 239) :
    Calls Tryz.prog 54 #[.string s, .int .i64 i] w (PtPost s i w) := by
  have hcls0 : Cls (B s i) 3 (B s i % 16) 2048 := .inr (.inl ⟨h1, h2, rfl, rfl, rfl⟩)
  have hb := gB s
  have hB0 := B_lt s i
  have hm0 := and16 (B s i : Nat) (by omega) (by omega)
  have c1 : (224 : Int) ≤ (B s i : Nat) := by omega
  have c2 : ((B s i : Nat) : Int) ≤ 239 := by omega
  have hi0 : (i : Int) < s.size := by omega
  have HCL := Lib.hid hcls0
  clear hcls0 h1 h2
  by_cases hz : i + 3 ≤ s.size
  · have hz1 : ¬ ((s.size : Int) - i < 3) := by omega
    go_enter Tryz.func54, Tryz.ntmps54
    go_wp2
    go_loop [6, 9] (fun c k => ∃ q : Nat, 1 ≤ q ∧ q ≤ 3 ∧ k = .int .i64 q ∧ c = .int .i64 (acc s i (B s i % 16) q : Nat) ∧ Conts s i q) (fun _ k => 3 - (intOf k).toNat)
    case atStart => exact ⟨1, by omega, by omega, rfl, int_eq rfl, fun q h1 h2 => by omega⟩
    case round =>
      obtain ⟨q, hq1, hq2, rfl, rfl, hcs⟩ := hrel
      have ha := acc_le s i (B s i % 16) (by omega) q (by omega)
      have hs1 := acc_succ s i (B s i % 16) q hq1
      have hbq := B_lt s (i + q)
      by_cases hlt : q < 3
      · have hiq : ((i : Int) + q) < s.size := by omega
        have hiq2 : i + q < s.size := by omega
        by_cases hcont : B s (i + q) / 64 = 2
        · have d1 : ¬ ((B s (i + q) : Nat) : Int) < 128 := by omega
          have m1 := and64 (B s (i + q) : Nat) (by omega) (by omega)
          have m2 := or64 (acc s i (B s i % 16) q : Nat) ((B s (i + q) : Nat) % 64) (by omega) (by omega) (by omega) (by omega)
          have d2 : ((B s (i + q) : Nat) : Int) ≤ 191 := by omega
          have HS := Lib.hid hs1
          have HC := Lib.hid hcont
          clear hs1 hcont
          go_wp2
          go_round
          case rel => exact ⟨q + 1, by omega, by omega, by go_num, by rw [HS.out]; go_num, conts_snoc hcs HC.out⟩
          case measure => simp [intOf]; omega
        · have hpt := pt_bad (s := s) (i := i) HCL.out (fun x => hcont (x.2.1 q hq1 hlt))
          have HP := Lib.hid hpt
          clear hpt hs1
          by_cases d1 : ((B s (i + q) : Nat) : Int) < 128
          · clear hcont
            go_wp2
            go_ret2
            exact ⟨by rw [HP.out]; rfl, rfl⟩
          · have d2 : ¬ ((B s (i + q) : Nat) : Int) ≤ 191 := by omega
            clear hcont
            go_wp2
            go_ret2
            exact ⟨by rw [HP.out]; rfl, rfl⟩
      · obtain rfl : q = 3 := by omega
        clear hs1
        by_cases hl : 2048 ≤ acc s i (B s i % 16) 3 ∧ acc s i (B s i % 16) 3 ≤ 1114111
        · have hpt := pt_ok (s := s) (i := i) HCL.out (by omega) hcs hl.1 hl.2
          have HP := Lib.hid hpt
          have l1 : ¬ ((acc s i (B s i % 16) 3 : Nat) : Int) < 2048 := by omega
          have l2 : ¬ 1114111 < ((acc s i (B s i % 16) 3 : Nat) : Int) := by omega
          clear hpt hl
          go_wp2
          go_ret2
          exact ⟨by rw [HP.out]; rfl, rfl⟩
        · have hpt := pt_bad (s := s) (i := i) HCL.out (fun x => hl x.2.2)
          have HP := Lib.hid hpt
          clear hpt
          by_cases l1 : ((acc s i (B s i % 16) 3 : Nat) : Int) < 2048
          · clear hl
            go_wp2
            go_ret2
            exact ⟨by rw [HP.out]; rfl, rfl⟩
          · have l2 : 1114111 < ((acc s i (B s i % 16) 3 : Nat) : Int) := by omega
            clear hl
            go_wp2
            go_ret2
            exact ⟨by rw [HP.out]; rfl, rfl⟩
  · have hpt := pt_bad HCL.out (fun x => hz x.1)
    have HP := Lib.hid hpt
    have hz1 : (s.size : Int) - i < 3 := by omega
    clear hpt hz
    go_enter Tryz.func54, Tryz.ntmps54
    go_wp2
    go_ret2
    exact ⟨by rw [HP.out]; rfl, rfl⟩
set_option maxRecDepth 100000 in
set_option maxHeartbeats 1000000 in
theorem point_4 (s : ByteArray) (i : Nat) (w : World) (hs : s.size ≤ 100000000) (hi : i < s.size) (h1 : 240 ≤ B s i) (h2 : B s i ≤ 244) :
    Calls Tryz.prog 54 #[.string s, .int .i64 i] w (PtPost s i w) := by
  have hcls0 : Cls (B s i) 4 (B s i % 8) 65536 := .inr (.inr ⟨h1, h2, rfl, rfl, rfl⟩)
  have hb := gB s
  have hB0 := B_lt s i
  have hm0 := and8 (B s i : Nat) (by omega) (by omega)
  have c1 : (240 : Int) ≤ (B s i : Nat) := by omega
  have c2 : ((B s i : Nat) : Int) ≤ 244 := by omega
  have hi0 : (i : Int) < s.size := by omega
  have HCL := Lib.hid hcls0
  clear hcls0 h1 h2
  by_cases hz : i + 4 ≤ s.size
  · have hz1 : ¬ ((s.size : Int) - i < 4) := by omega
    go_enter Tryz.func54, Tryz.ntmps54
    go_wp2
    go_loop [6, 9] (fun c k => ∃ q : Nat, 1 ≤ q ∧ q ≤ 4 ∧ k = .int .i64 q ∧ c = .int .i64 (acc s i (B s i % 8) q : Nat) ∧ Conts s i q) (fun _ k => 4 - (intOf k).toNat)
    case atStart => exact ⟨1, by omega, by omega, rfl, int_eq rfl, fun q h1 h2 => by omega⟩
    case round =>
      obtain ⟨q, hq1, hq2, rfl, rfl, hcs⟩ := hrel
      have ha := acc_le s i (B s i % 8) (by omega) q (by omega)
      have hs1 := acc_succ s i (B s i % 8) q hq1
      have hbq := B_lt s (i + q)
      by_cases hlt : q < 4
      · have hiq : ((i : Int) + q) < s.size := by omega
        have hiq2 : i + q < s.size := by omega
        by_cases hcont : B s (i + q) / 64 = 2
        · have d1 : ¬ ((B s (i + q) : Nat) : Int) < 128 := by omega
          have m1 := and64 (B s (i + q) : Nat) (by omega) (by omega)
          have m2 := or64 (acc s i (B s i % 8) q : Nat) ((B s (i + q) : Nat) % 64) (by omega) (by omega) (by omega) (by omega)
          have d2 : ((B s (i + q) : Nat) : Int) ≤ 191 := by omega
          have HS := Lib.hid hs1
          have HC := Lib.hid hcont
          clear hs1 hcont
          go_wp2
          go_round
          case rel => exact ⟨q + 1, by omega, by omega, by go_num, by rw [HS.out]; go_num, conts_snoc hcs HC.out⟩
          case measure => simp [intOf]; omega
        · have hpt := pt_bad (s := s) (i := i) HCL.out (fun x => hcont (x.2.1 q hq1 hlt))
          have HP := Lib.hid hpt
          clear hpt hs1
          by_cases d1 : ((B s (i + q) : Nat) : Int) < 128
          · clear hcont
            go_wp2
            go_ret2
            exact ⟨by rw [HP.out]; rfl, rfl⟩
          · have d2 : ¬ ((B s (i + q) : Nat) : Int) ≤ 191 := by omega
            clear hcont
            go_wp2
            go_ret2
            exact ⟨by rw [HP.out]; rfl, rfl⟩
      · obtain rfl : q = 4 := by omega
        clear hs1
        by_cases hl : 65536 ≤ acc s i (B s i % 8) 4 ∧ acc s i (B s i % 8) 4 ≤ 1114111
        · have hpt := pt_ok (s := s) (i := i) HCL.out (by omega) hcs hl.1 hl.2
          have HP := Lib.hid hpt
          have l1 : ¬ ((acc s i (B s i % 8) 4 : Nat) : Int) < 65536 := by omega
          have l2 : ¬ 1114111 < ((acc s i (B s i % 8) 4 : Nat) : Int) := by omega
          clear hpt hl
          go_wp2
          go_ret2
          exact ⟨by rw [HP.out]; rfl, rfl⟩
        · have hpt := pt_bad (s := s) (i := i) HCL.out (fun x => hl x.2.2)
          have HP := Lib.hid hpt
          clear hpt
          by_cases l1 : ((acc s i (B s i % 8) 4 : Nat) : Int) < 65536
          · clear hl
            go_wp2
            go_ret2
            exact ⟨by rw [HP.out]; rfl, rfl⟩
          · have l2 : 1114111 < ((acc s i (B s i % 8) 4 : Nat) : Int) := by omega
            clear hl
            go_wp2
            go_ret2
            exact ⟨by rw [HP.out]; rfl, rfl⟩
  · have hpt := pt_bad HCL.out (fun x => hz x.1)
    have HP := Lib.hid hpt
    have hz1 : (s.size : Int) - i < 4 := by omega
    clear hpt hz
    go_enter Tryz.func54, Tryz.ntmps54
    go_wp2
    go_ret2
    exact ⟨by rw [HP.out]; rfl, rfl⟩
set_option maxRecDepth 100000 in
theorem point_0 (s : ByteArray) (i : Nat) (w : World) (_hs : s.size ≤ 100000000) (hi : i < s.size) (h1 : 128 ≤ B s i) (h2 : B s i < 194 ∨ 244 < B s i) :
    Calls Tryz.prog 54 #[.string s, .int .i64 i] w (PtPost s i w) := by
  have hpt : pt s i = (0, 0) := pt_out h1 (fun n c0 low h => by rcases h with h | h | h <;> omega)
  have HP := Lib.hid hpt
  have hb := gB s
  have hi0 : (i : Int) < s.size := by omega
  have c1 : ¬ ((B s i : Nat) : Int) < 128 := by omega
  clear hpt
  rcases h2 with h2 | h2
  · have c2 : ¬ (194 : Int) ≤ (B s i : Nat) := by omega
    have c3 : ¬ (224 : Int) ≤ (B s i : Nat) := by omega
    have c4 : ¬ (240 : Int) ≤ (B s i : Nat) := by omega
    clear h1 h2
    go_enter Tryz.func54, Tryz.ntmps54
    go_wp2
    go_ret2
    exact ⟨by rw [HP.out]; rfl, rfl⟩
  · have hB0 := B_lt s i
    have c2 : (244 : Int) < (B s i : Nat) := by omega
    have c3 : ¬ ((B s i : Nat) : Int) ≤ 223 := by omega
    have c4 : ¬ ((B s i : Nat) : Int) ≤ 239 := by omega
    have c5 : ¬ ((B s i : Nat) : Int) ≤ 244 := by omega
    clear h1 h2
    go_enter Tryz.func54, Tryz.ntmps54
    go_wp2
    go_ret2
    exact ⟨by rw [HP.out]; rfl, rfl⟩
theorem point_any (s : ByteArray) (i : Nat) (w : World) (hs : s.size ≤ 100000000) (hi : i < s.size) :
    Calls Tryz.prog 54 #[.string s, .int .i64 i] w (PtPost s i w) := by
  by_cases h1 : B s i < 128
  · exact point_1 s i w hs hi h1
  · by_cases h2 : 194 ≤ B s i ∧ B s i ≤ 223
    · exact point_2 s i w hs hi h2.1 h2.2
    · by_cases h3 : 224 ≤ B s i ∧ B s i ≤ 239
      · exact point_3 s i w hs hi h3.1 h3.2
      · by_cases h4 : 240 ≤ B s i ∧ B s i ≤ 244
        · exact point_4 s i w hs hi h4.1 h4.2
        · exact point_0 s i w hs hi (by omega) (by omega)
end Go.Proofs.YtinoaajohkafmaaGreat.Uni
