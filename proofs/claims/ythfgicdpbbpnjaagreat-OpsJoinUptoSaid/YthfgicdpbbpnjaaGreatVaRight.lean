/-
  values.Right and the reference's RightValue: what they give.
-/
import Derived.Test.YthfgicdpbbpnjaaGreatVaKind
import Derived.Test.YthfgicdpbbpnjaaGreatUnLen
import Derived.Test.YthfgicdpbbpnjaaGreatUnUnits
namespace Go.Proofs.YthfgicdpbbpnjaaGreat.Vals
open Go.RowKit Go.Proofs.YthfgicdpbbpnjaaGreat.Nums Go.Proofs.YthfgicdpbbpnjaaGreat.Uni
set_option linter.unusedVariables false

/-- A text of the language; a number of each kind; a value. -/
def rtF (s : ByteArray) : Bool := (pts s).isSome && decide ((units s).length ≤ 10000)
def rnF (k n : Int) : Bool := if k = 0 ∨ k = 1 then n == 0 else if k = 2 then (n == 0 || n == 1) else if k = 3 then sf n else if k = 5 then decide (1 ≤ n) else if k = 6 then decide (0 ≤ n) else false
def rightF (k n : Int) (s : ByteArray) : Bool := if k = 4 then (n == 0 && rtF s) else (s.toList.isEmpty && rnF k n)

theorem new_cell {w w1 : World} {cs : Array Value} {t : TypeId} (hb : Below (w.alloc (.cells cs t)).heap.size (w.alloc (.cells cs t)) w1) (i : Nat) : w1.cell? ⟨w.heap.size, i, none⟩ = cs[i]? := by
  rw [hb.cell (p := ⟨w.heap.size, i, none⟩) (by simp)]
  simp

theorem rightTextP (s : ByteArray) (w : World) (hs : s.size ≤ 2000000) :
    Calls Tryz.prog 21 #[.string s] w fun e w' => e = .returned (.bool (rtF s)) ∧ Below w.heap.size w w' := by
  have hr := fun w => right_any s w (by omega)
  have hl := fun w => len_any s w (by omega)
  cases hp : pts s with
  | none =>
    rw [hp] at hr
    have he : rtF s = false := by unfold rtF; rw [hp]; rfl
    have HE := Lib.hid he
    have HR : ∀ w, Calls Tryz.prog 30 #[.string s] w fun e w' => e = .returned (.bool false) ∧ Below w.heap.size w w' := hr
    clear hp he hl hr
    go_enter Tryz.func21, Tryz.ntmps21
    go_wp2_with (go_at_call 30; refine (HR _).mono ?_; rintro e w1 ⟨rfl, hb⟩)
    go_ret
    exact ⟨by rw [HE.out]; rfl, hb⟩
  | some L =>
    rw [hp] at hr
    obtain ⟨m, hm⟩ : ∃ m, (units s).length = m := ⟨_, rfl⟩
    have he : rtF s = decide ((m : Int) ≤ 10000) := by
      unfold rtF; rw [hp, hm]
      have : ((m : Int) ≤ 10000) ↔ m ≤ 10000 := by omega
      simp [this]
    have HE := Lib.hid he
    rw [hm] at hl
    have HR : ∀ w, Calls Tryz.prog 30 #[.string s] w fun e w' => e = .returned (.bool true) ∧ Below w.heap.size w w' := hr
    clear hp he hr hm
    go_enter Tryz.func21, Tryz.ntmps21
    go_wp2_with (first | (go_at_call 30; refine (HR _).mono ?_; rintro e w1 ⟨rfl, hb⟩) | (go_at_call 31; refine (hl _).mono ?_; rintro e w2 ⟨rfl, hb2⟩))
    go_ret
    exact ⟨by rw [HE.out]; rfl, bnext hb hb2⟩

theorem rn_0 (n : Int) (w : World) : Calls Tryz.prog 22 #[.int .i64 0, .int .i64 n] w fun e w' => e = .returned (.bool (n == 0)) ∧ w = w' := by
  go_enter Tryz.func22, Tryz.ntmps22
  go_wp2
  go_ret
  exact ⟨rfl, rfl⟩
theorem rn_1 (n : Int) (w : World) : Calls Tryz.prog 22 #[.int .i64 1, .int .i64 n] w fun e w' => e = .returned (.bool (n == 0)) ∧ w = w' := by
  go_enter Tryz.func22, Tryz.ntmps22
  go_wp2
  go_ret
  exact ⟨rfl, rfl⟩
theorem rn_2a (n : Int) (w : World) (h : (n == 0) = true) : Calls Tryz.prog 22 #[.int .i64 2, .int .i64 n] w fun e w' => e = .returned (.bool true) ∧ w = w' := by
  go_enter Tryz.func22, Tryz.ntmps22
  go_wp2
  go_ret
  exact ⟨rfl, rfl⟩
theorem rn_2b (n : Int) (w : World) (h : (n == 0) = false) : Calls Tryz.prog 22 #[.int .i64 2, .int .i64 n] w fun e w' => e = .returned (.bool (n == 1)) ∧ w = w' := by
  go_enter Tryz.func22, Tryz.ntmps22
  go_wp2
  go_ret
  exact ⟨rfl, rfl⟩
theorem rn_3 (n : Int) (w : World) : Calls Tryz.prog 22 #[.int .i64 3, .int .i64 n] w fun e w' => e = .returned (.bool (sf n)) ∧ w = w' := by
  go_enter Tryz.func22, Tryz.ntmps22
  go_wp2_with (go_at_call 32; refine (safe_any _ _).mono ?_; rintro e w' ⟨rfl, rfl⟩)
  go_ret
  exact ⟨rfl, rfl⟩
theorem rn_4 (n : Int) (w : World) : Calls Tryz.prog 22 #[.int .i64 4, .int .i64 n] w fun e w' => e = .returned (.bool false) ∧ w = w' := by
  go_enter Tryz.func22, Tryz.ntmps22
  go_wp2
  go_ret
  exact ⟨rfl, rfl⟩
theorem rn_5 (n : Int) (w : World) : Calls Tryz.prog 22 #[.int .i64 5, .int .i64 n] w fun e w' => e = .returned (.bool (decide (1 ≤ n))) ∧ w = w' := by
  go_enter Tryz.func22, Tryz.ntmps22
  go_wp2
  go_ret
  exact ⟨rfl, rfl⟩
theorem rn_6 (n : Int) (w : World) : Calls Tryz.prog 22 #[.int .i64 6, .int .i64 n] w fun e w' => e = .returned (.bool (decide (0 ≤ n))) ∧ w = w' := by
  go_enter Tryz.func22, Tryz.ntmps22
  go_wp2
  go_ret
  exact ⟨rfl, rfl⟩
theorem rn_k (k n : Int) (w : World) (hk : NoKind k) : Calls Tryz.prog 22 #[.int .i64 k, .int .i64 n] w fun e w' => e = .returned (.bool false) ∧ w = w' := by
  obtain ⟨e0, e1, e2, e3, e4, e5, e6⟩ := hk
  go_enter Tryz.func22, Tryz.ntmps22
  go_wp2
  go_ret
  exact ⟨rfl, rfl⟩
theorem rightNum_any (k n : Int) (w : World) : Calls Tryz.prog 22 #[.int .i64 k, .int .i64 n] w fun e w' => e = .returned (.bool (rnF k n)) ∧ w = w' := by
  rcases kind_cases k with rfl | rfl | rfl | rfl | rfl | rfl | rfl | hk
  · exact rn_0 n w
  · exact rn_1 n w
  · cases h : (n == 0) with
    | true => have e : rnF 2 n = true := by simp [rnF, h]
              rw [e]; exact rn_2a n w h
    | false => have e : rnF 2 n = (n == 1) := by simp [rnF, h]
               rw [e]; exact rn_2b n w h
  · exact rn_3 n w
  · exact rn_4 n w
  · exact rn_5 n w
  · exact rn_6 n w
  · have h := hk.ne
    have e : rnF k n = false := by simp [rnF, h]
    rw [e]; exact rn_k k n w hk

theorem right_4a (n : Int) (s : ByteArray) (w : World) (h : (n == 0) = true) (hs : s.size ≤ 2000000) : Calls Tryz.prog 12 #[V 4 n s] w fun e w' => e = .returned (.bool (rtF s)) ∧ Below w.heap.size w w' := by
  have hc := fun w => rightTextP s w hs
  go_enter Tryz.func12, Tryz.ntmps12
  go_wp2_with (go_at_call 21; refine (hc _).mono ?_; rintro e w1 ⟨rfl, hb⟩)
  go_ret
  exact ⟨rfl, bnext (ball _ _) hb⟩
theorem right_4b (n : Int) (s : ByteArray) (w : World) (h : (n == 0) = false) : Calls Tryz.prog 12 #[V 4 n s] w fun e w' => e = .returned (.bool false) ∧ Below w.heap.size w w' := by
  go_enter Tryz.func12, Tryz.ntmps12
  go_wp2
  go_ret
  exact ⟨rfl, ball _ _⟩
theorem right_oa (k n : Int) (s : ByteArray) (w : World) (hk : (k == 4) = false) (h : s.toList.isEmpty = true) : Calls Tryz.prog 12 #[V k n s] w fun e w' => e = .returned (.bool (rnF k n)) ∧ Below w.heap.size w w' := by
  have hc := fun w => rightNum_any k n w
  go_enter Tryz.func12, Tryz.ntmps12
  go_wp2_with (go_at_call 22; refine (hc _).mono ?_; rintro e w1 ⟨rfl, rfl⟩)
  go_ret
  exact ⟨rfl, ball _ _⟩
theorem right_ob (k n : Int) (s : ByteArray) (w : World) (hk : (k == 4) = false) (h : s.toList.isEmpty = false) : Calls Tryz.prog 12 #[V k n s] w fun e w' => e = .returned (.bool false) ∧ Below w.heap.size w w' := by
  go_enter Tryz.func12, Tryz.ntmps12
  go_wp2
  go_ret
  exact ⟨rfl, ball _ _⟩
theorem Right_any (k n : Int) (s : ByteArray) (w : World) (hs : s.size ≤ 2000000) : Calls Tryz.prog 12 #[V k n s] w fun e w' => e = .returned (.bool (rightF k n s)) ∧ Below w.heap.size w w' := by
  by_cases hk : k = 4
  · subst hk
    cases h : (n == 0) with
    | true => have e : rightF 4 n s = rtF s := by simp [rightF, h]
              rw [e]; exact right_4a n s w h hs
    | false => have e : rightF 4 n s = false := by simp [rightF, h]
               rw [e]; exact right_4b n s w h
  · have hk2 : (k == 4) = false := by simpa using hk
    cases h : s.toList.isEmpty with
    | true => have e : rightF k n s = rnF k n := by simp [rightF, hk, h]
              rw [e]; exact right_oa k n s w hk2 h
    | false => have e : rightF k n s = false := by simp [rightF, hk, h]
               rw [e]; exact right_ob k n s w hk2 h

theorem rv_0a (n : Int) (s : ByteArray) (w : World) (h : (n == 0) = true) : Calls Tryz.prog 7 #[V 0 n s] w fun e w' => e = .returned (.bool s.toList.isEmpty) ∧ Below w.heap.size w w' := by
  go_enter Tryz.func7, Tryz.ntmps7
  go_wp2
  go_ret
  exact ⟨rfl, ball _ _⟩
theorem rv_0b (n : Int) (s : ByteArray) (w : World) (h : (n == 0) = false) : Calls Tryz.prog 7 #[V 0 n s] w fun e w' => e = .returned (.bool false) ∧ Below w.heap.size w w' := by
  go_enter Tryz.func7, Tryz.ntmps7
  go_wp2
  go_ret
  exact ⟨rfl, ball _ _⟩
theorem rv_1a (n : Int) (s : ByteArray) (w : World) (h : (n == 0) = true) : Calls Tryz.prog 7 #[V 1 n s] w fun e w' => e = .returned (.bool s.toList.isEmpty) ∧ Below w.heap.size w w' := by
  go_enter Tryz.func7, Tryz.ntmps7
  go_wp2
  go_ret
  exact ⟨rfl, ball _ _⟩
theorem rv_1b (n : Int) (s : ByteArray) (w : World) (h : (n == 0) = false) : Calls Tryz.prog 7 #[V 1 n s] w fun e w' => e = .returned (.bool false) ∧ Below w.heap.size w w' := by
  go_enter Tryz.func7, Tryz.ntmps7
  go_wp2
  go_ret
  exact ⟨rfl, ball _ _⟩
theorem rv_2a (n : Int) (s : ByteArray) (w : World) (h : (n == 0) = true) : Calls Tryz.prog 7 #[V 2 n s] w fun e w' => e = .returned (.bool s.toList.isEmpty) ∧ Below w.heap.size w w' := by
  go_enter Tryz.func7, Tryz.ntmps7
  go_wp2
  go_ret
  exact ⟨rfl, ball _ _⟩
theorem rv_2b (n : Int) (s : ByteArray) (w : World) (h : (n == 0) = false) (h2 : (n == 1) = true) : Calls Tryz.prog 7 #[V 2 n s] w fun e w' => e = .returned (.bool s.toList.isEmpty) ∧ Below w.heap.size w w' := by
  go_enter Tryz.func7, Tryz.ntmps7
  go_wp2
  go_ret
  exact ⟨rfl, ball _ _⟩
theorem rv_2c (n : Int) (s : ByteArray) (w : World) (h : (n == 0) = false) (h2 : (n == 1) = false) : Calls Tryz.prog 7 #[V 2 n s] w fun e w' => e = .returned (.bool false) ∧ Below w.heap.size w w' := by
  go_enter Tryz.func7, Tryz.ntmps7
  go_wp2
  go_ret
  exact ⟨rfl, ball _ _⟩
theorem rv_3a (n : Int) (s : ByteArray) (w : World) (h : sf n = true) : Calls Tryz.prog 7 #[V 3 n s] w fun e w' => e = .returned (.bool s.toList.isEmpty) ∧ Below w.heap.size w w' := by
  go_enter Tryz.func7, Tryz.ntmps7
  go_wp2_with (go_at_call 10; refine (rsafe_any _ _).mono ?_; rintro e w' ⟨rfl, rfl⟩)
  go_ret
  exact ⟨rfl, ball _ _⟩
theorem rv_3b (n : Int) (s : ByteArray) (w : World) (h : sf n = false) : Calls Tryz.prog 7 #[V 3 n s] w fun e w' => e = .returned (.bool false) ∧ Below w.heap.size w w' := by
  go_enter Tryz.func7, Tryz.ntmps7
  go_wp2_with (go_at_call 10; refine (rsafe_any _ _).mono ?_; rintro e w' ⟨rfl, rfl⟩)
  go_ret
  exact ⟨rfl, ball _ _⟩
theorem rv_4b (n : Int) (s : ByteArray) (w : World) (h : (n == 0) = false) : Calls Tryz.prog 7 #[V 4 n s] w fun e w' => e = .returned (.bool false) ∧ Below w.heap.size w w' := by
  go_enter Tryz.func7, Tryz.ntmps7
  go_wp2
  go_ret
  exact ⟨rfl, ball _ _⟩
theorem rv_5a (n : Int) (s : ByteArray) (w : World) (h : 1 ≤ n) : Calls Tryz.prog 7 #[V 5 n s] w fun e w' => e = .returned (.bool s.toList.isEmpty) ∧ Below w.heap.size w w' := by
  go_enter Tryz.func7, Tryz.ntmps7
  go_wp2
  go_ret
  exact ⟨rfl, ball _ _⟩
theorem rv_5b (n : Int) (s : ByteArray) (w : World) (h : decide (1 ≤ n) = false) : Calls Tryz.prog 7 #[V 5 n s] w fun e w' => e = .returned (.bool false) ∧ Below w.heap.size w w' := by
  go_enter Tryz.func7, Tryz.ntmps7
  go_wp2
  go_ret
  exact ⟨rfl, ball _ _⟩
theorem rv_6a (n : Int) (s : ByteArray) (w : World) (h : 0 ≤ n) : Calls Tryz.prog 7 #[V 6 n s] w fun e w' => e = .returned (.bool s.toList.isEmpty) ∧ Below w.heap.size w w' := by
  go_enter Tryz.func7, Tryz.ntmps7
  go_wp2
  go_ret
  exact ⟨rfl, ball _ _⟩
theorem rv_6b (n : Int) (s : ByteArray) (w : World) (h : decide (0 ≤ n) = false) : Calls Tryz.prog 7 #[V 6 n s] w fun e w' => e = .returned (.bool false) ∧ Below w.heap.size w w' := by
  go_enter Tryz.func7, Tryz.ntmps7
  go_wp2
  go_ret
  exact ⟨rfl, ball _ _⟩
theorem rv_4n (n : Int) (s : ByteArray) (w : World) (h : (n == 0) = true) (hs : s.size ≤ 2000000) (hp : pts s = none) : Calls Tryz.prog 7 #[V 4 n s] w fun e w' => e = .returned (.bool false) ∧ Below w.heap.size w w' := by
  have hr : ∀ w, Calls Tryz.prog 9 #[.string s] w fun e w' => e = .returned (.bool false) ∧ Below w.heap.size w w' := fun w => by
    have := rightText_any s w (by omega)
    rw [hp] at this
    exact this
  clear hp
  go_enter Tryz.func7, Tryz.ntmps7
  go_wp2_with (go_at_call 9; refine (hr _).mono ?_; rintro e w1 ⟨rfl, hb⟩)
  go_ret
  exact ⟨rfl, bnext (ball _ _) hb⟩
set_option maxHeartbeats 1000000 in
theorem rv_4s (n : Int) (s : ByteArray) (L : List Nat) (w : World) (h : (n == 0) = true) (hs : s.size ≤ 2000000) (hp : pts s = some L) : Calls Tryz.prog 7 #[V 4 n s] w fun e w' => e = .returned (.bool (decide (((units s).length : Int) ≤ 10000))) ∧ Below w.heap.size w w' := by
  have hr : ∀ w, Calls Tryz.prog 9 #[.string s] w fun e w' => e = .returned (.bool true) ∧ Below w.heap.size w w' := fun w => by
    have := rightText_any s w (by omega)
    rw [hp] at this
    exact this
  have hu := fun w => runits_any s w (by omega)
  obtain ⟨m, hm⟩ : ∃ m, (units s).length = m := ⟨_, rfl⟩
  rw [hm]
  clear hp
  go_enter Tryz.func7, Tryz.ntmps7
  go_wp2_with (first | (go_at_call 9; refine (hr _).mono ?_; rintro e w1 ⟨rfl, hb⟩; have hc := new_cell hb 2) | (go_at_call 11; refine (hu _).mono ?_))
  rintro e w2 ⟨v, rfl, hown, hb2⟩
  rw [hm] at hown
  obtain ⟨ao, cp, rfl⟩ := own_shape hown
  have HM := Lib.hid hm
  clear hown hm
  go_wp2
  go_ret
  exact ⟨rfl, bnext (bnext (ball _ _) hb) hb2⟩
theorem rv_k (k n : Int) (s : ByteArray) (hk : NoKind k) (w : World) : Calls Tryz.prog 7 #[V k n s] w fun e w' => e = .returned (.bool false) ∧ Below w.heap.size w w' := by
  obtain ⟨e0, e1, e2, e3, e4, e5, e6⟩ := hk
  go_enter Tryz.func7, Tryz.ntmps7
  go_wp2
  go_ret
  exact ⟨rfl, ball _ _⟩
theorem rv_any (k n : Int) (s : ByteArray) (w : World) (hs : s.size ≤ 2000000) : Calls Tryz.prog 7 #[V k n s] w fun e w' => e = .returned (.bool (rightF k n s)) ∧ Below w.heap.size w w' := by
  rcases kind_cases k with rfl | rfl | rfl | rfl | rfl | rfl | rfl | hk
  · cases h : (n == 0) with
    | true =>
      have e : rightF 0 n s = s.toList.isEmpty := by simp [rightF, rnF, h]
      rw [e]; exact rv_0a n s w h
    | false =>
      have e : rightF 0 n s = false := by simp [rightF, rnF, h]
      rw [e]; exact rv_0b n s w h
  · cases h : (n == 0) with
    | true =>
      have e : rightF 1 n s = s.toList.isEmpty := by simp [rightF, rnF, h]
      rw [e]; exact rv_1a n s w h
    | false =>
      have e : rightF 1 n s = false := by simp [rightF, rnF, h]
      rw [e]; exact rv_1b n s w h
  · cases h : (n == 0) with
    | true =>
      have e : rightF 2 n s = s.toList.isEmpty := by simp [rightF, rnF, h]
      rw [e]; exact rv_2a n s w h
    | false =>
      cases h2 : (n == 1) with
      | true =>
        have e : rightF 2 n s = s.toList.isEmpty := by simp [rightF, rnF, h, h2]
        rw [e]; exact rv_2b n s w h h2
      | false =>
        have e : rightF 2 n s = false := by simp [rightF, rnF, h, h2]
        rw [e]; exact rv_2c n s w h h2
  · cases h : sf n with
    | true =>
      have e : rightF 3 n s = s.toList.isEmpty := by simp [rightF, rnF, h]
      rw [e]; exact rv_3a n s w h
    | false =>
      have e : rightF 3 n s = false := by simp [rightF, rnF, h]
      rw [e]; exact rv_3b n s w h
  · cases h : (n == 0) with
    | false =>
      have e : rightF 4 n s = false := by simp [rightF, h]
      rw [e]; exact rv_4b n s w h
    | true =>
      cases hp : pts s with
      | none =>
        have e : rightF 4 n s = false := by simp [rightF, rtF, hp]
        rw [e]; exact rv_4n n s w h hs hp
      | some L =>
        have e : rightF 4 n s = decide (((units s).length : Int) ≤ 10000) := by
          have : (((units s).length : Int) ≤ 10000) ↔ (units s).length ≤ 10000 := by omega
          simp [rightF, rtF, hp, h, this]
        rw [e]; exact rv_4s n s L w h hs hp
  · by_cases h : 1 ≤ n
    · have e : rightF 5 n s = s.toList.isEmpty := by simp [rightF, rnF, h]
      rw [e]; exact rv_5a n s w h
    · have e : rightF 5 n s = false := by simp [rightF, rnF, h]
      rw [e]; exact rv_5b n s w (decide_eq_false h)
  · by_cases h : 0 ≤ n
    · have e : rightF 6 n s = s.toList.isEmpty := by simp [rightF, rnF, h]
      rw [e]; exact rv_6a n s w h
    · have e : rightF 6 n s = false := by simp [rightF, rnF, h]
      rw [e]; exact rv_6b n s w (decide_eq_false h)
  · have h := hk.ne
    have e : rightF k n s = false := by simp [rightF, rnF, h]
    rw [e]; exact rv_k k n s hk w
end Go.Proofs.YthfgicdpbbpnjaaGreat.Vals
