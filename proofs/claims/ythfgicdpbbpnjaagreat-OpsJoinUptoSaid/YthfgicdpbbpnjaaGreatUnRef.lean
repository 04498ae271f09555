/-
  understudyref1.points, RightText and Units: what they give.
-/
import Derived.Test.YthfgicdpbbpnjaaGreatUnOf
import Derived.Test.YthfgicdpbbpnjaaGreatUnPoint
namespace Go.Proofs.YthfgicdpbbpnjaaGreat.Uni
open Go.RowKit
set_option linter.unusedVariables false

/-- Code points as cells. -/
def ic (l : List Nat) : List Value := l.map fun n : Nat => Value.int .i64 (n : Int)
theorem ic_append (a b : List Nat) : ic (a ++ b) = ic a ++ ic b := by simp [ic]
theorem ic_length (a : List Nat) : (ic a).length = a.length := by simp [ic]
theorem info3 : (Tryz.prog.info? 3).map (fun i => (i.zero, i.size, i.bytes)) = some (some (.int .i64 0), 1, 8) := by kernel_rfl

/-- What ref's points gives. -/
def RPost (s : ByteArray) (w : World) (e : Ending) (w' : World) : Prop :=
  ∃ v, e = .returned (.tuple #[v, .bool (pts s).isSome]) ∧ w'.ownsRow w.heap.size 3 1 v ((pts s).getD []).length (ic ((pts s).getD [])) ∧ Below w.heap.size w w'

/-- Went, with what the last code point was. -/
def lastHi (l : List Nat) : Bool := match l.getLast? with | some c => isHi c | none => false
theorem lastHi_snoc (l : List Nat) (c : Nat) : lastHi (l ++ [c]) = isHi c := by simp [lastHi]

def RInv (s : ByteArray) (w0 : World) (v i : Value) (wr : World) : Prop :=
  ∃ done f j, i = .int .i64 (j : Nat) ∧ wr.ownsRow w0.heap.size 3 1 v done.length (ic done) ∧ Below w0.heap.size w0 wr ∧ Went s done f j (lastHi done)

theorem isLo_bd {c : Nat} (h : isLo c = true) : 56320 ≤ c ∧ c ≤ 57343 := of_decide_eq_true h
theorem isHi_bd {c : Nat} (h : isHi c = true) : 55296 ≤ c ∧ c < 56320 := of_decide_eq_true h
theorem isHi_bd2 {c : Nat} (h : isHi c = false) : ¬ (55296 ≤ c ∧ c < 56320) := of_decide_eq_false h
theorem isLo_bd2 {c : Nat} (h : ¬ isLo c = true) : ¬ (56320 ≤ c ∧ c ≤ 57343) := of_decide_eq_false (by simpa [isLo] using h)

theorem last_cell2 {w : World} {base : Nat} {v : Value} {done : List Nat} (h : w.ownsRow base 3 1 v done.length (ic done)) :
    done.length = 0 ∨ ∃ (m d g cp : Nat), v = .slice (some ⟨g, 0, none⟩) (m + 1) cp ∧ w.cell? ⟨g, m, none⟩ = some (.int .i64 (d : Nat)) ∧ done.length = m + 1 ∧ lastHi done = isHi d := by
  rcases List.eq_nil_or_concat done with rfl | ⟨pre, d, rfl⟩
  · exact .inl rfl
  · right
    rcases h.2 with ⟨_, hn⟩ | ⟨g, cap, cur, hv, _⟩
    · simp at hn
    · refine ⟨pre.length, d, g, cap, by rw [hv]; simp, ?_, by simp, by simp [lastHi]⟩
      have := h.cells (g := g) (by rw [hv]; rfl) pre.length (.int .i64 (d : Nat)) (by simp [ic])
      have e : (⟨g, 0, none⟩ : Addr).add pre.length = ⟨g, pre.length, none⟩ := by unfold Addr.add; split <;> simp_all
      rw [e] at this
      exact this
theorem last_cell {w : World} {base : Nat} {v : Value} {done : List Nat} (h : w.ownsRow base 3 1 v done.length (ic done)) (hh : lastHi done = true) :
    ∃ (m d g cp : Nat), v = .slice (some ⟨g, 0, none⟩) (m + 1) cp ∧ w.cell? ⟨g, m, none⟩ = some (.int .i64 (d : Nat)) ∧ done.length = m + 1 ∧ isHi d = true := by
  rcases last_cell2 h with h0 | ⟨m, d, g, cp, h1, h2, h3, h4⟩
  · have : done = [] := List.eq_nil_of_length_eq_zero h0
    subst this
    simp [lastHi] at hh
  · exact ⟨m, d, g, cp, h1, h2, h3, by rw [← h4]; exact hh⟩

theorem rinv_step {w0 wr w1 : World} {o : Obj} {v v' : Value} {done : List Nat} {c m : Nat} (hm : done.length = m) (hown : wr.ownsRow w0.heap.size 3 1 v m (ic done)) (hbel : Below w0.heap.size w0 wr)
    (hown' : w1.ownsRow w0.heap.size 3 1 v' (m + 1) (ic done ++ [.int .i64 (c : Nat)])) (hgrow' : (wr.alloc o).grownBy w1 v.ownBlock) :
    w1.ownsRow w0.heap.size 3 1 v' (done ++ [c]).length (ic (done ++ [c])) ∧ Below w0.heap.size w0 w1 := by
  subst hm
  refine ⟨by rw [ic_append, List.length_append]; exact hown', ?_⟩
  refine (hbel.alloc hbel.size o).grown hgrow' (by have := hbel.size; simp; omega) (fun k hk => (hown.lt k hk).1)

set_option maxRecDepth 100000 in
set_option maxHeartbeats 1000000 in
theorem rpoints_any (s : ByteArray) (w : World) (hs : s.size ≤ 100000000) :
    Calls Tryz.prog 20 #[.string s] w (RPost s w) := by
  obtain ⟨i0, hi, hz0, hz1, hz2⟩ := info_parts info3
  go_enter Tryz.func20, Tryz.ntmps20
  go_wp2
  go_loopw [4, 5] (fun v i wr => RInv s w v i wr) (fun _ i _ => s.size - (intOf i).toNat)
  case atStart => exact ⟨[], s.size, 0, rfl, World.ownsRow_nil _ _ _ _, Below.refl _ _, went_start s⟩
  case round =>
    obtain ⟨done, f, j, rfl, hown, hbel, hw⟩ := hrel
    have hbs := hbel.size
    have hjs := hw.2.1
    have hdl := hw.2.2.1
    by_cases hlt : j < s.size
    · have hlt2 : (j : Int) < s.size := by omega
      obtain ⟨c, n, hcn⟩ : ∃ c n, pt s j = (c, n) := ⟨_, _, rfl⟩
      have hp : Calls Tryz.prog 29 #[.string s, .int .i64 j] wr fun e w' => e = .returned (.tuple #[.int .i64 (c : Nat), .int .i64 (n : Nat)]) ∧ wr = w' := by
        refine (point_any s j wr hs hlt).mono ?_
        rintro e w' ⟨rfl, rfl⟩
        rw [hcn]
        exact ⟨rfl, rfl⟩
      have hle := pt_le s j hlt
      rw [hcn] at hle
      simp only at hle
      by_cases hn0 : n = 0
      · subst hn0
        have hpts := went_none hw hlt (by rw [hcn])
        have HP := Lib.hid hpts
        clear hpts hw hcn hle
        go_wp2_with (go_at_call 29; refine hp.mono ?_; rintro e w' ⟨rfl, rfl⟩)
        go_ret2
        refine ⟨_, by rw [HP.out]; rfl, ?_, hbel⟩
        rw [HP.out]
        exact World.ownsRow_nil _ _ _ _
      · have hn1 : ((n : Int) == 0) = false := by simp; omega
        have hn2 : 1 ≤ n := by omega
        by_cases hpair : lastHi done = true ∧ isLo c = true
        · have hpts := went_pair hw hlt hpair.1 (by rw [hcn]; exact hpair.2)
          have HP := Lib.hid hpts
          obtain ⟨m, d, g, cp, rfl, hcell, hdl2, hd⟩ := last_cell hown hpair.1
          have hl := isLo_bd hpair.2
          have l1 : (56320 : Int) ≤ (c : Nat) := by omega
          have l2 : ((c : Nat) : Int) ≤ 57343 := by omega
          have hd2 := isHi_bd hd
          have d1 : (55296 : Int) ≤ (d : Nat) := by omega
          have d2 : ((d : Nat) : Int) ≤ 56319 := by omega
          have hm9 : m ≤ 100000000 := by omega
          clear hpts hw hcn hle hn0 hpair hl hd2 hd hown hdl hdl2
          go_wp2_with (go_at_call 29; refine hp.mono ?_; rintro e w' ⟨rfl, rfl⟩)
          go_ret2
          refine ⟨_, by rw [HP.out]; rfl, ?_, hbel⟩
          rw [HP.out]
          exact World.ownsRow_nil _ _ _ _
        · obtain ⟨g, hw2⟩ := went_step hw hlt (by rw [hcn]; simp only; omega) (by rw [hcn]; exact hle) (by rw [hcn]; exact hpair)
          rw [hcn] at hw2
          simp only at hw2
          rw [← lastHi_snoc done c] at hw2
          have HW := Lib.hid hw2
          clear hw hw2 hcn
          by_cases hlo : isLo c = true
          · have hl := isLo_bd hlo
            have l1 : (56320 : Int) ≤ (c : Nat) := by omega
            have l2 : ((c : Nat) : Int) ≤ 57343 := by omega
            have hh : lastHi done = false := by
              cases e : lastHi done with
              | false => rfl
              | true => exact absurd ⟨e, hlo⟩ hpair
            clear hpair hl hlo hn0
            rcases last_cell2 hown with h0 | ⟨m, d, g2, cp, rfl, hcell, hdl2, hd⟩
            · obtain ⟨ao, cp, rfl⟩ := own_shape hown
              have h0' : ¬ (0 : Int) < (done.length : Nat) := by omega
              clear h0 hh
              go_wp2_with (first | (go_at_call 29; refine hp.mono ?_; rintro e w' ⟨rfl, rfl⟩) | (at_builtin; refine wpList_append_own _ rfl _ _ 42 rfl w.heap.size 3 i0 (.int .i64 0) 1 8 Tryz.underlying42 hi hz0 hz1 hz2 rfl (by decide) _ _ _ rfl (hown.alloc _) ⟨wr.heap.size, 0, none⟩ 1 1 [.int .i64 (c : Nat)] rfl rfl (cell_one_new _ _ _) (by intro u hu; simp at hu; subst hu; rfl) (by unfold maxLen; omega) (by omega) (by simp; omega) ?_; intro v' w1 hown' hgrow' _))
              have R := rinv_step rfl hown hbel hown' hgrow'
              clear hown' hgrow' hown
              go_wp2
              go_roundw
              case rel => exact ⟨_, g, j + n, by go_num, R.1, R.2, HW.out⟩
              case measure => simp [intOf]; omega
            · rw [hdl2] at hown
              have HD := Lib.hid hdl2
              have hm9 : m ≤ 100000000 := by omega
              clear hdl2 hdl
              rw [hh] at hd
              have hd2 := isHi_bd2 hd.symm
              clear hh hd
              by_cases d1 : (55296 : Int) ≤ (d : Nat)
              · have d2 : ¬ ((d : Nat) : Int) ≤ 56319 := by omega
                clear hd2
                go_wp2_with (first | (go_at_call 29; refine hp.mono ?_; rintro e w' ⟨rfl, rfl⟩) | (at_builtin; refine wpList_append_own _ rfl _ _ 42 rfl w.heap.size 3 i0 (.int .i64 0) 1 8 Tryz.underlying42 hi hz0 hz1 hz2 rfl (by decide) _ _ _ rfl (hown.alloc _) ⟨wr.heap.size, 0, none⟩ 1 1 [.int .i64 (c : Nat)] rfl rfl (cell_one_new _ _ _) (by intro u hu; simp at hu; subst hu; rfl) (by unfold maxLen; omega) (by omega) (by simp; omega) ?_; intro v' w1 hown' hgrow' _))
                have R := rinv_step HD.out hown hbel hown' hgrow'
                clear hown' hgrow' hown
                go_wp2
                go_roundw
                case rel => exact ⟨_, g, j + n, by go_num, R.1, R.2, HW.out⟩
                case measure => simp [intOf]; omega
              · have d3 : decide ((55296 : Int) ≤ (d : Nat)) = false := decide_eq_false d1
                clear hd2 d1
                go_wp2_with (first | (go_at_call 29; refine hp.mono ?_; rintro e w' ⟨rfl, rfl⟩) | (at_builtin; refine wpList_append_own _ rfl _ _ 42 rfl w.heap.size 3 i0 (.int .i64 0) 1 8 Tryz.underlying42 hi hz0 hz1 hz2 rfl (by decide) _ _ _ rfl (hown.alloc _) ⟨wr.heap.size, 0, none⟩ 1 1 [.int .i64 (c : Nat)] rfl rfl (cell_one_new _ _ _) (by intro u hu; simp at hu; subst hu; rfl) (by unfold maxLen; omega) (by omega) (by simp; omega) ?_; intro v' w1 hown' hgrow' _))
                have R := rinv_step HD.out hown hbel hown' hgrow'
                clear hown' hgrow' hown
                go_wp2
                go_roundw
                case rel => exact ⟨_, g, j + n, by go_num, R.1, R.2, HW.out⟩
                case measure => simp [intOf]; omega
          · have hl := isLo_bd2 hlo
            obtain ⟨ao, cp, rfl⟩ := own_shape hown
            clear hpair hlo hn0
            by_cases l1 : (56320 : Int) ≤ (c : Nat)
            · have l2 : ¬ ((c : Nat) : Int) ≤ 57343 := by omega
              clear hl
              go_wp2_with (first | (go_at_call 29; refine hp.mono ?_; rintro e w' ⟨rfl, rfl⟩) | (at_builtin; refine wpList_append_own _ rfl _ _ 42 rfl w.heap.size 3 i0 (.int .i64 0) 1 8 Tryz.underlying42 hi hz0 hz1 hz2 rfl (by decide) _ _ _ rfl (hown.alloc _) ⟨wr.heap.size, 0, none⟩ 1 1 [.int .i64 (c : Nat)] rfl rfl (cell_one_new _ _ _) (by intro u hu; simp at hu; subst hu; rfl) (by unfold maxLen; omega) (by omega) (by simp; omega) ?_; intro v' w1 hown' hgrow' _))
              have R := rinv_step rfl hown hbel hown' hgrow'
              clear hown' hgrow' hown
              go_wp2
              go_roundw
              case rel => exact ⟨_, g, j + n, by go_num, R.1, R.2, HW.out⟩
              case measure => simp [intOf]; omega
            · have l3 : decide ((56320 : Int) ≤ (c : Nat)) = false := decide_eq_false l1
              clear hl l1
              go_wp2_with (first | (go_at_call 29; refine hp.mono ?_; rintro e w' ⟨rfl, rfl⟩) | (at_builtin; refine wpList_append_own _ rfl _ _ 42 rfl w.heap.size 3 i0 (.int .i64 0) 1 8 Tryz.underlying42 hi hz0 hz1 hz2 rfl (by decide) _ _ _ rfl (hown.alloc _) ⟨wr.heap.size, 0, none⟩ 1 1 [.int .i64 (c : Nat)] rfl rfl (cell_one_new _ _ _) (by intro u hu; simp at hu; subst hu; rfl) (by unfold maxLen; omega) (by omega) (by simp; omega) ?_; intro v' w1 hown' hgrow' _))
              have R := rinv_step rfl hown hbel hown' hgrow'
              clear hown' hgrow' hown
              go_wp2
              go_roundw
              case rel => exact ⟨_, g, j + n, by go_num, R.1, R.2, HW.out⟩
              case measure => simp [intOf]; omega
    · have hpts := went_end hw hlt
      have HP := Lib.hid hpts
      clear hpts hw
      obtain ⟨ao, cp, rfl⟩ := own_shape hown
      go_wp2
      go_ret2
      refine ⟨_, by rw [HP.out]; rfl, ?_, hbel⟩
      rw [HP.out]
      exact hown
end Go.Proofs.YthfgicdpbbpnjaaGreat.Uni
