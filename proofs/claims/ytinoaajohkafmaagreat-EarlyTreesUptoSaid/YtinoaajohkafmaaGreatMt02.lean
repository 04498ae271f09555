/-
  Texts of this seat in build order: UnRef, UnUnits, LxLead, LxSkip, LxGap, LxRd, NmSmall, NmText, LxSign, LxHex, LxEsc.
-/
import Derived.Test.YtinoaajohkafmaaGreatMt01
import Derived.Test.YtinoaajohkafmaaGreatMt00
import Derived.Lib.CutLaws
import Derived.Test.YtinoaajohkafmaaGreatProg
import Derived.WalkKit
import Derived.WalkSpells
import Derived.WalkLawsBesides
import Derived.RegionTactic
import Derived.ChangeAlike
import Derived.Deep.QuietTactic
import Derived.BigQuiet
import Derived.Lib.Hide
import Derived.KernelRfl
import Derived.Lib.AppendIntMem
import Derived.Below
import Derived.Deep.MidRow
import Derived.Lib.ConvBytes
/-
  understudyref1.points, RightText and Units: what they give.
-/
namespace Go.Proofs.YtinoaajohkafmaaGreat.Uni
open Go.RowKit
set_option linter.unusedVariables false
def ic (l : List Nat) : List Value := l.map fun n : Nat => Value.int .i64 (n : Int)
theorem ic_append (a b : List Nat) : ic (a ++ b) = ic a ++ ic b := by simp [ic]
theorem info3 : (Tryz.prog.info? 3).map (fun i => (i.zero, i.size, i.bytes)) = some (some (.int .i64 0), 1, 8) := by kernel_rfl
def RPost (s : ByteArray) (w : World) (e : Ending) (w' : World) : Prop :=
  ∃ v, e = .returned (.tuple #[v, .bool (pts s).isSome]) ∧ w'.ownsRow w.heap.size 3 1 v ((pts s).getD []).length (ic ((pts s).getD [])) ∧ Below w.heap.size w w'
def lastHi (l : List Nat) : Bool := match l.getLast? with | some c => isHi c | none => false
theorem lastHi_snoc (l : List Nat) (c : Nat) : lastHi (l ++ [c]) = isHi c := by simp [lastHi]
def RInv (s : ByteArray) (w0 : World) (v i : Value) (wr : World) : Prop :=
  ∃ done f j, i = .int .i64 (j : Nat) ∧ wr.ownsRow w0.heap.size 3 1 v done.length (ic done) ∧ Below w0.heap.size w0 wr ∧ Went s done f j (lastHi done)
theorem isLo_bd {c : Nat} (h : isLo c = true) : 56320 ≤ c ∧ c ≤ 57343 := of_decide_eq_true h
theorem isHi_bd {c : Nat} (h : isHi c = true) : 55296 ≤ c ∧ c < 56320 := of_decide_eq_true h
theorem isHi_bd2 {c : Nat} (h : isHi c = false) : ¬ (55296 ≤ c ∧ c < 56320) := of_decide_eq_false h
theorem isLo_bd2 {c : Nat} (h : ¬ isLo c = true) : ¬ (56320 ≤ c ∧ c ≤ 57343) := of_decide_eq_false (by simpa [isLo] using h)
theorem last_cell2 {w : World} {base : Nat} {v : Value} {done : List Nat} (h : w.ownsRow base 3 1 v done.length (ic done)) :
    done.length = 0 ∨ ∃ (m d g cp : Nat), v = .slice (some ⟨g, 0, none⟩) (m + 1) cp ∧ w.cell? ⟨g, m, none⟩ = some (.int .i64 (d : Nat)) ∧ done.length = m + 1 ∧ lastHi done = isHi d := by
  rcases List.eq_nil_or_concat done with rfl | ⟨pre, d, rfl⟩
  · exact .inl rfl
  · right
    rcases h.2 with ⟨_, hn⟩ | ⟨g, cap, cur, hv, _⟩
    · simp at hn
    · refine ⟨pre.length, d, g, cap, by rw [hv]; simp, ?_, by simp, by simp [lastHi]⟩
      have := h.cells (g := g) (by rw [hv]; rfl) pre.length (.int .i64 (d : Nat)) (by simp [ic])
      have e : (⟨g, 0, none⟩ : Addr).add pre.length = ⟨g, pre.length, none⟩ := by unfold Addr.add; split <;> simp_all
      rw [e] at this
      exact this
theorem last_cell {w : World} {base : Nat} {v : Value} {done : List Nat} (h : w.ownsRow base 3 1 v done.length (ic done)) (hh : lastHi done = true) :
    ∃ (m d g cp : Nat), v = .slice (some ⟨g, 0, none⟩) (m + 1) cp ∧ w.cell? ⟨g, m, none⟩ = some (.int .i64 (d : Nat)) ∧ done.length = m + 1 ∧ isHi d = true := by
  rcases last_cell2 h with h0 | ⟨m, d, g, cp, h1, h2, h3, h4⟩
  · have : done = [] := List.eq_nil_of_length_eq_zero h0
    subst this
    simp [lastHi] at hh
  · exact ⟨m, d, g, cp, h1, h2, h3, by rw [← h4]; exact hh⟩
theorem rinv_step {w0 wr w1 : World} {o : Obj} {v v' : Value} {done : List Nat} {c m : Nat} (hm : done.length = m) (hown : wr.ownsRow w0.heap.size 3 1 v m (ic done)) (hbel : Below w0.heap.size w0 wr)
    (hown' : w1.ownsRow w0.heap.size 3 1 v' (m + 1) (ic done ++ [.int .i64 (c : Nat)])) (hgrow' : (wr.alloc o).grownBy w1 v.ownBlock) :
    w1.ownsRow w0.heap.size 3 1 v' (done ++ [c]).length (ic (done ++ [c])) ∧ Below w0.heap.size w0 w1 := by
  subst hm
  refine ⟨by rw [ic_append, List.length_append]; exact hown', ?_⟩
  refine (hbel.alloc hbel.size o).grown hgrow' (by have := hbel.size; simp; omega) (fun k hk => (hown.lt k hk).1)
set_option maxRecDepth 100000 in
set_option maxHeartbeats 1000000 in
theorem rpoints_any (s : ByteArray) (w : World) (hs : s.size ≤ 100000000) :
    Calls Tryz.prog 102 #[.string s] w (RPost s w) := by
  obtain ⟨i0, hi, hz0, hz1, hz2⟩ := info_parts info3
  go_enter Tryz.func102, Tryz.ntmps102
  go_wp2
  go_loopw [4, 5] (fun v i wr => RInv s w v i wr) (fun _ i _ => s.size - (intOf i).toNat)
  case atStart => exact ⟨[], s.size, 0, rfl, World.ownsRow_nil _ _ _ _, Below.refl _ _, went_start s⟩
  case round =>
    obtain ⟨done, f, j, rfl, hown, hbel, hw⟩ := hrel
    have hbs := hbel.size
    have hjs := hw.2.1
    have hdl := hw.2.2.1
    by_cases hlt : j < s.size
    · have hlt2 : (j : Int) < s.size := by omega
      obtain ⟨c, n, hcn⟩ : ∃ c n, pt s j = (c, n) := ⟨_, _, rfl⟩
      have hp : Calls Tryz.prog 54 #[.string s, .int .i64 j] wr fun e w' => e = .returned (.tuple #[.int .i64 (c : Nat), .int .i64 (n : Nat)]) ∧ wr = w' := by
        refine (point_any s j wr hs hlt).mono ?_
        rintro e w' ⟨rfl, rfl⟩
        rw [hcn]
        exact ⟨rfl, rfl⟩
      have hle := pt_le s j hlt
      rw [hcn] at hle
      simp only at hle
      by_cases hn0 : n = 0
      · subst hn0
        have hpts := went_none hw hlt (by rw [hcn])
        have HP := Lib.hid hpts
        clear hpts hw hcn hle
        go_wp2_with (go_at_call 54; refine hp.mono ?_; rintro e w' ⟨rfl, rfl⟩)
        go_ret2
        refine ⟨_, by rw [HP.out]; rfl, ?_, hbel⟩
        rw [HP.out]
        exact World.ownsRow_nil _ _ _ _
      · have hn1 : ((n : Int) == 0) = false := by simp; omega
        have hn2 : 1 ≤ n := by omega
        by_cases hpair : lastHi done = true ∧ isLo c = true
        · have hpts := went_pair hw hlt hpair.1 (by rw [hcn]; exact hpair.2)
          have HP := Lib.hid hpts
          obtain ⟨m, d, g, cp, rfl, hcell, hdl2, hd⟩ := last_cell hown hpair.1
          have hl := isLo_bd hpair.2
          have l1 : (56320 : Int) ≤ (c : Nat) := by omega
          have l2 : ((c : Nat) : Int) ≤ 57343 := by omega
          have hd2 := isHi_bd hd
          have d1 : (55296 : Int) ≤ (d : Nat) := by omega
          have d2 : ((d : Nat) : Int) ≤ 56319 := by omega
          have hm9 : m ≤ 100000000 := by omega
          clear hpts hw hcn hle hn0 hpair hl hd2 hd hown hdl hdl2
          go_wp2_with (go_at_call 54; refine hp.mono ?_; rintro e w' ⟨rfl, rfl⟩)
          go_ret2
          refine ⟨_, by rw [HP.out]; rfl, ?_, hbel⟩
          rw [HP.out]
          exact World.ownsRow_nil _ _ _ _
        · obtain ⟨g, hw2⟩ := went_step hw hlt (by rw [hcn]; simp only; omega) (by rw [hcn]; exact hle) (by rw [hcn]; exact hpair)
          rw [hcn] at hw2
          simp only at hw2
          rw [← lastHi_snoc done c] at hw2
          have HW := Lib.hid hw2
          clear hw hw2 hcn
          by_cases hlo : isLo c = true
          · have hl := isLo_bd hlo
            have l1 : (56320 : Int) ≤ (c : Nat) := by omega
            have l2 : ((c : Nat) : Int) ≤ 57343 := by omega
            have hh : lastHi done = false := by
              cases e : lastHi done with
              | false => rfl
              | true => exact absurd ⟨e, hlo⟩ hpair
            clear hpair hl hlo hn0
            rcases last_cell2 hown with h0 | ⟨m, d, g2, cp, rfl, hcell, hdl2, hd⟩
            · obtain ⟨ao, cp, rfl⟩ := own_shape hown
              have h0' : ¬ (0 : Int) < (done.length : Nat) := by omega
              clear h0 hh
              go_wp2_with (first | (go_at_call 54; refine hp.mono ?_; rintro e w' ⟨rfl, rfl⟩) | (at_builtin; refine wpList_append_own _ rfl _ _ 37 rfl w.heap.size 3 i0 (.int .i64 0) 1 8 Tryz.underlying37 hi hz0 hz1 hz2 rfl (by decide) _ _ _ rfl (hown.alloc _) ⟨wr.heap.size, 0, none⟩ 1 1 [.int .i64 (c : Nat)] rfl rfl (cell_one_new _ _ _) (by intro u hu; simp at hu; subst hu; rfl) (by unfold maxLen; omega) (by omega) (by simp; omega) ?_; intro v' w1 hown' hgrow' _))
              have R := rinv_step rfl hown hbel hown' hgrow'
              clear hown' hgrow' hown
              go_wp2
              go_roundw
              case rel => exact ⟨_, g, j + n, by go_num, R.1, R.2, HW.out⟩
              case measure => simp [intOf]; omega
            · rw [hdl2] at hown
              have HD := Lib.hid hdl2
              have hm9 : m ≤ 100000000 := by omega
              clear hdl2 hdl
              rw [hh] at hd
              have hd2 := isHi_bd2 hd.symm
              clear hh hd
              by_cases d1 : (55296 : Int) ≤ (d : Nat)
              · have d2 : ¬ ((d : Nat) : Int) ≤ 56319 := by omega
                clear hd2
                go_wp2_with (first | (go_at_call 54; refine hp.mono ?_; rintro e w' ⟨rfl, rfl⟩) | (at_builtin; refine wpList_append_own _ rfl _ _ 37 rfl w.heap.size 3 i0 (.int .i64 0) 1 8 Tryz.underlying37 hi hz0 hz1 hz2 rfl (by decide) _ _ _ rfl (hown.alloc _) ⟨wr.heap.size, 0, none⟩ 1 1 [.int .i64 (c : Nat)] rfl rfl (cell_one_new _ _ _) (by intro u hu; simp at hu; subst hu; rfl) (by unfold maxLen; omega) (by omega) (by simp; omega) ?_; intro v' w1 hown' hgrow' _))
                have R := rinv_step HD.out hown hbel hown' hgrow'
                clear hown' hgrow' hown
                go_wp2
                go_roundw
                case rel => exact ⟨_, g, j + n, by go_num, R.1, R.2, HW.out⟩
                case measure => simp [intOf]; omega
              · have d3 : decide ((55296 : Int) ≤ (d : Nat)) = false := decide_eq_false d1
                clear hd2 d1
                go_wp2_with (first | (go_at_call 54; refine hp.mono ?_; rintro e w' ⟨rfl, rfl⟩) | (at_builtin; refine wpList_append_own _ rfl _ _ 37 rfl w.heap.size 3 i0 (.int .i64 0) 1 8 Tryz.underlying37 hi hz0 hz1 hz2 rfl (by decide) _ _ _ rfl (hown.alloc _) ⟨wr.heap.size, 0, none⟩ 1 1 [.int .i64 (c : Nat)] rfl rfl (cell_one_new _ _ _) (by intro u hu; simp at hu; subst hu; rfl) (by unfold maxLen; omega) (by omega) (by simp; omega) ?_; intro v' w1 hown' hgrow' _))
                have R := rinv_step HD.out hown hbel hown' hgrow'
                clear hown' hgrow' hown
                go_wp2
                go_roundw
                case rel => exact ⟨_, g, j + n, by go_num, R.1, R.2, HW.out⟩
                case measure => simp [intOf]; omega
          · have hl := isLo_bd2 hlo
            obtain ⟨ao, cp, rfl⟩ := own_shape hown
            clear hpair hlo hn0
            by_cases l1 : (56320 : Int) ≤ (c : Nat)
            · have l2 : ¬ ((c : Nat) : Int) ≤ 57343 := by omega
              clear hl
              go_wp2_with (first | (go_at_call 54; refine hp.mono ?_; rintro e w' ⟨rfl, rfl⟩) | (at_builtin; refine wpList_append_own _ rfl _ _ 37 rfl w.heap.size 3 i0 (.int .i64 0) 1 8 Tryz.underlying37 hi hz0 hz1 hz2 rfl (by decide) _ _ _ rfl (hown.alloc _) ⟨wr.heap.size, 0, none⟩ 1 1 [.int .i64 (c : Nat)] rfl rfl (cell_one_new _ _ _) (by intro u hu; simp at hu; subst hu; rfl) (by unfold maxLen; omega) (by omega) (by simp; omega) ?_; intro v' w1 hown' hgrow' _))
              have R := rinv_step rfl hown hbel hown' hgrow'
              clear hown' hgrow' hown
              go_wp2
              go_roundw
              case rel => exact ⟨_, g, j + n, by go_num, R.1, R.2, HW.out⟩
              case measure => simp [intOf]; omega
            · have l3 : decide ((56320 : Int) ≤ (c : Nat)) = false := decide_eq_false l1
              clear hl l1
              go_wp2_with (first | (go_at_call 54; refine hp.mono ?_; rintro e w' ⟨rfl, rfl⟩) | (at_builtin; refine wpList_append_own _ rfl _ _ 37 rfl w.heap.size 3 i0 (.int .i64 0) 1 8 Tryz.underlying37 hi hz0 hz1 hz2 rfl (by decide) _ _ _ rfl (hown.alloc _) ⟨wr.heap.size, 0, none⟩ 1 1 [.int .i64 (c : Nat)] rfl rfl (cell_one_new _ _ _) (by intro u hu; simp at hu; subst hu; rfl) (by unfold maxLen; omega) (by omega) (by simp; omega) ?_; intro v' w1 hown' hgrow' _))
              have R := rinv_step rfl hown hbel hown' hgrow'
              clear hown' hgrow' hown
              go_wp2
              go_roundw
              case rel => exact ⟨_, g, j + n, by go_num, R.1, R.2, HW.out⟩
              case measure => simp [intOf]; omega
    · have hpts := went_end hw hlt
      have HP := Lib.hid hpts
      clear hpts hw
      obtain ⟨ao, cp, rfl⟩ := own_shape hown
      go_wp2
      go_ret2
      refine ⟨_, by rw [HP.out]; rfl, ?_, hbel⟩
      rw [HP.out]
      exact hown
end Go.Proofs.YtinoaajohkafmaaGreat.Uni

/-
  understudyref1.RightText and Units.
-/
namespace Go.Proofs.YtinoaajohkafmaaGreat.Uni
open Go.RowKit
set_option linter.unusedVariables false
theorem pt_bd (s : ByteArray) (i : Nat) (h : i < s.size) : (pt s i).1 ≤ 1114111 := by
  by_cases e : surB s i = true
  · rw [pt_sur e]; have := surV_bd e; simp; omega
  · by_cases d : Utf8.decode s i = (65533, 1)
    · rw [pt_none (by simpa using e) d]; simp
    · rw [pt_dec d]
      rcases decode_cases s i h with x | x
      · exact absurd x d
      · exact x.2.2.2.1
theorem dec_bd (s : ByteArray) : ∀ f i ah l, dec s f i ah = some l → ∀ c ∈ l, c ≤ 1114111 := by
  intro f
  induction f with
  | zero => intro i ah l h c hc; simp [dec] at h; subst h; simp at hc
  | succ f ih =>
    intro i ah l h c hc
    simp only [dec] at h
    split at h
    · rename_i hlt
      split at h
      · simp at h
      · simp only [Option.map_eq_some_iff] at h
        obtain ⟨r, hr, rfl⟩ := h
        simp at hc
        rcases hc with rfl | hc
        · exact pt_bd s i hlt
        · exact ih _ _ r hr c hc
    · simp at h; subst h; simp at hc
theorem pts_bd {s : ByteArray} {l : List Nat} (h : pts s = some l) : ∀ c ∈ l, c ≤ 1114111 := dec_bd s _ _ _ l h
theorem un_big {p : Nat} (h : 65536 ≤ p) : ∃ _h : True, uc (un p) = [.int .u16 (55296 + ((p : Int) - 65536) / 1024), .int .u16 (56320 + ((p : Int) - 65536) % 1024)] ∧ (un p).length = 2 := by
  refine ⟨trivial, ?_, by rw [un_great (by omega)]; rfl⟩
  rw [un_great (by omega)]
  simp [uc]
  omega
theorem two_new (w : World) (k : IntKind) (a b : Int) (t : TypeId) : ∀ j u, [Value.int k a, Value.int k b][j]? = some u → (w.alloc (.cells #[.int k a, .int k b] t)).cell? ((⟨w.heap.size, 0, none⟩ : Addr).add j) = some u := by
  intro j u hj
  match j, hj with
  | 0, hj => simp at hj; subst hj; simp [Addr.add]
  | 1, hj => simp at hj; subst hj; simp [Addr.add]
theorem one_cells (k : IntKind) (a : Int) : ∀ u ∈ [Value.int k a], u.oneCell' = true := by
  intro u hu
  simp at hu
  subst hu
  rfl
theorem two_cells (k : IntKind) (a b : Int) : ∀ u ∈ [Value.int k a, Value.int k b], u.oneCell' = true := by
  intro u hu
  simp at hu
  rcases hu with rfl | rfl <;> rfl
theorem size_alloc_le {w : World} {B : Nat} (o : Obj) (h : B ≤ w.heap.size) : B ≤ (w.alloc o).heap.size := by simp; omega
theorem own_at {w : World} {base e : Nat} {n : Nat} {ao : Option Addr} {cp k : Nat} {xs : List Value} {u : Value} (h : w.ownsRow base e 1 (.slice ao n cp) n xs) (hu : xs[k]? = some u) :
    ∃ g, ao = some ⟨g, 0, none⟩ ∧ w.cell? ⟨g, k, none⟩ = some u := by
  rcases h.2 with ⟨hv, hn⟩ | ⟨g, cap, cur, hv, _⟩
  · subst hn
    have : xs = [] := List.eq_nil_of_length_eq_zero (by simpa using h.1)
    subst this
    simp at hu
  · simp at hv
    refine ⟨g, hv.1, ?_⟩
    have := h.cells (g := g) (by rw [hv.1]; rfl) k u hu
    have e : (⟨g, 0, none⟩ : Addr).add k = ⟨g, k, none⟩ := by unfold Addr.add; split <;> simp_all
    rw [e] at this
    exact this
theorem rightText_any (s : ByteArray) (w : World) (hs : s.size ≤ 100000000) :
    Calls Tryz.prog 112 #[.string s] w fun e w' => e = .returned (.bool (pts s).isSome) ∧ Below w.heap.size w w' := by
  go_enter Tryz.func112, Tryz.ntmps112
  go_wp2_with (go_at_call 102; refine (rpoints_any s w hs).mono ?_)
  rintro e w' ⟨v, rfl, hown, hbel⟩
  obtain ⟨ao, cp, rfl⟩ := own_shape hown
  go_wp2
  go_ret
  exact ⟨rfl, hbel⟩
def UInv (w0 : World) (lv : Value) (L : List Nat) (v i : Value) (wr : World) : Prop :=
  ∃ k : Nat, i = .int .i64 k ∧ k ≤ L.length ∧ wr.ownsRow w0.heap.size 96 1 v (uns (L.take k)).length (uc (uns (L.take k))) ∧ wr.ownsRow w0.heap.size 3 1 lv L.length (ic L) ∧ Below w0.heap.size w0 wr
theorem own_ne2 {w : World} {base e1 e2 : Nat} {v v2 : Value} {n n2 : Nat} {xs xs2 : List Value} (h : w.ownsRow base e1 1 v n xs) (h2 : w.ownsRow base e2 1 v2 n2 xs2) (hne : e1 ≠ e2) : v2.ownBlock = none ∨ v2.ownBlock ≠ v.ownBlock := by
  rcases h2.2 with ⟨rfl, _⟩ | ⟨g, cap, cur, rfl, _, hg, _⟩
  · exact .inl rfl
  · right
    intro e
    exact own_ne h hg hne e.symm
theorem uinv_step {w0 wr w1 : World} {o : Obj} {lv v v' : Value} {L : List Nat} {k p n : Nat} (hp : L[k]? = some p) (hn : (uns (L.take k)).length = n) (hown : wr.ownsRow w0.heap.size 96 1 v n (uc (uns (L.take k)))) (hl : wr.ownsRow w0.heap.size 3 1 lv L.length (ic L)) (hbel : Below w0.heap.size w0 wr)
    (hown' : w1.ownsRow w0.heap.size 96 1 v' (n + (un p).length) (uc (uns (L.take k)) ++ uc (un p))) (hgrow' : (wr.alloc o).grownBy w1 v.ownBlock) :
    w1.ownsRow w0.heap.size 96 1 v' (uns (L.take (k + 1))).length (uc (uns (L.take (k + 1)))) ∧ w1.ownsRow w0.heap.size 3 1 lv L.length (ic L) ∧ Below w0.heap.size w0 w1 := by
  subst hn
  have e : L.take (k + 1) = L.take k ++ [p] := by rw [List.take_add_one, hp]; rfl
  refine ⟨?_, (hl.alloc o).kept hgrow' (own_ne2 hown hl (by decide)), ?_⟩
  · rw [e, uns_snoc, uc_append, List.length_append]
    exact hown'
  · exact (hbel.alloc hbel.size o).grown hgrow' (by have := hbel.size; simp; omega) (fun j hj => (hown.lt j hj).1)
set_option maxRecDepth 100000 in
set_option maxHeartbeats 1000000 in
theorem runits_any (s : ByteArray) (w : World) (hs : s.size ≤ 100000000) :
    Calls Tryz.prog 76 #[.string s] w (OfPost s w) := by
  obtain ⟨i0, hi, hz0, hz1, hz2⟩ := info_parts info32
  go_enter Tryz.func76, Tryz.ntmps76
  go_wp2_with (go_at_call 102; refine (rpoints_any s w hs).mono ?_)
  rintro e w' ⟨lv, rfl, hownl, hbel⟩
  obtain ⟨ao, cp, rfl⟩ := own_shape hownl
  cases hp : pts s with
  | none =>
    have H := Lib.hid hp
    clear hp hownl
    go_wp2
    refine wp_loop_rounds 1 ?_
    rw [rounds_succ]
    go_wp2
    go_ret
    refine ⟨_, rfl, ?_, hbel⟩
    unfold units
    rw [H.out]
    exact World.ownsRow_nil _ _ _ _
  | some L =>
    rw [hp] at hownl
    simp only [Option.getD_some] at hownl
    have hbd := pts_bd hp
    have hLl := pts_len hp
    have H := Lib.hid hp
    have HB := Lib.hid hbd
    clear hp hbd
    go_wp2
    go_loopw [5, 6] (fun v i wr => UInv w (.slice ao L.length cp) L v i wr) (fun _ i _ => L.length - (intOf i).toNat)
    case atStart => exact ⟨0, rfl, Nat.zero_le _, World.ownsRow_nil _ _ _ _, hownl, hbel⟩
    case round =>
      clear hownl hbel
      obtain ⟨k, rfl, hk, hown, hl, hbel⟩ := hrel
      have hbs := hbel.size
      have hul := uns_le (L.take k)
      have htl : (L.take k).length ≤ k := List.length_take_le _ _
      obtain ⟨n, hn⟩ : ∃ n, (uns (L.take k)).length = n := ⟨_, rfl⟩
      rw [hn] at hown hul
      have HN := Lib.hid hn
      have hn9 : n ≤ 200000000 := by omega
      obtain ⟨ao2, cp2, rfl⟩ := own_shape hown
      clear hul htl hn
      by_cases hlt : k < L.length
      · have hlt2 : (k : Int) < L.length := by omega
        obtain ⟨p, hp⟩ : ∃ p, L[k]? = some p := ⟨L[k], by simp [hlt]⟩
        have hpb := HB.out p (List.mem_of_getElem? hp)
        obtain ⟨g, rfl, hcell⟩ := own_at hl (k := k) (u := .int .i64 (p : Nat)) (by simp [ic, hp])
        have HL := Lib.hid hl
        have HP := Lib.hid hp
        clear hl hp
        by_cases hbig : (65535 : Int) < (p : Nat)
        · have hm := and1024 ((p : Int) - 65536) (by omega) (by omega)
          have hm0 : 0 ≤ ((p : Int) - 65536) % 1024 := by omega
          have hm1 : ((p : Int) - 65536) % 1024 ≤ 1023 := by omega
          go_wp2_with (at_builtin; refine wpList_append_own _ rfl _ _ 95 rfl w.heap.size 96 i0 (.int .u16 0) 1 2 Tryz.underlying95 hi hz0 hz1 hz2 rfl (by decide) _ _ _ rfl (hown.alloc _) ⟨wr.heap.size, 0, none⟩ 2 2 [.int .u16 (55296 + ((p : Int) - 65536) / 1024), .int .u16 (56320 + ((p : Int) - 65536) % 1024)] rfl rfl (two_new _ _ _ _ _) (two_cells _ _ _) (by unfold maxLen; omega) (by omega) (size_alloc_le _ hbs) ?_)
          intro v' w1 hown' hgrow' _
          have R := uinv_step (p := p) HP.out HN.out hown HL.out hbel (by obtain ⟨_, e1, e2⟩ := un_big (p := p) (by omega); rw [e1, e2]; exact hown') hgrow'
          clear hown' hgrow' hown
          go_wp2
          go_roundw
          case rel => exact ⟨k + 1, by go_num, by omega, R.1, R.2.1, R.2.2⟩
          case measure => simp [intOf]; omega
        · go_wp2_with (at_builtin; refine wpList_append_own _ rfl _ _ 95 rfl w.heap.size 96 i0 (.int .u16 0) 1 2 Tryz.underlying95 hi hz0 hz1 hz2 rfl (by decide) _ _ _ rfl (hown.alloc _) ⟨wr.heap.size, 0, none⟩ 1 1 [.int .u16 (p : Nat)] rfl rfl (cell_one_new _ _ _) (one_cells _ _) (by unfold maxLen; omega) (by omega) (size_alloc_le _ hbs) ?_)
          intro v' w1 hown' hgrow' _
          have R := uinv_step (p := p) HP.out HN.out hown HL.out hbel (by rw [un_small (by omega)]; exact hown') hgrow'
          clear hown' hgrow' hown
          go_wp2
          go_roundw
          case rel => exact ⟨k + 1, by go_num, by omega, R.1, R.2.1, R.2.2⟩
          case measure => simp [intOf]; omega
      · obtain rfl : k = L.length := by omega
        clear hl
        go_wp2
        go_ret
        refine ⟨_, rfl, ?_, hbel⟩
        have e := HN.out
        rw [List.take_length] at e hown
        unfold units
        rw [H.out]
        show World.ownsRow _ _ _ _ _ (uns L).length (uc (uns L))
        rw [e]
        exact hown
end Go.Proofs.YtinoaajohkafmaaGreat.Uni

/-
  lex.leading.
-/
namespace Go.Proofs.YtinoaajohkafmaaGreat.Lx
open Go.RowKit Go.Proofs.YtinoaajohkafmaaGreat.Uni
set_option linter.unusedVariables false
set_option linter.unusedSimpArgs false
end Go.Proofs.YtinoaajohkafmaaGreat.Lx

/-
  White space and comments: what is skipped, as a relation; plain mathematics.
-/
namespace Go.Proofs.YtinoaajohkafmaaGreat.Lx
set_option linter.unusedVariables false
set_option linter.unusedSimpArgs false
def Stop : By → Prop
  | [] => True
  | c :: r => whiteN c.toNat = false ∧ ¬ (c = 47 ∧ ∃ r', r = 47 :: r' ∨ r = 42 :: r')
end Go.Proofs.YtinoaajohkafmaaGreat.Lx

/-
  lex.gap; reader.rest, reader.skip.
-/
namespace Go.Proofs.YtinoaajohkafmaaGreat.Lx
open Go.RowKit Go.Proofs.YtinoaajohkafmaaGreat.Uni
set_option linter.unusedVariables false
set_option linter.unusedSimpArgs false
def bs (l : By) : ByteArray := ⟨l.toArray⟩
theorem bs_size (l : By) : (bs l).size = l.length := by simp [bs, ByteArray.size]
theorem bs_list (l : By) : (bs l).data.toList = l := by simp [bs]
theorem lsz (s : ByteArray) : s.data.toList.length = s.size := by simp
end Go.Proofs.YtinoaajohkafmaaGreat.Lx

/-
  The reader: its block, reader.rest, reader.skip.
-/
namespace Go.Proofs.YtinoaajohkafmaaGreat.Lx
open Go.RowKit Go.Proofs.YtinoaajohkafmaaGreat.Uni
set_option linter.unusedVariables false
set_option linter.unusedSimpArgs false
def GB (g : Nat) (w w' : World) : Prop := w.grownBy w' (some g)
theorem GB.refl (g : Nat) (w : World) : GB g w w := ⟨rfl, rfl, rfl, Nat.le_refl _, fun _ _ _ => rfl⟩
theorem GB.trans {g : Nat} {a b c : World} (h : GB g a b) (k : GB g b c) : GB g a c := ⟨k.os.trans h.os, k.tape.trans h.tape, k.output.trans h.output, Nat.le_trans h.size k.size, fun i hi hn => (k.block i (Nat.lt_of_lt_of_le hi h.size) hn).trans (h.block i hi hn)⟩
theorem GB.of {g : Nat} {w w' : World} (h : Below w.heap.size w w') : GB g w w' := ⟨h.os, h.tape, h.output, h.size, fun k hk _ => h.block k hk⟩
theorem GB.set {g : Nat} (w : World) (o : Nat) (u : Value) : GB g w (w.setCell ⟨g, o, none⟩ u) := ⟨rfl, rfl, rfl, by simp [World.setCell], fun k _ hk => Below.heap_setCell _ _ _ _ (fun e => hk (by simp [e]))⟩
theorem GB.drew {g : Nat} {w w' : World} (h : GB g w w') (n : Nat) : GB g w (w'.drewN n) := h.trans (GB.of (below_drewN (Below.refl _ _) n))
theorem GB.below {g B : Nat} {w0 w w' : World} (h : Below B w0 w) (k : GB g w w') (hB : B ≤ w.heap.size) (hg : B ≤ g) : Below B w0 w' := h.grown k hB (fun k hk => by cases hk; exact hg)
end Go.Proofs.YtinoaajohkafmaaGreat.Lx

/-
  The small functions of package numbers and their counterparts: what each call gives.
-/
namespace Go.Proofs.YtinoaajohkafmaaGreat.Nums
open Go.RowKit
set_option linter.unusedVariables false
theorem safe_any (n : Int) (w : World) :
    Calls Tryz.prog 90 #[.int .i64 n] w fun e w' => e = .returned (.bool (sf n)) ∧ w = w' := by
  by_cases h : -9007199254740991 ≤ n
  · by_cases h2 : n ≤ 9007199254740991
    · rw [sf_mk h h2]
      go_enter Tryz.func90, Tryz.ntmps90
      go_wp2
      go_ret
      exact ⟨rfl, rfl⟩
    · rw [sf_no (by omega)]
      go_enter Tryz.func90, Tryz.ntmps90
      go_wp2
      go_ret
      exact ⟨rfl, rfl⟩
  · rw [sf_no (by omega)]
    go_enter Tryz.func90, Tryz.ntmps90
    go_wp2
    go_ret
    exact ⟨rfl, rfl⟩
end Go.Proofs.YtinoaajohkafmaaGreat.Nums

/-
  numbers.Text and numbers.Read: what each call gives.
-/
namespace Go.Proofs.YtinoaajohkafmaaGreat.Nums
open Go.RowKit
set_option linter.unusedVariables false
end Go.Proofs.YtinoaajohkafmaaGreat.Nums

/-
  lex.sign; what the listed variables give, kept.
-/
namespace Go.Proofs.YtinoaajohkafmaaGreat.Lx
open Go.RowKit Go.Proofs.YtinoaajohkafmaaGreat.Uni
set_option linter.unusedVariables false
set_option linter.unusedSimpArgs false
def sgL : List Value := signs.map fun s => Value.string (bs s)
def sgA : Array Value := sgL.toArray
attribute [local irreducible] sgA
end Go.Proofs.YtinoaajohkafmaaGreat.Lx

/-
  strconv.ParseUint of four bytes in base 16.
-/
namespace Go.Proofs.YtinoaajohkafmaaGreat.Lx
open Go.RowKit Go.Proofs.YtinoaajohkafmaaGreat.Uni
set_option linter.unusedVariables false
set_option linter.unusedSimpArgs false
def HexTo (s : ByteArray) (k n : Nat) : Prop := k ≤ s.size ∧ n < 16 ^ k ∧ hexF 0 s.data.toList = hexF n (s.data.toList.drop k)
theorem HexTo.done {s : ByteArray} {k n : Nat} (h : HexTo s k n) (hk : k = s.size) : hexF 0 s.data.toList = some n := by
  obtain ⟨h1, h2, h3⟩ := h
  rw [h3, List.drop_eq_nil_of_le (by rw [lsz]; omega)]
  rfl
end Go.Proofs.YtinoaajohkafmaaGreat.Lx

/-
  strconv.ParseUint's door; lex.escape.
-/
namespace Go.Proofs.YtinoaajohkafmaaGreat.Lx
open Go.RowKit Go.Proofs.YtinoaajohkafmaaGreat.Uni
set_option linter.unusedVariables false
set_option linter.unusedSimpArgs false
end Go.Proofs.YtinoaajohkafmaaGreat.Lx
