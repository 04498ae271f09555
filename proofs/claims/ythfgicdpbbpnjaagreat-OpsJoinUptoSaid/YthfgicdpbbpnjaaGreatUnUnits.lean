/-
  understudyref1.RightText and Units.
-/
import Derived.Test.YthfgicdpbbpnjaaGreatUnRef
namespace Go.Proofs.YthfgicdpbbpnjaaGreat.Uni
open Go.RowKit
set_option linter.unusedVariables false

theorem pt_bd (s : ByteArray) (i : Nat) (h : i < s.size) : (pt s i).1 ≤ 1114111 := by
  by_cases e : surB s i = true
  · rw [pt_sur e]; have := surV_bd e; simp; omega
  · by_cases d : Utf8.decode s i = (65533, 1)
    · rw [pt_none (by simpa using e) d]; simp
    · rw [pt_dec d]
      rcases decode_cases s i h with x | x
      · exact absurd x d
      · exact x.2.2.2.1
theorem dec_bd (s : ByteArray) : ∀ f i ah l, dec s f i ah = some l → ∀ c ∈ l, c ≤ 1114111 := by
  intro f
  induction f with
  | zero => intro i ah l h c hc; simp [dec] at h; subst h; simp at hc
  | succ f ih =>
    intro i ah l h c hc
    simp only [dec] at h
    split at h
    · rename_i hlt
      split at h
      · simp at h
      · simp only [Option.map_eq_some_iff] at h
        obtain ⟨r, hr, rfl⟩ := h
        simp at hc
        rcases hc with rfl | hc
        · exact pt_bd s i hlt
        · exact ih _ _ r hr c hc
    · simp at h; subst h; simp at hc
theorem pts_bd {s : ByteArray} {l : List Nat} (h : pts s = some l) : ∀ c ∈ l, c ≤ 1114111 := dec_bd s _ _ _ l h

theorem un_big {p : Nat} (h : 65536 ≤ p) : ∃ _h : True, uc (un p) = [.int .u16 (55296 + ((p : Int) - 65536) / 1024), .int .u16 (56320 + ((p : Int) - 65536) % 1024)] ∧ (un p).length = 2 := by
  refine ⟨trivial, ?_, by rw [un_great (by omega)]; rfl⟩
  rw [un_great (by omega)]
  simp [uc]
  omega
theorem two_new (w : World) (k : IntKind) (a b : Int) (t : TypeId) : ∀ j u, [Value.int k a, Value.int k b][j]? = some u → (w.alloc (.cells #[.int k a, .int k b] t)).cell? ((⟨w.heap.size, 0, none⟩ : Addr).add j) = some u := by
  intro j u hj
  match j, hj with
  | 0, hj => simp at hj; subst hj; simp [Addr.add]
  | 1, hj => simp at hj; subst hj; simp [Addr.add]
theorem one_cells (k : IntKind) (a : Int) : ∀ u ∈ [Value.int k a], u.oneCell' = true := by
  intro u hu
  simp at hu
  subst hu
  rfl
theorem two_cells (k : IntKind) (a b : Int) : ∀ u ∈ [Value.int k a, Value.int k b], u.oneCell' = true := by
  intro u hu
  simp at hu
  rcases hu with rfl | rfl <;> rfl
theorem size_alloc_le {w : World} {B : Nat} (o : Obj) (h : B ≤ w.heap.size) : B ≤ (w.alloc o).heap.size := by simp; omega
theorem own_at {w : World} {base e : Nat} {n : Nat} {ao : Option Addr} {cp k : Nat} {xs : List Value} {u : Value} (h : w.ownsRow base e 1 (.slice ao n cp) n xs) (hu : xs[k]? = some u) :
    ∃ g, ao = some ⟨g, 0, none⟩ ∧ w.cell? ⟨g, k, none⟩ = some u := by
  rcases h.2 with ⟨hv, hn⟩ | ⟨g, cap, cur, hv, _⟩
  · subst hn
    have : xs = [] := List.eq_nil_of_length_eq_zero (by simpa using h.1)
    subst this
    simp at hu
  · simp at hv
    refine ⟨g, hv.1, ?_⟩
    have := h.cells (g := g) (by rw [hv.1]; rfl) k u hu
    have e : (⟨g, 0, none⟩ : Addr).add k = ⟨g, k, none⟩ := by unfold Addr.add; split <;> simp_all
    rw [e] at this
    exact this

theorem rightText_any (s : ByteArray) (w : World) (hs : s.size ≤ 100000000) :
    Calls Tryz.prog 9 #[.string s] w fun e w' => e = .returned (.bool (pts s).isSome) ∧ Below w.heap.size w w' := by
  go_enter Tryz.func9, Tryz.ntmps9
  go_wp2_with (go_at_call 20; refine (rpoints_any s w hs).mono ?_)
  rintro e w' ⟨v, rfl, hown, hbel⟩
  obtain ⟨ao, cp, rfl⟩ := own_shape hown
  go_wp2
  go_ret
  exact ⟨rfl, hbel⟩

def UInv (w0 : World) (lv : Value) (L : List Nat) (v i : Value) (wr : World) : Prop :=
  ∃ k : Nat, i = .int .i64 k ∧ k ≤ L.length ∧ wr.ownsRow w0.heap.size 45 1 v (uns (L.take k)).length (uc (uns (L.take k))) ∧ wr.ownsRow w0.heap.size 3 1 lv L.length (ic L) ∧ Below w0.heap.size w0 wr

theorem own_ne2 {w : World} {base e1 e2 : Nat} {v v2 : Value} {n n2 : Nat} {xs xs2 : List Value} (h : w.ownsRow base e1 1 v n xs) (h2 : w.ownsRow base e2 1 v2 n2 xs2) (hne : e1 ≠ e2) : v2.ownBlock = none ∨ v2.ownBlock ≠ v.ownBlock := by
  rcases h2.2 with ⟨rfl, _⟩ | ⟨g, cap, cur, rfl, _, hg, _⟩
  · exact .inl rfl
  · right
    intro e
    exact own_ne h hg hne e.symm

theorem uinv_step {w0 wr w1 : World} {o : Obj} {lv v v' : Value} {L : List Nat} {k p n : Nat} (hp : L[k]? = some p) (hn : (uns (L.take k)).length = n) (hown : wr.ownsRow w0.heap.size 45 1 v n (uc (uns (L.take k)))) (hl : wr.ownsRow w0.heap.size 3 1 lv L.length (ic L)) (hbel : Below w0.heap.size w0 wr)
    (hown' : w1.ownsRow w0.heap.size 45 1 v' (n + (un p).length) (uc (uns (L.take k)) ++ uc (un p))) (hgrow' : (wr.alloc o).grownBy w1 v.ownBlock) :
    w1.ownsRow w0.heap.size 45 1 v' (uns (L.take (k + 1))).length (uc (uns (L.take (k + 1)))) ∧ w1.ownsRow w0.heap.size 3 1 lv L.length (ic L) ∧ Below w0.heap.size w0 w1 := by
  subst hn
  have e : L.take (k + 1) = L.take k ++ [p] := by rw [List.take_add_one, hp]; rfl
  refine ⟨?_, (hl.alloc o).kept hgrow' (own_ne2 hown hl (by decide)), ?_⟩
  · rw [e, uns_snoc, uc_append, List.length_append]
    exact hown'
  · exact (hbel.alloc hbel.size o).grown hgrow' (by have := hbel.size; simp; omega) (fun j hj => (hown.lt j hj).1)

set_option maxRecDepth 100000 in
set_option maxHeartbeats 1000000 in
theorem runits_any (s : ByteArray) (w : World) (hs : s.size ≤ 100000000) :
    Calls Tryz.prog 11 #[.string s] w (OfPost s w) := by
  obtain ⟨i0, hi, hz0, hz1, hz2⟩ := info_parts info32
  go_enter Tryz.func11, Tryz.ntmps11
  go_wp2_with (go_at_call 20; refine (rpoints_any s w hs).mono ?_)
  rintro e w' ⟨lv, rfl, hownl, hbel⟩
  obtain ⟨ao, cp, rfl⟩ := own_shape hownl
  cases hp : pts s with
  | none =>
    have H := Lib.hid hp
    clear hp hownl
    go_wp2
    refine wp_loop_rounds 1 ?_
    rw [rounds_succ]
    go_wp2
    go_ret
    refine ⟨_, rfl, ?_, hbel⟩
    unfold units
    rw [H.out]
    exact World.ownsRow_nil _ _ _ _
  | some L =>
    rw [hp] at hownl
    simp only [Option.getD_some] at hownl
    have hbd := pts_bd hp
    have hLl := pts_len hp
    have H := Lib.hid hp
    have HB := Lib.hid hbd
    clear hp hbd
    go_wp2
    go_loopw [5, 6] (fun v i wr => UInv w (.slice ao L.length cp) L v i wr) (fun _ i _ => L.length - (intOf i).toNat)
    case atStart => exact ⟨0, rfl, Nat.zero_le _, World.ownsRow_nil _ _ _ _, hownl, hbel⟩
    case round =>
      clear hownl hbel
      obtain ⟨k, rfl, hk, hown, hl, hbel⟩ := hrel
      have hbs := hbel.size
      have hul := uns_le (L.take k)
      have htl : (L.take k).length ≤ k := List.length_take_le _ _
      obtain ⟨n, hn⟩ : ∃ n, (uns (L.take k)).length = n := ⟨_, rfl⟩
      rw [hn] at hown hul
      have HN := Lib.hid hn
      have hn9 : n ≤ 200000000 := by omega
      obtain ⟨ao2, cp2, rfl⟩ := own_shape hown
      clear hul htl hn
      by_cases hlt : k < L.length
      · have hlt2 : (k : Int) < L.length := by omega
        obtain ⟨p, hp⟩ : ∃ p, L[k]? = some p := ⟨L[k], by simp [hlt]⟩
        have hpb := HB.out p (List.mem_of_getElem? hp)
        obtain ⟨g, rfl, hcell⟩ := own_at hl (k := k) (u := .int .i64 (p : Nat)) (by simp [ic, hp])
        have HL := Lib.hid hl
        have HP := Lib.hid hp
        clear hl hp
        by_cases hbig : (65535 : Int) < (p : Nat)
        · have hm := and1024 ((p : Int) - 65536) (by omega) (by omega)
          have hm0 : 0 ≤ ((p : Int) - 65536) % 1024 := by omega
          have hm1 : ((p : Int) - 65536) % 1024 ≤ 1023 := by omega
          go_wp2_with (at_builtin; refine wpList_append_own _ rfl _ _ 33 rfl w.heap.size 45 i0 (.int .u16 0) 1 2 Tryz.underlying33 hi hz0 hz1 hz2 rfl (by decide) _ _ _ rfl (hown.alloc _) ⟨wr.heap.size, 0, none⟩ 2 2 [.int .u16 (55296 + ((p : Int) - 65536) / 1024), .int .u16 (56320 + ((p : Int) - 65536) % 1024)] rfl rfl (two_new _ _ _ _ _) (two_cells _ _ _) (by unfold maxLen; omega) (by omega) (size_alloc_le _ hbs) ?_)
          intro v' w1 hown' hgrow' _
          have R := uinv_step (p := p) HP.out HN.out hown HL.out hbel (by obtain ⟨_, e1, e2⟩ := un_big (p := p) (by omega); rw [e1, e2]; exact hown') hgrow'
          clear hown' hgrow' hown
          go_wp2
          go_roundw
          case rel => exact ⟨k + 1, by go_num, by omega, R.1, R.2.1, R.2.2⟩
          case measure => simp [intOf]; omega
        · go_wp2_with (at_builtin; refine wpList_append_own _ rfl _ _ 33 rfl w.heap.size 45 i0 (.int .u16 0) 1 2 Tryz.underlying33 hi hz0 hz1 hz2 rfl (by decide) _ _ _ rfl (hown.alloc _) ⟨wr.heap.size, 0, none⟩ 1 1 [.int .u16 (p : Nat)] rfl rfl (cell_one_new _ _ _) (one_cells _ _) (by unfold maxLen; omega) (by omega) (size_alloc_le _ hbs) ?_)
          intro v' w1 hown' hgrow' _
          have R := uinv_step (p := p) HP.out HN.out hown HL.out hbel (by rw [un_small (by omega)]; exact hown') hgrow'
          clear hown' hgrow' hown
          go_wp2
          go_roundw
          case rel => exact ⟨k + 1, by go_num, by omega, R.1, R.2.1, R.2.2⟩
          case measure => simp [intOf]; omega
      · obtain rfl : k = L.length := by omega
        clear hl
        go_wp2
        go_ret
        refine ⟨_, rfl, ?_, hbel⟩
        have e := HN.out
        rw [List.take_length] at e hown
        unfold units
        rw [H.out]
        show World.ownsRow _ _ _ _ _ (uns L).length (uc (uns L))
        rw [e]
        exact hown
end Go.Proofs.YthfgicdpbbpnjaaGreat.Uni
