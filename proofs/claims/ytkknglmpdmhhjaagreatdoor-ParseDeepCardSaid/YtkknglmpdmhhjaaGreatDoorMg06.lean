/-
  Texts of this seat in build order: UnUnits, LxLead.
-/
import Derived.Test.YtkknglmpdmhhjaaGreatDoorMg05
import Derived.Test.YtkknglmpdmhhjaaGreatDoorMg02
/-
  understudyref1.RightText and Units.
-/
namespace Go.Proofs.YtkknglmpdmhhjaaGreatDoor.Uni
open Go.RowKit
set_option linter.unusedVariables false

theorem pt_bd (s : ByteArray) (i : Nat) (h : i < s.size) : (pt s i).1 ≤ 1114111 := by
  by_cases e : surB s i = true
  · rw [pt_sur e]; have := surV_bd e; simp; omega
  · by_cases d : Utf8.decode s i = (65533, 1)
    · rw [pt_none (by simpa using e) d]; simp
    · rw [pt_dec d]
      rcases decode_cases s i h with x | x
      · exact absurd x d
      · exact x.2.2.2.1
theorem dec_bd (s : ByteArray) : ∀ f i ah l, dec s f i ah = some l → ∀ c ∈ l, c ≤ 1114111 := by
  intro f
  induction f with
  | zero => intro i ah l h c hc; simp [dec] at h; subst h; simp at hc
  | succ f ih =>
    intro i ah l h c hc
    simp only [dec] at h
    split at h
    · rename_i hlt
      split at h
      · simp at h
      · simp only [Option.map_eq_some_iff] at h
        obtain ⟨r, hr, rfl⟩ := h
        simp at hc
        rcases hc with rfl | hc
        · exact pt_bd s i hlt
        · exact ih _ _ r hr c hc
    · simp at h; subst h; simp at hc
theorem pts_bd {s : ByteArray} {l : List Nat} (h : pts s = some l) : ∀ c ∈ l, c ≤ 1114111 := dec_bd s _ _ _ l h

theorem un_big {p : Nat} (h : 65536 ≤ p) : ∃ _h : True, uc (un p) = [.int .u16 (55296 + ((p : Int) - 65536) / 1024), .int .u16 (56320 + ((p : Int) - 65536) % 1024)] ∧ (un p).length = 2 := by
  refine ⟨trivial, ?_, by rw [un_great (by omega)]; rfl⟩
  rw [un_great (by omega)]
  simp [uc]
  omega
theorem two_new (w : World) (k : IntKind) (a b : Int) (t : TypeId) : ∀ j u, [Value.int k a, Value.int k b][j]? = some u → (w.alloc (.cells #[.int k a, .int k b] t)).cell? ((⟨w.heap.size, 0, none⟩ : Addr).add j) = some u := by
  intro j u hj
  match j, hj with
  | 0, hj => simp at hj; subst hj; simp [Addr.add]
  | 1, hj => simp at hj; subst hj; simp [Addr.add]
theorem one_cells (k : IntKind) (a : Int) : ∀ u ∈ [Value.int k a], u.oneCell' = true := by
  intro u hu
  simp at hu
  subst hu
  rfl
theorem two_cells (k : IntKind) (a b : Int) : ∀ u ∈ [Value.int k a, Value.int k b], u.oneCell' = true := by
  intro u hu
  simp at hu
  rcases hu with rfl | rfl <;> rfl
theorem size_alloc_le {w : World} {B : Nat} (o : Obj) (h : B ≤ w.heap.size) : B ≤ (w.alloc o).heap.size := by simp; omega
theorem own_at {w : World} {base e : Nat} {n : Nat} {ao : Option Addr} {cp k : Nat} {xs : List Value} {u : Value} (h : w.ownsRow base e 1 (.slice ao n cp) n xs) (hu : xs[k]? = some u) :
    ∃ g, ao = some ⟨g, 0, none⟩ ∧ w.cell? ⟨g, k, none⟩ = some u := by
  rcases h.2 with ⟨hv, hn⟩ | ⟨g, cap, cur, hv, _⟩
  · subst hn
    have : xs = [] := List.eq_nil_of_length_eq_zero (by simpa using h.1)
    subst this
    simp at hu
  · simp at hv
    refine ⟨g, hv.1, ?_⟩
    have := h.cells (g := g) (by rw [hv.1]; rfl) k u hu
    have e : (⟨g, 0, none⟩ : Addr).add k = ⟨g, k, none⟩ := by unfold Addr.add; split <;> simp_all
    rw [e] at this
    exact this

theorem rightText_any (s : ByteArray) (w : World) (hs : s.size ≤ 100000000) :
    Calls Tryz.prog 193 #[.string s] w fun e w' => e = .returned (.bool (pts s).isSome) ∧ Below w.heap.size w w' := by
  go_enter Tryz.func193, Tryz.ntmps193
  go_wp2_with (go_at_call 204; refine (rpoints_any s w hs).mono ?_)
  rintro e w' ⟨v, rfl, hown, hbel⟩
  obtain ⟨ao, cp, rfl⟩ := own_shape hown
  go_wp2
  go_ret
  exact ⟨rfl, hbel⟩

def UInv (w0 : World) (lv : Value) (L : List Nat) (v i : Value) (wr : World) : Prop :=
  ∃ k : Nat, i = .int .i64 k ∧ k ≤ L.length ∧ wr.ownsRow w0.heap.size 127 1 v (uns (L.take k)).length (uc (uns (L.take k))) ∧ wr.ownsRow w0.heap.size 3 1 lv L.length (ic L) ∧ Below w0.heap.size w0 wr

theorem own_ne2 {w : World} {base e1 e2 : Nat} {v v2 : Value} {n n2 : Nat} {xs xs2 : List Value} (h : w.ownsRow base e1 1 v n xs) (h2 : w.ownsRow base e2 1 v2 n2 xs2) (hne : e1 ≠ e2) : v2.ownBlock = none ∨ v2.ownBlock ≠ v.ownBlock := by
  rcases h2.2 with ⟨rfl, _⟩ | ⟨g, cap, cur, rfl, _, hg, _⟩
  · exact .inl rfl
  · right
    intro e
    exact own_ne h hg hne e.symm

theorem uinv_step {w0 wr w1 : World} {o : Obj} {lv v v' : Value} {L : List Nat} {k p n : Nat} (hp : L[k]? = some p) (hn : (uns (L.take k)).length = n) (hown : wr.ownsRow w0.heap.size 127 1 v n (uc (uns (L.take k)))) (hl : wr.ownsRow w0.heap.size 3 1 lv L.length (ic L)) (hbel : Below w0.heap.size w0 wr)
    (hown' : w1.ownsRow w0.heap.size 127 1 v' (n + (un p).length) (uc (uns (L.take k)) ++ uc (un p))) (hgrow' : (wr.alloc o).grownBy w1 v.ownBlock) :
    w1.ownsRow w0.heap.size 127 1 v' (uns (L.take (k + 1))).length (uc (uns (L.take (k + 1)))) ∧ w1.ownsRow w0.heap.size 3 1 lv L.length (ic L) ∧ Below w0.heap.size w0 w1 := by
  subst hn
  have e : L.take (k + 1) = L.take k ++ [p] := by rw [List.take_add_one, hp]; rfl
  refine ⟨?_, (hl.alloc o).kept hgrow' (own_ne2 hown hl (by decide)), ?_⟩
  · rw [e, uns_snoc, uc_append, List.length_append]
    exact hown'
  · exact (hbel.alloc hbel.size o).grown hgrow' (by have := hbel.size; simp; omega) (fun j hj => (hown.lt j hj).1)

set_option maxRecDepth 100000 in
set_option maxHeartbeats 1000000 in
theorem runits_any (s : ByteArray) (w : World) (hs : s.size ≤ 100000000) :
    Calls Tryz.prog 165 #[.string s] w (OfPost s w) := by
  obtain ⟨i0, hi, hz0, hz1, hz2⟩ := info_parts info32
  go_enter Tryz.func165, Tryz.ntmps165
  go_wp2_with (go_at_call 204; refine (rpoints_any s w hs).mono ?_)
  rintro e w' ⟨lv, rfl, hownl, hbel⟩
  obtain ⟨ao, cp, rfl⟩ := own_shape hownl
  cases hp : pts s with
  | none =>
    have H := Lib.hid hp
    clear hp hownl
    go_wp2
    refine wp_loop_rounds 1 ?_
    rw [rounds_succ]
    go_wp2
    go_ret
    refine ⟨_, rfl, ?_, hbel⟩
    unfold units
    rw [H.out]
    exact World.ownsRow_nil _ _ _ _
  | some L =>
    rw [hp] at hownl
    simp only [Option.getD_some] at hownl
    have hbd := pts_bd hp
    have hLl := pts_len hp
    have H := Lib.hid hp
    have HB := Lib.hid hbd
    clear hp hbd
    go_wp2
    go_loopw [5, 6] (fun v i wr => UInv w (.slice ao L.length cp) L v i wr) (fun _ i _ => L.length - (intOf i).toNat)
    case atStart => exact ⟨0, rfl, Nat.zero_le _, World.ownsRow_nil _ _ _ _, hownl, hbel⟩
    case round =>
      clear hownl hbel
      obtain ⟨k, rfl, hk, hown, hl, hbel⟩ := hrel
      have hbs := hbel.size
      have hul := uns_le (L.take k)
      have htl : (L.take k).length ≤ k := List.length_take_le _ _
      obtain ⟨n, hn⟩ : ∃ n, (uns (L.take k)).length = n := ⟨_, rfl⟩
      rw [hn] at hown hul
      have HN := Lib.hid hn
      have hn9 : n ≤ 200000000 := by omega
      obtain ⟨ao2, cp2, rfl⟩ := own_shape hown
      clear hul htl hn
      by_cases hlt : k < L.length
      · have hlt2 : (k : Int) < L.length := by omega
        obtain ⟨p, hp⟩ : ∃ p, L[k]? = some p := ⟨L[k], by simp [hlt]⟩
        have hpb := HB.out p (List.mem_of_getElem? hp)
        obtain ⟨g, rfl, hcell⟩ := own_at hl (k := k) (u := .int .i64 (p : Nat)) (by simp [ic, hp])
        have HL := Lib.hid hl
        have HP := Lib.hid hp
        clear hl hp
        by_cases hbig : (65535 : Int) < (p : Nat)
        · have hm := and1024 ((p : Int) - 65536) (by omega) (by omega)
          have hm0 : 0 ≤ ((p : Int) - 65536) % 1024 := by omega
          have hm1 : ((p : Int) - 65536) % 1024 ≤ 1023 := by omega
          go_wp2_with (at_builtin; refine wpList_append_own _ rfl _ _ 125 rfl w.heap.size 127 i0 (.int .u16 0) 1 2 Tryz.underlying125 hi hz0 hz1 hz2 rfl (by decide) _ _ _ rfl (hown.alloc _) ⟨wr.heap.size, 0, none⟩ 2 2 [.int .u16 (55296 + ((p : Int) - 65536) / 1024), .int .u16 (56320 + ((p : Int) - 65536) % 1024)] rfl rfl (two_new _ _ _ _ _) (two_cells _ _ _) (by unfold maxLen; omega) (by omega) (size_alloc_le _ hbs) ?_)
          intro v' w1 hown' hgrow' _
          have R := uinv_step (p := p) HP.out HN.out hown HL.out hbel (by obtain ⟨_, e1, e2⟩ := un_big (p := p) (by omega); rw [e1, e2]; exact hown') hgrow'
          clear hown' hgrow' hown
          go_wp2
          go_roundw
          case rel => exact ⟨k + 1, by go_num, by omega, R.1, R.2.1, R.2.2⟩
          case measure => simp [intOf]; omega
        · go_wp2_with (at_builtin; refine wpList_append_own _ rfl _ _ 125 rfl w.heap.size 127 i0 (.int .u16 0) 1 2 Tryz.underlying125 hi hz0 hz1 hz2 rfl (by decide) _ _ _ rfl (hown.alloc _) ⟨wr.heap.size, 0, none⟩ 1 1 [.int .u16 (p : Nat)] rfl rfl (cell_one_new _ _ _) (one_cells _ _) (by unfold maxLen; omega) (by omega) (size_alloc_le _ hbs) ?_)
          intro v' w1 hown' hgrow' _
          have R := uinv_step (p := p) HP.out HN.out hown HL.out hbel (by rw [un_small (by omega)]; exact hown') hgrow'
          clear hown' hgrow' hown
          go_wp2
          go_roundw
          case rel => exact ⟨k + 1, by go_num, by omega, R.1, R.2.1, R.2.2⟩
          case measure => simp [intOf]; omega
      · obtain rfl : k = L.length := by omega
        clear hl
        go_wp2
        go_ret
        refine ⟨_, rfl, ?_, hbel⟩
        have e := HN.out
        rw [List.take_length] at e hown
        unfold units
        rw [H.out]
        show World.ownsRow _ _ _ _ _ (uns L).length (uc (uns L))
        rw [e]
        exact hown
end Go.Proofs.YtkknglmpdmhhjaaGreatDoor.Uni

/-
  lex.leading.
-/
namespace Go.Proofs.YtkknglmpdmhhjaaGreatDoor.Lx
open Go.RowKit Go.Proofs.YtkknglmpdmhhjaaGreatDoor.Uni
set_option linter.unusedVariables false
set_option linter.unusedSimpArgs false

/-- A class that tells nothing apart beyond the first 128 code points. -/
def Flat (f : Nat → Bool) : Prop := ∀ p, 128 ≤ p → f p = f 128
theorem flat_white : Flat whiteN := fun p h => by simp [whiteN, endN]; omega
theorem flat_digit : Flat digitN := fun p h => by simp [digitN]; omega
theorem flat_lead : Flat leadN := fun p h => by simp [leadN]; omega
theorem flat_cont : Flat contN := fun p h => by simp [contN, flat_lead p h, flat_digit p h]
theorem flat_line : Flat lineN := fun p h => by simp [lineN]; omega
theorem run_high {q p : Nat} (hq : q < 128) (h : 128 ≤ p) : runN q p = true := by
  have h1 : p ≠ q := by omega
  have h2 : p ≠ 92 := by omega
  have h3 : p ≠ 10 := by omega
  have h4 : p ≠ 13 := by omega
  simp [runN, endN, h1, h2, h3, h4]
theorem flat_run {q : Nat} (hq : q < 128) : Flat (runN q) := fun p h => (run_high hq h).trans (run_high hq (Nat.le_refl _)).symm

/-- A class that a function value tells, without a trace. -/
structure Pred (N : Nat) (cap : Array Value) (f : Nat → Bool) (B : Nat) (w0 : World) : Prop where
  enter : ∀ (args : Array Value) (w : World), (callFunc N args).run Tryz.prog w = .ok (.enter N args) w
  call : ∀ (p : Nat) (w : World), Below B w0 w → Calls Tryz.prog N (#[.int .i32 (p : Int)] ++ cap) w fun e w' => e = .returned (.bool (f p)) ∧ w = w'

/-- All before a place is of the class. -/
def Led (f : Nat → Bool) (s : ByteArray) (i : Nat) : Prop := i ≤ s.size ∧ ∀ k, k < i → f (B s k) = true
theorem led_lead {f : Nat → Bool} {s : ByteArray} {i : Nat} (h : Led f s i) (hs : i = s.size ∨ f (B s i) = false) : lead f s.data.toList = s.data.toList.take i := by
  have e : s.data.toList = s.data.toList.take i ++ s.data.toList.drop i := (List.take_append_drop i _).symm
  have hz : s.data.toList.length = s.size := by simp
  have h1 : ∀ c ∈ s.data.toList.take i, f c.toNat = true := by
    intro c hc
    obtain ⟨k, hk, rfl⟩ := List.getElem_of_mem hc
    have hk2 : k < i := by simp at hk; omega
    have := h.2 k hk2
    unfold B at this
    rw [List.getElem?_eq_getElem (by have := h.1; omega)] at this
    simpa using this
  have h2 : s.data.toList.drop i = [] ∨ ∃ c r', s.data.toList.drop i = c :: r' ∧ f c.toNat = false := by
    by_cases hi : i < s.size
    · right
      refine ⟨s.data.toList[i]'(by omega), s.data.toList.drop (i + 1), List.drop_eq_getElem_cons (by omega), ?_⟩
      rcases hs with hs | hs
      · omega
      · unfold B at hs
        rw [List.getElem?_eq_getElem (by omega)] at hs
        simpa using hs
    · left
      exact List.drop_eq_nil_of_le (by omega)
  conv => lhs; rw [e]
  exact lead_app' f _ _ h1 h2
where lead_app' (f : Nat → Bool) : ∀ (m r : By), (∀ c ∈ m, f c.toNat = true) → (r = [] ∨ ∃ c r', r = c :: r' ∧ f c.toNat = false) → lead f (m ++ r) = m
  | [], r, _, h => by
    rcases h with rfl | ⟨c, r', rfl, h⟩
    · rfl
    · rw [List.nil_append, lead_cons, if_neg (by simp [h])]
  | a :: m, r, h, hr => by
    rw [List.cons_append, lead_cons, if_pos (h a (List.mem_cons_self ..)), lead_app' f m r (fun c hc => h c (List.mem_cons_of_mem _ hc)) hr]
theorem ext_take (s : ByteArray) (i : Nat) : s.extract 0 i = ⟨(s.data.toList.take i).toArray⟩ := by
  apply ByteArray.ext
  apply Array.toList_inj.1
  simp

/-- What is decoded at a place, its bytes all of the class if the code point is. -/
theorem dec_class {f : Nat → Bool} (hf : Flat f) (s : ByteArray) (i : Nat) (hi : i < s.size) :
    ((Utf8.decode s i).2 = 1 ∧ B s i < 128 ∧ (Utf8.decode s i).1 = B s i) ∨ (128 ≤ B s i ∧ 128 ≤ (Utf8.decode s i).1 ∧ 1 ≤ (Utf8.decode s i).2 ∧ i + (Utf8.decode s i).2 ≤ s.size ∧ ∀ k, i ≤ k → k < i + (Utf8.decode s i).2 → 128 ≤ B s k) := by
  have h0 := B_lt s i
  rw [dec_eq]
  by_cases h : B s i < 128
  · rw [if_pos h]
    exact .inl ⟨rfl, h, rfl⟩
  · right
    rw [if_neg h]
    refine ⟨by omega, ?_⟩
    have one : ∀ (c : Nat), 128 ≤ c → (128 ≤ ((c, 1) : Nat × Nat).1 ∧ 1 ≤ ((c, 1) : Nat × Nat).2 ∧ i + ((c, 1) : Nat × Nat).2 ≤ s.size ∧ ∀ k, i ≤ k → k < i + ((c, 1) : Nat × Nat).2 → 128 ≤ B s k) := by
      intro c hc
      refine ⟨hc, Nat.le_refl _, by simp; omega, ?_⟩
      intro k h1 h2
      obtain rfl : k = i := by simp at h2; omega
      omega
    split
    · rename_i h2
      split
      · rename_i h3
        refine ⟨h3, by simp, by simp; omega, ?_⟩
        intro k k1 k2
        rcases (by simp at k2; omega : k = i ∨ k = i + 1) with rfl | rfl <;> omega
      · exact one _ (by decide)
    · split
      · rename_i h2
        split
        · rename_i h3
          refine ⟨by simp; omega, by simp, by simp; omega, ?_⟩
          intro k k1 k2
          rcases (by simp at k2; omega : k = i ∨ k = i + 1 ∨ k = i + 2) with rfl | rfl | rfl <;> omega
        · exact one _ (by decide)
      · split
        · rename_i h2
          split
          · rename_i h3
            refine ⟨by simp; omega, by simp, by simp; omega, ?_⟩
            intro k k1 k2
            rcases (by simp at k2; omega : k = i ∨ k = i + 1 ∨ k = i + 2 ∨ k = i + 3) with rfl | rfl | rfl | rfl <;> omega
          · exact one _ (by decide)
        · exact one _ (by decide)
theorem led_step {f : Nat → Bool} (hf : Flat f) {s : ByteArray} {i : Nat} (h : Led f s i) (hi : i < s.size) (hc : f (Utf8.decode s i).1 = true) : Led f s (i + (Utf8.decode s i).2) := by
  rcases dec_class hf s i hi with ⟨h1, h2, h3⟩ | ⟨h1, h2, h3, h4, h5⟩
  · rw [h1]
    refine ⟨by omega, fun k hk => ?_⟩
    by_cases e : k = i
    · subst e; rw [← h3]; exact hc
    · exact h.2 k (by omega)
  · refine ⟨h4, fun k hk => ?_⟩
    by_cases e : k < i
    · exact h.2 k e
    · rw [hf _ (h5 k (by omega) hk), ← hf _ h2]; exact hc
theorem led_halt {f : Nat → Bool} (hf : Flat f) {s : ByteArray} {i : Nat} (hi : i < s.size) (hc : f (Utf8.decode s i).1 = false) : f (B s i) = false := by
  rcases dec_class hf s i hi with ⟨h1, h2, h3⟩ | ⟨h1, h2, h3, h4, h5⟩
  · rw [← h3]; exact hc
  · rw [hf _ h1, ← hf _ h2]; exact hc

def LInv2 (f : Nat → Bool) (s : ByteArray) (w0 : World) (wr : World) : Prop :=
  ∃ pos, Led f s pos ∧ wr.heap[w0.heap.size]? = some (.stringIter s pos) ∧ Below w0.heap.size w0 wr

set_option maxHeartbeats 1000000 in
theorem leading_any (N : Nat) (cap : Array Value) (f : Nat → Bool) (hf : Flat f) (s : ByteArray) (w : World) (hs : s.size ≤ 9223372036854775807) (V : Pred N cap f w.heap.size w) :
    Calls Tryz.prog 127 #[.string s, .func (.func N) #[] cap] w fun e w' => e = .returned (.string ⟨(lead f s.data.toList).toArray⟩) ∧ Below w.heap.size w w' := by
  have hcf := V.enter
  have HV := Lib.hid V
  clear V
  go_enter Tryz.func127, Tryz.ntmps127
  go_wp2
  go_loopw [] (fun wr => LInv2 f s w wr) (fun wr => s.size - wr.iterPos w.heap.size)
  case atStart => exact ⟨0, ⟨Nat.zero_le _, fun k hk => by omega⟩, World.iter_heap _ _ _, iter_below (Nat.le_refl _) s⟩
  case round =>
    obtain ⟨pos, hled, hit, hbel⟩ := hrel
    by_cases hp : pos < s.size
    · have hnx : ∀ ty, (Instr.next (.pointer (some ⟨w.heap.size, 0, none⟩)) true ty).run Tryz.prog wr = _ := fun ty => Lib.run_next_any_at wr w.heap.size s pos ty hit hp
      obtain ⟨r, n, hrn⟩ : ∃ r n, Utf8.decode s pos = (r, n) := ⟨_, _, rfl⟩
      have hcases := dec_class hf s pos hp
      rw [hrn] at hnx hcases
      have hh := Lib.iterAt_heap wr w.heap.size s pos (pos + n) hit
      have hb2 : Below w.heap.size w (wr.iterAt w.heap.size s (pos + n)) := Lib.below_iterAt hbel (Nat.le_refl _) s (pos + n)
      have hcall := HV.out.call r (wr.iterAt w.heap.size s (pos + n)) hb2
      have hn1 : 1 ≤ n := by simp only at hcases; omega
      have hsz : (pos : Int) ≤ s.size := by omega
      clear hcases
      cases hfr : f r with
      | true =>
        have hl2 := led_step hf hled hp (by rw [hrn]; exact hfr)
        rw [hrn] at hl2
        rw [hfr] at hcall
        have HL := Lib.hid hl2
        clear hl2 hrn hfr hled
        go_wp2_with (fail)
        refine hcall.mono ?_
        rintro e W1 ⟨rfl, rfl⟩
        go_wp2
        go_roundw
        case rel => exact ⟨_, HL.out, hh, hb2⟩
        case measure => simp only [World.iterPos, hh, hit]; omega
      | false =>
        have hno := led_halt hf hp (by rw [hrn]; exact hfr)
        have hfin := led_lead hled (.inr hno)
        rw [hfr] at hcall
        have HF := Lib.hid hfin
        clear hno hrn hfr hled hfin
        go_wp2_with (fail)
        refine hcall.mono ?_
        rintro e W1 ⟨rfl, rfl⟩
        go_wp2
        go_ret
        exact ⟨by rw [HF.out, ext_take]; rfl, hb2⟩
    · have hnx : ∀ ty, (Instr.next (.pointer (some ⟨w.heap.size, 0, none⟩)) true ty).run Tryz.prog wr = _ := fun ty => Lib.run_next_end_at wr w.heap.size s pos ty hit hp
      have hfin := led_lead hled (.inl (by have := hled.1; omega))
      have hall : s.data.toList.take pos = s.data.toList := List.take_of_length_le (by simp; omega)
      rw [hall] at hfin
      have HF := Lib.hid hfin
      clear hled hfin hall
      go_wp2
      go_ret
      exact ⟨by rw [HF.out]; rfl, hbel⟩
end Go.Proofs.YtkknglmpdmhhjaaGreatDoor.Lx
