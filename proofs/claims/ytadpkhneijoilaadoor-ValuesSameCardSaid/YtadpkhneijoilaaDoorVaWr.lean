/-
  values.isPlain, writeUnits and quoted.
-/
import Derived.Test.YtadpkhneijoilaaDoorVaQm
namespace Go.Proofs.YtadpkhneijoilaaDoor.Vals
open Go.RowKit Go.Proofs.YtadpkhneijoilaaDoor.Uni
set_option linter.unusedVariables false

theorem isPlain_yes (p : Nat) (w : World) (h : plainB p = true) :
    Calls Tryd.prog 54 #[.int .i32 p] w fun e w' => e = .returned (.bool true) ∧ w = w' := by
  have hp := plain_iff.1 h
  have h1 : (32 : Int) ≤ p := by omega
  have h2 : (p : Int) ≤ 126 := by omega
  have h3 : ((p : Int) != 34) = true := by simp; omega
  have h4 : ((p : Int) != 92) = true := by simp; omega
  clear hp h
  go_enter Tryd.func54, Tryd.ntmps54
  go_wp2
  go_ret
  exact ⟨rfl, rfl⟩
theorem isPlain_no (p : Nat) (w : World) (h : plainB p = false) :
    Calls Tryd.prog 54 #[.int .i32 p] w fun e w' => e = .returned (.bool false) ∧ w = w' := by
  have hp : p < 32 ∨ (32 ≤ p ∧ 126 < p) ∨ p = 34 ∨ p = 92 := by
    have := of_decide_eq_false h
    omega
  clear h
  rcases hp with h | h | rfl | rfl
  · have h1 : ¬ (32 : Int) ≤ p := by omega
    have h2 : (p : Int) ≤ 31 := by omega
    clear h
    go_enter Tryd.func54, Tryd.ntmps54
    go_wp2
    go_ret
    exact ⟨rfl, rfl⟩
  · have h1 : (32 : Int) ≤ p := by omega
    have h2 : ¬ (p : Int) ≤ 126 := by omega
    clear h
    go_enter Tryd.func54, Tryd.ntmps54
    go_wp2
    go_ret
    exact ⟨rfl, rfl⟩
  · go_enter Tryd.func54, Tryd.ntmps54
    go_wp2
    go_ret
    exact ⟨rfl, rfl⟩
  · go_enter Tryd.func54, Tryd.ntmps54
    go_wp2
    go_ret
    exact ⟨rfl, rfl⟩

/-- What one step of the range brings. -/
def Step (s : ByteArray) (done : List Nat) (pos : Nat) (p d n c g : Nat) : Prop :=
  Utf8.decode s pos = (p, d) ∧ 1 ≤ d ∧ p ≤ 1114111 ∧ Lib.runeLen (p : Int) = (n : Nat) ∧ 1 ≤ n ∧ pos + n ≤ s.size ∧ units (s.extract pos (pos + n)) = un c ∧ c ≤ 1114111 ∧ plainB c = plainB p ∧ (plainB p = true → p = c) ∧
    Went s (done ++ [c]) g (pos + n) (isHi c) ∧ Stand s (pos + d) (pos + n) (pos + n)
theorem step_key {s : ByteArray} {L done : List Nat} {f j pos sk : Nat} {ahb : Bool} (hL : pts s = some L) (hwent : Went s done f j ahb) (hst : Stand s pos j sk) (hp : pos < s.size) (hj : ¬ pos < j) :
    ∃ p d n c g, Step s done pos p d n c g := by
  have hcur := decode_cases s pos hp
  obtain rfl : pos = j := by have := hst.1; omega
  by_cases hd : Utf8.decode s pos = (65533, 1)
  · by_cases hsur : surB s pos = true
    · have hb3 := (surB_iff hsur).1
      have hbd := surV_bd hsur
      have hpt := pt_sur hsur
      have hpair : ¬ (ahb = true ∧ isLo (surV s pos) = true) := by
        rintro ⟨h1, h2⟩
        have := went_pair hwent hp h1 (by rw [hpt]; exact h2)
        rw [this] at hL
        cases hL
      obtain ⟨g, hw2⟩ := went_step hwent hp (by rw [hpt]; exact Nat.le_add_left 1 2) (by rw [hpt]; exact hb3) (by rw [hpt]; exact hpair)
      rw [hpt] at hw2
      obtain ⟨hd0, hd1, hd2⟩ := decode_sur hsur
      have hst2 : Stand s (pos + 1) (pos + 3) (pos + 3) := ⟨by omega, .inr ⟨rfl, hb3, fun q h1 h2 => by
        obtain rfl | rfl : q = pos + 1 ∨ q = pos + 2 := by omega
        · exact hd1
        · exact hd2⟩⟩
      have hc : surV s pos ≤ 1114111 := by omega
      exact ⟨65533, 1, 3, surV s pos, g, hd, Nat.le_refl _, by decide, by rfl, by decide, hb3, units_cut hp hpt (by decide) hc, hc, by rw [plain_big (by omega), plain_big (by decide)], (fun h => by rw [plain_big (by decide)] at h; cases h), hw2, hst2⟩
    · have hno : surB s pos = false := by simpa using hsur
      have := went_none hwent hp (by rw [pt_none hno hd])
      rw [this] at hL
      cases hL
  · obtain hcur := hcur.resolve_left hd
    have hpt := pt_dec hd
    obtain ⟨r, n, hrn⟩ : ∃ r n, Utf8.decode s pos = (r, n) := ⟨_, _, rfl⟩
    rw [hrn] at hcur hpt
    simp only at hcur
    obtain ⟨hn1, hn2, hn3, hr1, hr2, hr3⟩ := hcur
    have hlo : isLo r = false := by simp [isLo]; omega
    obtain ⟨g, hw2⟩ := went_step hwent hp (by rw [hpt]; exact hn1) (by rw [hpt]; exact hn2) (by rw [hpt, hlo]; simp)
    rw [hpt] at hw2
    have hpe := pt_enc hp (by rw [hpt]; simp only; omega)
    rw [hpt] at hpe
    simp only at hpe
    have hrl : Lib.runeLen (r : Int) = (n : Nat) := by rw [rlen hr1 hr2, hpe.1]
    exact ⟨r, n, n, r, g, hrn, hn1, hr1, hrl, hn1, hn2, units_cut hp hpt (by omega) hr1, hr1, rfl, fun _ => rfl, hw2, ⟨Nat.le_refl _, .inl ⟨rfl, Nat.le_refl _⟩⟩⟩

theorem bd_iterAt {w : World} {base b k pos : Nat} {bs : List Value} {s : ByteArray} (h : Bd base b bs w) (hk : w.heap[k]? = some (.stringIter s pos)) (pos' : Nat) : Bd base b bs (w.iterAt k s pos') := by
  obtain ⟨hB, v, hbk, hown, hne⟩ := h
  have hkb : k ≠ b := by
    rintro rfl
    rw [hk] at hbk
    cases hbk
  exact ⟨hB, v, by rw [Lib.iterAt_other w k b s pos' (by omega)]; exact hbk, own_iterAt hown hk pos', hne⟩
theorem own_keepW {w w' : World} {base e size n b : Nat} {v : Value} {xs : List Value} (h : w.ownsRow base e size v n xs) (hk : KeepW b w w') (he : e ≠ 5) (hb : b < base) : w'.ownsRow base e size v n xs := by
  refine ⟨h.1, ?_⟩
  rcases h.2 with hn | ⟨g, cap, cur, rfl, hbg, hg, rest⟩
  · exact .inl hn
  · exact .inr ⟨g, cap, cur, rfl, hbg, hk g _ hg (by omega) (fun cs fz e2 => by cases e2; exact he rfl), rest⟩

def WInv (s : ByteArray) (it base b : Nat) (l0 : List UInt8) (w0 : World) (nx : Value) (wr : World) : Prop :=
  ∃ done f j pos nx' ahb, nx = .int .i64 (nx' : Nat) ∧ wr.heap[it]? = some (.stringIter s pos) ∧ Bd base b (Lib.byteCells (l0 ++ qUs (uns done))) wr ∧ Below base w0 wr ∧ Went s done f j ahb ∧ Stand s pos j nx'

theorem byte_one (l : List UInt8) : ∀ v ∈ Lib.byteCells l, v.oneCell' = true := by
  intro v hv
  simp only [Lib.byteCells, List.mem_map] at hv
  obtain ⟨x, _, rfl⟩ := hv
  rfl

set_option maxRecDepth 100000 in
set_option maxHeartbeats 2000000 in
theorem writeUnits_any (base b : Nat) (l0 : List UInt8) (s : ByteArray) (L : List Nat) (w : World) (hL : pts s = some L) (hs : s.size ≤ 1000000) (hT : Lt w) (hg : 5 < base) (hI : Bd base b (Lib.byteCells l0) w) (h0 : 1 ≤ l0.length) (hl : l0.length ≤ 1000000) (hb : base ≤ w.heap.size) :
    Calls Tryd.prog 41 #[.pointer (some ⟨b, 0, none⟩), .string s] w fun e w' => e = .returned (.tuple #[]) ∧ Bd base b (Lib.byteCells (l0 ++ qUs (uns L))) w' ∧ Below base w w' := by
  have hbl := Lib.byteCells_length l0
  go_enter Tryd.func41, Tryd.ntmps41
  go_wp2_with (go_at_call 52; refine (Grow_used base b (s.size + 1) _ w hI (by omega) (byte_one _) (by omega) (by omega) hb).mono ?_)
  rintro e w1 ⟨rfl, hI1, hbel1, hk1⟩
  have hb1 := Nat.le_trans hb hbel1.size
  have hbit : b < w1.heap.size := by obtain ⟨_, _, _, h, _⟩ := bd_parts hI1; exact lt_of_block h
  have hst0 : WInv s w1.heap.size base b l0 w (.int .i64 0) (w1.iter s 0) := by
    refine ⟨[], s.size, 0, 0, 0, false, rfl, World.iter_heap _ _ _, ?_, hbel1.alloc hb1 _, went_start s, Nat.le_refl _, .inl ⟨rfl, Nat.le_refl _⟩⟩
    have e : l0 ++ qUs (uns []) = l0 := by simp [uns, qUs]
    rw [e]
    exact bd_keep hI1 ((Below.refl _ _).alloc (Nat.le_refl _) _)
  have HST := Lib.hid hst0
  have hit9 : w1.heap.size < w1.heap.size + 1 := Nat.lt_succ_self _
  have hHL := Lib.hid hL
  clear hst0 hI1 hI hbl hL hit9
  go_wp2
  go_loopw [4] (fun nx wr => WInv s w1.heap.size base b l0 w nx wr) (fun _ wr => s.size - wr.iterPos w1.heap.size)
  case atStart => exact HST.out
  case round =>
    obtain ⟨done, f, j, pos, sk, ahb, rfl, hit, hBd, hbel, hwent, hst⟩ := hrel
    by_cases hp : pos < s.size
    · have hnx : ∀ ty, (Instr.next (.pointer (some ⟨w1.heap.size, 0, none⟩)) true ty).run Tryd.prog wr = _ := fun ty => Lib.run_next_any_at wr w1.heap.size s pos ty hit hp
      have hjs := hwent.2.1
      have hdl := hwent.2.2.1
      by_cases hj : pos < j
      · obtain ⟨rfl, hq⟩ : sk = j ∧ Utf8.decode s pos = (65533, 1) := by
          rcases hst.2 with ⟨rfl, _⟩ | ⟨h1, _, h⟩
          · omega
          · exact ⟨h1, h pos (Nat.le_refl _) hj⟩
        have hlt : (pos : Int) < sk := by omega
        have hB2 := bd_iterAt hBd hit (pos + 1)
        have hh := Lib.iterAt_heap wr w1.heap.size s pos (pos + 1) hit
        have hm := Lib.below_iterAt hbel hb1 s (pos + 1)
        have hst2 : Stand s (pos + 1) sk sk := by
          refine ⟨by omega, ?_⟩
          by_cases e : pos + 1 = sk
          · exact .inl ⟨e, Nat.le_refl _⟩
          · exact .inr ⟨rfl, hjs, fun q h1 h2 => (hst.2.elim (fun x => by omega) (fun x => x.2.2 q (by omega) h2))⟩
        have HW := Lib.hid hwent
        clear hwent hst hBd hbel
        go_wp2
        go_roundw
        case rel => exact ⟨done, f, sk, pos + 1, sk, ahb, rfl, hh, hB2, hm, HW.out, hst2⟩
        case measure => simp only [World.iterPos, hh, hit]; omega
      · obtain ⟨p, d, n, c, g, hdec, hd1, hpm, hrl0, hn1, hns, hun, hcm, hpc, hpe, hw2, hst2⟩ := step_key hHL.out hwent hst hp hj
        have hrl : ∀ w, Calls Tryd.prog 53 #[.int .i32 p] w fun e w' => e = .returned (.int .i64 (n : Nat)) ∧ w = w' := fun w => (Tryd.utf8_RuneLen p w).mono fun e w' h => ⟨by rw [← hrl0]; exact h.1, h.2.symm⟩
        rw [hdec] at hnx
        have hB2 := bd_iterAt hBd hit (pos + d)
        have hh := Lib.iterAt_heap wr w1.heap.size s pos (pos + d) hit
        have hm := Lib.below_iterAt hbel hb1 s (pos + d)
        have hs2 : base ≤ (wr.iterAt w1.heap.size s (pos + d)).heap.size := Nat.le_trans hb hm.size
        have hlt : ¬ (pos : Int) < sk := by
          rcases hst.2 with ⟨h1, h2⟩ | ⟨h1, h2, h3⟩
          · omega
          · have := hst.1
            omega
        have hul := uns_le done
        have hql := qUs_len (uns done)
        have hlen : (Lib.byteCells (l0 ++ qUs (uns done))).length ≤ 100000000 := by rw [Lib.byteCells_length, List.length_append]; omega
        have hlen2 : (l0 ++ qUs (uns done)).length ≤ 50000000 := by rw [List.length_append]; omega
        have HW := Lib.hid hw2
        have HS2 := Lib.hid hst2
        have hsn : uns (done ++ [c]) = uns done ++ un c := uns_snoc done c
        obtain ⟨acc, hacc⟩ : ∃ acc, acc = l0 ++ qUs (uns done) := ⟨_, rfl⟩
        rw [← hacc] at hB2 hlen hlen2
        have hpi : (p : Int) ≤ 1114111 := by omega
        cases hpl : plainB p with
        | true =>
          obtain rfl := hpe hpl
          have hiv := fun w => isPlain_yes p w hpl
          have hrune := plain_rune hpl
          have hfin : Lib.byteCells acc ++ Lib.runeCells (p : Int) = Lib.byteCells (l0 ++ qUs (uns (done ++ [p]))) := by
            rw [hrune, hsn, qUs_append, un_plain hpl, ← List.append_assoc, ← hacc, Lib.byteCells_append]
          have HF := Lib.hid hfin
          clear hwent hst hBd hbel hfin hrune hpl hpe hpc hun hw2 hst2 hrl0 hsn hdec hacc hul hql
          go_wp2_with (first | (go_at_call 53; refine (hrl _).mono ?_; rintro e w' ⟨rfl, rfl⟩) | (go_at_call 54; refine (hiv _).mono ?_; rintro e w' ⟨rfl, rfl⟩) | (go_at_call 55; refine (writeRune_keep base b _ p _ hB2 (by omega) (by omega) (by omega) hs2).mono ?_))
          rintro e W1 ⟨⟨v, rfl⟩, hB3, hbel3, hk3⟩
          have hh1 : W1.heap[w1.heap.size]? = some (.stringIter s (pos + d)) := hk3 _ _ hh (by omega) (fun _ _ e => by cases e)
          rw [HF.out] at hB3
          have hbel4 := hm.trans hbel3
          clear hB2 hbel3 hk3 hm
          go_wp2
          go_roundw
          case rel => exact ⟨_, g, pos + n, pos + d, pos + n, _, by go_num, hh1, hB3, hbel4, HW.out, HS2.out⟩
          case measure => simp only [World.iterPos, hh1, hit]; omega
        | false =>
          have hpc2 : plainB c = false := by rw [hpc]; exact hpl
          have hiv := fun w => isPlain_no p w hpl
          obtain ⟨cut, hcut⟩ : ∃ cut, cut = s.extract pos (pos + n) := ⟨_, rfl⟩
          have hcs : cut.size ≤ 1000000 := by rw [hcut]; simp; omega
          obtain ⟨us, hus⟩ : ∃ us, us = un c := ⟨_, rfl⟩
          have hul2 : us.length ≤ 2 := by rw [hus, un_len]; split <;> omega
          have huse : ∀ u ∈ us, plainB u = false ∧ u < 65536 := by rw [hus]; exact fun u hu => ⟨un_esc hpc2 u hu, un_lt hcm u hu⟩
          have hof : Calls Tryd.prog 56 #[.string (s.extract pos (pos + n))] (wr.iterAt w1.heap.size s (pos + d)) fun e w' => ∃ v, e = .returned v ∧ w'.ownsRow (wr.iterAt w1.heap.size s (pos + d)).heap.size 54 1 v us.length (uc us) ∧ Below (wr.iterAt w1.heap.size s (pos + d)).heap.size (wr.iterAt w1.heap.size s (pos + d)) w' := by
            have h := of_any (s.extract pos (pos + n)) (wr.iterAt w1.heap.size s (pos + d)) (by rw [← hcut]; omega)
            refine h.mono ?_
            rintro e w' ⟨v, h1, h2, h3⟩
            rw [hun, ← hus] at h2
            exact ⟨v, h1, h2, h3⟩
          have hfin : acc ++ us.flatMap escL = l0 ++ qUs (uns (done ++ [c])) := by
            rw [hsn, qUs_append, ← List.append_assoc, ← hacc]
            congr 1
            rw [hus]
            unfold qUs
            have : ∀ l : List Nat, (∀ u ∈ l, plainB u = false) → l.flatMap escL = l.flatMap qU := by
              intro l hl
              induction l with
              | nil => rfl
              | cons a r ih =>
                rw [List.flatMap_cons, List.flatMap_cons, qU_esc (hl a (List.mem_cons_self ..)), ih (fun u hu => hl u (List.mem_cons_of_mem _ hu))]
            exact this _ (un_esc hpc2)
          have HF := Lib.hid hfin
          have HU := Lib.hid huse
          have hsz9 : w1.heap.size < (wr.iterAt w1.heap.size s (pos + d)).heap.size := lt_of_block hh
          have hb9 : b < (wr.iterAt w1.heap.size s (pos + d)).heap.size := by omega
          clear hwent hst hBd hbel hfin hpl hpe hpc hpc2 hun hw2 hst2 hrl0 hsn hdec hacc hul hql huse hus hcut hcs
          go_wp2_with (first | (go_at_call 53; refine (hrl _).mono ?_; rintro e w' ⟨rfl, rfl⟩) | (go_at_call 54; refine (hiv _).mono ?_; rintro e w' ⟨rfl, rfl⟩) | (go_at_call 56; refine hof.mono ?_))
          rintro e W1 ⟨v, rfl, hown, hbo⟩
          obtain ⟨ao, cp, rfl⟩ := own_shape hown
          have hB3 := bd_keep hB2 hbo
          have hh1 : W1.heap[w1.heap.size]? = some (.stringIter s (pos + d)) := (hbo.block _ hsz9).trans hh
          have hbel3 := hm.trans (hbo.mono hs2)
          have hs3 := Nat.le_trans hs2 hbo.size
          clear hof hB2 hbo hm hh hs2 hsz9
          go_wp2
          go_loopw [38] (fun i wx => ∃ k : Nat, i = .int .i64 (k : Nat) ∧ k ≤ us.length ∧ Bd base b (Lib.byteCells (acc ++ (us.take k).flatMap escL)) wx ∧ Below base w wx ∧ wx.ownsRow (wr.iterAt w1.heap.size s (pos + d)).heap.size 54 1 (.slice ao us.length cp) us.length (uc us) ∧ wx.heap[w1.heap.size]? = some (.stringIter s (pos + d))) (fun i _ => us.length - (intOf i).toNat)
          case atStart =>
            refine ⟨0, rfl, Nat.zero_le _, ?_, hbel3, hown, hh1⟩
            simpa using hB3
          case round =>
            obtain ⟨k, rfl, hk, hBx, hbelx, hownx, hhx⟩ := hrel
            by_cases hkl : k < us.length
            · have hkl2 : (k : Int) < us.length := by omega
              obtain ⟨u, hu⟩ : ∃ u, us[k]? = some u := ⟨us[k], by simp [hkl]⟩
              obtain ⟨gb, rfl, hcell⟩ := own_at hownx (k := k) (u := .int .u16 (u : Nat)) (by simp [uc, hu])
              have hu2 := (HU.out u (List.mem_of_getElem? hu)).2
              have hTx := hT.later hbelx hg
              have htk : us.take (k + 1) = us.take k ++ [u] := by rw [List.take_add_one, hu]; rfl
              have hfl : ((us.take k).flatMap escL).length ≤ 12 := by
                have : ∀ l : List Nat, (l.flatMap escL).length = 6 * l.length := by
                  intro l
                  induction l with
                  | nil => rfl
                  | cons a r ih => rw [List.flatMap_cons, List.length_append, ih, escL_len, List.length_cons]; omega
                rw [this, List.length_take]
                omega
              have hal : (acc ++ (us.take k).flatMap escL).length ≤ 100000000 := by rw [List.length_append]; omega
              have hnext : acc ++ (us.take (k + 1)).flatMap escL = acc ++ (us.take k).flatMap escL ++ escL u := by rw [htk]; simp
              have HN := Lib.hid hnext
              have hsx := Nat.le_trans hb hbelx.size
              clear hnext htk hfl hu
              go_wp2_with (go_at_call 57; refine (writeEscape_any base b _ u _ hu2 hTx hBx hal hsx).mono ?_)
              rintro e W2 ⟨rfl, hB4, hbel4, hk4⟩
              have hown4 := own_keepW hownx hk4 (by decide) hb9
              have hh4 : W2.heap[w1.heap.size]? = some (.stringIter s (pos + d)) := hk4 _ _ hhx (by omega) (fun _ _ e => by cases e)
              have hbel5 := hbelx.trans hbel4
              rw [← HN.out] at hB4
              clear hBx hbelx hownx hhx hbel4 hk4
              go_wp2
              go_roundw
              case rel => exact ⟨k + 1, by go_num, by omega, hB4, hbel5, hown4, hh4⟩
              case measure => simp [intOf]; omega
            · obtain rfl : k = us.length := by omega
              rw [List.take_length, HF.out] at hBx
              go_wp2
              go_roundw
              case rel => exact ⟨_, g, pos + n, pos + d, pos + n, _, by go_num, hhx, hBx, hbelx, HW.out, HS2.out⟩
              case measure => simp only [World.iterPos, hhx, hit]; omega
    · have hnx : ∀ ty, (Instr.next (.pointer (some ⟨w1.heap.size, 0, none⟩)) true ty).run Tryd.prog wr = _ := fun ty => Lib.run_next_end_at wr w1.heap.size s pos ty hit hp
      have hpts : pts s = some done := by
        refine went_end hwent ?_
        rcases hst.2 with ⟨rfl, _⟩ | ⟨_, _, h⟩
        · exact hp
        · have := hwent.2.1; have := hst.1; omega
      have hLd : L = done := by have := hHL.out; rw [hpts] at this; cases this; rfl
      subst hLd
      clear hwent hst hpts
      go_wp2
      go_end0
      exact ⟨rfl, hBd, hbel⟩
end Go.Proofs.YtadpkhneijoilaaDoor.Vals
