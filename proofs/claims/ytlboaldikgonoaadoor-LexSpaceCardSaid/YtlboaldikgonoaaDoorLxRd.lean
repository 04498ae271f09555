/-
  The reader: its block, reader.rest, reader.skip.
-/
import Derived.Test.YtlboaldikgonoaaDoorLxGap
namespace Go.Proofs.YtlboaldikgonoaaDoor.Lx
open Go.RowKit Go.Proofs.YtlboaldikgonoaaDoor.Uni
set_option linter.unusedVariables false
set_option linter.unusedSimpArgs false

/-- A reader's block: its text and where it stands. -/
def Rd (w : World) (g : Nat) (t : ByteArray) (a : Nat) : Prop := w.heap[g]? = some (.cells #[.string t, .int .i64 (a : Int)] 41 (0, 0))
theorem Rd.c0 {w : World} {g : Nat} {t : ByteArray} {a : Nat} (h : Rd w g t a) : w.cell? ⟨g, 0, none⟩ = some (.string t) := by unfold Rd at h; simp [World.cell?, h]
theorem Rd.c1 {w : World} {g : Nat} {t : ByteArray} {a : Nat} (h : Rd w g t a) : w.cell? ⟨g, 1, none⟩ = some (.int .i64 (a : Int)) := by unfold Rd at h; simp [World.cell?, h]
theorem Rd.f1 {w : World} {g : Nat} {t : ByteArray} {a : Nat} (h : Rd w g t a) : w.frozen? ⟨g, 1, none⟩ = false := by unfold Rd at h; simp [World.frozen?, h]
theorem Rd.lt {w : World} {g : Nat} {t : ByteArray} {a : Nat} (h : Rd w g t a) : g < w.heap.size := lt_of_block h
theorem Rd.set {w : World} {g : Nat} {t : ByteArray} {a : Nat} (h : Rd w g t a) {n : Int} {b : Nat} (e : n = (b : Int)) : Rd (w.setCell ⟨g, 1, none⟩ (.int .i64 n)) g t b := by
  subst e
  unfold Rd at h ⊢
  simp [World.setCell, Array.getElem?_modify, h]
theorem Rd.below {w w' : World} {g : Nat} {t : ByteArray} {a : Nat} (h : Rd w g t a) (hb : Below w.heap.size w w') : Rd w' g t a := (hb.block g h.lt).trans h
theorem Rd.drew {w : World} {g : Nat} {t : ByteArray} {a : Nat} (h : Rd w g t a) (n : Nat) : Rd (w.drewN n) g t a := h

/-- Every old block but one stays. -/
def GB (g : Nat) (w w' : World) : Prop := w.grownBy w' (some g)
theorem GB.refl (g : Nat) (w : World) : GB g w w := ⟨rfl, rfl, rfl, Nat.le_refl _, fun _ _ _ => rfl⟩
theorem GB.trans {g : Nat} {a b c : World} (h : GB g a b) (k : GB g b c) : GB g a c := ⟨k.os.trans h.os, k.tape.trans h.tape, k.output.trans h.output, Nat.le_trans h.size k.size, fun i hi hn => (k.block i (Nat.lt_of_lt_of_le hi h.size) hn).trans (h.block i hi hn)⟩
theorem GB.of {g : Nat} {w w' : World} (h : Below w.heap.size w w') : GB g w w' := ⟨h.os, h.tape, h.output, h.size, fun k hk _ => h.block k hk⟩
theorem GB.set {g : Nat} (w : World) (o : Nat) (u : Value) : GB g w (w.setCell ⟨g, o, none⟩ u) := ⟨rfl, rfl, rfl, by simp [World.setCell], fun k _ hk => Below.heap_setCell _ _ _ _ (fun e => hk (by simp [e]))⟩
theorem GB.drew {g : Nat} {w w' : World} (h : GB g w w') (n : Nat) : GB g w (w'.drewN n) := h.trans (GB.of (below_drewN (Below.refl _ _) n))
theorem GB.below {g B : Nat} {w0 w w' : World} (h : Below B w0 w) (k : GB g w w') (hB : B ≤ w.heap.size) (hg : B ≤ g) : Below B w0 w' := h.grown k hB (fun k hk => by cases hk; exact hg)
theorem GB.ml {g : Nat} {w w' : World} {t : ByteArray} {a : Nat} (k : GB g w w') (hr : Rd w g t a) (h : Ml w) : Ml w' := by
  obtain ⟨m, hm⟩ := h
  refine ⟨m, ?_⟩
  have hlt := World.block_lt_of_cell? w _ hm
  have hne : 1 ≠ g := by
    rintro rfl
    have := hr.c0
    rw [hm] at this
    cases this
  rw [World.cell?_of_block (w := w) (k.block _ hlt (by simpa using hne))]
  exact hm

theorem rest_any (g : Nat) (t : ByteArray) (a : Nat) (w : World) (hr : Rd w g t a) (ha : a ≤ t.size) (ht : t.size ≤ 1000000) :
    Calls Tryd.prog 27 #[.pointer (some ⟨g, 0, none⟩)] w fun e w' => e = .returned (.string (bs (t.data.toList.drop a))) ∧ ∃ n, w' = w.drewN n := by
  have c0 := hr.c0
  have c1 := hr.c1
  have hai : (a : Int) ≤ t.size := by omega
  have he := ext_bs t a
  clear hr
  go_enter Tryd.func27, Tryd.ntmps27
  go_wp2
  go_quiet (fail)
  go_wp2
  go_ret
  exact ⟨by rw [← he]; rfl, _, rfl⟩

/-- What a method that reads on leaves: the reader stands at b. -/
def On (g : Nat) (t : ByteArray) (b : Nat) (w w' : World) : Prop := b ≤ t.size ∧ Rd w' g t b ∧ GB g w w'

def SInv (g : Nat) (t : ByteArray) (a : Nat) (w wr : World) : Prop :=
  ∃ b f, On g t b w wr ∧ skipL (t.data.toList.drop a) = skipF f (t.data.toList.drop b) ∧ t.size ≤ b + f
def posOf (g : Nat) (w : World) : Nat := (intOf ((w.cell? ⟨g, 1, none⟩).getD undef)).toNat
theorem Rd.pos {w : World} {g : Nat} {t : ByteArray} {a : Nat} (h : Rd w g t a) : posOf g w = a := by unfold posOf; rw [h.c1]; simp [intOf]

set_option maxHeartbeats 1000000 in
theorem skip_any (g : Nat) (t : ByteArray) (a : Nat) (w : World) (hr : Rd w g t a) (ha : a ≤ t.size) (ht : t.size ≤ 1000000) (hm : Ml w) :
    Calls Tryd.prog 26 #[.pointer (some ⟨g, 0, none⟩)] w fun e w' => e = .returned (.bool (skipL (t.data.toList.drop a)).1) ∧ ∃ b, (skipL (t.data.toList.drop a)).2 = t.data.toList.drop b ∧ On g t b w w' := by
  have hstart : SInv g t a w w := ⟨a, (t.data.toList.drop a).length, ⟨ha, hr, GB.refl _ _⟩, rfl, by rw [List.length_drop, lsz]; omega⟩
  have HS := Lib.hid hstart
  have HR := Lib.hid hr
  clear hstart hr
  go_enter Tryd.func26, Tryd.ntmps26
  go_wp2
  go_loopw [] (fun wr => SInv g t a w wr) (fun wr => t.size - posOf g wr)
  case atStart => exact HS.out
  case round =>
    obtain ⟨b, f, ⟨hb, hrd, hgb⟩, hsk, hfu⟩ := hrel
    have hmr := hgb.ml HR.out hm
    have hpos := hrd.pos
    obtain ⟨l, hl⟩ : ∃ l, t.data.toList.drop b = l := ⟨_, rfl⟩
    have hlen : l.length = t.size - b := by rw [← hl, List.length_drop, lsz]
    have hrest := rest_any g t b wr hrd hb ht
    rw [hl] at hrest hsk
    have hgap := fun w hm => gap_any (bs l) w (by rw [bs_size]; omega) hm
    rw [bs_list] at hgap
    have HM : Hid (Ml wr) := Lib.hid hmr
    have HB := Lib.hid hgb
    have HL := Lib.hid hl
    have HK := Lib.hid hsk
    have HD := Lib.hid hrd
    clear hgb hmr hl hsk hm
    cases hg : gapN l with
    | none =>
      rw [hg] at hgap
      have hfin : skipL (t.data.toList.drop a) = (false, l) := by
        rw [HK.out]
        cases f with
        | zero =>
          have : l = [] := List.length_eq_zero_iff.1 (by omega)
          subst this
          cases hg
        | succ f => exact skipF_bad f hg
      have HF := Lib.hid hfin
      clear hfin hg hrd
      go_wp2_with (first | (go_at_call 27; refine hrest.mono ?_; rintro e w1 ⟨rfl, n1, rfl⟩) | (go_at_call 36; refine (hgap _ (HM.out.below (below_drewN (Below.refl _ _) n1))).mono ?_; rintro e w2 ⟨rfl, hb2⟩))
      go_ret
      exact ⟨by rw [HF.out]; rfl, b, by rw [HF.out, HL.out], hb, HD.out.below ((below_drewN (Below.refl _ _) n1).trans hb2), HB.out.trans (GB.of ((below_drewN (Below.refl _ _) n1).trans hb2))⟩
    | some n =>
      rw [hg] at hgap
      cases n with
      | zero =>
        have hfin : skipL (t.data.toList.drop a) = (true, l) := by
          rw [HK.out]
          exact skipF_zero f hg
        have HF := Lib.hid hfin
        clear hfin hg hrd
        go_wp2_with (first | (go_at_call 27; refine hrest.mono ?_; rintro e w1 ⟨rfl, n1, rfl⟩) | (go_at_call 36; refine (hgap _ (HM.out.below (below_drewN (Below.refl _ _) n1))).mono ?_; rintro e w2 ⟨rfl, hb2⟩))
        go_ret
        exact ⟨by rw [HF.out]; rfl, b, by rw [HF.out, HL.out], hb, HD.out.below ((below_drewN (Below.refl _ _) n1).trans hb2), HB.out.trans (GB.of ((below_drewN (Below.refl _ _) n1).trans hb2))⟩
      | succ n =>
        have hn : n + 1 ≤ l.length := by
          rcases gap_cases l with hs | ⟨c, r, rfl, hc⟩ | ⟨m, r, rfl, hm, hr⟩ | ⟨m, r, rfl, hm⟩ | ⟨r, rfl, hr⟩
          · rw [gap_stop hs] at hg; cases hg
          · rw [gap_white hc] at hg; cases hg; have := lead_len whiteN r; simp only [List.length_cons]; omega
          · rw [gap_line hm hr] at hg; cases hg; simp only [List.length_cons, List.length_append]; omega
          · rw [gap_block hm] at hg; cases hg; simp only [List.length_cons, List.length_append]; omega
          · rw [gap_bad hr] at hg; cases hg
        obtain ⟨f', rfl⟩ : ∃ f', f = f' + 1 := ⟨f - 1, by omega⟩
        have hstep : skipL (t.data.toList.drop a) = skipF f' (t.data.toList.drop (b + (n + 1))) := by
          rw [HK.out, skipF_more f' n hg, ← HL.out, List.drop_drop]
        have HF := Lib.hid hstep
        have hbn : b + (n + 1) ≤ t.size := by omega
        have hne : (((n + 1 : Nat) : Int) == 0) = false := by simp; omega
        obtain ⟨k, hk⟩ : ∃ k, k = n + 1 := ⟨_, rfl⟩
        rw [← hk] at hgap hne hbn HF
        simp only [Option.getD_some, Option.isSome_some] at hgap
        have c1 := hrd.c1
        have hbi : (b : Int) ≤ 1000000 := by omega
        have hki : (k : Int) ≤ 1000000 := by omega
        have fz := hrd.f1
        have HKK := Lib.hid hk
        clear hk hstep hg hrd hn
        go_wp2_with (first | (go_at_call 27; refine hrest.mono ?_; rintro e w1 ⟨rfl, n1, rfl⟩) | (go_at_call 36; refine (hgap _ (HM.out.below (below_drewN (Below.refl _ _) n1))).mono ?_; rintro e w2 ⟨rfl, hb2⟩; have c2 := (HD.out.below ((below_drewN (Below.refl _ _) n1).trans hb2)).c1; have f2 := (HD.out.below ((below_drewN (Below.refl _ _) n1).trans hb2)).f1))
        have hd2 := (HD.out.below ((below_drewN (Below.refl _ _) n1).trans hb2)).set (n := (b : Int) + (k : Int)) (b := b + k) (by omega)
        go_roundw
        case rel => exact ⟨b + k, f', ⟨hbn, hd2, (HB.out.trans (GB.of ((below_drewN (Below.refl _ _) n1).trans hb2))).trans (GB.set _ _ _)⟩, HF.out, by have := HKK.out; omega⟩
        case measure => rw [hd2.pos, hpos]; have := HKK.out; omega
end Go.Proofs.YtlboaldikgonoaaDoor.Lx
