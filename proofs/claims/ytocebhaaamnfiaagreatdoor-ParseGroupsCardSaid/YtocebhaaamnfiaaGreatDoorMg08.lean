/-
  Texts of this seat in build order: LxRd, NmSmall, Latoi, NmText.
-/
import Derived.Test.YtocebhaaamnfiaaGreatDoorMg07
import Derived.Test.YtocebhaaamnfiaaGreatDoorProg
import Derived.Test.YtocebhaaamnfiaaGreatDoorMg00
import Derived.WalkKit
import Derived.WalkSpells
import Derived.WalkLawsBesides
import Derived.RegionTactic
import Derived.ChangeAlike
import Derived.Deep.QuietTactic
import Derived.BigQuiet
import Derived.Lib.Hide
import Derived.Shelf.LaysC
import Derived.Shelf.Strconv.ErrVarAll
import Derived.Below
import Derived.KernelRfl
import Derived.Test.YtocebhaaamnfiaaGreatDoorMg03
import Derived.Lib.AppendIntMem
/-
  The reader: its block, reader.rest, reader.skip.
-/
namespace Go.Proofs.YtocebhaaamnfiaaGreatDoor.Lx
open Go.RowKit Go.Proofs.YtocebhaaamnfiaaGreatDoor.Uni
set_option linter.unusedVariables false
set_option linter.unusedSimpArgs false

/-- A reader's block: its text and where it stands. -/
def Rd (w : World) (g : Nat) (t : ByteArray) (a : Nat) : Prop := w.heap[g]? = some (.cells #[.string t, .int .i64 (a : Int)] 52 (0, 0))
theorem Rd.c0 {w : World} {g : Nat} {t : ByteArray} {a : Nat} (h : Rd w g t a) : w.cell? ⟨g, 0, none⟩ = some (.string t) := by unfold Rd at h; simp [World.cell?, h]
theorem Rd.c1 {w : World} {g : Nat} {t : ByteArray} {a : Nat} (h : Rd w g t a) : w.cell? ⟨g, 1, none⟩ = some (.int .i64 (a : Int)) := by unfold Rd at h; simp [World.cell?, h]
theorem Rd.f1 {w : World} {g : Nat} {t : ByteArray} {a : Nat} (h : Rd w g t a) : w.frozen? ⟨g, 1, none⟩ = false := by unfold Rd at h; simp [World.frozen?, h]
theorem Rd.lt {w : World} {g : Nat} {t : ByteArray} {a : Nat} (h : Rd w g t a) : g < w.heap.size := lt_of_block h
theorem Rd.set {w : World} {g : Nat} {t : ByteArray} {a : Nat} (h : Rd w g t a) {n : Int} {b : Nat} (e : n = (b : Int)) : Rd (w.setCell ⟨g, 1, none⟩ (.int .i64 n)) g t b := by
  subst e
  unfold Rd at h ⊢
  simp [World.setCell, Array.getElem?_modify, h]
theorem Rd.below {w w' : World} {g : Nat} {t : ByteArray} {a : Nat} (h : Rd w g t a) (hb : Below w.heap.size w w') : Rd w' g t a := (hb.block g h.lt).trans h
theorem Rd.drew {w : World} {g : Nat} {t : ByteArray} {a : Nat} (h : Rd w g t a) (n : Nat) : Rd (w.drewN n) g t a := h

/-- Every old block but one stays. -/
def GB (g : Nat) (w w' : World) : Prop := w.grownBy w' (some g)
theorem GB.refl (g : Nat) (w : World) : GB g w w := ⟨rfl, rfl, rfl, Nat.le_refl _, fun _ _ _ => rfl⟩
theorem GB.trans {g : Nat} {a b c : World} (h : GB g a b) (k : GB g b c) : GB g a c := ⟨k.os.trans h.os, k.tape.trans h.tape, k.output.trans h.output, Nat.le_trans h.size k.size, fun i hi hn => (k.block i (Nat.lt_of_lt_of_le hi h.size) hn).trans (h.block i hi hn)⟩
theorem GB.of {g : Nat} {w w' : World} (h : Below w.heap.size w w') : GB g w w' := ⟨h.os, h.tape, h.output, h.size, fun k hk _ => h.block k hk⟩
theorem GB.set {g : Nat} (w : World) (o : Nat) (u : Value) : GB g w (w.setCell ⟨g, o, none⟩ u) := ⟨rfl, rfl, rfl, by simp [World.setCell], fun k _ hk => Below.heap_setCell _ _ _ _ (fun e => hk (by simp [e]))⟩
theorem GB.drew {g : Nat} {w w' : World} (h : GB g w w') (n : Nat) : GB g w (w'.drewN n) := h.trans (GB.of (below_drewN (Below.refl _ _) n))
theorem GB.below {g B : Nat} {w0 w w' : World} (h : Below B w0 w) (k : GB g w w') (hB : B ≤ w.heap.size) (hg : B ≤ g) : Below B w0 w' := h.grown k hB (fun k hk => by cases hk; exact hg)
theorem GB.ml {g : Nat} {w w' : World} {t : ByteArray} {a : Nat} (k : GB g w w') (hr : Rd w g t a) (h : Ml w) : Ml w' := by
  obtain ⟨m, hm⟩ := h
  refine ⟨m, ?_⟩
  have hlt := World.block_lt_of_cell? w _ hm
  have hne : 2 ≠ g := by
    rintro rfl
    have := hr.c0
    rw [hm] at this
    cases this
  rw [World.cell?_of_block (w := w) (k.block _ hlt (by simpa using hne))]
  exact hm

theorem rest_any (g : Nat) (t : ByteArray) (a : Nat) (w : World) (hr : Rd w g t a) (ha : a ≤ t.size) (ht : t.size ≤ 1000000) :
    Calls Tryz.prog 29 #[.pointer (some ⟨g, 0, none⟩)] w fun e w' => e = .returned (.string (bs (t.data.toList.drop a))) ∧ ∃ n, w' = w.drewN n := by
  have c0 := hr.c0
  have c1 := hr.c1
  have hai : (a : Int) ≤ t.size := by omega
  have he := ext_bs t a
  clear hr
  go_enter Tryz.func29, Tryz.ntmps29
  go_wp2
  go_quiet (fail)
  go_wp2
  go_ret
  exact ⟨by rw [← he]; rfl, _, rfl⟩

/-- What a method that reads on leaves: the reader stands at b. -/
def On (g : Nat) (t : ByteArray) (b : Nat) (w w' : World) : Prop := b ≤ t.size ∧ Rd w' g t b ∧ GB g w w'

def SInv (g : Nat) (t : ByteArray) (a : Nat) (w wr : World) : Prop :=
  ∃ b f, On g t b w wr ∧ skipL (t.data.toList.drop a) = skipF f (t.data.toList.drop b) ∧ t.size ≤ b + f
def posOf (g : Nat) (w : World) : Nat := (intOf ((w.cell? ⟨g, 1, none⟩).getD undef)).toNat
theorem Rd.pos {w : World} {g : Nat} {t : ByteArray} {a : Nat} (h : Rd w g t a) : posOf g w = a := by unfold posOf; rw [h.c1]; simp [intOf]

set_option maxHeartbeats 1000000 in
theorem skip_any (g : Nat) (t : ByteArray) (a : Nat) (w : World) (hr : Rd w g t a) (ha : a ≤ t.size) (ht : t.size ≤ 1000000) (hm : Ml w) :
    Calls Tryz.prog 28 #[.pointer (some ⟨g, 0, none⟩)] w fun e w' => e = .returned (.bool (skipL (t.data.toList.drop a)).1) ∧ ∃ b, (skipL (t.data.toList.drop a)).2 = t.data.toList.drop b ∧ On g t b w w' := by
  have hstart : SInv g t a w w := ⟨a, (t.data.toList.drop a).length, ⟨ha, hr, GB.refl _ _⟩, rfl, by rw [List.length_drop, lsz]; omega⟩
  have HS := Lib.hid hstart
  have HR := Lib.hid hr
  clear hstart hr
  go_enter Tryz.func28, Tryz.ntmps28
  go_wp2
  go_loopw [] (fun wr => SInv g t a w wr) (fun wr => t.size - posOf g wr)
  case atStart => exact HS.out
  case round =>
    obtain ⟨b, f, ⟨hb, hrd, hgb⟩, hsk, hfu⟩ := hrel
    have hmr := hgb.ml HR.out hm
    have hpos := hrd.pos
    obtain ⟨l, hl⟩ : ∃ l, t.data.toList.drop b = l := ⟨_, rfl⟩
    have hlen : l.length = t.size - b := by rw [← hl, List.length_drop, lsz]
    have hrest := rest_any g t b wr hrd hb ht
    rw [hl] at hrest hsk
    have hgap := fun w hm => gap_any (bs l) w (by rw [bs_size]; omega) hm
    rw [bs_list] at hgap
    have HM : Hid (Ml wr) := Lib.hid hmr
    have HB := Lib.hid hgb
    have HL := Lib.hid hl
    have HK := Lib.hid hsk
    have HD := Lib.hid hrd
    clear hgb hmr hl hsk hm
    cases hg : gapN l with
    | none =>
      rw [hg] at hgap
      have hfin : skipL (t.data.toList.drop a) = (false, l) := by
        rw [HK.out]
        cases f with
        | zero =>
          have : l = [] := List.length_eq_zero_iff.1 (by omega)
          subst this
          cases hg
        | succ f => exact skipF_bad f hg
      have HF := Lib.hid hfin
      clear hfin hg hrd
      go_wp2_with (first | (go_at_call 29; refine hrest.mono ?_; rintro e w1 ⟨rfl, n1, rfl⟩) | (go_at_call 56; refine (hgap _ (HM.out.below (below_drewN (Below.refl _ _) n1))).mono ?_; rintro e w2 ⟨rfl, hb2⟩))
      go_ret
      exact ⟨by rw [HF.out]; rfl, b, by rw [HF.out, HL.out], hb, HD.out.below ((below_drewN (Below.refl _ _) n1).trans hb2), HB.out.trans (GB.of ((below_drewN (Below.refl _ _) n1).trans hb2))⟩
    | some n =>
      rw [hg] at hgap
      cases n with
      | zero =>
        have hfin : skipL (t.data.toList.drop a) = (true, l) := by
          rw [HK.out]
          exact skipF_zero f hg
        have HF := Lib.hid hfin
        clear hfin hg hrd
        go_wp2_with (first | (go_at_call 29; refine hrest.mono ?_; rintro e w1 ⟨rfl, n1, rfl⟩) | (go_at_call 56; refine (hgap _ (HM.out.below (below_drewN (Below.refl _ _) n1))).mono ?_; rintro e w2 ⟨rfl, hb2⟩))
        go_ret
        exact ⟨by rw [HF.out]; rfl, b, by rw [HF.out, HL.out], hb, HD.out.below ((below_drewN (Below.refl _ _) n1).trans hb2), HB.out.trans (GB.of ((below_drewN (Below.refl _ _) n1).trans hb2))⟩
      | succ n =>
        have hn : n + 1 ≤ l.length := by
          rcases gap_cases l with hs | ⟨c, r, rfl, hc⟩ | ⟨m, r, rfl, hm, hr⟩ | ⟨m, r, rfl, hm⟩ | ⟨r, rfl, hr⟩
          · rw [gap_stop hs] at hg; cases hg
          · rw [gap_white hc] at hg; cases hg; have := lead_len whiteN r; simp only [List.length_cons]; omega
          · rw [gap_line hm hr] at hg; cases hg; simp only [List.length_cons, List.length_append]; omega
          · rw [gap_block hm] at hg; cases hg; simp only [List.length_cons, List.length_append]; omega
          · rw [gap_bad hr] at hg; cases hg
        obtain ⟨f', rfl⟩ : ∃ f', f = f' + 1 := ⟨f - 1, by omega⟩
        have hstep : skipL (t.data.toList.drop a) = skipF f' (t.data.toList.drop (b + (n + 1))) := by
          rw [HK.out, skipF_more f' n hg, ← HL.out, List.drop_drop]
        have HF := Lib.hid hstep
        have hbn : b + (n + 1) ≤ t.size := by omega
        have hne : (((n + 1 : Nat) : Int) == 0) = false := by simp; omega
        obtain ⟨k, hk⟩ : ∃ k, k = n + 1 := ⟨_, rfl⟩
        rw [← hk] at hgap hne hbn HF
        simp only [Option.getD_some, Option.isSome_some] at hgap
        have c1 := hrd.c1
        have hbi : (b : Int) ≤ 1000000 := by omega
        have hki : (k : Int) ≤ 1000000 := by omega
        have fz := hrd.f1
        have HKK := Lib.hid hk
        clear hk hstep hg hrd hn
        go_wp2_with (first | (go_at_call 29; refine hrest.mono ?_; rintro e w1 ⟨rfl, n1, rfl⟩) | (go_at_call 56; refine (hgap _ (HM.out.below (below_drewN (Below.refl _ _) n1))).mono ?_; rintro e w2 ⟨rfl, hb2⟩; have c2 := (HD.out.below ((below_drewN (Below.refl _ _) n1).trans hb2)).c1; have f2 := (HD.out.below ((below_drewN (Below.refl _ _) n1).trans hb2)).f1))
        have hd2 := (HD.out.below ((below_drewN (Below.refl _ _) n1).trans hb2)).set (n := (b : Int) + (k : Int)) (b := b + k) (by omega)
        go_roundw
        case rel => exact ⟨b + k, f', ⟨hbn, hd2, (HB.out.trans (GB.of ((below_drewN (Below.refl _ _) n1).trans hb2))).trans (GB.set _ _ _)⟩, HF.out, by have := HKK.out; omega⟩
        case measure => rw [hd2.pos, hpos]; have := HKK.out; omega
end Go.Proofs.YtocebhaaamnfiaaGreatDoor.Lx

/-
  The small functions of package numbers and their counterparts: what each call gives.
-/
namespace Go.Proofs.YtocebhaaamnfiaaGreatDoor.Nums
open Go.RowKit
set_option linter.unusedVariables false

theorem ret_b {a b : Bool} (h : a = b) : Ending.returned (.bool a) = Ending.returned (.bool b) := by rw [h]
theorem ret_ib {k : IntKind} {a b : Int} {c d : Bool} (h : a = b) (g : c = d) : Ending.returned (.tuple #[.int k a, .bool c]) = Ending.returned (.tuple #[.int k b, .bool d]) := by rw [h, g]

/-- What a result of two parts is: the number and true, or 0 and false. -/
def two (r : Option Int) : Ending := .returned (.tuple #[.int .i64 (r.getD 0), .bool r.isSome])
theorem two_some (n : Int) : Ending.returned (.tuple #[.int .i64 n, .bool true]) = two (some n) := rfl
theorem two_none : Ending.returned (.tuple #[.int .i64 0, .bool false]) = two none := rfl
theorem two_wrap {n : Int} (h : wrap64 n = n) : Ending.returned (.tuple #[.int .i64 (wrap64 n), .bool true]) = two (some n) := by rw [h]; rfl

theorem safe_any (n : Int) (w : World) :
    Calls Tryz.prog 86 #[.int .i64 n] w fun e w' => e = .returned (.bool (sf n)) ∧ w = w' := by
  by_cases h : -9007199254740991 ≤ n
  · by_cases h2 : n ≤ 9007199254740991
    · rw [sf_mk h h2]
      go_enter Tryz.func86, Tryz.ntmps86
      go_wp2
      go_ret
      exact ⟨rfl, rfl⟩
    · rw [sf_no (by omega)]
      go_enter Tryz.func86, Tryz.ntmps86
      go_wp2
      go_ret
      exact ⟨rfl, rfl⟩
  · rw [sf_no (by omega)]
    go_enter Tryz.func86, Tryz.ntmps86
    go_wp2
    go_ret
    exact ⟨rfl, rfl⟩

end Go.Proofs.YtocebhaaamnfiaaGreatDoor.Nums

/-
  Contracts of library functions at this program: each is one application of a theorem of the library.
-/
namespace Go.Proofs
open Go.Shelf
def Tryz.laysC172_ren : Go.Shelf.Ren := ⟨fun | 172 => 85 | 244 => 105 | 245 => 106 | 247 => 117 | 279 => 118 | 280 => 119 | 281 => 120 | 282 => 121 | 287 => 109 | 316 => 136 | 171 => 107 | 205 => 137 | 321 => 123 | 322 => 124 | 243 => 122 | 246 => 138 | 283 => 144 | 284 => 145 | 285 => 146 | 286 => 147 | 129 => 152 | 317 => 151 | 318 => 153 | 319 => 154 | 320 => 155 | 337 => 159 | 338 => 160 | n => n, fun | 9 => 9 | 3 => 3 | 75 => 88 | 76 => 89 | 4 => 4 | 5 => 5 | 167 => 116 | 37 => 22 | 0 => 0 | 85 => 117 | 2 => 2 | 168 => 119 | 53 => 95 | 175 => 96 | 46 => 84 | 210 => 135 | 127 => 111 | 145 => 143 | 143 => 141 | 21 => 21 | 171 => 144 | 173 => 147 | 212 => 152 | 51 => 138 | 20 => 20 | 213 => 153 | 232 => 157 | 233 => 158 | 80 => 64 | n => n, fun | 15 => 3 | 16 => 4 | 17 => 5 | 18 => 6 | 19 => 7 | n => n⟩
theorem Tryz.laysC172 : Go.Proofs.LaysC.n172 Tryz.prog Tryz.laysC172_ren := {
  mixed := by kernel_rfl
  f129 := Tryz.func152.trans (congrArg some (by kernel_rfl))
  f171 := Tryz.func107.trans (congrArg some (by kernel_rfl))
  f172 := Tryz.func85.trans (congrArg some (by kernel_rfl))
  f205 := Tryz.func137.trans (congrArg some (by kernel_rfl))
  f243 := Tryz.func122.trans (congrArg some (by kernel_rfl))
  f244 := Tryz.func105.trans (congrArg some (by kernel_rfl))
  f245 := Tryz.func106.trans (congrArg some (by kernel_rfl))
  f246 := Tryz.func138.trans (congrArg some (by kernel_rfl))
  f247 := Tryz.func117.trans (congrArg some (by kernel_rfl))
  f279 := Tryz.func118.trans (congrArg some (by kernel_rfl))
  f280 := Tryz.func119.trans (congrArg some (by kernel_rfl))
  f281 := Tryz.func120.trans (congrArg some (by kernel_rfl))
  f282 := Tryz.func121.trans (congrArg some (by kernel_rfl))
  f283 := Tryz.func144.trans (congrArg some (by kernel_rfl))
  f284 := Tryz.func145.trans (congrArg some (by kernel_rfl))
  f285 := Tryz.func146.trans (congrArg some (by kernel_rfl))
  f286 := Tryz.func147.trans (congrArg some (by kernel_rfl))
  f287 := Tryz.func109.trans (congrArg some (by kernel_rfl))
  f316 := Tryz.func136.trans (congrArg some (by kernel_rfl))
  f317 := Tryz.func151.trans (congrArg some (by kernel_rfl))
  f318 := Tryz.func153.trans (congrArg some (by kernel_rfl))
  f319 := Tryz.func154.trans (congrArg some (by kernel_rfl))
  f320 := Tryz.func155.trans (congrArg some (by kernel_rfl))
  f321 := Tryz.func123.trans (congrArg some (by kernel_rfl))
  f322 := Tryz.func124.trans (congrArg some (by kernel_rfl))
  f337 := Tryz.func159.trans (congrArg some (by kernel_rfl))
  f338 := Tryz.func160.trans (congrArg some (by kernel_rfl))
  t0 := Tryz.underlying0
  a0 := Tryz.isAgg0
  z0 := Tryz.sizeOf0
  v0 := Tryz.zeroValue0
  t2 := Tryz.underlying2
  a2 := Tryz.isAgg2
  z2 := Tryz.sizeOf2
  v2 := Tryz.zeroValue2
  t3 := Tryz.underlying3
  a3 := Tryz.isAgg3
  z3 := Tryz.sizeOf3
  v3 := Tryz.zeroValue3
  t4 := Tryz.underlying4
  a4 := Tryz.isAgg4
  z4 := Tryz.sizeOf4
  v4 := Tryz.zeroValue4
  t5 := Tryz.underlying5
  a5 := Tryz.isAgg5
  z5 := Tryz.sizeOf5
  v5 := Tryz.zeroValue5
  t9 := Tryz.underlying9
  a9 := Tryz.isAgg9
  z9 := Tryz.sizeOf9
  v9 := Tryz.zeroValue9
  t20 := Tryz.underlying20
  a20 := Tryz.isAgg20
  z20 := Tryz.sizeOf20
  v20 := Tryz.zeroValue20
  t21 := Tryz.underlying21
  a21 := Tryz.isAgg21
  z21 := Tryz.sizeOf21
  v21 := Tryz.zeroValue21
  t37 := Tryz.underlying22
  a37 := Tryz.isAgg22
  z37 := Tryz.sizeOf22
  v37 := Tryz.zeroValue22
  t46 := Tryz.underlying84
  a46 := Tryz.isAgg84
  z46 := Tryz.sizeOf84
  v46 := Tryz.zeroValue84
  t51 := Tryz.underlying138
  a51 := Tryz.isAgg138
  z51 := Tryz.sizeOf138
  v51 := Tryz.zeroValue138
  t53 := Tryz.underlying95
  a53 := Tryz.isAgg95
  z53 := Tryz.sizeOf95
  v53 := Tryz.zeroValue95
  t75 := Tryz.underlying88
  a75 := Tryz.isAgg88
  z75 := Tryz.sizeOf88
  v75 := Tryz.zeroValue88
  t76 := Tryz.underlying89
  a76 := Tryz.isAgg89
  z76 := Tryz.sizeOf89
  v76 := Tryz.zeroValue89
  t85 := Tryz.underlying117
  a85 := Tryz.isAgg117
  z85 := Tryz.sizeOf117
  v85 := Tryz.zeroValue117
  t127 := Tryz.underlying111
  a127 := Tryz.isAgg111
  z127 := Tryz.sizeOf111
  v127 := Tryz.zeroValue111
  t143 := Tryz.underlying141
  a143 := Tryz.isAgg141
  z143 := Tryz.sizeOf141
  v143 := Tryz.zeroValue141
  t145 := Tryz.underlying143
  a145 := Tryz.isAgg143
  z145 := Tryz.sizeOf143
  v145 := Tryz.zeroValue143
  t167 := Tryz.underlying116
  a167 := Tryz.isAgg116
  z167 := Tryz.sizeOf116
  v167 := Tryz.zeroValue116
  t168 := Tryz.underlying119
  a168 := Tryz.isAgg119
  z168 := Tryz.sizeOf119
  v168 := Tryz.zeroValue119
  t171 := Tryz.underlying144
  a171 := Tryz.isAgg144
  z171 := Tryz.sizeOf144
  v171 := Tryz.zeroValue144
  t173 := Tryz.underlying147
  a173 := Tryz.isAgg147
  z173 := Tryz.sizeOf147
  v173 := Tryz.zeroValue147
  t175 := Tryz.underlying96
  a175 := Tryz.isAgg96
  z175 := Tryz.sizeOf96
  v175 := Tryz.zeroValue96
  t210 := Tryz.underlying135
  a210 := Tryz.isAgg135
  z210 := Tryz.sizeOf135
  v210 := Tryz.zeroValue135
  t212 := Tryz.underlying152
  a212 := Tryz.isAgg152
  z212 := Tryz.sizeOf152
  v212 := Tryz.zeroValue152
  t213 := Tryz.underlying153
  a213 := Tryz.isAgg153
  z213 := Tryz.sizeOf153
  t232 := Tryz.underlying157
  a232 := Tryz.isAgg157
  z232 := Tryz.sizeOf157
  v232 := Tryz.zeroValue157
  t233 := Tryz.underlying158
  a233 := Tryz.isAgg158
  z233 := Tryz.sizeOf158
  v233 := Tryz.zeroValue158
  g15 := by kernel_rfl
  g16 := by kernel_rfl
  g17 := by kernel_rfl
  g18 := by kernel_rfl
  g19 := by kernel_rfl
  t80 := Tryz.underlying64
  a80 := Tryz.isAgg64
  z80 := Tryz.sizeOf64
  v80 := Tryz.zeroValue64
  i0 := by kernel_rfl
  i2 := by kernel_rfl
  i3 := by kernel_rfl
  i4 := by kernel_rfl
  i5 := by kernel_rfl
  i9 := by kernel_rfl
  i20 := by kernel_rfl
  i21 := by kernel_rfl
  i37 := by kernel_rfl
  i46 := by kernel_rfl
  i51 := by kernel_rfl
  i53 := by kernel_rfl
  i75 := by kernel_rfl
  i76 := by kernel_rfl
  i80 := by kernel_rfl
  i85 := by kernel_rfl
  i127 := by kernel_rfl
  i143 := by kernel_rfl
  i145 := by kernel_rfl
  i167 := by kernel_rfl
  i168 := by kernel_rfl
  i171 := by kernel_rfl
  i173 := by kernel_rfl
  i175 := by kernel_rfl
  i210 := by kernel_rfl
  i212 := by kernel_rfl
  i232 := by kernel_rfl
  i233 := by kernel_rfl
  m15 := by kernel_rfl
  m16 := by kernel_rfl
  m17 := by kernel_rfl
  m18 := by kernel_rfl
  m19 := by kernel_rfl
  c0 := by kernel_rfl
  c2 := by kernel_rfl
  c3 := by kernel_rfl
  c4 := by kernel_rfl
  c5 := by kernel_rfl
  c9 := by kernel_rfl
  c20 := by kernel_rfl
  c21 := by kernel_rfl
  c37 := by kernel_rfl
  c46 := by kernel_rfl
  c51 := by kernel_rfl
  c53 := by kernel_rfl
  c75 := by kernel_rfl
  c76 := by kernel_rfl
  c80 := by kernel_rfl
  c85 := by kernel_rfl
  c127 := by kernel_rfl
  c143 := by kernel_rfl
  c145 := by kernel_rfl
  c167 := by kernel_rfl
  c168 := by kernel_rfl
  c171 := by kernel_rfl
  c173 := by kernel_rfl
  c175 := by kernel_rfl
  c210 := by kernel_rfl
  c212 := by kernel_rfl
  c213 := by kernel_rfl
  c232 := by kernel_rfl
  c233 := by kernel_rfl }
open Go.RowKit
theorem Tryz.strconv_Atoi_ok (s : ByteArray) (hmax : s.size ≤ 9223372036854775806) (v : Int) (h : Lib.atoiAll s.data.toList = .ok v) (w : World) :
    Calls Tryz.prog 85 #[.string s] w fun e w' => e = .returned (.tuple #[.int .i64 v, .nilIface]) ∧ (w' = w ∨ ∃ t, w' = Lib.bytesWorld w 5 t) := Any.strconv_Atoi_ok Tryz.laysC172 s hmax v h w

/-- How a call of strconv.Atoi ends that gives no number: some number, and an error that is not nil. -/
def BadAtoi (w : World) (e : Ending) (w' : World) : Prop :=
  ∃ (n : Int) (t : TypeId) (N : Nat), e = .returned (.tuple #[.int .i64 n, .iface t (.pointer (some ⟨N, 0, none⟩))]) ∧ Below w.heap.size w w'
theorem Tryz.atoi_bad (s : ByteArray) (hlim : s.size ≤ 281474976710656) (h : ∀ v, Lib.atoiAll s.data.toList ≠ .ok v) (w : World) (t1 t2 : TypeId) (p1 p2 : Value)
    (h1 : w.var? Tryz.prog "strconv.ErrSyntax" = some #[.iface t1 p1]) (h2 : w.var? Tryz.prog "strconv.ErrRange" = some #[.iface t2 p2]) :
    Calls Tryz.prog 85 #[.string s] w (BadAtoi w) := by
  rcases hc : Lib.atoiAll s.data.toList with v | _ | _
  · exact absurd hc (h v)
  · exact (Any.strconv_Atoi_syntax_var Tryz.laysC172 s hlim hc t1 p1 w h1).mono fun e w' ⟨N, he, _, _, hb⟩ => ⟨_, _, N, he, hb⟩
  · exact (Any.strconv_Atoi_range_var Tryz.laysC172 s hlim hc t2 p2 w h2).mono fun e w' ⟨N, he, _, _, hb⟩ => ⟨_, _, N, he, hb⟩
end Go.Proofs

/-
  numbers.Text and numbers.Read: what each call gives.
-/
namespace Go.Proofs.YtocebhaaamnfiaaGreatDoor.Nums
open Go.RowKit
set_option linter.unusedVariables false

/-- What the library's tables and sentinels hold. -/
structure Lw (w : World) : Prop where
  tab : Lib.TabIs Tryz.prog w "internal/strconv.uint64pow10" .u64 Lib.pow10Tab
  es : ∃ t p, w.var? Tryz.prog "strconv.ErrSyntax" = some #[.iface t p]
  er : ∃ t p, w.var? Tryz.prog "strconv.ErrRange" = some #[.iface t p]
theorem var_below {w w' : World} {n : String} {cs : Array Value} (h : w.var? Tryz.prog n = some cs) (hb : Below w.heap.size w w') : w'.var? Tryz.prog n = some cs := by
  unfold World.var? at *
  cases hg : Tryz.prog.globalNamed n with
  | none => simp [hg] at h
  | some g =>
    simp only [hg, Option.bind_some] at h ⊢
    have hlt : g < w.heap.size := by
      rcases Nat.lt_or_ge g w.heap.size with h' | h'
      · exact h'
      · rw [Array.getElem?_eq_none h'] at h; simp at h
    rw [hb.block g hlt]
    exact h
theorem Lw.below {w w' : World} (h : Lw w) (hb : Below w.heap.size w w') : Lw w' :=
  ⟨var_below h.tab hb, h.es.imp fun _ => Exists.imp fun _ h => var_below h hb, h.er.imp fun _ => Exists.imp fun _ h => var_below h hb⟩

theorem itoa_lib (n : Int) (h0 : -9223372036854775808 ≤ n) (h1 : n ≤ 9223372036854775807) (w : World) (hL : Lw w) :
    Calls Tryz.prog 107 #[.int .i64 n] w fun e w' => e = .returned (.string ⟨(Lib.itoa n).toArray⟩) ∧ Below w.heap.size w w' :=
  (Tryz.strconv_Itoa n h0 h1 w hL.tab).mono fun e w' ⟨he, k, os, hw⟩ => ⟨he, hw ▸ Lib.below_grow _ w (Nat.le_refl _) k os⟩
theorem text_any (n : Int) (h0 : -9223372036854775808 ≤ n) (h1 : n ≤ 9223372036854775807) (w : World) (hL : Lw w) :
    Calls Tryz.prog 87 #[.int .i64 n] w fun e w' => e = .returned (.string ⟨(Lib.itoa n).toArray⟩) ∧ Below w.heap.size w w' := by
  have hc := fun w hL => itoa_lib n h0 h1 w hL
  generalize (⟨(Lib.itoa n).toArray⟩ : ByteArray) = t at hc ⊢
  go_enter Tryz.func87, Tryz.ntmps87
  go_wp2_with (go_at_call 107; refine (hc _ hL).mono ?_; rintro e w1 ⟨rfl, hb⟩)
  go_ret
  exact ⟨rfl, hb⟩

/-- How strconv.Atoi ends at a numeral. -/
theorem atoi_ok (s : ByteArray) (hmax : s.size ≤ 9223372036854775806) (v : Int) (h : Lib.atoiAll s.data.toList = .ok v) (w : World) :
    Calls Tryz.prog 85 #[.string s] w fun e w' => e = .returned (.tuple #[.int .i64 v, .nilIface]) ∧ Below w.heap.size w w' :=
  (Tryz.strconv_Atoi_ok s hmax v h w).mono fun e w' ⟨he, hw⟩ => ⟨he, by
    rcases hw with rfl | ⟨t, rfl⟩
    · exact Below.refl _ _
    · exact Lib.bytesWorld_below _ _ _⟩

theorem atoi_bd {l : List UInt8} {v : Int} (h : Lib.atoiAll l = .ok v) : -9223372036854775808 ≤ v ∧ v ≤ 9223372036854775807 := by
  unfold Lib.atoiAll at h
  split at h
  · cases h
  · simp only at h
    split at h
    · cases h
    · cases h
    · split at h
      · cases h
      · split at h
        · cases h
        · injection h with h
          subst h
          split <;> omega

set_option maxHeartbeats 1000000 in
theorem read_bad (s : ByteArray) (hlim : s.size ≤ 281474976710656) (h : ∀ v, Lib.atoiAll s.data.toList ≠ .ok v) (w : World) (hL : Lw w) :
    Calls Tryz.prog 60 #[.string s] w fun e w' => e = two none ∧ Below w.heap.size w w' := by
  obtain ⟨⟨t1, p1, h1⟩, ⟨t2, p2, h2⟩⟩ := And.intro hL.es hL.er
  have hc := Tryz.atoi_bad s hlim h w t1 t2 p1 p2 h1 h2
  clear h h1 h2 hL
  go_enter Tryz.func60, Tryz.ntmps60
  go_wp2_with (go_at_call 85; refine hc.mono ?_; rintro e w1 ⟨n, t, N, rfl, hb⟩)
  go_ret2
  exact ⟨rfl, hb⟩

set_option maxHeartbeats 1000000 in
theorem read_unsafe (s : ByteArray) (hmax : s.size ≤ 9223372036854775806) (v : Int) (h : Lib.atoiAll s.data.toList = .ok v) (hs : sf v = false) (w : World) :
    Calls Tryz.prog 60 #[.string s] w fun e w' => e = two none ∧ Below w.heap.size w w' := by
  have hc := atoi_ok s hmax v h w
  clear h
  go_enter Tryz.func60, Tryz.ntmps60
  go_wp2_with (first | (go_at_call 85; refine hc.mono ?_; rintro e w1 ⟨rfl, hb⟩) | (go_at_call 86; refine (safe_any _ _).mono ?_; rintro e w' ⟨rfl, rfl⟩))
  go_ret2
  exact ⟨rfl, hb⟩

set_option maxHeartbeats 1000000 in
theorem read_other (s : ByteArray) (hmax : s.size ≤ 9223372036854775806) (v : Int) (h : Lib.atoiAll s.data.toList = .ok v) (hs : sf v = true) (hne : Lib.itoa v ≠ s.data.toList) (w : World) (hL : Lw w) :
    Calls Tryz.prog 60 #[.string s] w fun e w' => e = two none ∧ Below w.heap.size w w' := by
  have hc := atoi_ok s hmax v h w
  have ht := fun w hL => text_any v (by have := atoi_bd h; omega) (by have := atoi_bd h; omega) w hL
  clear h
  obtain ⟨t, e⟩ : ∃ t : ByteArray, (⟨(Lib.itoa v).toArray⟩ : ByteArray) = t := ⟨_, rfl⟩
  have hts : t.toList ≠ s.toList := fun hh => hne (by rw [ByteArray.toList_eq, ByteArray.toList_eq, ← e] at hh; exact hh)
  rw [e] at ht
  clear e hne
  have hts2 : (t.toList == s.toList) = false := by simpa using hts
  clear hts
  go_enter Tryz.func60, Tryz.ntmps60
  go_wp2_with (first | (go_at_call 85; refine hc.mono ?_; rintro e w1 ⟨rfl, hb⟩; have hL1 := hL.below hb) | (go_at_call 86; refine (safe_any _ _).mono ?_; rintro e w' ⟨rfl, rfl⟩) | (go_at_call 87; refine (ht _ hL1).mono ?_; rintro e w2 ⟨rfl, hb2⟩))
  go_ret2
  exact ⟨rfl, hb.trans (hb2.mono hb.size)⟩

set_option maxHeartbeats 1000000 in
theorem read_yes (s : ByteArray) (hmax : s.size ≤ 9223372036854775806) (v : Int) (h : Lib.atoiAll s.data.toList = .ok v) (hs : sf v = true) (heq : Lib.itoa v = s.data.toList) (w : World) (hL : Lw w) :
    Calls Tryz.prog 60 #[.string s] w fun e w' => e = two (some v) ∧ Below w.heap.size w w' := by
  have hc := atoi_ok s hmax v h w
  have ht := fun w hL => text_any v (by have := atoi_bd h; omega) (by have := atoi_bd h; omega) w hL
  clear h
  have e : (⟨(Lib.itoa v).toArray⟩ : ByteArray) = s := by rw [heq]
  rw [e] at ht
  clear e heq
  go_enter Tryz.func60, Tryz.ntmps60
  go_wp2_with (first | (go_at_call 85; refine hc.mono ?_; rintro e w1 ⟨rfl, hb⟩; have hL1 := hL.below hb) | (go_at_call 86; refine (safe_any _ _).mono ?_; rintro e w' ⟨rfl, rfl⟩) | (go_at_call 87; refine (ht _ hL1).mono ?_; rintro e w2 ⟨rfl, hb2⟩))
  go_ret2
  exact ⟨rfl, hb.trans (hb2.mono hb.size)⟩

theorem read_any (s : ByteArray) (hlim : s.size ≤ 281474976710656) (w : World) (hL : Lw w) :
    Calls Tryz.prog 60 #[.string s] w fun e w' => e = two (readF s.data.toList) ∧ Below w.heap.size w w' := by
  by_cases h : ∃ v, Lib.atoiAll s.data.toList = .ok v
  · obtain ⟨v, h⟩ := h
    rw [readF_atoi h]
    cases hs : sf v with
    | false => rw [if_neg (by simp)]; exact read_unsafe s (by omega) v h hs w
    | true =>
      by_cases heq : Lib.itoa v = s.data.toList
      · rw [if_pos ⟨rfl, heq⟩]; exact read_yes s (by omega) v h hs heq w hL
      · rw [if_neg (fun hh => heq hh.2)]; exact read_other s (by omega) v h hs heq w hL
  · rw [readF_atoi_no fun v hv => h ⟨v, hv⟩]
    exact read_bad s hlim (fun v hv => h ⟨v, hv⟩) w hL
end Go.Proofs.YtocebhaaamnfiaaGreatDoor.Nums
