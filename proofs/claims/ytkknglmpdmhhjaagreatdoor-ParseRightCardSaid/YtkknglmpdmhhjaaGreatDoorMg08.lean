/-
  Texts of this seat in build order: LxRd, NmSmall, Latoi, NmText, LxSign.
-/
import Derived.Test.YtkknglmpdmhhjaaGreatDoorMg07
import Derived.Test.YtkknglmpdmhhjaaGreatDoorProg
import Derived.Test.YtkknglmpdmhhjaaGreatDoorMg00
import Derived.WalkKit
import Derived.WalkSpells
import Derived.WalkLawsBesides
import Derived.RegionTactic
import Derived.ChangeAlike
import Derived.Deep.QuietTactic
import Derived.BigQuiet
import Derived.Lib.Hide
import Derived.Shelf.LaysC
import Derived.Shelf.Strconv.ErrVarAll
import Derived.Below
import Derived.KernelRfl
import Derived.Test.YtkknglmpdmhhjaaGreatDoorMg03
import Derived.Lib.AppendIntMem
import Derived.Deep.MidRow
/-
  The reader: its block, reader.rest, reader.skip.
-/
namespace Go.Proofs.YtkknglmpdmhhjaaGreatDoor.Lx
open Go.RowKit Go.Proofs.YtkknglmpdmhhjaaGreatDoor.Uni
set_option linter.unusedVariables false
set_option linter.unusedSimpArgs false

/-- A reader's block: its text and where it stands. -/
def Rd (w : World) (g : Nat) (t : ByteArray) (a : Nat) : Prop := w.heap[g]? = some (.cells #[.string t, .int .i64 (a : Int)] 75 (0, 0))
theorem Rd.c0 {w : World} {g : Nat} {t : ByteArray} {a : Nat} (h : Rd w g t a) : w.cell? ⟨g, 0, none⟩ = some (.string t) := by unfold Rd at h; simp [World.cell?, h]
theorem Rd.c1 {w : World} {g : Nat} {t : ByteArray} {a : Nat} (h : Rd w g t a) : w.cell? ⟨g, 1, none⟩ = some (.int .i64 (a : Int)) := by unfold Rd at h; simp [World.cell?, h]
theorem Rd.f1 {w : World} {g : Nat} {t : ByteArray} {a : Nat} (h : Rd w g t a) : w.frozen? ⟨g, 1, none⟩ = false := by unfold Rd at h; simp [World.frozen?, h]
theorem Rd.lt {w : World} {g : Nat} {t : ByteArray} {a : Nat} (h : Rd w g t a) : g < w.heap.size := lt_of_block h
theorem Rd.set {w : World} {g : Nat} {t : ByteArray} {a : Nat} (h : Rd w g t a) {n : Int} {b : Nat} (e : n = (b : Int)) : Rd (w.setCell ⟨g, 1, none⟩ (.int .i64 n)) g t b := by
  subst e
  unfold Rd at h ⊢
  simp [World.setCell, Array.getElem?_modify, h]
theorem Rd.below {w w' : World} {g : Nat} {t : ByteArray} {a : Nat} (h : Rd w g t a) (hb : Below w.heap.size w w') : Rd w' g t a := (hb.block g h.lt).trans h
theorem Rd.drew {w : World} {g : Nat} {t : ByteArray} {a : Nat} (h : Rd w g t a) (n : Nat) : Rd (w.drewN n) g t a := h

/-- Every old block but one stays. -/
def GB (g : Nat) (w w' : World) : Prop := w.grownBy w' (some g)
theorem GB.refl (g : Nat) (w : World) : GB g w w := ⟨rfl, rfl, rfl, Nat.le_refl _, fun _ _ _ => rfl⟩
theorem GB.trans {g : Nat} {a b c : World} (h : GB g a b) (k : GB g b c) : GB g a c := ⟨k.os.trans h.os, k.tape.trans h.tape, k.output.trans h.output, Nat.le_trans h.size k.size, fun i hi hn => (k.block i (Nat.lt_of_lt_of_le hi h.size) hn).trans (h.block i hi hn)⟩
theorem GB.of {g : Nat} {w w' : World} (h : Below w.heap.size w w') : GB g w w' := ⟨h.os, h.tape, h.output, h.size, fun k hk _ => h.block k hk⟩
theorem GB.set {g : Nat} (w : World) (o : Nat) (u : Value) : GB g w (w.setCell ⟨g, o, none⟩ u) := ⟨rfl, rfl, rfl, by simp [World.setCell], fun k _ hk => Below.heap_setCell _ _ _ _ (fun e => hk (by simp [e]))⟩
theorem GB.drew {g : Nat} {w w' : World} (h : GB g w w') (n : Nat) : GB g w (w'.drewN n) := h.trans (GB.of (below_drewN (Below.refl _ _) n))
theorem GB.below {g B : Nat} {w0 w w' : World} (h : Below B w0 w) (k : GB g w w') (hB : B ≤ w.heap.size) (hg : B ≤ g) : Below B w0 w' := h.grown k hB (fun k hk => by cases hk; exact hg)
theorem GB.ml {g : Nat} {w w' : World} {t : ByteArray} {a : Nat} (k : GB g w w') (hr : Rd w g t a) (h : Ml w) : Ml w' := by
  obtain ⟨m, hm⟩ := h
  refine ⟨m, ?_⟩
  have hlt := World.block_lt_of_cell? w _ hm
  have hne : 1 ≠ g := by
    rintro rfl
    have := hr.c0
    rw [hm] at this
    cases this
  rw [World.cell?_of_block (w := w) (k.block _ hlt (by simpa using hne))]
  exact hm

theorem rest_any (g : Nat) (t : ByteArray) (a : Nat) (w : World) (hr : Rd w g t a) (ha : a ≤ t.size) (ht : t.size ≤ 1000000) :
    Calls Tryz.prog 75 #[.pointer (some ⟨g, 0, none⟩)] w fun e w' => e = .returned (.string (bs (t.data.toList.drop a))) ∧ ∃ n, w' = w.drewN n := by
  have c0 := hr.c0
  have c1 := hr.c1
  have hai : (a : Int) ≤ t.size := by omega
  have he := ext_bs t a
  clear hr
  go_enter Tryz.func75, Tryz.ntmps75
  go_wp2
  go_quiet (fail)
  go_wp2
  go_ret
  exact ⟨by rw [← he]; rfl, _, rfl⟩

/-- What a method that reads on leaves: the reader stands at b. -/
def On (g : Nat) (t : ByteArray) (b : Nat) (w w' : World) : Prop := b ≤ t.size ∧ Rd w' g t b ∧ GB g w w'

def SInv (g : Nat) (t : ByteArray) (a : Nat) (w wr : World) : Prop :=
  ∃ b f, On g t b w wr ∧ skipL (t.data.toList.drop a) = skipF f (t.data.toList.drop b) ∧ t.size ≤ b + f
def posOf (g : Nat) (w : World) : Nat := (intOf ((w.cell? ⟨g, 1, none⟩).getD undef)).toNat
theorem Rd.pos {w : World} {g : Nat} {t : ByteArray} {a : Nat} (h : Rd w g t a) : posOf g w = a := by unfold posOf; rw [h.c1]; simp [intOf]

set_option maxHeartbeats 1000000 in
theorem skip_any (g : Nat) (t : ByteArray) (a : Nat) (w : World) (hr : Rd w g t a) (ha : a ≤ t.size) (ht : t.size ≤ 1000000) (hm : Ml w) :
    Calls Tryz.prog 74 #[.pointer (some ⟨g, 0, none⟩)] w fun e w' => e = .returned (.bool (skipL (t.data.toList.drop a)).1) ∧ ∃ b, (skipL (t.data.toList.drop a)).2 = t.data.toList.drop b ∧ On g t b w w' := by
  have hstart : SInv g t a w w := ⟨a, (t.data.toList.drop a).length, ⟨ha, hr, GB.refl _ _⟩, rfl, by rw [List.length_drop, lsz]; omega⟩
  have HS := Lib.hid hstart
  have HR := Lib.hid hr
  clear hstart hr
  go_enter Tryz.func74, Tryz.ntmps74
  go_wp2
  go_loopw [] (fun wr => SInv g t a w wr) (fun wr => t.size - posOf g wr)
  case atStart => exact HS.out
  case round =>
    obtain ⟨b, f, ⟨hb, hrd, hgb⟩, hsk, hfu⟩ := hrel
    have hmr := hgb.ml HR.out hm
    have hpos := hrd.pos
    obtain ⟨l, hl⟩ : ∃ l, t.data.toList.drop b = l := ⟨_, rfl⟩
    have hlen : l.length = t.size - b := by rw [← hl, List.length_drop, lsz]
    have hrest := rest_any g t b wr hrd hb ht
    rw [hl] at hrest hsk
    have hgap := fun w hm => gap_any (bs l) w (by rw [bs_size]; omega) hm
    rw [bs_list] at hgap
    have HM : Hid (Ml wr) := Lib.hid hmr
    have HB := Lib.hid hgb
    have HL := Lib.hid hl
    have HK := Lib.hid hsk
    have HD := Lib.hid hrd
    clear hgb hmr hl hsk hm
    cases hg : gapN l with
    | none =>
      rw [hg] at hgap
      have hfin : skipL (t.data.toList.drop a) = (false, l) := by
        rw [HK.out]
        cases f with
        | zero =>
          have : l = [] := List.length_eq_zero_iff.1 (by omega)
          subst this
          cases hg
        | succ f => exact skipF_bad f hg
      have HF := Lib.hid hfin
      clear hfin hg hrd
      go_wp2_with (first | (go_at_call 75; refine hrest.mono ?_; rintro e w1 ⟨rfl, n1, rfl⟩) | (go_at_call 126; refine (hgap _ (HM.out.below (below_drewN (Below.refl _ _) n1))).mono ?_; rintro e w2 ⟨rfl, hb2⟩))
      go_ret
      exact ⟨by rw [HF.out]; rfl, b, by rw [HF.out, HL.out], hb, HD.out.below ((below_drewN (Below.refl _ _) n1).trans hb2), HB.out.trans (GB.of ((below_drewN (Below.refl _ _) n1).trans hb2))⟩
    | some n =>
      rw [hg] at hgap
      cases n with
      | zero =>
        have hfin : skipL (t.data.toList.drop a) = (true, l) := by
          rw [HK.out]
          exact skipF_zero f hg
        have HF := Lib.hid hfin
        clear hfin hg hrd
        go_wp2_with (first | (go_at_call 75; refine hrest.mono ?_; rintro e w1 ⟨rfl, n1, rfl⟩) | (go_at_call 126; refine (hgap _ (HM.out.below (below_drewN (Below.refl _ _) n1))).mono ?_; rintro e w2 ⟨rfl, hb2⟩))
        go_ret
        exact ⟨by rw [HF.out]; rfl, b, by rw [HF.out, HL.out], hb, HD.out.below ((below_drewN (Below.refl _ _) n1).trans hb2), HB.out.trans (GB.of ((below_drewN (Below.refl _ _) n1).trans hb2))⟩
      | succ n =>
        have hn : n + 1 ≤ l.length := by
          rcases gap_cases l with hs | ⟨c, r, rfl, hc⟩ | ⟨m, r, rfl, hm, hr⟩ | ⟨m, r, rfl, hm⟩ | ⟨r, rfl, hr⟩
          · rw [gap_stop hs] at hg; cases hg
          · rw [gap_white hc] at hg; cases hg; have := lead_len whiteN r; simp only [List.length_cons]; omega
          · rw [gap_line hm hr] at hg; cases hg; simp only [List.length_cons, List.length_append]; omega
          · rw [gap_block hm] at hg; cases hg; simp only [List.length_cons, List.length_append]; omega
          · rw [gap_bad hr] at hg; cases hg
        obtain ⟨f', rfl⟩ : ∃ f', f = f' + 1 := ⟨f - 1, by omega⟩
        have hstep : skipL (t.data.toList.drop a) = skipF f' (t.data.toList.drop (b + (n + 1))) := by
          rw [HK.out, skipF_more f' n hg, ← HL.out, List.drop_drop]
        have HF := Lib.hid hstep
        have hbn : b + (n + 1) ≤ t.size := by omega
        have hne : (((n + 1 : Nat) : Int) == 0) = false := by simp; omega
        obtain ⟨k, hk⟩ : ∃ k, k = n + 1 := ⟨_, rfl⟩
        rw [← hk] at hgap hne hbn HF
        simp only [Option.getD_some, Option.isSome_some] at hgap
        have c1 := hrd.c1
        have hbi : (b : Int) ≤ 1000000 := by omega
        have hki : (k : Int) ≤ 1000000 := by omega
        have fz := hrd.f1
        have HKK := Lib.hid hk
        clear hk hstep hg hrd hn
        go_wp2_with (first | (go_at_call 75; refine hrest.mono ?_; rintro e w1 ⟨rfl, n1, rfl⟩) | (go_at_call 126; refine (hgap _ (HM.out.below (below_drewN (Below.refl _ _) n1))).mono ?_; rintro e w2 ⟨rfl, hb2⟩; have c2 := (HD.out.below ((below_drewN (Below.refl _ _) n1).trans hb2)).c1; have f2 := (HD.out.below ((below_drewN (Below.refl _ _) n1).trans hb2)).f1))
        have hd2 := (HD.out.below ((below_drewN (Below.refl _ _) n1).trans hb2)).set (n := (b : Int) + (k : Int)) (b := b + k) (by omega)
        go_roundw
        case rel => exact ⟨b + k, f', ⟨hbn, hd2, (HB.out.trans (GB.of ((below_drewN (Below.refl _ _) n1).trans hb2))).trans (GB.set _ _ _)⟩, HF.out, by have := HKK.out; omega⟩
        case measure => rw [hd2.pos, hpos]; have := HKK.out; omega
end Go.Proofs.YtkknglmpdmhhjaaGreatDoor.Lx

/-
  The small functions of package numbers and their counterparts: what each call gives.
-/
namespace Go.Proofs.YtkknglmpdmhhjaaGreatDoor.Nums
open Go.RowKit
set_option linter.unusedVariables false

theorem ret_b {a b : Bool} (h : a = b) : Ending.returned (.bool a) = Ending.returned (.bool b) := by rw [h]
theorem ret_ib {k : IntKind} {a b : Int} {c d : Bool} (h : a = b) (g : c = d) : Ending.returned (.tuple #[.int k a, .bool c]) = Ending.returned (.tuple #[.int k b, .bool d]) := by rw [h, g]

/-- What a result of two parts is: the number and true, or 0 and false. -/
def two (r : Option Int) : Ending := .returned (.tuple #[.int .i64 (r.getD 0), .bool r.isSome])
theorem two_some (n : Int) : Ending.returned (.tuple #[.int .i64 n, .bool true]) = two (some n) := rfl
theorem two_none : Ending.returned (.tuple #[.int .i64 0, .bool false]) = two none := rfl
theorem two_wrap {n : Int} (h : wrap64 n = n) : Ending.returned (.tuple #[.int .i64 (wrap64 n), .bool true]) = two (some n) := by rw [h]; rfl

theorem safe_any (n : Int) (w : World) :
    Calls Tryz.prog 152 #[.int .i64 n] w fun e w' => e = .returned (.bool (sf n)) ∧ w = w' := by
  by_cases h : -9007199254740991 ≤ n
  · by_cases h2 : n ≤ 9007199254740991
    · rw [sf_mk h h2]
      go_enter Tryz.func152, Tryz.ntmps152
      go_wp2
      go_ret
      exact ⟨rfl, rfl⟩
    · rw [sf_no (by omega)]
      go_enter Tryz.func152, Tryz.ntmps152
      go_wp2
      go_ret
      exact ⟨rfl, rfl⟩
  · rw [sf_no (by omega)]
    go_enter Tryz.func152, Tryz.ntmps152
    go_wp2
    go_ret
    exact ⟨rfl, rfl⟩

end Go.Proofs.YtkknglmpdmhhjaaGreatDoor.Nums

/-
  Contracts of library functions at this program: each is one application of a theorem of the library.
-/
namespace Go.Proofs
open Go.Shelf
def Tryz.laysC172_ren : Go.Shelf.Ren := ⟨fun | 172 => 181 | 244 => 210 | 245 => 211 | 247 => 222 | 279 => 223 | 280 => 224 | 281 => 225 | 282 => 226 | 287 => 214 | 316 => 242 | 171 => 212 | 205 => 243 | 321 => 228 | 322 => 229 | 243 => 227 | 246 => 244 | 283 => 247 | 284 => 248 | 285 => 249 | 286 => 250 | 129 => 260 | 317 => 259 | 318 => 261 | 319 => 262 | 320 => 263 | 337 => 270 | 338 => 271 | n => n, fun | 9 => 9 | 3 => 3 | 75 => 97 | 76 => 98 | 4 => 4 | 5 => 5 | 167 => 194 | 37 => 22 | 0 => 0 | 85 => 195 | 2 => 2 | 168 => 197 | 53 => 154 | 175 => 155 | 46 => 136 | 210 => 210 | 127 => 103 | 145 => 223 | 143 => 221 | 21 => 21 | 171 => 213 | 173 => 216 | 212 => 226 | 51 => 146 | 20 => 20 | 213 => 227 | 232 => 232 | 233 => 233 | 80 => 67 | n => n, fun | 15 => 3 | 16 => 4 | 17 => 5 | 18 => 6 | 19 => 7 | n => n⟩
theorem Tryz.laysC172 : Go.Proofs.LaysC.n172 Tryz.prog Tryz.laysC172_ren := {
  mixed := by kernel_rfl
  f129 := Tryz.func260.trans (congrArg some (by kernel_rfl))
  f171 := Tryz.func212.trans (congrArg some (by kernel_rfl))
  f172 := Tryz.func181.trans (congrArg some (by kernel_rfl))
  f205 := Tryz.func243.trans (congrArg some (by kernel_rfl))
  f243 := Tryz.func227.trans (congrArg some (by kernel_rfl))
  f244 := Tryz.func210.trans (congrArg some (by kernel_rfl))
  f245 := Tryz.func211.trans (congrArg some (by kernel_rfl))
  f246 := Tryz.func244.trans (congrArg some (by kernel_rfl))
  f247 := Tryz.func222.trans (congrArg some (by kernel_rfl))
  f279 := Tryz.func223.trans (congrArg some (by kernel_rfl))
  f280 := Tryz.func224.trans (congrArg some (by kernel_rfl))
  f281 := Tryz.func225.trans (congrArg some (by kernel_rfl))
  f282 := Tryz.func226.trans (congrArg some (by kernel_rfl))
  f283 := Tryz.func247.trans (congrArg some (by kernel_rfl))
  f284 := Tryz.func248.trans (congrArg some (by kernel_rfl))
  f285 := Tryz.func249.trans (congrArg some (by kernel_rfl))
  f286 := Tryz.func250.trans (congrArg some (by kernel_rfl))
  f287 := Tryz.func214.trans (congrArg some (by kernel_rfl))
  f316 := Tryz.func242.trans (congrArg some (by kernel_rfl))
  f317 := Tryz.func259.trans (congrArg some (by kernel_rfl))
  f318 := Tryz.func261.trans (congrArg some (by kernel_rfl))
  f319 := Tryz.func262.trans (congrArg some (by kernel_rfl))
  f320 := Tryz.func263.trans (congrArg some (by kernel_rfl))
  f321 := Tryz.func228.trans (congrArg some (by kernel_rfl))
  f322 := Tryz.func229.trans (congrArg some (by kernel_rfl))
  f337 := Tryz.func270.trans (congrArg some (by kernel_rfl))
  f338 := Tryz.func271.trans (congrArg some (by kernel_rfl))
  t0 := Tryz.underlying0
  a0 := Tryz.isAgg0
  z0 := Tryz.sizeOf0
  v0 := Tryz.zeroValue0
  t2 := Tryz.underlying2
  a2 := Tryz.isAgg2
  z2 := Tryz.sizeOf2
  v2 := Tryz.zeroValue2
  t3 := Tryz.underlying3
  a3 := Tryz.isAgg3
  z3 := Tryz.sizeOf3
  v3 := Tryz.zeroValue3
  t4 := Tryz.underlying4
  a4 := Tryz.isAgg4
  z4 := Tryz.sizeOf4
  v4 := Tryz.zeroValue4
  t5 := Tryz.underlying5
  a5 := Tryz.isAgg5
  z5 := Tryz.sizeOf5
  v5 := Tryz.zeroValue5
  t9 := Tryz.underlying9
  a9 := Tryz.isAgg9
  z9 := Tryz.sizeOf9
  v9 := Tryz.zeroValue9
  t20 := Tryz.underlying20
  a20 := Tryz.isAgg20
  z20 := Tryz.sizeOf20
  v20 := Tryz.zeroValue20
  t21 := Tryz.underlying21
  a21 := Tryz.isAgg21
  z21 := Tryz.sizeOf21
  v21 := Tryz.zeroValue21
  t37 := Tryz.underlying22
  a37 := Tryz.isAgg22
  z37 := Tryz.sizeOf22
  v37 := Tryz.zeroValue22
  t46 := Tryz.underlying136
  a46 := Tryz.isAgg136
  z46 := Tryz.sizeOf136
  v46 := Tryz.zeroValue136
  t51 := Tryz.underlying146
  a51 := Tryz.isAgg146
  z51 := Tryz.sizeOf146
  v51 := Tryz.zeroValue146
  t53 := Tryz.underlying154
  a53 := Tryz.isAgg154
  z53 := Tryz.sizeOf154
  v53 := Tryz.zeroValue154
  t75 := Tryz.underlying97
  a75 := Tryz.isAgg97
  z75 := Tryz.sizeOf97
  v75 := Tryz.zeroValue97
  t76 := Tryz.underlying98
  a76 := Tryz.isAgg98
  z76 := Tryz.sizeOf98
  v76 := Tryz.zeroValue98
  t85 := Tryz.underlying195
  a85 := Tryz.isAgg195
  z85 := Tryz.sizeOf195
  v85 := Tryz.zeroValue195
  t127 := Tryz.underlying103
  a127 := Tryz.isAgg103
  z127 := Tryz.sizeOf103
  v127 := Tryz.zeroValue103
  t143 := Tryz.underlying221
  a143 := Tryz.isAgg221
  z143 := Tryz.sizeOf221
  v143 := Tryz.zeroValue221
  t145 := Tryz.underlying223
  a145 := Tryz.isAgg223
  z145 := Tryz.sizeOf223
  v145 := Tryz.zeroValue223
  t167 := Tryz.underlying194
  a167 := Tryz.isAgg194
  z167 := Tryz.sizeOf194
  v167 := Tryz.zeroValue194
  t168 := Tryz.underlying197
  a168 := Tryz.isAgg197
  z168 := Tryz.sizeOf197
  v168 := Tryz.zeroValue197
  t171 := Tryz.underlying213
  a171 := Tryz.isAgg213
  z171 := Tryz.sizeOf213
  v171 := Tryz.zeroValue213
  t173 := Tryz.underlying216
  a173 := Tryz.isAgg216
  z173 := Tryz.sizeOf216
  v173 := Tryz.zeroValue216
  t175 := Tryz.underlying155
  a175 := Tryz.isAgg155
  z175 := Tryz.sizeOf155
  v175 := Tryz.zeroValue155
  t210 := Tryz.underlying210
  a210 := Tryz.isAgg210
  z210 := Tryz.sizeOf210
  v210 := Tryz.zeroValue210
  t212 := Tryz.underlying226
  a212 := Tryz.isAgg226
  z212 := Tryz.sizeOf226
  v212 := Tryz.zeroValue226
  t213 := Tryz.underlying227
  a213 := Tryz.isAgg227
  z213 := Tryz.sizeOf227
  t232 := Tryz.underlying232
  a232 := Tryz.isAgg232
  z232 := Tryz.sizeOf232
  v232 := Tryz.zeroValue232
  t233 := Tryz.underlying233
  a233 := Tryz.isAgg233
  z233 := Tryz.sizeOf233
  v233 := Tryz.zeroValue233
  g15 := by kernel_rfl
  g16 := by kernel_rfl
  g17 := by kernel_rfl
  g18 := by kernel_rfl
  g19 := by kernel_rfl
  t80 := Tryz.underlying67
  a80 := Tryz.isAgg67
  z80 := Tryz.sizeOf67
  v80 := Tryz.zeroValue67
  i0 := by kernel_rfl
  i2 := by kernel_rfl
  i3 := by kernel_rfl
  i4 := by kernel_rfl
  i5 := by kernel_rfl
  i9 := by kernel_rfl
  i20 := by kernel_rfl
  i21 := by kernel_rfl
  i37 := by kernel_rfl
  i46 := by kernel_rfl
  i51 := by kernel_rfl
  i53 := by kernel_rfl
  i75 := by kernel_rfl
  i76 := by kernel_rfl
  i80 := by kernel_rfl
  i85 := by kernel_rfl
  i127 := by kernel_rfl
  i143 := by kernel_rfl
  i145 := by kernel_rfl
  i167 := by kernel_rfl
  i168 := by kernel_rfl
  i171 := by kernel_rfl
  i173 := by kernel_rfl
  i175 := by kernel_rfl
  i210 := by kernel_rfl
  i212 := by kernel_rfl
  i232 := by kernel_rfl
  i233 := by kernel_rfl
  m15 := by kernel_rfl
  m16 := by kernel_rfl
  m17 := by kernel_rfl
  m18 := by kernel_rfl
  m19 := by kernel_rfl
  c0 := by kernel_rfl
  c2 := by kernel_rfl
  c3 := by kernel_rfl
  c4 := by kernel_rfl
  c5 := by kernel_rfl
  c9 := by kernel_rfl
  c20 := by kernel_rfl
  c21 := by kernel_rfl
  c37 := by kernel_rfl
  c46 := by kernel_rfl
  c51 := by kernel_rfl
  c53 := by kernel_rfl
  c75 := by kernel_rfl
  c76 := by kernel_rfl
  c80 := by kernel_rfl
  c85 := by kernel_rfl
  c127 := by kernel_rfl
  c143 := by kernel_rfl
  c145 := by kernel_rfl
  c167 := by kernel_rfl
  c168 := by kernel_rfl
  c171 := by kernel_rfl
  c173 := by kernel_rfl
  c175 := by kernel_rfl
  c210 := by kernel_rfl
  c212 := by kernel_rfl
  c213 := by kernel_rfl
  c232 := by kernel_rfl
  c233 := by kernel_rfl }
open Go.RowKit
theorem Tryz.strconv_Atoi_ok (s : ByteArray) (hmax : s.size ≤ 9223372036854775806) (v : Int) (h : Lib.atoiAll s.data.toList = .ok v) (w : World) :
    Calls Tryz.prog 181 #[.string s] w fun e w' => e = .returned (.tuple #[.int .i64 v, .nilIface]) ∧ (w' = w ∨ ∃ t, w' = Lib.bytesWorld w 5 t) := Any.strconv_Atoi_ok Tryz.laysC172 s hmax v h w

/-- How a call of strconv.Atoi ends that gives no number: some number, and an error that is not nil. -/
def BadAtoi (w : World) (e : Ending) (w' : World) : Prop :=
  ∃ (n : Int) (t : TypeId) (N : Nat), e = .returned (.tuple #[.int .i64 n, .iface t (.pointer (some ⟨N, 0, none⟩))]) ∧ Below w.heap.size w w'
theorem Tryz.atoi_bad (s : ByteArray) (hlim : s.size ≤ 281474976710656) (h : ∀ v, Lib.atoiAll s.data.toList ≠ .ok v) (w : World) (t1 t2 : TypeId) (p1 p2 : Value)
    (h1 : w.var? Tryz.prog "strconv.ErrSyntax" = some #[.iface t1 p1]) (h2 : w.var? Tryz.prog "strconv.ErrRange" = some #[.iface t2 p2]) :
    Calls Tryz.prog 181 #[.string s] w (BadAtoi w) := by
  rcases hc : Lib.atoiAll s.data.toList with v | _ | _
  · exact absurd hc (h v)
  · exact (Any.strconv_Atoi_syntax_var Tryz.laysC172 s hlim hc t1 p1 w h1).mono fun e w' ⟨N, he, _, _, hb⟩ => ⟨_, _, N, he, hb⟩
  · exact (Any.strconv_Atoi_range_var Tryz.laysC172 s hlim hc t2 p2 w h2).mono fun e w' ⟨N, he, _, _, hb⟩ => ⟨_, _, N, he, hb⟩
end Go.Proofs

/-
  numbers.Text and numbers.Read: what each call gives.
-/
namespace Go.Proofs.YtkknglmpdmhhjaaGreatDoor.Nums
open Go.RowKit
set_option linter.unusedVariables false

/-- What the library's tables and sentinels hold. -/
structure Lw (w : World) : Prop where
  tab : Lib.TabIs Tryz.prog w "internal/strconv.uint64pow10" .u64 Lib.pow10Tab
  es : ∃ t p, w.var? Tryz.prog "strconv.ErrSyntax" = some #[.iface t p]
  er : ∃ t p, w.var? Tryz.prog "strconv.ErrRange" = some #[.iface t p]
theorem var_below {w w' : World} {n : String} {cs : Array Value} (h : w.var? Tryz.prog n = some cs) (hb : Below w.heap.size w w') : w'.var? Tryz.prog n = some cs := by
  unfold World.var? at *
  cases hg : Tryz.prog.globalNamed n with
  | none => simp [hg] at h
  | some g =>
    simp only [hg, Option.bind_some] at h ⊢
    have hlt : g < w.heap.size := by
      rcases Nat.lt_or_ge g w.heap.size with h' | h'
      · exact h'
      · rw [Array.getElem?_eq_none h'] at h; simp at h
    rw [hb.block g hlt]
    exact h
theorem Lw.below {w w' : World} (h : Lw w) (hb : Below w.heap.size w w') : Lw w' :=
  ⟨var_below h.tab hb, h.es.imp fun _ => Exists.imp fun _ h => var_below h hb, h.er.imp fun _ => Exists.imp fun _ h => var_below h hb⟩

theorem itoa_lib (n : Int) (h0 : -9223372036854775808 ≤ n) (h1 : n ≤ 9223372036854775807) (w : World) (hL : Lw w) :
    Calls Tryz.prog 212 #[.int .i64 n] w fun e w' => e = .returned (.string ⟨(Lib.itoa n).toArray⟩) ∧ Below w.heap.size w w' :=
  (Tryz.strconv_Itoa n h0 h1 w hL.tab).mono fun e w' ⟨he, k, os, hw⟩ => ⟨he, hw ▸ Lib.below_grow _ w (Nat.le_refl _) k os⟩
theorem text_any (n : Int) (h0 : -9223372036854775808 ≤ n) (h1 : n ≤ 9223372036854775807) (w : World) (hL : Lw w) :
    Calls Tryz.prog 182 #[.int .i64 n] w fun e w' => e = .returned (.string ⟨(Lib.itoa n).toArray⟩) ∧ Below w.heap.size w w' := by
  have hc := fun w hL => itoa_lib n h0 h1 w hL
  generalize (⟨(Lib.itoa n).toArray⟩ : ByteArray) = t at hc ⊢
  go_enter Tryz.func182, Tryz.ntmps182
  go_wp2_with (go_at_call 212; refine (hc _ hL).mono ?_; rintro e w1 ⟨rfl, hb⟩)
  go_ret
  exact ⟨rfl, hb⟩

/-- How strconv.Atoi ends at a numeral. -/
theorem atoi_ok (s : ByteArray) (hmax : s.size ≤ 9223372036854775806) (v : Int) (h : Lib.atoiAll s.data.toList = .ok v) (w : World) :
    Calls Tryz.prog 181 #[.string s] w fun e w' => e = .returned (.tuple #[.int .i64 v, .nilIface]) ∧ Below w.heap.size w w' :=
  (Tryz.strconv_Atoi_ok s hmax v h w).mono fun e w' ⟨he, hw⟩ => ⟨he, by
    rcases hw with rfl | ⟨t, rfl⟩
    · exact Below.refl _ _
    · exact Lib.bytesWorld_below _ _ _⟩

theorem atoi_bd {l : List UInt8} {v : Int} (h : Lib.atoiAll l = .ok v) : -9223372036854775808 ≤ v ∧ v ≤ 9223372036854775807 := by
  unfold Lib.atoiAll at h
  split at h
  · cases h
  · simp only at h
    split at h
    · cases h
    · cases h
    · split at h
      · cases h
      · split at h
        · cases h
        · injection h with h
          subst h
          split <;> omega

set_option maxHeartbeats 1000000 in
theorem read_bad (s : ByteArray) (hlim : s.size ≤ 281474976710656) (h : ∀ v, Lib.atoiAll s.data.toList ≠ .ok v) (w : World) (hL : Lw w) :
    Calls Tryz.prog 129 #[.string s] w fun e w' => e = two none ∧ Below w.heap.size w w' := by
  obtain ⟨⟨t1, p1, h1⟩, ⟨t2, p2, h2⟩⟩ := And.intro hL.es hL.er
  have hc := Tryz.atoi_bad s hlim h w t1 t2 p1 p2 h1 h2
  clear h h1 h2 hL
  go_enter Tryz.func129, Tryz.ntmps129
  go_wp2_with (go_at_call 181; refine hc.mono ?_; rintro e w1 ⟨n, t, N, rfl, hb⟩)
  go_ret2
  exact ⟨rfl, hb⟩

set_option maxHeartbeats 1000000 in
theorem read_unsafe (s : ByteArray) (hmax : s.size ≤ 9223372036854775806) (v : Int) (h : Lib.atoiAll s.data.toList = .ok v) (hs : sf v = false) (w : World) :
    Calls Tryz.prog 129 #[.string s] w fun e w' => e = two none ∧ Below w.heap.size w w' := by
  have hc := atoi_ok s hmax v h w
  clear h
  go_enter Tryz.func129, Tryz.ntmps129
  go_wp2_with (first | (go_at_call 181; refine hc.mono ?_; rintro e w1 ⟨rfl, hb⟩) | (go_at_call 152; refine (safe_any _ _).mono ?_; rintro e w' ⟨rfl, rfl⟩))
  go_ret2
  exact ⟨rfl, hb⟩

set_option maxHeartbeats 1000000 in
theorem read_other (s : ByteArray) (hmax : s.size ≤ 9223372036854775806) (v : Int) (h : Lib.atoiAll s.data.toList = .ok v) (hs : sf v = true) (hne : Lib.itoa v ≠ s.data.toList) (w : World) (hL : Lw w) :
    Calls Tryz.prog 129 #[.string s] w fun e w' => e = two none ∧ Below w.heap.size w w' := by
  have hc := atoi_ok s hmax v h w
  have ht := fun w hL => text_any v (by have := atoi_bd h; omega) (by have := atoi_bd h; omega) w hL
  clear h
  obtain ⟨t, e⟩ : ∃ t : ByteArray, (⟨(Lib.itoa v).toArray⟩ : ByteArray) = t := ⟨_, rfl⟩
  have hts : t.toList ≠ s.toList := fun hh => hne (by rw [ByteArray.toList_eq, ByteArray.toList_eq, ← e] at hh; exact hh)
  rw [e] at ht
  clear e hne
  have hts2 : (t.toList == s.toList) = false := by simpa using hts
  clear hts
  go_enter Tryz.func129, Tryz.ntmps129
  go_wp2_with (first | (go_at_call 181; refine hc.mono ?_; rintro e w1 ⟨rfl, hb⟩; have hL1 := hL.below hb) | (go_at_call 152; refine (safe_any _ _).mono ?_; rintro e w' ⟨rfl, rfl⟩) | (go_at_call 182; refine (ht _ hL1).mono ?_; rintro e w2 ⟨rfl, hb2⟩))
  go_ret2
  exact ⟨rfl, hb.trans (hb2.mono hb.size)⟩

set_option maxHeartbeats 1000000 in
theorem read_yes (s : ByteArray) (hmax : s.size ≤ 9223372036854775806) (v : Int) (h : Lib.atoiAll s.data.toList = .ok v) (hs : sf v = true) (heq : Lib.itoa v = s.data.toList) (w : World) (hL : Lw w) :
    Calls Tryz.prog 129 #[.string s] w fun e w' => e = two (some v) ∧ Below w.heap.size w w' := by
  have hc := atoi_ok s hmax v h w
  have ht := fun w hL => text_any v (by have := atoi_bd h; omega) (by have := atoi_bd h; omega) w hL
  clear h
  have e : (⟨(Lib.itoa v).toArray⟩ : ByteArray) = s := by rw [heq]
  rw [e] at ht
  clear e heq
  go_enter Tryz.func129, Tryz.ntmps129
  go_wp2_with (first | (go_at_call 181; refine hc.mono ?_; rintro e w1 ⟨rfl, hb⟩; have hL1 := hL.below hb) | (go_at_call 152; refine (safe_any _ _).mono ?_; rintro e w' ⟨rfl, rfl⟩) | (go_at_call 182; refine (ht _ hL1).mono ?_; rintro e w2 ⟨rfl, hb2⟩))
  go_ret2
  exact ⟨rfl, hb.trans (hb2.mono hb.size)⟩

theorem read_any (s : ByteArray) (hlim : s.size ≤ 281474976710656) (w : World) (hL : Lw w) :
    Calls Tryz.prog 129 #[.string s] w fun e w' => e = two (readF s.data.toList) ∧ Below w.heap.size w w' := by
  by_cases h : ∃ v, Lib.atoiAll s.data.toList = .ok v
  · obtain ⟨v, h⟩ := h
    rw [readF_atoi h]
    cases hs : sf v with
    | false => rw [if_neg (by simp)]; exact read_unsafe s (by omega) v h hs w
    | true =>
      by_cases heq : Lib.itoa v = s.data.toList
      · rw [if_pos ⟨rfl, heq⟩]; exact read_yes s (by omega) v h hs heq w hL
      · rw [if_neg (fun hh => heq hh.2)]; exact read_other s (by omega) v h hs heq w hL
  · rw [readF_atoi_no fun v hv => h ⟨v, hv⟩]
    exact read_bad s hlim (fun v hv => h ⟨v, hv⟩) w hL
end Go.Proofs.YtkknglmpdmhhjaaGreatDoor.Nums

/-
  lex.sign; what the listed variables give, kept.
-/
namespace Go.Proofs.YtkknglmpdmhhjaaGreatDoor.Lx
open Go.RowKit Go.Proofs.YtkknglmpdmhhjaaGreatDoor.Uni
set_option linter.unusedVariables false
set_option linter.unusedSimpArgs false

/-- The punctuators as cells. -/
def sgL : List Value := signs.map fun s => Value.string (bs s)
def sgA : Array Value := sgL.toArray

/-- What a call of the lexer reads of the package's and the library's variables. -/
structure Fa (w : World) : Prop where
  lw : Nums.Lw w
  ml : Ml w
  sg : w.rangeAt 0 0 sgL

theorem var_keep {w w' : World} {n : String} {g : Nat} {cs : Array Value} (hg : Tryz.prog.globalNamed n = some g) (h : w.var? Tryz.prog n = some cs) (hk : g < w.heap.size → w'.heap[g]? = w.heap[g]?) : w'.var? Tryz.prog n = some cs := by
  unfold World.var? at *
  simp only [hg, Option.bind_some] at h ⊢
  have hlt : g < w.heap.size := by
    rcases Nat.lt_or_ge g w.heap.size with h' | h'
    · exact h'
    · rw [Array.getElem?_eq_none h'] at h; cases h
  rw [hk hlt]
  exact h
theorem cell_keep {w w' : World} {b o : Nat} {v : Value} (h : w.cell? ⟨b, o, none⟩ = some v) (hk : b < w.heap.size → w'.heap[b]? = w.heap[b]?) : w'.cell? ⟨b, o, none⟩ = some v := by
  rw [World.cell?_of_block (w := w) (hk (World.block_lt_of_cell? w _ h))]
  exact h
theorem gPow : Tryz.prog.globalNamed "internal/strconv.uint64pow10" = some 5 := by kernel_rfl
theorem gSyn : Tryz.prog.globalNamed "strconv.ErrSyntax" = some 3 := by kernel_rfl
theorem gRan : Tryz.prog.globalNamed "strconv.ErrRange" = some 4 := by kernel_rfl

/-- It speaks of the first few blocks alone. -/
theorem Fa.keep {w w' : World} (h : Fa w) (hk : ∀ k, k < 7 → k < w.heap.size → w'.heap[k]? = w.heap[k]?) : Fa w' := by
  obtain ⟨⟨h1, ⟨t2, p2, h2⟩, ⟨t3, p3, h3⟩⟩, ⟨m, h4⟩, h5⟩ := h
  refine ⟨⟨var_keep gPow h1 (hk _ (by decide)), ⟨t2, p2, var_keep gSyn h2 (hk _ (by decide))⟩, ⟨t3, p3, var_keep gRan h3 (hk _ (by decide))⟩⟩, ⟨m, cell_keep h4 (hk _ (by decide))⟩, fun j v hj => cell_keep (h5 j v hj) (hk _ (by decide))⟩
theorem Fa.gb {g : Nat} {w w' : World} (h : Fa w) (hg : 7 ≤ g) (k : GB g w w') : Fa w' := h.keep fun i hi hl => k.block i hl (by intro e; cases e; omega)
theorem Fa.below {w w' : World} (h : Fa w) (k : Below w.heap.size w w') : Fa w' := h.keep fun i _ hl => k.block i hl
theorem Fa.later {B : Nat} {w w' : World} (h : Fa w) (hB : 7 ≤ B) (k : Below B w w') : Fa w' := h.keep fun i hi _ => k.block i (by omega)

theorem size_sg : (Tryz.prog.info? 159).map (·.size) = some 26 := by kernel_rfl
def LdS (v : Value) : Sem Value := Instr.loadAt 159 v
theorem ldS (v : Value) : Instr.loadAt 159 v = LdS v := (rfl)
theorem load_sg {w : World} (h : w.rangeAt 0 0 sgL) : (LdS (.pointer (some ⟨0, 0, none⟩))).run Tryz.prog w = .ok (.agg sgA) w :=
  run_loadAt_mid (P := Tryz.prog) w _ 0 159 sgL _ h Tryz.underlying159 rfl size_sg
set_option maxRecDepth 100000 in
theorem index_sg (k : Nat) (hk : k < 26) (w : World) : (Instr.index 159 (.agg sgA) (.int .i64 (k : Int))).run Tryz.prog w = .ok (.string (bs (signs.getD k []))) w := by
  rcases (by omega : k = 0 ∨ k = 1 ∨ k = 2 ∨ k = 3 ∨ k = 4 ∨ k = 5 ∨ k = 6 ∨ k = 7 ∨ k = 8 ∨ k = 9 ∨ k = 10 ∨ k = 11 ∨ k = 12 ∨ k = 13 ∨ k = 14 ∨ k = 15 ∨ k = 16 ∨ k = 17 ∨ k = 18 ∨ k = 19 ∨ k = 20 ∨ k = 21 ∨ k = 22 ∨ k = 23 ∨ k = 24 ∨ k = 25) with rfl | rfl | rfl | rfl | rfl | rfl | rfl | rfl | rfl | rfl | rfl | rfl | rfl | rfl | rfl | rfl | rfl | rfl | rfl | rfl | rfl | rfl | rfl | rfl | rfl | rfl <;> rfl

theorem find_step (l : By) (k : Nat) (hk : k < 26) : (signs.drop k).find? (fun t => Lib.hasPrefix l t) = if Lib.hasPrefix l (signs.getD k []) then some (signs.getD k []) else (signs.drop (k + 1)).find? (fun t => Lib.hasPrefix l t) := by
  have hlen : signs.length = 26 := by decide
  have e : signs.drop k = signs.getD k [] :: signs.drop (k + 1) := by
    rw [List.drop_eq_getElem_cons (by omega), List.getD_eq_getElem?_getD, List.getElem?_eq_getElem (by omega)]
    rfl
  rw [e, List.find?_cons]
  cases Lib.hasPrefix l (signs.getD k []) <;> rfl

attribute [local go_sem ↓] ldS
attribute [local irreducible] sgA
set_option maxHeartbeats 1000000 in
theorem sign_any (s : ByteArray) (w : World) (hF : w.rangeAt 0 0 sgL) :
    Calls Tryz.prog 135 #[.string s] w fun e w' => e = .returned (.tuple #[.string (bs ((signF s.data.toList).getD [])), .bool (signF s.data.toList).isSome]) ∧ w = w' := by
  have hld := load_sg hF
  have hix := index_sg
  clear hF
  go_enter Tryz.func135, Tryz.ntmps135
  go_wp2
  go_loopw [7] (fun v wr => ∃ k : Nat, v = .int .i64 (k : Int) ∧ k ≤ 26 ∧ wr = w ∧ Hid (signF s.data.toList = (signs.drop k).find? (fun t => Lib.hasPrefix s.data.toList t))) (fun v _ => 26 - (intOf v).toNat)
  case atStart => exact ⟨0, rfl, by omega, rfl, Lib.hid rfl⟩
  case round =>
    obtain ⟨k, rfl, hk, rfl, hf⟩ := hrel
    by_cases hlt : k < 26
    · have hki : (k : Int) < 26 := by omega
      have hx := fun w => hix k hlt w
      have hst := find_step s.data.toList k hlt
      have hp := fun w => Tryz.strings_HasPrefix s (bs (signs.getD k [])) w
      rw [bs_list] at hp
      obtain ⟨b, hb⟩ : ∃ b, Lib.hasPrefix s.data.toList (signs.getD k []) = b := ⟨_, rfl⟩
      obtain ⟨u, hu⟩ : ∃ u, signs.getD k [] = u := ⟨_, rfl⟩
      rw [hu] at hb hst hp hx
      rw [hb] at hp hst
      have HS := Lib.hid hst
      have HU := Lib.hid hu
      clear hst hb hu hix
      cases b with
      | true =>
        have hfin : signF s.data.toList = some u := by rw [hf.out, HS.out]; rfl
        have HF := Lib.hid hfin
        clear hfin
        go_wp2_with (go_at_call 73; refine (hp _).mono ?_; rintro e w' ⟨rfl, rfl⟩)
        go_ret2
        exact ⟨by rw [HF.out]; rfl, rfl⟩
      | false =>
        have hnx : signF s.data.toList = (signs.drop (k + 1)).find? (fun t => Lib.hasPrefix s.data.toList t) := by rw [hf.out, HS.out]; rfl
        have HN := Lib.hid hnx
        clear hnx
        go_wp2_with (go_at_call 73; refine (hp _).mono ?_; rintro e w' ⟨rfl, rfl⟩)
        go_roundw
        case rel => exact ⟨k + 1, by go_num, by omega, trivial, HN⟩
        case measure => simp [intOf]; omega
    · have hk26 : k = 26 := by omega
      subst hk26
      have hfin : signF s.data.toList = none := by rw [hf.out]; rfl
      have HF := Lib.hid hfin
      clear hfin
      go_wp2
      go_ret2
      exact ⟨by rw [HF.out]; rfl, rfl⟩
end Go.Proofs.YtkknglmpdmhhjaaGreatDoor.Lx
