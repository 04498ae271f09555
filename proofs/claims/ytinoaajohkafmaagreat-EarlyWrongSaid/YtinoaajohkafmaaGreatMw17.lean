/-
  Texts of this seat in build order: RlSign, RlOne, RlUtf, RpTake.
-/
import Derived.Test.YtinoaajohkafmaaGreatMw16
import Derived.Test.YtinoaajohkafmaaGreatMw00
/-
  The reference's lexer: signs.
-/
namespace Go.Proofs.YtinoaajohkafmaaGreat.Rl
open Go Go.RowKit Go.Proofs.YtinoaajohkafmaaGreat.Uni Go.Proofs.YtinoaajohkafmaaGreat.Lx
set_option linter.unusedVariables false
set_option linter.unusedSimpArgs false
theorem bs26 (ps : Array (Nat × Value)) : Instr.buildSlice 22 26 ps = BsS 26 ps := (rfl)
def sign_cs : Array Value := (strs signs).toArray
theorem run_signs (w : World) : (BsS 26 #[(0, .string ⟨#[61, 61, 61]⟩), (1, .string ⟨#[33, 61, 61]⟩), (2, .string ⟨#[38, 38]⟩), (3, .string ⟨#[124, 124]⟩), (4, .string ⟨#[60, 61]⟩), (5, .string ⟨#[62, 61]⟩), (6, .string ⟨#[123]⟩), (7, .string ⟨#[125]⟩), (8, .string ⟨#[40]⟩), (9, .string ⟨#[41]⟩), (10, .string ⟨#[91]⟩), (11, .string ⟨#[93]⟩), (12, .string ⟨#[59]⟩), (13, .string ⟨#[44]⟩), (14, .string ⟨#[46]⟩), (15, .string ⟨#[63]⟩), (16, .string ⟨#[58]⟩), (17, .string ⟨#[61]⟩), (18, .string ⟨#[60]⟩), (19, .string ⟨#[62]⟩), (20, .string ⟨#[43]⟩), (21, .string ⟨#[45]⟩), (22, .string ⟨#[42]⟩), (23, .string ⟨#[47]⟩), (24, .string ⟨#[37]⟩), (25, .string ⟨#[33]⟩)]).run Tryz.prog w = .ok (.slice (some ⟨w.heap.size, 0, none⟩) 26 26) (w.alloc (.cells sign_cs 9)) := by
  obtain ⟨i, hi, hz, hs, hb⟩ := info_parts infoS
  exact run_buildSlice w 22 9 26 _ sign_cs i (.string ⟨#[]⟩) Tryz.underlying22 hi hz (by rw [hs]; decide) (by rw [hs]; decide) (by rw [hs]; kernel_rfl)
theorem LxS.drew {g lo p : Nat} {s : ByteArray} {b : Bool} {T : List Tok} {w W : World} {S : Pa.Sl} (h : LxS g lo s p b T w W S) : LxS g lo s p b T w W.drew S := h.below (bl_drew (Below.refl _ W))
theorem LxS.appdd {g lo p : Nat} {s : ByteArray} {b : Bool} {T : List Tok} {w W : World} {S : Pa.Sl} (h : LxS g lo s p b T w W S) (hT : T.length ≤ 200000) (t : Tok) :
    ∃ a n c w', (Builtin.append_ #[49, 49] 49 #[.slice S.a S.n S.c, .slice (some ⟨W.heap.size, 0, none⟩) 1 1]).run Tryz.prog (W.alloc (.cells (kcs t) 73)).drew.drew = .ok (.slice a n c) w' ∧ LxAt g s p b S w' ∧ LxS g lo s p b (T ++ [t]) w (w'.setCell ⟨g, 3, none⟩ (.slice a n c)) ⟨a, n, c⟩ := h.drew.drew.app hT t
def sgn (k : Nat) : ByteArray := bs (signs.getD k [])
theorem sgn_size : ∀ k, k < 26 → 0 < (sgn k).size ∧ (sgn k).size ≤ 3 := by decide
structure SgI (g lo : Nat) (s : ByteArray) (p : Nat) (T : List Tok) (w wr : World) (S : Pa.Sl) (o i k : Nat) : Prop where
  ls : LxS g lo s p false T w wr S
  bk : Blk wr o sign_cs 9
  ki : k ≤ i
theorem SgI.go {g lo p o i k : Nat} {s : ByteArray} {T : List Tok} {w wr w1 : World} {S : Pa.Sl} (h : SgI g lo s p T w wr S o i k) (hb : Below wr.heap.size wr w1) (hk : k < i) : SgI g lo s p T w w1 S o i (k + 1) := ⟨h.ls.below hb, Blk.call h.bk hb, hk⟩
attribute [local irreducible] kcs
attribute [local go_sem ↓] bs26 bdK bsK
attribute [local go_sem] run_bdKs run_bsK
attribute [local go_sem] run_signs
set_option maxRecDepth 100000 in
set_option maxHeartbeats 4000000 in
theorem token_sign {g lo p : Nat} {s : ByteArray} {S : Pa.Sl} {T : List Tok} {w W : World} (h : LxS g lo s p false T w W S) (hs : s.size ≤ 1000000) (hp : p < s.size) (hl : leadN (B s p) = false) (hd : digitN (B s p) = false) (hq1 : B s p ≠ 34) (hq2 : B s p ≠ 39) (hT : T.length ≤ 200000) {i : Nat} (hi : i < 26) (hmin : ∀ j, j < i → restB s p (sgn j) = false) (hr : restB s p (sgn i) = true) :
    Calls Tryz.prog 35 #[ptr g] W fun r w' => r = .returned (.tuple #[]) ∧ ∃ S', LxS g lo s (p + (sgn i).size) false (T ++ [⟨5, p, 0, sgn i⟩]) w w' S' := by
  have hgl : g < W.heap.size := Blk.lt h.at_
  have h0 := h.at_.c0
  have h1 := h.at_.c1
  have hix := idx_p s p hp
  obtain ⟨y, hy⟩ : ∃ y, B s p = y := ⟨_, rfl⟩
  rw [hy] at hix hl hd hq1 hq2
  have cl := rlead_any y W
  rw [hl] at cl
  have cd := rdig_any y W
  rw [hd] at cd
  have m1 : ((y : Int) == 34) = false := by simp; omega
  have m2 : ((y : Int) == 39) = false := by simp; omega
  have hrs : p + (sgn i).size ≤ s.size := by
    unfold restB at hr
    simp only [Bool.and_eq_true, decide_eq_true_eq] at hr
    exact hr.1
  have HST := Lib.hid (SgI.mk (i := i) (k := 0) (h.below bel1) (Blk.new W sign_cs 9) (Nat.zero_le _))
  have HMIN := Lib.hid hmin
  clear h hmin hy
  go_enter Tryz.func35, Tryz.ntmps35
  go_wp2_with (first | (go_at_call 57; (with_reducible refine cl.mono ?_); rintro r w1 ⟨rfl, rfl⟩) | (go_at_call 58; (with_reducible refine cd.mono ?_); rintro r w2 ⟨rfl, rfl⟩))
  clear cl cd hix h0 h1
  go_loopw [9] (fun v wr => ∃ k : Nat, v = .int .i64 (k : Int) ∧ SgI g lo s p T w wr S W.heap.size i k) (fun v _ => 26 - (intOf v).toNat)
  case atStart => exact ⟨0, rfl, HST.out⟩
  case round =>
    obtain ⟨k, rfl, hI⟩ := hrel
    have hk26 : k < 26 := by have := hI.ki; omega
    have hki : (k : Int) < 26 := by omega
    have hk0 : (0 : Int) ≤ (k : Int) := by omega
    have hc := cs_at (ws := signs) rfl hI.bk k hk26
    have hsz := sgn_size k hk26
    have cr := rest_any (t := sgn k) hI.ls.at_ hs (by omega) (Nat.le_of_lt hp)
    have HI := Lib.hid hI
    clear hI HST
    have hc2 : _ = some (Value.string (sgn k)) := hc
    clear hc
    by_cases hlt : k < i
    · rw [HMIN.out k hlt] at cr
      go_wp2_with (go_at_call 55; (with_reducible refine cr.mono ?_); rintro r w1 ⟨rfl, hb⟩; have HN := Lib.hid (HI.out.go hb hlt); clear hb)
      go_roundw
      case rel => exact ⟨k + 1, by go_num, HN.out⟩
      case measure => simp [intOf]; omega
    · have hke : k = i := by have := HI.out.ki; omega
      subst hke
      rw [hr] at cr
      have hsz3 : ((sgn k).size : Int) ≤ 3 := by omega
      have hps : (p : Int) + ((sgn k).size : Int) ≤ (s.size : Int) := by omega
      go_wp2_with (go_at_call 55; (with_reducible refine cr.mono ?_); rintro r w1 ⟨rfl, hb⟩; have L1 := HI.out.ls.below hb; have B1 := Blk.call HI.out.bk hb; have e1 := L1.drew.at_.c1; have f1 := L1.drew.at_.fz 1; have k1 : _ = some (Value.string (sgn k)) := cs_at (ws := signs) rfl (Blk.drew B1) k hk26; have L2 := L1.set1 (p + (sgn k).size); rw [Int.natCast_add] at L2; have B3 := Blk.drew (Blk.drew (Blk.other B1 ⟨g, 1, none⟩ (.int .i64 ((p : Int) + ((sgn k).size : Int))) (by simp; omega))); have k3 : _ = some (Value.string (sgn k)) := cs_at (ws := signs) rfl B3 k hk26; have e3 := L2.drew.drew.at_.c3; have e3a := (L2.below (bel1 (o := .cells (kcs ⟨5, p, 0, sgn k⟩) 73))).drew.drew.at_.c3; obtain ⟨a6, n6, cc6, w6, hrun, A6, L6⟩ := L2.appdd hT ⟨5, p, 0, sgn k⟩; have ez : (w1.setCell ⟨g, 1, none⟩ (.int .i64 ((p : Int) + ((sgn k).size : Int)))).heap.size = w1.heap.size := (by simp [World.setCell]); rw [ez] at hrun; have f6 := A6.fz 3; have d6 := A6.c3; have HL6 := Lib.hid L6; clear hb L1 B1 L2 B3 A6 L6 ez)
      clear cr
      go_region
      all_goals go_wp2
      all_goals go_region_law (refine Pa.step_app rfl (.tmp 50) (.tmp 57) 49 rfl rfl _ _ _ (by simp [Act.eval, Act.put]) (by simp [Act.eval, Act.put]) hrun ?_)
      all_goals (
        go_wp2
        refine bodyPost_ret (results_none rfl _ _ _) rfl ?_
        exact ⟨rfl, _, HL6.out⟩)
end Go.Proofs.YtinoaajohkafmaaGreat.Rl

/-
  The reference's lexer: the number one.
-/
namespace Go.Proofs.YtinoaajohkafmaaGreat.Rl
open Go Go.RowKit Go.Proofs.YtinoaajohkafmaaGreat.Uni Go.Proofs.YtinoaajohkafmaaGreat.Lx
set_option linter.unusedVariables false
set_option linter.unusedSimpArgs false
theorem w_one : wrap64 (wrap64 (wrap64 ((49 : Nat) : Int)) - 48) = 1 := by unfold wrap64; omega
theorem one_step {g lo p n : Nat} {s : ByteArray} {S : Pa.Sl} {T : List Tok} {w wr : World} (h : LxS g lo s p false T w wr S) (hp : p + 1 < s.size) : LxS g lo s (p + 1) false T w ((wr.drewN n).setCell ⟨g, 1, none⟩ (.int .i64 ((p : Int) + 1))) S ∧ measL g s.size ((wr.drewN n).setCell ⟨g, 1, none⟩ (.int .i64 ((p : Int) + 1))) < measL g s.size wr := by
  have ha : LxS g lo s (p + 1) false T w ((wr.drewN n).setCell ⟨g, 1, none⟩ (.int .i64 ((p : Int) + 1))) S := (h.drewN n).set1 (p + 1)
  refine ⟨ha, ?_⟩
  rw [ha.at_.meas, h.at_.meas]
  omega
set_option maxRecDepth 100000 in
set_option maxHeartbeats 800000 in
theorem token_one {g lo p : Nat} {s : ByteArray} {S : Pa.Sl} {T : List Tok} {w W : World} (h : LxS g lo s p false T w W S) (hs : s.size ≤ 1000000) (hp : p + 1 < s.size) (hb : B s p = 49) (hl2 : leadN (B s (p + 1)) = false) (hd2 : digitN (B s (p + 1)) = false) (hT : T.length ≤ 200000) :
    Calls Tryz.prog 35 #[ptr g] W fun r w' => r = .returned (.tuple #[]) ∧ ∃ S', LxS g lo s (p + 1) false (T ++ [⟨3, p, 1, ⟨#[]⟩⟩]) w w' S' := by
  have h0 := h.at_.c0
  have h1 := h.at_.c1
  have hix := idx_p s p (by omega)
  have hb0 : leadN (B s p) = false := by rw [hb]; rfl
  have hb1 : digitN (B s p) = true := by rw [hb]; rfl
  have cl : ∀ w, Calls Tryz.prog 57 #[.int .u8 (B s p : Nat)] w fun e w' => e = .returned (.bool false) ∧ w' = w := fun w => by have := rlead_any (B s p) w; rw [hb0] at this; exact this.mono fun _ _ h => ⟨h.1, h.2.symm⟩
  have cd : ∀ w, Calls Tryz.prog 58 #[.int .u8 (B s p : Nat)] w fun e w' => e = .returned (.bool true) ∧ w' = w := fun w => by have := rdig_any (B s p) w; rw [hb1] at this; exact this.mono fun _ _ h => ⟨h.1, h.2.symm⟩
  have cl2 : ∀ w, Calls Tryz.prog 57 #[.int .u8 (B s (p + 1) : Nat)] w fun e w' => e = .returned (.bool false) ∧ w' = w := fun w => by rw [← hl2]; exact (rlead_any _ w).mono fun _ _ h => ⟨h.1, h.2.symm⟩
  have cd2 : ∀ w, Calls Tryz.prog 58 #[.int .u8 (B s (p + 1) : Nat)] w fun e w' => e = .returned (.bool false) ∧ w' = w := fun w => by rw [← hd2]; exact (rdig_any _ w).mono fun _ _ h => ⟨h.1, h.2.symm⟩
  have HST := Lib.hid h
  have HCL := Lib.hid cl
  have HCD := Lib.hid cd
  have HCL2 := Lib.hid cl2
  have HCD2 := Lib.hid cd2
  have HB := Lib.hid hb
  have HP := Lib.hid hp
  clear h cl cd cl2 cd2 hl2 hd2 hb hb0 hb1
  go_enter Tryz.func35, Tryz.ntmps35
  go_wp2_with (first | (go_at_call 57; (with_reducible refine (HCL.out _).mono ?_); rintro r w1 ⟨rfl, hw⟩; subst w1) | (go_at_call 58; (with_reducible refine (HCD.out _).mono ?_); rintro r w1 ⟨rfl, hw⟩; subst w1))
  go_loopw [6, 7] (fun n lg wr => ∃ j : Nat, j ≤ 1 ∧ n = .int .i64 (j : Int) ∧ lg = .bool false ∧ LxS g lo s (p + j) false T w wr S) (fun _ _ wr => measL g s.size wr)
  case atStart => exact ⟨0, by omega, rfl, rfl, HST.out⟩
  case round =>
    obtain ⟨j, hj, rfl, rfl, hI⟩ := hrel
    obtain ⟨q, hq⟩ : ∃ q, p + j = q := ⟨_, rfl⟩
    rw [hq] at hI
    have h0 := hI.at_.c0
    have h1 := hI.at_.c1
    have f1 := hI.at_.fz 1
    have HI := Lib.hid hI
    clear hI HST hix
    have hqs : q < s.size := by omega
    have hqi : decide ((q : Int) < (s.size : Int)) = true := by simp; omega
    have hix := idx_p s q hqs
    have hwr : IntKind.i64.wrap ((q : Int) + 1) = (q : Int) + 1 := by rw [IntKind.wrap_i64]; omega
    rcases (by omega : j = 0 ∨ j = 1) with rfl | rfl
    · obtain rfl : p = q := by omega
      clear hp hq hj
      go_wp2
      go_quiet ((go_at_call 58; exact Calls.quiet_of_same (HCD.out _)))
      go_wp2
      go_quiet (fail)
      go_wp2
      exact ⟨⟨1, Nat.le_refl _, by rw [HB.out, w_one]; rfl, by rw [HB.out, w_one]; rfl, (one_step HI.out HP.out).1⟩, (one_step HI.out HP.out).2⟩
    · rw [hq] at HCD2 HCL2
      have HQ := Lib.hid hq
      have hb48 : (((B s p : Nat) : Int) == 48) = false := by rw [HB.out]; rfl
      clear hp hq hj
      go_wp2
      go_quiet ((go_at_call 58; exact Calls.quiet_of_same (HCD2.out _)))
      go_wp2
      obtain ⟨k1, hk1⟩ : ∃ k, k = nq := ⟨_, rfl⟩
      subst hk1
      go_quiet ((go_at_call 57; exact (HCL2.out _).mono fun e w2 h => ⟨h.1, _, h.2⟩))
      obtain ⟨wq, hwq⟩ : ∃ u, u = (wr.drewN k1).drewN nq := ⟨_, rfl⟩
      have L1 : LxS g lo s q false T w wq S := by rw [hwq]; exact (HI.out.drewN k1).drewN nq
      rw [← hwq]
      have h3 := L1.at_.c3
      obtain ⟨a6, n6, cc6, w6, hrun, A6, L6⟩ := L1.app hT ⟨3, p, 1, ⟨#[]⟩⟩
      have f6 := A6.fz 3
      have d6 := A6.c3
      have HL6 := Lib.hid L6
      clear L1 A6 L6 hwq h0 h1 f1 hix
      go_wp2_with (at_builtin; refine wpList_app rfl _ _ 49 rfl rfl (.slice S.a S.n S.c) (.slice (some ⟨wq.heap.size, 0, none⟩) 1 1) _ rfl rfl hrun ?_)
      go_end0
      have hqq := HQ.out
      subst hqq
      exact ⟨rfl, _, HL6.out⟩
end Go.Proofs.YtinoaajohkafmaaGreat.Rl

/-
  The reference's Utf8 at a text of ASCII.
-/
namespace Go.Proofs.YtinoaajohkafmaaGreat.Rl
open Go Go.RowKit Go.Proofs.YtinoaajohkafmaaGreat.Uni Go.Proofs.YtinoaajohkafmaaGreat.Lx
set_option linter.unusedVariables false
set_option linter.unusedSimpArgs false
set_option maxRecDepth 100000 in
set_option maxHeartbeats 2000000 in
theorem utf8_ascii (s : ByteArray) (w : World) (hs : s.size ≤ 1000000) (ha : ∀ j, j < s.size → B s j < 128) :
    Calls Tryz.prog 33 #[.string s] w fun e w' => e = .returned (.tuple #[.int .i64 0, .bool true]) ∧ w' = w := by
  have HA := Lib.hid ha
  clear ha
  go_enter Tryz.func33, Tryz.ntmps33
  go_wp2
  go_loopw [4] (fun v wr => ∃ k : Nat, v = .int .i64 (k : Int) ∧ k ≤ s.size ∧ wr = w) (fun v _ => s.size - (intOf v).toNat)
  case atStart => exact ⟨0, rfl, by omega, rfl⟩
  case round =>
    obtain ⟨k, rfl, hk, rfl⟩ := hrel
    by_cases hlt : k < s.size
    · have hki : (k : Int) < s.size := by omega
      have hb := HA.out k hlt
      have cp := point_1 s k wr (by omega) hlt hb
      have hp : Calls Tryz.prog 54 #[.string s, .int .i64 k] wr fun e w' => e = .returned (.tuple #[.int .i64 (B s k : Nat), .int .i64 1]) ∧ wr = w' := by
        refine cp.mono ?_
        rintro e w' ⟨rfl, rfl⟩
        exact ⟨by rw [pt_ascii hb]; rfl, rfl⟩
      obtain ⟨y, hy⟩ : ∃ y, B s k = y := ⟨_, rfl⟩
      rw [hy] at hp hb
      have hy2 : decide ((55296 : Int) ≤ (y : Int)) = false := by simp; omega
      have hwk : IntKind.i64.wrap ((k : Int) + 1) = (k : Int) + 1 := by rw [IntKind.wrap_i64]; omega
      clear hb
      clear cp hy
      go_wp2_with (go_at_call 54; refine hp.mono ?_; rintro e w1 ⟨rfl, rfl⟩)
      go_roundw
      case rel => exact ⟨k + 1, by go_num, by omega, trivial⟩
      case measure => simp [intOf]; omega
    · have hke : k = s.size := by omega
      subst hke
      go_wp2
      go_ret2
      exact ⟨rfl, rfl⟩
end Go.Proofs.YtinoaajohkafmaaGreat.Rl

/-
  The reference's parser: is, fail, take, want, name, word, enter.
-/
namespace Go.Proofs.YtinoaajohkafmaaGreat.Rp
open Go Go.RowKit Go.Proofs.YtinoaajohkafmaaGreat.Uni Go.Proofs.YtinoaajohkafmaaGreat.Pa
open Go.Proofs.YtinoaajohkafmaaGreat.Lx
set_option linter.unusedVariables false
set_option linter.unusedSimpArgs false
attribute [local go_sem ↓] ldK stK alK bdK bsK
attribute [local irreducible] kcs
attribute [local go_sem] run_alK run_bdK0 run_bdKs run_bdKn run_bdKe run_bsK run_fdK0 run_fdK1 run_fdK2 run_fdK3 run_fdN4
theorem Opn.below {g d : Nat} {s : PS} {w w' : World} {b o c n k : Nat} {D : Int} {T : Tok} (h : Opn g d s w b o c n k D T) (hb : Below w.heap.size w w') : Opn g d s w' b o c n k D T := by
  have hlt := World.block_lt_of_cell? w _ h.c0
  have e := hb.block g hlt
  have hc : ∀ i, w'.cell? ⟨g, i, none⟩ = w.cell? ⟨g, i, none⟩ := fun i => by simp only [World.cell?, e]
  refine ⟨by rw [hc]; exact h.c0, by rw [hc]; exact h.c1, by rw [hc]; exact h.c2, by rw [hc]; exact h.c3, by rw [hc]; exact h.c4, fun i => by have := h.fz i; simp only [World.frozen?, e] at this ⊢; exact this, fun j u hj => ?_, h.kn, h.nc, h.n5, h.lv⟩
  have := h.rg j u hj
  have e2 := hb.block b (World.block_lt_of_cell? w _ this)
  simp only [World.cell?, e2] at this ⊢
  exact this
set_option maxRecDepth 100000 in
set_option maxHeartbeats 2000000 in
theorem is_raw {g d : Nat} {s : PS} {w : World} {b o c n k : Nat} {D : Int} {T : Tok} (h : At g d s w) (ho : Opn g d s w b o c n k D T) (x : ByteArray) :
    Calls Tryz.prog 37 #[.pointer (some ⟨g, 0, none⟩), .string x] w (PostR w (.bool (markF T && eqT T.text x))) := by
  have hn := now_opn h ho
  have e : eqT T.text x = (T.text.toList == x.toList) := by unfold eqT; rw [ByteArray.toList_eq, ByteArray.toList_eq]
  unfold markF
  rw [e]
  clear e
  have c0 : ∀ w : World, (w.alloc (.cells (kcs T) 73)).cell? ⟨w.heap.size, 0, none⟩ = some (.int .i64 T.kind) := fun w => ((Blk.new w (kcs T) 73).cell 0).trans (kcs_0 _)
  have c3 : ∀ w : World, (w.alloc (.cells (kcs T) 73)).cell? ⟨w.heap.size, 3, none⟩ = some (.string T.text) := fun w => ((Blk.new w (kcs T) 73).cell 3).trans (kcs_3 _)
  have s0 := fun w => run_stKg w w.heap.size T zeroK rfl
  obtain ⟨q2, f2⟩ : ∃ q, (T.kind == 2) = q := ⟨_, rfl⟩
  obtain ⟨q5, f5⟩ : ∃ q, (T.kind == 5) = q := ⟨_, rfl⟩
  obtain ⟨q6, f6⟩ : ∃ q, (T.text.toList == x.toList) = q := ⟨_, rfl⟩
  rw [f2, f5, f6]
  clear h ho
  cases q2; cases q5
  all_goals (
    go_enter Tryz.func37, Tryz.ntmps37
    go_wp2_with (go_at_call 36; (with_reducible refine hn.mono ?_); rintro e w1 ⟨rfl, hb⟩; have d0 := c0 w1; have d3 := c3 w1; have HB := Lib.hid hb; clear hb)
    go_ret
    exact ⟨rfl, HB.out.trans (bel1.mono HB.out.size)⟩)
theorem is_any {g d : Nat} {s : PS} {w : World} (h : At g d s w) (hf : s.fault = 0) (x : ByteArray) :
    Calls Tryz.prog 37 #[.pointer (some ⟨g, 0, none⟩), .string x] w (PostR w (.bool (seesF x s))) := by
  obtain ⟨b, o, c, n, k, D, T, ho⟩ := h.opn
  have := is_raw h ho x
  rw [(ho.lv hf).1] at this
  exact this
set_option maxRecDepth 100000 in
set_option maxHeartbeats 2000000 in
theorem fail_0 {g d : Nat} {s : PS} {w : World} (h : At g d s w) (hf : s.fault = 0) {e : Int} (he : e ≠ 0) :
    Calls Tryz.prog 78 #[.pointer (some ⟨g, 0, none⟩), .int .i64 e] w (Post g d w (.tuple #[]) (s.fail e)) := by
  obtain ⟨b, o, c, n, k, D, T, ho⟩ := h.opn
  have hT := (ho.lv hf).1
  subst hT
  have hlt := h.lt
  have A3 := h.set3 he
  have c3 := ho.c3
  rw [hf] at c3
  have f3 := ho.fz 3
  have hx : ∀ i, i ≠ 3 → (w.setCell ⟨g, 3, none⟩ (.int .i64 e)).cell? ⟨g, i, none⟩ = w.cell? ⟨g, i, none⟩ := fun i hi => World.cell?_setCell_other _ _ _ _ (by simp [hi])
  have hbg : b ≠ g := by
    obtain ⟨-, v, L, k', D', h1, ⟨b', o', cur, h2, h3, -⟩, -⟩ := h
    have := ho.c0
    simp only [World.cell?, h1] at this
    rw [h2] at this
    simp [Sl.v] at this
    rw [← this.1.1]
    exact h3
  have hrg : (w.setCell ⟨g, 3, none⟩ (.int .i64 e)).rangeAt b (o + k * 4) (kcs s.next).toList := fun j u hj => by
    rw [World.cell?_setCell_other _ _ _ _ (by simp [hbg])]
    exact ho.rg j u hj
  have hn := now_raw (g := g) (w := w.setCell ⟨g, 3, none⟩ (.int .i64 e)) (by simpa using hlt) (by rw [hx 0 (by decide)]; exact ho.c0) (by rw [hx 1 (by decide)]; exact ho.c1) hrg ho.kn ho.n5
  obtain ⟨p0, hp0⟩ : ∃ p, s.pos = p := ⟨_, rfl⟩
  have e0 : s.fail e = ⟨[stopK], s.next.pos, e⟩ := by unfold PS.fail; rw [if_pos hf]
  rw [e0]
  have HA := Lib.hid A3
  have HLT := Lib.hid hlt
  have HE := Lib.hid he
  clear h ho hf A3 hx hrg hbg hlt e0 he
  go_enter Tryz.func78, Tryz.ntmps78
  go_wp2_with (go_at_call 36; (with_reducible refine hn.mono ?_); rintro e w1 ⟨rfl, hb⟩; have A1 := HA.out.below hb; obtain ⟨b', o', c', n', k', D', T', ho'⟩ := A1.opn; have c4 := ho'.c4; have f4 := ho'.fz 4; have HA1 := Lib.hid A1; have HB1 := Lib.hid hb; clear hb A1 ho')
  go_end0
  exact ⟨rfl, HA1.out.set4 HE.out _, ((GB.set _ _ _).trans (GB.of HB1.out)).trans (GB.set _ _ _)⟩
set_option maxRecDepth 100000 in
set_option maxHeartbeats 2000000 in
theorem fail_1 {g d : Nat} {s : PS} {w : World} (h : At g d s w) (hf : s.fault ≠ 0) (e : Int) :
    Calls Tryz.prog 78 #[.pointer (some ⟨g, 0, none⟩), .int .i64 e] w (Post g d w (.tuple #[]) s) := by
  obtain ⟨b, o, c, n, k, D, T, ho⟩ := h.opn
  have c3 := ho.c3
  have e0 : (s.fault == 0) = false := by simpa using hf
  have HA := Lib.hid h
  clear h ho hf
  go_enter Tryz.func78, Tryz.ntmps78
  go_wp2
  go_end0
  exact ⟨rfl, HA.out, GB.refl _ _⟩
theorem fail_any {g d : Nat} {s : PS} {w : World} (h : At g d s w) {e : Int} (he : e ≠ 0) :
    Calls Tryz.prog 78 #[.pointer (some ⟨g, 0, none⟩), .int .i64 e] w (Post g d w (.tuple #[]) (s.fail e)) := by
  by_cases hf : s.fault = 0
  · exact fail_0 h hf he
  · have e0 : s.fail e = s := by unfold PS.fail; rw [if_neg hf]
    rw [e0]
    exact fail_1 h hf e
set_option maxRecDepth 100000 in
set_option maxHeartbeats 2000000 in
theorem take_t {g d : Nat} {s : PS} {w : World} (h : At g d s w) {x : ByteArray} (hx : seesF x s = true) :
    Calls Tryz.prog 79 #[.pointer (some ⟨g, 0, none⟩), .string x] w (Post g d w (.bool true) s.take) := by
  have hk := sees_kind hx
  have hf := h.ok.live (fun e => hk (.inr e))
  obtain ⟨b, o, c, n, k, D, T, ho⟩ := h.opn
  have c3 := ho.c3
  rw [hf] at c3
  have ci := is_any h hf x
  rw [hx] at ci
  have n5 := ho.n5
  have kn := ho.kn
  have HA := Lib.hid h
  have HO := Lib.hid ho
  have HK := Lib.hid hk
  clear h ho hf hk hx
  go_enter Tryz.func79, Tryz.ntmps79
  go_wp2_with (go_at_call 37; (with_reducible refine ci.mono ?_); rintro e w1 ⟨rfl, hb⟩; have o1 := HO.out.below hb; have c1 := o1.c1; have f1 := o1.fz 1; have HO1 := Lib.hid o1; have HA1 := Lib.hid (HA.out.below hb); have HB := Lib.hid hb; clear hb o1)
  go_ret
  exact ⟨rfl, HA1.out.setk HK.out HO1.out (by omega), (GB.of HB.out).trans (GB.set _ _ _)⟩
set_option maxRecDepth 100000 in
set_option maxHeartbeats 2000000 in
theorem take_f {g d : Nat} {s : PS} {w : World} (h : At g d s w) {x : ByteArray} (hx : seesF x s = false) :
    Calls Tryz.prog 79 #[.pointer (some ⟨g, 0, none⟩), .string x] w (Post g d w (.bool false) s) := by
  obtain ⟨b, o, c, n, k, D, T, ho⟩ := h.opn
  have c3 := ho.c3
  by_cases hf : s.fault = 0
  · rw [hf] at c3
    have ci := is_any h hf x
    rw [hx] at ci
    have HA := Lib.hid h
    clear h ho hf hx
    go_enter Tryz.func79, Tryz.ntmps79
    go_wp2_with (go_at_call 37; (with_reducible refine ci.mono ?_); rintro e w1 ⟨rfl, hb⟩; have HA1 := Lib.hid (HA.out.below hb); have HB := Lib.hid hb; clear hb)
    go_ret
    exact ⟨rfl, HA1.out, GB.of HB.out⟩
  · have e0 : (s.fault != 0) = true := by simpa using hf
    have HA := Lib.hid h
    clear h ho hf hx
    go_enter Tryz.func79, Tryz.ntmps79
    go_wp2
    go_ret
    exact ⟨rfl, HA.out, GB.refl _ _⟩
set_option maxRecDepth 100000 in
set_option maxHeartbeats 2000000 in
theorem want_any {g d : Nat} {s : PS} {w : World} (h : At g d s w) (x : ByteArray) :
    Calls Tryz.prog 82 #[.pointer (some ⟨g, 0, none⟩), .string x] w (Post g d w (.tuple #[]) (needsF x s)) := by
  cases hx : seesF x s with
  | true =>
    have ct := take_t h hx
    have e : needsF x s = s.take := by unfold needsF; rw [hx]; rfl
    rw [e]
    clear h hx e
    go_enter Tryz.func82, Tryz.ntmps82
    go_wp2_with (go_at_call 79; (with_reducible refine ct.mono ?_); rintro e w1 ⟨rfl, q1, q2⟩; have HQ := Lib.hid (And.intro q1 q2); clear q1 q2)
    go_end0
    exact ⟨rfl, HQ.out⟩
  | false =>
    have ct := take_f h hx
    have e : needsF x s = s.fail 2 := by unfold needsF; rw [hx]; rfl
    rw [e]
    clear h hx e
    go_enter Tryz.func82, Tryz.ntmps82
    go_wp2_with (first | (go_at_call 79; (with_reducible refine ct.mono ?_); rintro e w1 ⟨rfl, q1, q2⟩; have cf := fail_any q1 (e := 2) (by decide); have HQ := Lib.hid q2; clear q1 q2) | (go_at_call 78; (with_reducible refine cf.mono ?_); rintro e w2 ⟨rfl, q1, q2⟩; have HQ2 := Lib.hid (And.intro q1 (HQ.out.trans q2)); clear q1 q2))
    go_end0
    exact ⟨rfl, HQ2.out⟩
set_option maxRecDepth 100000 in
set_option maxHeartbeats 2000000 in
theorem enter_t {g d : Nat} {s : PS} {w : World} (h : At g d s w) (hf : s.fault = 0) (hd : d < 100) :
    Calls Tryz.prog 61 #[.pointer (some ⟨g, 0, none⟩)] w (Post g (d + 1) w (.bool true) s) := by
  obtain ⟨b, o, c, n, k, D, T, ho⟩ := h.opn
  have c3 := ho.c3
  rw [hf] at c3
  have c2 := ho.c2
  rw [(ho.lv hf).2.1] at c2
  have f2 := ho.fz 2
  have hfin : At g (d + 1) s (w.setCell ⟨g, 2, none⟩ (.int .i64 ((d : Int) + 1))) := h.setd (fun _ => by omega)
  have d3 : (w.setCell ⟨g, 2, none⟩ (.int .i64 ((d : Int) + 1))).cell? ⟨g, 3, none⟩ = some (.int .i64 0) := by rw [World.cell?_setCell_other _ _ _ _ (by simp)]; exact c3
  have d2 : (w.setCell ⟨g, 2, none⟩ (.int .i64 ((d : Int) + 1))).cell? ⟨g, 2, none⟩ = some (.int .i64 ((d : Int) + 1)) := World.cell?_setCell_same w ⟨g, 2, none⟩ _ c2
  have hdi : (d : Int) ≤ 99 := by omega
  have hq : decide ((100 : Int) < (d : Int) + 1) = false := by simp; omega
  have HF := Lib.hid hfin
  clear h ho hf hd hfin
  go_enter Tryz.func61, Tryz.ntmps61
  go_wp2
  go_ret
  exact ⟨rfl, HF.out, GB.set _ _ _⟩
set_option maxRecDepth 100000 in
set_option maxHeartbeats 2000000 in
theorem enter_d {g : Nat} {s : PS} {w : World} (h : At g 100 s w) (hf : s.fault = 0) :
    Calls Tryz.prog 61 #[.pointer (some ⟨g, 0, none⟩)] w (Post g 100 w (.bool false) (s.fail 4)) := by
  obtain ⟨b, o, c, n, k, D, T, ho⟩ := h.opn
  have c3 := ho.c3
  rw [hf] at c3
  have c2 := ho.c2
  rw [(ho.lv hf).2.1] at c2
  have f2 := ho.fz 2
  have hfin : At g 101 s (w.setCell ⟨g, 2, none⟩ (.int .i64 101)) := h.setd (fun _ => by omega)
  have d2 : (w.setCell ⟨g, 2, none⟩ (.int .i64 101)).cell? ⟨g, 2, none⟩ = some (.int .i64 101) := World.cell?_setCell_same w ⟨g, 2, none⟩ _ c2
  have cf := fail_any hfin (e := 4) (by decide)
  have e0 : s.fail 4 = ⟨[stopK], s.next.pos, 4⟩ := by unfold PS.fail; rw [if_pos hf]
  have c2 : w.cell? ⟨g, 2, none⟩ = some (.int .i64 100) := c2
  rw [e0] at cf ⊢
  clear h ho hf hfin e0
  go_enter Tryz.func61, Tryz.ntmps61
  go_wp2_with (go_at_call 78; (with_reducible refine cf.mono ?_); rintro e w2 ⟨rfl, q1, q2⟩; obtain ⟨b', o', c', n', k', D', T', ho'⟩ := q1.opn; have c3' : w2.cell? ⟨g, 3, none⟩ = some (.int .i64 4) := ho'.c3; have HQ := Lib.hid (And.intro q1 q2); clear q1 q2 ho')
  go_ret
  refine ⟨rfl, ?_, (GB.set _ _ _).trans HQ.out.2⟩
  obtain ⟨h0, v, L, k', D', h1, h2, h7, h8, h9⟩ := HQ.out.1
  exact ⟨h0, v, L, k', D', h1, h2, h7, h8, fun hf => absurd hf (by exact (by decide : ¬ (4 : Int) = 0))⟩
set_option maxRecDepth 100000 in
set_option maxHeartbeats 2000000 in
theorem enter_e {g d : Nat} {s : PS} {w : World} (h : At g d s w) (hf : s.fault ≠ 0) :
    Calls Tryz.prog 61 #[.pointer (some ⟨g, 0, none⟩)] w (Post g d w (.bool false) s) := by
  obtain ⟨b, o, c, n, k, D, T, ho⟩ := h.opn
  have c3 := ho.c3
  have e0 : (s.fault != 0) = true := by simpa using hf
  have HA := Lib.hid h
  clear h ho hf
  go_enter Tryz.func61, Tryz.ntmps61
  go_wp2
  go_ret
  exact ⟨rfl, HA.out, GB.refl _ _⟩
set_option maxRecDepth 100000 in
set_option maxHeartbeats 2000000 in
theorem name_t {g d : Nat} {s : PS} {w : World} (h : At g d s w) (hk : s.next.kind = 1) :
    Calls Tryz.prog 80 #[.pointer (some ⟨g, 0, none⟩)] w (Post g d w (.string s.next.text) s.take) := by
  have hk2 : ¬ (s.next.kind = 0 ∨ s.next.kind = -1) := by rw [hk]; decide
  have hf := h.ok.live (fun e => hk2 (.inr e))
  have cn := now_any h hf
  obtain ⟨b, o, c, n, k, D, T, ho⟩ := h.opn
  have n5 := ho.n5
  have kn := ho.kn
  have e1 : (s.next.kind != 1) = false := by rw [hk]; rfl
  have hx : ∀ W, Below w.heap.size w W → W.cell? ⟨g, 3, none⟩ = some (.int .i64 0) ∧ W.cell? ⟨g, 1, none⟩ = some (.int .i64 (k : Int)) ∧ W.frozen? ⟨g, 1, none⟩ = false ∧ At g d s.take (W.setCell ⟨g, 1, none⟩ (.int .i64 ((k : Int) + 1))) := fun W hb => by
    have o1 := ho.below hb
    have e3 := o1.c3
    rw [hf] at e3
    exact ⟨e3, o1.c1, o1.fz 1, (h.below hb).setk hk2 o1 (by omega)⟩
  have tk0 := fun w : World => ((Blk.new w (kcs s.next) 73).cell 0).trans (kcs_0 s.next)
  have tk3 := fun w : World => ((Blk.new w (kcs s.next) 73).cell 3).trans (kcs_3 s.next)
  have s0 := fun w => run_stKg w w.heap.size s.next zeroK rfl
  have hlt := h.lt
  have HX := Lib.hid hx
  have HLT := Lib.hid hlt
  clear h ho hf hk hk2 hx hlt
  go_enter Tryz.func80, Tryz.ntmps80
  go_wp2_with (go_at_call 36; (with_reducible refine cn.mono ?_); rintro e w1 ⟨rfl, hb⟩; have t0 := tk0 w1; have t3 := tk3 w1; obtain ⟨z3, z1, zf, zA⟩ := HX.out _ (hb.trans ((bel1 (o := .cells (kcs s.next) 73)).mono hb.size)); have z4 : ((w1.alloc (.cells (kcs s.next) 73)).setCell ⟨g, 1, none⟩ (.int .i64 ((k : Int) + 1))).cell? ⟨w1.heap.size, 3, none⟩ = some (.string s.next.text) := (by rw [World.cell?_setCell_other _ _ _ _ (by simp)]; exact t3); have HZ := Lib.hid zA; have HB := Lib.hid hb; clear hb zA)
  go_ret
  exact ⟨rfl, HZ.out, ((GB.of HB.out).trans (GB.of bel1)).trans (GB.set _ _ _)⟩
set_option maxRecDepth 100000 in
set_option maxHeartbeats 2000000 in
theorem name_f {g d : Nat} {s : PS} {w : World} (h : At g d s w) (hk : ¬ s.next.kind = 1) :
    Calls Tryz.prog 80 #[.pointer (some ⟨g, 0, none⟩)] w (Post g d w (.string noS) (s.fail 2)) := by
  obtain ⟨b, o, c, n, k, D, T, ho⟩ := h.opn
  have cn := now_opn h ho
  have hq : (s.fault != 0) = true ∨ ((s.fault != 0) = false ∧ (T.kind != 1) = true) := by
    by_cases hf : s.fault = 0
    · refine .inr ⟨by rw [hf]; rfl, ?_⟩
      rw [(ho.lv hf).1]
      simpa using hk
    · exact .inl (by simpa using hf)
  have hx : ∀ W, Below w.heap.size w W → W.cell? ⟨g, 3, none⟩ = some (.int .i64 s.fault) ∧ At g d s W := fun W hb => ⟨(ho.below hb).c3, h.below hb⟩
  have tk0 := fun w : World => ((Blk.new w (kcs T) 73).cell 0).trans (kcs_0 T)
  have s0 := fun w => run_stKg w w.heap.size T zeroK rfl
  have HX := Lib.hid hx
  clear h ho hk hx
  rcases hq with hq | ⟨hq, hq2⟩
  all_goals (
    go_enter Tryz.func80, Tryz.ntmps80
    go_wp2_with (first | (go_at_call 36; (with_reducible refine cn.mono ?_); rintro e w1 ⟨rfl, hb⟩; have t0 := tk0 w1; have hb2 := hb.trans ((bel1 (o := .cells (kcs T) 73)).mono hb.size); obtain ⟨z3, zA⟩ := HX.out _ hb2; have cf := fail_any zA (e := 2) (by decide); have HB := Lib.hid hb2; clear hb hb2 zA) | (go_at_call 78; (with_reducible refine cf.mono ?_); rintro e w2 ⟨rfl, q1, q2⟩; have HQ2 := Lib.hid (And.intro q1 ((GB.of HB.out).trans q2)); clear q1 q2))
    go_ret
    exact ⟨rfl, HQ2.out⟩)
theorem name_any {g d : Nat} {s : PS} {w : World} (h : At g d s w) :
    Calls Tryz.prog 80 #[.pointer (some ⟨g, 0, none⟩)] w (Post g d w (.string (nameF s).1) (nameF s).2) := by
  unfold nameF
  by_cases hk : s.next.kind = 1
  · rw [if_pos hk]; exact name_t h hk
  · rw [if_neg hk]; exact name_f h hk
set_option maxRecDepth 100000 in
set_option maxHeartbeats 2000000 in
theorem word_t {g d : Nat} {s : PS} {w : World} (h : At g d s w) (hk : s.next.kind = 1 ∨ s.next.kind = 2) :
    Calls Tryz.prog 136 #[.pointer (some ⟨g, 0, none⟩)] w (Post g d w (.string s.next.text) s.take) := by
  have hk2 : ¬ (s.next.kind = 0 ∨ s.next.kind = -1) := by rcases hk with hk | hk <;> (rw [hk]; decide)
  have hf := h.ok.live (fun e => hk2 (.inr e))
  have cn := now_any h hf
  obtain ⟨b, o, c, n, k, D, T, ho⟩ := h.opn
  have n5 := ho.n5
  have kn := ho.kn
  have e1 : (s.next.kind != 1) = false ∨ ((s.next.kind != 1) = true ∧ (s.next.kind != 2) = false) := by rcases hk with hk | hk <;> simp [hk]
  have hx : ∀ W, Below w.heap.size w W → W.cell? ⟨g, 3, none⟩ = some (.int .i64 0) ∧ W.cell? ⟨g, 1, none⟩ = some (.int .i64 (k : Int)) ∧ W.frozen? ⟨g, 1, none⟩ = false ∧ At g d s.take (W.setCell ⟨g, 1, none⟩ (.int .i64 ((k : Int) + 1))) := fun W hb => by
    have o1 := ho.below hb
    have e3 := o1.c3
    rw [hf] at e3
    exact ⟨e3, o1.c1, o1.fz 1, (h.below hb).setk hk2 o1 (by omega)⟩
  have tk0 := fun w : World => ((Blk.new w (kcs s.next) 73).cell 0).trans (kcs_0 s.next)
  have tk3 := fun w : World => ((Blk.new w (kcs s.next) 73).cell 3).trans (kcs_3 s.next)
  have s0 := fun w => run_stKg w w.heap.size s.next zeroK rfl
  have HX := Lib.hid hx
  clear h ho hf hk hk2 hx
  rcases e1 with e1 | ⟨e1, e2⟩
  all_goals (
    go_enter Tryz.func136, Tryz.ntmps136
    go_wp2_with (go_at_call 36; (with_reducible refine cn.mono ?_); rintro e w1 ⟨rfl, hb⟩; have t0 := tk0 w1; have t3 := tk3 w1; obtain ⟨z3, z1, zf, zA⟩ := HX.out _ (hb.trans ((bel1 (o := .cells (kcs s.next) 73)).mono hb.size)); have z4 : ((w1.alloc (.cells (kcs s.next) 73)).setCell ⟨g, 1, none⟩ (.int .i64 ((k : Int) + 1))).cell? ⟨w1.heap.size, 3, none⟩ = some (.string s.next.text) := (by rw [World.cell?_setCell_other _ _ _ _ (by simp)]; exact t3); have HZ := Lib.hid zA; have HB := Lib.hid hb; clear hb zA)
    go_ret
    exact ⟨rfl, HZ.out, ((GB.of HB.out).trans (GB.of bel1)).trans (GB.set _ _ _)⟩)
set_option maxRecDepth 100000 in
set_option maxHeartbeats 2000000 in
theorem word_f {g d : Nat} {s : PS} {w : World} (h : At g d s w) (hk : ¬ (s.next.kind = 1 ∨ s.next.kind = 2)) :
    Calls Tryz.prog 136 #[.pointer (some ⟨g, 0, none⟩)] w (Post g d w (.string noS) (s.fail 2)) := by
  obtain ⟨b, o, c, n, k, D, T, ho⟩ := h.opn
  have cn := now_opn h ho
  have hq : (s.fault != 0) = true ∨ ((s.fault != 0) = false ∧ (T.kind != 1) = true ∧ (T.kind != 2) = true) := by
    by_cases hf : s.fault = 0
    · refine .inr ⟨by rw [hf]; rfl, ?_⟩
      rw [(ho.lv hf).1]
      simp only [not_or] at hk
      exact ⟨by simpa using hk.1, by simpa using hk.2⟩
    · exact .inl (by simpa using hf)
  have hx : ∀ W, Below w.heap.size w W → W.cell? ⟨g, 3, none⟩ = some (.int .i64 s.fault) ∧ At g d s W := fun W hb => ⟨(ho.below hb).c3, h.below hb⟩
  have tk0 := fun w : World => ((Blk.new w (kcs T) 73).cell 0).trans (kcs_0 T)
  have s0 := fun w => run_stKg w w.heap.size T zeroK rfl
  have HX := Lib.hid hx
  clear h ho hk hx
  rcases hq with hq | ⟨hq, hq2, hq3⟩
  all_goals (
    go_enter Tryz.func136, Tryz.ntmps136
    go_wp2_with (first | (go_at_call 36; (with_reducible refine cn.mono ?_); rintro e w1 ⟨rfl, hb⟩; have t0 := tk0 w1; have hb2 := hb.trans ((bel1 (o := .cells (kcs T) 73)).mono hb.size); obtain ⟨z3, zA⟩ := HX.out _ hb2; have cf := fail_any zA (e := 2) (by decide); have HB := Lib.hid hb2; clear hb hb2 zA) | (go_at_call 78; (with_reducible refine cf.mono ?_); rintro e w2 ⟨rfl, q1, q2⟩; have HQ2 := Lib.hid (And.intro q1 ((GB.of HB.out).trans q2)); clear q1 q2))
    go_ret
    exact ⟨rfl, HQ2.out⟩)
theorem word_any {g d : Nat} {s : PS} {w : World} (h : At g d s w) :
    Calls Tryz.prog 136 #[.pointer (some ⟨g, 0, none⟩)] w (Post g d w (.string (memF s).1) (memF s).2) := by
  unfold memF
  by_cases hk : s.next.kind = 1 ∨ s.next.kind = 2
  · rw [if_pos hk]; exact word_t h hk
  · rw [if_neg hk]; exact word_f h hk
end Go.Proofs.YtinoaajohkafmaaGreat.Rp
