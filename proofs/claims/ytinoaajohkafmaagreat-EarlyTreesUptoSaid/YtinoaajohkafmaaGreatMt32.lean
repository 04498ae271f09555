/-
  Texts of this seat in build order: RlUtf, RpTake, RpEnv.
-/
import Derived.Test.YtinoaajohkafmaaGreatMt31
import Derived.Test.YtinoaajohkafmaaGreatMt01
import Derived.Test.YtinoaajohkafmaaGreatMt30
import Derived.Test.YtinoaajohkafmaaGreatMt06
/-
  The reference's Utf8 at a text of ASCII.
-/
namespace Go.Proofs.YtinoaajohkafmaaGreat.Rl
open Go Go.RowKit Go.Proofs.YtinoaajohkafmaaGreat.Uni Go.Proofs.YtinoaajohkafmaaGreat.Lx
set_option linter.unusedVariables false
set_option linter.unusedSimpArgs false
set_option maxRecDepth 100000 in
set_option maxHeartbeats 2000000 in
theorem utf8_ascii (s : ByteArray) (w : World) (hs : s.size ≤ 1000000) (ha : ∀ j, j < s.size → B s j < 128) :
    Calls Tryz.prog 33 #[.string s] w fun e w' => e = .returned (.tuple #[.int .i64 0, .bool true]) ∧ w' = w := by
  have HA := Lib.hid ha
  clear ha
  go_enter Tryz.func33, Tryz.ntmps33
  go_wp2
  go_loopw [4] (fun v wr => ∃ k : Nat, v = .int .i64 (k : Int) ∧ k ≤ s.size ∧ wr = w) (fun v _ => s.size - (intOf v).toNat)
  case atStart => exact ⟨0, rfl, by omega, rfl⟩
  case round =>
    obtain ⟨k, rfl, hk, rfl⟩ := hrel
    by_cases hlt : k < s.size
    · have hki : (k : Int) < s.size := by omega
      have hb := HA.out k hlt
      have cp := point_1 s k wr (by omega) hlt hb
      have hp : Calls Tryz.prog 54 #[.string s, .int .i64 k] wr fun e w' => e = .returned (.tuple #[.int .i64 (B s k : Nat), .int .i64 1]) ∧ wr = w' := by
        refine cp.mono ?_
        rintro e w' ⟨rfl, rfl⟩
        exact ⟨by rw [pt_ascii hb]; rfl, rfl⟩
      obtain ⟨y, hy⟩ : ∃ y, B s k = y := ⟨_, rfl⟩
      rw [hy] at hp hb
      have hy2 : decide ((55296 : Int) ≤ (y : Int)) = false := by simp; omega
      have hwk : IntKind.i64.wrap ((k : Int) + 1) = (k : Int) + 1 := by rw [IntKind.wrap_i64]; omega
      clear hb
      clear cp hy
      go_wp2_with (go_at_call 54; refine hp.mono ?_; rintro e w1 ⟨rfl, rfl⟩)
      go_roundw
      case rel => exact ⟨k + 1, by go_num, by omega, trivial⟩
      case measure => simp [intOf]; omega
    · have hke : k = s.size := by omega
      subst hke
      go_wp2
      go_ret2
      exact ⟨rfl, rfl⟩
end Go.Proofs.YtinoaajohkafmaaGreat.Rl

/-
  The reference's parser: is, fail, take, want, name, word, enter.
-/
namespace Go.Proofs.YtinoaajohkafmaaGreat.Rp
open Go Go.RowKit Go.Proofs.YtinoaajohkafmaaGreat.Uni Go.Proofs.YtinoaajohkafmaaGreat.Pa
open Go.Proofs.YtinoaajohkafmaaGreat.Lx
set_option linter.unusedVariables false
set_option linter.unusedSimpArgs false
attribute [local go_sem ↓] ldK stK alK bdK bsK
attribute [local irreducible] kcs
attribute [local go_sem] run_alK run_bdK0 run_bdKs run_bdKn run_bdKe run_bsK run_fdK0 run_fdK1 run_fdK2 run_fdK3 run_fdN4
theorem Opn.below {g d : Nat} {s : PS} {w w' : World} {b o c n k : Nat} {D : Int} {T : Tok} (h : Opn g d s w b o c n k D T) (hb : Below w.heap.size w w') : Opn g d s w' b o c n k D T := by
  have hlt := World.block_lt_of_cell? w _ h.c0
  have e := hb.block g hlt
  have hc : ∀ i, w'.cell? ⟨g, i, none⟩ = w.cell? ⟨g, i, none⟩ := fun i => by simp only [World.cell?, e]
  refine ⟨by rw [hc]; exact h.c0, by rw [hc]; exact h.c1, by rw [hc]; exact h.c2, by rw [hc]; exact h.c3, by rw [hc]; exact h.c4, fun i => by have := h.fz i; simp only [World.frozen?, e] at this ⊢; exact this, fun j u hj => ?_, h.kn, h.nc, h.n5, h.lv⟩
  have := h.rg j u hj
  have e2 := hb.block b (World.block_lt_of_cell? w _ this)
  simp only [World.cell?, e2] at this ⊢
  exact this
set_option maxRecDepth 100000 in
set_option maxHeartbeats 2000000 in
theorem is_raw {g d : Nat} {s : PS} {w : World} {b o c n k : Nat} {D : Int} {T : Tok} (h : At g d s w) (ho : Opn g d s w b o c n k D T) (x : ByteArray) :
    Calls Tryz.prog 37 #[.pointer (some ⟨g, 0, none⟩), .string x] w (PostR w (.bool (markF T && eqT T.text x))) := by
  have hn := now_opn h ho
  have e : eqT T.text x = (T.text.toList == x.toList) := by unfold eqT; rw [ByteArray.toList_eq, ByteArray.toList_eq]
  unfold markF
  rw [e]
  clear e
  have c0 : ∀ w : World, (w.alloc (.cells (kcs T) 73)).cell? ⟨w.heap.size, 0, none⟩ = some (.int .i64 T.kind) := fun w => ((Blk.new w (kcs T) 73).cell 0).trans (kcs_0 _)
  have c3 : ∀ w : World, (w.alloc (.cells (kcs T) 73)).cell? ⟨w.heap.size, 3, none⟩ = some (.string T.text) := fun w => ((Blk.new w (kcs T) 73).cell 3).trans (kcs_3 _)
  have s0 := fun w => run_stKg w w.heap.size T zeroK rfl
  obtain ⟨q2, f2⟩ : ∃ q, (T.kind == 2) = q := ⟨_, rfl⟩
  obtain ⟨q5, f5⟩ : ∃ q, (T.kind == 5) = q := ⟨_, rfl⟩
  obtain ⟨q6, f6⟩ : ∃ q, (T.text.toList == x.toList) = q := ⟨_, rfl⟩
  rw [f2, f5, f6]
  clear h ho
  cases q2; cases q5
  all_goals (
    go_enter Tryz.func37, Tryz.ntmps37
    go_wp2_with (go_at_call 36; (with_reducible refine hn.mono ?_); rintro e w1 ⟨rfl, hb⟩; have d0 := c0 w1; have d3 := c3 w1; have HB := Lib.hid hb; clear hb)
    go_ret
    exact ⟨rfl, HB.out.trans (bel1.mono HB.out.size)⟩)
theorem is_any {g d : Nat} {s : PS} {w : World} (h : At g d s w) (hf : s.fault = 0) (x : ByteArray) :
    Calls Tryz.prog 37 #[.pointer (some ⟨g, 0, none⟩), .string x] w (PostR w (.bool (seesF x s))) := by
  obtain ⟨b, o, c, n, k, D, T, ho⟩ := h.opn
  have := is_raw h ho x
  rw [(ho.lv hf).1] at this
  exact this
set_option maxRecDepth 100000 in
set_option maxHeartbeats 2000000 in
theorem fail_0 {g d : Nat} {s : PS} {w : World} (h : At g d s w) (hf : s.fault = 0) {e : Int} (he : e ≠ 0) :
    Calls Tryz.prog 78 #[.pointer (some ⟨g, 0, none⟩), .int .i64 e] w (Post g d w (.tuple #[]) (s.fail e)) := by
  obtain ⟨b, o, c, n, k, D, T, ho⟩ := h.opn
  have hT := (ho.lv hf).1
  subst hT
  have hlt := h.lt
  have A3 := h.set3 he
  have c3 := ho.c3
  rw [hf] at c3
  have f3 := ho.fz 3
  have hx : ∀ i, i ≠ 3 → (w.setCell ⟨g, 3, none⟩ (.int .i64 e)).cell? ⟨g, i, none⟩ = w.cell? ⟨g, i, none⟩ := fun i hi => World.cell?_setCell_other _ _ _ _ (by simp [hi])
  have hbg : b ≠ g := by
    obtain ⟨-, v, L, k', D', h1, ⟨b', o', cur, h2, h3, -⟩, -⟩ := h
    have := ho.c0
    simp only [World.cell?, h1] at this
    rw [h2] at this
    simp [Sl.v] at this
    rw [← this.1.1]
    exact h3
  have hrg : (w.setCell ⟨g, 3, none⟩ (.int .i64 e)).rangeAt b (o + k * 4) (kcs s.next).toList := fun j u hj => by
    rw [World.cell?_setCell_other _ _ _ _ (by simp [hbg])]
    exact ho.rg j u hj
  have hn := now_raw (g := g) (w := w.setCell ⟨g, 3, none⟩ (.int .i64 e)) (by simpa using hlt) (by rw [hx 0 (by decide)]; exact ho.c0) (by rw [hx 1 (by decide)]; exact ho.c1) hrg ho.kn ho.n5
  obtain ⟨p0, hp0⟩ : ∃ p, s.pos = p := ⟨_, rfl⟩
  have e0 : s.fail e = ⟨[stopK], s.next.pos, e⟩ := by unfold PS.fail; rw [if_pos hf]
  rw [e0]
  have HA := Lib.hid A3
  have HLT := Lib.hid hlt
  have HE := Lib.hid he
  clear h ho hf A3 hx hrg hbg hlt e0 he
  go_enter Tryz.func78, Tryz.ntmps78
  go_wp2_with (go_at_call 36; (with_reducible refine hn.mono ?_); rintro e w1 ⟨rfl, hb⟩; have A1 := HA.out.below hb; obtain ⟨b', o', c', n', k', D', T', ho'⟩ := A1.opn; have c4 := ho'.c4; have f4 := ho'.fz 4; have HA1 := Lib.hid A1; have HB1 := Lib.hid hb; clear hb A1 ho')
  go_end0
  exact ⟨rfl, HA1.out.set4 HE.out _, ((GB.set _ _ _).trans (GB.of HB1.out)).trans (GB.set _ _ _)⟩
set_option maxRecDepth 100000 in
set_option maxHeartbeats 2000000 in
theorem fail_1 {g d : Nat} {s : PS} {w : World} (h : At g d s w) (hf : s.fault ≠ 0) (e : Int) :
    Calls Tryz.prog 78 #[.pointer (some ⟨g, 0, none⟩), .int .i64 e] w (Post g d w (.tuple #[]) s) := by
  obtain ⟨b, o, c, n, k, D, T, ho⟩ := h.opn
  have c3 := ho.c3
  have e0 : (s.fault == 0) = false := by simpa using hf
  have HA := Lib.hid h
  clear h ho hf
  go_enter Tryz.func78, Tryz.ntmps78
  go_wp2
  go_end0
  exact ⟨rfl, HA.out, GB.refl _ _⟩
theorem fail_any {g d : Nat} {s : PS} {w : World} (h : At g d s w) {e : Int} (he : e ≠ 0) :
    Calls Tryz.prog 78 #[.pointer (some ⟨g, 0, none⟩), .int .i64 e] w (Post g d w (.tuple #[]) (s.fail e)) := by
  by_cases hf : s.fault = 0
  · exact fail_0 h hf he
  · have e0 : s.fail e = s := by unfold PS.fail; rw [if_neg hf]
    rw [e0]
    exact fail_1 h hf e
set_option maxRecDepth 100000 in
set_option maxHeartbeats 2000000 in
theorem take_t {g d : Nat} {s : PS} {w : World} (h : At g d s w) {x : ByteArray} (hx : seesF x s = true) :
    Calls Tryz.prog 79 #[.pointer (some ⟨g, 0, none⟩), .string x] w (Post g d w (.bool true) s.take) := by
  have hk := sees_kind hx
  have hf := h.ok.live (fun e => hk (.inr e))
  obtain ⟨b, o, c, n, k, D, T, ho⟩ := h.opn
  have c3 := ho.c3
  rw [hf] at c3
  have ci := is_any h hf x
  rw [hx] at ci
  have n5 := ho.n5
  have kn := ho.kn
  have HA := Lib.hid h
  have HO := Lib.hid ho
  have HK := Lib.hid hk
  clear h ho hf hk hx
  go_enter Tryz.func79, Tryz.ntmps79
  go_wp2_with (go_at_call 37; (with_reducible refine ci.mono ?_); rintro e w1 ⟨rfl, hb⟩; have o1 := HO.out.below hb; have c1 := o1.c1; have f1 := o1.fz 1; have HO1 := Lib.hid o1; have HA1 := Lib.hid (HA.out.below hb); have HB := Lib.hid hb; clear hb o1)
  go_ret
  exact ⟨rfl, HA1.out.setk HK.out HO1.out (by omega), (GB.of HB.out).trans (GB.set _ _ _)⟩
set_option maxRecDepth 100000 in
set_option maxHeartbeats 2000000 in
theorem take_f {g d : Nat} {s : PS} {w : World} (h : At g d s w) {x : ByteArray} (hx : seesF x s = false) :
    Calls Tryz.prog 79 #[.pointer (some ⟨g, 0, none⟩), .string x] w (Post g d w (.bool false) s) := by
  obtain ⟨b, o, c, n, k, D, T, ho⟩ := h.opn
  have c3 := ho.c3
  by_cases hf : s.fault = 0
  · rw [hf] at c3
    have ci := is_any h hf x
    rw [hx] at ci
    have HA := Lib.hid h
    clear h ho hf hx
    go_enter Tryz.func79, Tryz.ntmps79
    go_wp2_with (go_at_call 37; (with_reducible refine ci.mono ?_); rintro e w1 ⟨rfl, hb⟩; have HA1 := Lib.hid (HA.out.below hb); have HB := Lib.hid hb; clear hb)
    go_ret
    exact ⟨rfl, HA1.out, GB.of HB.out⟩
  · have e0 : (s.fault != 0) = true := by simpa using hf
    have HA := Lib.hid h
    clear h ho hf hx
    go_enter Tryz.func79, Tryz.ntmps79
    go_wp2
    go_ret
    exact ⟨rfl, HA.out, GB.refl _ _⟩
set_option maxRecDepth 100000 in
set_option maxHeartbeats 2000000 in
theorem want_any {g d : Nat} {s : PS} {w : World} (h : At g d s w) (x : ByteArray) :
    Calls Tryz.prog 82 #[.pointer (some ⟨g, 0, none⟩), .string x] w (Post g d w (.tuple #[]) (needsF x s)) := by
  cases hx : seesF x s with
  | true =>
    have ct := take_t h hx
    have e : needsF x s = s.take := by unfold needsF; rw [hx]; rfl
    rw [e]
    clear h hx e
    go_enter Tryz.func82, Tryz.ntmps82
    go_wp2_with (go_at_call 79; (with_reducible refine ct.mono ?_); rintro e w1 ⟨rfl, q1, q2⟩; have HQ := Lib.hid (And.intro q1 q2); clear q1 q2)
    go_end0
    exact ⟨rfl, HQ.out⟩
  | false =>
    have ct := take_f h hx
    have e : needsF x s = s.fail 2 := by unfold needsF; rw [hx]; rfl
    rw [e]
    clear h hx e
    go_enter Tryz.func82, Tryz.ntmps82
    go_wp2_with (first | (go_at_call 79; (with_reducible refine ct.mono ?_); rintro e w1 ⟨rfl, q1, q2⟩; have cf := fail_any q1 (e := 2) (by decide); have HQ := Lib.hid q2; clear q1 q2) | (go_at_call 78; (with_reducible refine cf.mono ?_); rintro e w2 ⟨rfl, q1, q2⟩; have HQ2 := Lib.hid (And.intro q1 (HQ.out.trans q2)); clear q1 q2))
    go_end0
    exact ⟨rfl, HQ2.out⟩
set_option maxRecDepth 100000 in
set_option maxHeartbeats 2000000 in
theorem enter_t {g d : Nat} {s : PS} {w : World} (h : At g d s w) (hf : s.fault = 0) (hd : d < 100) :
    Calls Tryz.prog 61 #[.pointer (some ⟨g, 0, none⟩)] w (Post g (d + 1) w (.bool true) s) := by
  obtain ⟨b, o, c, n, k, D, T, ho⟩ := h.opn
  have c3 := ho.c3
  rw [hf] at c3
  have c2 := ho.c2
  rw [(ho.lv hf).2.1] at c2
  have f2 := ho.fz 2
  have hfin : At g (d + 1) s (w.setCell ⟨g, 2, none⟩ (.int .i64 ((d : Int) + 1))) := h.setd (fun _ => by omega)
  have d3 : (w.setCell ⟨g, 2, none⟩ (.int .i64 ((d : Int) + 1))).cell? ⟨g, 3, none⟩ = some (.int .i64 0) := by rw [World.cell?_setCell_other _ _ _ _ (by simp)]; exact c3
  have d2 : (w.setCell ⟨g, 2, none⟩ (.int .i64 ((d : Int) + 1))).cell? ⟨g, 2, none⟩ = some (.int .i64 ((d : Int) + 1)) := World.cell?_setCell_same w ⟨g, 2, none⟩ _ c2
  have hdi : (d : Int) ≤ 99 := by omega
  have hq : decide ((100 : Int) < (d : Int) + 1) = false := by simp; omega
  have HF := Lib.hid hfin
  clear h ho hf hd hfin
  go_enter Tryz.func61, Tryz.ntmps61
  go_wp2
  go_ret
  exact ⟨rfl, HF.out, GB.set _ _ _⟩
set_option maxRecDepth 100000 in
set_option maxHeartbeats 2000000 in
theorem enter_d {g : Nat} {s : PS} {w : World} (h : At g 100 s w) (hf : s.fault = 0) :
    Calls Tryz.prog 61 #[.pointer (some ⟨g, 0, none⟩)] w (Post g 100 w (.bool false) (s.fail 4)) := by
  obtain ⟨b, o, c, n, k, D, T, ho⟩ := h.opn
  have c3 := ho.c3
  rw [hf] at c3
  have c2 := ho.c2
  rw [(ho.lv hf).2.1] at c2
  have f2 := ho.fz 2
  have hfin : At g 101 s (w.setCell ⟨g, 2, none⟩ (.int .i64 101)) := h.setd (fun _ => by omega)
  have d2 : (w.setCell ⟨g, 2, none⟩ (.int .i64 101)).cell? ⟨g, 2, none⟩ = some (.int .i64 101) := World.cell?_setCell_same w ⟨g, 2, none⟩ _ c2
  have cf := fail_any hfin (e := 4) (by decide)
  have e0 : s.fail 4 = ⟨[stopK], s.next.pos, 4⟩ := by unfold PS.fail; rw [if_pos hf]
  have c2 : w.cell? ⟨g, 2, none⟩ = some (.int .i64 100) := c2
  rw [e0] at cf ⊢
  clear h ho hf hfin e0
  go_enter Tryz.func61, Tryz.ntmps61
  go_wp2_with (go_at_call 78; (with_reducible refine cf.mono ?_); rintro e w2 ⟨rfl, q1, q2⟩; obtain ⟨b', o', c', n', k', D', T', ho'⟩ := q1.opn; have c3' : w2.cell? ⟨g, 3, none⟩ = some (.int .i64 4) := ho'.c3; have HQ := Lib.hid (And.intro q1 q2); clear q1 q2 ho')
  go_ret
  refine ⟨rfl, ?_, (GB.set _ _ _).trans HQ.out.2⟩
  obtain ⟨h0, v, L, k', D', h1, h2, h7, h8, h9⟩ := HQ.out.1
  exact ⟨h0, v, L, k', D', h1, h2, h7, h8, fun hf => absurd hf (by exact (by decide : ¬ (4 : Int) = 0))⟩
set_option maxRecDepth 100000 in
set_option maxHeartbeats 2000000 in
theorem enter_e {g d : Nat} {s : PS} {w : World} (h : At g d s w) (hf : s.fault ≠ 0) :
    Calls Tryz.prog 61 #[.pointer (some ⟨g, 0, none⟩)] w (Post g d w (.bool false) s) := by
  obtain ⟨b, o, c, n, k, D, T, ho⟩ := h.opn
  have c3 := ho.c3
  have e0 : (s.fault != 0) = true := by simpa using hf
  have HA := Lib.hid h
  clear h ho hf
  go_enter Tryz.func61, Tryz.ntmps61
  go_wp2
  go_ret
  exact ⟨rfl, HA.out, GB.refl _ _⟩
set_option maxRecDepth 100000 in
set_option maxHeartbeats 2000000 in
theorem name_t {g d : Nat} {s : PS} {w : World} (h : At g d s w) (hk : s.next.kind = 1) :
    Calls Tryz.prog 80 #[.pointer (some ⟨g, 0, none⟩)] w (Post g d w (.string s.next.text) s.take) := by
  have hk2 : ¬ (s.next.kind = 0 ∨ s.next.kind = -1) := by rw [hk]; decide
  have hf := h.ok.live (fun e => hk2 (.inr e))
  have cn := now_any h hf
  obtain ⟨b, o, c, n, k, D, T, ho⟩ := h.opn
  have n5 := ho.n5
  have kn := ho.kn
  have e1 : (s.next.kind != 1) = false := by rw [hk]; rfl
  have hx : ∀ W, Below w.heap.size w W → W.cell? ⟨g, 3, none⟩ = some (.int .i64 0) ∧ W.cell? ⟨g, 1, none⟩ = some (.int .i64 (k : Int)) ∧ W.frozen? ⟨g, 1, none⟩ = false ∧ At g d s.take (W.setCell ⟨g, 1, none⟩ (.int .i64 ((k : Int) + 1))) := fun W hb => by
    have o1 := ho.below hb
    have e3 := o1.c3
    rw [hf] at e3
    exact ⟨e3, o1.c1, o1.fz 1, (h.below hb).setk hk2 o1 (by omega)⟩
  have tk0 := fun w : World => ((Blk.new w (kcs s.next) 73).cell 0).trans (kcs_0 s.next)
  have tk3 := fun w : World => ((Blk.new w (kcs s.next) 73).cell 3).trans (kcs_3 s.next)
  have s0 := fun w => run_stKg w w.heap.size s.next zeroK rfl
  have hlt := h.lt
  have HX := Lib.hid hx
  have HLT := Lib.hid hlt
  clear h ho hf hk hk2 hx hlt
  go_enter Tryz.func80, Tryz.ntmps80
  go_wp2_with (go_at_call 36; (with_reducible refine cn.mono ?_); rintro e w1 ⟨rfl, hb⟩; have t0 := tk0 w1; have t3 := tk3 w1; obtain ⟨z3, z1, zf, zA⟩ := HX.out _ (hb.trans ((bel1 (o := .cells (kcs s.next) 73)).mono hb.size)); have z4 : ((w1.alloc (.cells (kcs s.next) 73)).setCell ⟨g, 1, none⟩ (.int .i64 ((k : Int) + 1))).cell? ⟨w1.heap.size, 3, none⟩ = some (.string s.next.text) := (by rw [World.cell?_setCell_other _ _ _ _ (by simp)]; exact t3); have HZ := Lib.hid zA; have HB := Lib.hid hb; clear hb zA)
  go_ret
  exact ⟨rfl, HZ.out, ((GB.of HB.out).trans (GB.of bel1)).trans (GB.set _ _ _)⟩
set_option maxRecDepth 100000 in
set_option maxHeartbeats 2000000 in
theorem name_f {g d : Nat} {s : PS} {w : World} (h : At g d s w) (hk : ¬ s.next.kind = 1) :
    Calls Tryz.prog 80 #[.pointer (some ⟨g, 0, none⟩)] w (Post g d w (.string noS) (s.fail 2)) := by
  obtain ⟨b, o, c, n, k, D, T, ho⟩ := h.opn
  have cn := now_opn h ho
  have hq : (s.fault != 0) = true ∨ ((s.fault != 0) = false ∧ (T.kind != 1) = true) := by
    by_cases hf : s.fault = 0
    · refine .inr ⟨by rw [hf]; rfl, ?_⟩
      rw [(ho.lv hf).1]
      simpa using hk
    · exact .inl (by simpa using hf)
  have hx : ∀ W, Below w.heap.size w W → W.cell? ⟨g, 3, none⟩ = some (.int .i64 s.fault) ∧ At g d s W := fun W hb => ⟨(ho.below hb).c3, h.below hb⟩
  have tk0 := fun w : World => ((Blk.new w (kcs T) 73).cell 0).trans (kcs_0 T)
  have s0 := fun w => run_stKg w w.heap.size T zeroK rfl
  have HX := Lib.hid hx
  clear h ho hk hx
  rcases hq with hq | ⟨hq, hq2⟩
  all_goals (
    go_enter Tryz.func80, Tryz.ntmps80
    go_wp2_with (first | (go_at_call 36; (with_reducible refine cn.mono ?_); rintro e w1 ⟨rfl, hb⟩; have t0 := tk0 w1; have hb2 := hb.trans ((bel1 (o := .cells (kcs T) 73)).mono hb.size); obtain ⟨z3, zA⟩ := HX.out _ hb2; have cf := fail_any zA (e := 2) (by decide); have HB := Lib.hid hb2; clear hb hb2 zA) | (go_at_call 78; (with_reducible refine cf.mono ?_); rintro e w2 ⟨rfl, q1, q2⟩; have HQ2 := Lib.hid (And.intro q1 ((GB.of HB.out).trans q2)); clear q1 q2))
    go_ret
    exact ⟨rfl, HQ2.out⟩)
theorem name_any {g d : Nat} {s : PS} {w : World} (h : At g d s w) :
    Calls Tryz.prog 80 #[.pointer (some ⟨g, 0, none⟩)] w (Post g d w (.string (nameF s).1) (nameF s).2) := by
  unfold nameF
  by_cases hk : s.next.kind = 1
  · rw [if_pos hk]; exact name_t h hk
  · rw [if_neg hk]; exact name_f h hk
set_option maxRecDepth 100000 in
set_option maxHeartbeats 2000000 in
theorem word_t {g d : Nat} {s : PS} {w : World} (h : At g d s w) (hk : s.next.kind = 1 ∨ s.next.kind = 2) :
    Calls Tryz.prog 136 #[.pointer (some ⟨g, 0, none⟩)] w (Post g d w (.string s.next.text) s.take) := by
  have hk2 : ¬ (s.next.kind = 0 ∨ s.next.kind = -1) := by rcases hk with hk | hk <;> (rw [hk]; decide)
  have hf := h.ok.live (fun e => hk2 (.inr e))
  have cn := now_any h hf
  obtain ⟨b, o, c, n, k, D, T, ho⟩ := h.opn
  have n5 := ho.n5
  have kn := ho.kn
  have e1 : (s.next.kind != 1) = false ∨ ((s.next.kind != 1) = true ∧ (s.next.kind != 2) = false) := by rcases hk with hk | hk <;> simp [hk]
  have hx : ∀ W, Below w.heap.size w W → W.cell? ⟨g, 3, none⟩ = some (.int .i64 0) ∧ W.cell? ⟨g, 1, none⟩ = some (.int .i64 (k : Int)) ∧ W.frozen? ⟨g, 1, none⟩ = false ∧ At g d s.take (W.setCell ⟨g, 1, none⟩ (.int .i64 ((k : Int) + 1))) := fun W hb => by
    have o1 := ho.below hb
    have e3 := o1.c3
    rw [hf] at e3
    exact ⟨e3, o1.c1, o1.fz 1, (h.below hb).setk hk2 o1 (by omega)⟩
  have tk0 := fun w : World => ((Blk.new w (kcs s.next) 73).cell 0).trans (kcs_0 s.next)
  have tk3 := fun w : World => ((Blk.new w (kcs s.next) 73).cell 3).trans (kcs_3 s.next)
  have s0 := fun w => run_stKg w w.heap.size s.next zeroK rfl
  have HX := Lib.hid hx
  clear h ho hf hk hk2 hx
  rcases e1 with e1 | ⟨e1, e2⟩
  all_goals (
    go_enter Tryz.func136, Tryz.ntmps136
    go_wp2_with (go_at_call 36; (with_reducible refine cn.mono ?_); rintro e w1 ⟨rfl, hb⟩; have t0 := tk0 w1; have t3 := tk3 w1; obtain ⟨z3, z1, zf, zA⟩ := HX.out _ (hb.trans ((bel1 (o := .cells (kcs s.next) 73)).mono hb.size)); have z4 : ((w1.alloc (.cells (kcs s.next) 73)).setCell ⟨g, 1, none⟩ (.int .i64 ((k : Int) + 1))).cell? ⟨w1.heap.size, 3, none⟩ = some (.string s.next.text) := (by rw [World.cell?_setCell_other _ _ _ _ (by simp)]; exact t3); have HZ := Lib.hid zA; have HB := Lib.hid hb; clear hb zA)
    go_ret
    exact ⟨rfl, HZ.out, ((GB.of HB.out).trans (GB.of bel1)).trans (GB.set _ _ _)⟩)
set_option maxRecDepth 100000 in
set_option maxHeartbeats 2000000 in
theorem word_f {g d : Nat} {s : PS} {w : World} (h : At g d s w) (hk : ¬ (s.next.kind = 1 ∨ s.next.kind = 2)) :
    Calls Tryz.prog 136 #[.pointer (some ⟨g, 0, none⟩)] w (Post g d w (.string noS) (s.fail 2)) := by
  obtain ⟨b, o, c, n, k, D, T, ho⟩ := h.opn
  have cn := now_opn h ho
  have hq : (s.fault != 0) = true ∨ ((s.fault != 0) = false ∧ (T.kind != 1) = true ∧ (T.kind != 2) = true) := by
    by_cases hf : s.fault = 0
    · refine .inr ⟨by rw [hf]; rfl, ?_⟩
      rw [(ho.lv hf).1]
      simp only [not_or] at hk
      exact ⟨by simpa using hk.1, by simpa using hk.2⟩
    · exact .inl (by simpa using hf)
  have hx : ∀ W, Below w.heap.size w W → W.cell? ⟨g, 3, none⟩ = some (.int .i64 s.fault) ∧ At g d s W := fun W hb => ⟨(ho.below hb).c3, h.below hb⟩
  have tk0 := fun w : World => ((Blk.new w (kcs T) 73).cell 0).trans (kcs_0 T)
  have s0 := fun w => run_stKg w w.heap.size T zeroK rfl
  have HX := Lib.hid hx
  clear h ho hk hx
  rcases hq with hq | ⟨hq, hq2, hq3⟩
  all_goals (
    go_enter Tryz.func136, Tryz.ntmps136
    go_wp2_with (first | (go_at_call 36; (with_reducible refine cn.mono ?_); rintro e w1 ⟨rfl, hb⟩; have t0 := tk0 w1; have hb2 := hb.trans ((bel1 (o := .cells (kcs T) 73)).mono hb.size); obtain ⟨z3, zA⟩ := HX.out _ hb2; have cf := fail_any zA (e := 2) (by decide); have HB := Lib.hid hb2; clear hb hb2 zA) | (go_at_call 78; (with_reducible refine cf.mono ?_); rintro e w2 ⟨rfl, q1, q2⟩; have HQ2 := Lib.hid (And.intro q1 ((GB.of HB.out).trans q2)); clear q1 q2))
    go_ret
    exact ⟨rfl, HQ2.out⟩)
theorem word_any {g d : Nat} {s : PS} {w : World} (h : At g d s w) :
    Calls Tryz.prog 136 #[.pointer (some ⟨g, 0, none⟩)] w (Post g d w (.string (memF s).1) (memF s).2) := by
  unfold memF
  by_cases hk : s.next.kind = 1 ∨ s.next.kind = 2
  · rw [if_pos hk]; exact word_t h hk
  · rw [if_neg hk]; exact word_f h hk
end Go.Proofs.YtinoaajohkafmaaGreat.Rp

/-
  The reference's parser: what holds between two calls.
-/
namespace Go.Proofs.YtinoaajohkafmaaGreat.Rp
open Go Go.RowKit Go.Proofs.YtinoaajohkafmaaGreat.Uni Go.Proofs.YtinoaajohkafmaaGreat.Pa
open Go.Proofs.YtinoaajohkafmaaGreat.Lx
set_option linter.unusedVariables false
set_option linter.unusedSimpArgs false
structure Env (g d : Nat) (s : PS) (S0 : Nat → Prop) (w0 W : World) (bs : List (Nat × Nd)) (vs : List (Tree × Nd)) : Prop where
  at_ : At g d s W
  gb : GB g w0 W
  gl : g < w0.heap.size
  s0 : ∀ b, S0 b → b ≠ g
  bl : ∀ x ∈ bs, w0.heap.size ≤ x.1 ∧ Blk W x.1 (ncs x.2) 25
  nd : (bs.map Prod.fst).Nodup
  rp : ∀ v ∈ vs, Rep (Own S0 w0.heap.size (bs.map Prod.fst)) W v.1 v.2
section
variable {g d : Nat} {s : PS} {S0 : Nat → Prop} {w0 W : World} {bs : List (Nat × Nd)} {vs : List (Tree × Nd)}
theorem Env.startS {w : World} (h : At g d s w) (hS : ∀ b, S0 b → b ≠ g) : Env g d s S0 w w [] [] :=
  ⟨h, GB.refl _ _, h.lt, hS, fun _ h => by simp at h, by simp, fun _ h => by simp at h⟩
theorem Env.start {w : World} (h : At g d s w) : Env g d s (fun _ => False) w w [] [] := Env.startS h (fun _ h => h.elim)
theorem Env.size (E : Env g d s S0 w0 W bs vs) : w0.heap.size ≤ W.heap.size := E.gb.size
theorem Env.alloc (E : Env g d s S0 w0 W bs vs) (o : Obj) : Env g d s S0 w0 (W.alloc o) bs vs :=
  ⟨E.at_.alloc o, E.gb.trans (GB.of bel1), E.gl, E.s0, fun x hx => ⟨(E.bl x hx).1, (E.bl x hx).2.old o⟩, E.nd,
    fun v hv => Rep.keep (fun b hb hS => ⟨hS, heap_alloc_old _ _ hb⟩) _ _ (E.rp v hv)⟩
theorem Env.drew (E : Env g d s S0 w0 W bs vs) (n : Nat) : Env g d s S0 w0 (W.drewN n) bs vs :=
  ⟨E.at_.drewN n, E.gb.drew n, E.gl, E.s0, fun x hx => ⟨(E.bl x hx).1, (E.bl x hx).2.drewN n⟩, E.nd,
    fun v hv => Rep.keep (w := W) (w' := W.drewN n) (fun b hb hS => ⟨hS, rfl⟩) _ _ (E.rp v hv)⟩
theorem Env.drew1 (E : Env g d s S0 w0 W bs vs) : Env g d s S0 w0 W.drew bs vs :=
  ⟨E.at_.drew, E.gb.trans (GB.of (Below.refl _ W).drew), E.gl, E.s0, fun x hx => ⟨(E.bl x hx).1, (E.bl x hx).2.drew⟩, E.nd,
    fun v hv => Rep.keep (w := W) (w' := W.drew) (fun b hb hS => ⟨hS, rfl⟩) _ _ (E.rp v hv)⟩
theorem Env.new (E : Env g d s S0 w0 W bs vs) (N : Nd) : Env g d s S0 w0 (W.alloc (.cells (ncs N) 25)) ((W.heap.size, N) :: bs) vs := by
  have E' := E.alloc (.cells (ncs N) 25)
  refine ⟨E'.at_, E'.gb, E'.gl, E'.s0, fun x hx => ?_, ?_, fun v hv => ?_⟩
  · rcases List.mem_cons.1 hx with rfl | hx
    · exact ⟨E.size, Blk.new W _ _⟩
    · exact E'.bl x hx
  · rw [List.map_cons, List.nodup_cons]
    refine ⟨fun h => ?_, E.nd⟩
    obtain ⟨x, hx, he⟩ := List.mem_map.1 h
    have := (E.bl x hx).2.lt
    omega
  · refine Rep.keep (fun b hb hS => ⟨⟨hS.1, ?_⟩, heap_alloc_old _ _ hb⟩) _ _ (E.rp v hv)
    rw [List.map_cons, List.mem_cons]
    rintro (h | h)
    · have h' : b = W.heap.size := h
      omega
    · exact hS.2 h
theorem Env.newAt (E : Env g d s S0 w0 W bs vs) (N : Nd) {b : Nat} (hb : b = W.heap.size) : Env g d s S0 w0 (W.alloc (.cells (ncs N) 25)) ((b, N) :: bs) vs := by
  subst hb
  exact E.new N
theorem Env.store (E : Env g d s S0 w0 W bs vs) (i : Nat) {b : Nat} {o : Nd} (hi : bs[i]? = some (b, o)) (N : Nd) : Env g d s S0 w0 (W.setRow b (ncs N)) (bs.set i (b, N)) vs := by
  have hm : (b, o) ∈ bs := List.mem_of_getElem? hi
  obtain ⟨hb1, hb2⟩ := E.bl _ hm
  have hgb : GB g W (W.setRow b (ncs N)) ∨ True := .inr trivial
  have hmap : (bs.set i (b, N)).map Prod.fst = bs.map Prod.fst := by
    rw [List.map_set]
    apply List.ext_getElem?
    intro j
    rw [List.getElem?_set]
    split
    · rename_i h; subst h
      split
      · simp [hi]
      · rename_i h2; rw [List.getElem?_eq_none (by omega)]
    · rfl
  have hlt : i < bs.length := (List.getElem?_eq_some_iff.1 hi).1
  refine ⟨E.at_.row hb2, E.gb.row _ hb1, E.gl, E.s0, fun x hx => ?_, by rw [hmap]; exact E.nd, fun v hv => ?_⟩
  · obtain ⟨j, hj⟩ := List.mem_iff_getElem?.1 hx
    by_cases hij : i = j
    · subst hij
      rw [List.getElem?_set_self hlt] at hj
      cases hj
      exact ⟨hb1, hb2.row _⟩
    · rw [List.getElem?_set_ne hij] at hj
      have hxm : x ∈ bs := List.mem_of_getElem? hj
      refine ⟨(E.bl x hxm).1, (E.bl x hxm).2.row_other _ ?_⟩
      intro he
      have h1 : (bs.map Prod.fst)[i]? = some b := by rw [List.getElem?_map, hi]; rfl
      have h2 : (bs.map Prod.fst)[j]? = some b := by rw [List.getElem?_map, hj, ← he]; rfl
      have hil : i < (bs.map Prod.fst).length := by rw [List.length_map]; exact hlt
      exact hij (List.getElem?_inj hil E.nd |>.1 (h1.trans h2.symm))
  · rw [hmap]
    refine Rep.keep (fun c hc hS => ⟨hS, setRow_other W b c _ ?_⟩) _ _ (E.rp v hv)
    rintro rfl
    exact hS.2 (List.mem_map.2 ⟨_, hm, rfl⟩)
theorem Env.frame {d' : Nat} {s' : PS} {w' : World} (E : Env g d s S0 w0 W bs vs) (ha : At g d' s' w') (hg : GB g W w') : Env g d' s' S0 w0 w' bs vs := by
  have hne : ∀ b, w0.heap.size ≤ b → b ≠ g := fun b hb => by have := E.gl; omega
  have hne2 : ∀ b, S0 b ∨ w0.heap.size ≤ b → b ≠ g := fun b hb => hb.elim (E.s0 b) (hne b)
  refine ⟨ha, E.gb.trans hg, E.gl, E.s0, fun x hx => ⟨(E.bl x hx).1, (E.bl x hx).2.gb hg (hne _ (E.bl x hx).1)⟩, E.nd, fun v hv => ?_⟩
  exact Rep.keep (fun b hb hS => ⟨hS, hg.block b hb (by simpa using hne2 b hS.1)⟩) _ _ (E.rp v hv)
theorem Env.call {d' : Nat} {s' : PS} {w' : World} {v : Value} {e : Ending} (E : Env g d s S0 w0 W bs vs) (h : Post g d' W v s' e w') : e = .returned v ∧ Env g d' s' S0 w0 w' bs vs := ⟨h.1, E.frame h.2.1 h.2.2⟩
theorem Env.callR {w' : World} {v : Value} {e : Ending} (E : Env g d s S0 w0 W bs vs) (h : PostR W v e w') : e = .returned v ∧ Env g d s S0 w0 w' bs vs := ⟨h.1, E.frame (E.at_.below h.2) (GB.of h.2)⟩
theorem Env.callB {w' : World} (E : Env g d s S0 w0 W bs vs) (h : Below W.heap.size W w') : Env g d s S0 w0 w' bs vs := E.frame (E.at_.below h) (GB.of h)
theorem Env.add {T : Tree} {N : Nd} (E : Env g d s S0 w0 W bs vs) (h : Rep (Own S0 w0.heap.size (bs.map Prod.fst)) W T N) : Env g d s S0 w0 W bs ((T, N) :: vs) :=
  ⟨E.at_, E.gb, E.gl, E.s0, E.bl, E.nd, fun v hv => by
    rcases List.mem_cons.1 hv with rfl | hv
    · exact h
    · exact E.rp v hv⟩
theorem Env.callS {d' : Nat} {R : Tree × PS} {S : Nat → Prop} {w' : World} {e : Ending} (E : Env g d s S0 w0 W bs vs) (h : PostS S g d' W R e w') (hS : ∀ b, S b → Own S0 w0.heap.size (bs.map Prod.fst) b) : ∃ N, e = .returned (.agg (ncs N)) ∧ Env g d' R.2 S0 w0 w' bs ((R.1, N) :: vs) := by
  obtain ⟨N, he, hr, ha, hg⟩ := h
  refine ⟨N, he, (E.frame ha hg).add (Rep.keep (fun b hb hS2 => ⟨?_, rfl⟩) _ _ hr)⟩
  rcases hS2 with hS2 | hS2
  · exact hS b hS2
  · refine ⟨.inr (Nat.le_trans E.size hS2), fun hm => ?_⟩
    obtain ⟨x, hx, rfl⟩ := List.mem_map.1 hm
    have := (E.bl x hx).2.lt
    omega
theorem Env.callN {d' : Nat} {R : Tree × PS} {w' : World} {e : Ending} (E : Env g d s S0 w0 W bs vs) (h : PostN g d' W R e w') : ∃ N, e = .returned (.agg (ncs N)) ∧ Env g d' R.2 S0 w0 w' bs ((R.1, N) :: vs) := E.callS h (fun b hb => hb.elim)
theorem Env.leaf (E : Env g d s S0 w0 W bs vs) (k n : Int) (t : ByteArray) : Env g d s S0 w0 W bs ((.mk k n t [] [], ⟨k, n, t, nilSl, nilSl⟩) :: vs) := E.add (Rep.nil _ _ _ _ _)
theorem Env.own_new (E : Env g d s S0 w0 W bs vs) : Own S0 w0.heap.size (bs.map Prod.fst) W.heap.size := by
  refine ⟨.inr E.size, fun hm => ?_⟩
  obtain ⟨x, hx, he⟩ := List.mem_map.1 hm
  have := (E.bl x hx).2.lt
  omega
theorem Env.kids (E : Env g d s S0 w0 W bs vs) {ts : List Tree} {xs : List Nd} (h : Reps (Own S0 w0.heap.size (bs.map Prod.fst)) W ts xs) {m : Nat} (hm : ts.length = m) (hl : m ≤ 200000) (k n : Int) (t : ByteArray) : Env g d s S0 w0 (W.alloc (.cells (ncells xs).toArray 25)) bs ((.mk k n t [] ts, ⟨k, n, t, nilSl, newSl W.heap.size m⟩) :: vs) := by
  have E' := E.alloc (.cells (ncells xs).toArray 25)
  refine E'.add (Rep.of (xs := xs) ?_ (Reps.keep (fun b hb hS => ⟨hS, heap_alloc_old _ _ hb⟩) _ _ h))
  rw [hm]
  exact Row.new W xs m (by rw [h.len, hm]) (by unfold maxLen; omega) E.own_new
theorem Env.kids1 (E : Env g d s S0 w0 W bs vs) {T : Tree} {N : Nd} (h : (T, N) ∈ vs) (k n : Int) (t : ByteArray) : Env g d s S0 w0 (W.alloc (.cells (ncells [N]).toArray 25)) bs ((.mk k n t [] [T], ⟨k, n, t, nilSl, newSl W.heap.size 1⟩) :: vs) :=
  E.kids (m := 1) (ts := [T]) (xs := [N]) (by unfold Reps; exact ⟨E.rp _ h, by unfold Reps; trivial⟩) rfl (by omega) k n t
theorem Env.kids2 (E : Env g d s S0 w0 W bs vs) {T T2 : Tree} {N N2 : Nd} (h : (T, N) ∈ vs) (h2 : (T2, N2) ∈ vs) (k n : Int) (t : ByteArray) : Env g d s S0 w0 (W.alloc (.cells (ncells [N, N2]).toArray 25)) bs ((.mk k n t [] [T, T2], ⟨k, n, t, nilSl, newSl W.heap.size 2⟩) :: vs) :=
  E.kids (m := 2) (ts := [T, T2]) (xs := [N, N2]) (by unfold Reps; refine ⟨E.rp _ h, ?_⟩; unfold Reps; exact ⟨E.rp _ h2, by unfold Reps; trivial⟩) rfl (by omega) k n t
theorem Env.kids3 (E : Env g d s S0 w0 W bs vs) {T T2 T3 : Tree} {N N2 N3 : Nd} (h : (T, N) ∈ vs) (h2 : (T2, N2) ∈ vs) (h3 : (T3, N3) ∈ vs) (k n : Int) (t : ByteArray) : Env g d s S0 w0 (W.alloc (.cells (ncells [N, N2, N3]).toArray 25)) bs ((.mk k n t [] [T, T2, T3], ⟨k, n, t, nilSl, newSl W.heap.size 3⟩) :: vs) :=
  E.kids (m := 3) (ts := [T, T2, T3]) (xs := [N, N2, N3]) (by unfold Reps; refine ⟨E.rp _ h, ?_⟩; unfold Reps; refine ⟨E.rp _ h2, ?_⟩; unfold Reps; exact ⟨E.rp _ h3, by unfold Reps; trivial⟩) rfl (by omega) k n t
theorem Env.post (E : Env g d s S0 w0 W bs vs) {T : Tree} {N : Nd} (hv : (T, N) ∈ vs) : PostS S0 g d w0 (T, s) (.returned (.agg (ncs N))) W :=
  ⟨N, rfl, Rep.keep (fun b hb hS => ⟨hS.1, rfl⟩) _ _ (E.rp _ hv), E.at_, E.gb⟩
theorem Env.fin (E : Env g d s S0 w0 W bs vs) {b : Nat} {T : Tree} {N : Nd} (hb : (b, N) ∈ bs) (hv : (T, N) ∈ vs) {fn : Func} {p : Tmp} (hf : fn.results = #[.cell p 25]) {tmps : Array Value} (hp : tmps.getD p undef = .pointer (some ⟨b, 0, none⟩)) : bodyPost Tryz.prog fn (PostS S0 g d w0 (T, s)) .ret ⟨tmps, []⟩ W :=
  bodyPost_ret (res_N hf _ _ b N hp (E.bl _ hb).2) rfl (E.post hv)
theorem Env.ld (E : Env g d s S0 w0 W bs vs) (i : Nat) {b : Nat} {N : Nd} (hi : bs[i]? = some (b, N)) : (Ld 25 (.pointer (some ⟨b, 0, none⟩))).run Tryz.prog W = .ok (.agg (ncs N)) W := run_ldN (E.bl _ (List.mem_of_getElem? hi)).2
theorem Env.sto (E : Env g d s S0 w0 W bs vs) (i : Nat) {b : Nat} {N : Nd} (hi : bs[i]? = some (b, N)) (M : Nd) : (Lx.St 25 (.pointer (some ⟨b, 0, none⟩)) (.agg (ncs M))).run Tryz.prog W = .ok () (W.setRow b (ncs M)) := run_stN (E.bl _ (List.mem_of_getElem? hi)).2
theorem Env.c0 (E : Env g d s S0 w0 W bs vs) (i : Nat) {b : Nat} {N : Nd} (hi : bs[i]? = some (b, N)) : W.cell? ⟨b, 0, none⟩ = some (.int .i64 N.kind) := ((E.bl _ (List.mem_of_getElem? hi)).2.cell 0).trans (ncs_0 N)
theorem Env.c1 (E : Env g d s S0 w0 W bs vs) (i : Nat) {b : Nat} {N : Nd} (hi : bs[i]? = some (b, N)) : W.cell? ⟨b, 1, none⟩ = some (.int .i64 N.num) := ((E.bl _ (List.mem_of_getElem? hi)).2.cell 1).trans (ncs_1 N)
theorem Env.c4 (E : Env g d s S0 w0 W bs vs) (i : Nat) {b : Nat} {N : Nd} (hi : bs[i]? = some (b, N)) : W.cell? ⟨b, 4, none⟩ = some (.slice N.kids.a N.kids.n N.kids.c) := ((E.bl _ (List.mem_of_getElem? hi)).2.cell 4).trans (ncs_4 N)
theorem Env.fz (E : Env g d s S0 w0 W bs vs) (i : Nat) {b : Nat} {N : Nd} (hi : bs[i]? = some (b, N)) (j : Nat) : W.frozen? ⟨b, j, none⟩ = false := (E.bl _ (List.mem_of_getElem? hi)).2.frozen j
end
theorem Env.set4 {g d : Nat} {s : PS} {S0 : Nat → Prop} {w0 W : World} {bs : List (Nat × Nd)} {vs : List (Tree × Nd)} (E : Env g d s S0 w0 W bs vs) (i : Nat) {b : Nat} {N : Nd} (hi : bs[i]? = some (b, N)) (a : Option Addr) (l c : Nat) : Env g d s S0 w0 (W.setCell ⟨b, 4, none⟩ (.slice a l c)) (bs.set i (b, { N with kids := ⟨a, l, c⟩ })) vs := by
  have hB : Blk W b (ncs N) 25 := (E.bl _ (List.mem_of_getElem? hi)).2
  rw [setCell_row hB, ncs_set4]
  exact E.store i hi _
theorem Env.set1 {g d : Nat} {s : PS} {S0 : Nat → Prop} {w0 W : World} {bs : List (Nat × Nd)} {vs : List (Tree × Nd)} (E : Env g d s S0 w0 W bs vs) (i : Nat) {b : Nat} {N : Nd} (hi : bs[i]? = some (b, N)) (n : Int) : Env g d s S0 w0 (W.setCell ⟨b, 1, none⟩ (.int .i64 n)) (bs.set i (b, { N with num := n })) vs := by
  have hB : Blk W b (ncs N) 25 := (E.bl _ (List.mem_of_getElem? hi)).2
  rw [setCell_row hB, ncs_set1]
  exact E.store i hi _
theorem Env.ne {g d : Nat} {s : PS} {S0 : Nat → Prop} {w0 W : World} {bs : List (Nat × Nd)} {vs : List (Tree × Nd)} (E : Env g d s S0 w0 W bs vs) : ∀ b, Own S0 w0.heap.size (bs.map Prod.fst) b → b ≠ g := fun b h => h.1.elim (E.s0 b) (fun h => by have := E.gl; omega)
theorem Env.arg {g d : Nat} {s : PS} {S0 : Nat → Prop} {w : World} (E : Env g d s S0 w w [] []) {T : Tree} {N : Nd} (h : Rep S0 w T N) : Env g d s S0 w w [] [(T, N)] := E.add (Rep.keep (fun b hb hS => ⟨⟨.inl hS, by simp⟩, rfl⟩) _ _ h)
end Go.Proofs.YtinoaajohkafmaaGreat.Rp
