/-
  Texts of this seat in build order: RpPrO, RpPrA, RpPost.
-/
import Derived.Test.YtinoaajohkafmaaGreatMw24
import Derived.Test.YtinoaajohkafmaaGreatMw25
import Derived.Test.YtinoaajohkafmaaGreatMw20
/-
  The reference's parser: an object.
-/
namespace Go.Proofs.YtinoaajohkafmaaGreat.Rp
open Go Go.RowKit Go.Proofs.YtinoaajohkafmaaGreat.Uni Go.Proofs.YtinoaajohkafmaaGreat.Pa
open Go.Proofs.YtinoaajohkafmaaGreat.Lx
set_option linter.unusedVariables false
set_option linter.unusedSimpArgs false
attribute [local go_sem ↓] ldK stK alK bdK bsK ldN stN alN bdN bsN
attribute [local irreducible] kcs ncs ncells
attribute [local go_sem] run_alK run_bdK0 run_bdKs run_bdKn run_bdKe run_bsK run_fdK0 run_fdK1 run_fdK2 run_fdK3 run_fdN4 run_alN run_stNg run_ldNg run_bdN0 run_bdN04 run_bdN02 run_bdN01 run_bdN024 run_bdN03 run_bdN0234 run_bsN1 run_bsN2 run_bsN3
attribute [local go_sem] run_stKg run_bdNk
theorem growx_nil (S : Nat → Prop) (lo : Nat) (W : World) : GrowX S lo W [] [] (.slice none 0 0) := ⟨by rw [ncells_nil]; exact World.ownsRow_nil _ _ _ _, fun b hb => by simp [Value.ownBlock] at hb, by unfold Reps; trivial⟩
structure OI (L : Low) (g d : Nat) (w wr : World) (b : Nat) (R : List Tree × PS) (ts : List Tree) (xs : List Nd) (S : Sl) (s : PS) (f : Nat) : Prop where
  env : Env g d s (fun _ => False) w wr [(b, ⟨10, 0, noS, nilSl, S⟩), (w.heap.size, zeroN)] []
  gr : GrowX (Own (fun _ => False) w.heap.size [b, w.heap.size]) w.heap.size wr ts xs (.slice S.a S.n S.c)
  fu : s.left.length ≤ f
  len : ts.length + s.left.length ≤ 100001
  eq : R = (ts ++ (moreF (elemF L) f s).1, (moreF (elemF L) f s).2)
set_option maxRecDepth 100000 in
set_option maxHeartbeats 4000000 in
theorem prim_obj_0 {d : Nat} {L : Low} (hL : LowC d L) {g : Nat} {s : PS} {w : World} (h : At g d s w) (hf : s.fault = 0) (hk : seesF ⟨#[123]⟩ s = true) (hq : seesF ⟨#[125]⟩ s.take = true) :
    Calls Tryz.prog 132 #[.pointer (some ⟨g, 0, none⟩)] w (PostN g d w (node 10 [], needsF ⟨#[125]⟩ s.take)) := by
  have m0 := sees_one (y := ⟨#[116, 114, 117, 101]⟩) hk (by decide)
  have m1 := sees_one (y := ⟨#[102, 97, 108, 115, 101]⟩) hk (by decide)
  have m2 := sees_one (y := ⟨#[110, 117, 108, 108]⟩) hk (by decide)
  have m3 := sees_one (y := ⟨#[117, 110, 100, 101, 102, 105, 110, 101, 100]⟩) hk (by decide)
  have m4 := sees_one (y := ⟨#[116, 104, 105, 115]⟩) hk (by decide)
  have m5 := sees_one (y := ⟨#[40]⟩) hk (by decide)
  have m6 := sees_one (y := ⟨#[91]⟩) hk (by decide)
  have m7 := hk
  obtain ⟨q3, q4, q1⟩ := sees_mark hk
  have e3 : (s.next.kind == 3) = false := by simpa using q3
  have e4 : (s.next.kind == 4) = false := by simpa using q4
  have e1 : (s.next.kind == 1) = false := by simpa using q1
  have HQ := Lib.hid hq
  have E0 := (Env.start h).new zeroN
  have x3 := E0.e30 hf
  have cn := now_any E0.at_ hf
  have HE0 := Lib.hid E0
  have HF := Lib.hid hf
  have HM0 := Lib.hid m0
  have HM1 := Lib.hid m1
  have HM2 := Lib.hid m2
  have HM3 := Lib.hid m3
  have HM4 := Lib.hid m4
  have HM5 := Lib.hid m5
  have HM6 := Lib.hid m6
  have HM7 := Lib.hid m7
  clear E0 h hf q3 q4 q1 m0 m1 m2 m3 m4 m5 m6 m7 hk hq
  go_enter Tryz.func132, Tryz.ntmps132
  go_wp2_with (first | (go_at_call 36; (with_reducible refine cn.mono ?_); intro e w1 hp; obtain ⟨rfl, E1⟩ := HE0.out.callR hp; have t0 := ((Blk.new w1 (kcs s.next) 73).cell 0).trans (kcs_0 s.next); have t2 := ((Blk.new w1 (kcs s.next) 73).cell 2).trans (kcs_2 s.next); have t3 := ((Blk.new w1 (kcs s.next) 73).cell 3).trans (kcs_3 s.next); have st := run_stKg w1 w1.heap.size s.next zeroK rfl; have E2 := E1.alloc (.cells (kcs s.next) 73); have c3 := take_f E2.at_ HM0.out; have HE2 := Lib.hid E2; clear hp E1 E2) | (go_at_call 79; (with_reducible refine c3.mono ?_); intro e w3 hp; obtain ⟨rfl, E3⟩ := HE2.out.call hp; have c4 := take_f E3.at_ HM1.out; have HE3 := Lib.hid E3; clear hp E3) | (go_at_call 79; (with_reducible refine c4.mono ?_); intro e w4 hp; obtain ⟨rfl, E4⟩ := HE3.out.call hp; have c5 := take_f E4.at_ HM2.out; have HE4 := Lib.hid E4; clear hp E4) | (go_at_call 79; (with_reducible refine c5.mono ?_); intro e w5 hp; obtain ⟨rfl, E5⟩ := HE4.out.call hp; have c6 := take_f E5.at_ HM3.out; have HE5 := Lib.hid E5; clear hp E5) | (go_at_call 79; (with_reducible refine c6.mono ?_); intro e w6 hp; obtain ⟨rfl, E6⟩ := HE5.out.call hp; have c7 := take_f E6.at_ HM4.out; have HE6 := Lib.hid E6; clear hp E6) | (go_at_call 79; (with_reducible refine c7.mono ?_); intro e w7 hp; obtain ⟨rfl, E7⟩ := HE6.out.call hp; have c8 := is_any E7.at_ HF.out ⟨#[40]⟩; rw [HM5.out] at c8; have HE7 := Lib.hid E7; clear hp E7) | (go_at_call 37; (with_reducible refine c8.mono ?_); intro e w8 hp; obtain ⟨rfl, E8⟩ := HE7.out.callR hp; have c9 := take_f E8.at_ HM6.out; have HE8 := Lib.hid E8; clear hp E8) | (go_at_call 79; (with_reducible refine c9.mono ?_); intro e w9 hp; obtain ⟨rfl, E9⟩ := HE8.out.call hp; have c10 := take_t E9.at_ HM7.out; have HE9 := Lib.hid E9; clear hp E9) | (go_at_call 79; (with_reducible refine c10.mono ?_); intro e w10 hp; obtain ⟨rfl, E10⟩ := HE9.out.call hp; have E10 := E10.new ⟨10, 0, noS, nilSl, nilSl⟩; have x10 := E10.e30 HF.out; have c11 := is_any E10.at_ HF.out ⟨#[125]⟩; rw [HQ.out] at c11; have HE10 := Lib.hid E10; clear hp E10) | (go_at_call 37; (with_reducible refine c11.mono ?_); intro e w11 hp; obtain ⟨rfl, E11⟩ := HE10.out.callR hp; have c12 := want_any E11.at_ ⟨#[125]⟩; have HE11 := Lib.hid E11; clear hp E11) | (go_at_call 82; (with_reducible refine c12.mono ?_); intro e w12 hp; obtain ⟨rfl, E12⟩ := HE11.out.call hp; have E12 := E12.leaf 10 0 noS; have l12 := E12.ld 0 rfl; have s12 := E12.sto 1 rfl; have HE12 := Lib.hid E12; clear hp E12))
  exact ((HE12.out.store 1 rfl _).fin (List.mem_cons_of_mem _ List.mem_cons_self) List.mem_cons_self rfl rfl)
set_option maxRecDepth 100000 in
set_option maxHeartbeats 4000000 in
theorem prim_obj_1 {d : Nat} {L : Low} (hL : LowC d L) {g : Nat} {s : PS} {w : World} (h : At g d s w) (hf : s.fault = 0) (hk : seesF ⟨#[123]⟩ s = true) (hq : seesF ⟨#[125]⟩ s.take = false) {R : List Tree × PS} (hR : R = ((elemF L s.take).1 :: (moreF (elemF L) (elemF L s.take).2.left.length (elemF L s.take).2).1, (moreF (elemF L) (elemF L s.take).2.left.length (elemF L s.take).2).2)) :
    Calls Tryz.prog 132 #[.pointer (some ⟨g, 0, none⟩)] w (PostN g d w (node 10 R.1, needsF ⟨#[125]⟩ R.2)) := by
  have m0 := sees_one (y := ⟨#[116, 114, 117, 101]⟩) hk (by decide)
  have m1 := sees_one (y := ⟨#[102, 97, 108, 115, 101]⟩) hk (by decide)
  have m2 := sees_one (y := ⟨#[110, 117, 108, 108]⟩) hk (by decide)
  have m3 := sees_one (y := ⟨#[117, 110, 100, 101, 102, 105, 110, 101, 100]⟩) hk (by decide)
  have m4 := sees_one (y := ⟨#[116, 104, 105, 115]⟩) hk (by decide)
  have m5 := sees_one (y := ⟨#[40]⟩) hk (by decide)
  have m6 := sees_one (y := ⟨#[91]⟩) hk (by decide)
  have m7 := hk
  obtain ⟨q3, q4, q1⟩ := sees_mark hk
  have e3 : (s.next.kind == 3) = false := by simpa using q3
  have e4 : (s.next.kind == 4) = false := by simpa using q4
  have e1 : (s.next.kind == 1) = false := by simpa using q1
  have HQ := Lib.hid hq
  have hok : OkS s.take := (take_adv (sees_kind hk) h.ok).1
  obtain ⟨X, hX⟩ : ∃ X, elemF L s.take = X := ⟨_, rfl⟩
  have had := elem_adv hL.ad s.take hok
  rw [hX] at had hR
  have hXl : X.2.left.length ≤ 100000 := Nat.le_trans had.2.1 hok.len
  have HX := Lib.hid hX
  have HRR := Lib.hid hR
  clear hX hR had hok
  have E0 := (Env.start h).new zeroN
  have x3 := E0.e30 hf
  have cn := now_any E0.at_ hf
  have HE0 := Lib.hid E0
  have HF := Lib.hid hf
  have HM0 := Lib.hid m0
  have HM1 := Lib.hid m1
  have HM2 := Lib.hid m2
  have HM3 := Lib.hid m3
  have HM4 := Lib.hid m4
  have HM5 := Lib.hid m5
  have HM6 := Lib.hid m6
  have HM7 := Lib.hid m7
  clear E0 h hf q3 q4 q1 m0 m1 m2 m3 m4 m5 m6 m7 hk hq
  go_enter Tryz.func132, Tryz.ntmps132
  go_wp2_with (first | (go_at_call 36; (with_reducible refine cn.mono ?_); intro e w1 hp; obtain ⟨rfl, E1⟩ := HE0.out.callR hp; have t0 := ((Blk.new w1 (kcs s.next) 73).cell 0).trans (kcs_0 s.next); have t2 := ((Blk.new w1 (kcs s.next) 73).cell 2).trans (kcs_2 s.next); have t3 := ((Blk.new w1 (kcs s.next) 73).cell 3).trans (kcs_3 s.next); have st := run_stKg w1 w1.heap.size s.next zeroK rfl; have E2 := E1.alloc (.cells (kcs s.next) 73); have c3 := take_f E2.at_ HM0.out; have HE2 := Lib.hid E2; clear hp E1 E2) | (go_at_call 79; (with_reducible refine c3.mono ?_); intro e w3 hp; obtain ⟨rfl, E3⟩ := HE2.out.call hp; have c4 := take_f E3.at_ HM1.out; have HE3 := Lib.hid E3; clear hp E3) | (go_at_call 79; (with_reducible refine c4.mono ?_); intro e w4 hp; obtain ⟨rfl, E4⟩ := HE3.out.call hp; have c5 := take_f E4.at_ HM2.out; have HE4 := Lib.hid E4; clear hp E4) | (go_at_call 79; (with_reducible refine c5.mono ?_); intro e w5 hp; obtain ⟨rfl, E5⟩ := HE4.out.call hp; have c6 := take_f E5.at_ HM3.out; have HE5 := Lib.hid E5; clear hp E5) | (go_at_call 79; (with_reducible refine c6.mono ?_); intro e w6 hp; obtain ⟨rfl, E6⟩ := HE5.out.call hp; have c7 := take_f E6.at_ HM4.out; have HE6 := Lib.hid E6; clear hp E6) | (go_at_call 79; (with_reducible refine c7.mono ?_); intro e w7 hp; obtain ⟨rfl, E7⟩ := HE6.out.call hp; have c8 := is_any E7.at_ HF.out ⟨#[40]⟩; rw [HM5.out] at c8; have HE7 := Lib.hid E7; clear hp E7) | (go_at_call 37; (with_reducible refine c8.mono ?_); intro e w8 hp; obtain ⟨rfl, E8⟩ := HE7.out.callR hp; have c9 := take_f E8.at_ HM6.out; have HE8 := Lib.hid E8; clear hp E8) | (go_at_call 79; (with_reducible refine c9.mono ?_); intro e w9 hp; obtain ⟨rfl, E9⟩ := HE8.out.call hp; have c10 := take_t E9.at_ HM7.out; have HE9 := Lib.hid E9; clear hp E9) | (go_at_call 79; (with_reducible refine c10.mono ?_); intro e w10 hp; obtain ⟨rfl, E10⟩ := HE9.out.call hp; have E10 := E10.new ⟨10, 0, noS, nilSl, nilSl⟩; have x10 := E10.e30 HF.out; have c11 := is_any E10.at_ HF.out ⟨#[125]⟩; rw [HQ.out] at c11; have HE10 := Lib.hid E10; clear hp E10) | (go_at_call 37; (with_reducible refine c11.mono ?_); intro e w11 hp; obtain ⟨rfl, E11⟩ := HE10.out.callR hp; have E11 := E11.drew1; have d2 : w11.drew.cell? ⟨w10.heap.size, 4, none⟩ = some (.slice none 0 0) := E11.c4 0 rfl; have fz2 := E11.fz 0 rfl 4; have c12 := pair_any hL E11.at_ HF.out; rw [HX.out] at c12; have HG2 := Lib.hid (growx_nil (Own (fun _ => False) w.heap.size [w10.heap.size, w.heap.size]) w.heap.size w11.drew); have HE11 := Lib.hid E11; clear hp E11))
  go_region_law (first | (go_simp; go_at_call 138; (with_reducible refine c12.mono ?_); intro e v6 hp; obtain ⟨N6, a6, n6, cc6, u6w, rfl, E5, hrun6, E6, G6⟩ := app_facts HE11.out HG2.out hp (by simp); have d5 : v6.cell? ⟨w10.heap.size, 4, none⟩ = some (.slice none 0 0) := E5.c4 0 rfl; have d5a : ∀ o, (v6.alloc o).cell? ⟨w10.heap.size, 4, none⟩ = some (.slice none 0 0) := fun o => (E5.alloc o).c4 0 rfl; have f6 := E6.fz 0 rfl 4; have d6 := E6.c4 0 rfl; have E7 := E6.set4 0 rfl a6 n6 cc6; have G7 := growx_cell G6 0 rfl 4 (.slice a6 n6 cc6) (bs' := [(w10.heap.size, ⟨10, 0, noS, nilSl, ⟨a6, n6, cc6⟩⟩), (w.heap.size, zeroN)]) rfl; have HST := Lib.hid (OI.mk (L := L) (R := R) (f := X.2.left.length) E7 G7 (Nat.le_refl _) (by simp; omega) HRR.out); clear hp E5 E6 G6 E7 G7; dsimp only) | (refine step_app rfl (.tmp 102) (.tmp 105) 23 rfl rfl _ _ _ (by simp [Act.eval, Act.put]) (by simp [Act.eval, Act.put]) hrun6 ?_))
  all_goals (
    go_wp2
    go_loopw [] (fun wr => ∃ ts xs S s f, OI L g d w wr w10.heap.size R ts xs S s f) (fun wr => measS g wr)
    case atStart => exact ⟨_, _, _, _, _, HST.out⟩
    case round =>
      obtain ⟨ts, xs, S, s', f, hI⟩ := hrel
      have hmeas := hI.env.at_.meas
      cases hk : seesF ⟨#[44]⟩ s' with
      | false =>
        have ht := take_f hI.env.at_ hk
        have he := hI.eq
        rw [moreF_nil hk, List.append_nil] at he
        have HE1 := Lib.hid (hI.env.ofGrow hI.gr 10 0 noS)
        clear hk hI hmeas HRR HST
        subst he
        go_wp2_with (first | (go_at_call 79; (with_reducible refine ht.mono ?_); intro e w2 hp; obtain ⟨rfl, E2⟩ := HE1.out.call hp; have c3 := want_any E2.at_ ⟨#[125]⟩; have HE2 := Lib.hid E2; clear hp E2) | (go_at_call 82; (with_reducible refine c3.mono ?_); intro e w3 hp; obtain ⟨rfl, E3⟩ := HE2.out.call hp; have l3 := E3.ld 0 rfl; have s3 := E3.sto 1 rfl; have HE3 := Lib.hid E3; clear hp E3))
        exact ((HE3.out.store 1 rfl _).fin (List.mem_cons_of_mem _ List.mem_cons_self) List.mem_cons_self rfl rfl)
      | true =>
        have ht := take_t hI.env.at_ hk
        have hsk := sees_kind hk
        have hf' : s'.fault = 0 := hI.env.at_.ok.live (fun e => hsk (.inr e))
        rw [if_pos hf'] at hmeas
        have hfu := hI.fu
        obtain ⟨f', rfl⟩ : ∃ f', f = f' + 1 := ⟨f - 1, by have := hI.env.at_.ok.pos; omega⟩
        have he := hI.eq
        obtain ⟨Y, hY⟩ : ∃ Y, elemF L s'.take = Y := ⟨_, rfl⟩
        rw [moreF_cons hk, hY] at he
        have hadv := ad_take (elem_adv hL.ad s'.take) hI.env.at_.ok hsk
        rw [hY] at hadv
        have HEE := Lib.hid he
        have HY := Lib.hid hY
        have HV := Lib.hid hadv
        have HFU := Lib.hid hfu
        have HF2 := Lib.hid hf'
        have HM := Lib.hid hmeas
        have HLN := Lib.hid hI.len
        have hn1 : ts.length ≤ 200000 := by have := hI.len; omega
        have HE1 := Lib.hid hI.env
        have HG1 := Lib.hid hI.gr
        clear hk hI he hY hadv hfu hsk hf' hmeas HST
        go_wp2_with (go_at_call 79; (with_reducible refine ht.mono ?_); intro e w3 hp; have G3 := growx_gb HG1.out HE1.out hp.2.2; obtain ⟨rfl, E3⟩ := HE1.out.call hp; have E3 := E3.drew1; have d3 : w3.drew.cell? ⟨w10.heap.size, 4, none⟩ = some (.slice S.a S.n S.c) := E3.c4 0 rfl; have fz3 := E3.fz 0 rfl 4; have c4 := pair_any hL E3.at_ HF2.out; rw [HY.out] at c4; have HE3 := Lib.hid E3; have HG3 := Lib.hid (growx_drew G3); clear hp E3 G3)
        go_region_law (first | (go_simp; go_at_call 138; (with_reducible refine c4.mono ?_); intro e v16 hp; obtain ⟨N16, a16, n16, cc16, u16w, rfl, E5, hrun16, E6, G6⟩ := app_facts HE3.out HG3.out hp (hn1); have d5 : v16.cell? ⟨w10.heap.size, 4, none⟩ = some (.slice S.a S.n S.c) := E5.c4 0 rfl; have d5a : ∀ o, (v16.alloc o).cell? ⟨w10.heap.size, 4, none⟩ = some (.slice S.a S.n S.c) := fun o => (E5.alloc o).c4 0 rfl; have f6 := E6.fz 0 rfl 4; have d6 := E6.c4 0 rfl; have E7 := E6.set4 0 rfl a16 n16 cc16; have G7 := growx_cell G6 0 rfl 4 (.slice a16 n16 cc16) (bs' := [(w10.heap.size, ⟨10, 0, noS, nilSl, ⟨a16, n16, cc16⟩⟩), (w.heap.size, zeroN)]) rfl; have HE7 := Lib.hid E7; have HG7 := Lib.hid G7; clear hp E5 E6 G6 E7 G7; dsimp only) | (refine step_app rfl (.tmp 111) (.tmp 114) 23 rfl rfl _ _ _ (by simp [Act.eval, Act.put]) (by simp [Act.eval, Act.put]) hrun16 ?_))
        all_goals (
          go_wp2
          go_roundw
          case rel =>
            refine ⟨ts ++ [Y.1], xs ++ [N16], ⟨a16, n16, cc16⟩, Y.2, f', HE7.out, HG7.out, ?_, ?_, ?_⟩
            · have := HV.out; have := HFU.out; omega
            · have := HV.out; have := HLN.out; simp; omega
            · rw [HEE.out]; simp
          case measure =>
            rw [HE7.out.at_.meas, HM.out]
            have := HV.out
            split <;> omega))
end Go.Proofs.YtinoaajohkafmaaGreat.Rp

/-
  The reference's parser: what an expression begins with, any.
-/
namespace Go.Proofs.YtinoaajohkafmaaGreat.Rp
open Go Go.RowKit Go.Proofs.YtinoaajohkafmaaGreat.Uni Go.Proofs.YtinoaajohkafmaaGreat.Pa
open Go.Proofs.YtinoaajohkafmaaGreat.Lx
set_option linter.unusedVariables false
set_option linter.unusedSimpArgs false
attribute [local go_sem ↓] ldK stK alK bdK bsK ldN stN alN bdN bsN
attribute [local irreducible] kcs ncs ncells
attribute [local go_sem] run_alK run_bdK0 run_bdKs run_bdKn run_bdKe run_bsK run_fdK0 run_fdK1 run_fdK2 run_fdK3 run_fdN4 run_alN run_stNg run_ldNg run_bdN0 run_bdN04 run_bdN02 run_bdN01 run_bdN024 run_bdN03 run_bdN0234 run_bsN1 run_bsN2 run_bsN3
theorem prim_any {d : Nat} {L : Low} (hL : LowC d L) {g : Nat} {s : PS} {w : World} (h : At g d s w) :
    Calls Tryz.prog 132 #[.pointer (some ⟨g, 0, none⟩)] w (PostN g d w (rprimF L s)) := by
  by_cases hf : s.fault = 0
  · unfold rprimF
    by_cases k3 : s.next.kind = 3
    · rw [if_pos k3]; exact prim_num hL h hf k3
    rw [if_neg k3]
    by_cases k4 : s.next.kind = 4
    · rw [if_pos k4]; exact prim_str hL h hf k4
    rw [if_neg k4]
    by_cases k1 : s.next.kind = 1
    · rw [if_pos k1]; exact prim_name hL h hf k1
    rw [if_neg k1]
    by_cases m5 : seesF ⟨#[40]⟩ s = true
    · rw [if_pos m5]; exact prim_paren hL h hf m5
    rw [if_neg m5]
    by_cases m6 : seesF ⟨#[91]⟩ s = true
    · rw [if_pos m6]; exact prim_arr hL h hf m6 rfl
    rw [if_neg m6]
    by_cases m7 : seesF ⟨#[123]⟩ s = true
    · rw [if_pos m7]
      unfold rlistF
      have hf2 : s.take.fault = 0 := hf
      cases hq : seesF ⟨#[125]⟩ s.take with
      | true => simp only [hf2]; exact prim_obj_0 hL h hf m7 hq
      | false => simp only [hf2]; exact prim_obj_1 hL h hf m7 hq rfl
    rw [if_neg m7]
    by_cases m8 : seesF ⟨#[102, 117, 110, 99, 116, 105, 111, 110]⟩ s = true
    · rw [if_pos m8]
      by_cases hn : s.take.next.kind = 1
      · rw [if_pos hn]; exact prim_fun_n hL h hf m8 hn
      · rw [if_neg hn]; exact prim_fun_a hL h hf m8 hn
    rw [if_neg m8]
    unfold litF
    by_cases m0 : seesF ⟨#[116, 114, 117, 101]⟩ s = true
    · rw [if_pos m0]; exact prim_true hL h hf m0
    rw [if_neg m0]
    by_cases m1 : seesF ⟨#[102, 97, 108, 115, 101]⟩ s = true
    · rw [if_pos m1]; exact prim_false hL h hf m1
    rw [if_neg m1]
    by_cases m2 : seesF ⟨#[110, 117, 108, 108]⟩ s = true
    · rw [if_pos m2]; exact prim_null hL h hf m2
    rw [if_neg m2]
    by_cases m3 : seesF ⟨#[117, 110, 100, 101, 102, 105, 110, 101, 100]⟩ s = true
    · rw [if_pos m3]; exact prim_undefined hL h hf m3
    rw [if_neg m3]
    by_cases m4 : seesF ⟨#[116, 104, 105, 115]⟩ s = true
    · rw [if_pos m4]; exact prim_this hL h hf m4
    rw [if_neg m4]
    simp only [Bool.not_eq_true] at m0 m1 m2 m3 m4 m5 m6 m7 m8
    exact prim_none hL h hf m0 m1 m2 m3 m4 m5 m6 m7 m8 k3 k4 k1
  · exact prim_bad hL h hf
end Go.Proofs.YtinoaajohkafmaaGreat.Rp

/-
  The reference's parser: what stands behind a sign.
-/
namespace Go.Proofs.YtinoaajohkafmaaGreat.Rp
open Go Go.RowKit Go.Proofs.YtinoaajohkafmaaGreat.Uni Go.Proofs.YtinoaajohkafmaaGreat.Pa
open Go.Proofs.YtinoaajohkafmaaGreat.Lx
set_option linter.unusedVariables false
set_option linter.unusedSimpArgs false
attribute [local go_sem ↓] ldK stK alK bdK bsK ldN stN alN bdN bsN
attribute [local irreducible] kcs ncs ncells
attribute [local go_sem] run_alK run_bdK0 run_bdKs run_bdKn run_bdKe run_bsK run_fdK0 run_fdK1 run_fdK2 run_fdK3 run_fdN4 run_alN run_stNg run_ldNg run_bdN0 run_bdN04 run_bdN02 run_bdN01 run_bdN024 run_bdN03 run_bdN0234 run_bsN1 run_bsN2 run_bsN3
section
variable {g d : Nat} {s : PS} {S0 : Nat → Prop} {w0 W : World} {bs : List (Nat × Nd)} {vs : List (Tree × Nd)}
theorem hp_gb {d' : Nat} {R : List Tree × PS} {e : Ending} {w2 : World} (hp : PostL g d' W R e w2) : GB g W w2 := by
  obtain ⟨_, _, _, _, _, _, hg⟩ := hp
  exact hg
theorem hp_size {d' : Nat} {R : List Tree × PS} {e : Ending} {w2 : World} (hp : PostL g d' W R e w2) : W.heap.size ≤ w2.heap.size := (hp_gb hp).size
structure SrcX (lo hi : Nat) (W : World) (S2 : Sl) (ts : List Tree) (xs : List Nd) : Prop where
  own : W.ownsRow 0 25 5 (.slice S2.a S2.n S2.c) ts.length (ncells xs)
  rp : Reps (fun b => lo ≤ b ∧ b < hi) W ts xs
  len : ts.length ≤ 200000
theorem SrcX.alloc {lo hi : Nat} {S2 : Sl} {ts : List Tree} {xs : List Nd} (X : SrcX lo hi W S2 ts xs) (o : Obj) : SrcX lo hi (W.alloc o) S2 ts xs :=
  ⟨X.own.alloc _, Reps.keep (fun b hb hS => ⟨hS, heap_alloc_old _ _ hb⟩) _ _ X.rp, X.len⟩
theorem src_of (E : Env g d s S0 w0 W bs vs) {d' : Nat} {R : List Tree × PS} {e : Ending} {w2 : World} (hp : PostL g d' W R e w2) :
    ∃ (S2 : Sl) (xs : List Nd), e = .returned (.slice S2.a S2.n S2.c) ∧ Env g d' R.2 S0 w0 w2 bs vs ∧ SrcX W.heap.size w2.heap.size w2 S2 R.1 xs := by
  obtain ⟨v2, xs2, he, hgr, hl, ha, hg⟩ := hp
  have E2 := E.frame ha hg
  obtain ⟨S2, hv2, hrow, hrp⟩ := hgr.row
  subst hv2
  exact ⟨S2, xs2, he, E2, hrow.1, Reps.keep (fun b hb hS => ⟨⟨hS, hb⟩, rfl⟩) _ _ hrp, by omega⟩
theorem SrcX.app (E : Env g d s S0 w0 W bs vs) {ts ts2 : List Tree} {xs xs2 : List Nd} {v : Value} (G : GrowX (Own S0 w0.heap.size (bs.map Prod.fst)) w0.heap.size W ts xs v) {lo hi : Nat} {S2 : Sl} (X : SrcX lo hi W S2 ts2 xs2) (hb : ∀ b, lo ≤ b → b < hi → Own S0 w0.heap.size (bs.map Prod.fst) b ∧ some b ≠ v.ownBlock) (hn : ts.length ≤ 200000) :
    ∃ (a : Option Addr) (n c : Nat) (w6 : World) (xs6 : List Nd), (Builtin.append_ #[23, 23] 23 #[v, .slice S2.a S2.n S2.c]).run Tryz.prog W = .ok (.slice a n c) w6 ∧ Env g d s S0 w0 w6 bs [] ∧ GrowX (Own S0 w0.heap.size (bs.map Prod.fst)) w0.heap.size w6 (ts ++ ts2) xs6 (.slice a n c) := by
  obtain ⟨a, n, c, w6, h1, h2, h3⟩ := grow_src G X.own (Reps.keep (fun b hb2 hS => ⟨hb b hS.1 hS.2, rfl⟩) _ _ X.rp) (fun b hb2 => E.lift hb2) E.size hn X.len
  exact ⟨a, n, c, w6, _, h1, E.grownV (by decide) G.own G.ob h3, h2⟩
theorem own_cons {lo c : Nat} {l : List Nat} {b : Nat} (h : Own S0 lo l b) (hne : b ≠ c) : Own S0 lo (c :: l) b := ⟨h.1, fun hm => by
  rw [List.mem_cons] at hm
  rcases hm with hm | hm
  · exact hne hm
  · exact h.2 hm⟩
theorem growx_newAt (E : Env g d s S0 w0 W bs vs) {T : Tree} {N : Nd} (h : (T, N) ∈ vs) {b : Nat} (hb : b = W.heap.size) : GrowX (Own S0 w0.heap.size (bs.map Prod.fst)) w0.heap.size (W.alloc (.cells (ncells [N]).toArray 25)) [T] [N] (.slice (some ⟨b, 0, none⟩) 1 1) := by
  subst hb
  exact GrowX.new (m := 1) (ts := [T]) (xs := [N]) (by unfold Reps; exact ⟨E.rp _ h, by unfold Reps; trivial⟩) E.own_new E.size rfl (by omega)
end
set_option maxRecDepth 100000 in
set_option maxHeartbeats 4000000 in
theorem post_p {d : Nat} {L : Low} (hL : LowC d L) {g : Nat} {s : PS} {w : World} (h : At g d s w) (hk : seesF ⟨#[110, 101, 119]⟩ s = false) {X Y : Tree × PS} (hX : rprimF L s = X) (hY : rmembF L true X.2.left.length X.1 X.2 = Y) :
    Calls Tryz.prog 124 #[.pointer (some ⟨g, 0, none⟩)] w (PostN g d w Y) := by
  have E0 := (Env.start h).new zeroN
  have c1 := take_f E0.at_ hk
  have HE0 := Lib.hid E0
  have HX := Lib.hid hX
  have HY := Lib.hid hY
  clear E0 h hk hX hY
  go_enter Tryz.func124, Tryz.ntmps124
  go_wp2_with (first | (go_at_call 79; (with_reducible refine c1.mono ?_); intro e w1 hp; obtain ⟨rfl, E1⟩ := HE0.out.call hp; have c2 := prim_any hL E1.at_; rw [HX.out] at c2; have HE1 := Lib.hid E1; clear hp E1) | (go_at_call 132; (with_reducible refine c2.mono ?_); intro e w2 hp; obtain ⟨N2, rfl, E2⟩ := HE1.out.callN hp; have c3 := members_call hL E2.at_ E2.ne (E2.rp _ List.mem_cons_self); rw [HY.out] at c3; have HE2 := Lib.hid E2; clear hp E2) | (go_at_call 131; (with_reducible refine c3.mono ?_); intro e w3 hp; obtain ⟨N3, rfl, E3⟩ := HE2.out.callS hp (fun b h => h); have s3 := E3.sto 0 rfl; have HE3 := Lib.hid E3; clear hp E3))
  exact ((HE3.out.store 0 rfl _).fin List.mem_cons_self List.mem_cons_self rfl rfl)
set_option maxRecDepth 100000 in
set_option maxHeartbeats 4000000 in
theorem post_n {d : Nat} {L : Low} (hL : LowC d L) {g : Nat} {s : PS} {w : World} (h : At g d s w) (hk : seesF ⟨#[110, 101, 119]⟩ s = true) {X Y R : Tree × PS} {Z : List Tree × PS} (hX : rprimF L s.take = X) (hY : rmembF L false X.2.left.length X.1 X.2 = Y) (hZ : rargsF L Y.2 = Z) (hR : rmembF L true Z.2.left.length (node 18 (Y.1 :: Z.1)) Z.2 = R) :
    Calls Tryz.prog 124 #[.pointer (some ⟨g, 0, none⟩)] w (PostN g d w R) := by
  have E0 := (Env.start h).new zeroN
  have c1 := take_t E0.at_ hk
  have HE0 := Lib.hid E0
  have HX := Lib.hid hX
  have HY := Lib.hid hY
  have HZ := Lib.hid hZ
  have HR := Lib.hid hR
  clear E0 h hk hX hY hZ hR
  go_enter Tryz.func124, Tryz.ntmps124
  go_wp2_with (first | (go_at_call 79; (with_reducible refine c1.mono ?_); intro e w1 hp; obtain ⟨rfl, E1⟩ := HE0.out.call hp; have c2 := prim_any hL E1.at_; rw [HX.out] at c2; have HE1 := Lib.hid E1; clear hp E1) | (go_at_call 132; (with_reducible refine c2.mono ?_); intro e w2 hp; obtain ⟨N2, rfl, E2⟩ := HE1.out.callN hp; have c3 := members_plain hL E2.at_ E2.ne (E2.rp _ List.mem_cons_self); rw [HY.out] at c3; have HE2 := Lib.hid E2; clear hp E2) | (go_at_call 131; (with_reducible refine c3.mono ?_); intro e w3 hp; obtain ⟨N3, rfl, E3⟩ := HE2.out.callS hp (fun b h => h); have E3 := E3.new N3; have EL := E3.newAt zeroN (b := w3.heap.size + 1) (by simp); have EB := E3.alloc (.cells (ncells [N3]).toArray 25); have GB := growx_newAt E3 List.mem_cons_self (b := w3.heap.size + 1) (by simp); have EBL := EB.newAt zeroN (b := w3.heap.size + 1 + 1) (by simp); have GBL := GB.local zeroN (b := w3.heap.size + 1 + 1) (by simp); have ELB := EL.alloc (.cells (ncells [N3]).toArray 25); have GLB := growx_newAt EL List.mem_cons_self (b := w3.heap.size + 1 + 1) (by simp); have EB := EB.drew1; have GB := growx_drew GB; have EBL := EBL.drew1; have GBL := growx_drew GBL; have ELB := ELB.drew1; have GLB := growx_drew GLB; have EL := EL.drew1; have lL := EL.ld 1 rfl; have E3 := E3.drew1; have l3 := E3.ld 0 rfl; have c0 := args_any hL E3.at_; have cL := args_any hL EL.at_; have cB := args_any hL EB.at_; have cBL := args_any hL EBL.at_; have cLB := args_any hL ELB.at_; rw [HZ.out] at c0 cL cB cBL cLB; have HEL := Lib.hid EL; have HEB := Lib.hid EB; have HGB := Lib.hid GB; have HEBL := Lib.hid EBL; have HGBL := Lib.hid GBL; have HELB := Lib.hid ELB; have HGLB := Lib.hid GLB; clear EL EB GB EBL GBL ELB GLB; have HE3 := Lib.hid E3; clear hp E3))
  go_region_law (first | (go_simp; go_at_call 133; first | ((with_reducible refine c0.mono ?_); intro e w5 hp; have hlt := HE3.out.size; obtain ⟨S5, xs5, rfl, E5, X5⟩ := src_of HE3.out hp; have hlift := fun b (hb : _ ≤ b) => HE3.out.lift (b := b) hb; have hsz := hp_size hp; have l5 := E5.ld 0 rfl; have l5L := (E5.newAt zeroN (b := w5.heap.size) rfl).ld 1 rfl; obtain ⟨a1, n1, cc1, u1, x1, hrun1, E6, G6⟩ := SrcX.app (E5.alloc (.cells (ncells [N3]).toArray 25)) (growx_newAt E5 List.mem_cons_self (b := w5.heap.size) rfl) (X5.alloc _) (fun b h1 h2 => ⟨hlift b h1, by simp [Value.ownBlock] at h1 ⊢; omega⟩) (by simp); have E7 := (E6.newAt zeroN (b := u1.heap.size) rfl).ofGrow (G6.local zeroN rfl) 18 0 noS; have eq1 : (u1.alloc (.cells (ncs zeroN) 25)).setRow u1.heap.size (ncs (kidN 18 ⟨a1, n1, cc1⟩)) = u1.alloc (.cells (ncs (kidN 18 ⟨a1, n1, cc1⟩)) 25) := (by rw [setRow_new]); have E8 := E7.store 0 rfl (kidN 18 ⟨a1, n1, cc1⟩); rw [eq1] at E8; have l81 := E8.ld 0 rfl; have cF1 := members_call hL E8.at_ E8.ne (show Rep _ _ (node 18 (Y.1 :: Z.1)) (kidN 18 ⟨a1, n1, cc1⟩) from E8.rp _ List.mem_cons_self); have HF1 := Lib.hid E8; clear E7 E8; clear E6 G6; obtain ⟨a2, n2, cc2, u2, x2, hrun2, E6, G6⟩ := SrcX.app ((E5.alloc (.cells (ncells [N3]).toArray 25)).newAt zeroN (b := w5.heap.size + 1) (by simp)) ((growx_newAt E5 List.mem_cons_self (b := w5.heap.size) rfl).local zeroN (b := w5.heap.size + 1) (by simp)) ((X5.alloc _).alloc _) (fun b h1 h2 => ⟨own_cons (hlift b h1) (by simp at h1 h2 ⊢; omega), by simp [Value.ownBlock] at h1 ⊢; omega⟩) (by simp); have E7 := E6.ofGrow G6 18 0 noS; have s72 := E7.sto 0 rfl; have E8 := E7.store 0 rfl (kidN 18 ⟨a2, n2, cc2⟩); have l82 := E8.ld 0 rfl; have cF2 := members_call hL E8.at_ E8.ne (show Rep _ _ (node 18 (Y.1 :: Z.1)) (kidN 18 ⟨a2, n2, cc2⟩) from E8.rp _ List.mem_cons_self); have HF2 := Lib.hid E8; clear E7 E8; clear E6 G6; obtain ⟨a3, n3, cc3, u3, x3, hrun3, E6, G6⟩ := SrcX.app ((E5.newAt zeroN (b := w5.heap.size) rfl).alloc (.cells (ncells [N3]).toArray 25)) (growx_newAt (E5.newAt zeroN (b := w5.heap.size) rfl) List.mem_cons_self (b := w5.heap.size + 1) (by simp)) ((X5.alloc _).alloc _) (fun b h1 h2 => ⟨own_cons (hlift b h1) (by simp at h1 h2 ⊢; omega), by simp [Value.ownBlock] at h1 ⊢; omega⟩) (by simp); have E7 := E6.ofGrow G6 18 0 noS; have s73 := E7.sto 0 rfl; have E8 := E7.store 0 rfl (kidN 18 ⟨a3, n3, cc3⟩); have l83 := E8.ld 0 rfl; have cF3 := members_call hL E8.at_ E8.ne (show Rep _ _ (node 18 (Y.1 :: Z.1)) (kidN 18 ⟨a3, n3, cc3⟩) from E8.rp _ List.mem_cons_self); have HF3 := Lib.hid E8; clear E7 E8; clear hp E5 X5 hlift E6 G6; dsimp only) | ((with_reducible refine cB.mono ?_); intro e w5 hp; have hlt := HEB.out.size; obtain ⟨S5, xs5, rfl, E5, X5⟩ := src_of HEB.out hp; have hlift := fun b (hb : _ ≤ b) => HEB.out.lift (b := b) hb; have hg5 := hp_gb hp; have hsz := hp_size hp; have G5 := growx_gb HGB.out HEB.out hg5; obtain ⟨a1, n1, cc1, u1, x1, hrun1, E6, G6⟩ := SrcX.app (E5) (G5) (X5) (fun b h1 h2 => ⟨hlift b h1, by simp [Value.ownBlock] at h1 ⊢; omega⟩) (by simp); have E7 := (E6.newAt zeroN (b := u1.heap.size) rfl).ofGrow (G6.local zeroN rfl) 18 0 noS; have eq1 : (u1.alloc (.cells (ncs zeroN) 25)).setRow u1.heap.size (ncs (kidN 18 ⟨a1, n1, cc1⟩)) = u1.alloc (.cells (ncs (kidN 18 ⟨a1, n1, cc1⟩)) 25) := (by rw [setRow_new]); have E8 := E7.store 0 rfl (kidN 18 ⟨a1, n1, cc1⟩); rw [eq1] at E8; have l81 := E8.ld 0 rfl; have cF1 := members_call hL E8.at_ E8.ne (show Rep _ _ (node 18 (Y.1 :: Z.1)) (kidN 18 ⟨a1, n1, cc1⟩) from E8.rp _ List.mem_cons_self); have HF1 := Lib.hid E8; clear E7 E8; clear E6 G6; obtain ⟨a2, n2, cc2, u2, x2, hrun2, E6, G6⟩ := SrcX.app (E5.newAt zeroN (b := w5.heap.size) rfl) (G5.local zeroN (b := w5.heap.size) rfl) (X5.alloc _) (fun b h1 h2 => ⟨own_cons (hlift b h1) (by simp at h1 h2 ⊢; omega), by simp [Value.ownBlock] at h1 ⊢; omega⟩) (by simp); have E7 := E6.ofGrow G6 18 0 noS; have s72 := E7.sto 0 rfl; have E8 := E7.store 0 rfl (kidN 18 ⟨a2, n2, cc2⟩); have l82 := E8.ld 0 rfl; have cF2 := members_call hL E8.at_ E8.ne (show Rep _ _ (node 18 (Y.1 :: Z.1)) (kidN 18 ⟨a2, n2, cc2⟩) from E8.rp _ List.mem_cons_self); have HF2 := Lib.hid E8; clear E7 E8; clear hp E5 X5 G5 hlift E6 G6; dsimp only) | ((with_reducible refine cL.mono ?_); intro e w5 hp; have hlt := HEL.out.size; obtain ⟨S5, xs5, rfl, E5, X5⟩ := src_of HEL.out hp; have hlift := fun b (hb : _ ≤ b) => HEL.out.lift (b := b) hb; have hsz := hp_size hp; have l5 := E5.ld 1 rfl; obtain ⟨a1, n1, cc1, u1, x1, hrun1, E6, G6⟩ := SrcX.app (E5.alloc (.cells (ncells [N3]).toArray 25)) (growx_newAt E5 List.mem_cons_self (b := w5.heap.size) rfl) (X5.alloc _) (fun b h1 h2 => ⟨hlift b h1, by simp [Value.ownBlock] at h1 ⊢; omega⟩) (by simp); have E7 := E6.ofGrow G6 18 0 noS; have s71 := E7.sto 0 rfl; have E8 := E7.store 0 rfl (kidN 18 ⟨a1, n1, cc1⟩); have l81 := E8.ld 0 rfl; have cF1 := members_call hL E8.at_ E8.ne (show Rep _ _ (node 18 (Y.1 :: Z.1)) (kidN 18 ⟨a1, n1, cc1⟩) from E8.rp _ List.mem_cons_self); have HF1 := Lib.hid E8; clear E7 E8; clear hp E5 X5 hlift E6 G6; dsimp only) | ((with_reducible refine cBL.mono ?_); intro e w5 hp; have hlt := HEBL.out.size; obtain ⟨S5, xs5, rfl, E5, X5⟩ := src_of HEBL.out hp; have hlift := fun b (hb : _ ≤ b) => HEBL.out.lift (b := b) hb; have hg5 := hp_gb hp; have hsz := hp_size hp; have G5 := growx_gb HGBL.out HEBL.out hg5; obtain ⟨a1, n1, cc1, u1, x1, hrun1, E6, G6⟩ := SrcX.app (E5) (G5) (X5) (fun b h1 h2 => ⟨hlift b h1, by simp [Value.ownBlock] at h1 ⊢; omega⟩) (by simp); have E7 := E6.ofGrow G6 18 0 noS; have s71 := E7.sto 0 rfl; have E8 := E7.store 0 rfl (kidN 18 ⟨a1, n1, cc1⟩); have l81 := E8.ld 0 rfl; have cF1 := members_call hL E8.at_ E8.ne (show Rep _ _ (node 18 (Y.1 :: Z.1)) (kidN 18 ⟨a1, n1, cc1⟩) from E8.rp _ List.mem_cons_self); have HF1 := Lib.hid E8; clear E7 E8; clear hp E5 X5 G5 hlift E6 G6; dsimp only) | ((with_reducible refine cLB.mono ?_); intro e w5 hp; have hlt := HELB.out.size; obtain ⟨S5, xs5, rfl, E5, X5⟩ := src_of HELB.out hp; have hlift := fun b (hb : _ ≤ b) => HELB.out.lift (b := b) hb; have hg5 := hp_gb hp; have hsz := hp_size hp; have G5 := growx_gb HGLB.out HELB.out hg5; obtain ⟨a1, n1, cc1, u1, x1, hrun1, E6, G6⟩ := SrcX.app (E5) (G5) (X5) (fun b h1 h2 => ⟨hlift b h1, by simp [Value.ownBlock] at h1 ⊢; omega⟩) (by simp); have E7 := E6.ofGrow G6 18 0 noS; have s71 := E7.sto 0 rfl; have E8 := E7.store 0 rfl (kidN 18 ⟨a1, n1, cc1⟩); have l81 := E8.ld 0 rfl; have cF1 := members_call hL E8.at_ E8.ne (show Rep _ _ (node 18 (Y.1 :: Z.1)) (kidN 18 ⟨a1, n1, cc1⟩) from E8.rp _ List.mem_cons_self); have HF1 := Lib.hid E8; clear E7 E8; clear hp E5 X5 G5 hlift E6 G6; dsimp only)) | (first | (refine step_app rfl (.tmp 12) (.tmp 14) 23 rfl rfl _ _ _ (by simp [Act.eval, Act.put]) (by simp [Act.eval, Act.put]) hrun1 ?_) | (refine step_app rfl (.tmp 12) (.tmp 14) 23 rfl rfl _ _ _ (by simp [Act.eval, Act.put]) (by simp [Act.eval, Act.put]) hrun2 ?_) | (refine step_app rfl (.tmp 12) (.tmp 14) 23 rfl rfl _ _ _ (by simp [Act.eval, Act.put]) (by simp [Act.eval, Act.put]) hrun3 ?_)))
  all_goals (
    go_wp2_with (go_at_call 131; first | ((with_reducible refine cF1.mono ?_); intro e w9 hp; rw [HR.out] at hp; obtain ⟨N9, rfl, E9⟩ := HF1.out.callS hp (fun b h => h); have s9 := E9.sto 2 rfl; have HE9 := Lib.hid E9; clear hp E9) | ((with_reducible refine cF2.mono ?_); intro e w9 hp; rw [HR.out] at hp; obtain ⟨N9, rfl, E9⟩ := HF2.out.callS hp (fun b h => h); have s9 := E9.sto 2 rfl; have HE9 := Lib.hid E9; clear hp E9) | ((with_reducible refine cF3.mono ?_); intro e w9 hp; rw [HR.out] at hp; obtain ⟨N9, rfl, E9⟩ := HF3.out.callS hp (fun b h => h); have s9 := E9.sto 2 rfl; have HE9 := Lib.hid E9; clear hp E9))
    exact ((HE9.out.store 2 rfl _).fin (List.mem_cons_of_mem _ (List.mem_cons_of_mem _ List.mem_cons_self)) List.mem_cons_self rfl rfl))
theorem post_any {d : Nat} {L : Low} (hL : LowC d L) {g : Nat} {s : PS} {w : World} (h : At g d s w) :
    Calls Tryz.prog 124 #[.pointer (some ⟨g, 0, none⟩)] w (PostN g d w (rpostF L s)) := by
  unfold rpostF
  cases hk : seesF ⟨#[110, 101, 119]⟩ s with
  | true => exact post_n hL h hk rfl rfl rfl rfl
  | false => exact post_p hL h hk rfl rfl
end Go.Proofs.YtinoaajohkafmaaGreat.Rp
