/-
  Texts of this seat in build order: RpPrF, RpPair, RpPaK.
-/
import Derived.Test.YtinoaajohkafmaaGreatMt39
/-
  The reference's parser: a function as an expression.
-/
namespace Go.Proofs.YtinoaajohkafmaaGreat.Rp
open Go Go.RowKit Go.Proofs.YtinoaajohkafmaaGreat.Uni Go.Proofs.YtinoaajohkafmaaGreat.Pa
open Go.Proofs.YtinoaajohkafmaaGreat.Lx
set_option linter.unusedVariables false
set_option linter.unusedSimpArgs false
attribute [local go_sem ↓] ldK stK alK bdK bsK ldN stN alN bdN bsN
attribute [local irreducible] kcs ncs ncells
attribute [local go_sem] run_alK run_bdK0 run_bdKs run_bdKn run_bdKe run_bsK run_fdK0 run_fdK1 run_fdK2 run_fdK3 run_fdN4 run_alN run_stNg run_ldNg run_bdN0 run_bdN04 run_bdN02 run_bdN01 run_bdN024 run_bdN03 run_bdN0234 run_bsN1 run_bsN2 run_bsN3
attribute [local go_sem] run_stKg run_bdNk
set_option maxRecDepth 100000 in
set_option maxHeartbeats 4000000 in
theorem prim_fun_n {d : Nat} {L : Low} (hL : LowC d L) {g : Nat} {s : PS} {w : World} (h : At g d s w) (hf : s.fault = 0) (hk : seesF ⟨#[102, 117, 110, 99, 116, 105, 111, 110]⟩ s = true) (hn : s.take.next.kind = 1) :
    Calls Tryz.prog 132 #[.pointer (some ⟨g, 0, none⟩)] w (PostN g d w (rfuncF L s.take.next.text s.take.take)) := by
  have m0 := sees_one (y := ⟨#[116, 114, 117, 101]⟩) hk (by decide)
  have m1 := sees_one (y := ⟨#[102, 97, 108, 115, 101]⟩) hk (by decide)
  have m2 := sees_one (y := ⟨#[110, 117, 108, 108]⟩) hk (by decide)
  have m3 := sees_one (y := ⟨#[117, 110, 100, 101, 102, 105, 110, 101, 100]⟩) hk (by decide)
  have m4 := sees_one (y := ⟨#[116, 104, 105, 115]⟩) hk (by decide)
  have m5 := sees_one (y := ⟨#[40]⟩) hk (by decide)
  have m6 := sees_one (y := ⟨#[91]⟩) hk (by decide)
  have m7 := sees_one (y := ⟨#[123]⟩) hk (by decide)
  have m8 := hk
  obtain ⟨q3, q4, q1⟩ := sees_mark hk
  have e3 : (s.next.kind == 3) = false := by simpa using q3
  have e4 : (s.next.kind == 4) = false := by simpa using q4
  have e1 : (s.next.kind == 1) = false := by simpa using q1
  have E0 := (Env.start h).new zeroN
  have x3 := E0.e30 hf
  have cn := now_any E0.at_ hf
  have HE0 := Lib.hid E0
  have HF := Lib.hid hf
  have HN := Lib.hid (show nameF s.take = (s.take.next.text, s.take.take) from if_pos hn)
  have e5 : (s.take.next.kind == 1) = true := by rw [hn]; rfl
  clear hn
  have HM0 := Lib.hid m0
  have HM1 := Lib.hid m1
  have HM2 := Lib.hid m2
  have HM3 := Lib.hid m3
  have HM4 := Lib.hid m4
  have HM5 := Lib.hid m5
  have HM6 := Lib.hid m6
  have HM7 := Lib.hid m7
  have HM8 := Lib.hid m8
  clear E0 h hf q3 q4 q1 m0 m1 m2 m3 m4 m5 m6 m7 m8 hk
  go_enter Tryz.func132, Tryz.ntmps132
  go_wp2_with (first | (go_at_call 36; (with_reducible refine cn.mono ?_); intro e w1 hp; obtain ⟨rfl, E1⟩ := HE0.out.callR hp; have t0 := ((Blk.new w1 (kcs s.next) 73).cell 0).trans (kcs_0 s.next); have t2 := ((Blk.new w1 (kcs s.next) 73).cell 2).trans (kcs_2 s.next); have t3 := ((Blk.new w1 (kcs s.next) 73).cell 3).trans (kcs_3 s.next); have st := run_stKg w1 w1.heap.size s.next zeroK rfl; have E2 := E1.alloc (.cells (kcs s.next) 73); have c3 := take_f E2.at_ HM0.out; have HE2 := Lib.hid E2; clear hp E1 E2) | (go_at_call 79; (with_reducible refine c3.mono ?_); intro e w3 hp; obtain ⟨rfl, E3⟩ := HE2.out.call hp; have c4 := take_f E3.at_ HM1.out; have HE3 := Lib.hid E3; clear hp E3) | (go_at_call 79; (with_reducible refine c4.mono ?_); intro e w4 hp; obtain ⟨rfl, E4⟩ := HE3.out.call hp; have c5 := take_f E4.at_ HM2.out; have HE4 := Lib.hid E4; clear hp E4) | (go_at_call 79; (with_reducible refine c5.mono ?_); intro e w5 hp; obtain ⟨rfl, E5⟩ := HE4.out.call hp; have c6 := take_f E5.at_ HM3.out; have HE5 := Lib.hid E5; clear hp E5) | (go_at_call 79; (with_reducible refine c6.mono ?_); intro e w6 hp; obtain ⟨rfl, E6⟩ := HE5.out.call hp; have c7 := take_f E6.at_ HM4.out; have HE6 := Lib.hid E6; clear hp E6) | (go_at_call 79; (with_reducible refine c7.mono ?_); intro e w7 hp; obtain ⟨rfl, E7⟩ := HE6.out.call hp; have c8 := is_any E7.at_ HF.out ⟨#[40]⟩; rw [HM5.out] at c8; have HE7 := Lib.hid E7; clear hp E7) | (go_at_call 37; (with_reducible refine c8.mono ?_); intro e w8 hp; obtain ⟨rfl, E8⟩ := HE7.out.callR hp; have c9 := take_f E8.at_ HM6.out; have HE8 := Lib.hid E8; clear hp E8) | (go_at_call 79; (with_reducible refine c9.mono ?_); intro e w9 hp; obtain ⟨rfl, E9⟩ := HE8.out.call hp; have c10 := take_f E9.at_ HM7.out; have HE9 := Lib.hid E9; clear hp E9) | (go_at_call 79; (with_reducible refine c10.mono ?_); intro e w10 hp; obtain ⟨rfl, E10⟩ := HE9.out.call hp; have c11 := take_t E10.at_ HM8.out; have HE10 := Lib.hid E10; clear hp E10) | (go_at_call 79; (with_reducible refine c11.mono ?_); intro e w11 hp; obtain ⟨rfl, E11⟩ := HE10.out.call hp; have c12 := now_any E11.at_ (show s.take.fault = 0 from HF.out); have HE11 := Lib.hid E11; clear hp E11) | (go_at_call 36; (with_reducible refine c12.mono ?_); intro e w12 hp; obtain ⟨rfl, E12⟩ := HE11.out.callR hp; have c13 := name_any E12.at_; rw [HN.out] at c13; have HE12 := Lib.hid E12; clear hp E12) | (go_at_call 80; (with_reducible refine c13.mono ?_); intro e w13 hp; obtain ⟨rfl, E13⟩ := HE12.out.call hp; have c14 := func_any hL E13.at_ s.take.next.text; have HE13 := Lib.hid E13; clear hp E13) | (go_at_call 84; (with_reducible refine c14.mono ?_); intro e w14 hp; obtain ⟨N14, rfl, E14⟩ := HE13.out.callN hp; have s14 := E14.sto 0 rfl; have HE14 := Lib.hid E14; clear hp E14))
  exact ((HE14.out.store 0 rfl _).fin List.mem_cons_self List.mem_cons_self rfl rfl)
set_option maxRecDepth 100000 in
set_option maxHeartbeats 4000000 in
theorem prim_fun_a {d : Nat} {L : Low} (hL : LowC d L) {g : Nat} {s : PS} {w : World} (h : At g d s w) (hf : s.fault = 0) (hk : seesF ⟨#[102, 117, 110, 99, 116, 105, 111, 110]⟩ s = true) (hn : s.take.next.kind ≠ 1) :
    Calls Tryz.prog 132 #[.pointer (some ⟨g, 0, none⟩)] w (PostN g d w (rfuncF L noS s.take)) := by
  have m0 := sees_one (y := ⟨#[116, 114, 117, 101]⟩) hk (by decide)
  have m1 := sees_one (y := ⟨#[102, 97, 108, 115, 101]⟩) hk (by decide)
  have m2 := sees_one (y := ⟨#[110, 117, 108, 108]⟩) hk (by decide)
  have m3 := sees_one (y := ⟨#[117, 110, 100, 101, 102, 105, 110, 101, 100]⟩) hk (by decide)
  have m4 := sees_one (y := ⟨#[116, 104, 105, 115]⟩) hk (by decide)
  have m5 := sees_one (y := ⟨#[40]⟩) hk (by decide)
  have m6 := sees_one (y := ⟨#[91]⟩) hk (by decide)
  have m7 := sees_one (y := ⟨#[123]⟩) hk (by decide)
  have m8 := hk
  obtain ⟨q3, q4, q1⟩ := sees_mark hk
  have e3 : (s.next.kind == 3) = false := by simpa using q3
  have e4 : (s.next.kind == 4) = false := by simpa using q4
  have e1 : (s.next.kind == 1) = false := by simpa using q1
  have E0 := (Env.start h).new zeroN
  have x3 := E0.e30 hf
  have cn := now_any E0.at_ hf
  have HE0 := Lib.hid E0
  have HF := Lib.hid hf
  have e5 : (s.take.next.kind == 1) = false := by simpa using hn
  clear hn
  have HM0 := Lib.hid m0
  have HM1 := Lib.hid m1
  have HM2 := Lib.hid m2
  have HM3 := Lib.hid m3
  have HM4 := Lib.hid m4
  have HM5 := Lib.hid m5
  have HM6 := Lib.hid m6
  have HM7 := Lib.hid m7
  have HM8 := Lib.hid m8
  clear E0 h hf q3 q4 q1 m0 m1 m2 m3 m4 m5 m6 m7 m8 hk
  go_enter Tryz.func132, Tryz.ntmps132
  go_wp2_with (first | (go_at_call 36; (with_reducible refine cn.mono ?_); intro e w1 hp; obtain ⟨rfl, E1⟩ := HE0.out.callR hp; have t0 := ((Blk.new w1 (kcs s.next) 73).cell 0).trans (kcs_0 s.next); have t2 := ((Blk.new w1 (kcs s.next) 73).cell 2).trans (kcs_2 s.next); have t3 := ((Blk.new w1 (kcs s.next) 73).cell 3).trans (kcs_3 s.next); have st := run_stKg w1 w1.heap.size s.next zeroK rfl; have E2 := E1.alloc (.cells (kcs s.next) 73); have c3 := take_f E2.at_ HM0.out; have HE2 := Lib.hid E2; clear hp E1 E2) | (go_at_call 79; (with_reducible refine c3.mono ?_); intro e w3 hp; obtain ⟨rfl, E3⟩ := HE2.out.call hp; have c4 := take_f E3.at_ HM1.out; have HE3 := Lib.hid E3; clear hp E3) | (go_at_call 79; (with_reducible refine c4.mono ?_); intro e w4 hp; obtain ⟨rfl, E4⟩ := HE3.out.call hp; have c5 := take_f E4.at_ HM2.out; have HE4 := Lib.hid E4; clear hp E4) | (go_at_call 79; (with_reducible refine c5.mono ?_); intro e w5 hp; obtain ⟨rfl, E5⟩ := HE4.out.call hp; have c6 := take_f E5.at_ HM3.out; have HE5 := Lib.hid E5; clear hp E5) | (go_at_call 79; (with_reducible refine c6.mono ?_); intro e w6 hp; obtain ⟨rfl, E6⟩ := HE5.out.call hp; have c7 := take_f E6.at_ HM4.out; have HE6 := Lib.hid E6; clear hp E6) | (go_at_call 79; (with_reducible refine c7.mono ?_); intro e w7 hp; obtain ⟨rfl, E7⟩ := HE6.out.call hp; have c8 := is_any E7.at_ HF.out ⟨#[40]⟩; rw [HM5.out] at c8; have HE7 := Lib.hid E7; clear hp E7) | (go_at_call 37; (with_reducible refine c8.mono ?_); intro e w8 hp; obtain ⟨rfl, E8⟩ := HE7.out.callR hp; have c9 := take_f E8.at_ HM6.out; have HE8 := Lib.hid E8; clear hp E8) | (go_at_call 79; (with_reducible refine c9.mono ?_); intro e w9 hp; obtain ⟨rfl, E9⟩ := HE8.out.call hp; have c10 := take_f E9.at_ HM7.out; have HE9 := Lib.hid E9; clear hp E9) | (go_at_call 79; (with_reducible refine c10.mono ?_); intro e w10 hp; obtain ⟨rfl, E10⟩ := HE9.out.call hp; have c11 := take_t E10.at_ HM8.out; have HE10 := Lib.hid E10; clear hp E10) | (go_at_call 79; (with_reducible refine c11.mono ?_); intro e w11 hp; obtain ⟨rfl, E11⟩ := HE10.out.call hp; have c12 := now_any E11.at_ (show s.take.fault = 0 from HF.out); have HE11 := Lib.hid E11; clear hp E11) | (go_at_call 36; (with_reducible refine c12.mono ?_); intro e w12 hp; obtain ⟨rfl, E12⟩ := HE11.out.callR hp; have c13 := func_any hL E12.at_ ⟨#[]⟩; have HE12 := Lib.hid E12; clear hp E12) | (go_at_call 84; (with_reducible refine c13.mono ?_); intro e w13 hp; obtain ⟨N13, rfl, E13⟩ := HE12.out.callN hp; have s13 := E13.sto 0 rfl; have HE13 := Lib.hid E13; clear hp E13))
  exact ((HE13.out.store 0 rfl _).fin List.mem_cons_self List.mem_cons_self rfl rfl)
end Go.Proofs.YtinoaajohkafmaaGreat.Rp

/-
  The reference's parser: a pair.
-/
namespace Go.Proofs.YtinoaajohkafmaaGreat.Rp
open Go Go.RowKit Go.Proofs.YtinoaajohkafmaaGreat.Uni Go.Proofs.YtinoaajohkafmaaGreat.Pa
open Go.Proofs.YtinoaajohkafmaaGreat.Lx
set_option linter.unusedVariables false
set_option linter.unusedSimpArgs false
attribute [local go_sem ↓] ldK stK alK bdK bsK ldN stN alN bdN bsN
attribute [local irreducible] kcs ncs ncells
attribute [local go_sem] run_alK run_bdK0 run_bdKs run_bdKn run_bdKe run_bsK run_fdK0 run_fdK1 run_fdK2 run_fdK3 run_fdN4 run_alN run_stNg run_ldNg run_bdN0 run_bdN04 run_bdN02 run_bdN01 run_bdN024 run_bdN03 run_bdN0234 run_bsN1 run_bsN2 run_bsN3
attribute [local go_sem] run_stKg run_bdNk
set_option maxRecDepth 100000 in
set_option maxHeartbeats 4000000 in
theorem pair_br {d : Nat} {L : Low} (hL : LowC d L) {g : Nat} {s : PS} {w : World} (h : At g d s w) (hk : seesF ⟨#[91]⟩ s = true) {X Y : Tree × PS} (hX : L.ex s.take = X) (hY : L.ex (needsF ⟨#[58]⟩ (needsF ⟨#[93]⟩ X.2)) = Y) :
    Calls Tryz.prog 138 #[.pointer (some ⟨g, 0, none⟩)] w (PostN g d w (node 11 [X.1, Y.1], Y.2)) := by
  have E0 := (Env.start h).new zeroN
  have c1 := take_t E0.at_ hk
  have HE0 := Lib.hid E0
  have HX := Lib.hid hX
  have HY := Lib.hid hY
  clear E0 h hk hX hY
  go_enter Tryz.func138, Tryz.ntmps138
  go_wp2_with (first | (go_at_call 79; (with_reducible refine c1.mono ?_); intro e w1 hp; obtain ⟨rfl, E1⟩ := HE0.out.call hp; have c2 := hL.ex E1.at_; rw [HX.out] at c2; have HE1 := Lib.hid E1; clear hp E1) | (go_at_call 81; (with_reducible refine c2.mono ?_); intro e w2 hp; obtain ⟨N2, rfl, E2⟩ := HE1.out.callN hp; have E2 := E2.new N2; have c3 := want_any E2.at_ ⟨#[93]⟩; have HE2 := Lib.hid E2; clear hp E2) | (go_at_call 82; (with_reducible refine c3.mono ?_); intro e w3 hp; obtain ⟨rfl, E3⟩ := HE2.out.call hp; have c4 := want_any E3.at_ ⟨#[58]⟩; have HE3 := Lib.hid E3; clear hp E3) | (go_at_call 82; (with_reducible refine c4.mono ?_); intro e w4 hp; obtain ⟨rfl, E4⟩ := HE3.out.call hp; have E4 := E4.drew1; have l4 := E4.ld 0 rfl; have c5 := hL.ex E4.at_; rw [HY.out] at c5; have HE4 := Lib.hid E4; clear hp E4))
  go_region_with (first | (go_at_call 81; (with_reducible refine c5.mono ?_); intro e w5 hp; obtain ⟨N5, rfl, E5⟩ := HE4.out.callN hp; have l5 := E5.ld 0 rfl; have c6 := two_any (E5.rp _ (List.mem_cons_of_mem _ List.mem_cons_self)) (E5.rp _ List.mem_cons_self) 11 ⟨#[]⟩; have HE5 := Lib.hid E5; clear hp E5) | (go_at_call 105; (with_reducible refine c6.mono ?_); intro e w6 hp; obtain ⟨N6, rfl, E6⟩ := HE5.out.callO hp (fun b h => h); have s6 := E6.sto 1 rfl; have HE6 := Lib.hid E6; clear hp E6))
  all_goals go_wp2
  all_goals exact ((HE6.out.store 1 rfl _).fin (List.mem_cons_of_mem _ List.mem_cons_self) List.mem_cons_self rfl rfl)
end Go.Proofs.YtinoaajohkafmaaGreat.Rp

/-
  The reference's parser: a pair by its key.
-/
namespace Go.Proofs.YtinoaajohkafmaaGreat.Rp
open Go Go.RowKit Go.Proofs.YtinoaajohkafmaaGreat.Uni Go.Proofs.YtinoaajohkafmaaGreat.Pa
open Go.Proofs.YtinoaajohkafmaaGreat.Lx
set_option linter.unusedVariables false
set_option linter.unusedSimpArgs false
attribute [local go_sem ↓] ldK stK alK bdK bsK ldN stN alN bdN bsN
attribute [local irreducible] kcs ncs ncells
attribute [local go_sem] run_alK run_bdK0 run_bdKs run_bdKn run_bdKe run_bsK run_fdK0 run_fdK1 run_fdK2 run_fdK3 run_fdN4 run_alN run_stNg run_ldNg run_bdN0 run_bdN04 run_bdN02 run_bdN01 run_bdN024 run_bdN03 run_bdN0234 run_bsN1 run_bsN2 run_bsN3
attribute [local go_sem] run_stKg run_bdNk
theorem rg0 {w : World} {b off : Nat} {T : Tok} (h : w.rangeAt b off (kcs T).toList) : w.cell? ⟨b, off, none⟩ = some (.int .i64 T.kind) := by
  have := h 0 (.int .i64 T.kind) (by rw [Array.getElem?_toList]; exact kcs_0 T)
  simpa using this
theorem rg3 {w : World} {b off : Nat} {T : Tok} (h : w.rangeAt b off (kcs T).toList) : w.cell? ⟨b, off + 3, none⟩ = some (.string T.text) := h 3 (.string T.text) (by rw [Array.getElem?_toList]; exact kcs_3 T)
def accQ (s : PS) : Prop := (s.next.kind == 1) = true ∧ ((s.next.text.toList == [103, 101, 116]) = true ∨ ((s.next.text.toList == [103, 101, 116]) = false ∧ (s.next.text.toList == [115, 101, 116]) = true))
def colQ (s : PS) : Prop := (s.take.next.kind == 5) = true ∧ (s.take.next.text.toList == [58]) = true
def colN (s : PS) : Prop := (s.take.next.kind == 5) = false ∨ ((s.take.next.kind == 5) = true ∧ (s.take.next.text.toList == [58]) = false)
set_option maxRecDepth 100000 in
set_option maxHeartbeats 4000000 in
theorem pair_k1 {d : Nat} {L : Low} (hL : LowC d L) {g : Nat} {s : PS} {w : World} (h : At g d s w) (hf : s.fault = 0) (hb : seesF ⟨#[91]⟩ s = false) (q1 : (s.next.kind == 1) = false) {X : ByteArray × PS} {Y : Tree × PS} (hX : keyF s = X) (hY : L.ex (needsF ⟨#[58]⟩ X.2) = Y) :
    Calls Tryz.prog 138 #[.pointer (some ⟨g, 0, none⟩)] w (PostN g d w (node 11 [.mk 2 0 X.1 [] [], Y.1], Y.2)) := by
  have E0 := (Env.start h).new zeroN
  have c1 := take_f E0.at_ hb
  have HE0 := Lib.hid E0
  have HF := Lib.hid hf
  have HX := Lib.hid hX
  have HY := Lib.hid hY
  clear E0 h hb hf hX hY
  · (
    go_enter Tryz.func138, Tryz.ntmps138
    go_wp2_with (first | (go_at_call 79; (with_reducible refine c1.mono ?_); intro e w1 hp; obtain ⟨rfl, E1⟩ := HE0.out.call hp; have cn := now_any E1.at_ HF.out; have HE1 := Lib.hid E1; clear hp E1) | (go_at_call 36; (with_reducible refine cn.mono ?_); intro e w2 hp; obtain ⟨rfl, E2⟩ := HE1.out.callR hp; have t0 := ((Blk.new w2 (kcs s.next) 73).cell 0).trans (kcs_0 s.next); have t3 := ((Blk.new w2 (kcs s.next) 73).cell 3).trans (kcs_3 s.next); have st := run_stKg w2 w2.heap.size s.next zeroK rfl; have E3 := E2.alloc (.cells (kcs s.next) 73); have HE3 := Lib.hid E3; clear hp E2 E3))
    go_quiet (fail)
    have E4 := HE3.out.drew nq
    have c4 := key_any E4.at_
    rw [HX.out] at c4
    have HE4 := Lib.hid E4
    clear E4
    go_wp2_with (first | (go_at_call 139; (with_reducible refine c4.mono ?_); intro e w5 hp; obtain ⟨rfl, E5⟩ := HE4.out.call hp; have c5 := want_any E5.at_ ⟨#[58]⟩; have HE5 := Lib.hid E5; clear hp E5) | (go_at_call 82; (with_reducible refine c5.mono ?_); intro e w6 hp; obtain ⟨rfl, E6⟩ := HE5.out.call hp; have E6 := E6.leaf 2 0 X.1; have c6 := hL.ex E6.at_; rw [HY.out] at c6; have HE6 := Lib.hid E6; clear hp E6) | (go_at_call 81; (with_reducible refine c6.mono ?_); intro e w7 hp; obtain ⟨N7, rfl, E7⟩ := HE6.out.callN hp; have c7 := two_any (E7.rp _ (List.mem_cons_of_mem _ List.mem_cons_self)) (E7.rp _ List.mem_cons_self) 11 ⟨#[]⟩; have HE7 := Lib.hid E7; clear hp E7) | (go_at_call 105; (with_reducible refine c7.mono ?_); intro e w8 hp; obtain ⟨N8, rfl, E8⟩ := HE7.out.callO hp (fun b h => h); have s8 := E8.sto 0 rfl; have HE8 := Lib.hid E8; clear hp E8))
    exact ((HE8.out.store 0 rfl _).fin List.mem_cons_self List.mem_cons_self rfl rfl))
set_option maxRecDepth 100000 in
set_option maxHeartbeats 4000000 in
theorem pair_k2 {d : Nat} {L : Low} (hL : LowC d L) {g : Nat} {s : PS} {w : World} (h : At g d s w) (hf : s.fault = 0) (hb : seesF ⟨#[91]⟩ s = false) (q1 : (s.next.kind == 1) = true) (q2 : (s.next.text.toList == [103, 101, 116]) = false) (q3 : (s.next.text.toList == [115, 101, 116]) = false) {X : ByteArray × PS} {Y : Tree × PS} (hX : keyF s = X) (hY : L.ex (needsF ⟨#[58]⟩ X.2) = Y) :
    Calls Tryz.prog 138 #[.pointer (some ⟨g, 0, none⟩)] w (PostN g d w (node 11 [.mk 2 0 X.1 [] [], Y.1], Y.2)) := by
  have E0 := (Env.start h).new zeroN
  have c1 := take_f E0.at_ hb
  have HE0 := Lib.hid E0
  have HF := Lib.hid hf
  have HX := Lib.hid hX
  have HY := Lib.hid hY
  clear E0 h hb hf hX hY
  · (
    go_enter Tryz.func138, Tryz.ntmps138
    go_wp2_with (first | (go_at_call 79; (with_reducible refine c1.mono ?_); intro e w1 hp; obtain ⟨rfl, E1⟩ := HE0.out.call hp; have cn := now_any E1.at_ HF.out; have HE1 := Lib.hid E1; clear hp E1) | (go_at_call 36; (with_reducible refine cn.mono ?_); intro e w2 hp; obtain ⟨rfl, E2⟩ := HE1.out.callR hp; have t0 := ((Blk.new w2 (kcs s.next) 73).cell 0).trans (kcs_0 s.next); have t3 := ((Blk.new w2 (kcs s.next) 73).cell 3).trans (kcs_3 s.next); have st := run_stKg w2 w2.heap.size s.next zeroK rfl; have E3 := E2.alloc (.cells (kcs s.next) 73); have HE3 := Lib.hid E3; clear hp E2 E3))
    go_quiet (fail)
    have E4 := HE3.out.drew nq
    have c4 := key_any E4.at_
    rw [HX.out] at c4
    have HE4 := Lib.hid E4
    clear E4
    go_wp2_with (first | (go_at_call 139; (with_reducible refine c4.mono ?_); intro e w5 hp; obtain ⟨rfl, E5⟩ := HE4.out.call hp; have c5 := want_any E5.at_ ⟨#[58]⟩; have HE5 := Lib.hid E5; clear hp E5) | (go_at_call 82; (with_reducible refine c5.mono ?_); intro e w6 hp; obtain ⟨rfl, E6⟩ := HE5.out.call hp; have E6 := E6.leaf 2 0 X.1; have c6 := hL.ex E6.at_; rw [HY.out] at c6; have HE6 := Lib.hid E6; clear hp E6) | (go_at_call 81; (with_reducible refine c6.mono ?_); intro e w7 hp; obtain ⟨N7, rfl, E7⟩ := HE6.out.callN hp; have c7 := two_any (E7.rp _ (List.mem_cons_of_mem _ List.mem_cons_self)) (E7.rp _ List.mem_cons_self) 11 ⟨#[]⟩; have HE7 := Lib.hid E7; clear hp E7) | (go_at_call 105; (with_reducible refine c7.mono ?_); intro e w8 hp; obtain ⟨N8, rfl, E8⟩ := HE7.out.callO hp (fun b h => h); have s8 := E8.sto 0 rfl; have HE8 := Lib.hid E8; clear hp E8))
    exact ((HE8.out.store 0 rfl _).fin List.mem_cons_self List.mem_cons_self rfl rfl))
set_option maxRecDepth 100000 in
set_option maxHeartbeats 4000000 in
theorem pair_k3 {d : Nat} {L : Low} (hL : LowC d L) {g : Nat} {s : PS} {w : World} (h : At g d s w) (hf : s.fault = 0) (hb : seesF ⟨#[91]⟩ s = false) (qa : accQ s) (qc : colQ s) {X : ByteArray × PS} {Y : Tree × PS} (hX : keyF s = X) (hY : L.ex (needsF ⟨#[58]⟩ X.2) = Y) :
    Calls Tryz.prog 138 #[.pointer (some ⟨g, 0, none⟩)] w (PostN g d w (node 11 [.mk 2 0 X.1 [] [], Y.1], Y.2)) := by
  obtain ⟨q1, qg⟩ := qa
  obtain ⟨q5, q6⟩ := qc
  have hk2 : ¬ (s.next.kind = 0 ∨ s.next.kind = -1) := by
    have : s.next.kind = 1 := by simpa using q1
    omega
  have HK2 := Lib.hid hk2
  have E0 := (Env.start h).new zeroN
  have c1 := take_f E0.at_ hb
  have HE0 := Lib.hid E0
  have HF := Lib.hid hf
  have HX := Lib.hid hX
  have HY := Lib.hid hY
  clear E0 h hb hf hX hY hk2
  rcases qg with qg | ⟨qg, qs⟩
  all_goals (
    go_enter Tryz.func138, Tryz.ntmps138
    go_wp2_with (first | (go_at_call 79; (with_reducible refine c1.mono ?_); intro e w1 hp; obtain ⟨rfl, E1⟩ := HE0.out.call hp; have cn := now_any E1.at_ HF.out; have HE1 := Lib.hid E1; clear hp E1) | (go_at_call 36; (with_reducible refine cn.mono ?_); intro e w2 hp; obtain ⟨rfl, E2⟩ := HE1.out.callR hp; have t0 := ((Blk.new w2 (kcs s.next) 73).cell 0).trans (kcs_0 s.next); have t3 := ((Blk.new w2 (kcs s.next) 73).cell 3).trans (kcs_3 s.next); have st := run_stKg w2 w2.heap.size s.next zeroK rfl; have E3 := E2.alloc (.cells (kcs s.next) 73); obtain ⟨b, o, c, n, k, D, T, ho, hk1, hr, hw⟩ := E3.at_.opn2 HF.out HK2.out; have g0 := ho.c0; have g1 := ho.c1; have kn := ho.kn; have k5 := ho.n5; have n0 := rg0 hr; have n3 := rg3 hr; have hk1i : (k : Int) + 1 < (n : Int) := (by omega); clear ho hr hw; have HE3 := Lib.hid E3; clear hp E2 E3))
    go_quiet (fail)
    have E4 := HE3.out.drew nq
    have c4 := key_any E4.at_
    rw [HX.out] at c4
    have HE4 := Lib.hid E4
    clear E4
    go_wp2_with (first | (go_at_call 139; (with_reducible refine c4.mono ?_); intro e w5 hp; obtain ⟨rfl, E5⟩ := HE4.out.call hp; have c5 := want_any E5.at_ ⟨#[58]⟩; have HE5 := Lib.hid E5; clear hp E5) | (go_at_call 82; (with_reducible refine c5.mono ?_); intro e w6 hp; obtain ⟨rfl, E6⟩ := HE5.out.call hp; have E6 := E6.leaf 2 0 X.1; have c6 := hL.ex E6.at_; rw [HY.out] at c6; have HE6 := Lib.hid E6; clear hp E6) | (go_at_call 81; (with_reducible refine c6.mono ?_); intro e w7 hp; obtain ⟨N7, rfl, E7⟩ := HE6.out.callN hp; have c7 := two_any (E7.rp _ (List.mem_cons_of_mem _ List.mem_cons_self)) (E7.rp _ List.mem_cons_self) 11 ⟨#[]⟩; have HE7 := Lib.hid E7; clear hp E7) | (go_at_call 105; (with_reducible refine c7.mono ?_); intro e w8 hp; obtain ⟨N8, rfl, E8⟩ := HE7.out.callO hp (fun b h => h); have s8 := E8.sto 0 rfl; have HE8 := Lib.hid E8; clear hp E8))
    exact ((HE8.out.store 0 rfl _).fin List.mem_cons_self List.mem_cons_self rfl rfl))
end Go.Proofs.YtinoaajohkafmaaGreat.Rp
