/-
  The reference's parser: the inside of a statement.
-/
import Derived.Test.YtinoaajohkafmaaGreatMw21
namespace Go.Proofs.YtinoaajohkafmaaGreat.Rp
open Go Go.RowKit Go.Proofs.YtinoaajohkafmaaGreat.Uni Go.Proofs.YtinoaajohkafmaaGreat.Pa
open Go.Proofs.YtinoaajohkafmaaGreat.Lx
set_option linter.unusedVariables false
set_option linter.unusedSimpArgs false
attribute [local go_sem ↓] ldK stK alK bdK bsK ldN stN alN bdN bsN
attribute [local irreducible] kcs ncs ncells
attribute [local go_sem] run_alK run_bdK0 run_bdKs run_bdKn run_bdKe run_bsK run_fdK0 run_fdK1 run_fdK2 run_fdK3 run_fdN4 run_alN run_stNg run_ldNg run_bdN0 run_bdN04 run_bdN02 run_bdN01 run_bdN024 run_bdN03 run_bdN0234 run_bsN1 run_bsN2 run_bsN3
theorem sees_one {x y : ByteArray} {s : PS} (h : seesF x s = true) (hxy : eqT x y = false) : seesF y s = false := by
  unfold seesF at h ⊢
  rw [Bool.and_eq_true] at h
  cases hm : eqT s.next.text y with
  | false => rw [Bool.and_false]
  | true =>
    have h2 := h.2
    unfold eqT at hm h2 hxy
    rw [beq_iff_eq] at hm h2
    rw [← h2, hm] at hxy
    simp at hxy
theorem run_bdNk (w : World) (k : Int) : (Bd 25 #[(0, .int .i64 k)]).run Tryz.prog w = .ok (.agg (ncs ⟨k, 0, noS, nilSl, nilSl⟩)) w := run_build w _ _ _ (by kernel_rfl)
attribute [local go_sem] run_bdNk
def TryC (d : Nat) (L : Low) : Prop := ∀ {g : Nat} {s : PS} {w : World}, At g d s w → Calls Tryz.prog 86 #[.pointer (some ⟨g, 0, none⟩)] w (PostN g d w (tryF L s))
set_option maxRecDepth 100000 in
set_option maxHeartbeats 4000000 in
theorem in_let_t {d : Nat} {L : Low} (hL : LowC d L) {g : Nat} {s : PS} {w : World} (h : At g d s w) (hf : s.fault = 0) (hk : seesF ⟨#[108, 101, 116]⟩ s = true) {X : ByteArray × PS} (hX : nameF s.take = X) (hq : seesF ⟨#[61]⟩ X.2 = true) {Y : Tree × PS} (hY : L.ex X.2.take = Y) :
    Calls Tryz.prog 62 #[.pointer (some ⟨g, 0, none⟩)] w (PostN g d w (.mk 30 0 X.1 [] [Y.1], needsF ⟨#[59]⟩ Y.2)) := by
  have m0 := hk
  have E0 := (Env.start h).new zeroN
  have HX := Lib.hid hX
  have HQ := Lib.hid hq
  have HY := Lib.hid hY
  clear hX hq hY
  have HM0 := Lib.hid m0
  have HF := Lib.hid hf
  have c1 := take_t E0.at_ HM0.out
  have HE0 := Lib.hid E0
  clear E0 h hf m0 hk
  go_enter Tryz.func62, Tryz.ntmps62
  go_wp2_with (first | (go_at_call 79; (with_reducible refine c1.mono ?_); intro e w1 hp; obtain ⟨rfl, E1⟩ := HE0.out.call hp; have c2 := name_any E1.at_; rw [HX.out] at c2; have HE1 := Lib.hid E1; clear hp E1) | (go_at_call 80; (with_reducible refine c2.mono ?_); intro e w2 hp; obtain ⟨rfl, E2⟩ := HE1.out.call hp; have E2 := E2.new ⟨30, 0, X.1, nilSl, nilSl⟩; have c3 := take_t E2.at_ HQ.out; have HE2 := Lib.hid E2; clear hp E2) | (go_at_call 79; (with_reducible refine c3.mono ?_); intro e w3 hp; obtain ⟨rfl, E3⟩ := HE2.out.call hp; have c4 := hL.ex E3.at_; rw [HY.out] at c4; have HE3 := Lib.hid E3; clear hp E3) | (go_at_call 81; (with_reducible refine c4.mono ?_); intro e w4 hp; obtain ⟨N4, rfl, E4⟩ := HE3.out.callN hp; have E4 := E4.kids1 List.mem_cons_self 30 0 X.1; have fa := E4.fz 0 rfl 4; have da := E4.c4 0 rfl; have E4 := E4.set4 0 rfl (some ⟨w4.heap.size, 0, none⟩) 1 1; have c5 := want_any E4.at_ ⟨#[59]⟩; have HE4 := Lib.hid E4; clear hp E4) | (go_at_call 82; (with_reducible refine c5.mono ?_); intro e w5 hp; obtain ⟨rfl, E5⟩ := HE4.out.call hp; have l5 := E5.ld 0 rfl; have s5 := E5.sto 1 rfl; have HE5 := Lib.hid E5; clear hp E5))
  exact ((HE5.out.store 1 rfl _).fin (List.mem_cons_of_mem _ List.mem_cons_self) List.mem_cons_self rfl rfl)
set_option maxRecDepth 100000 in
set_option maxHeartbeats 4000000 in
theorem in_let_f {d : Nat} {L : Low} (hL : LowC d L) {g : Nat} {s : PS} {w : World} (h : At g d s w) (hf : s.fault = 0) (hk : seesF ⟨#[108, 101, 116]⟩ s = true) {X : ByteArray × PS} (hX : nameF s.take = X) (hq : seesF ⟨#[61]⟩ X.2 = false) :
    Calls Tryz.prog 62 #[.pointer (some ⟨g, 0, none⟩)] w (PostN g d w (.mk 30 0 X.1 [] [], needsF ⟨#[59]⟩ X.2)) := by
  have m0 := hk
  have E0 := (Env.start h).new zeroN
  have HX := Lib.hid hX
  have HQ := Lib.hid hq
  clear hX hq
  have HM0 := Lib.hid m0
  have HF := Lib.hid hf
  have c1 := take_t E0.at_ HM0.out
  have HE0 := Lib.hid E0
  clear E0 h hf m0 hk
  go_enter Tryz.func62, Tryz.ntmps62
  go_wp2_with (first | (go_at_call 79; (with_reducible refine c1.mono ?_); intro e w1 hp; obtain ⟨rfl, E1⟩ := HE0.out.call hp; have c2 := name_any E1.at_; rw [HX.out] at c2; have HE1 := Lib.hid E1; clear hp E1) | (go_at_call 80; (with_reducible refine c2.mono ?_); intro e w2 hp; obtain ⟨rfl, E2⟩ := HE1.out.call hp; have E2 := (E2.leaf 30 0 X.1).new ⟨30, 0, X.1, nilSl, nilSl⟩; have c3 := take_f E2.at_ HQ.out; have HE2 := Lib.hid E2; clear hp E2) | (go_at_call 79; (with_reducible refine c3.mono ?_); intro e w3 hp; obtain ⟨rfl, E3⟩ := HE2.out.call hp; have c4 := want_any E3.at_ ⟨#[59]⟩; have HE3 := Lib.hid E3; clear hp E3) | (go_at_call 82; (with_reducible refine c4.mono ?_); intro e w4 hp; obtain ⟨rfl, E4⟩ := HE3.out.call hp; have l4 := E4.ld 0 rfl; have s4 := E4.sto 1 rfl; have HE4 := Lib.hid E4; clear hp E4))
  exact ((HE4.out.store 1 rfl _).fin (List.mem_cons_of_mem _ List.mem_cons_self) List.mem_cons_self rfl rfl)
set_option maxRecDepth 100000 in
set_option maxHeartbeats 4000000 in
theorem in_const {d : Nat} {L : Low} (hL : LowC d L) {g : Nat} {s : PS} {w : World} (h : At g d s w) (hf : s.fault = 0) (hk : seesF ⟨#[99, 111, 110, 115, 116]⟩ s = true) {X : ByteArray × PS} (hX : nameF s.take = X) {Y : Tree × PS} (hY : L.ex (needsF ⟨#[61]⟩ X.2) = Y) :
    Calls Tryz.prog 62 #[.pointer (some ⟨g, 0, none⟩)] w (PostN g d w (.mk 31 0 X.1 [] [Y.1], needsF ⟨#[59]⟩ Y.2)) := by
  have m0 := sees_one (y := ⟨#[108, 101, 116]⟩) hk (by decide)
  have m1 := hk
  have E0 := (Env.start h).new zeroN
  have HX := Lib.hid hX
  have HY := Lib.hid hY
  clear hX hY
  have HM0 := Lib.hid m0
  have HM1 := Lib.hid m1
  have HF := Lib.hid hf
  have c1 := take_f E0.at_ HM0.out
  have HE0 := Lib.hid E0
  clear E0 h hf m0 m1 hk
  go_enter Tryz.func62, Tryz.ntmps62
  go_wp2_with (first | (go_at_call 79; (with_reducible refine c1.mono ?_); intro e w1 hp; obtain ⟨rfl, E1⟩ := HE0.out.call hp; have c2 := take_t E1.at_ HM1.out; have HE1 := Lib.hid E1; clear hp E1) | (go_at_call 79; (with_reducible refine c2.mono ?_); intro e w2 hp; obtain ⟨rfl, E2⟩ := HE1.out.call hp; have c3 := name_any E2.at_; rw [HX.out] at c3; have HE2 := Lib.hid E2; clear hp E2) | (go_at_call 80; (with_reducible refine c3.mono ?_); intro e w3 hp; obtain ⟨rfl, E3⟩ := HE2.out.call hp; have E3 := E3.new ⟨31, 0, X.1, nilSl, nilSl⟩; have c4 := want_any E3.at_ ⟨#[61]⟩; have HE3 := Lib.hid E3; clear hp E3) | (go_at_call 82; (with_reducible refine c4.mono ?_); intro e w4 hp; obtain ⟨rfl, E4⟩ := HE3.out.call hp; have c5 := hL.ex E4.at_; rw [HY.out] at c5; have HE4 := Lib.hid E4; clear hp E4) | (go_at_call 81; (with_reducible refine c5.mono ?_); intro e w5 hp; obtain ⟨N5, rfl, E5⟩ := HE4.out.callN hp; have E5 := E5.kids1 List.mem_cons_self 31 0 X.1; have fa := E5.fz 0 rfl 4; have da := E5.c4 0 rfl; have E5 := E5.set4 0 rfl (some ⟨w5.heap.size, 0, none⟩) 1 1; have c6 := want_any E5.at_ ⟨#[59]⟩; have HE5 := Lib.hid E5; clear hp E5) | (go_at_call 82; (with_reducible refine c6.mono ?_); intro e w6 hp; obtain ⟨rfl, E6⟩ := HE5.out.call hp; have l6 := E6.ld 0 rfl; have s6 := E6.sto 1 rfl; have HE6 := Lib.hid E6; clear hp E6))
  exact ((HE6.out.store 1 rfl _).fin (List.mem_cons_of_mem _ List.mem_cons_self) List.mem_cons_self rfl rfl)
set_option maxRecDepth 100000 in
set_option maxHeartbeats 4000000 in
theorem in_func {d : Nat} {L : Low} (hL : LowC d L) {g : Nat} {s : PS} {w : World} (h : At g d s w) (hf : s.fault = 0) (hk : seesF ⟨#[102, 117, 110, 99, 116, 105, 111, 110]⟩ s = true) {X : ByteArray × PS} (hX : nameF s.take = X) {Y : Tree × PS} (hY : rfuncF L X.1 X.2 = Y) :
    Calls Tryz.prog 62 #[.pointer (some ⟨g, 0, none⟩)] w (PostN g d w (node 32 [Y.1], Y.2)) := by
  have m0 := sees_one (y := ⟨#[108, 101, 116]⟩) hk (by decide)
  have m1 := sees_one (y := ⟨#[99, 111, 110, 115, 116]⟩) hk (by decide)
  have m2 := hk
  have E0 := (Env.start h).new zeroN
  have HX := Lib.hid hX
  have HY := Lib.hid hY
  clear hX hY
  have HM0 := Lib.hid m0
  have HM1 := Lib.hid m1
  have HM2 := Lib.hid m2
  have HF := Lib.hid hf
  have c1 := take_f E0.at_ HM0.out
  have HE0 := Lib.hid E0
  clear E0 h hf m0 m1 m2 hk
  go_enter Tryz.func62, Tryz.ntmps62
  go_wp2_with (first | (go_at_call 79; (with_reducible refine c1.mono ?_); intro e w1 hp; obtain ⟨rfl, E1⟩ := HE0.out.call hp; have c2 := take_f E1.at_ HM1.out; have HE1 := Lib.hid E1; clear hp E1) | (go_at_call 79; (with_reducible refine c2.mono ?_); intro e w2 hp; obtain ⟨rfl, E2⟩ := HE1.out.call hp; have c3 := take_t E2.at_ HM2.out; have HE2 := Lib.hid E2; clear hp E2) | (go_at_call 79; (with_reducible refine c3.mono ?_); intro e w3 hp; obtain ⟨rfl, E3⟩ := HE2.out.call hp; have c4 := name_any E3.at_; rw [HX.out] at c4; have HE3 := Lib.hid E3; clear hp E3) | (go_at_call 80; (with_reducible refine c4.mono ?_); intro e w4 hp; obtain ⟨rfl, E4⟩ := HE3.out.call hp; have c5 := func_any hL E4.at_ X.1; rw [HY.out] at c5; have HE4 := Lib.hid E4; clear hp E4) | (go_at_call 84; (with_reducible refine c5.mono ?_); intro e w5 hp; obtain ⟨N5, rfl, E5⟩ := HE4.out.callN hp; have c6 := one_any (N := N5) (E5.rp _ List.mem_cons_self) 32; have HE5 := Lib.hid E5; clear hp E5) | (go_at_call 83; (with_reducible refine c6.mono ?_); intro e w6 hp; obtain ⟨N6, rfl, E6⟩ := HE5.out.callO hp (fun b h => h); have s6 := E6.sto 0 rfl; have HE6 := Lib.hid E6; clear hp E6))
  exact ((HE6.out.store 0 rfl _).fin List.mem_cons_self List.mem_cons_self rfl rfl)
set_option maxRecDepth 100000 in
set_option maxHeartbeats 4000000 in
theorem in_ret_f {d : Nat} {L : Low} (hL : LowC d L) {g : Nat} {s : PS} {w : World} (h : At g d s w) (hf : s.fault = 0) (hk : seesF ⟨#[114, 101, 116, 117, 114, 110]⟩ s = true) (hq : seesF ⟨#[59]⟩ s.take = false) {Y : Tree × PS} (hY : L.ex s.take = Y) :
    Calls Tryz.prog 62 #[.pointer (some ⟨g, 0, none⟩)] w (PostN g d w (node 36 [Y.1], needsF ⟨#[59]⟩ Y.2)) := by
  have m0 := sees_one (y := ⟨#[108, 101, 116]⟩) hk (by decide)
  have m1 := sees_one (y := ⟨#[99, 111, 110, 115, 116]⟩) hk (by decide)
  have m2 := sees_one (y := ⟨#[102, 117, 110, 99, 116, 105, 111, 110]⟩) hk (by decide)
  have m3 := sees_one (y := ⟨#[105, 102]⟩) hk (by decide)
  have m4 := sees_one (y := ⟨#[119, 104, 105, 108, 101]⟩) hk (by decide)
  have m5 := hk
  have E0 := (Env.start h).new zeroN
  have HQ := Lib.hid hq
  have HY := Lib.hid hY
  clear hq hY
  have HM0 := Lib.hid m0
  have HM1 := Lib.hid m1
  have HM2 := Lib.hid m2
  have HM3 := Lib.hid m3
  have HM4 := Lib.hid m4
  have HM5 := Lib.hid m5
  have HF := Lib.hid hf
  have c1 := take_f E0.at_ HM0.out
  have HE0 := Lib.hid E0
  clear E0 h hf m0 m1 m2 m3 m4 m5 hk
  go_enter Tryz.func62, Tryz.ntmps62
  go_wp2_with (first | (go_at_call 79; (with_reducible refine c1.mono ?_); intro e w1 hp; obtain ⟨rfl, E1⟩ := HE0.out.call hp; have c2 := take_f E1.at_ HM1.out; have HE1 := Lib.hid E1; clear hp E1) | (go_at_call 79; (with_reducible refine c2.mono ?_); intro e w2 hp; obtain ⟨rfl, E2⟩ := HE1.out.call hp; have c3 := take_f E2.at_ HM2.out; have HE2 := Lib.hid E2; clear hp E2) | (go_at_call 79; (with_reducible refine c3.mono ?_); intro e w3 hp; obtain ⟨rfl, E3⟩ := HE2.out.call hp; have c4 := take_f E3.at_ HM3.out; have HE3 := Lib.hid E3; clear hp E3) | (go_at_call 79; (with_reducible refine c4.mono ?_); intro e w4 hp; obtain ⟨rfl, E4⟩ := HE3.out.call hp; have c5 := take_f E4.at_ HM4.out; have HE4 := Lib.hid E4; clear hp E4) | (go_at_call 79; (with_reducible refine c5.mono ?_); intro e w5 hp; obtain ⟨rfl, E5⟩ := HE4.out.call hp; have c6 := take_t E5.at_ HM5.out; have HE5 := Lib.hid E5; clear hp E5) | (go_at_call 79; (with_reducible refine c6.mono ?_); intro e w6 hp; obtain ⟨rfl, E6⟩ := HE5.out.call hp; have E6 := E6.new ⟨36, 0, noS, nilSl, nilSl⟩; have x3 := E6.e30 (show s.take.fault = 0 from HF.out); have c7 := is_any E6.at_ (show s.take.fault = 0 from HF.out) ⟨#[59]⟩; rw [HQ.out] at c7; have HE6 := Lib.hid E6; clear hp E6) | (go_at_call 37; (with_reducible refine c7.mono ?_); intro e w7 hp; obtain ⟨rfl, E7⟩ := HE6.out.callR hp; have c8 := hL.ex E7.at_; rw [HY.out] at c8; have HE7 := Lib.hid E7; clear hp E7) | (go_at_call 81; (with_reducible refine c8.mono ?_); intro e w8 hp; obtain ⟨N8, rfl, E8⟩ := HE7.out.callN hp; have E8 := E8.kids1 List.mem_cons_self 36 0 noS; have fa := E8.fz 0 rfl 4; have da := E8.c4 0 rfl; have E8 := E8.set4 0 rfl (some ⟨w8.heap.size, 0, none⟩) 1 1; have c9 := want_any E8.at_ ⟨#[59]⟩; have HE8 := Lib.hid E8; clear hp E8) | (go_at_call 82; (with_reducible refine c9.mono ?_); intro e w9 hp; obtain ⟨rfl, E9⟩ := HE8.out.call hp; have l9 := E9.ld 0 rfl; have s9 := E9.sto 1 rfl; have HE9 := Lib.hid E9; clear hp E9))
  exact ((HE9.out.store 1 rfl _).fin (List.mem_cons_of_mem _ List.mem_cons_self) List.mem_cons_self rfl rfl)
set_option maxRecDepth 100000 in
set_option maxHeartbeats 4000000 in
theorem in_ret_t {d : Nat} {L : Low} (hL : LowC d L) {g : Nat} {s : PS} {w : World} (h : At g d s w) (hf : s.fault = 0) (hk : seesF ⟨#[114, 101, 116, 117, 114, 110]⟩ s = true) (hq : seesF ⟨#[59]⟩ s.take = true) :
    Calls Tryz.prog 62 #[.pointer (some ⟨g, 0, none⟩)] w (PostN g d w (node 36 [], needsF ⟨#[59]⟩ s.take)) := by
  have m0 := sees_one (y := ⟨#[108, 101, 116]⟩) hk (by decide)
  have m1 := sees_one (y := ⟨#[99, 111, 110, 115, 116]⟩) hk (by decide)
  have m2 := sees_one (y := ⟨#[102, 117, 110, 99, 116, 105, 111, 110]⟩) hk (by decide)
  have m3 := sees_one (y := ⟨#[105, 102]⟩) hk (by decide)
  have m4 := sees_one (y := ⟨#[119, 104, 105, 108, 101]⟩) hk (by decide)
  have m5 := hk
  have E0 := (Env.start h).new zeroN
  have HQ := Lib.hid hq
  clear hq
  have HM0 := Lib.hid m0
  have HM1 := Lib.hid m1
  have HM2 := Lib.hid m2
  have HM3 := Lib.hid m3
  have HM4 := Lib.hid m4
  have HM5 := Lib.hid m5
  have HF := Lib.hid hf
  have c1 := take_f E0.at_ HM0.out
  have HE0 := Lib.hid E0
  clear E0 h hf m0 m1 m2 m3 m4 m5 hk
  go_enter Tryz.func62, Tryz.ntmps62
  go_wp2_with (first | (go_at_call 79; (with_reducible refine c1.mono ?_); intro e w1 hp; obtain ⟨rfl, E1⟩ := HE0.out.call hp; have c2 := take_f E1.at_ HM1.out; have HE1 := Lib.hid E1; clear hp E1) | (go_at_call 79; (with_reducible refine c2.mono ?_); intro e w2 hp; obtain ⟨rfl, E2⟩ := HE1.out.call hp; have c3 := take_f E2.at_ HM2.out; have HE2 := Lib.hid E2; clear hp E2) | (go_at_call 79; (with_reducible refine c3.mono ?_); intro e w3 hp; obtain ⟨rfl, E3⟩ := HE2.out.call hp; have c4 := take_f E3.at_ HM3.out; have HE3 := Lib.hid E3; clear hp E3) | (go_at_call 79; (with_reducible refine c4.mono ?_); intro e w4 hp; obtain ⟨rfl, E4⟩ := HE3.out.call hp; have c5 := take_f E4.at_ HM4.out; have HE4 := Lib.hid E4; clear hp E4) | (go_at_call 79; (with_reducible refine c5.mono ?_); intro e w5 hp; obtain ⟨rfl, E5⟩ := HE4.out.call hp; have c6 := take_t E5.at_ HM5.out; have HE5 := Lib.hid E5; clear hp E5) | (go_at_call 79; (with_reducible refine c6.mono ?_); intro e w6 hp; obtain ⟨rfl, E6⟩ := HE5.out.call hp; have E6 := (E6.leaf 36 0 noS).new ⟨36, 0, noS, nilSl, nilSl⟩; have x3 := E6.e30 (show s.take.fault = 0 from HF.out); have c7 := is_any E6.at_ (show s.take.fault = 0 from HF.out) ⟨#[59]⟩; rw [HQ.out] at c7; have HE6 := Lib.hid E6; clear hp E6) | (go_at_call 37; (with_reducible refine c7.mono ?_); intro e w7 hp; obtain ⟨rfl, E7⟩ := HE6.out.callR hp; have c8 := want_any E7.at_ ⟨#[59]⟩; have HE7 := Lib.hid E7; clear hp E7) | (go_at_call 82; (with_reducible refine c8.mono ?_); intro e w8 hp; obtain ⟨rfl, E8⟩ := HE7.out.call hp; have l8 := E8.ld 0 rfl; have s8 := E8.sto 1 rfl; have HE8 := Lib.hid E8; clear hp E8))
  exact ((HE8.out.store 1 rfl _).fin (List.mem_cons_of_mem _ List.mem_cons_self) List.mem_cons_self rfl rfl)
set_option maxRecDepth 100000 in
set_option maxHeartbeats 4000000 in
theorem in_throw {d : Nat} {L : Low} (hL : LowC d L) {g : Nat} {s : PS} {w : World} (h : At g d s w) (hf : s.fault = 0) (hk : seesF ⟨#[116, 104, 114, 111, 119]⟩ s = true) {Y : Tree × PS} (hY : L.ex s.take = Y) :
    Calls Tryz.prog 62 #[.pointer (some ⟨g, 0, none⟩)] w (PostN g d w (node 37 [Y.1], needsF ⟨#[59]⟩ Y.2)) := by
  have m0 := sees_one (y := ⟨#[108, 101, 116]⟩) hk (by decide)
  have m1 := sees_one (y := ⟨#[99, 111, 110, 115, 116]⟩) hk (by decide)
  have m2 := sees_one (y := ⟨#[102, 117, 110, 99, 116, 105, 111, 110]⟩) hk (by decide)
  have m3 := sees_one (y := ⟨#[105, 102]⟩) hk (by decide)
  have m4 := sees_one (y := ⟨#[119, 104, 105, 108, 101]⟩) hk (by decide)
  have m5 := sees_one (y := ⟨#[114, 101, 116, 117, 114, 110]⟩) hk (by decide)
  have m6 := hk
  have E0 := (Env.start h).new zeroN
  have HY := Lib.hid hY
  clear hY
  have HM0 := Lib.hid m0
  have HM1 := Lib.hid m1
  have HM2 := Lib.hid m2
  have HM3 := Lib.hid m3
  have HM4 := Lib.hid m4
  have HM5 := Lib.hid m5
  have HM6 := Lib.hid m6
  have HF := Lib.hid hf
  have c1 := take_f E0.at_ HM0.out
  have HE0 := Lib.hid E0
  clear E0 h hf m0 m1 m2 m3 m4 m5 m6 hk
  go_enter Tryz.func62, Tryz.ntmps62
  go_wp2_with (first | (go_at_call 79; (with_reducible refine c1.mono ?_); intro e w1 hp; obtain ⟨rfl, E1⟩ := HE0.out.call hp; have c2 := take_f E1.at_ HM1.out; have HE1 := Lib.hid E1; clear hp E1) | (go_at_call 79; (with_reducible refine c2.mono ?_); intro e w2 hp; obtain ⟨rfl, E2⟩ := HE1.out.call hp; have c3 := take_f E2.at_ HM2.out; have HE2 := Lib.hid E2; clear hp E2) | (go_at_call 79; (with_reducible refine c3.mono ?_); intro e w3 hp; obtain ⟨rfl, E3⟩ := HE2.out.call hp; have c4 := take_f E3.at_ HM3.out; have HE3 := Lib.hid E3; clear hp E3) | (go_at_call 79; (with_reducible refine c4.mono ?_); intro e w4 hp; obtain ⟨rfl, E4⟩ := HE3.out.call hp; have c5 := take_f E4.at_ HM4.out; have HE4 := Lib.hid E4; clear hp E4) | (go_at_call 79; (with_reducible refine c5.mono ?_); intro e w5 hp; obtain ⟨rfl, E5⟩ := HE4.out.call hp; have c6 := take_f E5.at_ HM5.out; have HE5 := Lib.hid E5; clear hp E5) | (go_at_call 79; (with_reducible refine c6.mono ?_); intro e w6 hp; obtain ⟨rfl, E6⟩ := HE5.out.call hp; have c7 := take_t E6.at_ HM6.out; have HE6 := Lib.hid E6; clear hp E6) | (go_at_call 79; (with_reducible refine c7.mono ?_); intro e w7 hp; obtain ⟨rfl, E7⟩ := HE6.out.call hp; have c8 := hL.ex E7.at_; rw [HY.out] at c8; have HE7 := Lib.hid E7; clear hp E7) | (go_at_call 81; (with_reducible refine c8.mono ?_); intro e w8 hp; obtain ⟨N8, rfl, E8⟩ := HE7.out.callN hp; have c9 := one_any (N := N8) (E8.rp _ List.mem_cons_self) 37; have HE8 := Lib.hid E8; clear hp E8) | (go_at_call 83; (with_reducible refine c9.mono ?_); intro e w9 hp; obtain ⟨N9, rfl, E9⟩ := HE8.out.callO hp (fun b h => h); have E9 := E9.new N9; have c10 := want_any E9.at_ ⟨#[59]⟩; have HE9 := Lib.hid E9; clear hp E9) | (go_at_call 82; (with_reducible refine c10.mono ?_); intro e w10 hp; obtain ⟨rfl, E10⟩ := HE9.out.call hp; have l10 := E10.ld 0 rfl; have s10 := E10.sto 1 rfl; have HE10 := Lib.hid E10; clear hp E10))
  exact ((HE10.out.store 1 rfl _).fin (List.mem_cons_of_mem _ List.mem_cons_self) List.mem_cons_self rfl rfl)
set_option maxRecDepth 100000 in
set_option maxHeartbeats 4000000 in
theorem in_try {d : Nat} {L : Low} (hL : LowC d L) {g : Nat} {s : PS} {w : World} (h : At g d s w) (hf : s.fault = 0) (hk : seesF ⟨#[116, 114, 121]⟩ s = true) (hT : TryC d L) :
    Calls Tryz.prog 62 #[.pointer (some ⟨g, 0, none⟩)] w (PostN g d w (tryF L s.take)) := by
  have m0 := sees_one (y := ⟨#[108, 101, 116]⟩) hk (by decide)
  have m1 := sees_one (y := ⟨#[99, 111, 110, 115, 116]⟩) hk (by decide)
  have m2 := sees_one (y := ⟨#[102, 117, 110, 99, 116, 105, 111, 110]⟩) hk (by decide)
  have m3 := sees_one (y := ⟨#[105, 102]⟩) hk (by decide)
  have m4 := sees_one (y := ⟨#[119, 104, 105, 108, 101]⟩) hk (by decide)
  have m5 := sees_one (y := ⟨#[114, 101, 116, 117, 114, 110]⟩) hk (by decide)
  have m6 := sees_one (y := ⟨#[116, 104, 114, 111, 119]⟩) hk (by decide)
  have m7 := hk
  have E0 := (Env.start h).new zeroN
  have HM0 := Lib.hid m0
  have HM1 := Lib.hid m1
  have HM2 := Lib.hid m2
  have HM3 := Lib.hid m3
  have HM4 := Lib.hid m4
  have HM5 := Lib.hid m5
  have HM6 := Lib.hid m6
  have HM7 := Lib.hid m7
  have HF := Lib.hid hf
  have c1 := take_f E0.at_ HM0.out
  have HE0 := Lib.hid E0
  clear E0 h hf m0 m1 m2 m3 m4 m5 m6 m7 hk
  go_enter Tryz.func62, Tryz.ntmps62
  go_wp2_with (first | (go_at_call 79; (with_reducible refine c1.mono ?_); intro e w1 hp; obtain ⟨rfl, E1⟩ := HE0.out.call hp; have c2 := take_f E1.at_ HM1.out; have HE1 := Lib.hid E1; clear hp E1) | (go_at_call 79; (with_reducible refine c2.mono ?_); intro e w2 hp; obtain ⟨rfl, E2⟩ := HE1.out.call hp; have c3 := take_f E2.at_ HM2.out; have HE2 := Lib.hid E2; clear hp E2) | (go_at_call 79; (with_reducible refine c3.mono ?_); intro e w3 hp; obtain ⟨rfl, E3⟩ := HE2.out.call hp; have c4 := take_f E3.at_ HM3.out; have HE3 := Lib.hid E3; clear hp E3) | (go_at_call 79; (with_reducible refine c4.mono ?_); intro e w4 hp; obtain ⟨rfl, E4⟩ := HE3.out.call hp; have c5 := take_f E4.at_ HM4.out; have HE4 := Lib.hid E4; clear hp E4) | (go_at_call 79; (with_reducible refine c5.mono ?_); intro e w5 hp; obtain ⟨rfl, E5⟩ := HE4.out.call hp; have c6 := take_f E5.at_ HM5.out; have HE5 := Lib.hid E5; clear hp E5) | (go_at_call 79; (with_reducible refine c6.mono ?_); intro e w6 hp; obtain ⟨rfl, E6⟩ := HE5.out.call hp; have c7 := take_f E6.at_ HM6.out; have HE6 := Lib.hid E6; clear hp E6) | (go_at_call 79; (with_reducible refine c7.mono ?_); intro e w7 hp; obtain ⟨rfl, E7⟩ := HE6.out.call hp; have c8 := take_t E7.at_ HM7.out; have HE7 := Lib.hid E7; clear hp E7) | (go_at_call 79; (with_reducible refine c8.mono ?_); intro e w8 hp; obtain ⟨rfl, E8⟩ := HE7.out.call hp; have c9 := hT E8.at_; have HE8 := Lib.hid E8; clear hp E8) | (go_at_call 86; (with_reducible refine c9.mono ?_); intro e w9 hp; obtain ⟨N9, rfl, E9⟩ := HE8.out.callN hp; have s9 := E9.sto 0 rfl; have HE9 := Lib.hid E9; clear hp E9))
  exact ((HE9.out.store 0 rfl _).fin List.mem_cons_self List.mem_cons_self rfl rfl)
set_option maxRecDepth 100000 in
set_option maxHeartbeats 4000000 in
theorem in_block {d : Nat} {L : Low} (hL : LowC d L) {g : Nat} {s : PS} {w : World} (h : At g d s w) (hf : s.fault = 0) (hk : seesF ⟨#[123]⟩ s = true) :
    Calls Tryz.prog 62 #[.pointer (some ⟨g, 0, none⟩)] w (PostN g d w (blockF L s)) := by
  have m0 := sees_one (y := ⟨#[108, 101, 116]⟩) hk (by decide)
  have m1 := sees_one (y := ⟨#[99, 111, 110, 115, 116]⟩) hk (by decide)
  have m2 := sees_one (y := ⟨#[102, 117, 110, 99, 116, 105, 111, 110]⟩) hk (by decide)
  have m3 := sees_one (y := ⟨#[105, 102]⟩) hk (by decide)
  have m4 := sees_one (y := ⟨#[119, 104, 105, 108, 101]⟩) hk (by decide)
  have m5 := sees_one (y := ⟨#[114, 101, 116, 117, 114, 110]⟩) hk (by decide)
  have m6 := sees_one (y := ⟨#[116, 104, 114, 111, 119]⟩) hk (by decide)
  have m7 := sees_one (y := ⟨#[116, 114, 121]⟩) hk (by decide)
  have m8 := hk
  have E0 := (Env.start h).new zeroN
  have HM0 := Lib.hid m0
  have HM1 := Lib.hid m1
  have HM2 := Lib.hid m2
  have HM3 := Lib.hid m3
  have HM4 := Lib.hid m4
  have HM5 := Lib.hid m5
  have HM6 := Lib.hid m6
  have HM7 := Lib.hid m7
  have HM8 := Lib.hid m8
  have HF := Lib.hid hf
  have c1 := take_f E0.at_ HM0.out
  have HE0 := Lib.hid E0
  clear E0 h hf m0 m1 m2 m3 m4 m5 m6 m7 m8 hk
  go_enter Tryz.func62, Tryz.ntmps62
  go_wp2_with (first | (go_at_call 79; (with_reducible refine c1.mono ?_); intro e w1 hp; obtain ⟨rfl, E1⟩ := HE0.out.call hp; have c2 := take_f E1.at_ HM1.out; have HE1 := Lib.hid E1; clear hp E1) | (go_at_call 79; (with_reducible refine c2.mono ?_); intro e w2 hp; obtain ⟨rfl, E2⟩ := HE1.out.call hp; have c3 := take_f E2.at_ HM2.out; have HE2 := Lib.hid E2; clear hp E2) | (go_at_call 79; (with_reducible refine c3.mono ?_); intro e w3 hp; obtain ⟨rfl, E3⟩ := HE2.out.call hp; have c4 := take_f E3.at_ HM3.out; have HE3 := Lib.hid E3; clear hp E3) | (go_at_call 79; (with_reducible refine c4.mono ?_); intro e w4 hp; obtain ⟨rfl, E4⟩ := HE3.out.call hp; have c5 := take_f E4.at_ HM4.out; have HE4 := Lib.hid E4; clear hp E4) | (go_at_call 79; (with_reducible refine c5.mono ?_); intro e w5 hp; obtain ⟨rfl, E5⟩ := HE4.out.call hp; have c6 := take_f E5.at_ HM5.out; have HE5 := Lib.hid E5; clear hp E5) | (go_at_call 79; (with_reducible refine c6.mono ?_); intro e w6 hp; obtain ⟨rfl, E6⟩ := HE5.out.call hp; have c7 := take_f E6.at_ HM6.out; have HE6 := Lib.hid E6; clear hp E6) | (go_at_call 79; (with_reducible refine c7.mono ?_); intro e w7 hp; obtain ⟨rfl, E7⟩ := HE6.out.call hp; have c8 := take_f E7.at_ HM7.out; have HE7 := Lib.hid E7; clear hp E7) | (go_at_call 79; (with_reducible refine c8.mono ?_); intro e w8 hp; obtain ⟨rfl, E8⟩ := HE7.out.call hp; have c9 := is_any E8.at_ HF.out ⟨#[123]⟩; rw [HM8.out] at c9; have HE8 := Lib.hid E8; clear hp E8) | (go_at_call 37; (with_reducible refine c9.mono ?_); intro e w9 hp; obtain ⟨rfl, E9⟩ := HE8.out.callR hp; have c10 := block_any hL E9.at_; have HE9 := Lib.hid E9; clear hp E9) | (go_at_call 87; (with_reducible refine c10.mono ?_); intro e w10 hp; obtain ⟨N10, rfl, E10⟩ := HE9.out.callN hp; have s10 := E10.sto 0 rfl; have HE10 := Lib.hid E10; clear hp E10))
  exact ((HE10.out.store 0 rfl _).fin List.mem_cons_self List.mem_cons_self rfl rfl)
set_option maxRecDepth 100000 in
set_option maxHeartbeats 4000000 in
theorem in_break {d : Nat} {L : Low} (hL : LowC d L) {g : Nat} {s : PS} {w : World} (h : At g d s w) (hf : s.fault = 0) (hk : seesF ⟨#[98, 114, 101, 97, 107]⟩ s = true) :
    Calls Tryz.prog 62 #[.pointer (some ⟨g, 0, none⟩)] w (PostN g d w (node 41 [], needsF ⟨#[59]⟩ s.take)) := by
  have m0 := sees_one (y := ⟨#[108, 101, 116]⟩) hk (by decide)
  have m1 := sees_one (y := ⟨#[99, 111, 110, 115, 116]⟩) hk (by decide)
  have m2 := sees_one (y := ⟨#[102, 117, 110, 99, 116, 105, 111, 110]⟩) hk (by decide)
  have m3 := sees_one (y := ⟨#[105, 102]⟩) hk (by decide)
  have m4 := sees_one (y := ⟨#[119, 104, 105, 108, 101]⟩) hk (by decide)
  have m5 := sees_one (y := ⟨#[114, 101, 116, 117, 114, 110]⟩) hk (by decide)
  have m6 := sees_one (y := ⟨#[116, 104, 114, 111, 119]⟩) hk (by decide)
  have m7 := sees_one (y := ⟨#[116, 114, 121]⟩) hk (by decide)
  have m8 := sees_one (y := ⟨#[123]⟩) hk (by decide)
  have m9 := hk
  have E0 := (Env.start h).new zeroN
  have HM0 := Lib.hid m0
  have HM1 := Lib.hid m1
  have HM2 := Lib.hid m2
  have HM3 := Lib.hid m3
  have HM4 := Lib.hid m4
  have HM5 := Lib.hid m5
  have HM6 := Lib.hid m6
  have HM7 := Lib.hid m7
  have HM8 := Lib.hid m8
  have HM9 := Lib.hid m9
  have HF := Lib.hid hf
  have c1 := take_f E0.at_ HM0.out
  have HE0 := Lib.hid E0
  clear E0 h hf m0 m1 m2 m3 m4 m5 m6 m7 m8 m9 hk
  go_enter Tryz.func62, Tryz.ntmps62
  go_wp2_with (first | (go_at_call 79; (with_reducible refine c1.mono ?_); intro e w1 hp; obtain ⟨rfl, E1⟩ := HE0.out.call hp; have c2 := take_f E1.at_ HM1.out; have HE1 := Lib.hid E1; clear hp E1) | (go_at_call 79; (with_reducible refine c2.mono ?_); intro e w2 hp; obtain ⟨rfl, E2⟩ := HE1.out.call hp; have c3 := take_f E2.at_ HM2.out; have HE2 := Lib.hid E2; clear hp E2) | (go_at_call 79; (with_reducible refine c3.mono ?_); intro e w3 hp; obtain ⟨rfl, E3⟩ := HE2.out.call hp; have c4 := take_f E3.at_ HM3.out; have HE3 := Lib.hid E3; clear hp E3) | (go_at_call 79; (with_reducible refine c4.mono ?_); intro e w4 hp; obtain ⟨rfl, E4⟩ := HE3.out.call hp; have c5 := take_f E4.at_ HM4.out; have HE4 := Lib.hid E4; clear hp E4) | (go_at_call 79; (with_reducible refine c5.mono ?_); intro e w5 hp; obtain ⟨rfl, E5⟩ := HE4.out.call hp; have c6 := take_f E5.at_ HM5.out; have HE5 := Lib.hid E5; clear hp E5) | (go_at_call 79; (with_reducible refine c6.mono ?_); intro e w6 hp; obtain ⟨rfl, E6⟩ := HE5.out.call hp; have c7 := take_f E6.at_ HM6.out; have HE6 := Lib.hid E6; clear hp E6) | (go_at_call 79; (with_reducible refine c7.mono ?_); intro e w7 hp; obtain ⟨rfl, E7⟩ := HE6.out.call hp; have c8 := take_f E7.at_ HM7.out; have HE7 := Lib.hid E7; clear hp E7) | (go_at_call 79; (with_reducible refine c8.mono ?_); intro e w8 hp; obtain ⟨rfl, E8⟩ := HE7.out.call hp; have c9 := is_any E8.at_ HF.out ⟨#[123]⟩; rw [HM8.out] at c9; have HE8 := Lib.hid E8; clear hp E8) | (go_at_call 37; (with_reducible refine c9.mono ?_); intro e w9 hp; obtain ⟨rfl, E9⟩ := HE8.out.callR hp; have c10 := take_t E9.at_ HM9.out; have HE9 := Lib.hid E9; clear hp E9) | (go_at_call 79; (with_reducible refine c10.mono ?_); intro e w10 hp; obtain ⟨rfl, E10⟩ := HE9.out.call hp; have c11 := want_any E10.at_ ⟨#[59]⟩; have HE10 := Lib.hid E10; clear hp E10) | (go_at_call 82; (with_reducible refine c11.mono ?_); intro e w11 hp; obtain ⟨rfl, E11⟩ := HE10.out.call hp; have E11 := E11.leaf 41 0 noS; have s11 := E11.sto 0 rfl; have HE11 := Lib.hid E11; clear hp E11))
  exact ((HE11.out.store 0 rfl _).fin List.mem_cons_self List.mem_cons_self rfl rfl)
set_option maxRecDepth 100000 in
set_option maxHeartbeats 4000000 in
theorem in_continue {d : Nat} {L : Low} (hL : LowC d L) {g : Nat} {s : PS} {w : World} (h : At g d s w) (hf : s.fault = 0) (hk : seesF ⟨#[99, 111, 110, 116, 105, 110, 117, 101]⟩ s = true) :
    Calls Tryz.prog 62 #[.pointer (some ⟨g, 0, none⟩)] w (PostN g d w (node 42 [], needsF ⟨#[59]⟩ s.take)) := by
  have m0 := sees_one (y := ⟨#[108, 101, 116]⟩) hk (by decide)
  have m1 := sees_one (y := ⟨#[99, 111, 110, 115, 116]⟩) hk (by decide)
  have m2 := sees_one (y := ⟨#[102, 117, 110, 99, 116, 105, 111, 110]⟩) hk (by decide)
  have m3 := sees_one (y := ⟨#[105, 102]⟩) hk (by decide)
  have m4 := sees_one (y := ⟨#[119, 104, 105, 108, 101]⟩) hk (by decide)
  have m5 := sees_one (y := ⟨#[114, 101, 116, 117, 114, 110]⟩) hk (by decide)
  have m6 := sees_one (y := ⟨#[116, 104, 114, 111, 119]⟩) hk (by decide)
  have m7 := sees_one (y := ⟨#[116, 114, 121]⟩) hk (by decide)
  have m8 := sees_one (y := ⟨#[123]⟩) hk (by decide)
  have m9 := sees_one (y := ⟨#[98, 114, 101, 97, 107]⟩) hk (by decide)
  have m10 := hk
  have E0 := (Env.start h).new zeroN
  have HM0 := Lib.hid m0
  have HM1 := Lib.hid m1
  have HM2 := Lib.hid m2
  have HM3 := Lib.hid m3
  have HM4 := Lib.hid m4
  have HM5 := Lib.hid m5
  have HM6 := Lib.hid m6
  have HM7 := Lib.hid m7
  have HM8 := Lib.hid m8
  have HM9 := Lib.hid m9
  have HM10 := Lib.hid m10
  have HF := Lib.hid hf
  have c1 := take_f E0.at_ HM0.out
  have HE0 := Lib.hid E0
  clear E0 h hf m0 m1 m2 m3 m4 m5 m6 m7 m8 m9 m10 hk
  go_enter Tryz.func62, Tryz.ntmps62
  go_wp2_with (first | (go_at_call 79; (with_reducible refine c1.mono ?_); intro e w1 hp; obtain ⟨rfl, E1⟩ := HE0.out.call hp; have c2 := take_f E1.at_ HM1.out; have HE1 := Lib.hid E1; clear hp E1) | (go_at_call 79; (with_reducible refine c2.mono ?_); intro e w2 hp; obtain ⟨rfl, E2⟩ := HE1.out.call hp; have c3 := take_f E2.at_ HM2.out; have HE2 := Lib.hid E2; clear hp E2) | (go_at_call 79; (with_reducible refine c3.mono ?_); intro e w3 hp; obtain ⟨rfl, E3⟩ := HE2.out.call hp; have c4 := take_f E3.at_ HM3.out; have HE3 := Lib.hid E3; clear hp E3) | (go_at_call 79; (with_reducible refine c4.mono ?_); intro e w4 hp; obtain ⟨rfl, E4⟩ := HE3.out.call hp; have c5 := take_f E4.at_ HM4.out; have HE4 := Lib.hid E4; clear hp E4) | (go_at_call 79; (with_reducible refine c5.mono ?_); intro e w5 hp; obtain ⟨rfl, E5⟩ := HE4.out.call hp; have c6 := take_f E5.at_ HM5.out; have HE5 := Lib.hid E5; clear hp E5) | (go_at_call 79; (with_reducible refine c6.mono ?_); intro e w6 hp; obtain ⟨rfl, E6⟩ := HE5.out.call hp; have c7 := take_f E6.at_ HM6.out; have HE6 := Lib.hid E6; clear hp E6) | (go_at_call 79; (with_reducible refine c7.mono ?_); intro e w7 hp; obtain ⟨rfl, E7⟩ := HE6.out.call hp; have c8 := take_f E7.at_ HM7.out; have HE7 := Lib.hid E7; clear hp E7) | (go_at_call 79; (with_reducible refine c8.mono ?_); intro e w8 hp; obtain ⟨rfl, E8⟩ := HE7.out.call hp; have c9 := is_any E8.at_ HF.out ⟨#[123]⟩; rw [HM8.out] at c9; have HE8 := Lib.hid E8; clear hp E8) | (go_at_call 37; (with_reducible refine c9.mono ?_); intro e w9 hp; obtain ⟨rfl, E9⟩ := HE8.out.callR hp; have c10 := take_f E9.at_ HM9.out; have HE9 := Lib.hid E9; clear hp E9) | (go_at_call 79; (with_reducible refine c10.mono ?_); intro e w10 hp; obtain ⟨rfl, E10⟩ := HE9.out.call hp; have c11 := take_t E10.at_ HM10.out; have HE10 := Lib.hid E10; clear hp E10) | (go_at_call 79; (with_reducible refine c11.mono ?_); intro e w11 hp; obtain ⟨rfl, E11⟩ := HE10.out.call hp; have c12 := want_any E11.at_ ⟨#[59]⟩; have HE11 := Lib.hid E11; clear hp E11) | (go_at_call 82; (with_reducible refine c12.mono ?_); intro e w12 hp; obtain ⟨rfl, E12⟩ := HE11.out.call hp; have E12 := E12.leaf 42 0 noS; have s12 := E12.sto 0 rfl; have HE12 := Lib.hid E12; clear hp E12))
  exact ((HE12.out.store 0 rfl _).fin List.mem_cons_self List.mem_cons_self rfl rfl)
set_option maxRecDepth 100000 in
set_option maxHeartbeats 4000000 in
theorem in_semi {d : Nat} {L : Low} (hL : LowC d L) {g : Nat} {s : PS} {w : World} (h : At g d s w) (hf : s.fault = 0) (hk : seesF ⟨#[59]⟩ s = true) :
    Calls Tryz.prog 62 #[.pointer (some ⟨g, 0, none⟩)] w (PostN g d w (node 43 [], s.take)) := by
  have m0 := sees_one (y := ⟨#[108, 101, 116]⟩) hk (by decide)
  have m1 := sees_one (y := ⟨#[99, 111, 110, 115, 116]⟩) hk (by decide)
  have m2 := sees_one (y := ⟨#[102, 117, 110, 99, 116, 105, 111, 110]⟩) hk (by decide)
  have m3 := sees_one (y := ⟨#[105, 102]⟩) hk (by decide)
  have m4 := sees_one (y := ⟨#[119, 104, 105, 108, 101]⟩) hk (by decide)
  have m5 := sees_one (y := ⟨#[114, 101, 116, 117, 114, 110]⟩) hk (by decide)
  have m6 := sees_one (y := ⟨#[116, 104, 114, 111, 119]⟩) hk (by decide)
  have m7 := sees_one (y := ⟨#[116, 114, 121]⟩) hk (by decide)
  have m8 := sees_one (y := ⟨#[123]⟩) hk (by decide)
  have m9 := sees_one (y := ⟨#[98, 114, 101, 97, 107]⟩) hk (by decide)
  have m10 := sees_one (y := ⟨#[99, 111, 110, 116, 105, 110, 117, 101]⟩) hk (by decide)
  have m11 := hk
  have E0 := (Env.start h).new zeroN
  have HM0 := Lib.hid m0
  have HM1 := Lib.hid m1
  have HM2 := Lib.hid m2
  have HM3 := Lib.hid m3
  have HM4 := Lib.hid m4
  have HM5 := Lib.hid m5
  have HM6 := Lib.hid m6
  have HM7 := Lib.hid m7
  have HM8 := Lib.hid m8
  have HM9 := Lib.hid m9
  have HM10 := Lib.hid m10
  have HM11 := Lib.hid m11
  have HF := Lib.hid hf
  have c1 := take_f E0.at_ HM0.out
  have HE0 := Lib.hid E0
  clear E0 h hf m0 m1 m2 m3 m4 m5 m6 m7 m8 m9 m10 m11 hk
  go_enter Tryz.func62, Tryz.ntmps62
  go_wp2_with (first | (go_at_call 79; (with_reducible refine c1.mono ?_); intro e w1 hp; obtain ⟨rfl, E1⟩ := HE0.out.call hp; have c2 := take_f E1.at_ HM1.out; have HE1 := Lib.hid E1; clear hp E1) | (go_at_call 79; (with_reducible refine c2.mono ?_); intro e w2 hp; obtain ⟨rfl, E2⟩ := HE1.out.call hp; have c3 := take_f E2.at_ HM2.out; have HE2 := Lib.hid E2; clear hp E2) | (go_at_call 79; (with_reducible refine c3.mono ?_); intro e w3 hp; obtain ⟨rfl, E3⟩ := HE2.out.call hp; have c4 := take_f E3.at_ HM3.out; have HE3 := Lib.hid E3; clear hp E3) | (go_at_call 79; (with_reducible refine c4.mono ?_); intro e w4 hp; obtain ⟨rfl, E4⟩ := HE3.out.call hp; have c5 := take_f E4.at_ HM4.out; have HE4 := Lib.hid E4; clear hp E4) | (go_at_call 79; (with_reducible refine c5.mono ?_); intro e w5 hp; obtain ⟨rfl, E5⟩ := HE4.out.call hp; have c6 := take_f E5.at_ HM5.out; have HE5 := Lib.hid E5; clear hp E5) | (go_at_call 79; (with_reducible refine c6.mono ?_); intro e w6 hp; obtain ⟨rfl, E6⟩ := HE5.out.call hp; have c7 := take_f E6.at_ HM6.out; have HE6 := Lib.hid E6; clear hp E6) | (go_at_call 79; (with_reducible refine c7.mono ?_); intro e w7 hp; obtain ⟨rfl, E7⟩ := HE6.out.call hp; have c8 := take_f E7.at_ HM7.out; have HE7 := Lib.hid E7; clear hp E7) | (go_at_call 79; (with_reducible refine c8.mono ?_); intro e w8 hp; obtain ⟨rfl, E8⟩ := HE7.out.call hp; have c9 := is_any E8.at_ HF.out ⟨#[123]⟩; rw [HM8.out] at c9; have HE8 := Lib.hid E8; clear hp E8) | (go_at_call 37; (with_reducible refine c9.mono ?_); intro e w9 hp; obtain ⟨rfl, E9⟩ := HE8.out.callR hp; have c10 := take_f E9.at_ HM9.out; have HE9 := Lib.hid E9; clear hp E9) | (go_at_call 79; (with_reducible refine c10.mono ?_); intro e w10 hp; obtain ⟨rfl, E10⟩ := HE9.out.call hp; have c11 := take_f E10.at_ HM10.out; have HE10 := Lib.hid E10; clear hp E10) | (go_at_call 79; (with_reducible refine c11.mono ?_); intro e w11 hp; obtain ⟨rfl, E11⟩ := HE10.out.call hp; have c12 := take_t E11.at_ HM11.out; have HE11 := Lib.hid E11; clear hp E11) | (go_at_call 79; (with_reducible refine c12.mono ?_); intro e w12 hp; obtain ⟨rfl, E12⟩ := HE11.out.call hp; have E12 := E12.leaf 43 0 noS; have s12 := E12.sto 0 rfl; have HE12 := Lib.hid E12; clear hp E12))
  exact ((HE12.out.store 0 rfl _).fin List.mem_cons_self List.mem_cons_self rfl rfl)
set_option maxRecDepth 100000 in
set_option maxHeartbeats 4000000 in
theorem in_expr {d : Nat} {L : Low} (hL : LowC d L) {g : Nat} {s : PS} {w : World} (h : At g d s w) (hf : s.fault = 0) (m0 : seesF ⟨#[108, 101, 116]⟩ s = false) (m1 : seesF ⟨#[99, 111, 110, 115, 116]⟩ s = false) (m2 : seesF ⟨#[102, 117, 110, 99, 116, 105, 111, 110]⟩ s = false) (m3 : seesF ⟨#[105, 102]⟩ s = false) (m4 : seesF ⟨#[119, 104, 105, 108, 101]⟩ s = false) (m5 : seesF ⟨#[114, 101, 116, 117, 114, 110]⟩ s = false) (m6 : seesF ⟨#[116, 104, 114, 111, 119]⟩ s = false) (m7 : seesF ⟨#[116, 114, 121]⟩ s = false) (m8 : seesF ⟨#[123]⟩ s = false) (m9 : seesF ⟨#[98, 114, 101, 97, 107]⟩ s = false) (m10 : seesF ⟨#[99, 111, 110, 116, 105, 110, 117, 101]⟩ s = false) (m11 : seesF ⟨#[59]⟩ s = false) {Y : Tree × PS} (hY : L.ex s = Y) :
    Calls Tryz.prog 62 #[.pointer (some ⟨g, 0, none⟩)] w (PostN g d w (node 33 [Y.1], needsF ⟨#[59]⟩ Y.2)) := by
  have E0 := (Env.start h).new zeroN
  have HY := Lib.hid hY
  clear hY
  have HM0 := Lib.hid m0
  have HM1 := Lib.hid m1
  have HM2 := Lib.hid m2
  have HM3 := Lib.hid m3
  have HM4 := Lib.hid m4
  have HM5 := Lib.hid m5
  have HM6 := Lib.hid m6
  have HM7 := Lib.hid m7
  have HM8 := Lib.hid m8
  have HM9 := Lib.hid m9
  have HM10 := Lib.hid m10
  have HM11 := Lib.hid m11
  have HF := Lib.hid hf
  have c1 := take_f E0.at_ HM0.out
  have HE0 := Lib.hid E0
  clear E0 h hf m0 m1 m2 m3 m4 m5 m6 m7 m8 m9 m10 m11
  go_enter Tryz.func62, Tryz.ntmps62
  go_wp2_with (first | (go_at_call 79; (with_reducible refine c1.mono ?_); intro e w1 hp; obtain ⟨rfl, E1⟩ := HE0.out.call hp; have c2 := take_f E1.at_ HM1.out; have HE1 := Lib.hid E1; clear hp E1) | (go_at_call 79; (with_reducible refine c2.mono ?_); intro e w2 hp; obtain ⟨rfl, E2⟩ := HE1.out.call hp; have c3 := take_f E2.at_ HM2.out; have HE2 := Lib.hid E2; clear hp E2) | (go_at_call 79; (with_reducible refine c3.mono ?_); intro e w3 hp; obtain ⟨rfl, E3⟩ := HE2.out.call hp; have c4 := take_f E3.at_ HM3.out; have HE3 := Lib.hid E3; clear hp E3) | (go_at_call 79; (with_reducible refine c4.mono ?_); intro e w4 hp; obtain ⟨rfl, E4⟩ := HE3.out.call hp; have c5 := take_f E4.at_ HM4.out; have HE4 := Lib.hid E4; clear hp E4) | (go_at_call 79; (with_reducible refine c5.mono ?_); intro e w5 hp; obtain ⟨rfl, E5⟩ := HE4.out.call hp; have c6 := take_f E5.at_ HM5.out; have HE5 := Lib.hid E5; clear hp E5) | (go_at_call 79; (with_reducible refine c6.mono ?_); intro e w6 hp; obtain ⟨rfl, E6⟩ := HE5.out.call hp; have c7 := take_f E6.at_ HM6.out; have HE6 := Lib.hid E6; clear hp E6) | (go_at_call 79; (with_reducible refine c7.mono ?_); intro e w7 hp; obtain ⟨rfl, E7⟩ := HE6.out.call hp; have c8 := take_f E7.at_ HM7.out; have HE7 := Lib.hid E7; clear hp E7) | (go_at_call 79; (with_reducible refine c8.mono ?_); intro e w8 hp; obtain ⟨rfl, E8⟩ := HE7.out.call hp; have c9 := is_any E8.at_ HF.out ⟨#[123]⟩; rw [HM8.out] at c9; have HE8 := Lib.hid E8; clear hp E8) | (go_at_call 37; (with_reducible refine c9.mono ?_); intro e w9 hp; obtain ⟨rfl, E9⟩ := HE8.out.callR hp; have c10 := take_f E9.at_ HM9.out; have HE9 := Lib.hid E9; clear hp E9) | (go_at_call 79; (with_reducible refine c10.mono ?_); intro e w10 hp; obtain ⟨rfl, E10⟩ := HE9.out.call hp; have c11 := take_f E10.at_ HM10.out; have HE10 := Lib.hid E10; clear hp E10) | (go_at_call 79; (with_reducible refine c11.mono ?_); intro e w11 hp; obtain ⟨rfl, E11⟩ := HE10.out.call hp; have c12 := take_f E11.at_ HM11.out; have HE11 := Lib.hid E11; clear hp E11) | (go_at_call 79; (with_reducible refine c12.mono ?_); intro e w12 hp; obtain ⟨rfl, E12⟩ := HE11.out.call hp; have c13 := hL.ex E12.at_; rw [HY.out] at c13; have HE12 := Lib.hid E12; clear hp E12) | (go_at_call 81; (with_reducible refine c13.mono ?_); intro e w13 hp; obtain ⟨N13, rfl, E13⟩ := HE12.out.callN hp; have c14 := one_any (N := N13) (E13.rp _ List.mem_cons_self) 33; have HE13 := Lib.hid E13; clear hp E13) | (go_at_call 83; (with_reducible refine c14.mono ?_); intro e w14 hp; obtain ⟨N14, rfl, E14⟩ := HE13.out.callO hp (fun b h => h); have E14 := E14.new N14; have c15 := want_any E14.at_ ⟨#[59]⟩; have HE14 := Lib.hid E14; clear hp E14) | (go_at_call 82; (with_reducible refine c15.mono ?_); intro e w15 hp; obtain ⟨rfl, E15⟩ := HE14.out.call hp; have l15 := E15.ld 0 rfl; have s15 := E15.sto 1 rfl; have HE15 := Lib.hid E15; clear hp E15))
  exact ((HE15.out.store 1 rfl _).fin (List.mem_cons_of_mem _ List.mem_cons_self) List.mem_cons_self rfl rfl)
set_option maxRecDepth 100000 in
set_option maxHeartbeats 4000000 in
theorem in_while {d : Nat} {L : Low} (hL : LowC d L) {g : Nat} {s : PS} {w : World} (h : At g d s w) (hf : s.fault = 0) (hk : seesF ⟨#[119, 104, 105, 108, 101]⟩ s = true) {X Y : Tree × PS} (hX : parenF L s.take = X) (hY : L.st X.2 = Y) :
    Calls Tryz.prog 62 #[.pointer (some ⟨g, 0, none⟩)] w (PostN g d w (node 35 [X.1, Y.1], Y.2)) := by
  have m0 := sees_one (y := ⟨#[108, 101, 116]⟩) hk (by decide)
  have m1 := sees_one (y := ⟨#[99, 111, 110, 115, 116]⟩) hk (by decide)
  have m2 := sees_one (y := ⟨#[102, 117, 110, 99, 116, 105, 111, 110]⟩) hk (by decide)
  have m3 := sees_one (y := ⟨#[105, 102]⟩) hk (by decide)
  have m4 := hk
  have E0 := (Env.start h).new zeroN
  have HX := Lib.hid hX
  have HY := Lib.hid hY
  clear hX hY
  have HM0 := Lib.hid m0
  have HM1 := Lib.hid m1
  have HM2 := Lib.hid m2
  have HM3 := Lib.hid m3
  have HM4 := Lib.hid m4
  have HF := Lib.hid hf
  have c1 := take_f E0.at_ HM0.out
  have HE0 := Lib.hid E0
  clear E0 h hf m0 m1 m2 m3 m4 hk
  go_enter Tryz.func62, Tryz.ntmps62
  go_wp2_with (first | (go_at_call 79; (with_reducible refine c1.mono ?_); intro e w1 hp; obtain ⟨rfl, E1⟩ := HE0.out.call hp; have c2 := take_f E1.at_ HM1.out; have HE1 := Lib.hid E1; clear hp E1) | (go_at_call 79; (with_reducible refine c2.mono ?_); intro e w2 hp; obtain ⟨rfl, E2⟩ := HE1.out.call hp; have c3 := take_f E2.at_ HM2.out; have HE2 := Lib.hid E2; clear hp E2) | (go_at_call 79; (with_reducible refine c3.mono ?_); intro e w3 hp; obtain ⟨rfl, E3⟩ := HE2.out.call hp; have c4 := take_f E3.at_ HM3.out; have HE3 := Lib.hid E3; clear hp E3) | (go_at_call 79; (with_reducible refine c4.mono ?_); intro e w4 hp; obtain ⟨rfl, E4⟩ := HE3.out.call hp; have c5 := take_t E4.at_ HM4.out; have HE4 := Lib.hid E4; clear hp E4) | (go_at_call 79; (with_reducible refine c5.mono ?_); intro e w5 hp; obtain ⟨rfl, E5⟩ := HE4.out.call hp; have c6 := paren_any hL E5.at_; rw [HX.out] at c6; have HE5 := Lib.hid E5; clear hp E5) | (go_at_call 85; (with_reducible refine c6.mono ?_); intro e w6 hp; obtain ⟨N6, rfl, E6⟩ := HE5.out.callN hp; have E6 := (E6.new N6).drew1; have lw := E6.ld 0 rfl; have cw := hL.st E6.at_; rw [HY.out] at cw; have HE6 := Lib.hid E6; clear hp E6))
  go_region_with (go_at_call 38; (with_reducible refine cw.mono ?_); intro e wx hp; obtain ⟨NX, rfl, EX⟩ := HE6.out.callN hp; have lx := EX.ld 0 rfl; have EY := EX.kids2 (List.mem_cons_of_mem _ List.mem_cons_self) List.mem_cons_self 35 0 noS; have sy := EY.sto 1 rfl; have HEY := Lib.hid EY; clear hp EX EY)
  all_goals go_wp2
  all_goals exact ((HEY.out.store 1 rfl _).fin (List.mem_cons_of_mem _ List.mem_cons_self) List.mem_cons_self rfl rfl)
end Go.Proofs.YtinoaajohkafmaaGreat.Rp
