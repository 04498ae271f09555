/-
  Texts of this seat in build order: PaSt, PaTok.
-/
import Derived.Test.YtkknglmpdmhhjaaGreatDoorMg32
/-
  statement, unary; the contracts at every depth.
-/
namespace Go.Proofs.YtkknglmpdmhhjaaGreatDoor.Pa
open Go Go.RowKit Go.Proofs.YtkknglmpdmhhjaaGreatDoor.Lx Go.Proofs.YtkknglmpdmhhjaaGreatDoor.Uni
set_option linter.unusedVariables false
set_option linter.unusedSimpArgs false
attribute [local go_sem ↓] ldK stK alK bdK bsK ldN stN alN bdN bsN
attribute [local irreducible] kcs ncs ncells
attribute [local go_sem] run_alK run_bdK0 run_bdKs run_bdKn run_bdKe run_bsK run_fdK0 run_fdK1 run_fdK2 run_fdK3 run_fdN4 run_alN run_stNg run_ldNg run_bdN0 run_bdN04 run_bdN02 run_bdN01 run_bdN024 run_bdN03 run_bdN0234 run_bsN1 run_bsN2 run_bsN3

set_option maxRecDepth 100000 in
set_option maxHeartbeats 4000000 in
theorem st_b {d : Nat} {L : Low} (hL : LowC (d + 1) L) (hd : d < 100) {g : Nat} {s : PS} {w : World} (h : At g d s w) (hX : Gx g w) (k0 : seesF ⟨#[123]⟩ s = true) :
    Calls Tryz.prog 44 #[.pointer (some ⟨g, 0, none⟩)] w (PostN g d w (blockF L s)) := by
  have E0 := (Env.start h hX).new zeroN
  have c0 := enter_t E0.at_ hd
  have hd2 : d ≤ 100 := by omega
  have HE0 := Lib.hid E0
  clear E0 h hX hd
  refine calls_of_wp_doors Tryz.func44 rfl ?_
  simp only [Tryz.ntmps44, List.size_toArray, List.length_cons, List.length_nil, Nat.reduceAdd, Nat.reduceSub, Array.replicate_succ, Array.replicate_zero, List.push_toArray, List.append_toArray, List.nil_append, List.cons_append]
  go_wp2_with (first | (go_at_call 82; (with_reducible refine c0.mono ?_); intro e w1 hp; obtain ⟨rfl, E1⟩ := HE0.out.call hp; have c1 := sees_t E1.at_ k0; have HE1 := Lib.hid E1; clear hp E1) | (go_at_call 84; (with_reducible refine c1.mono ?_); intro e w2 hp; obtain ⟨rfl, E2⟩ := HE1.out.callR hp; have cy := block_any hL E2.at_ E2.gx; have HE2 := Lib.hid E2; clear hp E2) | (go_at_call 85; (with_reducible refine cy.mono ?_); intro e w3 hp; obtain ⟨N3, rfl, E3⟩ := HE2.out.callN hp; have sN := E3.sto 0 rfl; have HE3 := Lib.hid E3; clear hp E3))
  exact ((HE3.out.store 0 rfl _).door hd2 List.mem_cons_self List.mem_cons_self rfl rfl)

set_option maxRecDepth 100000 in
set_option maxHeartbeats 4000000 in
theorem st_f {d : Nat} {L : Low} (hL : LowC (d + 1) L) (hd : d < 100) {g : Nat} {s : PS} {w : World} (h : At g d s w) (hX : Gx g w) (k0 : seesF ⟨#[123]⟩ s = false) (k1 : seesF ⟨#[102, 117, 110, 99, 116, 105, 111, 110]⟩ s = true) :
    Calls Tryz.prog 44 #[.pointer (some ⟨g, 0, none⟩)] w (PostN g d w (node 32 [(funcF L (nameF s.take).1 (nameF s.take).2).1], (funcF L (nameF s.take).1 (nameF s.take).2).2)) := by
  have E0 := (Env.start h hX).new zeroN
  have c0 := enter_t E0.at_ hd
  have hd2 : d ≤ 100 := by omega
  have HE0 := Lib.hid E0
  clear E0 h hX hd
  refine calls_of_wp_doors Tryz.func44 rfl ?_
  simp only [Tryz.ntmps44, List.size_toArray, List.length_cons, List.length_nil, Nat.reduceAdd, Nat.reduceSub, Array.replicate_succ, Array.replicate_zero, List.push_toArray, List.append_toArray, List.nil_append, List.cons_append]
  go_wp2_with (first | (go_at_call 82; (with_reducible refine c0.mono ?_); intro e w1 hp; obtain ⟨rfl, E1⟩ := HE0.out.call hp; have c1 := sees_f E1.at_ k0; have HE1 := Lib.hid E1; clear hp E1) | (go_at_call 84; (with_reducible refine c1.mono ?_); intro e w2 hp; obtain ⟨rfl, E2⟩ := HE1.out.callR hp; have c2 := takes_t E2.at_ k1; have HE2 := Lib.hid E2; clear hp E2) | (go_at_call 86; (with_reducible refine c2.mono ?_); intro e w3 hp; obtain ⟨rfl, E3⟩ := HE2.out.call hp; have cy := name_any E3.at_; have HE3 := Lib.hid E3; clear hp E3) | (go_at_call 88; (with_reducible refine cy.mono ?_); intro e w4 hp; obtain ⟨rfl, E4⟩ := HE3.out.call hp; have cz := func_any hL E4.at_ E4.gx (nameF s.take).1; have HE4 := Lib.hid E4; clear hp E4) | (go_at_call 87; (with_reducible refine cz.mono ?_); intro e w5 hp; obtain ⟨N5, rfl, E5⟩ := HE4.out.callN hp; have sN := fun o M => ((E5.kids1 List.mem_cons_self 32 0 noS).alloc o).sto 0 rfl M; have HE5 := Lib.hid E5; clear hp E5) | (go_at_call 22; (with_reducible refine (node_any _ _ _ _ _).mono ?_); rintro e wn ⟨rfl, rfl⟩))
  exact ((((HE5.out.kids1 List.mem_cons_self 32 0 noS).alloc _).store 0 rfl _).door hd2 List.mem_cons_self List.mem_cons_self rfl rfl)

set_option maxRecDepth 100000 in
set_option maxHeartbeats 4000000 in
theorem st_i {d : Nat} {L : Low} (hL : LowC (d + 1) L) (hd : d < 100) {g : Nat} {s : PS} {w : World} (h : At g d s w) (hX : Gx g w) (k0 : seesF ⟨#[123]⟩ s = false) (k1 : seesF ⟨#[102, 117, 110, 99, 116, 105, 111, 110]⟩ s = false) (k2 : seesF ⟨#[105, 102]⟩ s = true) :
    Calls Tryz.prog 44 #[.pointer (some ⟨g, 0, none⟩)] w (PostN g d w (choiceF L s.take)) := by
  have E0 := (Env.start h hX).new zeroN
  have c0 := enter_t E0.at_ hd
  have hd2 : d ≤ 100 := by omega
  have HE0 := Lib.hid E0
  clear E0 h hX hd
  refine calls_of_wp_doors Tryz.func44 rfl ?_
  simp only [Tryz.ntmps44, List.size_toArray, List.length_cons, List.length_nil, Nat.reduceAdd, Nat.reduceSub, Array.replicate_succ, Array.replicate_zero, List.push_toArray, List.append_toArray, List.nil_append, List.cons_append]
  go_wp2_with (first | (go_at_call 82; (with_reducible refine c0.mono ?_); intro e w1 hp; obtain ⟨rfl, E1⟩ := HE0.out.call hp; have c1 := sees_f E1.at_ k0; have HE1 := Lib.hid E1; clear hp E1) | (go_at_call 84; (with_reducible refine c1.mono ?_); intro e w2 hp; obtain ⟨rfl, E2⟩ := HE1.out.callR hp; have c2 := takes_f E2.at_ k1; have HE2 := Lib.hid E2; clear hp E2) | (go_at_call 86; (with_reducible refine c2.mono ?_); intro e w3 hp; obtain ⟨rfl, E3⟩ := HE2.out.call hp; have c3 := takes_t E3.at_ k2; have HE3 := Lib.hid E3; clear hp E3) | (go_at_call 86; (with_reducible refine c3.mono ?_); intro e w4 hp; obtain ⟨rfl, E4⟩ := HE3.out.call hp; have cy := choice_any hL E4.at_ E4.gx; have HE4 := Lib.hid E4; clear hp E4) | (go_at_call 89; (with_reducible refine cy.mono ?_); intro e w5 hp; obtain ⟨N5, rfl, E5⟩ := HE4.out.callN hp; have sN := E5.sto 0 rfl; have HE5 := Lib.hid E5; clear hp E5))
  exact ((HE5.out.store 0 rfl _).door hd2 List.mem_cons_self List.mem_cons_self rfl rfl)

set_option maxRecDepth 100000 in
set_option maxHeartbeats 4000000 in
theorem st_w {d : Nat} {L : Low} (hL : LowC (d + 1) L) (hd : d < 100) {g : Nat} {s : PS} {w : World} (h : At g d s w) (hX : Gx g w) (k0 : seesF ⟨#[123]⟩ s = false) (k1 : seesF ⟨#[102, 117, 110, 99, 116, 105, 111, 110]⟩ s = false) (k2 : seesF ⟨#[105, 102]⟩ s = false) (k3 : seesF ⟨#[119, 104, 105, 108, 101]⟩ s = true) :
    Calls Tryz.prog 44 #[.pointer (some ⟨g, 0, none⟩)] w (PostN g d w (node 35 [(parenF L s.take).1, (L.st (parenF L s.take).2).1], (L.st (parenF L s.take).2).2)) := by
  have E0 := (Env.start h hX).new zeroN
  have c0 := enter_t E0.at_ hd
  have hd2 : d ≤ 100 := by omega
  have HE0 := Lib.hid E0
  clear E0 h hX hd
  refine calls_of_wp_doors Tryz.func44 rfl ?_
  simp only [Tryz.ntmps44, List.size_toArray, List.length_cons, List.length_nil, Nat.reduceAdd, Nat.reduceSub, Array.replicate_succ, Array.replicate_zero, List.push_toArray, List.append_toArray, List.nil_append, List.cons_append]
  go_wp2_with (first | (go_at_call 82; (with_reducible refine c0.mono ?_); intro e w1 hp; obtain ⟨rfl, E1⟩ := HE0.out.call hp; have c1 := sees_f E1.at_ k0; have HE1 := Lib.hid E1; clear hp E1) | (go_at_call 84; (with_reducible refine c1.mono ?_); intro e w2 hp; obtain ⟨rfl, E2⟩ := HE1.out.callR hp; have c2 := takes_f E2.at_ k1; have HE2 := Lib.hid E2; clear hp E2) | (go_at_call 86; (with_reducible refine c2.mono ?_); intro e w3 hp; obtain ⟨rfl, E3⟩ := HE2.out.call hp; have c3 := takes_f E3.at_ k2; have HE3 := Lib.hid E3; clear hp E3) | (go_at_call 86; (with_reducible refine c3.mono ?_); intro e w4 hp; obtain ⟨rfl, E4⟩ := HE3.out.call hp; have c4 := takes_t E4.at_ k3; have HE4 := Lib.hid E4; clear hp E4) | (go_at_call 86; (with_reducible refine c4.mono ?_); intro e w5 hp; obtain ⟨rfl, E5⟩ := HE4.out.call hp; have cy := paren_any hL E5.at_ E5.gx; have HE5 := Lib.hid E5; clear hp E5) | (go_at_call 90; (with_reducible refine cy.mono ?_); intro e w6 hp; obtain ⟨N6, rfl, E6⟩ := HE5.out.callN hp; have cz := hL.st E6.at_ E6.gx; have HE6 := Lib.hid E6; clear hp E6) | (go_at_call 44; (with_reducible refine cz.mono ?_); intro e w7 hp; obtain ⟨N7, rfl, E7⟩ := HE6.out.callN hp; have sN := fun o M => ((E7.kids2 (List.mem_cons_of_mem _ List.mem_cons_self) List.mem_cons_self 35 0 noS).alloc o).sto 0 rfl M; have HE7 := Lib.hid E7; clear hp E7) | (go_at_call 22; (with_reducible refine (node_any _ _ _ _ _).mono ?_); rintro e wn ⟨rfl, rfl⟩))
  exact ((((HE7.out.kids2 (List.mem_cons_of_mem _ List.mem_cons_self) List.mem_cons_self 35 0 noS).alloc _).store 0 rfl _).door hd2 List.mem_cons_self List.mem_cons_self rfl rfl)

set_option maxRecDepth 100000 in
set_option maxHeartbeats 4000000 in
theorem st_t {d : Nat} {L : Low} (hL : LowC (d + 1) L) (hd : d < 100) {g : Nat} {s : PS} {w : World} (h : At g d s w) (hX : Gx g w) (k0 : seesF ⟨#[123]⟩ s = false) (k1 : seesF ⟨#[102, 117, 110, 99, 116, 105, 111, 110]⟩ s = false) (k2 : seesF ⟨#[105, 102]⟩ s = false) (k3 : seesF ⟨#[119, 104, 105, 108, 101]⟩ s = false) (k4 : seesF ⟨#[116, 114, 121]⟩ s = true) :
    Calls Tryz.prog 44 #[.pointer (some ⟨g, 0, none⟩)] w (PostN g d w (tryF L s.take)) := by
  have E0 := (Env.start h hX).new zeroN
  have c0 := enter_t E0.at_ hd
  have hd2 : d ≤ 100 := by omega
  have HE0 := Lib.hid E0
  clear E0 h hX hd
  refine calls_of_wp_doors Tryz.func44 rfl ?_
  simp only [Tryz.ntmps44, List.size_toArray, List.length_cons, List.length_nil, Nat.reduceAdd, Nat.reduceSub, Array.replicate_succ, Array.replicate_zero, List.push_toArray, List.append_toArray, List.nil_append, List.cons_append]
  go_wp2_with (first | (go_at_call 82; (with_reducible refine c0.mono ?_); intro e w1 hp; obtain ⟨rfl, E1⟩ := HE0.out.call hp; have c1 := sees_f E1.at_ k0; have HE1 := Lib.hid E1; clear hp E1) | (go_at_call 84; (with_reducible refine c1.mono ?_); intro e w2 hp; obtain ⟨rfl, E2⟩ := HE1.out.callR hp; have c2 := takes_f E2.at_ k1; have HE2 := Lib.hid E2; clear hp E2) | (go_at_call 86; (with_reducible refine c2.mono ?_); intro e w3 hp; obtain ⟨rfl, E3⟩ := HE2.out.call hp; have c3 := takes_f E3.at_ k2; have HE3 := Lib.hid E3; clear hp E3) | (go_at_call 86; (with_reducible refine c3.mono ?_); intro e w4 hp; obtain ⟨rfl, E4⟩ := HE3.out.call hp; have c4 := takes_f E4.at_ k3; have HE4 := Lib.hid E4; clear hp E4) | (go_at_call 86; (with_reducible refine c4.mono ?_); intro e w5 hp; obtain ⟨rfl, E5⟩ := HE4.out.call hp; have c5 := takes_t E5.at_ k4; have HE5 := Lib.hid E5; clear hp E5) | (go_at_call 86; (with_reducible refine c5.mono ?_); intro e w6 hp; obtain ⟨rfl, E6⟩ := HE5.out.call hp; have cy := try_any hL E6.at_ E6.gx; have HE6 := Lib.hid E6; clear hp E6) | (go_at_call 91; (with_reducible refine cy.mono ?_); intro e w7 hp; obtain ⟨N7, rfl, E7⟩ := HE6.out.callN hp; have sN := E7.sto 0 rfl; have HE7 := Lib.hid E7; clear hp E7))
  exact ((HE7.out.store 0 rfl _).door hd2 List.mem_cons_self List.mem_cons_self rfl rfl)

set_option maxRecDepth 100000 in
set_option maxHeartbeats 4000000 in
theorem st_s {d : Nat} {L : Low} (hL : LowC (d + 1) L) (hd : d < 100) {g : Nat} {s : PS} {w : World} (h : At g d s w) (hX : Gx g w) (k0 : seesF ⟨#[123]⟩ s = false) (k1 : seesF ⟨#[102, 117, 110, 99, 116, 105, 111, 110]⟩ s = false) (k2 : seesF ⟨#[105, 102]⟩ s = false) (k3 : seesF ⟨#[119, 104, 105, 108, 101]⟩ s = false) (k4 : seesF ⟨#[116, 114, 121]⟩ s = false) :
    Calls Tryz.prog 44 #[.pointer (some ⟨g, 0, none⟩)] w (PostN g d w ((simpF L s).1, needsF ⟨#[59]⟩ (simpF L s).2)) := by
  have E0 := (Env.start h hX).new zeroN
  have c0 := enter_t E0.at_ hd
  have hd2 : d ≤ 100 := by omega
  have HE0 := Lib.hid E0
  clear E0 h hX hd
  refine calls_of_wp_doors Tryz.func44 rfl ?_
  simp only [Tryz.ntmps44, List.size_toArray, List.length_cons, List.length_nil, Nat.reduceAdd, Nat.reduceSub, Array.replicate_succ, Array.replicate_zero, List.push_toArray, List.append_toArray, List.nil_append, List.cons_append]
  go_wp2_with (first | (go_at_call 82; (with_reducible refine c0.mono ?_); intro e w1 hp; obtain ⟨rfl, E1⟩ := HE0.out.call hp; have c1 := sees_f E1.at_ k0; have HE1 := Lib.hid E1; clear hp E1) | (go_at_call 84; (with_reducible refine c1.mono ?_); intro e w2 hp; obtain ⟨rfl, E2⟩ := HE1.out.callR hp; have c2 := takes_f E2.at_ k1; have HE2 := Lib.hid E2; clear hp E2) | (go_at_call 86; (with_reducible refine c2.mono ?_); intro e w3 hp; obtain ⟨rfl, E3⟩ := HE2.out.call hp; have c3 := takes_f E3.at_ k2; have HE3 := Lib.hid E3; clear hp E3) | (go_at_call 86; (with_reducible refine c3.mono ?_); intro e w4 hp; obtain ⟨rfl, E4⟩ := HE3.out.call hp; have c4 := takes_f E4.at_ k3; have HE4 := Lib.hid E4; clear hp E4) | (go_at_call 86; (with_reducible refine c4.mono ?_); intro e w5 hp; obtain ⟨rfl, E5⟩ := HE4.out.call hp; have c5 := takes_f E5.at_ k4; have HE5 := Lib.hid E5; clear hp E5) | (go_at_call 86; (with_reducible refine c5.mono ?_); intro e w6 hp; obtain ⟨rfl, E6⟩ := HE5.out.call hp; have c6 := simp_any hL E6.at_ E6.gx; have HE6 := Lib.hid E6; clear hp E6) | (go_at_call 92; (with_reducible refine c6.mono ?_); intro e w7 hp; obtain ⟨N7, rfl, E7⟩ := HE6.out.callN hp; have E7 := E7.new N7; have c7 := needs_any E7.at_ ⟨#[59]⟩; have HE7 := Lib.hid E7; clear hp E7) | (go_at_call 93; (with_reducible refine c7.mono ?_); intro e w8 hp; obtain ⟨rfl, E8⟩ := HE7.out.call hp; have l8 := E8.ld 0 rfl; have s8 := E8.sto 1 rfl; have HE8 := Lib.hid E8; clear hp E8))
  exact ((HE8.out.store 1 rfl _).door hd2 (List.mem_cons_of_mem _ List.mem_cons_self) List.mem_cons_self rfl rfl)

theorem st_any {d : Nat} {L : Low} (hL : LowC (d + 1) L) (hd : d < 100) {g : Nat} {s : PS} {w : World} (h : At g d s w) (hX : Gx g w) : Calls Tryz.prog 44 #[.pointer (some ⟨g, 0, none⟩)] w (PostN g d w (stF L s)) := by
  unfold stF
  simp only
  cases k0 : seesF ⟨#[123]⟩ s with
  | true => rw [if_pos rfl]; exact st_b hL hd h hX k0
  | false =>
  rw [if_neg (by decide)]
  cases k1 : seesF ⟨#[102, 117, 110, 99, 116, 105, 111, 110]⟩ s with
  | true => rw [if_pos rfl]; exact st_f hL hd h hX k0 k1
  | false =>
  rw [if_neg (by decide)]
  cases k2 : seesF ⟨#[105, 102]⟩ s with
  | true => rw [if_pos rfl]; exact st_i hL hd h hX k0 k1 k2
  | false =>
  rw [if_neg (by decide)]
  cases k3 : seesF ⟨#[119, 104, 105, 108, 101]⟩ s with
  | true => rw [if_pos rfl]; exact st_w hL hd h hX k0 k1 k2 k3
  | false =>
  rw [if_neg (by decide)]
  cases k4 : seesF ⟨#[116, 114, 121]⟩ s with
  | true => rw [if_pos rfl]; exact st_t hL hd h hX k0 k1 k2 k3 k4
  | false =>
  rw [if_neg (by decide)]
  exact st_s hL hd h hX k0 k1 k2 k3 k4

theorem prefix_ascii : prefixT.size ≤ 1000 ∧ ∀ p, p < prefixT.size → B prefixT p < 128 := ⟨by decide, by decide⟩
theorem prefix_eq : prefixT = ⟨#[33, 32, 45, 32, 116, 121, 112, 101, 111, 102, 32, 100, 101, 108, 101, 116, 101]⟩ := rfl
set_option maxRecDepth 100000 in
set_option maxHeartbeats 4000000 in
theorem un_c {d : Nat} {L : Low} (hL : LowC (d + 1) L) (hd : d < 100) {g : Nat} {s : PS} {w : World} (h : At g d s w) (hX : Gx g w) (k0 : seesOneF prefixT s = false) :
    Calls Tryz.prog 230 #[.pointer (some ⟨g, 0, none⟩)] w (PostN g d w (chainF L s)) := by
  have E0 := (Env.start h hX).new zeroN
  have c0 := enter_t E0.at_ hd
  have hd2 : d ≤ 100 := by omega
  have HE0 := Lib.hid E0
  have hpa := prefix_ascii
  rw [prefix_eq] at k0 hpa
  clear E0 h hX hd
  refine calls_of_wp_doors Tryz.func230 rfl ?_
  simp only [Tryz.ntmps230, List.size_toArray, List.length_cons, List.length_nil, Nat.reduceAdd, Nat.reduceSub, Array.replicate_succ, Array.replicate_zero, List.push_toArray, List.append_toArray, List.nil_append, List.cons_append]
  go_wp2_with (first | (go_at_call 82; (with_reducible refine c0.mono ?_); intro e w1 hp; obtain ⟨rfl, E1⟩ := HE0.out.call hp; have c1 := seesOne_any E1.at_ ⟨#[33, 32, 45, 32, 116, 121, 112, 101, 111, 102, 32, 100, 101, 108, 101, 116, 101]⟩ hpa.1 hpa.2; rw [k0] at c1; have HE1 := Lib.hid E1; clear hp E1) | (go_at_call 231; (with_reducible refine c1.mono ?_); intro e w2 hp; obtain ⟨rfl, E2⟩ := HE1.out.callR hp; have c2 := chain_any hL E2.at_ E2.gx; have HE2 := Lib.hid E2; clear hp E2) | (go_at_call 245; (with_reducible refine c2.mono ?_); intro e w3 hp; obtain ⟨N3, rfl, E3⟩ := HE2.out.callN hp; have s3 := E3.sto 0 rfl; have HE3 := Lib.hid E3; clear hp E3))
  exact ((HE3.out.store 0 rfl _).door hd2 List.mem_cons_self List.mem_cons_self rfl rfl)

set_option maxRecDepth 100000 in
set_option maxHeartbeats 4000000 in
theorem un_n {d : Nat} {L : Low} (hL : LowC (d + 1) L) (hd : d < 100) {g : Nat} {s : PS} {w : World} (h : At g d s w) (hX : Gx g w) (k0 : seesOneF prefixT s = true) (kd : eqT s.next.text ⟨#[100, 101, 108, 101, 116, 101]⟩ = false) :
    Calls Tryz.prog 230 #[.pointer (some ⟨g, 0, none⟩)] w (PostN g d w (.mk 19 0 s.next.text [] [(L.un s.take).1], (L.un s.take).2)) := by
  have E0 := (Env.start h hX).new zeroN
  have c0 := enter_t E0.at_ hd
  have hd2 : d ≤ 100 := by omega
  have HE0 := Lib.hid E0
  have hpa := prefix_ascii
  have hk := one_kind k0
  rw [prefix_eq] at k0 hpa
  have q : (s.next.text.toList == [100, 101, 108, 101, 116, 101]) = false := by rw [ByteArray.toList_eq]; exact kd
  obtain ⟨X, hX2⟩ : ∃ X, L.un s.take = X := ⟨_, rfl⟩
  rw [hX2] 
  have HX2 := Lib.hid hX2
  have HK := Lib.hid hk
  clear E0 h hX hd hX2 hk kd
  refine calls_of_wp_doors Tryz.func230 rfl ?_
  simp only [Tryz.ntmps230, List.size_toArray, List.length_cons, List.length_nil, Nat.reduceAdd, Nat.reduceSub, Array.replicate_succ, Array.replicate_zero, List.push_toArray, List.append_toArray, List.nil_append, List.cons_append]
  go_wp2_with (first | (go_at_call 82; (with_reducible refine c0.mono ?_); intro e w1 hp; obtain ⟨rfl, E1⟩ := HE0.out.call hp; have c1 := seesOne_any E1.at_ ⟨#[33, 32, 45, 32, 116, 121, 112, 101, 111, 102, 32, 100, 101, 108, 101, 116, 101]⟩ hpa.1 hpa.2; rw [k0] at c1; have HE1 := Lib.hid E1; clear hp E1) | (go_at_call 231; (with_reducible refine c1.mono ?_); intro e w2 hp; obtain ⟨rfl, E2⟩ := HE1.out.callR hp; have c2 := take_any E2.at_ HK.out; have HE2 := Lib.hid E2; clear hp E2) | (go_at_call 139; (with_reducible refine c2.mono ?_); intro e w3 hp; obtain ⟨rfl, E3⟩ := HE2.out.call hp; have c3 := hL.un E3.at_ E3.gx; have HE3 := Lib.hid E3; clear hp E3) | (go_at_call 230; (with_reducible refine c3.mono ?_); intro e w4 hp; rw [HX2.out] at hp; obtain ⟨N4, rfl, E4⟩ := HE3.out.callN hp; have E4 := E4.new N4; have ez : (w4.alloc (.cells (ncs N4) 27)).heap.size = w4.heap.size + 1 := (by simp); have E7 := E4.kids1 List.mem_cons_self 19 0 s.next.text; have s7 := E7.sto 1 rfl; rw [ez] at E7; have HE7 := Lib.hid E7; clear E7; have HE4 := Lib.hid E4; clear hp E4))
  exact ((HE7.out.store 1 rfl _).door hd2 (List.mem_cons_of_mem _ List.mem_cons_self) List.mem_cons_self rfl rfl)

set_option maxRecDepth 100000 in
set_option maxHeartbeats 4000000 in
theorem un_m {d : Nat} {L : Low} (hL : LowC (d + 1) L) (hd : d < 100) {g : Nat} {s : PS} {w : World} (h : At g d s w) (hX : Gx g w) (k0 : seesOneF prefixT s = true) (kd : eqT s.next.text ⟨#[100, 101, 108, 101, 116, 101]⟩ = true) (hm : memberB (L.un s.take).1 = true) :
    Calls Tryz.prog 230 #[.pointer (some ⟨g, 0, none⟩)] w (PostN g d w (.mk 19 0 s.next.text [] [(L.un s.take).1], (L.un s.take).2)) := by
  have E0 := (Env.start h hX).new zeroN
  have c0 := enter_t E0.at_ hd
  have hd2 : d ≤ 100 := by omega
  have HE0 := Lib.hid E0
  have hpa := prefix_ascii
  have hk := one_kind k0
  rw [prefix_eq] at k0 hpa
  have q : (s.next.text.toList == [100, 101, 108, 101, 116, 101]) = true := by rw [ByteArray.toList_eq]; exact kd
  obtain ⟨X, hX2⟩ : ∃ X, L.un s.take = X := ⟨_, rfl⟩
  rw [hX2] at hm ⊢
  have HX2 := Lib.hid hX2
  have HK := Lib.hid hk
  have em : (X.1.kind == 15 || X.1.kind == 16) = true := hm
  clear E0 h hX hd hX2 hk kd hm
  refine calls_of_wp_doors Tryz.func230 rfl ?_
  simp only [Tryz.ntmps230, List.size_toArray, List.length_cons, List.length_nil, Nat.reduceAdd, Nat.reduceSub, Array.replicate_succ, Array.replicate_zero, List.push_toArray, List.append_toArray, List.nil_append, List.cons_append]
  go_wp2_with (first | (go_at_call 82; (with_reducible refine c0.mono ?_); intro e w1 hp; obtain ⟨rfl, E1⟩ := HE0.out.call hp; have c1 := seesOne_any E1.at_ ⟨#[33, 32, 45, 32, 116, 121, 112, 101, 111, 102, 32, 100, 101, 108, 101, 116, 101]⟩ hpa.1 hpa.2; rw [k0] at c1; have HE1 := Lib.hid E1; clear hp E1) | (go_at_call 231; (with_reducible refine c1.mono ?_); intro e w2 hp; obtain ⟨rfl, E2⟩ := HE1.out.callR hp; have c2 := take_any E2.at_ HK.out; have HE2 := Lib.hid E2; clear hp E2) | (go_at_call 139; (with_reducible refine c2.mono ?_); intro e w3 hp; obtain ⟨rfl, E3⟩ := HE2.out.call hp; have c3 := hL.un E3.at_ E3.gx; have HE3 := Lib.hid E3; clear hp E3) | (go_at_call 230; (with_reducible refine c3.mono ?_); intro e w4 hp; rw [HX2.out] at hp; obtain ⟨N4, rfl, E4⟩ := HE3.out.callN hp; have E4 := E4.new N4; have hkd := (E4.rp _ List.mem_cons_self).kind; have c4 := fun w => isMember_any N4 w; rw [hkd, em] at c4; have HE4 := Lib.hid E4; clear hp E4) | (go_at_call 192; (with_reducible refine (c4 _).mono ?_); intro e w5 hp; obtain ⟨rfl, hb⟩ := hp; have E5 := HE4.out.callB hb; have l6 := E5.ld 0 rfl; have E7 := E5.kids1 List.mem_cons_self 19 0 s.next.text; have s7 := E7.sto 1 rfl; have HE7 := Lib.hid E7; clear E7; have HE5 := Lib.hid E5; clear hb E5))
  exact ((HE7.out.store 1 rfl _).door hd2 (List.mem_cons_of_mem _ List.mem_cons_self) List.mem_cons_self rfl rfl)

set_option maxRecDepth 100000 in
set_option maxHeartbeats 4000000 in
theorem un_w {d : Nat} {L : Low} (hL : LowC (d + 1) L) (hd : d < 100) {g : Nat} {s : PS} {w : World} (h : At g d s w) (hX : Gx g w) (k0 : seesOneF prefixT s = true) (kd : eqT s.next.text ⟨#[100, 101, 108, 101, 116, 101]⟩ = true) (hm : memberB (L.un s.take).1 = false) :
    Calls Tryz.prog 230 #[.pointer (some ⟨g, 0, none⟩)] w (PostN g d w (.mk 19 0 s.next.text [] [(L.un s.take).1], (L.un s.take).2.fail 2)) := by
  have E0 := (Env.start h hX).new zeroN
  have c0 := enter_t E0.at_ hd
  have hd2 : d ≤ 100 := by omega
  have HE0 := Lib.hid E0
  have hpa := prefix_ascii
  have hk := one_kind k0
  rw [prefix_eq] at k0 hpa
  have q : (s.next.text.toList == [100, 101, 108, 101, 116, 101]) = true := by rw [ByteArray.toList_eq]; exact kd
  obtain ⟨X, hX2⟩ : ∃ X, L.un s.take = X := ⟨_, rfl⟩
  rw [hX2] at hm ⊢
  have HX2 := Lib.hid hX2
  have HK := Lib.hid hk
  have em : (X.1.kind == 15 || X.1.kind == 16) = false := hm
  clear E0 h hX hd hX2 hk kd hm
  refine calls_of_wp_doors Tryz.func230 rfl ?_
  simp only [Tryz.ntmps230, List.size_toArray, List.length_cons, List.length_nil, Nat.reduceAdd, Nat.reduceSub, Array.replicate_succ, Array.replicate_zero, List.push_toArray, List.append_toArray, List.nil_append, List.cons_append]
  go_wp2_with (first | (go_at_call 82; (with_reducible refine c0.mono ?_); intro e w1 hp; obtain ⟨rfl, E1⟩ := HE0.out.call hp; have c1 := seesOne_any E1.at_ ⟨#[33, 32, 45, 32, 116, 121, 112, 101, 111, 102, 32, 100, 101, 108, 101, 116, 101]⟩ hpa.1 hpa.2; rw [k0] at c1; have HE1 := Lib.hid E1; clear hp E1) | (go_at_call 231; (with_reducible refine c1.mono ?_); intro e w2 hp; obtain ⟨rfl, E2⟩ := HE1.out.callR hp; have c2 := take_any E2.at_ HK.out; have HE2 := Lib.hid E2; clear hp E2) | (go_at_call 139; (with_reducible refine c2.mono ?_); intro e w3 hp; obtain ⟨rfl, E3⟩ := HE2.out.call hp; have c3 := hL.un E3.at_ E3.gx; have HE3 := Lib.hid E3; clear hp E3) | (go_at_call 230; (with_reducible refine c3.mono ?_); intro e w4 hp; rw [HX2.out] at hp; obtain ⟨N4, rfl, E4⟩ := HE3.out.callN hp; have E4 := E4.new N4; have hkd := (E4.rp _ List.mem_cons_self).kind; have c4 := fun w => isMember_any N4 w; rw [hkd, em] at c4; have HE4 := Lib.hid E4; clear hp E4) | (go_at_call 192; (with_reducible refine (c4 _).mono ?_); intro e w5 hp; obtain ⟨rfl, hb⟩ := hp; have E5 := HE4.out.callB hb; have c5 := fail_any E5.at_ (e := 2) (by decide); have HE5 := Lib.hid E5; clear hb E5) | (go_at_call 136; (with_reducible refine c5.mono ?_); intro e w6 hp; obtain ⟨rfl, E6⟩ := HE5.out.call hp; have l6 := E6.ld 0 rfl; have E7 := E6.kids1 List.mem_cons_self 19 0 s.next.text; have s7 := E7.sto 1 rfl; have HE7 := Lib.hid E7; clear E7; have HE6 := Lib.hid E6; clear hp E6))
  exact ((HE7.out.store 1 rfl _).door hd2 (List.mem_cons_of_mem _ List.mem_cons_self) List.mem_cons_self rfl rfl)

theorem un_any {d : Nat} {L : Low} (hL : LowC (d + 1) L) (hd : d < 100) {g : Nat} {s : PS} {w : World} (h : At g d s w) (hX : Gx g w) : Calls Tryz.prog 230 #[.pointer (some ⟨g, 0, none⟩)] w (PostN g d w (unF L s)) := by
  unfold unF
  simp only
  cases k0 : seesOneF prefixT s with
  | false => rw [if_neg (by decide)]; exact un_c hL hd h hX k0
  | true =>
    rw [if_pos rfl]
    cases kd : eqT s.next.text ⟨#[100, 101, 108, 101, 116, 101]⟩ with
    | false => rw [Bool.false_and, if_neg (by decide)]; exact un_n hL hd h hX k0 kd
    | true =>
      cases hm : memberB (L.un s.take).1 with
      | true => exact un_m hL hd h hX k0 kd hm
      | false => exact un_w hL hd h hX k0 kd hm

theorem mkC {d : Nat} {a b c : PS → Tree × PS} (h1 : ∀ {g : Nat} {s : PS} {w : World}, At g d s w → Gx g w → Calls Tryz.prog 141 #[.pointer (some ⟨g, 0, none⟩)] w (PostN g d w (a s))) (h2 : ∀ {g : Nat} {s : PS} {w : World}, At g d s w → Gx g w → Calls Tryz.prog 44 #[.pointer (some ⟨g, 0, none⟩)] w (PostN g d w (b s))) (h3 : ∀ {g : Nat} {s : PS} {w : World}, At g d s w → Gx g w → Calls Tryz.prog 230 #[.pointer (some ⟨g, 0, none⟩)] w (PostN g d w (c s))) (had : LowA ⟨a, b, c⟩) : LowC d ⟨a, b, c⟩ := ⟨h1, h2, h3, had⟩
/-- All three, at every depth. -/
theorem low_step {d : Nat} {L : Low} (ih : LowC (d + 1) L) (hd : d < 100) (had : LowA ⟨exF L, stF L, unF L⟩) : LowC d ⟨exF L, stF L, unF L⟩ := by
  have h1 := fun (g : Nat) (s : PS) (w : World) (h : At g d s w) (hX : Gx g w) => ex_any ih hd h hX
  have h2 := fun (g : Nat) (s : PS) (w : World) (h : At g d s w) (hX : Gx g w) => st_any ih hd h hX
  have h3 := fun (g : Nat) (s : PS) (w : World) (h : At g d s w) (hX : Gx g w) => un_any ih hd h hX
  clear ih
  generalize exF L = a at *
  generalize stF L = b at *
  generalize unF L = c at *
  exact mkC (fun h hX => h1 _ _ _ h hX) (fun h hX => h2 _ _ _ h hX) (fun h hX => h3 _ _ _ h hX) had
theorem low_base : LowC 100 (lowF 0) := by
  have had := low_adv 0
  rw [lowF_zero] at had ⊢
  have h1 := fun (g : Nat) (s : PS) (w : World) (h : At g 100 s w) (hX : Gx g w) => ex_stop h hX
  have h2 := fun (g : Nat) (s : PS) (w : World) (h : At g 100 s w) (hX : Gx g w) => st_stop h hX
  have h3 := fun (g : Nat) (s : PS) (w : World) (h : At g 100 s w) (hX : Gx g w) => un_stop h hX
  exact mkC (fun h hX => h1 _ _ _ h hX) (fun h hX => h2 _ _ _ h hX) (fun h hX => h3 _ _ _ h hX) had
theorem low_ok (r : Nat) (hr : r ≤ 100) : LowC (100 - r) (lowF r) := by
  induction r with
  | zero => exact low_base
  | succ r ih =>
    have ih := ih (by omega)
    have had := low_adv (r + 1)
    rw [show 100 - r = (100 - (r + 1)) + 1 from by omega] at ih
    rw [lowF_succ] at had ⊢
    exact low_step ih (by omega) had
end Go.Proofs.YtkknglmpdmhhjaaGreatDoor.Pa

/-
  Plain mathematics: what lex.Tokens gives may be parsed; what Parse gives.
-/
namespace Go.Proofs.YtkknglmpdmhhjaaGreatDoor.Pa
open Go Go.RowKit Go.Proofs.YtkknglmpdmhhjaaGreatDoor.Lx Go.Proofs.YtkknglmpdmhhjaaGreatDoor.Uni Go.Proofs.YtkknglmpdmhhjaaGreatDoor.Nums
set_option linter.unusedVariables false
set_option linter.unusedSimpArgs false

def Fit (n : Int) : Prop := -9223372036854775808 ≤ n ∧ n ≤ 9223372036854775807
theorem fit0 : Fit 0 := by unfold Fit; omega
theorem quot_num (q : Nat) (l0 : By) : ∀ f v l t r, quotF q l0 f v l = .ok t r → t.num = 0
  | 0, v, l, t, r, h => by cases h
  | f + 1, v, l, t, r, h => by
    unfold quotF at h
    split at h
    · cases h
    · split at h
      · cases h
      · split at h
        · split at h
          · cases h
          · exact quot_num q l0 f _ _ _ _ h
        · split at h
          · cases h
          · cases h; rfl
theorem one_num {x : By} {t : Tk} {r : By} (h : oneF x = .ok t r) : Fit t.num := by
  cases x with
  | nil => simp only [oneF, Got.ok.injEq] at h; rw [← h.1]; exact fit0
  | cons c r0 =>
    unfold oneF at h
    simp only at h
    split at h
    · unfold Lx.nameF at h
      split at h
      · cases h
      · cases h; exact fit0
    · split at h
      · unfold numbF at h
        split at h
        · cases h
        · rename_i n hn
          split at h
          · cases h
            have := (readF_some hn).1
            unfold sf at this
            simp at this
            show Fit n
            unfold Fit
            omega
          · cases h
      · split at h
        · rw [quot_num _ _ _ _ _ _ _ h]; exact fit0
        · unfold signT at h
          split at h
          · cases h
          · cases h; exact fit0
theorem next_num {l : By} {t : Tk} {r : By} (h : nextF l = .ok t r) : Fit t.num := by
  unfold nextF at h
  split at h
  · cases h
  · exact one_num h
theorem lex_facts : ∀ (f : Nat) (l : By) (ts : List (Tk × Nat)), lexF f l = .ok ts → (∃ init last, ts = init ++ [last] ∧ last.1.kind = 0) ∧ ts.length ≤ l.length + 1 ∧ ∀ p ∈ ts, Fit p.1.num
  | 0, l, ts, h => by cases h
  | f + 1, l, ts, h => by
    rw [lex_succ] at h
    cases hn : nextF l with
    | bad r => rw [hn] at h; cases h
    | ok t r =>
      rw [hn] at h
      simp only at h
      have hnum := next_num hn
      split at h
      · rename_i hk
        cases h
        exact ⟨⟨[], (t, _), rfl, hk⟩, by simp, fun p hp => by rw [List.mem_singleton.1 hp]; exact hnum⟩
      · rename_i hk
        cases hr : lexF f r with
        | error n => rw [hr] at h; cases h
        | ok us =>
          rw [hr] at h
          cases h
          obtain ⟨⟨init, last, rfl, h2⟩, h3, h4⟩ := lex_facts f r us hr
          have hlt : r.length < l.length := by
            rcases next_prog hn with ⟨h0, _⟩ | ⟨_, h1⟩
            · exact absurd h0 hk
            · exact h1
          refine ⟨⟨(t, _) :: init, last, rfl, h2⟩, by simp at h3 ⊢; omega, fun p hp => ?_⟩
          rcases List.mem_cons.1 hp with rfl | hp
          · exact hnum
          · exact h4 p hp
theorem okL_snoc {t : Tok} (h : t.kind = 0 ∨ t.kind = -1) : ∀ l : List Tok, okL (l ++ [t])
  | [] => h
  | [a] => h
  | a :: b :: r => okL_snoc h (b :: r)
theorem lexT_ok {s : ByteArray} (h : (lexT s).1 = 0) : OkS ⟨(lexT s).2.2, 0, 0⟩ := by
  unfold lexT at h ⊢
  split at h
  · cases h
  · rename_i hl
    rw [if_neg hl]
    split at h
    · cases h
    · rename_i hb
      cases hx : lexF (s.size + 1) s.data.toList with
      | error n => rw [hx] at h; cases h
      | ok ts =>
        obtain ⟨⟨init, last, rfl, h2⟩, h3, h4⟩ := lex_facts _ _ _ hx
        simp only
        refine ⟨?_, fun h => absurd rfl h, fun t ht => ?_, ?_⟩
        · simp only [List.map_append, List.map_cons, List.map_nil]
          exact okL_snoc (.inl (by unfold tokOf; simp [h2])) _
        · simp only [List.mem_map] at ht
          obtain ⟨p, hp, rfl⟩ := ht
          exact h4 p hp
        · rw [lsz] at h3
          simp only [List.length_map]
          omega
/-- What Parse gives: the tree, the place, the error. -/
def parseF (s : ByteArray) : Tree × Int × Int :=
  if (lexT s).1 = 0 then treeF (lexT s).2.2 else (zeroT, ((lexT s).2.1 : Nat), ((lexT s).1 : Nat))
end Go.Proofs.YtkknglmpdmhhjaaGreatDoor.Pa
