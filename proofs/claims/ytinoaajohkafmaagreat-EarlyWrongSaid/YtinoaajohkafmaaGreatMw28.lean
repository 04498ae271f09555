/-
  The reference's parser: assign, entered.
-/
import Derived.Test.YtinoaajohkafmaaGreatMw21
namespace Go.Proofs.YtinoaajohkafmaaGreat.Rp
open Go Go.RowKit Go.Proofs.YtinoaajohkafmaaGreat.Uni Go.Proofs.YtinoaajohkafmaaGreat.Pa
open Go.Proofs.YtinoaajohkafmaaGreat.Lx
set_option linter.unusedVariables false
set_option linter.unusedSimpArgs false
attribute [local go_sem ↓] ldK stK alK bdK bsK ldN stN alN bdN bsN
attribute [local irreducible] kcs ncs ncells
attribute [local go_sem] run_alK run_bdK0 run_bdKs run_bdKn run_bdKe run_bsK run_fdK0 run_fdK1 run_fdK2 run_fdK3 run_fdN4 run_alN run_stNg run_ldNg run_bdN0 run_bdN04 run_bdN02 run_bdN01 run_bdN024 run_bdN03 run_bdN0234 run_bsN1 run_bsN2 run_bsN3
def LevC (d : Nat) (L : Low) : Prop := ∀ {g : Nat} {s : PS} {w : World}, At g d s w → Calls Tryz.prog 104 #[.pointer (some ⟨g, 0, none⟩), .int .i64 0] w (PostN g d w (binF L 6 s))
theorem tgt_kind {S : Nat → Prop} {w : World} {T : Tree} {N : Nd} (h : Rep S w T N) : N.kind = T.kind := by
  cases T
  unfold Rep at h
  exact h.1
theorem tgt_iff (k : Int) (t : Tree) (hk : t.kind = k) : (k == 8 || k == 15 || k == 16) = !(decide (t.kind ≠ 8 ∧ memberB t = false)) := by
  unfold memberB
  rw [hk]
  by_cases h1 : k = 8
  · simp [h1]
  · by_cases h2 : k = 15 <;> by_cases h3 : k = 16 <;> simp [h1, h2, h3]
set_option maxRecDepth 100000 in
set_option maxHeartbeats 4000000 in
theorem ex_p_bad {d : Nat} {L : Low} (hL : LowC (d + 1) L) (hV : LevC (d + 1) L) (hd : d < 100) {g : Nat} {s : PS} {w : World} (h : At g d s w) (hf : s.fault = 0) {X : Tree × PS} (hX : binF L 6 s = X) (hk1 : seesF ⟨#[63]⟩ X.2 = false) (hf2 : X.2.fault ≠ 0) :
    Calls Tryz.prog 81 #[.pointer (some ⟨g, 0, none⟩)] w (PostN g d w (X.1, X.2)) := by
  have E0 := (Env.start h).new zeroN
  have c1 := enter_t E0.at_ hf hd
  have HE0 := Lib.hid E0
  have HX := Lib.hid hX
  have HK1 := Lib.hid hk1
  have hq2 : (X.2.fault == 0) = false := by simpa using hf2
  have HF2 := Lib.hid hf2
  clear E0 h hf hX hk1 hf2
  go_enter Tryz.func81, Tryz.ntmps81
  go_wp2_with (first | (go_at_call 61; (with_reducible refine c1.mono ?_); intro e w1 hp; obtain ⟨rfl, E1⟩ := HE0.out.call hp; have c2 := hV E1.at_; rw [HX.out] at c2; have HE1 := Lib.hid E1; clear hp E1) | (go_at_call 104; (with_reducible refine c2.mono ?_); intro e w2 hp; obtain ⟨N2, rfl, E2⟩ := HE1.out.callN hp; have E2 := E2.new N2; have c3 := take_f E2.at_ HK1.out; have HE2 := Lib.hid E2; clear hp E2) | (go_at_call 79; (with_reducible refine c3.mono ?_); intro e w3 hp; obtain ⟨rfl, E3⟩ := HE2.out.call hp; have x3 := E3.e3; obtain ⟨D, M, dc, df, dw, EZ⟩ := E3.deep hd; have lz := EZ.ld 0 rfl; have sz := EZ.sto 1 rfl; have HEZ := Lib.hid EZ; clear EZ; have HE3 := Lib.hid E3; clear hp E3))
  exact ((HEZ.out.store 1 rfl _).fin (List.mem_cons_of_mem _ List.mem_cons_self) List.mem_cons_self rfl rfl)
set_option maxRecDepth 100000 in
set_option maxHeartbeats 4000000 in
theorem ex_p_no {d : Nat} {L : Low} (hL : LowC (d + 1) L) (hV : LevC (d + 1) L) (hd : d < 100) {g : Nat} {s : PS} {w : World} (h : At g d s w) (hf : s.fault = 0) {X : Tree × PS} (hX : binF L 6 s = X) (hk1 : seesF ⟨#[63]⟩ X.2 = false) (hf2 : X.2.fault = 0) (hk2 : seesF ⟨#[61]⟩ X.2 = false) :
    Calls Tryz.prog 81 #[.pointer (some ⟨g, 0, none⟩)] w (PostN g d w (X.1, X.2)) := by
  have E0 := (Env.start h).new zeroN
  have c1 := enter_t E0.at_ hf hd
  have HE0 := Lib.hid E0
  have HX := Lib.hid hX
  have HK1 := Lib.hid hk1
  have HK2 := Lib.hid hk2
  have HF2 := Lib.hid hf2
  clear E0 h hf hX hk1 hf2 hk2
  go_enter Tryz.func81, Tryz.ntmps81
  go_wp2_with (first | (go_at_call 61; (with_reducible refine c1.mono ?_); intro e w1 hp; obtain ⟨rfl, E1⟩ := HE0.out.call hp; have c2 := hV E1.at_; rw [HX.out] at c2; have HE1 := Lib.hid E1; clear hp E1) | (go_at_call 104; (with_reducible refine c2.mono ?_); intro e w2 hp; obtain ⟨N2, rfl, E2⟩ := HE1.out.callN hp; have E2 := E2.new N2; have c3 := take_f E2.at_ HK1.out; have HE2 := Lib.hid E2; clear hp E2) | (go_at_call 79; (with_reducible refine c3.mono ?_); intro e w3 hp; obtain ⟨rfl, E3⟩ := HE2.out.call hp; have x3 := E3.e30 HF2.out; have cis := is_any E3.at_ HF2.out ⟨#[61]⟩; rw [HK2.out] at cis; have HE3 := Lib.hid E3; clear hp E3) | (go_at_call 37; (with_reducible refine cis.mono ?_); intro e w4 hp; obtain ⟨rfl, E4⟩ := HE3.out.callR hp; obtain ⟨D, M, dc, df, dw, EZ⟩ := E4.deep hd; have lz := EZ.ld 0 rfl; have sz := EZ.sto 1 rfl; have HEZ := Lib.hid EZ; clear EZ; have HE4 := Lib.hid E4; clear hp E4))
  exact ((HEZ.out.store 1 rfl _).fin (List.mem_cons_of_mem _ List.mem_cons_self) List.mem_cons_self rfl rfl)
set_option maxRecDepth 100000 in
set_option maxHeartbeats 4000000 in
theorem ex_p_yes {d : Nat} {L : Low} (hL : LowC (d + 1) L) (hV : LevC (d + 1) L) (hd : d < 100) {g : Nat} {s : PS} {w : World} (h : At g d s w) (hf : s.fault = 0) {X : Tree × PS} (hX : binF L 6 s = X) (hk1 : seesF ⟨#[63]⟩ X.2 = false) (hf2 : X.2.fault = 0) (hk2 : seesF ⟨#[61]⟩ X.2 = true) (hm : ¬ ((X.1).kind ≠ 8 ∧ memberB (X.1) = false)) {U : Tree × PS} (hU : L.ex X.2.take = U) :
    Calls Tryz.prog 81 #[.pointer (some ⟨g, 0, none⟩)] w (PostN g d w (node 24 [X.1, U.1], U.2)) := by
  have E0 := (Env.start h).new zeroN
  have c1 := enter_t E0.at_ hf hd
  have HE0 := Lib.hid E0
  have HX := Lib.hid hX
  have HK1 := Lib.hid hk1
  have HT := Lib.hid (fun k hk => (tgt_iff k (X.1) hk).trans (by rw [decide_eq_false hm]))
  have HK2 := Lib.hid hk2
  have HU := Lib.hid hU
  have HF2 := Lib.hid hf2
  clear E0 h hf hX hk1 hf2 hk2 hm hU
  go_enter Tryz.func81, Tryz.ntmps81
  go_wp2_with (first | (go_at_call 61; (with_reducible refine c1.mono ?_); intro e w1 hp; obtain ⟨rfl, E1⟩ := HE0.out.call hp; have c2 := hV E1.at_; rw [HX.out] at c2; have HE1 := Lib.hid E1; clear hp E1) | (go_at_call 104; (with_reducible refine c2.mono ?_); intro e w2 hp; obtain ⟨N2, rfl, E2⟩ := HE1.out.callN hp; have E2 := E2.new N2; have c3 := take_f E2.at_ HK1.out; have HE2 := Lib.hid E2; clear hp E2) | (go_at_call 79; (with_reducible refine c3.mono ?_); intro e w3 hp; obtain ⟨rfl, E3⟩ := HE2.out.call hp; have x3 := E3.e30 HF2.out; have cis := is_any E3.at_ HF2.out ⟨#[61]⟩; rw [HK2.out] at cis; have HE3 := Lib.hid E3; clear hp E3) | (go_at_call 37; (with_reducible refine cis.mono ?_); intro e w4 hp; obtain ⟨rfl, E4⟩ := HE3.out.callR hp; have lt := E4.ld 0 rfl; have ct := target_any (N2) w4; rw [HT.out (N2).kind (tgt_kind (E4.rp _ List.mem_cons_self)).symm] at ct; have HE4 := Lib.hid E4; clear hp E4) | (go_at_call 100; (with_reducible refine ct.mono ?_); intro e w5 hp; obtain ⟨rfl, E5⟩ := HE4.out.callR hp; have ctk := take_t E5.at_ HK2.out; have HE5 := Lib.hid E5; clear hp E5) | (go_at_call 79; (with_reducible refine ctk.mono ?_); intro e w6 hp; obtain ⟨rfl, E6⟩ := HE5.out.call hp; have E6 := E6.drew1; have ly := E6.ld 0 rfl; have cu := hL.ex E6.at_; rw [HU.out] at cu; have HE6 := Lib.hid E6; clear hp E6))
  go_region_with (first | (go_at_call 81; (with_reducible refine cu.mono ?_); intro e wu hp; obtain ⟨NU, rfl, EU⟩ := HE6.out.callN hp; have lu := EU.ld 0 rfl; have c2u := two_any (N := N2) (N' := NU) (EU.rp _ (List.mem_cons_of_mem _ List.mem_cons_self)) (EU.rp _ List.mem_cons_self) 24 ⟨#[]⟩; have HEU := Lib.hid EU; clear hp EU) | (go_at_call 105; (with_reducible refine c2u.mono ?_); intro e wv hp; obtain ⟨NV, rfl, EV⟩ := HEU.out.callO hp (fun b h => h); have sv := EV.sto 0 rfl; have EV2 := (EV.store 0 rfl NV).only List.mem_cons_self; obtain ⟨D, M, dc, df, dw, EZ⟩ := EV2.deep hd; have lz := EZ.ld 0 rfl; have sz := EZ.sto 1 rfl; have HEZ := Lib.hid EZ; clear hp EV EV2 EZ))
  all_goals go_wp2
  all_goals exact ((HEZ.out.store 1 rfl _).fin (List.mem_cons_of_mem _ List.mem_cons_self) List.mem_cons_self rfl rfl)
set_option maxRecDepth 100000 in
set_option maxHeartbeats 4000000 in
theorem ex_p_not {d : Nat} {L : Low} (hL : LowC (d + 1) L) (hV : LevC (d + 1) L) (hd : d < 100) {g : Nat} {s : PS} {w : World} (h : At g d s w) (hf : s.fault = 0) {X : Tree × PS} (hX : binF L 6 s = X) (hk1 : seesF ⟨#[63]⟩ X.2 = false) (hf2 : X.2.fault = 0) (hk2 : seesF ⟨#[61]⟩ X.2 = true) (hm : (X.1).kind ≠ 8 ∧ memberB (X.1) = false) :
    Calls Tryz.prog 81 #[.pointer (some ⟨g, 0, none⟩)] w (PostN g d w (X.1, X.2.fail 2)) := by
  have E0 := (Env.start h).new zeroN
  have c1 := enter_t E0.at_ hf hd
  have HE0 := Lib.hid E0
  have HX := Lib.hid hX
  have HK1 := Lib.hid hk1
  have HT := Lib.hid (fun k hk => (tgt_iff k (X.1) hk).trans (by rw [decide_eq_true hm]))
  have HK2 := Lib.hid hk2
  have HF2 := Lib.hid hf2
  clear E0 h hf hX hk1 hf2 hk2 hm
  go_enter Tryz.func81, Tryz.ntmps81
  go_wp2_with (first | (go_at_call 61; (with_reducible refine c1.mono ?_); intro e w1 hp; obtain ⟨rfl, E1⟩ := HE0.out.call hp; have c2 := hV E1.at_; rw [HX.out] at c2; have HE1 := Lib.hid E1; clear hp E1) | (go_at_call 104; (with_reducible refine c2.mono ?_); intro e w2 hp; obtain ⟨N2, rfl, E2⟩ := HE1.out.callN hp; have E2 := E2.new N2; have c3 := take_f E2.at_ HK1.out; have HE2 := Lib.hid E2; clear hp E2) | (go_at_call 79; (with_reducible refine c3.mono ?_); intro e w3 hp; obtain ⟨rfl, E3⟩ := HE2.out.call hp; have x3 := E3.e30 HF2.out; have cis := is_any E3.at_ HF2.out ⟨#[61]⟩; rw [HK2.out] at cis; have HE3 := Lib.hid E3; clear hp E3) | (go_at_call 37; (with_reducible refine cis.mono ?_); intro e w4 hp; obtain ⟨rfl, E4⟩ := HE3.out.callR hp; have lt := E4.ld 0 rfl; have ct := target_any (N2) w4; rw [HT.out (N2).kind (tgt_kind (E4.rp _ List.mem_cons_self)).symm] at ct; have HE4 := Lib.hid E4; clear hp E4) | (go_at_call 100; (with_reducible refine ct.mono ?_); intro e w5 hp; obtain ⟨rfl, E5⟩ := HE4.out.callR hp; have cf := fail_any E5.at_ (e := 2) (by decide); have HE5 := Lib.hid E5; clear hp E5) | (go_at_call 78; (with_reducible refine cf.mono ?_); intro e w6 hp; obtain ⟨rfl, E6⟩ := HE5.out.call hp; obtain ⟨D, M, dc, df, dw, EZ⟩ := E6.deep hd; have lz := EZ.ld 0 rfl; have sz := EZ.sto 1 rfl; have HEZ := Lib.hid EZ; clear EZ; have HE6 := Lib.hid E6; clear hp E6))
  exact ((HEZ.out.store 1 rfl _).fin (List.mem_cons_of_mem _ List.mem_cons_self) List.mem_cons_self rfl rfl)
set_option maxRecDepth 100000 in
set_option maxHeartbeats 4000000 in
theorem ex_q_bad {d : Nat} {L : Low} (hL : LowC (d + 1) L) (hV : LevC (d + 1) L) (hd : d < 100) {g : Nat} {s : PS} {w : World} (h : At g d s w) (hf : s.fault = 0) {X : Tree × PS} (hX : binF L 6 s = X) (hk1 : seesF ⟨#[63]⟩ X.2 = true) {Y Z : Tree × PS} (hY : L.ex X.2.take = Y) (hZ : L.ex (needsF ⟨#[58]⟩ Y.2) = Z) (hf2 : Z.2.fault ≠ 0) :
    Calls Tryz.prog 81 #[.pointer (some ⟨g, 0, none⟩)] w (PostN g d w (node 23 [X.1, Y.1, Z.1], Z.2)) := by
  have E0 := (Env.start h).new zeroN
  have c1 := enter_t E0.at_ hf hd
  have HE0 := Lib.hid E0
  have HX := Lib.hid hX
  have HK1 := Lib.hid hk1
  have HY := Lib.hid hY
  have HZ := Lib.hid hZ
  have hq2 : (Z.2.fault == 0) = false := by simpa using hf2
  have HF2 := Lib.hid hf2
  clear E0 h hf hX hk1 hf2 hY hZ
  go_enter Tryz.func81, Tryz.ntmps81
  go_wp2_with (first | (go_at_call 61; (with_reducible refine c1.mono ?_); intro e w1 hp; obtain ⟨rfl, E1⟩ := HE0.out.call hp; have c2 := hV E1.at_; rw [HX.out] at c2; have HE1 := Lib.hid E1; clear hp E1) | (go_at_call 104; (with_reducible refine c2.mono ?_); intro e w2 hp; obtain ⟨N2, rfl, E2⟩ := HE1.out.callN hp; have E2 := E2.new N2; have c3 := take_t E2.at_ HK1.out; have HE2 := Lib.hid E2; clear hp E2) | (go_at_call 79; (with_reducible refine c3.mono ?_); intro e w3 hp; obtain ⟨rfl, E3⟩ := HE2.out.call hp; have c4 := hL.ex E3.at_; rw [HY.out] at c4; have HE3 := Lib.hid E3; clear hp E3) | (go_at_call 81; (with_reducible refine c4.mono ?_); intro e w4 hp; obtain ⟨N4, rfl, E4⟩ := HE3.out.callN hp; have E4 := E4.new N4; have c5 := want_any E4.at_ ⟨#[58]⟩; have HE4 := Lib.hid E4; clear hp E4) | (go_at_call 82; (with_reducible refine c5.mono ?_); intro e w5 hp; obtain ⟨rfl, E5⟩ := HE4.out.call hp; have E5 := E5.drew1; have l50 := E5.ld 0 rfl; have l51 := E5.ld 1 rfl; have c6 := hL.ex E5.at_; rw [HZ.out] at c6; have HE5 := Lib.hid E5; clear hp E5))
  go_region_with (go_at_call 81; (with_reducible refine c6.mono ?_); intro e w6 hp; obtain ⟨N6, rfl, E6⟩ := HE5.out.callN hp; have l60 := E6.ld 0 rfl; have l61 := E6.ld 1 rfl; have E7 := E6.kids3 (k := 23) (n := 0) (t := noS) (List.mem_cons_of_mem _ (List.mem_cons_of_mem _ List.mem_cons_self)) (List.mem_cons_of_mem _ List.mem_cons_self) List.mem_cons_self; have s7 := E7.sto 1 rfl; have E6 := (E7.store 1 rfl (kidN 23 (newSl w6.heap.size 3))).only List.mem_cons_self; have x3 := E6.e3; obtain ⟨D, M, dc, df, dw, EZ⟩ := E6.deep hd; have lz := EZ.ld 1 rfl; have sz := EZ.sto 2 rfl; have HEZ := Lib.hid EZ; clear EZ; have HE6 := Lib.hid E6; clear hp E7 E6)
  all_goals go_wp2
  all_goals exact ((HEZ.out.store 2 rfl _).fin (List.mem_cons_of_mem _ (List.mem_cons_of_mem _ List.mem_cons_self)) List.mem_cons_self rfl rfl)
set_option maxRecDepth 100000 in
set_option maxHeartbeats 4000000 in
theorem ex_q_no {d : Nat} {L : Low} (hL : LowC (d + 1) L) (hV : LevC (d + 1) L) (hd : d < 100) {g : Nat} {s : PS} {w : World} (h : At g d s w) (hf : s.fault = 0) {X : Tree × PS} (hX : binF L 6 s = X) (hk1 : seesF ⟨#[63]⟩ X.2 = true) {Y Z : Tree × PS} (hY : L.ex X.2.take = Y) (hZ : L.ex (needsF ⟨#[58]⟩ Y.2) = Z) (hf2 : Z.2.fault = 0) (hk2 : seesF ⟨#[61]⟩ Z.2 = false) :
    Calls Tryz.prog 81 #[.pointer (some ⟨g, 0, none⟩)] w (PostN g d w (node 23 [X.1, Y.1, Z.1], Z.2)) := by
  have E0 := (Env.start h).new zeroN
  have c1 := enter_t E0.at_ hf hd
  have HE0 := Lib.hid E0
  have HX := Lib.hid hX
  have HK1 := Lib.hid hk1
  have HY := Lib.hid hY
  have HZ := Lib.hid hZ
  have HK2 := Lib.hid hk2
  have HF2 := Lib.hid hf2
  clear E0 h hf hX hk1 hf2 hY hZ hk2
  go_enter Tryz.func81, Tryz.ntmps81
  go_wp2_with (first | (go_at_call 61; (with_reducible refine c1.mono ?_); intro e w1 hp; obtain ⟨rfl, E1⟩ := HE0.out.call hp; have c2 := hV E1.at_; rw [HX.out] at c2; have HE1 := Lib.hid E1; clear hp E1) | (go_at_call 104; (with_reducible refine c2.mono ?_); intro e w2 hp; obtain ⟨N2, rfl, E2⟩ := HE1.out.callN hp; have E2 := E2.new N2; have c3 := take_t E2.at_ HK1.out; have HE2 := Lib.hid E2; clear hp E2) | (go_at_call 79; (with_reducible refine c3.mono ?_); intro e w3 hp; obtain ⟨rfl, E3⟩ := HE2.out.call hp; have c4 := hL.ex E3.at_; rw [HY.out] at c4; have HE3 := Lib.hid E3; clear hp E3) | (go_at_call 81; (with_reducible refine c4.mono ?_); intro e w4 hp; obtain ⟨N4, rfl, E4⟩ := HE3.out.callN hp; have E4 := E4.new N4; have c5 := want_any E4.at_ ⟨#[58]⟩; have HE4 := Lib.hid E4; clear hp E4) | (go_at_call 82; (with_reducible refine c5.mono ?_); intro e w5 hp; obtain ⟨rfl, E5⟩ := HE4.out.call hp; have E5 := E5.drew1; have l50 := E5.ld 0 rfl; have l51 := E5.ld 1 rfl; have c6 := hL.ex E5.at_; rw [HZ.out] at c6; have HE5 := Lib.hid E5; clear hp E5))
  go_region_with (go_at_call 81; (with_reducible refine c6.mono ?_); intro e w6 hp; obtain ⟨N6, rfl, E6⟩ := HE5.out.callN hp; have l60 := E6.ld 0 rfl; have l61 := E6.ld 1 rfl; have E7 := E6.kids3 (k := 23) (n := 0) (t := noS) (List.mem_cons_of_mem _ (List.mem_cons_of_mem _ List.mem_cons_self)) (List.mem_cons_of_mem _ List.mem_cons_self) List.mem_cons_self; have s7 := E7.sto 1 rfl; have E6 := (E7.store 1 rfl (kidN 23 (newSl w6.heap.size 3))).only List.mem_cons_self; have x3 := E6.e30 HF2.out; have cis := is_any E6.at_ HF2.out ⟨#[61]⟩; rw [HK2.out] at cis; have HE6 := Lib.hid E6; clear hp E7 E6)
  all_goals go_wp2_with (go_at_call 37; (with_reducible refine cis.mono ?_); intro e w7 hp; obtain ⟨rfl, E7⟩ := HE6.out.callR hp; obtain ⟨D, M, dc, df, dw, EZ⟩ := E7.deep hd; have lz := EZ.ld 1 rfl; have sz := EZ.sto 2 rfl; have HEZ := Lib.hid EZ; clear EZ; have HE7 := Lib.hid E7; clear hp E7)
  all_goals exact ((HEZ.out.store 2 rfl _).fin (List.mem_cons_of_mem _ (List.mem_cons_of_mem _ List.mem_cons_self)) List.mem_cons_self rfl rfl)
set_option maxRecDepth 100000 in
set_option maxHeartbeats 4000000 in
theorem ex_q_yes {d : Nat} {L : Low} (hL : LowC (d + 1) L) (hV : LevC (d + 1) L) (hd : d < 100) {g : Nat} {s : PS} {w : World} (h : At g d s w) (hf : s.fault = 0) {X : Tree × PS} (hX : binF L 6 s = X) (hk1 : seesF ⟨#[63]⟩ X.2 = true) {Y Z : Tree × PS} (hY : L.ex X.2.take = Y) (hZ : L.ex (needsF ⟨#[58]⟩ Y.2) = Z) (hf2 : Z.2.fault = 0) (hk2 : seesF ⟨#[61]⟩ Z.2 = true) (hm : ¬ ((node 23 [X.1, Y.1, Z.1]).kind ≠ 8 ∧ memberB (node 23 [X.1, Y.1, Z.1]) = false)) {U : Tree × PS} (hU : L.ex Z.2.take = U) :
    Calls Tryz.prog 81 #[.pointer (some ⟨g, 0, none⟩)] w (PostN g d w (node 24 [node 23 [X.1, Y.1, Z.1], U.1], U.2)) := by
  have E0 := (Env.start h).new zeroN
  have c1 := enter_t E0.at_ hf hd
  have HE0 := Lib.hid E0
  have HX := Lib.hid hX
  have HK1 := Lib.hid hk1
  have HY := Lib.hid hY
  have HZ := Lib.hid hZ
  have HT := Lib.hid (fun k hk => (tgt_iff k (node 23 [X.1, Y.1, Z.1]) hk).trans (by rw [decide_eq_false hm]))
  have HK2 := Lib.hid hk2
  have HU := Lib.hid hU
  have HF2 := Lib.hid hf2
  clear E0 h hf hX hk1 hf2 hY hZ hk2 hm hU
  go_enter Tryz.func81, Tryz.ntmps81
  go_wp2_with (first | (go_at_call 61; (with_reducible refine c1.mono ?_); intro e w1 hp; obtain ⟨rfl, E1⟩ := HE0.out.call hp; have c2 := hV E1.at_; rw [HX.out] at c2; have HE1 := Lib.hid E1; clear hp E1) | (go_at_call 104; (with_reducible refine c2.mono ?_); intro e w2 hp; obtain ⟨N2, rfl, E2⟩ := HE1.out.callN hp; have E2 := E2.new N2; have c3 := take_t E2.at_ HK1.out; have HE2 := Lib.hid E2; clear hp E2) | (go_at_call 79; (with_reducible refine c3.mono ?_); intro e w3 hp; obtain ⟨rfl, E3⟩ := HE2.out.call hp; have c4 := hL.ex E3.at_; rw [HY.out] at c4; have HE3 := Lib.hid E3; clear hp E3) | (go_at_call 81; (with_reducible refine c4.mono ?_); intro e w4 hp; obtain ⟨N4, rfl, E4⟩ := HE3.out.callN hp; have E4 := E4.new N4; have c5 := want_any E4.at_ ⟨#[58]⟩; have HE4 := Lib.hid E4; clear hp E4) | (go_at_call 82; (with_reducible refine c5.mono ?_); intro e w5 hp; obtain ⟨rfl, E5⟩ := HE4.out.call hp; have E5 := E5.drew1; have l50 := E5.ld 0 rfl; have l51 := E5.ld 1 rfl; have c6 := hL.ex E5.at_; rw [HZ.out] at c6; have HE5 := Lib.hid E5; clear hp E5))
  go_region_with (go_at_call 81; (with_reducible refine c6.mono ?_); intro e w6 hp; obtain ⟨N6, rfl, E6⟩ := HE5.out.callN hp; have l60 := E6.ld 0 rfl; have l61 := E6.ld 1 rfl; have E7 := E6.kids3 (k := 23) (n := 0) (t := noS) (List.mem_cons_of_mem _ (List.mem_cons_of_mem _ List.mem_cons_self)) (List.mem_cons_of_mem _ List.mem_cons_self) List.mem_cons_self; have s7 := E7.sto 1 rfl; have E6 := (E7.store 1 rfl (kidN 23 (newSl w6.heap.size 3))).only List.mem_cons_self; have x3 := E6.e30 HF2.out; have cis := is_any E6.at_ HF2.out ⟨#[61]⟩; rw [HK2.out] at cis; have HE6 := Lib.hid E6; clear hp E7 E6)
  all_goals go_wp2_with (first | (go_at_call 37; (with_reducible refine cis.mono ?_); intro e w7 hp; obtain ⟨rfl, E7⟩ := HE6.out.callR hp; have lt := E7.ld 1 rfl; have ct := target_any ((kidN 23 (newSl w6.heap.size 3))) w7; rw [HT.out ((kidN 23 (newSl w6.heap.size 3))).kind (tgt_kind (E7.rp _ List.mem_cons_self)).symm] at ct; have HE7 := Lib.hid E7; clear hp E7) | (go_at_call 100; (with_reducible refine ct.mono ?_); intro e w8 hp; obtain ⟨rfl, E8⟩ := HE7.out.callR hp; have ctk := take_t E8.at_ HK2.out; have HE8 := Lib.hid E8; clear hp E8) | (go_at_call 79; (with_reducible refine ctk.mono ?_); intro e w9 hp; obtain ⟨rfl, E9⟩ := HE8.out.call hp; have E9 := E9.drew1; have ly := E9.ld 1 rfl; have cu := hL.ex E9.at_; rw [HU.out] at cu; have HE9 := Lib.hid E9; clear hp E9))
  all_goals go_region_with (first | (go_at_call 81; (with_reducible refine cu.mono ?_); intro e wu hp; obtain ⟨NU, rfl, EU⟩ := HE9.out.callN hp; have lu := EU.ld 1 rfl; have c2u := two_any (N := (kidN 23 (newSl w6.heap.size 3))) (N' := NU) (EU.rp _ (List.mem_cons_of_mem _ List.mem_cons_self)) (EU.rp _ List.mem_cons_self) 24 ⟨#[]⟩; have HEU := Lib.hid EU; clear hp EU) | (go_at_call 105; (with_reducible refine c2u.mono ?_); intro e wv hp; obtain ⟨NV, rfl, EV⟩ := HEU.out.callO hp (fun b h => h); have sv := EV.sto 1 rfl; have EV2 := (EV.store 1 rfl NV).only List.mem_cons_self; obtain ⟨D, M, dc, df, dw, EZ⟩ := EV2.deep hd; have lz := EZ.ld 1 rfl; have sz := EZ.sto 2 rfl; have HEZ := Lib.hid EZ; clear hp EV EV2 EZ))
  all_goals go_wp2
  all_goals exact ((HEZ.out.store 2 rfl _).fin (List.mem_cons_of_mem _ (List.mem_cons_of_mem _ List.mem_cons_self)) List.mem_cons_self rfl rfl)
set_option maxRecDepth 100000 in
set_option maxHeartbeats 4000000 in
theorem ex_q_not {d : Nat} {L : Low} (hL : LowC (d + 1) L) (hV : LevC (d + 1) L) (hd : d < 100) {g : Nat} {s : PS} {w : World} (h : At g d s w) (hf : s.fault = 0) {X : Tree × PS} (hX : binF L 6 s = X) (hk1 : seesF ⟨#[63]⟩ X.2 = true) {Y Z : Tree × PS} (hY : L.ex X.2.take = Y) (hZ : L.ex (needsF ⟨#[58]⟩ Y.2) = Z) (hf2 : Z.2.fault = 0) (hk2 : seesF ⟨#[61]⟩ Z.2 = true) (hm : (node 23 [X.1, Y.1, Z.1]).kind ≠ 8 ∧ memberB (node 23 [X.1, Y.1, Z.1]) = false) :
    Calls Tryz.prog 81 #[.pointer (some ⟨g, 0, none⟩)] w (PostN g d w (node 23 [X.1, Y.1, Z.1], Z.2.fail 2)) := by
  have E0 := (Env.start h).new zeroN
  have c1 := enter_t E0.at_ hf hd
  have HE0 := Lib.hid E0
  have HX := Lib.hid hX
  have HK1 := Lib.hid hk1
  have HY := Lib.hid hY
  have HZ := Lib.hid hZ
  have HT := Lib.hid (fun k hk => (tgt_iff k (node 23 [X.1, Y.1, Z.1]) hk).trans (by rw [decide_eq_true hm]))
  have HK2 := Lib.hid hk2
  have HF2 := Lib.hid hf2
  clear E0 h hf hX hk1 hf2 hY hZ hk2 hm
  go_enter Tryz.func81, Tryz.ntmps81
  go_wp2_with (first | (go_at_call 61; (with_reducible refine c1.mono ?_); intro e w1 hp; obtain ⟨rfl, E1⟩ := HE0.out.call hp; have c2 := hV E1.at_; rw [HX.out] at c2; have HE1 := Lib.hid E1; clear hp E1) | (go_at_call 104; (with_reducible refine c2.mono ?_); intro e w2 hp; obtain ⟨N2, rfl, E2⟩ := HE1.out.callN hp; have E2 := E2.new N2; have c3 := take_t E2.at_ HK1.out; have HE2 := Lib.hid E2; clear hp E2) | (go_at_call 79; (with_reducible refine c3.mono ?_); intro e w3 hp; obtain ⟨rfl, E3⟩ := HE2.out.call hp; have c4 := hL.ex E3.at_; rw [HY.out] at c4; have HE3 := Lib.hid E3; clear hp E3) | (go_at_call 81; (with_reducible refine c4.mono ?_); intro e w4 hp; obtain ⟨N4, rfl, E4⟩ := HE3.out.callN hp; have E4 := E4.new N4; have c5 := want_any E4.at_ ⟨#[58]⟩; have HE4 := Lib.hid E4; clear hp E4) | (go_at_call 82; (with_reducible refine c5.mono ?_); intro e w5 hp; obtain ⟨rfl, E5⟩ := HE4.out.call hp; have E5 := E5.drew1; have l50 := E5.ld 0 rfl; have l51 := E5.ld 1 rfl; have c6 := hL.ex E5.at_; rw [HZ.out] at c6; have HE5 := Lib.hid E5; clear hp E5))
  go_region_with (go_at_call 81; (with_reducible refine c6.mono ?_); intro e w6 hp; obtain ⟨N6, rfl, E6⟩ := HE5.out.callN hp; have l60 := E6.ld 0 rfl; have l61 := E6.ld 1 rfl; have E7 := E6.kids3 (k := 23) (n := 0) (t := noS) (List.mem_cons_of_mem _ (List.mem_cons_of_mem _ List.mem_cons_self)) (List.mem_cons_of_mem _ List.mem_cons_self) List.mem_cons_self; have s7 := E7.sto 1 rfl; have E6 := (E7.store 1 rfl (kidN 23 (newSl w6.heap.size 3))).only List.mem_cons_self; have x3 := E6.e30 HF2.out; have cis := is_any E6.at_ HF2.out ⟨#[61]⟩; rw [HK2.out] at cis; have HE6 := Lib.hid E6; clear hp E7 E6)
  all_goals go_wp2_with (first | (go_at_call 37; (with_reducible refine cis.mono ?_); intro e w7 hp; obtain ⟨rfl, E7⟩ := HE6.out.callR hp; have lt := E7.ld 1 rfl; have ct := target_any ((kidN 23 (newSl w6.heap.size 3))) w7; rw [HT.out ((kidN 23 (newSl w6.heap.size 3))).kind (tgt_kind (E7.rp _ List.mem_cons_self)).symm] at ct; have HE7 := Lib.hid E7; clear hp E7) | (go_at_call 100; (with_reducible refine ct.mono ?_); intro e w8 hp; obtain ⟨rfl, E8⟩ := HE7.out.callR hp; have cf := fail_any E8.at_ (e := 2) (by decide); have HE8 := Lib.hid E8; clear hp E8) | (go_at_call 78; (with_reducible refine cf.mono ?_); intro e w9 hp; obtain ⟨rfl, E9⟩ := HE8.out.call hp; obtain ⟨D, M, dc, df, dw, EZ⟩ := E9.deep hd; have lz := EZ.ld 1 rfl; have sz := EZ.sto 2 rfl; have HEZ := Lib.hid EZ; clear EZ; have HE9 := Lib.hid E9; clear hp E9))
  all_goals exact ((HEZ.out.store 2 rfl _).fin (List.mem_cons_of_mem _ (List.mem_cons_of_mem _ List.mem_cons_self)) List.mem_cons_self rfl rfl)
end Go.Proofs.YtinoaajohkafmaaGreat.Rp
