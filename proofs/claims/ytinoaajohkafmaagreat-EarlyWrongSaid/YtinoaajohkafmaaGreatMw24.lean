/-
  Texts of this seat in build order: RpPrim, RpPrF.
-/
import Derived.Test.YtinoaajohkafmaaGreatMw22
import Derived.Test.YtinoaajohkafmaaGreatMw23
/-
  The reference's parser: what an expression begins with.
-/
namespace Go.Proofs.YtinoaajohkafmaaGreat.Rp
open Go Go.RowKit Go.Proofs.YtinoaajohkafmaaGreat.Uni Go.Proofs.YtinoaajohkafmaaGreat.Pa
open Go.Proofs.YtinoaajohkafmaaGreat.Lx
set_option linter.unusedVariables false
set_option linter.unusedSimpArgs false
attribute [local go_sem ↓] ldK stK alK bdK bsK ldN stN alN bdN bsN
attribute [local irreducible] kcs ncs ncells
attribute [local go_sem] run_alK run_bdK0 run_bdKs run_bdKn run_bdKe run_bsK run_fdK0 run_fdK1 run_fdK2 run_fdK3 run_fdN4 run_alN run_stNg run_ldNg run_bdN0 run_bdN04 run_bdN02 run_bdN01 run_bdN024 run_bdN03 run_bdN0234 run_bsN1 run_bsN2 run_bsN3
theorem bad_next {s : PS} (h : OkS s) (hf : s.fault ≠ 0) : s.next = stopK := by unfold PS.next; rw [h.st hf]; rfl
theorem prim_dead {L : Low} {s : PS} (h : OkS s) (hf : s.fault ≠ 0) : rprimF L s = (zeroT, s) := by
  have hn := bad_next h hf
  have hs : ∀ x, seesF x s = false := fun x => by unfold seesF; rw [hn]; rfl
  unfold rprimF litF
  rw [hn, if_neg (by decide), if_neg (by decide), if_neg (by decide)]
  simp only [hs]
  unfold PS.fail
  rw [if_neg hf]
  simp
theorem sees_mark {x : ByteArray} {s : PS} (h : seesF x s = true) : s.next.kind ≠ 3 ∧ s.next.kind ≠ 4 ∧ s.next.kind ≠ 1 := by
  unfold seesF markF at h
  simp only [Bool.and_eq_true, Bool.or_eq_true, beq_iff_eq] at h
  omega
attribute [local go_sem] run_stKg run_bdNk
set_option maxRecDepth 100000 in
set_option maxHeartbeats 4000000 in
theorem prim_bad {d : Nat} {L : Low} (hL : LowC d L) {g : Nat} {s : PS} {w : World} (h : At g d s w) (hf : s.fault ≠ 0) :
    Calls Tryz.prog 132 #[.pointer (some ⟨g, 0, none⟩)] w (PostN g d w (rprimF L s)) := by
  rw [prim_dead h.ok hf]
  have E0 := ((Env.start h).leaf 0 0 noS).new zeroN
  obtain ⟨b, o, c, n, k, D, T, ho⟩ := E0.at_.opn
  have c3 := ho.c3
  have hq : (s.fault != 0) = true := by simpa using hf
  have s0 := E0.sto 0 rfl
  have HE0 := Lib.hid E0
  clear E0 h hf ho
  go_enter Tryz.func132, Tryz.ntmps132
  go_wp2
  exact ((HE0.out.store 0 rfl _).fin List.mem_cons_self List.mem_cons_self rfl rfl)
set_option maxRecDepth 100000 in
set_option maxHeartbeats 4000000 in
theorem prim_num {d : Nat} {L : Low} (hL : LowC d L) {g : Nat} {s : PS} {w : World} (h : At g d s w) (hf : s.fault = 0) (hk : s.next.kind = 3) :
    Calls Tryz.prog 132 #[.pointer (some ⟨g, 0, none⟩)] w (PostN g d w (.mk 1 s.next.num noS [] [], s.take)) := by
  have hk2 : ¬ (s.next.kind = 0 ∨ s.next.kind = -1) := by rw [hk]; decide
  have e3 : (s.next.kind == 3) = true := by rw [hk]; rfl
  have E0 := (Env.start h).new zeroN
  have x3 := E0.e30 hf
  have cn := now_any E0.at_ hf
  have HE0 := Lib.hid E0
  have HF := Lib.hid hf
  have hgl := h.lt
  clear E0 h hf hk
  go_enter Tryz.func132, Tryz.ntmps132
  go_wp2_with (go_at_call 36; (with_reducible refine cn.mono ?_); intro e w1 hp; obtain ⟨rfl, E1⟩ := HE0.out.callR hp; have t0 := ((Blk.new w1 (kcs s.next) 73).cell 0).trans (kcs_0 s.next); have t2 := ((Blk.new w1 (kcs s.next) 73).cell 2).trans (kcs_2 s.next); have t3 := ((Blk.new w1 (kcs s.next) 73).cell 3).trans (kcs_3 s.next); have st := run_stKg w1 w1.heap.size s.next zeroK rfl; have E2 := E1.alloc (.cells (kcs s.next) 73); obtain ⟨k, k5, x1, xf, E3⟩ := E2.adv hk2; have hsz := E2.size; have z2 : ((w1.alloc (.cells (kcs s.next) 73)).setCell ⟨g, 1, none⟩ (.int .i64 ((k : Int) + 1))).cell? ⟨w1.heap.size, 2, none⟩ = some (.int .i64 s.next.num) := (by rw [World.cell?_setCell_other _ _ _ _ (by simp)]; exact t2); have E4 := E3.leaf 1 s.next.num noS; have s4 := E4.sto 0 rfl; have HE4 := Lib.hid E4; clear E3 E4; clear hp E1 E2)
  exact ((HE4.out.store 0 rfl _).fin List.mem_cons_self List.mem_cons_self rfl rfl)
set_option maxRecDepth 100000 in
set_option maxHeartbeats 4000000 in
theorem prim_str {d : Nat} {L : Low} (hL : LowC d L) {g : Nat} {s : PS} {w : World} (h : At g d s w) (hf : s.fault = 0) (hk : s.next.kind = 4) :
    Calls Tryz.prog 132 #[.pointer (some ⟨g, 0, none⟩)] w (PostN g d w (.mk 2 0 s.next.text [] [], s.take)) := by
  have hk2 : ¬ (s.next.kind = 0 ∨ s.next.kind = -1) := by rw [hk]; decide
  have e3 : (s.next.kind == 3) = false := by rw [hk]; rfl
  have e4 : (s.next.kind == 4) = true := by rw [hk]; rfl
  have E0 := (Env.start h).new zeroN
  have x3 := E0.e30 hf
  have cn := now_any E0.at_ hf
  have HE0 := Lib.hid E0
  have HF := Lib.hid hf
  have hgl := h.lt
  clear E0 h hf hk
  go_enter Tryz.func132, Tryz.ntmps132
  go_wp2_with (go_at_call 36; (with_reducible refine cn.mono ?_); intro e w1 hp; obtain ⟨rfl, E1⟩ := HE0.out.callR hp; have t0 := ((Blk.new w1 (kcs s.next) 73).cell 0).trans (kcs_0 s.next); have t2 := ((Blk.new w1 (kcs s.next) 73).cell 2).trans (kcs_2 s.next); have t3 := ((Blk.new w1 (kcs s.next) 73).cell 3).trans (kcs_3 s.next); have st := run_stKg w1 w1.heap.size s.next zeroK rfl; have E2 := E1.alloc (.cells (kcs s.next) 73); obtain ⟨k, k5, x1, xf, E3⟩ := E2.adv hk2; have hsz := E2.size; have z3 : ((w1.alloc (.cells (kcs s.next) 73)).setCell ⟨g, 1, none⟩ (.int .i64 ((k : Int) + 1))).cell? ⟨w1.heap.size, 3, none⟩ = some (.string s.next.text) := (by rw [World.cell?_setCell_other _ _ _ _ (by simp)]; exact t3); have E4 := E3.leaf 2 0 s.next.text; have s4 := E4.sto 0 rfl; have HE4 := Lib.hid E4; clear E3 E4; clear hp E1 E2)
  exact ((HE4.out.store 0 rfl _).fin List.mem_cons_self List.mem_cons_self rfl rfl)
set_option maxRecDepth 100000 in
set_option maxHeartbeats 4000000 in
theorem prim_name {d : Nat} {L : Low} (hL : LowC d L) {g : Nat} {s : PS} {w : World} (h : At g d s w) (hf : s.fault = 0) (hk : s.next.kind = 1) :
    Calls Tryz.prog 132 #[.pointer (some ⟨g, 0, none⟩)] w (PostN g d w (.mk 8 0 s.next.text [] [], s.take)) := by
  have hk2 : ¬ (s.next.kind = 0 ∨ s.next.kind = -1) := by rw [hk]; decide
  have e3 : (s.next.kind == 3) = false := by rw [hk]; rfl
  have e4 : (s.next.kind == 4) = false := by rw [hk]; rfl
  have e1 : (s.next.kind == 1) = true := by rw [hk]; rfl
  have E0 := (Env.start h).new zeroN
  have x3 := E0.e30 hf
  have cn := now_any E0.at_ hf
  have HE0 := Lib.hid E0
  have HF := Lib.hid hf
  have hgl := h.lt
  clear E0 h hf hk
  go_enter Tryz.func132, Tryz.ntmps132
  go_wp2_with (go_at_call 36; (with_reducible refine cn.mono ?_); intro e w1 hp; obtain ⟨rfl, E1⟩ := HE0.out.callR hp; have t0 := ((Blk.new w1 (kcs s.next) 73).cell 0).trans (kcs_0 s.next); have t2 := ((Blk.new w1 (kcs s.next) 73).cell 2).trans (kcs_2 s.next); have t3 := ((Blk.new w1 (kcs s.next) 73).cell 3).trans (kcs_3 s.next); have st := run_stKg w1 w1.heap.size s.next zeroK rfl; have E2 := E1.alloc (.cells (kcs s.next) 73); obtain ⟨k, k5, x1, xf, E3⟩ := E2.adv hk2; have hsz := E2.size; have z3 : ((w1.alloc (.cells (kcs s.next) 73)).setCell ⟨g, 1, none⟩ (.int .i64 ((k : Int) + 1))).cell? ⟨w1.heap.size, 3, none⟩ = some (.string s.next.text) := (by rw [World.cell?_setCell_other _ _ _ _ (by simp)]; exact t3); have E4 := E3.leaf 8 0 s.next.text; have s4 := E4.sto 0 rfl; have HE4 := Lib.hid E4; clear E3 E4; clear hp E1 E2)
  exact ((HE4.out.store 0 rfl _).fin List.mem_cons_self List.mem_cons_self rfl rfl)
set_option maxRecDepth 100000 in
set_option maxHeartbeats 4000000 in
theorem prim_true {d : Nat} {L : Low} (hL : LowC d L) {g : Nat} {s : PS} {w : World} (h : At g d s w) (hf : s.fault = 0) (hk : seesF ⟨#[116, 114, 117, 101]⟩ s = true) :
    Calls Tryz.prog 132 #[.pointer (some ⟨g, 0, none⟩)] w (PostN g d w (node 3 [], s.take)) := by
  have m0 := hk
  obtain ⟨q3, q4, q1⟩ := sees_mark hk
  have e3 : (s.next.kind == 3) = false := by simpa using q3
  have e4 : (s.next.kind == 4) = false := by simpa using q4
  have e1 : (s.next.kind == 1) = false := by simpa using q1
  have E0 := (Env.start h).new zeroN
  have x3 := E0.e30 hf
  have cn := now_any E0.at_ hf
  have HE0 := Lib.hid E0
  have HF := Lib.hid hf
  have HM0 := Lib.hid m0
  clear E0 h hf q3 q4 q1 m0 hk
  go_enter Tryz.func132, Tryz.ntmps132
  go_wp2_with (first | (go_at_call 36; (with_reducible refine cn.mono ?_); intro e w1 hp; obtain ⟨rfl, E1⟩ := HE0.out.callR hp; have t0 := ((Blk.new w1 (kcs s.next) 73).cell 0).trans (kcs_0 s.next); have t2 := ((Blk.new w1 (kcs s.next) 73).cell 2).trans (kcs_2 s.next); have t3 := ((Blk.new w1 (kcs s.next) 73).cell 3).trans (kcs_3 s.next); have st := run_stKg w1 w1.heap.size s.next zeroK rfl; have E2 := E1.alloc (.cells (kcs s.next) 73); have c3 := take_t E2.at_ HM0.out; have HE2 := Lib.hid E2; clear hp E1 E2) | (go_at_call 79; (with_reducible refine c3.mono ?_); intro e w3 hp; obtain ⟨rfl, E3⟩ := HE2.out.call hp; have E3 := E3.leaf 3 0 noS; have s3 := E3.sto 0 rfl; have HE3 := Lib.hid E3; clear hp E3))
  exact ((HE3.out.store 0 rfl _).fin List.mem_cons_self List.mem_cons_self rfl rfl)
set_option maxRecDepth 100000 in
set_option maxHeartbeats 4000000 in
theorem prim_false {d : Nat} {L : Low} (hL : LowC d L) {g : Nat} {s : PS} {w : World} (h : At g d s w) (hf : s.fault = 0) (hk : seesF ⟨#[102, 97, 108, 115, 101]⟩ s = true) :
    Calls Tryz.prog 132 #[.pointer (some ⟨g, 0, none⟩)] w (PostN g d w (node 4 [], s.take)) := by
  have m0 := sees_one (y := ⟨#[116, 114, 117, 101]⟩) hk (by decide)
  have m1 := hk
  obtain ⟨q3, q4, q1⟩ := sees_mark hk
  have e3 : (s.next.kind == 3) = false := by simpa using q3
  have e4 : (s.next.kind == 4) = false := by simpa using q4
  have e1 : (s.next.kind == 1) = false := by simpa using q1
  have E0 := (Env.start h).new zeroN
  have x3 := E0.e30 hf
  have cn := now_any E0.at_ hf
  have HE0 := Lib.hid E0
  have HF := Lib.hid hf
  have HM0 := Lib.hid m0
  have HM1 := Lib.hid m1
  clear E0 h hf q3 q4 q1 m0 m1 hk
  go_enter Tryz.func132, Tryz.ntmps132
  go_wp2_with (first | (go_at_call 36; (with_reducible refine cn.mono ?_); intro e w1 hp; obtain ⟨rfl, E1⟩ := HE0.out.callR hp; have t0 := ((Blk.new w1 (kcs s.next) 73).cell 0).trans (kcs_0 s.next); have t2 := ((Blk.new w1 (kcs s.next) 73).cell 2).trans (kcs_2 s.next); have t3 := ((Blk.new w1 (kcs s.next) 73).cell 3).trans (kcs_3 s.next); have st := run_stKg w1 w1.heap.size s.next zeroK rfl; have E2 := E1.alloc (.cells (kcs s.next) 73); have c3 := take_f E2.at_ HM0.out; have HE2 := Lib.hid E2; clear hp E1 E2) | (go_at_call 79; (with_reducible refine c3.mono ?_); intro e w3 hp; obtain ⟨rfl, E3⟩ := HE2.out.call hp; have c4 := take_t E3.at_ HM1.out; have HE3 := Lib.hid E3; clear hp E3) | (go_at_call 79; (with_reducible refine c4.mono ?_); intro e w4 hp; obtain ⟨rfl, E4⟩ := HE3.out.call hp; have E4 := E4.leaf 4 0 noS; have s4 := E4.sto 0 rfl; have HE4 := Lib.hid E4; clear hp E4))
  exact ((HE4.out.store 0 rfl _).fin List.mem_cons_self List.mem_cons_self rfl rfl)
set_option maxRecDepth 100000 in
set_option maxHeartbeats 4000000 in
theorem prim_null {d : Nat} {L : Low} (hL : LowC d L) {g : Nat} {s : PS} {w : World} (h : At g d s w) (hf : s.fault = 0) (hk : seesF ⟨#[110, 117, 108, 108]⟩ s = true) :
    Calls Tryz.prog 132 #[.pointer (some ⟨g, 0, none⟩)] w (PostN g d w (node 5 [], s.take)) := by
  have m0 := sees_one (y := ⟨#[116, 114, 117, 101]⟩) hk (by decide)
  have m1 := sees_one (y := ⟨#[102, 97, 108, 115, 101]⟩) hk (by decide)
  have m2 := hk
  obtain ⟨q3, q4, q1⟩ := sees_mark hk
  have e3 : (s.next.kind == 3) = false := by simpa using q3
  have e4 : (s.next.kind == 4) = false := by simpa using q4
  have e1 : (s.next.kind == 1) = false := by simpa using q1
  have E0 := (Env.start h).new zeroN
  have x3 := E0.e30 hf
  have cn := now_any E0.at_ hf
  have HE0 := Lib.hid E0
  have HF := Lib.hid hf
  have HM0 := Lib.hid m0
  have HM1 := Lib.hid m1
  have HM2 := Lib.hid m2
  clear E0 h hf q3 q4 q1 m0 m1 m2 hk
  go_enter Tryz.func132, Tryz.ntmps132
  go_wp2_with (first | (go_at_call 36; (with_reducible refine cn.mono ?_); intro e w1 hp; obtain ⟨rfl, E1⟩ := HE0.out.callR hp; have t0 := ((Blk.new w1 (kcs s.next) 73).cell 0).trans (kcs_0 s.next); have t2 := ((Blk.new w1 (kcs s.next) 73).cell 2).trans (kcs_2 s.next); have t3 := ((Blk.new w1 (kcs s.next) 73).cell 3).trans (kcs_3 s.next); have st := run_stKg w1 w1.heap.size s.next zeroK rfl; have E2 := E1.alloc (.cells (kcs s.next) 73); have c3 := take_f E2.at_ HM0.out; have HE2 := Lib.hid E2; clear hp E1 E2) | (go_at_call 79; (with_reducible refine c3.mono ?_); intro e w3 hp; obtain ⟨rfl, E3⟩ := HE2.out.call hp; have c4 := take_f E3.at_ HM1.out; have HE3 := Lib.hid E3; clear hp E3) | (go_at_call 79; (with_reducible refine c4.mono ?_); intro e w4 hp; obtain ⟨rfl, E4⟩ := HE3.out.call hp; have c5 := take_t E4.at_ HM2.out; have HE4 := Lib.hid E4; clear hp E4) | (go_at_call 79; (with_reducible refine c5.mono ?_); intro e w5 hp; obtain ⟨rfl, E5⟩ := HE4.out.call hp; have E5 := E5.leaf 5 0 noS; have s5 := E5.sto 0 rfl; have HE5 := Lib.hid E5; clear hp E5))
  exact ((HE5.out.store 0 rfl _).fin List.mem_cons_self List.mem_cons_self rfl rfl)
set_option maxRecDepth 100000 in
set_option maxHeartbeats 4000000 in
theorem prim_undefined {d : Nat} {L : Low} (hL : LowC d L) {g : Nat} {s : PS} {w : World} (h : At g d s w) (hf : s.fault = 0) (hk : seesF ⟨#[117, 110, 100, 101, 102, 105, 110, 101, 100]⟩ s = true) :
    Calls Tryz.prog 132 #[.pointer (some ⟨g, 0, none⟩)] w (PostN g d w (node 6 [], s.take)) := by
  have m0 := sees_one (y := ⟨#[116, 114, 117, 101]⟩) hk (by decide)
  have m1 := sees_one (y := ⟨#[102, 97, 108, 115, 101]⟩) hk (by decide)
  have m2 := sees_one (y := ⟨#[110, 117, 108, 108]⟩) hk (by decide)
  have m3 := hk
  obtain ⟨q3, q4, q1⟩ := sees_mark hk
  have e3 : (s.next.kind == 3) = false := by simpa using q3
  have e4 : (s.next.kind == 4) = false := by simpa using q4
  have e1 : (s.next.kind == 1) = false := by simpa using q1
  have E0 := (Env.start h).new zeroN
  have x3 := E0.e30 hf
  have cn := now_any E0.at_ hf
  have HE0 := Lib.hid E0
  have HF := Lib.hid hf
  have HM0 := Lib.hid m0
  have HM1 := Lib.hid m1
  have HM2 := Lib.hid m2
  have HM3 := Lib.hid m3
  clear E0 h hf q3 q4 q1 m0 m1 m2 m3 hk
  go_enter Tryz.func132, Tryz.ntmps132
  go_wp2_with (first | (go_at_call 36; (with_reducible refine cn.mono ?_); intro e w1 hp; obtain ⟨rfl, E1⟩ := HE0.out.callR hp; have t0 := ((Blk.new w1 (kcs s.next) 73).cell 0).trans (kcs_0 s.next); have t2 := ((Blk.new w1 (kcs s.next) 73).cell 2).trans (kcs_2 s.next); have t3 := ((Blk.new w1 (kcs s.next) 73).cell 3).trans (kcs_3 s.next); have st := run_stKg w1 w1.heap.size s.next zeroK rfl; have E2 := E1.alloc (.cells (kcs s.next) 73); have c3 := take_f E2.at_ HM0.out; have HE2 := Lib.hid E2; clear hp E1 E2) | (go_at_call 79; (with_reducible refine c3.mono ?_); intro e w3 hp; obtain ⟨rfl, E3⟩ := HE2.out.call hp; have c4 := take_f E3.at_ HM1.out; have HE3 := Lib.hid E3; clear hp E3) | (go_at_call 79; (with_reducible refine c4.mono ?_); intro e w4 hp; obtain ⟨rfl, E4⟩ := HE3.out.call hp; have c5 := take_f E4.at_ HM2.out; have HE4 := Lib.hid E4; clear hp E4) | (go_at_call 79; (with_reducible refine c5.mono ?_); intro e w5 hp; obtain ⟨rfl, E5⟩ := HE4.out.call hp; have c6 := take_t E5.at_ HM3.out; have HE5 := Lib.hid E5; clear hp E5) | (go_at_call 79; (with_reducible refine c6.mono ?_); intro e w6 hp; obtain ⟨rfl, E6⟩ := HE5.out.call hp; have E6 := E6.leaf 6 0 noS; have s6 := E6.sto 0 rfl; have HE6 := Lib.hid E6; clear hp E6))
  exact ((HE6.out.store 0 rfl _).fin List.mem_cons_self List.mem_cons_self rfl rfl)
set_option maxRecDepth 100000 in
set_option maxHeartbeats 4000000 in
theorem prim_this {d : Nat} {L : Low} (hL : LowC d L) {g : Nat} {s : PS} {w : World} (h : At g d s w) (hf : s.fault = 0) (hk : seesF ⟨#[116, 104, 105, 115]⟩ s = true) :
    Calls Tryz.prog 132 #[.pointer (some ⟨g, 0, none⟩)] w (PostN g d w (node 7 [], s.take)) := by
  have m0 := sees_one (y := ⟨#[116, 114, 117, 101]⟩) hk (by decide)
  have m1 := sees_one (y := ⟨#[102, 97, 108, 115, 101]⟩) hk (by decide)
  have m2 := sees_one (y := ⟨#[110, 117, 108, 108]⟩) hk (by decide)
  have m3 := sees_one (y := ⟨#[117, 110, 100, 101, 102, 105, 110, 101, 100]⟩) hk (by decide)
  have m4 := hk
  obtain ⟨q3, q4, q1⟩ := sees_mark hk
  have e3 : (s.next.kind == 3) = false := by simpa using q3
  have e4 : (s.next.kind == 4) = false := by simpa using q4
  have e1 : (s.next.kind == 1) = false := by simpa using q1
  have E0 := (Env.start h).new zeroN
  have x3 := E0.e30 hf
  have cn := now_any E0.at_ hf
  have HE0 := Lib.hid E0
  have HF := Lib.hid hf
  have HM0 := Lib.hid m0
  have HM1 := Lib.hid m1
  have HM2 := Lib.hid m2
  have HM3 := Lib.hid m3
  have HM4 := Lib.hid m4
  clear E0 h hf q3 q4 q1 m0 m1 m2 m3 m4 hk
  go_enter Tryz.func132, Tryz.ntmps132
  go_wp2_with (first | (go_at_call 36; (with_reducible refine cn.mono ?_); intro e w1 hp; obtain ⟨rfl, E1⟩ := HE0.out.callR hp; have t0 := ((Blk.new w1 (kcs s.next) 73).cell 0).trans (kcs_0 s.next); have t2 := ((Blk.new w1 (kcs s.next) 73).cell 2).trans (kcs_2 s.next); have t3 := ((Blk.new w1 (kcs s.next) 73).cell 3).trans (kcs_3 s.next); have st := run_stKg w1 w1.heap.size s.next zeroK rfl; have E2 := E1.alloc (.cells (kcs s.next) 73); have c3 := take_f E2.at_ HM0.out; have HE2 := Lib.hid E2; clear hp E1 E2) | (go_at_call 79; (with_reducible refine c3.mono ?_); intro e w3 hp; obtain ⟨rfl, E3⟩ := HE2.out.call hp; have c4 := take_f E3.at_ HM1.out; have HE3 := Lib.hid E3; clear hp E3) | (go_at_call 79; (with_reducible refine c4.mono ?_); intro e w4 hp; obtain ⟨rfl, E4⟩ := HE3.out.call hp; have c5 := take_f E4.at_ HM2.out; have HE4 := Lib.hid E4; clear hp E4) | (go_at_call 79; (with_reducible refine c5.mono ?_); intro e w5 hp; obtain ⟨rfl, E5⟩ := HE4.out.call hp; have c6 := take_f E5.at_ HM3.out; have HE5 := Lib.hid E5; clear hp E5) | (go_at_call 79; (with_reducible refine c6.mono ?_); intro e w6 hp; obtain ⟨rfl, E6⟩ := HE5.out.call hp; have c7 := take_t E6.at_ HM4.out; have HE6 := Lib.hid E6; clear hp E6) | (go_at_call 79; (with_reducible refine c7.mono ?_); intro e w7 hp; obtain ⟨rfl, E7⟩ := HE6.out.call hp; have E7 := E7.leaf 7 0 noS; have s7 := E7.sto 0 rfl; have HE7 := Lib.hid E7; clear hp E7))
  exact ((HE7.out.store 0 rfl _).fin List.mem_cons_self List.mem_cons_self rfl rfl)
set_option maxRecDepth 100000 in
set_option maxHeartbeats 4000000 in
theorem prim_paren {d : Nat} {L : Low} (hL : LowC d L) {g : Nat} {s : PS} {w : World} (h : At g d s w) (hf : s.fault = 0) (hk : seesF ⟨#[40]⟩ s = true) :
    Calls Tryz.prog 132 #[.pointer (some ⟨g, 0, none⟩)] w (PostN g d w (parenF L s)) := by
  have m0 := sees_one (y := ⟨#[116, 114, 117, 101]⟩) hk (by decide)
  have m1 := sees_one (y := ⟨#[102, 97, 108, 115, 101]⟩) hk (by decide)
  have m2 := sees_one (y := ⟨#[110, 117, 108, 108]⟩) hk (by decide)
  have m3 := sees_one (y := ⟨#[117, 110, 100, 101, 102, 105, 110, 101, 100]⟩) hk (by decide)
  have m4 := sees_one (y := ⟨#[116, 104, 105, 115]⟩) hk (by decide)
  have m5 := hk
  obtain ⟨q3, q4, q1⟩ := sees_mark hk
  have e3 : (s.next.kind == 3) = false := by simpa using q3
  have e4 : (s.next.kind == 4) = false := by simpa using q4
  have e1 : (s.next.kind == 1) = false := by simpa using q1
  have E0 := (Env.start h).new zeroN
  have x3 := E0.e30 hf
  have cn := now_any E0.at_ hf
  have HE0 := Lib.hid E0
  have HF := Lib.hid hf
  have HM0 := Lib.hid m0
  have HM1 := Lib.hid m1
  have HM2 := Lib.hid m2
  have HM3 := Lib.hid m3
  have HM4 := Lib.hid m4
  have HM5 := Lib.hid m5
  clear E0 h hf q3 q4 q1 m0 m1 m2 m3 m4 m5 hk
  go_enter Tryz.func132, Tryz.ntmps132
  go_wp2_with (first | (go_at_call 36; (with_reducible refine cn.mono ?_); intro e w1 hp; obtain ⟨rfl, E1⟩ := HE0.out.callR hp; have t0 := ((Blk.new w1 (kcs s.next) 73).cell 0).trans (kcs_0 s.next); have t2 := ((Blk.new w1 (kcs s.next) 73).cell 2).trans (kcs_2 s.next); have t3 := ((Blk.new w1 (kcs s.next) 73).cell 3).trans (kcs_3 s.next); have st := run_stKg w1 w1.heap.size s.next zeroK rfl; have E2 := E1.alloc (.cells (kcs s.next) 73); have c3 := take_f E2.at_ HM0.out; have HE2 := Lib.hid E2; clear hp E1 E2) | (go_at_call 79; (with_reducible refine c3.mono ?_); intro e w3 hp; obtain ⟨rfl, E3⟩ := HE2.out.call hp; have c4 := take_f E3.at_ HM1.out; have HE3 := Lib.hid E3; clear hp E3) | (go_at_call 79; (with_reducible refine c4.mono ?_); intro e w4 hp; obtain ⟨rfl, E4⟩ := HE3.out.call hp; have c5 := take_f E4.at_ HM2.out; have HE4 := Lib.hid E4; clear hp E4) | (go_at_call 79; (with_reducible refine c5.mono ?_); intro e w5 hp; obtain ⟨rfl, E5⟩ := HE4.out.call hp; have c6 := take_f E5.at_ HM3.out; have HE5 := Lib.hid E5; clear hp E5) | (go_at_call 79; (with_reducible refine c6.mono ?_); intro e w6 hp; obtain ⟨rfl, E6⟩ := HE5.out.call hp; have c7 := take_f E6.at_ HM4.out; have HE6 := Lib.hid E6; clear hp E6) | (go_at_call 79; (with_reducible refine c7.mono ?_); intro e w7 hp; obtain ⟨rfl, E7⟩ := HE6.out.call hp; have c8 := is_any E7.at_ HF.out ⟨#[40]⟩; rw [HM5.out] at c8; have HE7 := Lib.hid E7; clear hp E7) | (go_at_call 37; (with_reducible refine c8.mono ?_); intro e w8 hp; obtain ⟨rfl, E8⟩ := HE7.out.callR hp; have c9 := paren_any hL E8.at_; have HE8 := Lib.hid E8; clear hp E8) | (go_at_call 85; (with_reducible refine c9.mono ?_); intro e w9 hp; obtain ⟨N9, rfl, E9⟩ := HE8.out.callN hp; have s9 := E9.sto 0 rfl; have HE9 := Lib.hid E9; clear hp E9))
  exact ((HE9.out.store 0 rfl _).fin List.mem_cons_self List.mem_cons_self rfl rfl)
set_option maxRecDepth 100000 in
set_option maxHeartbeats 4000000 in
theorem prim_arr {d : Nat} {L : Low} (hL : LowC d L) {g : Nat} {s : PS} {w : World} (h : At g d s w) (hf : s.fault = 0) (hk : seesF ⟨#[91]⟩ s = true) {X : List Tree × PS} (hX : rlistF ⟨#[93]⟩ L.ex s.take = X) :
    Calls Tryz.prog 132 #[.pointer (some ⟨g, 0, none⟩)] w (PostN g d w (node 9 X.1, needsF ⟨#[93]⟩ X.2)) := by
  have m0 := sees_one (y := ⟨#[116, 114, 117, 101]⟩) hk (by decide)
  have m1 := sees_one (y := ⟨#[102, 97, 108, 115, 101]⟩) hk (by decide)
  have m2 := sees_one (y := ⟨#[110, 117, 108, 108]⟩) hk (by decide)
  have m3 := sees_one (y := ⟨#[117, 110, 100, 101, 102, 105, 110, 101, 100]⟩) hk (by decide)
  have m4 := sees_one (y := ⟨#[116, 104, 105, 115]⟩) hk (by decide)
  have m5 := sees_one (y := ⟨#[40]⟩) hk (by decide)
  have m6 := hk
  obtain ⟨q3, q4, q1⟩ := sees_mark hk
  have e3 : (s.next.kind == 3) = false := by simpa using q3
  have e4 : (s.next.kind == 4) = false := by simpa using q4
  have e1 : (s.next.kind == 1) = false := by simpa using q1
  have E0 := (Env.start h).new zeroN
  have x3 := E0.e30 hf
  have cn := now_any E0.at_ hf
  have HE0 := Lib.hid E0
  have HF := Lib.hid hf
  have HX := Lib.hid hX
  clear hX
  have HM0 := Lib.hid m0
  have HM1 := Lib.hid m1
  have HM2 := Lib.hid m2
  have HM3 := Lib.hid m3
  have HM4 := Lib.hid m4
  have HM5 := Lib.hid m5
  have HM6 := Lib.hid m6
  clear E0 h hf q3 q4 q1 m0 m1 m2 m3 m4 m5 m6 hk
  go_enter Tryz.func132, Tryz.ntmps132
  go_wp2_with (first | (go_at_call 36; (with_reducible refine cn.mono ?_); intro e w1 hp; obtain ⟨rfl, E1⟩ := HE0.out.callR hp; have t0 := ((Blk.new w1 (kcs s.next) 73).cell 0).trans (kcs_0 s.next); have t2 := ((Blk.new w1 (kcs s.next) 73).cell 2).trans (kcs_2 s.next); have t3 := ((Blk.new w1 (kcs s.next) 73).cell 3).trans (kcs_3 s.next); have st := run_stKg w1 w1.heap.size s.next zeroK rfl; have E2 := E1.alloc (.cells (kcs s.next) 73); have c3 := take_f E2.at_ HM0.out; have HE2 := Lib.hid E2; clear hp E1 E2) | (go_at_call 79; (with_reducible refine c3.mono ?_); intro e w3 hp; obtain ⟨rfl, E3⟩ := HE2.out.call hp; have c4 := take_f E3.at_ HM1.out; have HE3 := Lib.hid E3; clear hp E3) | (go_at_call 79; (with_reducible refine c4.mono ?_); intro e w4 hp; obtain ⟨rfl, E4⟩ := HE3.out.call hp; have c5 := take_f E4.at_ HM2.out; have HE4 := Lib.hid E4; clear hp E4) | (go_at_call 79; (with_reducible refine c5.mono ?_); intro e w5 hp; obtain ⟨rfl, E5⟩ := HE4.out.call hp; have c6 := take_f E5.at_ HM3.out; have HE5 := Lib.hid E5; clear hp E5) | (go_at_call 79; (with_reducible refine c6.mono ?_); intro e w6 hp; obtain ⟨rfl, E6⟩ := HE5.out.call hp; have c7 := take_f E6.at_ HM4.out; have HE6 := Lib.hid E6; clear hp E6) | (go_at_call 79; (with_reducible refine c7.mono ?_); intro e w7 hp; obtain ⟨rfl, E7⟩ := HE6.out.call hp; have c8 := is_any E7.at_ HF.out ⟨#[40]⟩; rw [HM5.out] at c8; have HE7 := Lib.hid E7; clear hp E7) | (go_at_call 37; (with_reducible refine c8.mono ?_); intro e w8 hp; obtain ⟨rfl, E8⟩ := HE7.out.callR hp; have c9 := take_t E8.at_ HM6.out; have HE8 := Lib.hid E8; clear hp E8) | (go_at_call 79; (with_reducible refine c9.mono ?_); intro e w9 hp; obtain ⟨rfl, E9⟩ := HE8.out.call hp; have c10 := list_any hL ⟨#[93]⟩ E9.at_; rw [HX.out] at c10; have HE9 := Lib.hid E9; clear hp E9) | (go_at_call 137; (with_reducible refine c10.mono ?_); intro e w10 hp; obtain ⟨S10, rfl, E10⟩ := HE9.out.callL hp 9 0 noS; have c11 := want_any E10.at_ ⟨#[93]⟩; have HE10 := Lib.hid E10; clear hp E10) | (go_at_call 82; (with_reducible refine c11.mono ?_); intro e w11 hp; obtain ⟨rfl, E11⟩ := HE10.out.call hp; have s11 := E11.sto 0 rfl; have HE11 := Lib.hid E11; clear hp E11))
  exact ((HE11.out.store 0 rfl _).fin List.mem_cons_self List.mem_cons_self rfl rfl)
set_option maxRecDepth 100000 in
set_option maxHeartbeats 4000000 in
theorem prim_none {d : Nat} {L : Low} (hL : LowC d L) {g : Nat} {s : PS} {w : World} (h : At g d s w) (hf : s.fault = 0) (m0 : seesF ⟨#[116, 114, 117, 101]⟩ s = false) (m1 : seesF ⟨#[102, 97, 108, 115, 101]⟩ s = false) (m2 : seesF ⟨#[110, 117, 108, 108]⟩ s = false) (m3 : seesF ⟨#[117, 110, 100, 101, 102, 105, 110, 101, 100]⟩ s = false) (m4 : seesF ⟨#[116, 104, 105, 115]⟩ s = false) (m5 : seesF ⟨#[40]⟩ s = false) (m6 : seesF ⟨#[91]⟩ s = false) (m7 : seesF ⟨#[123]⟩ s = false) (m8 : seesF ⟨#[102, 117, 110, 99, 116, 105, 111, 110]⟩ s = false) (q3 : s.next.kind ≠ 3) (q4 : s.next.kind ≠ 4) (q1 : s.next.kind ≠ 1) :
    Calls Tryz.prog 132 #[.pointer (some ⟨g, 0, none⟩)] w (PostN g d w (zeroT, s.fail 2)) := by
  have e3 : (s.next.kind == 3) = false := by simpa using q3
  have e4 : (s.next.kind == 4) = false := by simpa using q4
  have e1 : (s.next.kind == 1) = false := by simpa using q1
  have E0 := (Env.start h).new zeroN
  have x3 := E0.e30 hf
  have cn := now_any E0.at_ hf
  have HE0 := Lib.hid E0
  have HF := Lib.hid hf
  have HM0 := Lib.hid m0
  have HM1 := Lib.hid m1
  have HM2 := Lib.hid m2
  have HM3 := Lib.hid m3
  have HM4 := Lib.hid m4
  have HM5 := Lib.hid m5
  have HM6 := Lib.hid m6
  have HM7 := Lib.hid m7
  have HM8 := Lib.hid m8
  clear E0 h hf q3 q4 q1 m0 m1 m2 m3 m4 m5 m6 m7 m8
  go_enter Tryz.func132, Tryz.ntmps132
  go_wp2_with (first | (go_at_call 36; (with_reducible refine cn.mono ?_); intro e w1 hp; obtain ⟨rfl, E1⟩ := HE0.out.callR hp; have t0 := ((Blk.new w1 (kcs s.next) 73).cell 0).trans (kcs_0 s.next); have t2 := ((Blk.new w1 (kcs s.next) 73).cell 2).trans (kcs_2 s.next); have t3 := ((Blk.new w1 (kcs s.next) 73).cell 3).trans (kcs_3 s.next); have st := run_stKg w1 w1.heap.size s.next zeroK rfl; have E2 := E1.alloc (.cells (kcs s.next) 73); have c3 := take_f E2.at_ HM0.out; have HE2 := Lib.hid E2; clear hp E1 E2) | (go_at_call 79; (with_reducible refine c3.mono ?_); intro e w3 hp; obtain ⟨rfl, E3⟩ := HE2.out.call hp; have c4 := take_f E3.at_ HM1.out; have HE3 := Lib.hid E3; clear hp E3) | (go_at_call 79; (with_reducible refine c4.mono ?_); intro e w4 hp; obtain ⟨rfl, E4⟩ := HE3.out.call hp; have c5 := take_f E4.at_ HM2.out; have HE4 := Lib.hid E4; clear hp E4) | (go_at_call 79; (with_reducible refine c5.mono ?_); intro e w5 hp; obtain ⟨rfl, E5⟩ := HE4.out.call hp; have c6 := take_f E5.at_ HM3.out; have HE5 := Lib.hid E5; clear hp E5) | (go_at_call 79; (with_reducible refine c6.mono ?_); intro e w6 hp; obtain ⟨rfl, E6⟩ := HE5.out.call hp; have c7 := take_f E6.at_ HM4.out; have HE6 := Lib.hid E6; clear hp E6) | (go_at_call 79; (with_reducible refine c7.mono ?_); intro e w7 hp; obtain ⟨rfl, E7⟩ := HE6.out.call hp; have c8 := is_any E7.at_ HF.out ⟨#[40]⟩; rw [HM5.out] at c8; have HE7 := Lib.hid E7; clear hp E7) | (go_at_call 37; (with_reducible refine c8.mono ?_); intro e w8 hp; obtain ⟨rfl, E8⟩ := HE7.out.callR hp; have c9 := take_f E8.at_ HM6.out; have HE8 := Lib.hid E8; clear hp E8) | (go_at_call 79; (with_reducible refine c9.mono ?_); intro e w9 hp; obtain ⟨rfl, E9⟩ := HE8.out.call hp; have c10 := take_f E9.at_ HM7.out; have HE9 := Lib.hid E9; clear hp E9) | (go_at_call 79; (with_reducible refine c10.mono ?_); intro e w10 hp; obtain ⟨rfl, E10⟩ := HE9.out.call hp; have c11 := take_f E10.at_ HM8.out; have HE10 := Lib.hid E10; clear hp E10) | (go_at_call 79; (with_reducible refine c11.mono ?_); intro e w11 hp; obtain ⟨rfl, E11⟩ := HE10.out.call hp; have c12 := fail_any E11.at_ (e := 2) (by decide); have HE11 := Lib.hid E11; clear hp E11) | (go_at_call 78; (with_reducible refine c12.mono ?_); intro e w12 hp; obtain ⟨rfl, E12⟩ := HE11.out.call hp; have E12 := E12.leaf 0 0 noS; have s12 := E12.sto 0 rfl; have HE12 := Lib.hid E12; clear hp E12))
  exact ((HE12.out.store 0 rfl _).fin List.mem_cons_self List.mem_cons_self rfl rfl)
end Go.Proofs.YtinoaajohkafmaaGreat.Rp

/-
  The reference's parser: a function as an expression.
-/
namespace Go.Proofs.YtinoaajohkafmaaGreat.Rp
open Go Go.RowKit Go.Proofs.YtinoaajohkafmaaGreat.Uni Go.Proofs.YtinoaajohkafmaaGreat.Pa
open Go.Proofs.YtinoaajohkafmaaGreat.Lx
set_option linter.unusedVariables false
set_option linter.unusedSimpArgs false
attribute [local go_sem ↓] ldK stK alK bdK bsK ldN stN alN bdN bsN
attribute [local irreducible] kcs ncs ncells
attribute [local go_sem] run_alK run_bdK0 run_bdKs run_bdKn run_bdKe run_bsK run_fdK0 run_fdK1 run_fdK2 run_fdK3 run_fdN4 run_alN run_stNg run_ldNg run_bdN0 run_bdN04 run_bdN02 run_bdN01 run_bdN024 run_bdN03 run_bdN0234 run_bsN1 run_bsN2 run_bsN3
attribute [local go_sem] run_stKg run_bdNk
set_option maxRecDepth 100000 in
set_option maxHeartbeats 4000000 in
theorem prim_fun_n {d : Nat} {L : Low} (hL : LowC d L) {g : Nat} {s : PS} {w : World} (h : At g d s w) (hf : s.fault = 0) (hk : seesF ⟨#[102, 117, 110, 99, 116, 105, 111, 110]⟩ s = true) (hn : s.take.next.kind = 1) :
    Calls Tryz.prog 132 #[.pointer (some ⟨g, 0, none⟩)] w (PostN g d w (rfuncF L s.take.next.text s.take.take)) := by
  have m0 := sees_one (y := ⟨#[116, 114, 117, 101]⟩) hk (by decide)
  have m1 := sees_one (y := ⟨#[102, 97, 108, 115, 101]⟩) hk (by decide)
  have m2 := sees_one (y := ⟨#[110, 117, 108, 108]⟩) hk (by decide)
  have m3 := sees_one (y := ⟨#[117, 110, 100, 101, 102, 105, 110, 101, 100]⟩) hk (by decide)
  have m4 := sees_one (y := ⟨#[116, 104, 105, 115]⟩) hk (by decide)
  have m5 := sees_one (y := ⟨#[40]⟩) hk (by decide)
  have m6 := sees_one (y := ⟨#[91]⟩) hk (by decide)
  have m7 := sees_one (y := ⟨#[123]⟩) hk (by decide)
  have m8 := hk
  obtain ⟨q3, q4, q1⟩ := sees_mark hk
  have e3 : (s.next.kind == 3) = false := by simpa using q3
  have e4 : (s.next.kind == 4) = false := by simpa using q4
  have e1 : (s.next.kind == 1) = false := by simpa using q1
  have E0 := (Env.start h).new zeroN
  have x3 := E0.e30 hf
  have cn := now_any E0.at_ hf
  have HE0 := Lib.hid E0
  have HF := Lib.hid hf
  have HN := Lib.hid (show nameF s.take = (s.take.next.text, s.take.take) from if_pos hn)
  have e5 : (s.take.next.kind == 1) = true := by rw [hn]; rfl
  clear hn
  have HM0 := Lib.hid m0
  have HM1 := Lib.hid m1
  have HM2 := Lib.hid m2
  have HM3 := Lib.hid m3
  have HM4 := Lib.hid m4
  have HM5 := Lib.hid m5
  have HM6 := Lib.hid m6
  have HM7 := Lib.hid m7
  have HM8 := Lib.hid m8
  clear E0 h hf q3 q4 q1 m0 m1 m2 m3 m4 m5 m6 m7 m8 hk
  go_enter Tryz.func132, Tryz.ntmps132
  go_wp2_with (first | (go_at_call 36; (with_reducible refine cn.mono ?_); intro e w1 hp; obtain ⟨rfl, E1⟩ := HE0.out.callR hp; have t0 := ((Blk.new w1 (kcs s.next) 73).cell 0).trans (kcs_0 s.next); have t2 := ((Blk.new w1 (kcs s.next) 73).cell 2).trans (kcs_2 s.next); have t3 := ((Blk.new w1 (kcs s.next) 73).cell 3).trans (kcs_3 s.next); have st := run_stKg w1 w1.heap.size s.next zeroK rfl; have E2 := E1.alloc (.cells (kcs s.next) 73); have c3 := take_f E2.at_ HM0.out; have HE2 := Lib.hid E2; clear hp E1 E2) | (go_at_call 79; (with_reducible refine c3.mono ?_); intro e w3 hp; obtain ⟨rfl, E3⟩ := HE2.out.call hp; have c4 := take_f E3.at_ HM1.out; have HE3 := Lib.hid E3; clear hp E3) | (go_at_call 79; (with_reducible refine c4.mono ?_); intro e w4 hp; obtain ⟨rfl, E4⟩ := HE3.out.call hp; have c5 := take_f E4.at_ HM2.out; have HE4 := Lib.hid E4; clear hp E4) | (go_at_call 79; (with_reducible refine c5.mono ?_); intro e w5 hp; obtain ⟨rfl, E5⟩ := HE4.out.call hp; have c6 := take_f E5.at_ HM3.out; have HE5 := Lib.hid E5; clear hp E5) | (go_at_call 79; (with_reducible refine c6.mono ?_); intro e w6 hp; obtain ⟨rfl, E6⟩ := HE5.out.call hp; have c7 := take_f E6.at_ HM4.out; have HE6 := Lib.hid E6; clear hp E6) | (go_at_call 79; (with_reducible refine c7.mono ?_); intro e w7 hp; obtain ⟨rfl, E7⟩ := HE6.out.call hp; have c8 := is_any E7.at_ HF.out ⟨#[40]⟩; rw [HM5.out] at c8; have HE7 := Lib.hid E7; clear hp E7) | (go_at_call 37; (with_reducible refine c8.mono ?_); intro e w8 hp; obtain ⟨rfl, E8⟩ := HE7.out.callR hp; have c9 := take_f E8.at_ HM6.out; have HE8 := Lib.hid E8; clear hp E8) | (go_at_call 79; (with_reducible refine c9.mono ?_); intro e w9 hp; obtain ⟨rfl, E9⟩ := HE8.out.call hp; have c10 := take_f E9.at_ HM7.out; have HE9 := Lib.hid E9; clear hp E9) | (go_at_call 79; (with_reducible refine c10.mono ?_); intro e w10 hp; obtain ⟨rfl, E10⟩ := HE9.out.call hp; have c11 := take_t E10.at_ HM8.out; have HE10 := Lib.hid E10; clear hp E10) | (go_at_call 79; (with_reducible refine c11.mono ?_); intro e w11 hp; obtain ⟨rfl, E11⟩ := HE10.out.call hp; have c12 := now_any E11.at_ (show s.take.fault = 0 from HF.out); have HE11 := Lib.hid E11; clear hp E11) | (go_at_call 36; (with_reducible refine c12.mono ?_); intro e w12 hp; obtain ⟨rfl, E12⟩ := HE11.out.callR hp; have c13 := name_any E12.at_; rw [HN.out] at c13; have HE12 := Lib.hid E12; clear hp E12) | (go_at_call 80; (with_reducible refine c13.mono ?_); intro e w13 hp; obtain ⟨rfl, E13⟩ := HE12.out.call hp; have c14 := func_any hL E13.at_ s.take.next.text; have HE13 := Lib.hid E13; clear hp E13) | (go_at_call 84; (with_reducible refine c14.mono ?_); intro e w14 hp; obtain ⟨N14, rfl, E14⟩ := HE13.out.callN hp; have s14 := E14.sto 0 rfl; have HE14 := Lib.hid E14; clear hp E14))
  exact ((HE14.out.store 0 rfl _).fin List.mem_cons_self List.mem_cons_self rfl rfl)
set_option maxRecDepth 100000 in
set_option maxHeartbeats 4000000 in
theorem prim_fun_a {d : Nat} {L : Low} (hL : LowC d L) {g : Nat} {s : PS} {w : World} (h : At g d s w) (hf : s.fault = 0) (hk : seesF ⟨#[102, 117, 110, 99, 116, 105, 111, 110]⟩ s = true) (hn : s.take.next.kind ≠ 1) :
    Calls Tryz.prog 132 #[.pointer (some ⟨g, 0, none⟩)] w (PostN g d w (rfuncF L noS s.take)) := by
  have m0 := sees_one (y := ⟨#[116, 114, 117, 101]⟩) hk (by decide)
  have m1 := sees_one (y := ⟨#[102, 97, 108, 115, 101]⟩) hk (by decide)
  have m2 := sees_one (y := ⟨#[110, 117, 108, 108]⟩) hk (by decide)
  have m3 := sees_one (y := ⟨#[117, 110, 100, 101, 102, 105, 110, 101, 100]⟩) hk (by decide)
  have m4 := sees_one (y := ⟨#[116, 104, 105, 115]⟩) hk (by decide)
  have m5 := sees_one (y := ⟨#[40]⟩) hk (by decide)
  have m6 := sees_one (y := ⟨#[91]⟩) hk (by decide)
  have m7 := sees_one (y := ⟨#[123]⟩) hk (by decide)
  have m8 := hk
  obtain ⟨q3, q4, q1⟩ := sees_mark hk
  have e3 : (s.next.kind == 3) = false := by simpa using q3
  have e4 : (s.next.kind == 4) = false := by simpa using q4
  have e1 : (s.next.kind == 1) = false := by simpa using q1
  have E0 := (Env.start h).new zeroN
  have x3 := E0.e30 hf
  have cn := now_any E0.at_ hf
  have HE0 := Lib.hid E0
  have HF := Lib.hid hf
  have e5 : (s.take.next.kind == 1) = false := by simpa using hn
  clear hn
  have HM0 := Lib.hid m0
  have HM1 := Lib.hid m1
  have HM2 := Lib.hid m2
  have HM3 := Lib.hid m3
  have HM4 := Lib.hid m4
  have HM5 := Lib.hid m5
  have HM6 := Lib.hid m6
  have HM7 := Lib.hid m7
  have HM8 := Lib.hid m8
  clear E0 h hf q3 q4 q1 m0 m1 m2 m3 m4 m5 m6 m7 m8 hk
  go_enter Tryz.func132, Tryz.ntmps132
  go_wp2_with (first | (go_at_call 36; (with_reducible refine cn.mono ?_); intro e w1 hp; obtain ⟨rfl, E1⟩ := HE0.out.callR hp; have t0 := ((Blk.new w1 (kcs s.next) 73).cell 0).trans (kcs_0 s.next); have t2 := ((Blk.new w1 (kcs s.next) 73).cell 2).trans (kcs_2 s.next); have t3 := ((Blk.new w1 (kcs s.next) 73).cell 3).trans (kcs_3 s.next); have st := run_stKg w1 w1.heap.size s.next zeroK rfl; have E2 := E1.alloc (.cells (kcs s.next) 73); have c3 := take_f E2.at_ HM0.out; have HE2 := Lib.hid E2; clear hp E1 E2) | (go_at_call 79; (with_reducible refine c3.mono ?_); intro e w3 hp; obtain ⟨rfl, E3⟩ := HE2.out.call hp; have c4 := take_f E3.at_ HM1.out; have HE3 := Lib.hid E3; clear hp E3) | (go_at_call 79; (with_reducible refine c4.mono ?_); intro e w4 hp; obtain ⟨rfl, E4⟩ := HE3.out.call hp; have c5 := take_f E4.at_ HM2.out; have HE4 := Lib.hid E4; clear hp E4) | (go_at_call 79; (with_reducible refine c5.mono ?_); intro e w5 hp; obtain ⟨rfl, E5⟩ := HE4.out.call hp; have c6 := take_f E5.at_ HM3.out; have HE5 := Lib.hid E5; clear hp E5) | (go_at_call 79; (with_reducible refine c6.mono ?_); intro e w6 hp; obtain ⟨rfl, E6⟩ := HE5.out.call hp; have c7 := take_f E6.at_ HM4.out; have HE6 := Lib.hid E6; clear hp E6) | (go_at_call 79; (with_reducible refine c7.mono ?_); intro e w7 hp; obtain ⟨rfl, E7⟩ := HE6.out.call hp; have c8 := is_any E7.at_ HF.out ⟨#[40]⟩; rw [HM5.out] at c8; have HE7 := Lib.hid E7; clear hp E7) | (go_at_call 37; (with_reducible refine c8.mono ?_); intro e w8 hp; obtain ⟨rfl, E8⟩ := HE7.out.callR hp; have c9 := take_f E8.at_ HM6.out; have HE8 := Lib.hid E8; clear hp E8) | (go_at_call 79; (with_reducible refine c9.mono ?_); intro e w9 hp; obtain ⟨rfl, E9⟩ := HE8.out.call hp; have c10 := take_f E9.at_ HM7.out; have HE9 := Lib.hid E9; clear hp E9) | (go_at_call 79; (with_reducible refine c10.mono ?_); intro e w10 hp; obtain ⟨rfl, E10⟩ := HE9.out.call hp; have c11 := take_t E10.at_ HM8.out; have HE10 := Lib.hid E10; clear hp E10) | (go_at_call 79; (with_reducible refine c11.mono ?_); intro e w11 hp; obtain ⟨rfl, E11⟩ := HE10.out.call hp; have c12 := now_any E11.at_ (show s.take.fault = 0 from HF.out); have HE11 := Lib.hid E11; clear hp E11) | (go_at_call 36; (with_reducible refine c12.mono ?_); intro e w12 hp; obtain ⟨rfl, E12⟩ := HE11.out.callR hp; have c13 := func_any hL E12.at_ ⟨#[]⟩; have HE12 := Lib.hid E12; clear hp E12) | (go_at_call 84; (with_reducible refine c13.mono ?_); intro e w13 hp; obtain ⟨N13, rfl, E13⟩ := HE12.out.callN hp; have s13 := E13.sto 0 rfl; have HE13 := Lib.hid E13; clear hp E13))
  exact ((HE13.out.store 0 rfl _).fin List.mem_cons_self List.mem_cons_self rfl rfl)
end Go.Proofs.YtinoaajohkafmaaGreat.Rp
