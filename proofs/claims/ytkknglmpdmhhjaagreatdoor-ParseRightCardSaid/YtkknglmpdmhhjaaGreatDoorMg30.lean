/-
  element, primary.
-/
import Derived.Test.YtkknglmpdmhhjaaGreatDoorMg29
namespace Go.Proofs.YtkknglmpdmhhjaaGreatDoor.Pa
open Go Go.RowKit Go.Proofs.YtkknglmpdmhhjaaGreatDoor.Lx Go.Proofs.YtkknglmpdmhhjaaGreatDoor.Uni
set_option linter.unusedVariables false
set_option linter.unusedSimpArgs false
attribute [local go_sem ↓] ldK stK alK bdK bsK ldN stN alN bdN bsN
attribute [local irreducible] kcs ncs ncells
attribute [local go_sem] run_alK run_bdK0 run_bdKs run_bdKn run_bdKe run_bsK run_fdK0 run_fdK1 run_fdK2 run_fdK3 run_fdN4 run_alN run_stNg run_ldNg run_bdN0 run_bdN04 run_bdN02 run_bdN01 run_bdN024 run_bdN03 run_bdN0234 run_bsN1 run_bsN2 run_bsN3

set_option maxRecDepth 100000 in
set_option maxHeartbeats 4000000 in
theorem elem_b {d : Nat} {L : Low} (hL : LowC d L) {g : Nat} {s : PS} {w : World} (h : At g d s w) (hX : Gx g w) (k0 : seesF ⟨#[91]⟩ s = true) :
    Calls Tryz.prog 273 #[.pointer (some ⟨g, 0, none⟩)] w (PostN g d w (pairF L (L.ex s.take).1 (needsF ⟨#[93]⟩ (L.ex s.take).2))) := by
  have E0 := (Env.start h hX).new zeroN
  have c0 := takes_t E0.at_ k0
  have HE0 := Lib.hid E0
  clear E0 h hX k0
  go_enter Tryz.func273, Tryz.ntmps273
  go_wp2_with (first | (go_at_call 86; (with_reducible refine c0.mono ?_); intro e w1 hp; obtain ⟨rfl, E1⟩ := HE0.out.call hp; have c1 := hL.ex E1.at_ E1.gx; have HE1 := Lib.hid E1; clear hp E1) | (go_at_call 141; (with_reducible refine c1.mono ?_); intro e w2 hp; obtain ⟨N2, rfl, E2⟩ := HE1.out.callN hp; have E2 := E2.new N2; have c2 := needs_any E2.at_ ⟨#[93]⟩; have HE2 := Lib.hid E2; clear hp E2) | (go_at_call 93; (with_reducible refine c2.mono ?_); intro e w3 hp; obtain ⟨rfl, E3⟩ := HE2.out.call hp; have l3 := E3.ld 0 rfl; have c3 := pair_any hL E3.at_ E3.gx E3.ne (E3.rp _ List.mem_cons_self); have HE3 := Lib.hid E3; clear hp E3) | (go_at_call 276; (with_reducible refine c3.mono ?_); intro e w4 hp; obtain ⟨N4, rfl, E4⟩ := HE3.out.callS hp (fun b hb => hb); have s4 := E4.sto 1 rfl; have HE4 := Lib.hid E4; clear hp E4))
  exact ((HE4.out.store 1 rfl _).fin (List.mem_cons_of_mem _ List.mem_cons_self) List.mem_cons_self rfl rfl)

set_option maxRecDepth 100000 in
set_option maxHeartbeats 4000000 in
theorem elem_n {d : Nat} {L : Low} (hL : LowC d L) {g : Nat} {s : PS} {w : World} (h : At g d s w) (hX : Gx g w) (k0 : seesF ⟨#[91]⟩ s = false) (hk : s.next.kind ≠ 1) :
    Calls Tryz.prog 273 #[.pointer (some ⟨g, 0, none⟩)] w (PostN g d w (pairF L (.mk 2 0 (keyF s).1 [] []) (keyF s).2)) := by
  have E0 := (Env.start h hX).new zeroN
  have c0 := takes_f E0.at_ k0
  have ck : ∀ w : World, (w.alloc (.cells (kcs s.next) 79)).cell? ⟨w.heap.size, 0, none⟩ = some (.int .i64 s.next.kind) := fun w => ((Blk.new w (kcs s.next) 79).cell 0).trans (kcs_0 _)
  have cx : ∀ w : World, (w.alloc (.cells (kcs s.next) 79)).cell? ⟨w.heap.size, 3, none⟩ = some (.string s.next.text) := fun w => ((Blk.new w (kcs s.next) 79).cell 3).trans (kcs_3 _)
  obtain ⟨K, hK⟩ : ∃ K, keyF s = K := ⟨_, rfl⟩
  rw [hK]
  have HE0 := Lib.hid E0
  have e1 : (s.next.kind == 1) = false := by simpa using hk
  clear hk
  have HK := Lib.hid hK
  clear E0 h hX k0 hK
  go_enter Tryz.func273, Tryz.ntmps273
  go_wp2_with (first | (go_at_call 86; (with_reducible refine c0.mono ?_); intro e w1 hp; obtain ⟨rfl, E1⟩ := HE0.out.call hp; have c1 := next_any E1.at_; have HE1 := Lib.hid E1; clear hp E1) | (go_at_call 45; (with_reducible refine c1.mono ?_); intro e w2 hp; obtain ⟨rfl, E2⟩ := HE1.out.callR hp; have sg := (fun o => run_stKg w2 w2.heap.size s.next o rfl); have E2a := E2.alloc (.cells (kcs s.next) 79); have c2 := key_any E2a.at_ E2a.gx; rw [HK.out] at c2; have HE2 := Lib.hid E2; have HE2a := Lib.hid E2a; clear hp E2 E2a) | (go_at_call 277; (with_reducible refine c2.mono ?_); intro e w3 hp; have d3 := cell_keep (ck w2) (fun hl => hp.2.2.block _ hl (by have h1 := HE2.out.gl; have h2 := HE2.out.size; simp; omega)); have x3 := cell_keep (cx w2) (fun hl => hp.2.2.block _ hl (by have h1 := HE2.out.gl; have h2 := HE2.out.size; simp; omega)); obtain ⟨rfl, E3⟩ := HE2a.out.call hp; have E3 := E3.leaf 2 0 K.1; have cp := pair_any hL E3.at_ E3.gx E3.ne (E3.rp _ List.mem_cons_self); have HE3 := Lib.hid E3; clear hp E3) | (go_at_call 276; (with_reducible refine cp.mono ?_); intro e w9 hp; obtain ⟨N9, rfl, E9⟩ := HE3.out.callS hp (fun b hb => hb); have s9 := E9.sto 0 rfl; have HE9 := Lib.hid E9; clear hp E9))
  exact ((HE9.out.store 0 rfl _).fin List.mem_cons_self List.mem_cons_self rfl rfl)

set_option maxRecDepth 100000 in
set_option maxHeartbeats 4000000 in
theorem elem_c {d : Nat} {L : Low} (hL : LowC d L) {g : Nat} {s : PS} {w : World} (h : At g d s w) (hX : Gx g w) (k0 : seesF ⟨#[91]⟩ s = false) (hk : s.next.kind = 1) (k4 : seesF ⟨#[58]⟩ (keyF s).2 = true) :
    Calls Tryz.prog 273 #[.pointer (some ⟨g, 0, none⟩)] w (PostN g d w (pairF L (.mk 2 0 (keyF s).1 [] []) (keyF s).2)) := by
  have E0 := (Env.start h hX).new zeroN
  have c0 := takes_f E0.at_ k0
  have ck : ∀ w : World, (w.alloc (.cells (kcs s.next) 79)).cell? ⟨w.heap.size, 0, none⟩ = some (.int .i64 s.next.kind) := fun w => ((Blk.new w (kcs s.next) 79).cell 0).trans (kcs_0 _)
  have cx : ∀ w : World, (w.alloc (.cells (kcs s.next) 79)).cell? ⟨w.heap.size, 3, none⟩ = some (.string s.next.text) := fun w => ((Blk.new w (kcs s.next) 79).cell 3).trans (kcs_3 _)
  obtain ⟨K, hK⟩ : ∃ K, keyF s = K := ⟨_, rfl⟩
  rw [hK]
  rw [hK] at k4
  have HE0 := Lib.hid E0
  have e1 : (s.next.kind == 1) = true := by rw [hk]; rfl
  clear hk
  have HK := Lib.hid hK
  clear E0 h hX k0 hK
  go_enter Tryz.func273, Tryz.ntmps273
  go_wp2_with (first | (go_at_call 86; (with_reducible refine c0.mono ?_); intro e w1 hp; obtain ⟨rfl, E1⟩ := HE0.out.call hp; have c1 := next_any E1.at_; have HE1 := Lib.hid E1; clear hp E1) | (go_at_call 45; (with_reducible refine c1.mono ?_); intro e w2 hp; obtain ⟨rfl, E2⟩ := HE1.out.callR hp; have sg := (fun o => run_stKg w2 w2.heap.size s.next o rfl); have E2a := E2.alloc (.cells (kcs s.next) 79); have c2 := key_any E2a.at_ E2a.gx; rw [HK.out] at c2; have HE2 := Lib.hid E2; have HE2a := Lib.hid E2a; clear hp E2 E2a) | (go_at_call 277; (with_reducible refine c2.mono ?_); intro e w3 hp; have d3 := cell_keep (ck w2) (fun hl => hp.2.2.block _ hl (by have h1 := HE2.out.gl; have h2 := HE2.out.size; simp; omega)); have x3 := cell_keep (cx w2) (fun hl => hp.2.2.block _ hl (by have h1 := HE2.out.gl; have h2 := HE2.out.size; simp; omega)); obtain ⟨rfl, E3⟩ := HE2a.out.call hp; have c4 := sees_t E3.at_ k4; have HE3 := Lib.hid E3; clear hp E3) | (go_at_call 84; (with_reducible refine c4.mono ?_); intro e w4 hp; obtain ⟨rfl, E4⟩ := HE3.out.callR hp; have E4 := E4.leaf 2 0 K.1; have cp := pair_any hL E4.at_ E4.gx E4.ne (E4.rp _ List.mem_cons_self); have HE4 := Lib.hid E4; clear hp E4) | (go_at_call 276; (with_reducible refine cp.mono ?_); intro e w9 hp; obtain ⟨N9, rfl, E9⟩ := HE4.out.callS hp (fun b hb => hb); have s9 := E9.sto 0 rfl; have HE9 := Lib.hid E9; clear hp E9))
  exact ((HE9.out.store 0 rfl _).fin List.mem_cons_self List.mem_cons_self rfl rfl)

set_option maxRecDepth 100000 in
set_option maxHeartbeats 4000000 in
theorem elem_g {d : Nat} {L : Low} (hL : LowC d L) {g : Nat} {s : PS} {w : World} (h : At g d s w) (hX : Gx g w) (k0 : seesF ⟨#[91]⟩ s = false) (hk : s.next.kind = 1) (k4 : seesF ⟨#[58]⟩ (keyF s).2 = false) (tg : eqT s.next.text ⟨#[103, 101, 116]⟩ = true) :
    Calls Tryz.prog 273 #[.pointer (some ⟨g, 0, none⟩)] w (PostN g d w (getF L (keyF s).2)) := by
  have E0 := (Env.start h hX).new zeroN
  have c0 := takes_f E0.at_ k0
  have ck : ∀ w : World, (w.alloc (.cells (kcs s.next) 79)).cell? ⟨w.heap.size, 0, none⟩ = some (.int .i64 s.next.kind) := fun w => ((Blk.new w (kcs s.next) 79).cell 0).trans (kcs_0 _)
  have cx : ∀ w : World, (w.alloc (.cells (kcs s.next) 79)).cell? ⟨w.heap.size, 3, none⟩ = some (.string s.next.text) := fun w => ((Blk.new w (kcs s.next) 79).cell 3).trans (kcs_3 _)
  obtain ⟨K, hK⟩ : ∃ K, keyF s = K := ⟨_, rfl⟩
  rw [hK]
  rw [hK] at k4
  have HE0 := Lib.hid E0
  have e1 : (s.next.kind == 1) = true := by rw [hk]; rfl
  have qg : (s.next.text.toList == [103, 101, 116]) = true := by rw [ByteArray.toList_eq]; exact tg
  clear hk tg
  have HK := Lib.hid hK
  clear E0 h hX k0 hK
  go_enter Tryz.func273, Tryz.ntmps273
  go_wp2_with (first | (go_at_call 86; (with_reducible refine c0.mono ?_); intro e w1 hp; obtain ⟨rfl, E1⟩ := HE0.out.call hp; have c1 := next_any E1.at_; have HE1 := Lib.hid E1; clear hp E1) | (go_at_call 45; (with_reducible refine c1.mono ?_); intro e w2 hp; obtain ⟨rfl, E2⟩ := HE1.out.callR hp; have sg := (fun o => run_stKg w2 w2.heap.size s.next o rfl); have E2a := E2.alloc (.cells (kcs s.next) 79); have c2 := key_any E2a.at_ E2a.gx; rw [HK.out] at c2; have HE2 := Lib.hid E2; have HE2a := Lib.hid E2a; clear hp E2 E2a) | (go_at_call 277; (with_reducible refine c2.mono ?_); intro e w3 hp; have d3 := cell_keep (ck w2) (fun hl => hp.2.2.block _ hl (by have h1 := HE2.out.gl; have h2 := HE2.out.size; simp; omega)); have x3 := cell_keep (cx w2) (fun hl => hp.2.2.block _ hl (by have h1 := HE2.out.gl; have h2 := HE2.out.size; simp; omega)); obtain ⟨rfl, E3⟩ := HE2a.out.call hp; have c4 := sees_f E3.at_ k4; have HE3 := Lib.hid E3; clear hp E3) | (go_at_call 84; (with_reducible refine c4.mono ?_); intro e w4 hp; obtain ⟨rfl, E4⟩ := HE3.out.callR hp; have d4 := cell_keep d3 (fun hl => hp.2.block _ hl); have x4 := cell_keep x3 (fun hl => hp.2.block _ hl); have cp := get_any hL E4.at_ E4.gx; have HE4 := Lib.hid E4; clear hp E4) | (go_at_call 278; (with_reducible refine cp.mono ?_); intro e w9 hp; obtain ⟨N9, rfl, E9⟩ := HE4.out.callN hp; have s9 := E9.sto 0 rfl; have HE9 := Lib.hid E9; clear hp E9))
  exact ((HE9.out.store 0 rfl _).fin List.mem_cons_self List.mem_cons_self rfl rfl)

set_option maxRecDepth 100000 in
set_option maxHeartbeats 4000000 in
theorem elem_s {d : Nat} {L : Low} (hL : LowC d L) {g : Nat} {s : PS} {w : World} (h : At g d s w) (hX : Gx g w) (k0 : seesF ⟨#[91]⟩ s = false) (hk : s.next.kind = 1) (k4 : seesF ⟨#[58]⟩ (keyF s).2 = false) (tg : eqT s.next.text ⟨#[103, 101, 116]⟩ = false) (ts : eqT s.next.text ⟨#[115, 101, 116]⟩ = true) :
    Calls Tryz.prog 273 #[.pointer (some ⟨g, 0, none⟩)] w (PostN g d w (setF L (keyF s).2)) := by
  have E0 := (Env.start h hX).new zeroN
  have c0 := takes_f E0.at_ k0
  have ck : ∀ w : World, (w.alloc (.cells (kcs s.next) 79)).cell? ⟨w.heap.size, 0, none⟩ = some (.int .i64 s.next.kind) := fun w => ((Blk.new w (kcs s.next) 79).cell 0).trans (kcs_0 _)
  have cx : ∀ w : World, (w.alloc (.cells (kcs s.next) 79)).cell? ⟨w.heap.size, 3, none⟩ = some (.string s.next.text) := fun w => ((Blk.new w (kcs s.next) 79).cell 3).trans (kcs_3 _)
  obtain ⟨K, hK⟩ : ∃ K, keyF s = K := ⟨_, rfl⟩
  rw [hK]
  rw [hK] at k4
  have HE0 := Lib.hid E0
  have e1 : (s.next.kind == 1) = true := by rw [hk]; rfl
  have qg : (s.next.text.toList == [103, 101, 116]) = false := by rw [ByteArray.toList_eq]; exact tg
  have qs : (s.next.text.toList == [115, 101, 116]) = true := by rw [ByteArray.toList_eq]; exact ts
  clear hk tg ts
  have HK := Lib.hid hK
  clear E0 h hX k0 hK
  go_enter Tryz.func273, Tryz.ntmps273
  go_wp2_with (first | (go_at_call 86; (with_reducible refine c0.mono ?_); intro e w1 hp; obtain ⟨rfl, E1⟩ := HE0.out.call hp; have c1 := next_any E1.at_; have HE1 := Lib.hid E1; clear hp E1) | (go_at_call 45; (with_reducible refine c1.mono ?_); intro e w2 hp; obtain ⟨rfl, E2⟩ := HE1.out.callR hp; have sg := (fun o => run_stKg w2 w2.heap.size s.next o rfl); have E2a := E2.alloc (.cells (kcs s.next) 79); have c2 := key_any E2a.at_ E2a.gx; rw [HK.out] at c2; have HE2 := Lib.hid E2; have HE2a := Lib.hid E2a; clear hp E2 E2a) | (go_at_call 277; (with_reducible refine c2.mono ?_); intro e w3 hp; have d3 := cell_keep (ck w2) (fun hl => hp.2.2.block _ hl (by have h1 := HE2.out.gl; have h2 := HE2.out.size; simp; omega)); have x3 := cell_keep (cx w2) (fun hl => hp.2.2.block _ hl (by have h1 := HE2.out.gl; have h2 := HE2.out.size; simp; omega)); obtain ⟨rfl, E3⟩ := HE2a.out.call hp; have c4 := sees_f E3.at_ k4; have HE3 := Lib.hid E3; clear hp E3) | (go_at_call 84; (with_reducible refine c4.mono ?_); intro e w4 hp; obtain ⟨rfl, E4⟩ := HE3.out.callR hp; have d4 := cell_keep d3 (fun hl => hp.2.block _ hl); have x4 := cell_keep x3 (fun hl => hp.2.block _ hl); have cp := set_any hL E4.at_ E4.gx; have HE4 := Lib.hid E4; clear hp E4) | (go_at_call 279; (with_reducible refine cp.mono ?_); intro e w9 hp; obtain ⟨N9, rfl, E9⟩ := HE4.out.callN hp; have s9 := E9.sto 0 rfl; have HE9 := Lib.hid E9; clear hp E9))
  exact ((HE9.out.store 0 rfl _).fin List.mem_cons_self List.mem_cons_self rfl rfl)

set_option maxRecDepth 100000 in
set_option maxHeartbeats 4000000 in
theorem elem_o {d : Nat} {L : Low} (hL : LowC d L) {g : Nat} {s : PS} {w : World} (h : At g d s w) (hX : Gx g w) (k0 : seesF ⟨#[91]⟩ s = false) (hk : s.next.kind = 1) (k4 : seesF ⟨#[58]⟩ (keyF s).2 = false) (tg : eqT s.next.text ⟨#[103, 101, 116]⟩ = false) (ts : eqT s.next.text ⟨#[115, 101, 116]⟩ = false) :
    Calls Tryz.prog 273 #[.pointer (some ⟨g, 0, none⟩)] w (PostN g d w (pairF L (.mk 2 0 (keyF s).1 [] []) (keyF s).2)) := by
  have E0 := (Env.start h hX).new zeroN
  have c0 := takes_f E0.at_ k0
  have ck : ∀ w : World, (w.alloc (.cells (kcs s.next) 79)).cell? ⟨w.heap.size, 0, none⟩ = some (.int .i64 s.next.kind) := fun w => ((Blk.new w (kcs s.next) 79).cell 0).trans (kcs_0 _)
  have cx : ∀ w : World, (w.alloc (.cells (kcs s.next) 79)).cell? ⟨w.heap.size, 3, none⟩ = some (.string s.next.text) := fun w => ((Blk.new w (kcs s.next) 79).cell 3).trans (kcs_3 _)
  obtain ⟨K, hK⟩ : ∃ K, keyF s = K := ⟨_, rfl⟩
  rw [hK]
  rw [hK] at k4
  have HE0 := Lib.hid E0
  have e1 : (s.next.kind == 1) = true := by rw [hk]; rfl
  have qg : (s.next.text.toList == [103, 101, 116]) = false := by rw [ByteArray.toList_eq]; exact tg
  have qs : (s.next.text.toList == [115, 101, 116]) = false := by rw [ByteArray.toList_eq]; exact ts
  clear hk tg ts
  have HK := Lib.hid hK
  clear E0 h hX k0 hK
  go_enter Tryz.func273, Tryz.ntmps273
  go_wp2_with (first | (go_at_call 86; (with_reducible refine c0.mono ?_); intro e w1 hp; obtain ⟨rfl, E1⟩ := HE0.out.call hp; have c1 := next_any E1.at_; have HE1 := Lib.hid E1; clear hp E1) | (go_at_call 45; (with_reducible refine c1.mono ?_); intro e w2 hp; obtain ⟨rfl, E2⟩ := HE1.out.callR hp; have sg := (fun o => run_stKg w2 w2.heap.size s.next o rfl); have E2a := E2.alloc (.cells (kcs s.next) 79); have c2 := key_any E2a.at_ E2a.gx; rw [HK.out] at c2; have HE2 := Lib.hid E2; have HE2a := Lib.hid E2a; clear hp E2 E2a) | (go_at_call 277; (with_reducible refine c2.mono ?_); intro e w3 hp; have d3 := cell_keep (ck w2) (fun hl => hp.2.2.block _ hl (by have h1 := HE2.out.gl; have h2 := HE2.out.size; simp; omega)); have x3 := cell_keep (cx w2) (fun hl => hp.2.2.block _ hl (by have h1 := HE2.out.gl; have h2 := HE2.out.size; simp; omega)); obtain ⟨rfl, E3⟩ := HE2a.out.call hp; have c4 := sees_f E3.at_ k4; have HE3 := Lib.hid E3; clear hp E3) | (go_at_call 84; (with_reducible refine c4.mono ?_); intro e w4 hp; obtain ⟨rfl, E4⟩ := HE3.out.callR hp; have d4 := cell_keep d3 (fun hl => hp.2.block _ hl); have x4 := cell_keep x3 (fun hl => hp.2.block _ hl); have E4 := E4.leaf 2 0 K.1; have cp := pair_any hL E4.at_ E4.gx E4.ne (E4.rp _ List.mem_cons_self); have HE4 := Lib.hid E4; clear hp E4) | (go_at_call 276; (with_reducible refine cp.mono ?_); intro e w9 hp; obtain ⟨N9, rfl, E9⟩ := HE4.out.callS hp (fun b hb => hb); have s9 := E9.sto 0 rfl; have HE9 := Lib.hid E9; clear hp E9))
  exact ((HE9.out.store 0 rfl _).fin List.mem_cons_self List.mem_cons_self rfl rfl)

theorem elem_any {d : Nat} {L : Low} (hL : LowC d L) {g : Nat} {s : PS} {w : World} (h : At g d s w) (hX : Gx g w) : Calls Tryz.prog 273 #[.pointer (some ⟨g, 0, none⟩)] w (PostN g d w (elemF L s)) := by
  unfold elemF
  simp only
  cases k0 : seesF ⟨#[91]⟩ s with
  | true => rw [if_pos rfl]; exact elem_b hL h hX k0
  | false =>
    rw [if_neg (by decide)]
    by_cases hk : s.next.kind = 1
    · cases k4 : seesF ⟨#[58]⟩ (keyF s).2 with
      | true => rw [if_neg (fun h => by simp at h)]; exact elem_c hL h hX k0 hk k4
      | false =>
        rw [if_pos ⟨hk, rfl⟩]
        cases tg : eqT s.next.text ⟨#[103, 101, 116]⟩ with
        | true => rw [if_pos rfl]; exact elem_g hL h hX k0 hk k4 tg
        | false =>
          rw [if_neg (by decide)]
          cases ts : eqT s.next.text ⟨#[115, 101, 116]⟩ with
          | true => rw [if_pos rfl]; exact elem_s hL h hX k0 hk k4 tg ts
          | false => rw [if_neg (by decide)]; exact elem_o hL h hX k0 hk k4 tg ts
    · rw [if_neg (fun h => hk h.1)]
      exact elem_n hL h hX k0 hk

set_option maxRecDepth 100000 in
set_option maxHeartbeats 4000000 in
theorem prim_3 {d : Nat} {L : Low} (hL : LowC d L) {g : Nat} {s : PS} {w : World} (h : At g d s w) (hX : Gx g w) (hk : s.next.kind = 3) :
    Calls Tryz.prog 268 #[.pointer (some ⟨g, 0, none⟩)] w (PostN g d w (.mk 1 s.next.num noS [] [], s.take)) := by
  have e3 : (s.next.kind == 3) = true := by rw [hk]; rfl
  have e4 : (s.next.kind == 4) = false := by rw [hk]; rfl
  have e1 : (s.next.kind == 1) = false := by rw [hk]; rfl
  have hk2 : ¬ (s.next.kind = 0 ∨ s.next.kind = -1) := by rw [hk]; decide
  have E0 := (Env.start h hX).new zeroN
  have c0 := next_any E0.at_
  have HE0 := Lib.hid E0
  have HK2 := Lib.hid hk2
  clear E0 h hX hk hk2
  go_enter Tryz.func268, Tryz.ntmps268
  go_wp2_with (first | (go_at_call 45; (with_reducible refine c0.mono ?_); intro e w1 hp; obtain ⟨rfl, E1⟩ := HE0.out.callR hp; have c1 := take_any E1.at_ HK2.out; have HE1 := Lib.hid E1; clear hp E1) | (go_at_call 139; (with_reducible refine c1.mono ?_); intro e w2 hp; obtain ⟨rfl, E2⟩ := HE1.out.call hp; have s2 := E2.sto 0 rfl; have HE2 := Lib.hid E2; clear hp E2))
  exact (((HE2.out.leaf 1 s.next.num noS).store 0 rfl _).fin List.mem_cons_self List.mem_cons_self rfl rfl)

set_option maxRecDepth 100000 in
set_option maxHeartbeats 4000000 in
theorem prim_4 {d : Nat} {L : Low} (hL : LowC d L) {g : Nat} {s : PS} {w : World} (h : At g d s w) (hX : Gx g w) (hk : s.next.kind = 4) :
    Calls Tryz.prog 268 #[.pointer (some ⟨g, 0, none⟩)] w (PostN g d w (.mk 2 0 s.next.text [] [], s.take)) := by
  have e3 : (s.next.kind == 3) = false := by rw [hk]; rfl
  have e4 : (s.next.kind == 4) = true := by rw [hk]; rfl
  have e1 : (s.next.kind == 1) = false := by rw [hk]; rfl
  have hk2 : ¬ (s.next.kind = 0 ∨ s.next.kind = -1) := by rw [hk]; decide
  have E0 := (Env.start h hX).new zeroN
  have c0 := next_any E0.at_
  have HE0 := Lib.hid E0
  have HK2 := Lib.hid hk2
  clear E0 h hX hk hk2
  go_enter Tryz.func268, Tryz.ntmps268
  go_wp2_with (first | (go_at_call 45; (with_reducible refine c0.mono ?_); intro e w1 hp; obtain ⟨rfl, E1⟩ := HE0.out.callR hp; have c1 := take_any E1.at_ HK2.out; have HE1 := Lib.hid E1; clear hp E1) | (go_at_call 139; (with_reducible refine c1.mono ?_); intro e w2 hp; obtain ⟨rfl, E2⟩ := HE1.out.call hp; have s2 := E2.sto 0 rfl; have HE2 := Lib.hid E2; clear hp E2))
  exact (((HE2.out.leaf 2 0 s.next.text).store 0 rfl _).fin List.mem_cons_self List.mem_cons_self rfl rfl)

set_option maxRecDepth 100000 in
set_option maxHeartbeats 4000000 in
theorem prim_1 {d : Nat} {L : Low} (hL : LowC d L) {g : Nat} {s : PS} {w : World} (h : At g d s w) (hX : Gx g w) (hk : s.next.kind = 1) :
    Calls Tryz.prog 268 #[.pointer (some ⟨g, 0, none⟩)] w (PostN g d w (.mk 8 0 s.next.text [] [], s.take)) := by
  have e3 : (s.next.kind == 3) = false := by rw [hk]; rfl
  have e4 : (s.next.kind == 4) = false := by rw [hk]; rfl
  have e1 : (s.next.kind == 1) = true := by rw [hk]; rfl
  have hk2 : ¬ (s.next.kind = 0 ∨ s.next.kind = -1) := by rw [hk]; decide
  have E0 := (Env.start h hX).new zeroN
  have c0 := next_any E0.at_
  have HE0 := Lib.hid E0
  have HK2 := Lib.hid hk2
  clear E0 h hX hk hk2
  go_enter Tryz.func268, Tryz.ntmps268
  go_wp2_with (first | (go_at_call 45; (with_reducible refine c0.mono ?_); intro e w1 hp; obtain ⟨rfl, E1⟩ := HE0.out.callR hp; have c1 := take_any E1.at_ HK2.out; have HE1 := Lib.hid E1; clear hp E1) | (go_at_call 139; (with_reducible refine c1.mono ?_); intro e w2 hp; obtain ⟨rfl, E2⟩ := HE1.out.call hp; have s2 := E2.sto 0 rfl; have HE2 := Lib.hid E2; clear hp E2))
  exact (((HE2.out.leaf 8 0 s.next.text).store 0 rfl _).fin List.mem_cons_self List.mem_cons_self rfl rfl)

set_option maxRecDepth 100000 in
set_option maxHeartbeats 4000000 in
theorem prim_p {d : Nat} {L : Low} (hL : LowC d L) {g : Nat} {s : PS} {w : World} (h : At g d s w) (hX : Gx g w) (h3 : s.next.kind ≠ 3) (h4 : s.next.kind ≠ 4) (h1 : s.next.kind ≠ 1) (k0 : seesF ⟨#[40]⟩ s = true) :
    Calls Tryz.prog 268 #[.pointer (some ⟨g, 0, none⟩)] w (PostN g d w (parenF L s)) := by
  have e3 : (s.next.kind == 3) = false := by simpa using h3
  have e4 : (s.next.kind == 4) = false := by simpa using h4
  have e1 : (s.next.kind == 1) = false := by simpa using h1
  have hmf := mkFn
  have hex := fun {g : Nat} {s : PS} {w : World} (h : At g d s w) (hX : Gx g w) => hL.ex h hX
  have hel := fun {g : Nat} {s : PS} {w : World} (h : At g d s w) (hX : Gx g w) => elem_any hL h hX
  have E0 := (Env.start h hX).new zeroN
  have c0 := next_any E0.at_
  have HE0 := Lib.hid E0
  clear E0 h hX h3 h4 h1
  go_enter Tryz.func268, Tryz.ntmps268
  go_wp2_with (first | (go_at_call 45; (with_reducible refine c0.mono ?_); intro e w1 hp; obtain ⟨rfl, E1⟩ := HE0.out.callR hp; have c1 := sees_t E1.at_ k0; have HE1 := Lib.hid E1; clear hp E1) | (go_at_call 84; (with_reducible refine c1.mono ?_); intro e w2 hp; obtain ⟨rfl, E2⟩ := HE1.out.callR hp; have cy := paren_any hL E2.at_ E2.gx; have HE2 := Lib.hid E2; clear hp E2) | (go_at_call 90; (with_reducible refine cy.mono ?_); intro e w3 hp; obtain ⟨N3, rfl, E3⟩ := HE2.out.callN hp; have sN := E3.sto 0 rfl; have HE3 := Lib.hid E3; clear hp E3))
  exact ((HE3.out.store 0 rfl _).fin List.mem_cons_self List.mem_cons_self rfl rfl)

set_option maxRecDepth 100000 in
set_option maxHeartbeats 4000000 in
theorem prim_a {d : Nat} {L : Low} (hL : LowC d L) {g : Nat} {s : PS} {w : World} (h : At g d s w) (hX : Gx g w) (h3 : s.next.kind ≠ 3) (h4 : s.next.kind ≠ 4) (h1 : s.next.kind ≠ 1) (k0 : seesF ⟨#[40]⟩ s = false) (k1 : seesF ⟨#[91]⟩ s = true) :
    Calls Tryz.prog 268 #[.pointer (some ⟨g, 0, none⟩)] w (PostN g d w (node 9 (listF ⟨#[93]⟩ L.ex s.take).1, (listF ⟨#[93]⟩ L.ex s.take).2)) := by
  have e3 : (s.next.kind == 3) = false := by simpa using h3
  have e4 : (s.next.kind == 4) = false := by simpa using h4
  have e1 : (s.next.kind == 1) = false := by simpa using h1
  have hmf := mkFn
  have hex := fun {g : Nat} {s : PS} {w : World} (h : At g d s w) (hX : Gx g w) => hL.ex h hX
  have hel := fun {g : Nat} {s : PS} {w : World} (h : At g d s w) (hX : Gx g w) => elem_any hL h hX
  have E0 := (Env.start h hX).new zeroN
  have c0 := next_any E0.at_
  have HE0 := Lib.hid E0
  clear E0 h hX h3 h4 h1
  go_enter Tryz.func268, Tryz.ntmps268
  go_wp2_with (first | (go_at_call 45; (with_reducible refine c0.mono ?_); intro e w1 hp; obtain ⟨rfl, E1⟩ := HE0.out.callR hp; have c1 := sees_f E1.at_ k0; have HE1 := Lib.hid E1; clear hp E1) | (go_at_call 84; (with_reducible refine c1.mono ?_); intro e w2 hp; obtain ⟨rfl, E2⟩ := HE1.out.callR hp; have c2 := takes_t E2.at_ k1; have HE2 := Lib.hid E2; clear hp E2) | (go_at_call 86; (with_reducible refine c2.mono ?_); intro e w3 hp; obtain ⟨rfl, E3⟩ := HE2.out.call hp; have cy := list_any (F := 141) (fun _ _ => by kernel_rfl) hex hL.ad.ex ⟨#[93]⟩ E3.at_ E3.gx; have HE3 := Lib.hid E3; clear hp E3) | (go_at_call 269; (with_reducible refine cy.mono ?_); intro e w4 hp; obtain ⟨S4, rfl, E4⟩ := HE3.out.callL hp 9 0 noS; have sN := fun o M => (E4.alloc o).sto 0 rfl M; have HE4 := Lib.hid E4; clear hp E4) | (go_at_call 22; (with_reducible refine (node_any _ _ _ _ _).mono ?_); rintro e wn ⟨rfl, rfl⟩))
  exact (((HE4.out.alloc _).store 0 rfl _).fin List.mem_cons_self List.mem_cons_self rfl rfl)

set_option maxRecDepth 100000 in
set_option maxHeartbeats 4000000 in
theorem prim_o {d : Nat} {L : Low} (hL : LowC d L) {g : Nat} {s : PS} {w : World} (h : At g d s w) (hX : Gx g w) (h3 : s.next.kind ≠ 3) (h4 : s.next.kind ≠ 4) (h1 : s.next.kind ≠ 1) (k0 : seesF ⟨#[40]⟩ s = false) (k1 : seesF ⟨#[91]⟩ s = false) (k2 : seesF ⟨#[123]⟩ s = true) :
    Calls Tryz.prog 268 #[.pointer (some ⟨g, 0, none⟩)] w (PostN g d w (node 10 (listF ⟨#[125]⟩ (elemF L) s.take).1, (listF ⟨#[125]⟩ (elemF L) s.take).2)) := by
  have e3 : (s.next.kind == 3) = false := by simpa using h3
  have e4 : (s.next.kind == 4) = false := by simpa using h4
  have e1 : (s.next.kind == 1) = false := by simpa using h1
  have hmf := mkFn
  have hex := fun {g : Nat} {s : PS} {w : World} (h : At g d s w) (hX : Gx g w) => hL.ex h hX
  have hel := fun {g : Nat} {s : PS} {w : World} (h : At g d s w) (hX : Gx g w) => elem_any hL h hX
  have E0 := (Env.start h hX).new zeroN
  have c0 := next_any E0.at_
  have HE0 := Lib.hid E0
  clear E0 h hX h3 h4 h1
  go_enter Tryz.func268, Tryz.ntmps268
  go_wp2_with (first | (go_at_call 45; (with_reducible refine c0.mono ?_); intro e w1 hp; obtain ⟨rfl, E1⟩ := HE0.out.callR hp; have c1 := sees_f E1.at_ k0; have HE1 := Lib.hid E1; clear hp E1) | (go_at_call 84; (with_reducible refine c1.mono ?_); intro e w2 hp; obtain ⟨rfl, E2⟩ := HE1.out.callR hp; have c2 := takes_f E2.at_ k1; have HE2 := Lib.hid E2; clear hp E2) | (go_at_call 86; (with_reducible refine c2.mono ?_); intro e w3 hp; obtain ⟨rfl, E3⟩ := HE2.out.call hp; have c3 := takes_t E3.at_ k2; have HE3 := Lib.hid E3; clear hp E3) | (go_at_call 86; (with_reducible refine c3.mono ?_); intro e w4 hp; obtain ⟨rfl, E4⟩ := HE3.out.call hp; have cy := list_any (F := 273) (fun _ _ => by kernel_rfl) hel (elem_adv hL.ad) ⟨#[125]⟩ E4.at_ E4.gx; have HE4 := Lib.hid E4; clear hp E4) | (go_at_call 269; (with_reducible refine cy.mono ?_); intro e w5 hp; obtain ⟨S5, rfl, E5⟩ := HE4.out.callL hp 10 0 noS; have sN := fun o M => (E5.alloc o).sto 0 rfl M; have HE5 := Lib.hid E5; clear hp E5) | (go_at_call 22; (with_reducible refine (node_any _ _ _ _ _).mono ?_); rintro e wn ⟨rfl, rfl⟩))
  exact (((HE5.out.alloc _).store 0 rfl _).fin List.mem_cons_self List.mem_cons_self rfl rfl)

set_option maxRecDepth 100000 in
set_option maxHeartbeats 4000000 in
theorem prim_f {d : Nat} {L : Low} (hL : LowC d L) {g : Nat} {s : PS} {w : World} (h : At g d s w) (hX : Gx g w) (h3 : s.next.kind ≠ 3) (h4 : s.next.kind ≠ 4) (h1 : s.next.kind ≠ 1) (k0 : seesF ⟨#[40]⟩ s = false) (k1 : seesF ⟨#[91]⟩ s = false) (k2 : seesF ⟨#[123]⟩ s = false) (k3 : seesF ⟨#[102, 117, 110, 99, 116, 105, 111, 110]⟩ s = true) :
    Calls Tryz.prog 268 #[.pointer (some ⟨g, 0, none⟩)] w (PostN g d w (funcF L (optF s.take).1 (optF s.take).2)) := by
  have e3 : (s.next.kind == 3) = false := by simpa using h3
  have e4 : (s.next.kind == 4) = false := by simpa using h4
  have e1 : (s.next.kind == 1) = false := by simpa using h1
  have hmf := mkFn
  have hex := fun {g : Nat} {s : PS} {w : World} (h : At g d s w) (hX : Gx g w) => hL.ex h hX
  have hel := fun {g : Nat} {s : PS} {w : World} (h : At g d s w) (hX : Gx g w) => elem_any hL h hX
  have E0 := (Env.start h hX).new zeroN
  have c0 := next_any E0.at_
  have HE0 := Lib.hid E0
  clear E0 h hX h3 h4 h1
  go_enter Tryz.func268, Tryz.ntmps268
  go_wp2_with (first | (go_at_call 45; (with_reducible refine c0.mono ?_); intro e w1 hp; obtain ⟨rfl, E1⟩ := HE0.out.callR hp; have c1 := sees_f E1.at_ k0; have HE1 := Lib.hid E1; clear hp E1) | (go_at_call 84; (with_reducible refine c1.mono ?_); intro e w2 hp; obtain ⟨rfl, E2⟩ := HE1.out.callR hp; have c2 := takes_f E2.at_ k1; have HE2 := Lib.hid E2; clear hp E2) | (go_at_call 86; (with_reducible refine c2.mono ?_); intro e w3 hp; obtain ⟨rfl, E3⟩ := HE2.out.call hp; have c3 := takes_f E3.at_ k2; have HE3 := Lib.hid E3; clear hp E3) | (go_at_call 86; (with_reducible refine c3.mono ?_); intro e w4 hp; obtain ⟨rfl, E4⟩ := HE3.out.call hp; have c4 := takes_t E4.at_ k3; have HE4 := Lib.hid E4; clear hp E4) | (go_at_call 86; (with_reducible refine c4.mono ?_); intro e w5 hp; obtain ⟨rfl, E5⟩ := HE4.out.call hp; have cy := opt_any E5.at_; have HE5 := Lib.hid E5; clear hp E5) | (go_at_call 274; (with_reducible refine cy.mono ?_); intro e w6 hp; obtain ⟨rfl, E6⟩ := HE5.out.call hp; have cz := func_any hL E6.at_ E6.gx (optF s.take).1; have HE6 := Lib.hid E6; clear hp E6) | (go_at_call 87; (with_reducible refine cz.mono ?_); intro e w7 hp; obtain ⟨N7, rfl, E7⟩ := HE6.out.callN hp; have sN := E7.sto 0 rfl; have HE7 := Lib.hid E7; clear hp E7))
  exact ((HE7.out.store 0 rfl _).fin List.mem_cons_self List.mem_cons_self rfl rfl)

set_option maxRecDepth 100000 in
set_option maxHeartbeats 4000000 in
theorem prim_l {d : Nat} {L : Low} (hL : LowC d L) {g : Nat} {s : PS} {w : World} (h : At g d s w) (hX : Gx g w) (h3 : s.next.kind ≠ 3) (h4 : s.next.kind ≠ 4) (h1 : s.next.kind ≠ 1) (k0 : seesF ⟨#[40]⟩ s = false) (k1 : seesF ⟨#[91]⟩ s = false) (k2 : seesF ⟨#[123]⟩ s = false) (k3 : seesF ⟨#[102, 117, 110, 99, 116, 105, 111, 110]⟩ s = false) :
    Calls Tryz.prog 268 #[.pointer (some ⟨g, 0, none⟩)] w (PostN g d w (litF s)) := by
  have e3 : (s.next.kind == 3) = false := by simpa using h3
  have e4 : (s.next.kind == 4) = false := by simpa using h4
  have e1 : (s.next.kind == 1) = false := by simpa using h1
  have hmf := mkFn
  have hex := fun {g : Nat} {s : PS} {w : World} (h : At g d s w) (hX : Gx g w) => hL.ex h hX
  have hel := fun {g : Nat} {s : PS} {w : World} (h : At g d s w) (hX : Gx g w) => elem_any hL h hX
  have E0 := (Env.start h hX).new zeroN
  have c0 := next_any E0.at_
  have HE0 := Lib.hid E0
  clear E0 h hX h3 h4 h1
  go_enter Tryz.func268, Tryz.ntmps268
  go_wp2_with (first | (go_at_call 45; (with_reducible refine c0.mono ?_); intro e w1 hp; obtain ⟨rfl, E1⟩ := HE0.out.callR hp; have c1 := sees_f E1.at_ k0; have HE1 := Lib.hid E1; clear hp E1) | (go_at_call 84; (with_reducible refine c1.mono ?_); intro e w2 hp; obtain ⟨rfl, E2⟩ := HE1.out.callR hp; have c2 := takes_f E2.at_ k1; have HE2 := Lib.hid E2; clear hp E2) | (go_at_call 86; (with_reducible refine c2.mono ?_); intro e w3 hp; obtain ⟨rfl, E3⟩ := HE2.out.call hp; have c3 := takes_f E3.at_ k2; have HE3 := Lib.hid E3; clear hp E3) | (go_at_call 86; (with_reducible refine c3.mono ?_); intro e w4 hp; obtain ⟨rfl, E4⟩ := HE3.out.call hp; have c4 := takes_f E4.at_ k3; have HE4 := Lib.hid E4; clear hp E4) | (go_at_call 86; (with_reducible refine c4.mono ?_); intro e w5 hp; obtain ⟨rfl, E5⟩ := HE4.out.call hp; have cy := lit_any E5.at_ E5.gx; have HE5 := Lib.hid E5; clear hp E5) | (go_at_call 275; (with_reducible refine cy.mono ?_); intro e w6 hp; obtain ⟨N6, rfl, E6⟩ := HE5.out.callN hp; have sN := E6.sto 0 rfl; have HE6 := Lib.hid E6; clear hp E6))
  exact ((HE6.out.store 0 rfl _).fin List.mem_cons_self List.mem_cons_self rfl rfl)

theorem prim_any {d : Nat} {L : Low} (hL : LowC d L) {g : Nat} {s : PS} {w : World} (h : At g d s w) (hX : Gx g w) : Calls Tryz.prog 268 #[.pointer (some ⟨g, 0, none⟩)] w (PostN g d w (primF L s)) := by
  unfold primF
  simp only
  by_cases h3 : s.next.kind = 3
  · rw [if_pos h3]; exact prim_3 hL h hX h3
  rw [if_neg h3]
  by_cases h4 : s.next.kind = 4
  · rw [if_pos h4]; exact prim_4 hL h hX h4
  rw [if_neg h4]
  by_cases h1 : s.next.kind = 1
  · rw [if_pos h1]; exact prim_1 hL h hX h1
  rw [if_neg h1]
  cases k0 : seesF ⟨#[40]⟩ s with
  | true => rw [if_pos rfl]; exact prim_p hL h hX h3 h4 h1 k0
  | false =>
  rw [if_neg (by decide)]
  cases k1 : seesF ⟨#[91]⟩ s with
  | true => rw [if_pos rfl]; exact prim_a hL h hX h3 h4 h1 k0 k1
  | false =>
  rw [if_neg (by decide)]
  cases k2 : seesF ⟨#[123]⟩ s with
  | true => rw [if_pos rfl]; exact prim_o hL h hX h3 h4 h1 k0 k1 k2
  | false =>
  rw [if_neg (by decide)]
  cases k3 : seesF ⟨#[102, 117, 110, 99, 116, 105, 111, 110]⟩ s with
  | true => rw [if_pos rfl]; exact prim_f hL h hX h3 h4 h1 k0 k1 k2 k3
  | false =>
  rw [if_neg (by decide)]
  exact prim_l hL h hX h3 h4 h1 k0 k1 k2 k3

end Go.Proofs.YtkknglmpdmhhjaaGreatDoor.Pa
