/-
  attempt.
-/
import Derived.Test.YtkknglmpdmhhjaaGreatDoorMg26
import Derived.Laws.OwnMore
import Derived.Deep.RegionLaw
namespace Go.Proofs.YtkknglmpdmhhjaaGreatDoor.Pa
open Go Go.RowKit Go.Proofs.YtkknglmpdmhhjaaGreatDoor.Lx Go.Proofs.YtkknglmpdmhhjaaGreatDoor.Uni
set_option linter.unusedVariables false
set_option linter.unusedSimpArgs false
attribute [local go_sem ↓] ldK stK alK bdK bsK ldN stN alN bdN bsN
attribute [local irreducible] kcs ncs ncells
attribute [local go_sem] run_alK run_bdK0 run_bdKs run_bdKn run_bdKe run_bsK run_fdK0 run_fdK1 run_fdK2 run_fdK3 run_fdN4 run_alN run_stNg run_ldNg run_bdN0 run_bdN04 run_bdN02 run_bdN01 run_bdN024 run_bdN03 run_bdN0234 run_bsN1 run_bsN2 run_bsN3

theorem choice_any {d : Nat} {L : Low} (hL : LowC d L) {g : Nat} {s : PS} {w : World} (h : At g d s w) (hX : Gx g w) : Calls Tryz.prog 89 #[.pointer (some ⟨g, 0, none⟩)] w (PostN g d w (choiceF L s)) := by
  cases hk : seesF ⟨#[101, 108, 115, 101]⟩ (L.st (parenF L s).2).2 with
  | true => exact choice_true hL h hX hk
  | false => exact choice_false hL h hX hk
theorem GrowX.cell {S0 : Nat → Prop} {w0 W : World} {bs : List (Nat × Nd)} {ts : List Tree} {xs : List Nd} {v : Value} (G : GrowX (Own S0 w0.heap.size (bs.map Prod.fst)) w0.heap.size W ts xs v) (i : Nat) {b : Nat} {o : Nd} (hi : bs[i]? = some (b, o)) (j : Nat) (u : Value) {bs' : List (Nat × Nd)} (hb : bs'.map Prod.fst = bs.map Prod.fst) : GrowX (Own S0 w0.heap.size (bs'.map Prod.fst)) w0.heap.size (W.setCell ⟨b, j, none⟩ u) ts xs v := by
  rw [hb]
  exact G.frame fun c hc hS => ⟨hS, heap_setCell_other W ⟨b, j, none⟩ c u (fun e => hS.2 (List.mem_map.2 ⟨_, List.mem_of_getElem? hi, e.symm⟩))⟩
theorem GrowX.drew {S : Nat → Prop} {lo : Nat} {W : World} {ts : List Tree} {xs : List Nd} {v : Value} (G : GrowX S lo W ts xs v) : GrowX S lo W.drew ts xs v := G.frame fun b hb hS => ⟨hS, rfl⟩

set_option maxRecDepth 100000 in
set_option maxHeartbeats 4000000 in
theorem try_11 {d : Nat} {L : Low} (hL : LowC d L) {g : Nat} {s : PS} {w : World} (h : At g d s w) (hX : Gx g w) (k1 : seesF ⟨#[99, 97, 116, 99, 104]⟩ (blockF L s).2 = true) (k2 : seesF ⟨#[102, 105, 110, 97, 108, 108, 121]⟩ (handF L (blockF L s).2.take).2 = true) :
    Calls Tryz.prog 91 #[.pointer (some ⟨g, 0, none⟩)] w (PostN g d w (.mk 38 3 noS [] [(blockF L s).1, (handF L (blockF L s).2.take).1, (blockF L (handF L (blockF L s).2.take).2.take).1], (blockF L (handF L (blockF L s).2.take).2.take).2)) := by
  have E0 := (Env.start h hX).new zeroN
  have c0 := block_any hL E0.at_ E0.gx
  have HE0 := Lib.hid E0
  have b01 : bits .or .i64 0 1 = 1 := by decide +kernel
  have b02 : bits .or .i64 0 2 = 2 := by decide +kernel
  have b12 : bits .or .i64 1 2 = 3 := by decide +kernel
  clear E0 h hX
  go_enter Tryz.func91, Tryz.ntmps91
  go_wp2_with (first | (go_at_call 85; (with_reducible refine c0.mono ?_); intro e w1 hp; obtain ⟨N1, rfl, E1⟩ := HE0.out.callN hp; have sg := run_stNk (W := (w1.alloc (.cells (ncells [N1]).toArray 27)).alloc (.cells (ncs (kidN 38 (newSl w1.heap.size 1))) 27)) (b := w1.heap.size + 1 + 1) (by simp); have HE1 := Lib.hid E1; clear hp E1) | (go_at_call 22; (with_reducible refine (node_any _ _ _ _ _).mono ?_); rintro e wn ⟨rfl, rfl⟩) | (go_at_call 86; refine Hid.out ?_))
  refine Lib.hid ?_
  have E1 := HE1.out
  have r1 := E1.rp _ List.mem_cons_self
  have G := GrowX.new (m := 1) (ts := [(blockF L s).1]) (xs := [N1]) (by unfold Reps; exact ⟨r1, by unfold Reps; trivial⟩) E1.own_new E1.size rfl (by omega)
  have E2 := ((E1.kids1 List.mem_cons_self 38 0 noS).alloc (.cells (ncs (kidN 38 (newSl w1.heap.size 1))) 27)).newAt (kidN 38 (newSl w1.heap.size 1)) (b := w1.heap.size + 1 + 1) (by simp)
  have c2 := takes_t E2.at_ k1
  have HE2 := Lib.hid E2
  have HG2 := Lib.hid ((G.alloc (.cells (ncs (kidN 38 (newSl w1.heap.size 1))) 27)).local (kidN 38 (newSl w1.heap.size 1)) (b := w1.heap.size + 1 + 1) (by simp))
  clear G E1 E2 r1
  go_wp2_with ((go_at_call 86; (with_reducible refine c2.mono ?_); intro e w3 hp; obtain ⟨rfl, E3⟩ := HE2.out.call hp; have G3 := HG2.out.gb HE2.out hp.2.2; have HG4 := Lib.hid ((G3.cell 0 rfl 1 (.int .i64 1) (bs' := [(w1.heap.size + 1 + 1, ⟨38, 1, noS, nilSl, newSl w1.heap.size 1⟩), (w.heap.size, zeroN)]) rfl).drew); clear G3; have n3 : w3.cell? ⟨w1.heap.size + 1 + 1, 1, none⟩ = some (.int .i64 0) := E3.c1 0 rfl; have f3 := E3.fz 0 rfl 1; have E4 := (E3.set1 0 rfl 1).drew1; have c4 := hand_any hL E4.at_ E4.gx; have d4 : (w3.setCell ⟨w1.heap.size + 1 + 1, 1, none⟩ (.int .i64 1)).drew.cell? ⟨w1.heap.size + 1 + 1, 4, none⟩ = some (.slice (some ⟨w1.heap.size, 0, none⟩) 1 1) := E4.c4 0 rfl; have HE4 := Lib.hid E4; clear E4; have HE3 := Lib.hid E3; clear hp E3))
  go_region_law (first | (go_simp; go_at_call 142; (with_reducible refine c4.mono ?_); intro e v6 hp; obtain ⟨M6, a6, n6, cc6, u6, rfl, E5, hrun6, E6, G6⟩ := app_facts HE4.out HG4.out hp (by simp); have d5 : v6.cell? ⟨w1.heap.size + 1 + 1, 4, none⟩ = some (.slice (some ⟨w1.heap.size, 0, none⟩) 1 1) := E5.c4 0 rfl; have d5a : ∀ o, (v6.alloc o).cell? ⟨w1.heap.size + 1 + 1, 4, none⟩ = some (.slice (some ⟨w1.heap.size, 0, none⟩) 1 1) := fun o => (E5.alloc o).c4 0 rfl; have f6 := E6.fz 0 rfl 4; have d6 := E6.c4 0 rfl; have E7 := (E6.ofGrow G6 38 1 noS).set4 0 rfl a6 n6 cc6; have c7 := takes_t E7.at_ k2; have HE7 := Lib.hid E7; have HG7 := Lib.hid (G6.cell 0 rfl 4 (.slice a6 n6 cc6) (bs' := [(w1.heap.size + 1 + 1, ⟨38, 1, noS, nilSl, ⟨a6, n6, cc6⟩⟩), (w.heap.size, zeroN)]) rfl); clear hp E5 E6 G6 E7; dsimp only) | (refine step_app rfl (.tmp 15) (.tmp 18) 25 rfl rfl _ _ _ (by simp [Act.eval, Act.put]) (by simp [Act.eval, Act.put]) hrun6 ?_))
  all_goals go_wp2_with ((go_at_call 86; (with_reducible refine c7.mono ?_); intro e w8 hp; obtain ⟨rfl, E8⟩ := HE7.out.call hp; have G8 := HG7.out.gb HE7.out hp.2.2; have HG9 := Lib.hid ((G8.cell 0 rfl 1 (.int .i64 3) (bs' := [(w1.heap.size + 1 + 1, ⟨38, 3, noS, nilSl, ⟨a6, n6, cc6⟩⟩), (w.heap.size, zeroN)]) rfl).drew); clear G8; have n8 : w8.cell? ⟨w1.heap.size + 1 + 1, 1, none⟩ = some (.int .i64 1) := E8.c1 0 rfl; have f8 := E8.fz 0 rfl 1; have E9 := (E8.set1 0 rfl 3).drew1; have c9 := block_any hL E9.at_ E9.gx; have d9 : (w8.setCell ⟨w1.heap.size + 1 + 1, 1, none⟩ (.int .i64 3)).drew.cell? ⟨w1.heap.size + 1 + 1, 4, none⟩ = some (.slice a6 n6 cc6) := E9.c4 0 rfl; have HE9 := Lib.hid E9; clear E9; have HE8 := Lib.hid E8; clear hp E8))
  all_goals go_region_law (first | (go_simp; go_at_call 85; (with_reducible refine c9.mono ?_); intro e v16 hp; obtain ⟨M16, a16, n16, cc16, u16, rfl, E5, hrun16, E6, G6⟩ := app_facts HE9.out HG9.out hp (by simp); have d5 : v16.cell? ⟨w1.heap.size + 1 + 1, 4, none⟩ = some (.slice a6 n6 cc6) := E5.c4 0 rfl; have d5a : ∀ o, (v16.alloc o).cell? ⟨w1.heap.size + 1 + 1, 4, none⟩ = some (.slice a6 n6 cc6) := fun o => (E5.alloc o).c4 0 rfl; have f6 := E6.fz 0 rfl 4; have d6 := E6.c4 0 rfl; have E7 := (E6.ofGrow G6 38 3 noS).set4 0 rfl a16 n16 cc16; have l17 := E7.ld 0 rfl; have s17 := E7.sto 1 rfl; have n17 : (u16.setCell ⟨w1.heap.size + 1 + 1, 4, none⟩ (.slice a16 n16 cc16)).cell? ⟨w1.heap.size + 1 + 1, 1, none⟩ = some (.int .i64 3) := E7.c1 0 rfl; have HE17 := Lib.hid E7; clear hp E5 E6 G6 E7; dsimp only) | (refine step_app rfl (.tmp 28) (.tmp 31) 25 rfl rfl _ _ _ (by simp [Act.eval, Act.put]) (by simp [Act.eval, Act.put]) hrun16 ?_))
  all_goals go_wp2
  all_goals exact ((HE17.out.store 1 rfl _).fin (List.mem_cons_of_mem _ List.mem_cons_self) List.mem_cons_self rfl rfl)

set_option maxRecDepth 100000 in
set_option maxHeartbeats 4000000 in
theorem try_10 {d : Nat} {L : Low} (hL : LowC d L) {g : Nat} {s : PS} {w : World} (h : At g d s w) (hX : Gx g w) (k1 : seesF ⟨#[99, 97, 116, 99, 104]⟩ (blockF L s).2 = true) (k2 : seesF ⟨#[102, 105, 110, 97, 108, 108, 121]⟩ (handF L (blockF L s).2.take).2 = false) :
    Calls Tryz.prog 91 #[.pointer (some ⟨g, 0, none⟩)] w (PostN g d w (.mk 38 1 noS [] [(blockF L s).1, (handF L (blockF L s).2.take).1], (handF L (blockF L s).2.take).2)) := by
  have E0 := (Env.start h hX).new zeroN
  have c0 := block_any hL E0.at_ E0.gx
  have HE0 := Lib.hid E0
  have b01 : bits .or .i64 0 1 = 1 := by decide +kernel
  have b02 : bits .or .i64 0 2 = 2 := by decide +kernel
  have b12 : bits .or .i64 1 2 = 3 := by decide +kernel
  clear E0 h hX
  go_enter Tryz.func91, Tryz.ntmps91
  go_wp2_with (first | (go_at_call 85; (with_reducible refine c0.mono ?_); intro e w1 hp; obtain ⟨N1, rfl, E1⟩ := HE0.out.callN hp; have sg := run_stNk (W := (w1.alloc (.cells (ncells [N1]).toArray 27)).alloc (.cells (ncs (kidN 38 (newSl w1.heap.size 1))) 27)) (b := w1.heap.size + 1 + 1) (by simp); have HE1 := Lib.hid E1; clear hp E1) | (go_at_call 22; (with_reducible refine (node_any _ _ _ _ _).mono ?_); rintro e wn ⟨rfl, rfl⟩) | (go_at_call 86; refine Hid.out ?_))
  refine Lib.hid ?_
  have E1 := HE1.out
  have r1 := E1.rp _ List.mem_cons_self
  have G := GrowX.new (m := 1) (ts := [(blockF L s).1]) (xs := [N1]) (by unfold Reps; exact ⟨r1, by unfold Reps; trivial⟩) E1.own_new E1.size rfl (by omega)
  have E2 := ((E1.kids1 List.mem_cons_self 38 0 noS).alloc (.cells (ncs (kidN 38 (newSl w1.heap.size 1))) 27)).newAt (kidN 38 (newSl w1.heap.size 1)) (b := w1.heap.size + 1 + 1) (by simp)
  have c2 := takes_t E2.at_ k1
  have HE2 := Lib.hid E2
  have HG2 := Lib.hid ((G.alloc (.cells (ncs (kidN 38 (newSl w1.heap.size 1))) 27)).local (kidN 38 (newSl w1.heap.size 1)) (b := w1.heap.size + 1 + 1) (by simp))
  clear G E1 E2 r1
  go_wp2_with ((go_at_call 86; (with_reducible refine c2.mono ?_); intro e w3 hp; obtain ⟨rfl, E3⟩ := HE2.out.call hp; have G3 := HG2.out.gb HE2.out hp.2.2; have HG4 := Lib.hid ((G3.cell 0 rfl 1 (.int .i64 1) (bs' := [(w1.heap.size + 1 + 1, ⟨38, 1, noS, nilSl, newSl w1.heap.size 1⟩), (w.heap.size, zeroN)]) rfl).drew); clear G3; have n3 : w3.cell? ⟨w1.heap.size + 1 + 1, 1, none⟩ = some (.int .i64 0) := E3.c1 0 rfl; have f3 := E3.fz 0 rfl 1; have E4 := (E3.set1 0 rfl 1).drew1; have c4 := hand_any hL E4.at_ E4.gx; have d4 : (w3.setCell ⟨w1.heap.size + 1 + 1, 1, none⟩ (.int .i64 1)).drew.cell? ⟨w1.heap.size + 1 + 1, 4, none⟩ = some (.slice (some ⟨w1.heap.size, 0, none⟩) 1 1) := E4.c4 0 rfl; have HE4 := Lib.hid E4; clear E4; have HE3 := Lib.hid E3; clear hp E3))
  go_region_law (first | (go_simp; go_at_call 142; (with_reducible refine c4.mono ?_); intro e v6 hp; obtain ⟨M6, a6, n6, cc6, u6, rfl, E5, hrun6, E6, G6⟩ := app_facts HE4.out HG4.out hp (by simp); have d5 : v6.cell? ⟨w1.heap.size + 1 + 1, 4, none⟩ = some (.slice (some ⟨w1.heap.size, 0, none⟩) 1 1) := E5.c4 0 rfl; have d5a : ∀ o, (v6.alloc o).cell? ⟨w1.heap.size + 1 + 1, 4, none⟩ = some (.slice (some ⟨w1.heap.size, 0, none⟩) 1 1) := fun o => (E5.alloc o).c4 0 rfl; have f6 := E6.fz 0 rfl 4; have d6 := E6.c4 0 rfl; have E7 := (E6.ofGrow G6 38 1 noS).set4 0 rfl a6 n6 cc6; have c7 := takes_f E7.at_ k2; have HE7 := Lib.hid E7; have HG7 := Lib.hid (G6.cell 0 rfl 4 (.slice a6 n6 cc6) (bs' := [(w1.heap.size + 1 + 1, ⟨38, 1, noS, nilSl, ⟨a6, n6, cc6⟩⟩), (w.heap.size, zeroN)]) rfl); clear hp E5 E6 G6 E7; dsimp only) | (refine step_app rfl (.tmp 15) (.tmp 18) 25 rfl rfl _ _ _ (by simp [Act.eval, Act.put]) (by simp [Act.eval, Act.put]) hrun6 ?_))
  all_goals go_wp2_with ((go_at_call 86; (with_reducible refine c7.mono ?_); intro e w8 hp; obtain ⟨rfl, E8⟩ := HE7.out.call hp; have n8 : w8.cell? ⟨w1.heap.size + 1 + 1, 1, none⟩ = some (.int .i64 1) := E8.c1 0 rfl; have l8 := E8.ld 0 rfl; have s8 := E8.sto 1 rfl; have HE8 := Lib.hid E8; clear hp E8))
  all_goals exact ((HE8.out.store 1 rfl _).fin (List.mem_cons_of_mem _ List.mem_cons_self) List.mem_cons_self rfl rfl)

set_option maxRecDepth 100000 in
set_option maxHeartbeats 4000000 in
theorem try_01 {d : Nat} {L : Low} (hL : LowC d L) {g : Nat} {s : PS} {w : World} (h : At g d s w) (hX : Gx g w) (k1 : seesF ⟨#[99, 97, 116, 99, 104]⟩ (blockF L s).2 = false) (k2 : seesF ⟨#[102, 105, 110, 97, 108, 108, 121]⟩ (blockF L s).2 = true) :
    Calls Tryz.prog 91 #[.pointer (some ⟨g, 0, none⟩)] w (PostN g d w (.mk 38 2 noS [] [(blockF L s).1, (blockF L (blockF L s).2.take).1], (blockF L (blockF L s).2.take).2)) := by
  have E0 := (Env.start h hX).new zeroN
  have c0 := block_any hL E0.at_ E0.gx
  have HE0 := Lib.hid E0
  have b01 : bits .or .i64 0 1 = 1 := by decide +kernel
  have b02 : bits .or .i64 0 2 = 2 := by decide +kernel
  have b12 : bits .or .i64 1 2 = 3 := by decide +kernel
  clear E0 h hX
  go_enter Tryz.func91, Tryz.ntmps91
  go_wp2_with (first | (go_at_call 85; (with_reducible refine c0.mono ?_); intro e w1 hp; obtain ⟨N1, rfl, E1⟩ := HE0.out.callN hp; have sg := run_stNk (W := (w1.alloc (.cells (ncells [N1]).toArray 27)).alloc (.cells (ncs (kidN 38 (newSl w1.heap.size 1))) 27)) (b := w1.heap.size + 1 + 1) (by simp); have HE1 := Lib.hid E1; clear hp E1) | (go_at_call 22; (with_reducible refine (node_any _ _ _ _ _).mono ?_); rintro e wn ⟨rfl, rfl⟩) | (go_at_call 86; refine Hid.out ?_))
  refine Lib.hid ?_
  have E1 := HE1.out
  have r1 := E1.rp _ List.mem_cons_self
  have G := GrowX.new (m := 1) (ts := [(blockF L s).1]) (xs := [N1]) (by unfold Reps; exact ⟨r1, by unfold Reps; trivial⟩) E1.own_new E1.size rfl (by omega)
  have E2 := ((E1.kids1 List.mem_cons_self 38 0 noS).alloc (.cells (ncs (kidN 38 (newSl w1.heap.size 1))) 27)).newAt (kidN 38 (newSl w1.heap.size 1)) (b := w1.heap.size + 1 + 1) (by simp)
  have c2 := takes_f E2.at_ k1
  have HE2 := Lib.hid E2
  have HG2 := Lib.hid ((G.alloc (.cells (ncs (kidN 38 (newSl w1.heap.size 1))) 27)).local (kidN 38 (newSl w1.heap.size 1)) (b := w1.heap.size + 1 + 1) (by simp))
  clear G E1 E2 r1
  go_wp2_with (first | (go_at_call 86; (with_reducible refine c2.mono ?_); intro e w7 hp; obtain ⟨rfl, E7⟩ := HE2.out.call hp; have HG7 := Lib.hid (HG2.out.gb HE2.out hp.2.2); have c7 := takes_t E7.at_ k2; have HE7 := Lib.hid E7; clear hp E7) | (go_at_call 86; (with_reducible refine c7.mono ?_); intro e w8 hp; obtain ⟨rfl, E8⟩ := HE7.out.call hp; have G8 := HG7.out.gb HE7.out hp.2.2; have HG9 := Lib.hid ((G8.cell 0 rfl 1 (.int .i64 2) (bs' := [(w1.heap.size + 1 + 1, ⟨38, 2, noS, nilSl, newSl w1.heap.size 1⟩), (w.heap.size, zeroN)]) rfl).drew); clear G8; have n8 : w8.cell? ⟨w1.heap.size + 1 + 1, 1, none⟩ = some (.int .i64 0) := E8.c1 0 rfl; have f8 := E8.fz 0 rfl 1; have E9 := (E8.set1 0 rfl 2).drew1; have c9 := block_any hL E9.at_ E9.gx; have d9 : (w8.setCell ⟨w1.heap.size + 1 + 1, 1, none⟩ (.int .i64 2)).drew.cell? ⟨w1.heap.size + 1 + 1, 4, none⟩ = some (.slice (some ⟨w1.heap.size, 0, none⟩) 1 1) := E9.c4 0 rfl; have HE9 := Lib.hid E9; clear E9; have HE8 := Lib.hid E8; clear hp E8))
  go_region_law (first | (go_simp; go_at_call 85; (with_reducible refine c9.mono ?_); intro e v16 hp; obtain ⟨M16, a16, n16, cc16, u16, rfl, E5, hrun16, E6, G6⟩ := app_facts HE9.out HG9.out hp (by simp); have d5 : v16.cell? ⟨w1.heap.size + 1 + 1, 4, none⟩ = some (.slice (some ⟨w1.heap.size, 0, none⟩) 1 1) := E5.c4 0 rfl; have d5a : ∀ o, (v16.alloc o).cell? ⟨w1.heap.size + 1 + 1, 4, none⟩ = some (.slice (some ⟨w1.heap.size, 0, none⟩) 1 1) := fun o => (E5.alloc o).c4 0 rfl; have f6 := E6.fz 0 rfl 4; have d6 := E6.c4 0 rfl; have E7 := (E6.ofGrow G6 38 2 noS).set4 0 rfl a16 n16 cc16; have l17 := E7.ld 0 rfl; have s17 := E7.sto 1 rfl; have n17 : (u16.setCell ⟨w1.heap.size + 1 + 1, 4, none⟩ (.slice a16 n16 cc16)).cell? ⟨w1.heap.size + 1 + 1, 1, none⟩ = some (.int .i64 2) := E7.c1 0 rfl; have HE17 := Lib.hid E7; clear hp E5 E6 G6 E7; dsimp only) | (refine step_app rfl (.tmp 28) (.tmp 31) 25 rfl rfl _ _ _ (by simp [Act.eval, Act.put]) (by simp [Act.eval, Act.put]) hrun16 ?_))
  all_goals go_wp2
  all_goals exact ((HE17.out.store 1 rfl _).fin (List.mem_cons_of_mem _ List.mem_cons_self) List.mem_cons_self rfl rfl)

set_option maxRecDepth 100000 in
set_option maxHeartbeats 4000000 in
theorem try_00 {d : Nat} {L : Low} (hL : LowC d L) {g : Nat} {s : PS} {w : World} (h : At g d s w) (hX : Gx g w) (k1 : seesF ⟨#[99, 97, 116, 99, 104]⟩ (blockF L s).2 = false) (k2 : seesF ⟨#[102, 105, 110, 97, 108, 108, 121]⟩ (blockF L s).2 = false) :
    Calls Tryz.prog 91 #[.pointer (some ⟨g, 0, none⟩)] w (PostN g d w (.mk 38 0 noS [] [(blockF L s).1], (blockF L s).2.fail 2)) := by
  have E0 := (Env.start h hX).new zeroN
  have c0 := block_any hL E0.at_ E0.gx
  have HE0 := Lib.hid E0
  have b01 : bits .or .i64 0 1 = 1 := by decide +kernel
  have b02 : bits .or .i64 0 2 = 2 := by decide +kernel
  have b12 : bits .or .i64 1 2 = 3 := by decide +kernel
  clear E0 h hX
  go_enter Tryz.func91, Tryz.ntmps91
  go_wp2_with (first | (go_at_call 85; (with_reducible refine c0.mono ?_); intro e w1 hp; obtain ⟨N1, rfl, E1⟩ := HE0.out.callN hp; have sg := run_stNk (W := (w1.alloc (.cells (ncells [N1]).toArray 27)).alloc (.cells (ncs (kidN 38 (newSl w1.heap.size 1))) 27)) (b := w1.heap.size + 1 + 1) (by simp); have HE1 := Lib.hid E1; clear hp E1) | (go_at_call 22; (with_reducible refine (node_any _ _ _ _ _).mono ?_); rintro e wn ⟨rfl, rfl⟩) | (go_at_call 86; refine Hid.out ?_))
  refine Lib.hid ?_
  have E1 := HE1.out
  have r1 := E1.rp _ List.mem_cons_self
  have G := GrowX.new (m := 1) (ts := [(blockF L s).1]) (xs := [N1]) (by unfold Reps; exact ⟨r1, by unfold Reps; trivial⟩) E1.own_new E1.size rfl (by omega)
  have E2 := ((E1.kids1 List.mem_cons_self 38 0 noS).alloc (.cells (ncs (kidN 38 (newSl w1.heap.size 1))) 27)).newAt (kidN 38 (newSl w1.heap.size 1)) (b := w1.heap.size + 1 + 1) (by simp)
  have c2 := takes_f E2.at_ k1
  have HE2 := Lib.hid E2
  have HG2 := Lib.hid ((G.alloc (.cells (ncs (kidN 38 (newSl w1.heap.size 1))) 27)).local (kidN 38 (newSl w1.heap.size 1)) (b := w1.heap.size + 1 + 1) (by simp))
  clear G E1 E2 r1
  go_wp2_with (first | (go_at_call 86; (with_reducible refine c2.mono ?_); intro e w7 hp; obtain ⟨rfl, E7⟩ := HE2.out.call hp; have HG7 := Lib.hid (HG2.out.gb HE2.out hp.2.2); have c7 := takes_f E7.at_ k2; have HE7 := Lib.hid E7; clear hp E7) | (go_at_call 86; (with_reducible refine c7.mono ?_); intro e w8 hp; obtain ⟨rfl, E8⟩ := HE7.out.call hp; have n8 : w8.cell? ⟨w1.heap.size + 1 + 1, 1, none⟩ = some (.int .i64 0) := E8.c1 0 rfl; have c8 := fail_any E8.at_ (e := 2) (by decide); have HE8 := Lib.hid E8; clear hp E8) | (go_at_call 136; (with_reducible refine c8.mono ?_); intro e w9 hp; obtain ⟨rfl, E9⟩ := HE8.out.call hp; have l9 := E9.ld 0 rfl; have s9 := E9.sto 1 rfl; have HE9 := Lib.hid E9; clear hp E9))
  exact ((HE9.out.store 1 rfl _).fin (List.mem_cons_of_mem _ List.mem_cons_self) List.mem_cons_self rfl rfl)

theorem try_any {d : Nat} {L : Low} (hL : LowC d L) {g : Nat} {s : PS} {w : World} (h : At g d s w) (hX : Gx g w) : Calls Tryz.prog 91 #[.pointer (some ⟨g, 0, none⟩)] w (PostN g d w (tryF L s)) := by
  unfold tryF
  simp only
  cases k1 : seesF ⟨#[99, 97, 116, 99, 104]⟩ (blockF L s).2 with
  | true =>
    rw [if_pos rfl]
    cases k2 : seesF ⟨#[102, 105, 110, 97, 108, 108, 121]⟩ (handF L (blockF L s).2.take).2 with
    | true => rw [if_pos rfl]; exact try_11 hL h hX k1 k2
    | false => rw [if_neg (by decide)]; exact try_10 hL h hX k1 k2
  | false =>
    rw [if_neg (by decide)]
    cases k2 : seesF ⟨#[102, 105, 110, 97, 108, 108, 121]⟩ (blockF L s).2 with
    | true => rw [if_pos rfl]; exact try_01 hL h hX k1 k2
    | false => rw [if_neg (by decide)]; exact try_00 hL h hX k1 k2
end Go.Proofs.YtkknglmpdmhhjaaGreatDoor.Pa
