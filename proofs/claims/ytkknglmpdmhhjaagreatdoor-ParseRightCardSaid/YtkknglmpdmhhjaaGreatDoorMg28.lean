/-
  setter, operation, conditional, simple.
-/
import Derived.Test.YtkknglmpdmhhjaaGreatDoorMg27
namespace Go.Proofs.YtkknglmpdmhhjaaGreatDoor.Pa
open Go Go.RowKit Go.Proofs.YtkknglmpdmhhjaaGreatDoor.Lx Go.Proofs.YtkknglmpdmhhjaaGreatDoor.Uni
set_option linter.unusedVariables false
set_option linter.unusedSimpArgs false
attribute [local go_sem ↓] ldK stK alK bdK bsK ldN stN alN bdN bsN
attribute [local irreducible] kcs ncs ncells
attribute [local go_sem] run_alK run_bdK0 run_bdKs run_bdKn run_bdKe run_bsK run_fdK0 run_fdK1 run_fdK2 run_fdK3 run_fdN4 run_alN run_stNg run_ldNg run_bdN0 run_bdN04 run_bdN02 run_bdN01 run_bdN024 run_bdN03 run_bdN0234 run_bsN1 run_bsN2 run_bsN3

attribute [local go_sem ↓] bsS
attribute [local go_sem] run_bsS1

theorem Env.str1 {g d : Nat} {s : PS} {S0 : Nat → Prop} {w0 W : World} {bs : List (Nat × Nd)} {vs : List (Tree × Nd)} (E : Env g d s S0 w0 W bs vs) (k n : Int) (t x : ByteArray) : Env g d s S0 w0 (W.alloc (.cells #[.string x] 9)) bs ((.mk k n t [x] [], ⟨k, n, t, newSl W.heap.size 1, nilSl⟩) :: vs) := by
  refine (E.alloc _).add ?_
  unfold Rep
  refine ⟨rfl, rfl, rfl, ⟨⟨rfl, .inr ⟨W.heap.size, 1, #[.string x], rfl, Nat.zero_le _, heap_alloc_new W _, Nat.le_refl _, by unfold maxLen; omega, rfl, rfl⟩⟩, fun b hb => ?_⟩, [], by rw [ncells_nil]; exact Row.nil _ _ _ _, by unfold Reps; trivial⟩
  simp [newSl, Sl.v, Value.ownBlock] at hb
  rw [← hb]
  exact E.own_new
theorem Env.funcN {g d : Nat} {s : PS} {S0 : Nat → Prop} {w0 W : World} {bs : List (Nat × Nd)} {vs : List (Tree × Nd)} (E : Env g d s S0 w0 W bs vs) {k n : Int} {t : ByteArray} {ns : List ByteArray} {S : Sl} {T : Tree} {N : Nd} (h1 : (.mk k n t ns [], ⟨k, n, t, S, nilSl⟩) ∈ vs) (h2 : (T, N) ∈ vs) : Env g d s S0 w0 W bs ((.mk k n t ns T.kids, ⟨k, n, t, S, ⟨N.kids.a, N.kids.n, N.kids.c⟩⟩) :: vs) := E.func h1 h2

set_option maxRecDepth 100000 in
set_option maxHeartbeats 4000000 in
theorem set_any {d : Nat} {L : Low} (hL : LowC d L) {g : Nat} {s : PS} {w : World} (h : At g d s w) (hX : Gx g w) :
    Calls Tryz.prog 279 #[.pointer (some ⟨g, 0, none⟩)] w (PostN g d w (setF L s)) := by
  have E0 := (Env.start h hX).new zeroN
  have c0 := key_any E0.at_ E0.gx
  obtain ⟨K, hK⟩ : ∃ K, keyF s = K := ⟨_, rfl⟩
  obtain ⟨X, hXX⟩ : ∃ X, nameF (needsF ⟨#[40]⟩ K.2) = X := ⟨_, rfl⟩
  unfold setF
  rw [hK] at c0 ⊢
  simp only
  rw [hXX]
  have HE0 := Lib.hid E0
  have HXX := Lib.hid hXX
  clear E0 h hX hK hXX
  go_enter Tryz.func279, Tryz.ntmps279
  go_wp2_with (first | (go_at_call 277; (with_reducible refine c0.mono ?_); intro e w1 hp; obtain ⟨rfl, E1⟩ := HE0.out.call hp; have E1 := E1.new ⟨13, 0, K.1, nilSl, nilSl⟩; have c1 := needs_any E1.at_ ⟨#[40]⟩; have HE1 := Lib.hid E1; clear hp E1) | (go_at_call 93; (with_reducible refine c1.mono ?_); intro e w2 hp; obtain ⟨rfl, E2⟩ := HE1.out.call hp; have c2 := name_any E2.at_; rw [HXX.out] at c2; have HE2 := Lib.hid E2; clear hp E2) | (go_at_call 88; (with_reducible refine c2.mono ?_); intro e w3 hp; obtain ⟨rfl, E3⟩ := HE2.out.call hp; have E4 := (E3.str1 14 0 noS X.1).newAt ⟨14, 0, noS, newSl w3.heap.size 1, nilSl⟩ (b := w3.heap.size + 1) (by simp); have sg := run_stNk (W := w3.alloc (.cells #[.string X.1] 9)) (b := w3.heap.size + 1) (by simp); have c4 := needs_any E4.at_ ⟨#[41]⟩; have HE4 := Lib.hid E4; clear E4; have HE3 := Lib.hid E3; clear hp E3) | (go_at_call 93; (with_reducible refine c4.mono ?_); intro e w5 hp; obtain ⟨rfl, E5⟩ := HE4.out.call hp; have c5 := block_any hL E5.at_ E5.gx; have HE5 := Lib.hid E5; clear hp E5) | (go_at_call 85; (with_reducible refine c5.mono ?_); intro e w6 hp; obtain ⟨N6, rfl, E6⟩ := HE5.out.callN hp; have f6 := E6.fz 0 rfl 4; have d6 : w6.cell? ⟨w3.heap.size + 1, 4, none⟩ = some (.slice none 0 0) := E6.c4 0 rfl; have E7 := (E6.funcN (List.mem_cons_of_mem _ List.mem_cons_self) List.mem_cons_self).set4 0 rfl N6.kids.a N6.kids.n N6.kids.c; have l7 := E7.ld 0 rfl; have E8 := E7.kids1 List.mem_cons_self 13 0 K.1; have f8 := E8.fz 1 rfl 4; have d8 := E8.c4 1 rfl; have ez : (w6.setCell ⟨w3.heap.size + 1, 4, none⟩ (.slice N6.kids.a N6.kids.n N6.kids.c)).heap.size = w6.heap.size := (by simp [World.setCell]); have E9 := E8.set4 1 rfl (some ⟨w6.heap.size, 0, none⟩) 1 1; have l9 := E9.ld 1 rfl; have s9 := E9.sto 2 rfl; rw [ez] at E9; have HE9 := Lib.hid E9; clear E7 E8 E9; have HE6 := Lib.hid E6; clear hp E6))
  trace_state
  exact ((HE9.out.store 2 rfl _).fin (List.mem_cons_of_mem _ (List.mem_cons_of_mem _ List.mem_cons_self)) List.mem_cons_self rfl rfl)

set_option maxRecDepth 100000 in
set_option maxHeartbeats 4000000 in
theorem op_or {d g : Nat} {s : PS} {w : World} (h : At g d s w) (hX : Gx g w) {S : Nat → Prop} (hS : ∀ b, S b → b ≠ g) {T U : Tree} {M N : Nd} (hT : Rep S w T M) (hU : Rep S w U N) (x : ByteArray) (k1 : eqT x ⟨#[124, 124]⟩ = true) :
    Calls Tryz.prog 232 #[.string x, .agg (ncs M), .agg (ncs N)] w (PostS S g d w ((node 22 [T, U]), s)) := by
  have E0 := (((((Env.startS h hX hS).arg hT).add (Rep.keep (fun b hb hS => ⟨⟨.inl hS, by simp⟩, rfl⟩) _ _ hU)).new M).newAt N (b := w.heap.size + 1) (by simp)).newAt zeroN (b := w.heap.size + 1 + 1) (by simp)
  have l0 := E0.ld 2 rfl
  have l1 := E0.ld 1 rfl
  have q1 : (x.toList == [124, 124]) = true := by rw [ByteArray.toList_eq]; exact k1
  have E1 := E0.kids2 (List.mem_cons_of_mem _ List.mem_cons_self) List.mem_cons_self 22 0 noS
  have s1 := fun o M => (E1.alloc o).sto 0 rfl M
  have ez : (((w.alloc (.cells (ncs M) 27)).alloc (.cells (ncs N) 27)).alloc (.cells (ncs zeroN) 27)).heap.size = w.heap.size + 1 + 1 + 1 := by simp
  rw [ez] at E1
  have HE1 := Lib.hid E1
  clear E0 E1 h hX hT hU hS k1
  go_enter Tryz.func232, Tryz.ntmps232
  go_wp2_with ((go_at_call 22; (with_reducible refine (node_any _ _ _ _ _).mono ?_); rintro e wn ⟨rfl, rfl⟩))
  exact (((HE1.out.alloc _).store 0 rfl _).fin List.mem_cons_self List.mem_cons_self rfl rfl)

set_option maxRecDepth 100000 in
set_option maxHeartbeats 4000000 in
theorem op_and {d g : Nat} {s : PS} {w : World} (h : At g d s w) (hX : Gx g w) {S : Nat → Prop} (hS : ∀ b, S b → b ≠ g) {T U : Tree} {M N : Nd} (hT : Rep S w T M) (hU : Rep S w U N) (x : ByteArray) (k1 : eqT x ⟨#[124, 124]⟩ = false) (k2 : eqT x ⟨#[38, 38]⟩ = true) :
    Calls Tryz.prog 232 #[.string x, .agg (ncs M), .agg (ncs N)] w (PostS S g d w ((node 21 [T, U]), s)) := by
  have E0 := (((((Env.startS h hX hS).arg hT).add (Rep.keep (fun b hb hS => ⟨⟨.inl hS, by simp⟩, rfl⟩) _ _ hU)).new M).newAt N (b := w.heap.size + 1) (by simp)).newAt zeroN (b := w.heap.size + 1 + 1) (by simp)
  have l0 := E0.ld 2 rfl
  have l1 := E0.ld 1 rfl
  have q1 : (x.toList == [124, 124]) = false := by rw [ByteArray.toList_eq]; exact k1
  have q2 : (x.toList == [38, 38]) = true := by rw [ByteArray.toList_eq]; exact k2
  have E1 := E0.kids2 (List.mem_cons_of_mem _ List.mem_cons_self) List.mem_cons_self 21 0 noS
  have s1 := fun o M => (E1.alloc o).sto 0 rfl M
  have ez : (((w.alloc (.cells (ncs M) 27)).alloc (.cells (ncs N) 27)).alloc (.cells (ncs zeroN) 27)).heap.size = w.heap.size + 1 + 1 + 1 := by simp
  rw [ez] at E1
  have HE1 := Lib.hid E1
  clear E0 E1 h hX hT hU hS k1 k2
  go_enter Tryz.func232, Tryz.ntmps232
  go_wp2_with ((go_at_call 22; (with_reducible refine (node_any _ _ _ _ _).mono ?_); rintro e wn ⟨rfl, rfl⟩))
  exact (((HE1.out.alloc _).store 0 rfl _).fin List.mem_cons_self List.mem_cons_self rfl rfl)

set_option maxRecDepth 100000 in
set_option maxHeartbeats 4000000 in
theorem op_bin {d g : Nat} {s : PS} {w : World} (h : At g d s w) (hX : Gx g w) {S : Nat → Prop} (hS : ∀ b, S b → b ≠ g) {T U : Tree} {M N : Nd} (hT : Rep S w T M) (hU : Rep S w U N) (x : ByteArray) (k1 : eqT x ⟨#[124, 124]⟩ = false) (k2 : eqT x ⟨#[38, 38]⟩ = false) :
    Calls Tryz.prog 232 #[.string x, .agg (ncs M), .agg (ncs N)] w (PostS S g d w ((.mk 20 0 x [] [T, U]), s)) := by
  have E0 := (((((Env.startS h hX hS).arg hT).add (Rep.keep (fun b hb hS => ⟨⟨.inl hS, by simp⟩, rfl⟩) _ _ hU)).new M).newAt N (b := w.heap.size + 1) (by simp)).newAt zeroN (b := w.heap.size + 1 + 1) (by simp)
  have l0 := E0.ld 2 rfl
  have l1 := E0.ld 1 rfl
  have q1 : (x.toList == [124, 124]) = false := by rw [ByteArray.toList_eq]; exact k1
  have q2 : (x.toList == [38, 38]) = false := by rw [ByteArray.toList_eq]; exact k2
  have E1 := E0.kids2 (List.mem_cons_of_mem _ List.mem_cons_self) List.mem_cons_self 20 0 x
  have s1 := E1.sto 0 rfl
  have ez : (((w.alloc (.cells (ncs M) 27)).alloc (.cells (ncs N) 27)).alloc (.cells (ncs zeroN) 27)).heap.size = w.heap.size + 1 + 1 + 1 := by simp
  rw [ez] at E1
  have HE1 := Lib.hid E1
  clear E0 E1 h hX hT hU hS k1 k2
  go_enter Tryz.func232, Tryz.ntmps232
  go_wp2_with ((go_at_call 22; (with_reducible refine (node_any _ _ _ _ _).mono ?_); rintro e wn ⟨rfl, rfl⟩))
  exact ((HE1.out.store 0 rfl _).fin List.mem_cons_self List.mem_cons_self rfl rfl)

theorem op_any {d g : Nat} {s : PS} {w : World} (h : At g d s w) (hX : Gx g w) {S : Nat → Prop} (hS : ∀ b, S b → b ≠ g) {T U : Tree} {M N : Nd} (hT : Rep S w T M) (hU : Rep S w U N) (x : ByteArray) :
    Calls Tryz.prog 232 #[.string x, .agg (ncs M), .agg (ncs N)] w (PostS S g d w (opF x T U, s)) := by
  unfold opF
  cases k1 : eqT x ⟨#[124, 124]⟩ with
  | true => rw [if_pos rfl]; exact op_or h hX hS hT hU x k1
  | false =>
    rw [if_neg (by decide)]
    cases k2 : eqT x ⟨#[38, 38]⟩ with
    | true => rw [if_pos rfl]; exact op_and h hX hS hT hU x k1 k2
    | false => rw [if_neg (by decide)]; exact op_bin h hX hS hT hU x k1 k2

set_option maxRecDepth 100000 in
set_option maxHeartbeats 4000000 in
theorem simp_0 {d : Nat} {L : Low} (hL : LowC d L) {g : Nat} {s : PS} {w : World} (h : At g d s w) (hX : Gx g w) (k0 : seesF ⟨#[59]⟩ s = true) :
    Calls Tryz.prog 92 #[.pointer (some ⟨g, 0, none⟩)] w (PostN g d w (node 43 [], s)) := by
  have E0 := (Env.start h hX).new zeroN
  have c0 := sees_t E0.at_ k0
  have HE0 := Lib.hid E0
  clear E0 h hX
  go_enter Tryz.func92, Tryz.ntmps92
  go_wp2_with (first | (go_at_call 84; (with_reducible refine c0.mono ?_); intro e w1 hp; obtain ⟨rfl, E1⟩ := HE0.out.callR hp; have sN := fun o M => (E1.alloc o).sto 0 rfl M; have HE1 := Lib.hid E1; clear hp E1) | (go_at_call 22; (with_reducible refine (node_any _ _ _ _ _).mono ?_); rintro e wn ⟨rfl, rfl⟩))
  exact ((((HE1.out.leaf 43 0 noS).alloc _).store 0 rfl _).fin List.mem_cons_self List.mem_cons_self rfl rfl)

set_option maxRecDepth 100000 in
set_option maxHeartbeats 4000000 in
theorem simp_1 {d : Nat} {L : Low} (hL : LowC d L) {g : Nat} {s : PS} {w : World} (h : At g d s w) (hX : Gx g w) (k0 : seesF ⟨#[59]⟩ s = false) (k1 : seesF ⟨#[108, 101, 116]⟩ s = true) :
    Calls Tryz.prog 92 #[.pointer (some ⟨g, 0, none⟩)] w (PostN g d w (letF L s.take)) := by
  have E0 := (Env.start h hX).new zeroN
  have c0 := sees_f E0.at_ k0
  have HE0 := Lib.hid E0
  clear E0 h hX
  go_enter Tryz.func92, Tryz.ntmps92
  go_wp2_with (first | (go_at_call 84; (with_reducible refine c0.mono ?_); intro e w1 hp; obtain ⟨rfl, E1⟩ := HE0.out.callR hp; have c1 := takes_t E1.at_ k1; have HE1 := Lib.hid E1; clear hp E1) | (go_at_call 86; (with_reducible refine c1.mono ?_); intro e w2 hp; obtain ⟨rfl, E2⟩ := HE1.out.call hp; have cx := let_any hL E2.at_ E2.gx; have HE2 := Lib.hid E2; clear hp E2) | (go_at_call 143; (with_reducible refine cx.mono ?_); intro e w3 hp; obtain ⟨N3, rfl, E3⟩ := HE2.out.callN hp; have sN := E3.sto 0 rfl; have HE3 := Lib.hid E3; clear hp E3))
  exact ((HE3.out.store 0 rfl _).fin List.mem_cons_self List.mem_cons_self rfl rfl)

set_option maxRecDepth 100000 in
set_option maxHeartbeats 4000000 in
theorem simp_2 {d : Nat} {L : Low} (hL : LowC d L) {g : Nat} {s : PS} {w : World} (h : At g d s w) (hX : Gx g w) (k0 : seesF ⟨#[59]⟩ s = false) (k1 : seesF ⟨#[108, 101, 116]⟩ s = false) (k2 : seesF ⟨#[99, 111, 110, 115, 116]⟩ s = true) :
    Calls Tryz.prog 92 #[.pointer (some ⟨g, 0, none⟩)] w (PostN g d w (constF L s.take)) := by
  have E0 := (Env.start h hX).new zeroN
  have c0 := sees_f E0.at_ k0
  have HE0 := Lib.hid E0
  clear E0 h hX
  go_enter Tryz.func92, Tryz.ntmps92
  go_wp2_with (first | (go_at_call 84; (with_reducible refine c0.mono ?_); intro e w1 hp; obtain ⟨rfl, E1⟩ := HE0.out.callR hp; have c1 := takes_f E1.at_ k1; have HE1 := Lib.hid E1; clear hp E1) | (go_at_call 86; (with_reducible refine c1.mono ?_); intro e w2 hp; obtain ⟨rfl, E2⟩ := HE1.out.call hp; have c2 := takes_t E2.at_ k2; have HE2 := Lib.hid E2; clear hp E2) | (go_at_call 86; (with_reducible refine c2.mono ?_); intro e w3 hp; obtain ⟨rfl, E3⟩ := HE2.out.call hp; have cx := const_any hL E3.at_ E3.gx; have HE3 := Lib.hid E3; clear hp E3) | (go_at_call 144; (with_reducible refine cx.mono ?_); intro e w4 hp; obtain ⟨N4, rfl, E4⟩ := HE3.out.callN hp; have sN := E4.sto 0 rfl; have HE4 := Lib.hid E4; clear hp E4))
  exact ((HE4.out.store 0 rfl _).fin List.mem_cons_self List.mem_cons_self rfl rfl)

set_option maxRecDepth 100000 in
set_option maxHeartbeats 4000000 in
theorem simp_3a {d : Nat} {L : Low} (hL : LowC d L) {g : Nat} {s : PS} {w : World} (h : At g d s w) (hX : Gx g w) (k0 : seesF ⟨#[59]⟩ s = false) (k1 : seesF ⟨#[108, 101, 116]⟩ s = false) (k2 : seesF ⟨#[99, 111, 110, 115, 116]⟩ s = false) (k3 : seesF ⟨#[114, 101, 116, 117, 114, 110]⟩ s = true) (kr : seesF ⟨#[59]⟩ s.take = true) :
    Calls Tryz.prog 92 #[.pointer (some ⟨g, 0, none⟩)] w (PostN g d w (node 36 [], s.take)) := by
  have E0 := (Env.start h hX).new zeroN
  have c0 := sees_f E0.at_ k0
  have HE0 := Lib.hid E0
  clear E0 h hX
  go_enter Tryz.func92, Tryz.ntmps92
  go_wp2_with (first | (go_at_call 84; (with_reducible refine c0.mono ?_); intro e w1 hp; obtain ⟨rfl, E1⟩ := HE0.out.callR hp; have c1 := takes_f E1.at_ k1; have HE1 := Lib.hid E1; clear hp E1) | (go_at_call 86; (with_reducible refine c1.mono ?_); intro e w2 hp; obtain ⟨rfl, E2⟩ := HE1.out.call hp; have c2 := takes_f E2.at_ k2; have HE2 := Lib.hid E2; clear hp E2) | (go_at_call 86; (with_reducible refine c2.mono ?_); intro e w3 hp; obtain ⟨rfl, E3⟩ := HE2.out.call hp; have c3 := takes_t E3.at_ k3; have HE3 := Lib.hid E3; clear hp E3) | (go_at_call 86; (with_reducible refine c3.mono ?_); intro e w4 hp; obtain ⟨rfl, E4⟩ := HE3.out.call hp; have cx := sees_t E4.at_ kr; have HE4 := Lib.hid E4; clear hp E4) | (go_at_call 84; (with_reducible refine cx.mono ?_); intro e w5 hp; obtain ⟨rfl, E5⟩ := HE4.out.callR hp; have sN := fun o M => (E5.alloc o).sto 0 rfl M; have HE5 := Lib.hid E5; clear hp E5) | (go_at_call 22; (with_reducible refine (node_any _ _ _ _ _).mono ?_); rintro e wn ⟨rfl, rfl⟩))
  exact ((((HE5.out.leaf 36 0 noS).alloc _).store 0 rfl _).fin List.mem_cons_self List.mem_cons_self rfl rfl)

set_option maxRecDepth 100000 in
set_option maxHeartbeats 4000000 in
theorem simp_3b {d : Nat} {L : Low} (hL : LowC d L) {g : Nat} {s : PS} {w : World} (h : At g d s w) (hX : Gx g w) (k0 : seesF ⟨#[59]⟩ s = false) (k1 : seesF ⟨#[108, 101, 116]⟩ s = false) (k2 : seesF ⟨#[99, 111, 110, 115, 116]⟩ s = false) (k3 : seesF ⟨#[114, 101, 116, 117, 114, 110]⟩ s = true) (kr : seesF ⟨#[59]⟩ s.take = false) :
    Calls Tryz.prog 92 #[.pointer (some ⟨g, 0, none⟩)] w (PostN g d w (node 36 [(L.ex s.take).1], (L.ex s.take).2)) := by
  have E0 := (Env.start h hX).new zeroN
  have c0 := sees_f E0.at_ k0
  have HE0 := Lib.hid E0
  clear E0 h hX
  go_enter Tryz.func92, Tryz.ntmps92
  go_wp2_with (first | (go_at_call 84; (with_reducible refine c0.mono ?_); intro e w1 hp; obtain ⟨rfl, E1⟩ := HE0.out.callR hp; have c1 := takes_f E1.at_ k1; have HE1 := Lib.hid E1; clear hp E1) | (go_at_call 86; (with_reducible refine c1.mono ?_); intro e w2 hp; obtain ⟨rfl, E2⟩ := HE1.out.call hp; have c2 := takes_f E2.at_ k2; have HE2 := Lib.hid E2; clear hp E2) | (go_at_call 86; (with_reducible refine c2.mono ?_); intro e w3 hp; obtain ⟨rfl, E3⟩ := HE2.out.call hp; have c3 := takes_t E3.at_ k3; have HE3 := Lib.hid E3; clear hp E3) | (go_at_call 86; (with_reducible refine c3.mono ?_); intro e w4 hp; obtain ⟨rfl, E4⟩ := HE3.out.call hp; have cx := sees_f E4.at_ kr; have HE4 := Lib.hid E4; clear hp E4) | (go_at_call 84; (with_reducible refine cx.mono ?_); intro e w5 hp; obtain ⟨rfl, E5⟩ := HE4.out.callR hp; have cy := hL.ex E5.at_ E5.gx; have HE5 := Lib.hid E5; clear hp E5) | (go_at_call 141; (with_reducible refine cy.mono ?_); intro e w6 hp; obtain ⟨N6, rfl, E6⟩ := HE5.out.callN hp; have sN := fun o M => ((E6.kids1 List.mem_cons_self 36 0 noS).alloc o).sto 0 rfl M; have HE6 := Lib.hid E6; clear hp E6) | (go_at_call 22; (with_reducible refine (node_any _ _ _ _ _).mono ?_); rintro e wn ⟨rfl, rfl⟩))
  exact (((((HE6.out.kids1 List.mem_cons_self 36 0 noS).alloc _).store 0 rfl _)).fin List.mem_cons_self List.mem_cons_self rfl rfl)

set_option maxRecDepth 100000 in
set_option maxHeartbeats 4000000 in
theorem simp_4 {d : Nat} {L : Low} (hL : LowC d L) {g : Nat} {s : PS} {w : World} (h : At g d s w) (hX : Gx g w) (k0 : seesF ⟨#[59]⟩ s = false) (k1 : seesF ⟨#[108, 101, 116]⟩ s = false) (k2 : seesF ⟨#[99, 111, 110, 115, 116]⟩ s = false) (k3 : seesF ⟨#[114, 101, 116, 117, 114, 110]⟩ s = false) (k4 : seesF ⟨#[116, 104, 114, 111, 119]⟩ s = true) :
    Calls Tryz.prog 92 #[.pointer (some ⟨g, 0, none⟩)] w (PostN g d w (node 37 [(L.ex s.take).1], (L.ex s.take).2)) := by
  have E0 := (Env.start h hX).new zeroN
  have c0 := sees_f E0.at_ k0
  have HE0 := Lib.hid E0
  clear E0 h hX
  go_enter Tryz.func92, Tryz.ntmps92
  go_wp2_with (first | (go_at_call 84; (with_reducible refine c0.mono ?_); intro e w1 hp; obtain ⟨rfl, E1⟩ := HE0.out.callR hp; have c1 := takes_f E1.at_ k1; have HE1 := Lib.hid E1; clear hp E1) | (go_at_call 86; (with_reducible refine c1.mono ?_); intro e w2 hp; obtain ⟨rfl, E2⟩ := HE1.out.call hp; have c2 := takes_f E2.at_ k2; have HE2 := Lib.hid E2; clear hp E2) | (go_at_call 86; (with_reducible refine c2.mono ?_); intro e w3 hp; obtain ⟨rfl, E3⟩ := HE2.out.call hp; have c3 := takes_f E3.at_ k3; have HE3 := Lib.hid E3; clear hp E3) | (go_at_call 86; (with_reducible refine c3.mono ?_); intro e w4 hp; obtain ⟨rfl, E4⟩ := HE3.out.call hp; have c4 := takes_t E4.at_ k4; have HE4 := Lib.hid E4; clear hp E4) | (go_at_call 86; (with_reducible refine c4.mono ?_); intro e w5 hp; obtain ⟨rfl, E5⟩ := HE4.out.call hp; have cy := hL.ex E5.at_ E5.gx; have HE5 := Lib.hid E5; clear hp E5) | (go_at_call 141; (with_reducible refine cy.mono ?_); intro e w6 hp; obtain ⟨N6, rfl, E6⟩ := HE5.out.callN hp; have sN := fun o M => ((E6.kids1 List.mem_cons_self 37 0 noS).alloc o).sto 0 rfl M; have HE6 := Lib.hid E6; clear hp E6) | (go_at_call 22; (with_reducible refine (node_any _ _ _ _ _).mono ?_); rintro e wn ⟨rfl, rfl⟩))
  exact (((((HE6.out.kids1 List.mem_cons_self 37 0 noS).alloc _).store 0 rfl _)).fin List.mem_cons_self List.mem_cons_self rfl rfl)

set_option maxRecDepth 100000 in
set_option maxHeartbeats 4000000 in
theorem simp_5 {d : Nat} {L : Low} (hL : LowC d L) {g : Nat} {s : PS} {w : World} (h : At g d s w) (hX : Gx g w) (k0 : seesF ⟨#[59]⟩ s = false) (k1 : seesF ⟨#[108, 101, 116]⟩ s = false) (k2 : seesF ⟨#[99, 111, 110, 115, 116]⟩ s = false) (k3 : seesF ⟨#[114, 101, 116, 117, 114, 110]⟩ s = false) (k4 : seesF ⟨#[116, 104, 114, 111, 119]⟩ s = false) (k5 : seesF ⟨#[98, 114, 101, 97, 107]⟩ s = true) :
    Calls Tryz.prog 92 #[.pointer (some ⟨g, 0, none⟩)] w (PostN g d w (node 41 [], s.take)) := by
  have E0 := (Env.start h hX).new zeroN
  have c0 := sees_f E0.at_ k0
  have HE0 := Lib.hid E0
  clear E0 h hX
  go_enter Tryz.func92, Tryz.ntmps92
  go_wp2_with (first | (go_at_call 84; (with_reducible refine c0.mono ?_); intro e w1 hp; obtain ⟨rfl, E1⟩ := HE0.out.callR hp; have c1 := takes_f E1.at_ k1; have HE1 := Lib.hid E1; clear hp E1) | (go_at_call 86; (with_reducible refine c1.mono ?_); intro e w2 hp; obtain ⟨rfl, E2⟩ := HE1.out.call hp; have c2 := takes_f E2.at_ k2; have HE2 := Lib.hid E2; clear hp E2) | (go_at_call 86; (with_reducible refine c2.mono ?_); intro e w3 hp; obtain ⟨rfl, E3⟩ := HE2.out.call hp; have c3 := takes_f E3.at_ k3; have HE3 := Lib.hid E3; clear hp E3) | (go_at_call 86; (with_reducible refine c3.mono ?_); intro e w4 hp; obtain ⟨rfl, E4⟩ := HE3.out.call hp; have c4 := takes_f E4.at_ k4; have HE4 := Lib.hid E4; clear hp E4) | (go_at_call 86; (with_reducible refine c4.mono ?_); intro e w5 hp; obtain ⟨rfl, E5⟩ := HE4.out.call hp; have c5 := takes_t E5.at_ k5; have HE5 := Lib.hid E5; clear hp E5) | (go_at_call 86; (with_reducible refine c5.mono ?_); intro e w6 hp; obtain ⟨rfl, E6⟩ := HE5.out.call hp; have sN := fun o M => (E6.alloc o).sto 0 rfl M; have HE6 := Lib.hid E6; clear hp E6) | (go_at_call 22; (with_reducible refine (node_any _ _ _ _ _).mono ?_); rintro e wn ⟨rfl, rfl⟩))
  exact ((((HE6.out.leaf 41 0 noS).alloc _).store 0 rfl _).fin List.mem_cons_self List.mem_cons_self rfl rfl)

set_option maxRecDepth 100000 in
set_option maxHeartbeats 4000000 in
theorem simp_6 {d : Nat} {L : Low} (hL : LowC d L) {g : Nat} {s : PS} {w : World} (h : At g d s w) (hX : Gx g w) (k0 : seesF ⟨#[59]⟩ s = false) (k1 : seesF ⟨#[108, 101, 116]⟩ s = false) (k2 : seesF ⟨#[99, 111, 110, 115, 116]⟩ s = false) (k3 : seesF ⟨#[114, 101, 116, 117, 114, 110]⟩ s = false) (k4 : seesF ⟨#[116, 104, 114, 111, 119]⟩ s = false) (k5 : seesF ⟨#[98, 114, 101, 97, 107]⟩ s = false) (k6 : seesF ⟨#[99, 111, 110, 116, 105, 110, 117, 101]⟩ s = true) :
    Calls Tryz.prog 92 #[.pointer (some ⟨g, 0, none⟩)] w (PostN g d w (node 42 [], s.take)) := by
  have E0 := (Env.start h hX).new zeroN
  have c0 := sees_f E0.at_ k0
  have HE0 := Lib.hid E0
  clear E0 h hX
  go_enter Tryz.func92, Tryz.ntmps92
  go_wp2_with (first | (go_at_call 84; (with_reducible refine c0.mono ?_); intro e w1 hp; obtain ⟨rfl, E1⟩ := HE0.out.callR hp; have c1 := takes_f E1.at_ k1; have HE1 := Lib.hid E1; clear hp E1) | (go_at_call 86; (with_reducible refine c1.mono ?_); intro e w2 hp; obtain ⟨rfl, E2⟩ := HE1.out.call hp; have c2 := takes_f E2.at_ k2; have HE2 := Lib.hid E2; clear hp E2) | (go_at_call 86; (with_reducible refine c2.mono ?_); intro e w3 hp; obtain ⟨rfl, E3⟩ := HE2.out.call hp; have c3 := takes_f E3.at_ k3; have HE3 := Lib.hid E3; clear hp E3) | (go_at_call 86; (with_reducible refine c3.mono ?_); intro e w4 hp; obtain ⟨rfl, E4⟩ := HE3.out.call hp; have c4 := takes_f E4.at_ k4; have HE4 := Lib.hid E4; clear hp E4) | (go_at_call 86; (with_reducible refine c4.mono ?_); intro e w5 hp; obtain ⟨rfl, E5⟩ := HE4.out.call hp; have c5 := takes_f E5.at_ k5; have HE5 := Lib.hid E5; clear hp E5) | (go_at_call 86; (with_reducible refine c5.mono ?_); intro e w6 hp; obtain ⟨rfl, E6⟩ := HE5.out.call hp; have c6 := takes_t E6.at_ k6; have HE6 := Lib.hid E6; clear hp E6) | (go_at_call 86; (with_reducible refine c6.mono ?_); intro e w7 hp; obtain ⟨rfl, E7⟩ := HE6.out.call hp; have sN := fun o M => (E7.alloc o).sto 0 rfl M; have HE7 := Lib.hid E7; clear hp E7) | (go_at_call 22; (with_reducible refine (node_any _ _ _ _ _).mono ?_); rintro e wn ⟨rfl, rfl⟩))
  exact ((((HE7.out.leaf 42 0 noS).alloc _).store 0 rfl _).fin List.mem_cons_self List.mem_cons_self rfl rfl)

set_option maxRecDepth 100000 in
set_option maxHeartbeats 4000000 in
theorem simp_7 {d : Nat} {L : Low} (hL : LowC d L) {g : Nat} {s : PS} {w : World} (h : At g d s w) (hX : Gx g w) (k0 : seesF ⟨#[59]⟩ s = false) (k1 : seesF ⟨#[108, 101, 116]⟩ s = false) (k2 : seesF ⟨#[99, 111, 110, 115, 116]⟩ s = false) (k3 : seesF ⟨#[114, 101, 116, 117, 114, 110]⟩ s = false) (k4 : seesF ⟨#[116, 104, 114, 111, 119]⟩ s = false) (k5 : seesF ⟨#[98, 114, 101, 97, 107]⟩ s = false) (k6 : seesF ⟨#[99, 111, 110, 116, 105, 110, 117, 101]⟩ s = false) :
    Calls Tryz.prog 92 #[.pointer (some ⟨g, 0, none⟩)] w (PostN g d w (node 33 [(L.ex s).1], (L.ex s).2)) := by
  have E0 := (Env.start h hX).new zeroN
  have c0 := sees_f E0.at_ k0
  have HE0 := Lib.hid E0
  clear E0 h hX
  go_enter Tryz.func92, Tryz.ntmps92
  go_wp2_with (first | (go_at_call 84; (with_reducible refine c0.mono ?_); intro e w1 hp; obtain ⟨rfl, E1⟩ := HE0.out.callR hp; have c1 := takes_f E1.at_ k1; have HE1 := Lib.hid E1; clear hp E1) | (go_at_call 86; (with_reducible refine c1.mono ?_); intro e w2 hp; obtain ⟨rfl, E2⟩ := HE1.out.call hp; have c2 := takes_f E2.at_ k2; have HE2 := Lib.hid E2; clear hp E2) | (go_at_call 86; (with_reducible refine c2.mono ?_); intro e w3 hp; obtain ⟨rfl, E3⟩ := HE2.out.call hp; have c3 := takes_f E3.at_ k3; have HE3 := Lib.hid E3; clear hp E3) | (go_at_call 86; (with_reducible refine c3.mono ?_); intro e w4 hp; obtain ⟨rfl, E4⟩ := HE3.out.call hp; have c4 := takes_f E4.at_ k4; have HE4 := Lib.hid E4; clear hp E4) | (go_at_call 86; (with_reducible refine c4.mono ?_); intro e w5 hp; obtain ⟨rfl, E5⟩ := HE4.out.call hp; have c5 := takes_f E5.at_ k5; have HE5 := Lib.hid E5; clear hp E5) | (go_at_call 86; (with_reducible refine c5.mono ?_); intro e w6 hp; obtain ⟨rfl, E6⟩ := HE5.out.call hp; have c6 := takes_f E6.at_ k6; have HE6 := Lib.hid E6; clear hp E6) | (go_at_call 86; (with_reducible refine c6.mono ?_); intro e w7 hp; obtain ⟨rfl, E7⟩ := HE6.out.call hp; have cy := hL.ex E7.at_ E7.gx; have HE7 := Lib.hid E7; clear hp E7) | (go_at_call 141; (with_reducible refine cy.mono ?_); intro e w8 hp; obtain ⟨N8, rfl, E8⟩ := HE7.out.callN hp; have sN := fun o M => ((E8.kids1 List.mem_cons_self 33 0 noS).alloc o).sto 0 rfl M; have HE8 := Lib.hid E8; clear hp E8) | (go_at_call 22; (with_reducible refine (node_any _ _ _ _ _).mono ?_); rintro e wn ⟨rfl, rfl⟩))
  exact (((((HE8.out.kids1 List.mem_cons_self 33 0 noS).alloc _).store 0 rfl _)).fin List.mem_cons_self List.mem_cons_self rfl rfl)

theorem simp_any {d : Nat} {L : Low} (hL : LowC d L) {g : Nat} {s : PS} {w : World} (h : At g d s w) (hX : Gx g w) : Calls Tryz.prog 92 #[.pointer (some ⟨g, 0, none⟩)] w (PostN g d w (simpF L s)) := by
  unfold simpF
  simp only
  cases k0 : seesF ⟨#[59]⟩ s with
  | true => rw [if_pos rfl]; exact simp_0 hL h hX k0
  | false =>
  rw [if_neg (by decide)]
  cases k1 : seesF ⟨#[108, 101, 116]⟩ s with
  | true => rw [if_pos rfl]; exact simp_1 hL h hX k0 k1
  | false =>
  rw [if_neg (by decide)]
  cases k2 : seesF ⟨#[99, 111, 110, 115, 116]⟩ s with
  | true => rw [if_pos rfl]; exact simp_2 hL h hX k0 k1 k2
  | false =>
  rw [if_neg (by decide)]
  cases k3 : seesF ⟨#[114, 101, 116, 117, 114, 110]⟩ s with
  | true =>
    rw [if_pos rfl]
    cases kr : seesF ⟨#[59]⟩ s.take with
    | true => rw [if_pos rfl]; exact simp_3a hL h hX k0 k1 k2 k3 kr
    | false => rw [if_neg (by decide)]; exact simp_3b hL h hX k0 k1 k2 k3 kr
  | false =>
  rw [if_neg (by decide)]
  cases k4 : seesF ⟨#[116, 104, 114, 111, 119]⟩ s with
  | true => rw [if_pos rfl]; exact simp_4 hL h hX k0 k1 k2 k3 k4
  | false =>
  rw [if_neg (by decide)]
  cases k5 : seesF ⟨#[98, 114, 101, 97, 107]⟩ s with
  | true => rw [if_pos rfl]; exact simp_5 hL h hX k0 k1 k2 k3 k4 k5
  | false =>
  rw [if_neg (by decide)]
  cases k6 : seesF ⟨#[99, 111, 110, 116, 105, 110, 117, 101]⟩ s with
  | true => rw [if_pos rfl]; exact simp_6 hL h hX k0 k1 k2 k3 k4 k5 k6
  | false =>
  rw [if_neg (by decide)]
  exact simp_7 hL h hX k0 k1 k2 k3 k4 k5 k6

end Go.Proofs.YtkknglmpdmhhjaaGreatDoor.Pa
