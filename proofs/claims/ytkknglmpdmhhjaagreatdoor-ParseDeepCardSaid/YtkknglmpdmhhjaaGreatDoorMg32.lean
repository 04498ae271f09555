/-
  expression, statement, unary: what begins something deeper.
-/
import Derived.Test.YtkknglmpdmhhjaaGreatDoorMg31
import Derived.Deep.RegionLaw
namespace Go.Proofs.YtkknglmpdmhhjaaGreatDoor.Pa
open Go Go.RowKit Go.Proofs.YtkknglmpdmhhjaaGreatDoor.Lx Go.Proofs.YtkknglmpdmhhjaaGreatDoor.Uni
set_option linter.unusedVariables false
set_option linter.unusedSimpArgs false
attribute [local go_sem ↓] ldK stK alK bdK bsK ldN stN alN bdN bsN
attribute [local irreducible] kcs ncs ncells
attribute [local go_sem] run_alK run_bdK0 run_bdKs run_bdKn run_bdKe run_bsK run_fdK0 run_fdK1 run_fdK2 run_fdK3 run_fdN4 run_alN run_stNg run_ldNg run_bdN0 run_bdN04 run_bdN02 run_bdN01 run_bdN024 run_bdN03 run_bdN0234 run_bsN1 run_bsN2 run_bsN3

/-- How a body ends that defers and never panics. -/
def bodyPostE (P : Program) (fn : Func) (R : Ending → World → Prop) : Exit → Act → World → Prop
  | .normal, a, w | .ret, a, w => Leaves P fn a.tmps R a.defers .returning w
  | .outgrown, _, w => R .outgrown w
  | _, _, _ => False
theorem calls_of_wp_doors {P : Program} {f : FuncId} {fn : Func} {c : Code} {args : Array Value} {w : World} {R : Ending → World → Prop}
    (hf : P.funcs[f]? = some fn) (hb : fn.body = some c)
    (h : c.wp P (bodyPostE P fn R) { tmps := args ++ Array.replicate (fn.ntmps - args.size) undef, defers := [] } w) : Calls P f args w R :=
  calls_of_wp_defers hf hb (Code.wp_mono (fun e a w q => by cases e <;> first | exact q | exact q.elim) h)
theorem Env.door {g d : Nat} {s : PS} {S0 : Nat → Prop} {w0 W : World} {bs : List (Nat × Nd)} {vs : List (Tree × Nd)} (E : Env g (d + 1) s S0 w0 W bs vs) (hd : d ≤ 100) {b : Nat} {T : Tree} {N : Nd} (hb : (b, N) ∈ bs) (hv : (T, N) ∈ vs) {fn : Func} {p : Tmp} (hf : fn.results = #[.cell p 27]) {tmps : Array Value} (hp : tmps.getD p undef = .pointer (some ⟨b, 0, none⟩)) :
    Leaves Tryz.prog fn tmps (PostS S0 g d w0 (T, s)) [{ target := .fn (.func 83) #[], args := #[.pointer (some ⟨g, 0, none⟩)] }] .returning W := by
  refine leaves_cons (f := 83) (args := #[.pointer (some ⟨g, 0, none⟩)]) (by simp) (by simp [go_sem]) ?_
  refine (leave_d E.at_ hd .returning).mono ?_
  rintro e u' w'' ⟨rfl, hp2⟩
  obtain ⟨rfl, E'⟩ := E.call hp2
  exact ⟨_, res_N hf _ _ b N hp (E'.bl _ hb).2, E'.post hv⟩
theorem Env.door0 {g d : Nat} {s : PS} {S0 : Nat → Prop} {w0 W : World} {bs : List (Nat × Nd)} {vs : List (Tree × Nd)} (E : Env g d s S0 w0 W bs vs) {b : Nat} {T : Tree} {N : Nd} (hb : (b, N) ∈ bs) (hv : (T, N) ∈ vs) {fn : Func} {p : Tmp} (hf : fn.results = #[.cell p 27]) {tmps : Array Value} (hp : tmps.getD p undef = .pointer (some ⟨b, 0, none⟩)) :
    Leaves Tryz.prog fn tmps (PostS S0 g d w0 (T, s)) [] .returning W := ⟨_, res_N hf _ _ b N hp (E.bl _ hb).2, E.post hv⟩
theorem enter_t {g d : Nat} {s : PS} {w : World} (h : At g d s w) (hd : d < 100) : Calls Tryz.prog 82 #[.pointer (some ⟨g, 0, none⟩)] w (Post g (d + 1) w (.bool true) s) := by
  have := enter_any h (by omega)
  rwa [if_neg (by omega)] at this
theorem enter_f {g : Nat} {s : PS} {w : World} (h : At g 100 s w) : Calls Tryz.prog 82 #[.pointer (some ⟨g, 0, none⟩)] w (Post g 100 w (.bool false) (s.fail 4)) := by
  have := enter_any h (by omega)
  rwa [if_pos rfl] at this

set_option maxRecDepth 100000 in
set_option maxHeartbeats 4000000 in
theorem ex_stop {g : Nat} {s : PS} {w : World} (h : At g 100 s w) (hX : Gx g w) : Calls Tryz.prog 141 #[.pointer (some ⟨g, 0, none⟩)] w (PostN g 100 w (zeroT, s.fail 4)) := by
  have E0 := (Env.start h hX).new zeroN
  have c0 := enter_f E0.at_
  have HE0 := Lib.hid E0
  clear E0 h hX
  refine calls_of_wp_doors Tryz.func141 rfl ?_
  simp only [Tryz.ntmps141, List.size_toArray, List.length_cons, List.length_nil, Nat.reduceAdd, Nat.reduceSub, Array.replicate_succ, Array.replicate_zero, List.push_toArray, List.append_toArray, List.nil_append, List.cons_append]
  go_wp2_with ((go_at_call 82; (with_reducible refine c0.mono ?_); intro e w1 hp; obtain ⟨rfl, E1⟩ := HE0.out.call hp; have s1 := E1.sto 0 rfl; have HE1 := Lib.hid E1; clear hp E1))
  exact (((HE1.out.leaf 0 0 noS).store 0 rfl _).door0 List.mem_cons_self List.mem_cons_self rfl rfl)

set_option maxRecDepth 100000 in
set_option maxHeartbeats 4000000 in
theorem st_stop {g : Nat} {s : PS} {w : World} (h : At g 100 s w) (hX : Gx g w) : Calls Tryz.prog 44 #[.pointer (some ⟨g, 0, none⟩)] w (PostN g 100 w (zeroT, s.fail 4)) := by
  have E0 := (Env.start h hX).new zeroN
  have c0 := enter_f E0.at_
  have HE0 := Lib.hid E0
  clear E0 h hX
  refine calls_of_wp_doors Tryz.func44 rfl ?_
  simp only [Tryz.ntmps44, List.size_toArray, List.length_cons, List.length_nil, Nat.reduceAdd, Nat.reduceSub, Array.replicate_succ, Array.replicate_zero, List.push_toArray, List.append_toArray, List.nil_append, List.cons_append]
  go_wp2_with ((go_at_call 82; (with_reducible refine c0.mono ?_); intro e w1 hp; obtain ⟨rfl, E1⟩ := HE0.out.call hp; have s1 := E1.sto 0 rfl; have HE1 := Lib.hid E1; clear hp E1))
  exact (((HE1.out.leaf 0 0 noS).store 0 rfl _).door0 List.mem_cons_self List.mem_cons_self rfl rfl)

set_option maxRecDepth 100000 in
set_option maxHeartbeats 4000000 in
theorem un_stop {g : Nat} {s : PS} {w : World} (h : At g 100 s w) (hX : Gx g w) : Calls Tryz.prog 230 #[.pointer (some ⟨g, 0, none⟩)] w (PostN g 100 w (zeroT, s.fail 4)) := by
  have E0 := (Env.start h hX).new zeroN
  have c0 := enter_f E0.at_
  have HE0 := Lib.hid E0
  clear E0 h hX
  refine calls_of_wp_doors Tryz.func230 rfl ?_
  simp only [Tryz.ntmps230, List.size_toArray, List.length_cons, List.length_nil, Nat.reduceAdd, Nat.reduceSub, Array.replicate_succ, Array.replicate_zero, List.push_toArray, List.append_toArray, List.nil_append, List.cons_append]
  go_wp2_with ((go_at_call 82; (with_reducible refine c0.mono ?_); intro e w1 hp; obtain ⟨rfl, E1⟩ := HE0.out.call hp; have s1 := E1.sto 0 rfl; have HE1 := Lib.hid E1; clear hp E1))
  exact (((HE1.out.leaf 0 0 noS).store 0 rfl _).door0 List.mem_cons_self List.mem_cons_self rfl rfl)

theorem cond_any {d : Nat} {L : Low} (hL : LowC d L) {g : Nat} {s : PS} {w : World} (h : At g d s w) (hX : Gx g w) : Calls Tryz.prog 191 #[.pointer (some ⟨g, 0, none⟩)] w (PostN g d w (condF L s)) := by
  have hb : ∀ {g : Nat} {s : PS} {w : World}, At g d s w → Gx g w → Calls Tryz.prog 215 #[.pointer (some ⟨g, 0, none⟩), .int .i64 0] w (PostN g d w (binF L 6 s)) := fun h hX => bin_any hL 6 (Nat.le_refl _) _ _ _ 0 rfl h hX
  unfold condF
  simp only
  cases hk : seesF ⟨#[63]⟩ (binF L 6 s).2 with
  | true => rw [if_pos rfl]; exact cond_t hL h hX hb hk
  | false => rw [if_neg (by decide)]; exact cond_f hL h hX hb hk

set_option maxRecDepth 100000 in
set_option maxHeartbeats 4000000 in
theorem ex_f {d : Nat} {L : Low} (hL : LowC (d + 1) L) (hd : d < 100) {g : Nat} {s : PS} {w : World} (h : At g d s w) (hX : Gx g w) (hk : seesF ⟨#[61]⟩ (condF L s).2 = false) :
    Calls Tryz.prog 141 #[.pointer (some ⟨g, 0, none⟩)] w (PostN g d w (condF L s)) := by
  have E0 := (Env.start h hX).new zeroN
  have c0 := enter_t E0.at_ hd
  have hd2 : d ≤ 100 := by omega
  have HE0 := Lib.hid E0
  obtain ⟨X, hX2⟩ : ∃ X, condF L s = X := ⟨_, rfl⟩
  rw [hX2] at hk ⊢
  have HX2 := Lib.hid hX2
  clear E0 h hX hd hX2
  refine calls_of_wp_doors Tryz.func141 rfl ?_
  simp only [Tryz.ntmps141, List.size_toArray, List.length_cons, List.length_nil, Nat.reduceAdd, Nat.reduceSub, Array.replicate_succ, Array.replicate_zero, List.push_toArray, List.append_toArray, List.nil_append, List.cons_append]
  go_wp2_with (first | (go_at_call 82; (with_reducible refine c0.mono ?_); intro e w1 hp; obtain ⟨rfl, E1⟩ := HE0.out.call hp; have c1 := cond_any hL E1.at_ E1.gx; have HE1 := Lib.hid E1; clear hp E1) | (go_at_call 191; (with_reducible refine c1.mono ?_); intro e w2 hp; rw [HX2.out] at hp; obtain ⟨N2, rfl, E2⟩ := HE1.out.callN hp; have E2 := E2.new N2; have c2 := sees_f E2.at_ hk; have HE2 := Lib.hid E2; clear hp E2) | (go_at_call 84; (with_reducible refine c2.mono ?_); intro e w3 hp; obtain ⟨rfl, E3⟩ := HE2.out.callR hp; have l3 := E3.ld 0 rfl; have s3 := E3.sto 1 rfl; have HE3 := Lib.hid E3; clear hp E3))
  exact ((HE3.out.store 1 rfl _).door hd2 (List.mem_cons_of_mem _ List.mem_cons_self) List.mem_cons_self rfl rfl)

set_option maxRecDepth 100000 in
set_option maxHeartbeats 4000000 in
theorem ex_n {d : Nat} {L : Low} (hL : LowC (d + 1) L) (hd : d < 100) {g : Nat} {s : PS} {w : World} (h : At g d s w) (hX : Gx g w) (hk : seesF ⟨#[61]⟩ (condF L s).2 = true) (h8 : (condF L s).1.kind = 8) :
    Calls Tryz.prog 141 #[.pointer (some ⟨g, 0, none⟩)] w (PostN g d w (node 24 [(condF L s).1, (L.ex (needsF ⟨#[61]⟩ (condF L s).2)).1], (L.ex (needsF ⟨#[61]⟩ (condF L s).2)).2)) := by
  have E0 := (Env.start h hX).new zeroN
  have c0 := enter_t E0.at_ hd
  have hd2 : d ≤ 100 := by omega
  have HE0 := Lib.hid E0
  obtain ⟨X, hX2⟩ : ∃ X, condF L s = X := ⟨_, rfl⟩
  rw [hX2] at hk h8 ⊢
  have HX2 := Lib.hid hX2
  have e8 : (X.1.kind != 8) = false := by rw [h8]; rfl
  clear E0 h hX hd hX2 h8
  refine calls_of_wp_doors Tryz.func141 rfl ?_
  simp only [Tryz.ntmps141, List.size_toArray, List.length_cons, List.length_nil, Nat.reduceAdd, Nat.reduceSub, Array.replicate_succ, Array.replicate_zero, List.push_toArray, List.append_toArray, List.nil_append, List.cons_append]
  go_wp2_with (first | (go_at_call 82; (with_reducible refine c0.mono ?_); intro e w1 hp; obtain ⟨rfl, E1⟩ := HE0.out.call hp; have c1 := cond_any hL E1.at_ E1.gx; have HE1 := Lib.hid E1; clear hp E1) | (go_at_call 191; (with_reducible refine c1.mono ?_); intro e w2 hp; rw [HX2.out] at hp; obtain ⟨N2, rfl, E2⟩ := HE1.out.callN hp; have E2 := E2.new N2; have hkd := (E2.rp _ List.mem_cons_self).kind; have c2 := sees_t E2.at_ hk; have HE2 := Lib.hid E2; clear hp E2) | (go_at_call 84; (with_reducible refine c2.mono ?_); intro e w3 hp; obtain ⟨rfl, E3⟩ := HE2.out.callR hp; have l3 := E3.ld 0 rfl; have d3 : w3.cell? ⟨w2.heap.size, 0, none⟩ = some (.int .i64 X.1.kind) := (by have := E3.c0 0 rfl; rw [hkd] at this; exact this); have c3 := needs_any E3.at_ ⟨#[61]⟩; have HE3 := Lib.hid E3; clear hp E3) | (go_at_call 93; (with_reducible refine c3.mono ?_); intro e w4 hp; obtain ⟨rfl, E4⟩ := HE3.out.call hp; have E4 := E4.drew1; have c4 := hL.ex E4.at_ E4.gx; have l4 := E4.ld 0 rfl; have HE4 := Lib.hid E4; clear hp E4))
  go_region_law (first | (go_simp; go_at_call 141; (with_reducible refine c4.mono ?_); intro e w5 hp; obtain ⟨N5, rfl, E5⟩ := HE4.out.callN hp; have l5 := E5.ld 0 rfl; have E9 := E5.kids2 (k := 24) (n := 0) (t := noS) (List.mem_cons_of_mem _ List.mem_cons_self) List.mem_cons_self; have s9 := fun o M => (E9.alloc o).sto 1 rfl M; have HE9 := Lib.hid E9; clear E9; have HE5 := Lib.hid E5; clear hp E5; dsimp only) | (go_simp; go_at_call 22; (with_reducible refine (node_any _ _ _ _ _).mono ?_); rintro e wn ⟨rfl, rfl⟩; dsimp only))
  all_goals go_wp2
  all_goals exact ((((HE9.out.alloc _).store 1 rfl _)).door hd2 (List.mem_cons_of_mem _ List.mem_cons_self) List.mem_cons_self rfl rfl)

set_option maxRecDepth 100000 in
set_option maxHeartbeats 4000000 in
theorem ex_m {d : Nat} {L : Low} (hL : LowC (d + 1) L) (hd : d < 100) {g : Nat} {s : PS} {w : World} (h : At g d s w) (hX : Gx g w) (hk : seesF ⟨#[61]⟩ (condF L s).2 = true) (h8 : (condF L s).1.kind ≠ 8) (hm : memberB (condF L s).1 = true) :
    Calls Tryz.prog 141 #[.pointer (some ⟨g, 0, none⟩)] w (PostN g d w (node 24 [(condF L s).1, (L.ex (needsF ⟨#[61]⟩ (condF L s).2)).1], (L.ex (needsF ⟨#[61]⟩ (condF L s).2)).2)) := by
  have E0 := (Env.start h hX).new zeroN
  have c0 := enter_t E0.at_ hd
  have hd2 : d ≤ 100 := by omega
  have HE0 := Lib.hid E0
  obtain ⟨X, hX2⟩ : ∃ X, condF L s = X := ⟨_, rfl⟩
  rw [hX2] at hk h8 hm ⊢
  have HX2 := Lib.hid hX2
  have e8 : (X.1.kind != 8) = true := by simpa using h8
  have em : (X.1.kind == 15 || X.1.kind == 16) = true := hm
  clear E0 h hX hd hX2 h8 hm
  refine calls_of_wp_doors Tryz.func141 rfl ?_
  simp only [Tryz.ntmps141, List.size_toArray, List.length_cons, List.length_nil, Nat.reduceAdd, Nat.reduceSub, Array.replicate_succ, Array.replicate_zero, List.push_toArray, List.append_toArray, List.nil_append, List.cons_append]
  go_wp2_with (first | (go_at_call 82; (with_reducible refine c0.mono ?_); intro e w1 hp; obtain ⟨rfl, E1⟩ := HE0.out.call hp; have c1 := cond_any hL E1.at_ E1.gx; have HE1 := Lib.hid E1; clear hp E1) | (go_at_call 191; (with_reducible refine c1.mono ?_); intro e w2 hp; rw [HX2.out] at hp; obtain ⟨N2, rfl, E2⟩ := HE1.out.callN hp; have E2 := E2.new N2; have hkd := (E2.rp _ List.mem_cons_self).kind; have c2 := sees_t E2.at_ hk; have HE2 := Lib.hid E2; clear hp E2) | (go_at_call 84; (with_reducible refine c2.mono ?_); intro e w3 hp; obtain ⟨rfl, E3⟩ := HE2.out.callR hp; have l3 := E3.ld 0 rfl; have d3 : w3.cell? ⟨w2.heap.size, 0, none⟩ = some (.int .i64 X.1.kind) := (by have := E3.c0 0 rfl; rw [hkd] at this; exact this); have c3 := isMember_any N2 w3; rw [hkd, em] at c3; have HE3 := Lib.hid E3; clear hp E3) | (go_at_call 192; (with_reducible refine c3.mono ?_); intro e w4 hp; obtain ⟨rfl, hb⟩ := hp; have E4 := HE3.out.callB hb; have c4 := needs_any E4.at_ ⟨#[61]⟩; have HE4 := Lib.hid E4; clear hb E4) | (go_at_call 93; (with_reducible refine c4.mono ?_); intro e w5 hp; obtain ⟨rfl, E5⟩ := HE4.out.call hp; have E5 := E5.drew1; have c5 := hL.ex E5.at_ E5.gx; have l5 := E5.ld 0 rfl; have HE5 := Lib.hid E5; clear hp E5))
  go_region_law (first | (go_simp; go_at_call 141; (with_reducible refine c5.mono ?_); intro e w6 hp; obtain ⟨N6, rfl, E6⟩ := HE5.out.callN hp; have l6 := E6.ld 0 rfl; have E9 := E6.kids2 (k := 24) (n := 0) (t := noS) (List.mem_cons_of_mem _ List.mem_cons_self) List.mem_cons_self; have s9 := fun o M => (E9.alloc o).sto 1 rfl M; have HE9 := Lib.hid E9; clear E9; have HE6 := Lib.hid E6; clear hp E6; dsimp only) | (go_simp; go_at_call 22; (with_reducible refine (node_any _ _ _ _ _).mono ?_); rintro e wn ⟨rfl, rfl⟩; dsimp only))
  all_goals go_wp2
  all_goals exact ((((HE9.out.alloc _).store 1 rfl _)).door hd2 (List.mem_cons_of_mem _ List.mem_cons_self) List.mem_cons_self rfl rfl)

set_option maxRecDepth 100000 in
set_option maxHeartbeats 4000000 in
theorem ex_w {d : Nat} {L : Low} (hL : LowC (d + 1) L) (hd : d < 100) {g : Nat} {s : PS} {w : World} (h : At g d s w) (hX : Gx g w) (hk : seesF ⟨#[61]⟩ (condF L s).2 = true) (h8 : (condF L s).1.kind ≠ 8) (hm : memberB (condF L s).1 = false) :
    Calls Tryz.prog 141 #[.pointer (some ⟨g, 0, none⟩)] w (PostN g d w (node 24 [(condF L s).1, (L.ex (needsF ⟨#[61]⟩ ((condF L s).2.fail 2))).1], (L.ex (needsF ⟨#[61]⟩ ((condF L s).2.fail 2))).2)) := by
  have E0 := (Env.start h hX).new zeroN
  have c0 := enter_t E0.at_ hd
  have hd2 : d ≤ 100 := by omega
  have HE0 := Lib.hid E0
  obtain ⟨X, hX2⟩ : ∃ X, condF L s = X := ⟨_, rfl⟩
  rw [hX2] at hk h8 hm ⊢
  have HX2 := Lib.hid hX2
  have e8 : (X.1.kind != 8) = true := by simpa using h8
  have em : (X.1.kind == 15 || X.1.kind == 16) = false := hm
  clear E0 h hX hd hX2 h8 hm
  refine calls_of_wp_doors Tryz.func141 rfl ?_
  simp only [Tryz.ntmps141, List.size_toArray, List.length_cons, List.length_nil, Nat.reduceAdd, Nat.reduceSub, Array.replicate_succ, Array.replicate_zero, List.push_toArray, List.append_toArray, List.nil_append, List.cons_append]
  go_wp2_with (first | (go_at_call 82; (with_reducible refine c0.mono ?_); intro e w1 hp; obtain ⟨rfl, E1⟩ := HE0.out.call hp; have c1 := cond_any hL E1.at_ E1.gx; have HE1 := Lib.hid E1; clear hp E1) | (go_at_call 191; (with_reducible refine c1.mono ?_); intro e w2 hp; rw [HX2.out] at hp; obtain ⟨N2, rfl, E2⟩ := HE1.out.callN hp; have E2 := E2.new N2; have hkd := (E2.rp _ List.mem_cons_self).kind; have c2 := sees_t E2.at_ hk; have HE2 := Lib.hid E2; clear hp E2) | (go_at_call 84; (with_reducible refine c2.mono ?_); intro e w3 hp; obtain ⟨rfl, E3⟩ := HE2.out.callR hp; have l3 := E3.ld 0 rfl; have d3 : w3.cell? ⟨w2.heap.size, 0, none⟩ = some (.int .i64 X.1.kind) := (by have := E3.c0 0 rfl; rw [hkd] at this; exact this); have c3 := isMember_any N2 w3; rw [hkd, em] at c3; have HE3 := Lib.hid E3; clear hp E3) | (go_at_call 192; (with_reducible refine c3.mono ?_); intro e w4 hp; obtain ⟨rfl, hb⟩ := hp; have E4 := HE3.out.callB hb; have c4 := fail_any E4.at_ (e := 2) (by decide); have HE4 := Lib.hid E4; clear hb E4) | (go_at_call 136; (with_reducible refine c4.mono ?_); intro e w5 hp; obtain ⟨rfl, E5⟩ := HE4.out.call hp; have c5 := needs_any E5.at_ ⟨#[61]⟩; have HE5 := Lib.hid E5; clear hp E5) | (go_at_call 93; (with_reducible refine c5.mono ?_); intro e w6 hp; obtain ⟨rfl, E6⟩ := HE5.out.call hp; have E6 := E6.drew1; have c6 := hL.ex E6.at_ E6.gx; have l6 := E6.ld 0 rfl; have HE6 := Lib.hid E6; clear hp E6))
  go_region_law (first | (go_simp; go_at_call 141; (with_reducible refine c6.mono ?_); intro e w7 hp; obtain ⟨N7, rfl, E7⟩ := HE6.out.callN hp; have l7 := E7.ld 0 rfl; have E9 := E7.kids2 (k := 24) (n := 0) (t := noS) (List.mem_cons_of_mem _ List.mem_cons_self) List.mem_cons_self; have s9 := fun o M => (E9.alloc o).sto 1 rfl M; have HE9 := Lib.hid E9; clear E9; have HE7 := Lib.hid E7; clear hp E7; dsimp only) | (go_simp; go_at_call 22; (with_reducible refine (node_any _ _ _ _ _).mono ?_); rintro e wn ⟨rfl, rfl⟩; dsimp only))
  all_goals go_wp2
  all_goals exact ((((HE9.out.alloc _).store 1 rfl _)).door hd2 (List.mem_cons_of_mem _ List.mem_cons_self) List.mem_cons_self rfl rfl)

theorem ex_any {d : Nat} {L : Low} (hL : LowC (d + 1) L) (hd : d < 100) {g : Nat} {s : PS} {w : World} (h : At g d s w) (hX : Gx g w) : Calls Tryz.prog 141 #[.pointer (some ⟨g, 0, none⟩)] w (PostN g d w (exF L s)) := by
  unfold exF
  simp only
  cases hk : seesF ⟨#[61]⟩ (condF L s).2 with
  | false => rw [if_neg (by decide)]; exact ex_f hL hd h hX hk
  | true =>
    rw [if_pos rfl]
    by_cases h8 : (condF L s).1.kind = 8
    · rw [if_neg (fun h => h.1 h8)]; exact ex_n hL hd h hX hk h8
    · cases hm : memberB (condF L s).1 with
      | true => rw [if_neg (fun h => by cases h.2)]; exact ex_m hL hd h hX hk h8 hm
      | false => rw [if_pos ⟨h8, rfl⟩]; exact ex_w hL hd h hX hk h8 hm

end Go.Proofs.YtkknglmpdmhhjaaGreatDoor.Pa
