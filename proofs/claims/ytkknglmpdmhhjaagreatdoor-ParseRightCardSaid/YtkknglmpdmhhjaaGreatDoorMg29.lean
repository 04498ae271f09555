/-
  conditional, called.
-/
import Derived.Test.YtkknglmpdmhhjaaGreatDoorMg28
import Derived.Deep.RegionLaw
namespace Go.Proofs.YtkknglmpdmhhjaaGreatDoor.Pa
open Go Go.RowKit Go.Proofs.YtkknglmpdmhhjaaGreatDoor.Lx Go.Proofs.YtkknglmpdmhhjaaGreatDoor.Uni
set_option linter.unusedVariables false
set_option linter.unusedSimpArgs false
attribute [local go_sem ↓] ldK stK alK bdK bsK ldN stN alN bdN bsN
attribute [local irreducible] kcs ncs ncells
attribute [local go_sem] run_alK run_bdK0 run_bdKs run_bdKn run_bdKe run_bsK run_fdK0 run_fdK1 run_fdK2 run_fdK3 run_fdN4 run_alN run_stNg run_ldNg run_bdN0 run_bdN04 run_bdN02 run_bdN01 run_bdN024 run_bdN03 run_bdN0234 run_bsN1 run_bsN2 run_bsN3

section
variable {g d : Nat} {s : PS} {S0 : Nat → Prop} {w0 W : World} {bs : List (Nat × Nd)} {vs : List (Tree × Nd)}
theorem Env.only (E : Env g d s S0 w0 W bs vs) {T : Tree} {N : Nd} (h : (T, N) ∈ vs) : Env g d s S0 w0 W bs [(T, N)] :=
  ⟨E.at_, E.gx, E.gb, E.gl, E.s0, E.bl, E.nd, fun v hv => by rw [List.mem_singleton.1 hv]; exact E.rp _ h⟩
/-- A list that was there ahead of the call, and append of the call's. -/
theorem src_facts (E : Env g d s S0 w0 W bs vs) {ts : List Tree} {xs : List Nd} {v : Value} (G : GrowX (Own S0 w0.heap.size (bs.map Prod.fst)) w0.heap.size W ts xs v) {d' : Nat} {R : List Tree × PS} {e : Ending} {w2 : World} (hp : PostL g d' W R e w2) (hn : ts.length ≤ 200000) :
    ∃ (S2 : Sl) (a : Option Addr) (n c : Nat) (w6 : World) (xs' : List Nd), e = .returned (.slice S2.a S2.n S2.c) ∧ Env g d' R.2 S0 w0 w2 bs vs ∧ (Builtin.append_ #[25, 25] 25 #[v, .slice S2.a S2.n S2.c]).run Tryz.prog w2 = .ok (.slice a n c) w6 ∧ Env g d' R.2 S0 w0 w6 bs [] ∧ GrowX (Own S0 w0.heap.size (bs.map Prod.fst)) w0.heap.size w6 (ts ++ R.1) xs' (.slice a n c) := by
  have hlt : ∀ b, v.ownBlock = some b → b < W.heap.size := fun b hb => (G.own.lt b hb).2
  obtain ⟨v2, xs2, he, hgr, hl, ha, hg⟩ := hp
  have E2 := E.frame ha hg
  have G2 := G.gb E hg
  obtain ⟨S2, hv2, hrow, hrp⟩ := hgr.row
  subst hv2
  obtain ⟨a, n, c, w6, h1, h2, h3⟩ := grow_src G2 hrow.1 (Reps.keep (fun b hb hS => ⟨⟨E.lift hS, fun e => by have := hlt b e.symm; have hS' : W.heap.size ≤ b := hS; omega⟩, rfl⟩) _ _ hrp) (fun b hb => E2.lift hb) E2.size hn (by omega)
  exact ⟨S2, a, n, c, w6, _, he, E2, h1, E2.grown G2 h3, h2⟩
/-- A list of one that is made behind the call. -/
theorem src_facts2 (E : Env g d s S0 w0 W bs vs) {F : Tree} {M : Nd} (hF : (F, M) ∈ vs) {d' : Nat} {R : List Tree × PS} {e : Ending} {w2 : World} (hp : PostL g d' W R e w2) :
    ∃ (S2 : Sl) (a : Option Addr) (n c : Nat) (w6 : World) (xs' : List Nd), e = .returned (.slice S2.a S2.n S2.c) ∧ Env g d' R.2 S0 w0 w2 bs vs ∧ (Builtin.append_ #[25, 25] 25 #[.slice (some ⟨w2.heap.size, 0, none⟩) 1 1, .slice S2.a S2.n S2.c]).run Tryz.prog (w2.alloc (.cells (ncells [M]).toArray 27)) = .ok (.slice a n c) w6 ∧ Env g d' R.2 S0 w0 w6 bs [] ∧ GrowX (Own S0 w0.heap.size (bs.map Prod.fst)) w0.heap.size w6 ([F] ++ R.1) xs' (.slice a n c) := by
  obtain ⟨v2, xs2, he, hgr, hl, ha, hg⟩ := hp
  have E2 := E.frame ha hg
  have G2 := GrowX.new (m := 1) (ts := [F]) (xs := [M]) (by unfold Reps; exact ⟨E2.rp _ hF, by unfold Reps; trivial⟩) E2.own_new E2.size rfl (by omega)
  have E3 := E2.alloc (.cells (ncells [M]).toArray 27)
  obtain ⟨S2, hv2, hrow, hrp⟩ := hgr.row
  subst hv2
  obtain ⟨a, n, c, w6, h1, h2, h3⟩ := grow_src G2 (hrow.1.alloc _) (Reps.keep (w := w2) (fun b hb hS => ⟨⟨E.lift hS, fun e => by simp [Value.ownBlock] at e; omega⟩, heap_alloc_old _ _ hb⟩) _ _ hrp) (fun b hb => E3.lift hb) E3.size (by simp) (by omega)
  exact ⟨S2, a, n, c, w6, _, he, E2, h1, E3.grown G2 h3, h2⟩
end

set_option maxRecDepth 100000 in
set_option maxHeartbeats 4000000 in
theorem cond_f {d : Nat} {L : Low} (hL : LowC d L) {g : Nat} {s : PS} {w : World} (h : At g d s w) (hX : Gx g w) (hb : ∀ {g : Nat} {s : PS} {w : World}, At g d s w → Gx g w → Calls Tryz.prog 215 #[.pointer (some ⟨g, 0, none⟩), .int .i64 0] w (PostN g d w (binF L 6 s))) (hk : seesF ⟨#[63]⟩ (binF L 6 s).2 = false) :
    Calls Tryz.prog 191 #[.pointer (some ⟨g, 0, none⟩)] w (PostN g d w (binF L 6 s)) := by
  have E0 := (Env.start h hX).new zeroN
  have c0 := hb E0.at_ E0.gx
  have HE0 := Lib.hid E0
  clear E0 h hX hb
  go_enter Tryz.func191, Tryz.ntmps191
  go_wp2_with (first | (go_at_call 215; (with_reducible refine c0.mono ?_); intro e w1 hp; obtain ⟨N1, rfl, E1⟩ := HE0.out.callN hp; have E1 := E1.new N1; have c1 := takes_f E1.at_ hk; have HE1 := Lib.hid E1; clear hp E1) | (go_at_call 86; (with_reducible refine c1.mono ?_); intro e w2 hp; obtain ⟨rfl, E2⟩ := HE1.out.call hp; have l2 := E2.ld 0 rfl; have s2 := E2.sto 1 rfl; have HE2 := Lib.hid E2; clear hp E2))
  exact ((HE2.out.store 1 rfl _).fin (List.mem_cons_of_mem _ List.mem_cons_self) List.mem_cons_self rfl rfl)

set_option maxRecDepth 100000 in
set_option maxHeartbeats 4000000 in
theorem cond_t {d : Nat} {L : Low} (hL : LowC d L) {g : Nat} {s : PS} {w : World} (h : At g d s w) (hX : Gx g w) (hb : ∀ {g : Nat} {s : PS} {w : World}, At g d s w → Gx g w → Calls Tryz.prog 215 #[.pointer (some ⟨g, 0, none⟩), .int .i64 0] w (PostN g d w (binF L 6 s))) (hk : seesF ⟨#[63]⟩ (binF L 6 s).2 = true) :
    Calls Tryz.prog 191 #[.pointer (some ⟨g, 0, none⟩)] w (PostN g d w (node 23 [(binF L 6 s).1, (L.ex (binF L 6 s).2.take).1, (L.ex (needsF ⟨#[58]⟩ (L.ex (binF L 6 s).2.take).2)).1], (L.ex (needsF ⟨#[58]⟩ (L.ex (binF L 6 s).2.take).2)).2)) := by
  have E0 := (Env.start h hX).new zeroN
  have c0 := hb E0.at_ E0.gx
  have HE0 := Lib.hid E0
  clear E0 h hX hb
  go_enter Tryz.func191, Tryz.ntmps191
  go_wp2_with (first | (go_at_call 215; (with_reducible refine c0.mono ?_); intro e w1 hp; obtain ⟨N1, rfl, E1⟩ := HE0.out.callN hp; have E1 := E1.new N1; have c1 := takes_t E1.at_ hk; have HE1 := Lib.hid E1; clear hp E1) | (go_at_call 86; (with_reducible refine c1.mono ?_); intro e w2 hp; obtain ⟨rfl, E2⟩ := HE1.out.call hp; have c2 := hL.ex E2.at_ E2.gx; have HE2 := Lib.hid E2; clear hp E2) | (go_at_call 141; (with_reducible refine c2.mono ?_); intro e w3 hp; obtain ⟨N3, rfl, E3⟩ := HE2.out.callN hp; have E3 := E3.new N3; have c3 := needs_any E3.at_ ⟨#[58]⟩; have HE3 := Lib.hid E3; clear hp E3) | (go_at_call 93; (with_reducible refine c3.mono ?_); intro e w4 hp; obtain ⟨rfl, E4⟩ := HE3.out.call hp; have E4 := E4.drew1; have c4 := hL.ex E4.at_ E4.gx; have l40 := E4.ld 0 rfl; have l41 := E4.ld 1 rfl; have HE4 := Lib.hid E4; clear hp E4))
  go_region_with (first | (go_at_call 141; (with_reducible refine c4.mono ?_); intro e w5 hp; obtain ⟨N5, rfl, E5⟩ := HE4.out.callN hp; have l50 := E5.ld 0 rfl; have l51 := E5.ld 1 rfl; have E6 := E5.kids3 (k := 23) (n := 0) (t := noS) (List.mem_cons_of_mem _ (List.mem_cons_of_mem _ List.mem_cons_self)) (List.mem_cons_of_mem _ List.mem_cons_self) List.mem_cons_self; have s6 := fun o M => (E6.alloc o).sto 2 rfl M; have HE6 := Lib.hid E6; clear E6; have HE5 := Lib.hid E5; clear hp E5) | (go_at_call 22; (with_reducible refine (node_any _ _ _ _ _).mono ?_); rintro e wn ⟨rfl, rfl⟩))
  all_goals go_wp2
  all_goals exact (((HE6.out.alloc _).store 2 rfl _).fin (List.mem_cons_of_mem _ (List.mem_cons_of_mem _ List.mem_cons_self)) List.mem_cons_self rfl rfl)

set_option maxRecDepth 100000 in
set_option maxHeartbeats 4000000 in
theorem called_any {d : Nat} {L : Low} (hL : LowC d L) {g : Nat} {s : PS} {w : World} (h : At g d s w) (hX : Gx g w) (k : Int) {S : Nat → Prop} (hS : ∀ b, S b → b ≠ g) {F : Tree} {M : Nd} (hF : Rep S w F M) :
    Calls Tryz.prog 258 #[.pointer (some ⟨g, 0, none⟩), .int .i64 k, .agg (ncs M)] w (PostS S g d w (calledF L k F s)) := by
  have E0 := (((Env.startS h hX hS).arg hF).new M).newAt zeroN (b := w.heap.size + 1) (by simp)
  have c0 := needs_any E0.at_ ⟨#[40]⟩
  have hmf := mkFn
  have hel := fun {g : Nat} {s : PS} {w : World} (h : At g d s w) (hX : Gx g w) => hL.ex h hX
  have HE0 := Lib.hid E0
  clear E0 h hX hS hF
  go_enter Tryz.func258, Tryz.ntmps258
  go_wp2_with ((go_at_call 93; (with_reducible refine c0.mono ?_); intro e w1 hp; obtain ⟨rfl, E1⟩ := HE0.out.call hp; have HG1 := Lib.hid (GrowX.drew (GrowX.new (m := 1) (ts := [F]) (xs := [M]) (by unfold Reps; exact ⟨E1.rp _ List.mem_cons_self, by unfold Reps; trivial⟩) E1.own_new E1.size rfl (by omega))); have E1a := (E1.kids1 List.mem_cons_self k 0 noS).drew1; have E1 := E1.drew1; have l1 := E1.ld 1 rfl; have c2 := list_any (F := 141) (fun _ _ => by kernel_rfl) hel hL.ad.ex ⟨#[41]⟩ E1.at_ E1.gx; have c2a := list_any (F := 141) (fun _ _ => by kernel_rfl) hel hL.ad.ex ⟨#[41]⟩ E1a.at_ E1a.gx; have HE1a := Lib.hid E1a; clear E1a; have HE1 := Lib.hid E1; clear hp E1))
  go_region_law (first | (go_simp; go_at_call 269; first | ((with_reducible refine c2a.mono ?_); intro e w2 hp; obtain ⟨S2, a6, n6, cc6, w6, xs6, rfl, E2, hrun, E6, G6⟩ := src_facts HE1a.out HG1.out hp (by simp); have E7 := E6.ofGrow G6 k 0 noS; have s7 := fun o M => (E7.alloc o).sto 0 rfl M; have HE7 := Lib.hid E7; clear hp E2 E6 G6 E7; dsimp only) | ((with_reducible refine c2.mono ?_); intro e w2 hp; obtain ⟨S2, a6, n6, cc6, w6, xs6, rfl, E2, hrun, E6, G6⟩ := src_facts2 HE1.out List.mem_cons_self hp; have E7 := E6.ofGrow G6 k 0 noS; have l2 := E2.ld 1 rfl; have s7 := fun o M => (E7.alloc o).sto 0 rfl M; have HE7 := Lib.hid E7; clear hp E2 E6 G6 E7; dsimp only)) | (go_simp; go_at_call 22; (with_reducible refine (node_any _ _ _ _ _).mono ?_); rintro e wn ⟨rfl, rfl⟩; dsimp only) | (refine step_app rfl (.tmp 11) (.tmp 15) 25 rfl rfl _ _ _ (by simp [Act.eval, Act.put]) (by simp [Act.eval, Act.put]) hrun ?_))
  all_goals go_wp2
  all_goals exact (((HE7.out.alloc _).store 0 rfl _).fin List.mem_cons_self List.mem_cons_self rfl rfl)

end Go.Proofs.YtkknglmpdmhhjaaGreatDoor.Pa
